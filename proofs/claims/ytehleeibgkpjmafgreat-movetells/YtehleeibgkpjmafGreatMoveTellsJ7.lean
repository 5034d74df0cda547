/- Texts joined: PkH, PkV, FitP, MendI, PkW, Strs, FlPlain, WrR, WrA, TakI, TakJ. -/
import Derived.Test.YtehleeibgkpjmafGreatMoveTellsJ6
import Derived.Test.YtehleeibgkpjmafGreatMoveTellsJ1
import Derived.Test.YtehleeibgkpjmafGreatMoveTellsJ3
import Derived.Test.YtehleeibgkpjmafGreatMoveTellsJ4
import Derived.Deep.RegionHeld3
import Derived.Deep.RegionLaw
import Derived.Deep.CutRange
set_option linter.unusedVariables false
set_option linter.unusedSimpArgs false
namespace Go.Proofs.YtehleeibgkpjmafGreat
open Go.RowKit Go.Shelf
set_option maxRecDepth 20000
set_option linter.unusedVariables false
set_option linter.unusedSimpArgs false
theorem infoSl:(Tryz.prog.info? 61).map (fun i=>(i.zero,i.size,i.bytes))=some (some (.agg #[.int .i64 0,.string ⟨#[]⟩,.slice none 0 0]),3,48):=by kernel_rfl
theorem mk_slots (n1:Nat)(hn:n1≤40)(W:World):(Instr.makeSlice 24 (.int .i64 (n1:Int)) (.int .i64 (n1:Int))).run Tryz.prog W=.ok (.slice (some ⟨W.heap.size,0,none⟩) n1 n1) (W.alloc (.cells (flatS (List.replicate n1 slotZ) (fun _=>nilV)).toArray 61)):=by
 have hi:=infoSl
 cases h:Tryz.prog.info? 61 with
 | none=>rw [h] at hi;cases hi
 | some i=>
  rw [h] at hi
  simp at hi
  have:=run_make (P:=Tryz.prog) W 24 61 i (.agg #[.int .i64 0,.string ⟨#[]⟩,.slice none 0 0]) Tryz.underlying24 h hi.1 .i64 .i64 n1 n1 (by omega) (by omega) (by rw [hi.2.2];omega) (by omega)
  rw [this,hi.2.1]
  have e:madeCells (Value.agg #[.int .i64 0,.string ⟨#[]⟩,.slice none 0 0]).cells (((n1:Int)).toNat*3)=(flatS (List.replicate n1 slotZ) (fun _=>nilV)).toArray:=by
   apply Array.toList_inj.1
   rw [Int.toNat_natCast]
   refine ext3P (n:=n1) (by simp [madeCells]) (by rw [List.toList_toArray,flatS_length,List.length_replicate]) fun q hq=>?_
   obtain⟨a,b,c⟩:=flatS_get (L:=List.replicate n1 slotZ) (tv:=fun _=>nilV) (j:=q) (by rw [List.length_replicate];exact hq)
   have hz:(List.replicate n1 slotZ).getD q default=slotZ:=by rw [List.getD_eq_getElem?_getD,List.getElem?_replicate,if_pos hq];rfl
   rw [hz] at a b
   rw [List.toList_toArray,a,b,c]
   have m0:q*3 % 3=0:=by omega
   have m1:(q*3+1) % 3=1:=by omega
   have m2:(q*3+2) % 3=2:=by omega
   refine⟨?_,?_,?_⟩
   ·simp [madeCells,Value.cells,m0,slotZ,show q*3<n1*3 by omega]
   ·simp [madeCells,Value.cells,m1,slotZ,show q*3+1<n1*3 by omega]
   ·simp [madeCells,Value.cells,m2,slotZ,show q*3+2<n1*3 by omega]
  rw [e]
  simp
theorem row_blkP {W W':World}{B n size:Nat}{e:TypeId}{v:Value}{xs:List Value}(h:W.ownsRow B e size v n xs)(hb:∀g,v.ownBlock=some g→W'.heap[g]? = W.heap[g]?):W'.ownsRow B e size v n xs:=by
 refine⟨h.1,?_⟩
 rcases h.2 with hn | ⟨g,cap,cur,hv,hb',hg,rest⟩
 ·exact .inl hn
 ·exact .inr ⟨g,cap,cur,hv,hb',(hb g (by rw [hv];rfl)).trans hg,rest⟩
theorem three6 {W:World}{B:Nat}{a b c:Value}{t:TypeId}(h:W.heap[B]? = some (.cells #[a,b,c] t)):W.cell? ⟨B,0,none⟩=some a∧W.cell? ⟨B,1,none⟩=some b∧W.cell? ⟨B,2,none⟩=some c:=by
 refine⟨?_,?_,?_⟩ <;> simp [World.cell?,h]
theorem heap_three6 {W:World}{D q o1 o2 o3:Nat}(a0 a1 a2:Value)(hq:q≠D):(((W.setCell ⟨D,o1,none⟩ a0).setCell ⟨D,o2,none⟩ a1).setCell ⟨D,o3,none⟩ a2).heap[q]? = W.heap[q]?:=
 (Below.heap_setCell _ ⟨D,o3,none⟩ a2 q hq).trans ((Below.heap_setCell _ ⟨D,o2,none⟩ a1 q hq).trans (Below.heap_setCell _ ⟨D,o1,none⟩ a0 q hq))
structure GaR (W wr:World) (lb rb n1:Nat) (m:ImgD) (val:Nm→Value) (k:Nat):Prop where
 bel:Below W.heap.size W wr
 l:wr.ownsRow W.heap.size 61 3 (.slice (some ⟨lb,0,none⟩) n1 n1) n1 (flatS (gS m.slots k) (gT m.slots val k))
 r:wr.ownsRow W.heap.size 3 1 (.slice (some ⟨rb,0,none⟩) n1 n1) n1 (ints (gR m.slots m.refs k))
 ne:lb≠rb
theorem GaR.below {W wr wx:World}{lb rb n1 k:Nat}{m:ImgD}{val:Nm→Value}(h:GaR W wr lb rb n1 m val k)(hb:Below wr.heap.size wr wx):GaR W wx lb rb n1 m val k:=
 ⟨Below.on h.bel hb,row_blkP h.l (fun q e=>hb.block q (h.l.lt q e).2),row_blkP h.r (fun q e=>hb.block q (h.r.lt q e).2),h.ne⟩
theorem GaR.drew {W wr:World}{lb rb n1 k:Nat}{m:ImgD}{val:Nm→Value}(h:GaR W wr lb rb n1 m val k):GaR W wr.drew lb rb n1 m val k:=⟨h.bel.drew,h.l.drew,h.r.drew,h.ne⟩
theorem GaR.begin {W wx:World}{lb rb n1:Nat}{m:ImgD}{val:Nm→Value}(hn:(keptI m.slots).length=n1∧n1≤40)(hb:Below W.heap.size W wx)(h1:W.heap.size≤lb)(h2:W.heap.size≤rb)(hne:lb≠rb)(hl:wx.heap[lb]? = some (.cells (flatS (List.replicate n1 slotZ) (fun _=>nilV)).toArray 61))(hr:wx.heap[rb]? = some (.cells (Array.replicate n1 (.int .i64 0)) 3)):GaR W wx lb rb n1 m val 0:=by
 have hx:(40:Nat)≤maxLen:=by decide
 have e1:gS m.slots 0=List.replicate n1 slotZ:=by unfold gS;rw [rnk_0,Nat.sub_zero,hn.1];rfl
 have e2:gR m.slots m.refs 0=List.replicate n1 0:=by unfold gR;rw [rnk_0,Nat.sub_zero,hn.1];rfl
 have e3:gT m.slots val 0=fun _=>nilV:=by funext i;unfold gT;rw [rnk_0,if_neg (Nat.not_lt_zero _)]
 refine⟨hb,?_,?_,hne⟩
 ·rw [e1,e3]
  exact⟨by rw [flatS_length,List.length_replicate],.inr ⟨lb,n1,_,rfl,h1,hl,Nat.le_refl _,Nat.le_trans hn.2 hx,by rw [List.size_toArray,flatS_length,List.length_replicate],by rw [List.toList_toArray,List.take_of_length_le (by rw [flatS_length,List.length_replicate];omega)]⟩⟩
 ·rw [e2]
  exact⟨by simp [ints],.inr ⟨rb,n1,_,rfl,h2,hr,Nat.le_refl _,Nat.le_trans hn.2 hx,by simp,by simp [ints,List.take_of_length_le]⟩⟩
theorem some_cell {W:World}{B n1 lb i:Nat}{e:TypeId}{size:Nat}{xs:List Value}(h:W.ownsRow B e size (.slice (some ⟨lb,0,none⟩) n1 n1) n1 xs)(hi:i<n1*size):∃u,W.cell? ⟨lb,i,none⟩=some u:=by
 have:=h.cellAt i hi
 rw [this]
 exact⟨_,List.getElem?_eq_getElem (by rw [h.1];exact hi)⟩
theorem GaR.cells3 {W wr:World}{lb rb n1 k rk:Nat}{m:ImgD}{val:Nm→Value}(h:GaR W wr lb rb n1 m val k)(hr:rk<n1):(∃u,wr.cell? ⟨lb,rk*3,none⟩=some u)∧(∃u,wr.cell? ⟨lb,rk*3+1,none⟩=some u)∧(∃u,wr.cell? ⟨lb,rk*3+1+1,none⟩=some u)∧wr.frozen? ⟨lb,rk*3,none⟩=false∧wr.frozen? ⟨lb,rk*3+1,none⟩=false∧wr.frozen? ⟨lb,rk*3+1+1,none⟩=false:=
 ⟨some_cell h.l (by omega),some_cell h.l (by omega),some_cell h.l (by omega),h.l.frozenAt _,h.l.frozenAt _,h.l.frozenAt _⟩
theorem GaR.put {W wr:World}{lb rb n1 k rk tn tc:Nat}{ta:Option Addr}{m:ImgD}{val:Nm→Value}{kk:Int}{dd:ByteArray}(h:GaR W wr lb rb n1 m val k)(hk:k<m.slots.length)(hp:kept m.slots k=true)(hr:rnk m.slots k=rk)(hs:∃es,m.slots.getD k default=(kk,dd,es))(hv:val (.tab k)=.slice ta tn tc) :
  (((wr.setCell ⟨lb,rk*3,none⟩ (.int .i64 kk)).setCell ⟨lb,rk*3+1,none⟩ (.string dd)).setCell ⟨lb,rk*3+2,none⟩ (.slice ta tn tc)).ownsRow W.heap.size 61 3 (.slice (some ⟨lb,0,none⟩) n1 n1) n1 (flatS (gS m.slots (k+1)) (gT m.slots val (k+1)))∧Below W.heap.size W (((wr.setCell ⟨lb,rk*3,none⟩ (.int .i64 kk)).setCell ⟨lb,rk*3+1,none⟩ (.string dd)).setCell ⟨lb,rk*3+2,none⟩ (.slice ta tn tc)):=by
 obtain⟨es,hs⟩:=hs
 have hlb:=(row_lt h.l).1
 refine⟨?_,((h.bel.setCell (p:=⟨lb,rk*3,none⟩) hlb _).setCell (p:=⟨lb,rk*3+1,none⟩) hlb _).setCell (p:=⟨lb,rk*3+2,none⟩) hlb _⟩
 have h6:=(((h.l.stored (rk*3) (.int .i64 kk)).1.stored (rk*3+1) (.string dd)).1.stored (rk*3+2) (.slice ta tn tc)).1
 obtain⟨g1,g2⟩:=gT_succ (val:=val) hk hp
 rw [hr] at g1 g2
 rw [gS_succ hk hp,hs,hr,flatS_set (tv:=gT m.slots val k) kk dd es g1,g2,hv]
 exact h6
theorem GaR.last {W Y:World}{lb rb n1 k rk:Nat}{m:ImgD}{val:Nm→Value}{fk:Int}(hl:Y.ownsRow W.heap.size 61 3 (.slice (some ⟨lb,0,none⟩) n1 n1) n1 (flatS (gS m.slots (k+1)) (gT m.slots val (k+1))))(hb:Below W.heap.size W Y)(hr:Y.ownsRow W.heap.size 3 1 (.slice (some ⟨rb,0,none⟩) n1 n1) n1 (ints (gR m.slots m.refs k)))(hne:lb≠rb)(hk:k<m.slots.length)(hp:kept m.slots k=true)(hrk:rnk m.slots k=rk)(hf:m.refs.getD k 0=fk) :
  GaR W (Y.setCell ⟨rb,rk,none⟩ (.int .i64 fk)) lb rb n1 m val (k+1):=by
 have hrb:=(row_lt hr).1
 refine⟨hb.setCell (p:=⟨rb,rk,none⟩) hrb _,row_blkP hl (fun q e=>Below.heap_setCell Y ⟨rb,rk,none⟩ _ q (fun x=>hne (by have e':some lb=some q:=e;have:=Option.some.inj e';have x:q=rb:=x;omega))),?_,hne⟩
 rw [gR_succ hk hp,hrk,hf,ints_set]
 exact (hr.stored rk _).1
set_option maxHeartbeats 16000000 in
theorem gather_is {W:World}{B D r:Nat}{val:Nm→Value}{m:ImgD}(hK:DK W B D val m)(hB:B≤W.heap.size)(hM:W.heap[r]? = some (.map ((entK m.slots ((List.range m.slots.length).filter (kept m.slots))).toArray) (rnk m.slots m.slots.length)))(hs:shapeE m=0) :
  Calls Tryz.prog 42 #[.pointer (some ⟨D,0,none⟩),.map (some r)] W fun q W'=>q=.returned (.tuple #[])∧∃val',DTo W W' B D m val nilV (gathD m) val':=by
 obtain⟨l1,l40⟩:=slotsE_parts (shapeE_zero hs).2.1
 have hrl:=(shapeE_zero hs).2.2.1
 obtain⟨ra,rc,e0,_⟩:=hK.own.forms .root (Live.root m)
 obtain⟨sa,sc,e1,hsa⟩:=hK.own.forms .slots (Live.slots m)
 obtain⟨fa,fc,e2,hfa⟩:=hK.own.forms .refs (Live.refs m)
 obtain⟨na,nc,e3,_⟩:=hK.own.forms .snaps (Live.snaps m)
 obtain⟨sb,rfl⟩:=hsa (by show 0<m.slots.length;omega)
 obtain⟨fb,rfl⟩:=hfa (by show 0<m.refs.length;omega)
 have e0:val .root=.slice ra m.root.length rc:=e0
 have e1:val .slots=.slice (some ⟨sb,0,none⟩) m.slots.length sc:=e1
 have e2:val .refs=.slice (some ⟨fb,0,none⟩) m.refs.length fc:=e2
 have e3:val .snaps=.slice na m.snaps.length nc:=e3
 have hbox:=hK.box
 rw [e0,e1,e2,e3] at hbox
 obtain⟨n1,hn1⟩:∃n,(keptI m.slots).length=n:=⟨_,rfl⟩
 have hn40:n1≤40:=by have:=keptI_le m.slots;omega
 have HN1:Hid ((keptI m.slots).length=n1∧n1≤40):=⟨hn1,hn40⟩
 have HMp:Hid (W.heap[r]? = some (.map ((entK m.slots ((List.range m.slots.length).filter (kept m.slots))).toArray) (rnk m.slots m.slots.length))):=hM
 have HLen:Hid (∀ty (X:World),X.heap[r]? = some (.map ((entK m.slots ((List.range m.slots.length).filter (kept m.slots))).toArray) (rnk m.slots m.slots.length))→(Builtin.len_ #[67] ty #[.map (some r)]).run Tryz.prog X=.ok (.int .i64 (n1:Int)) X):=fun ty X hX=>by
  have:=run_len_map (P:=Tryz.prog) (w:=X) 67 ty r ((entK m.slots ((List.range m.slots.length).filter (kept m.slots))).toArray) (rnk m.slots m.slots.length) (by kernel_rfl) hX
  rw [this];unfold goInt;rw [entK_size,rnk_all,hn1]
 have hmS:∀X:World,(Instr.makeSlice 24 (.int .i64 (n1:Int)) (.int .i64 (n1:Int))).run Tryz.prog X=.ok (.slice (some ⟨X.heap.size,0,none⟩) n1 n1) (X.alloc (.cells (flatS (List.replicate n1 slotZ) (fun _=>nilV)).toArray 61)):=fun X=>mk_slots n1 hn40 X
 have hmR:∀X:World,(Instr.makeSlice 23 (.int .i64 (n1:Int)) (.int .i64 (n1:Int))).run Tryz.prog X=.ok (.slice (some ⟨X.heap.size,0,none⟩) n1 n1) (X.alloc (.cells (Array.replicate n1 (.int .i64 0)) 3)):=fun X=>by have:=mk_ints n1 hn40 X;simpa using this
 have HK:Hid (DK W B D val m∧B≤W.heap.size∧val .slots=.slice (some ⟨sb,0,none⟩) m.slots.length sc∧val .refs=.slice (some ⟨fb,0,none⟩) m.refs.length fc):=⟨hK,hB,e1,e2⟩
 have hDl:=hK.lt
 have hsrow:W.ownsRow B 61 3 (val .slots) m.slots.length (flatS m.slots (fun j=>val (.tab j))):=hK.own.row .slots (Live.slots m)
 have hfrow:W.ownsRow B 3 1 (val .refs) m.refs.length (ints m.refs):=hK.own.row .refs (Live.refs m)
 rw [e1] at hsrow
 rw [e2] at hfrow
 have hsbl:=(row_lt hsrow).2.1
 have hfbl:=(row_lt hfrow).2.1
 have HRw:Hid (W.ownsRow B 61 3 (.slice (some ⟨sb,0,none⟩) m.slots.length sc) m.slots.length (flatS m.slots (fun j=>val (.tab j)))∧W.ownsRow B 3 1 (.slice (some ⟨fb,0,none⟩) m.refs.length fc) m.refs.length (ints m.refs)):=⟨hsrow,hfrow⟩
 have HRl:Hid (m.refs.length=m.slots.length):=hrl
 clear hK hB hM hs e0 e1 e2 e3 hn1 hsrow hfrow hrl hsa hfa
 go_enter Tryz.func42,Tryz.ntmps42
 go_upto_region 0 with fail
 go_cut [4,5] from 10 (fun a b wx=>∃lb rb,a=.slice (some ⟨lb,0,none⟩) n1 n1∧b=.slice (some ⟨rb,0,none⟩) n1 n1∧Hid (GaR W wx lb rb n1 m val 0))
 case first=>
  refine wp_region_held_drew (S:=(fun X:World=>X.heap[r]? = some (.map ((entK m.slots ((List.range m.slots.length).filter (kept m.slots))).toArray) (rnk m.slots m.slots.length)))) (by kernel_rfl) HMp.out (fun hHeld=>?_)
  refine tkH 0 (.map (some r)) rfl (Or.inl ⟨by rfl,fun w' hSw=>by go_simp⟩) hHeld ?_
  simp only [lays]
  refine tkH 1 (.int .i64 (n1:Int)) rfl (Or.inl ⟨by rfl,fun w' hSw=>by have hq:=fun ty=>HLen.out ty _ hSw;go_simp⟩) hHeld ?_
  simp only [lays]
  refine tkH 3 (.map (some r)) rfl (Or.inl ⟨by rfl,fun w' hSw=>by go_simp⟩) hHeld ?_
  simp only [lays]
  refine tkH 4 (.int .i64 (n1:Int)) rfl (Or.inl ⟨by rfl,fun w' hSw=>by have hq:=fun ty=>HLen.out ty _ hSw;go_simp⟩) hHeld ?_
  simp only [lays]
  refine wpAnyH_ready (rs:=[2,5]) (by kernel_rfl) (by simp) ?_
  refine AllReadyH.cons rfl (fun K hK=>?_) (AllReadyH.cons rfl (fun K hK=>?_) AllReadyH.nil)
  ·clear hHeld
   simp only [lays]
   rw [if_pos (by rfl)]
   go_simp
   obtain⟨X1,hX1⟩:∃X,X=(W.alloc (.cells (flatS (List.replicate n1 slotZ) (fun _=>nilV)).toArray 61)).drew:=⟨_,rfl⟩
   have b1:Below W.heap.size W X1:=by rw [hX1];exact ((Below.refl _ _).alloc (Nat.le_refl _) _).drew
   have hz1:W.heap.size+1≤X1.heap.size:=by rw [hX1];show _≤(W.alloc (.cells (flatS (List.replicate n1 slotZ) (fun _=>nilV)).toArray 61)).heap.size;simp
   have k1:X1.heap[W.heap.size]? = some (.cells (flatS (List.replicate n1 slotZ) (fun _=>nilV)).toArray 61):=by rw [hX1];exact World.alloc_heap_new _ _
   have hS1:X1.heap[r]? = some (.map ((entK m.slots ((List.range m.slots.length).filter (kept m.slots))).toArray) (rnk m.slots m.slots.length)):=(b1.block r (Array.getElem?_eq_some_iff.1 HMp.out).1).trans HMp.out
   rw [←hX1]
   clear hX1
   refine hK.out _ _ hS1 (fun hHeld=>?_)
   clear hK K
   try simp only [lays]
   refine tkH 6 (.slice (some ⟨W.heap.size,0,none⟩) n1 n1) rfl (Or.inl ⟨by rfl,fun w' hSw=>by go_simp⟩) hHeld ?_
   simp only [lays]
   refine wpAnyH_ready (rs:=[5]) (by kernel_rfl) (by simp) ?_
   refine AllReadyH.cons rfl (fun K hK=>?_) AllReadyH.nil
   clear hHeld
   simp only [lays]
   rw [if_pos (by rfl)]
   go_simp
   obtain⟨X2,hX2⟩:∃X,X=(X1.alloc (.cells (Array.replicate n1 (.int .i64 0)) 3)):=⟨_,rfl⟩
   have b2:Below W.heap.size W X2:=by rw [hX2];exact b1.alloc (by omega) _
   have k1:X2.heap[W.heap.size]? = some (.cells (flatS (List.replicate n1 slotZ) (fun _=>nilV)).toArray 61):=by rw [hX2];exact (Below.heap_alloc X1 _ _ (by omega)).trans k1
   have k2:X2.heap[X1.heap.size]? = some (.cells (Array.replicate n1 (.int .i64 0)) 3):=by rw [hX2];exact World.alloc_heap_new _ _
   have hS2:X2.heap[r]? = some (.map ((entK m.slots ((List.range m.slots.length).filter (kept m.slots))).toArray) (rnk m.slots m.slots.length)):=(b2.block r (Array.getElem?_eq_some_iff.1 HMp.out).1).trans HMp.out
   rw [←hX2]
   clear hX2
   refine hK.out _ _ hS2 (fun hHeld=>?_)
   clear hK K
   try simp only [lays]
   refine tkH 7 (.slice (some ⟨X1.heap.size,0,none⟩) n1 n1) rfl (Or.inl ⟨by rfl,fun w' hSw=>by go_simp⟩) hHeld ?_
   simp only [lays]
   clear hHeld
   refine wpAnyH_done (by kernel_rfl) ?_ _
   go_wp2_with fail
   go_meet
   exact⟨W.heap.size,X1.heap.size,rfl,rfl,GaR.begin (lb:=W.heap.size) (rb:=X1.heap.size) HN1.out b2 (by omega) (by omega) (by omega) k1 k2⟩
  ·clear hHeld
   simp only [lays]
   rw [if_pos (by rfl)]
   go_simp
   obtain⟨X1,hX1⟩:∃X,X=(W.alloc (.cells (Array.replicate n1 (.int .i64 0)) 3)).drew:=⟨_,rfl⟩
   have b1:Below W.heap.size W X1:=by rw [hX1];exact ((Below.refl _ _).alloc (Nat.le_refl _) _).drew
   have hz1:W.heap.size+1≤X1.heap.size:=by rw [hX1];show _≤(W.alloc (.cells (Array.replicate n1 (.int .i64 0)) 3)).heap.size;simp
   have k1:X1.heap[W.heap.size]? = some (.cells (Array.replicate n1 (.int .i64 0)) 3):=by rw [hX1];exact World.alloc_heap_new _ _
   have hS1:X1.heap[r]? = some (.map ((entK m.slots ((List.range m.slots.length).filter (kept m.slots))).toArray) (rnk m.slots m.slots.length)):=(b1.block r (Array.getElem?_eq_some_iff.1 HMp.out).1).trans HMp.out
   rw [←hX1]
   clear hX1
   refine hK.out _ _ hS1 (fun hHeld=>?_)
   clear hK K
   try simp only [lays]
   refine wpAnyH_ready (rs:=[2]) (by kernel_rfl) (by simp) ?_
   refine AllReadyH.cons rfl (fun K hK=>?_) AllReadyH.nil
   clear hHeld
   simp only [lays]
   rw [if_pos (by rfl)]
   go_simp
   obtain⟨X2,hX2⟩:∃X,X=(X1.alloc (.cells (flatS (List.replicate n1 slotZ) (fun _=>nilV)).toArray 61)):=⟨_,rfl⟩
   have b2:Below W.heap.size W X2:=by rw [hX2];exact b1.alloc (by omega) _
   have k1:X2.heap[W.heap.size]? = some (.cells (Array.replicate n1 (.int .i64 0)) 3):=by rw [hX2];exact (Below.heap_alloc X1 _ _ (by omega)).trans k1
   have k2:X2.heap[X1.heap.size]? = some (.cells (flatS (List.replicate n1 slotZ) (fun _=>nilV)).toArray 61):=by rw [hX2];exact World.alloc_heap_new _ _
   have hS2:X2.heap[r]? = some (.map ((entK m.slots ((List.range m.slots.length).filter (kept m.slots))).toArray) (rnk m.slots m.slots.length)):=(b2.block r (Array.getElem?_eq_some_iff.1 HMp.out).1).trans HMp.out
   rw [←hX2]
   clear hX2
   refine hK.out _ _ hS2 (fun hHeld=>?_)
   clear hK K
   try simp only [lays]
   refine tkH 6 (.slice (some ⟨X1.heap.size,0,none⟩) n1 n1) rfl (Or.inl ⟨by rfl,fun w' hSw=>by go_simp⟩) hHeld ?_
   simp only [lays]
   refine tkH 7 (.slice (some ⟨W.heap.size,0,none⟩) n1 n1) rfl (Or.inl ⟨by rfl,fun w' hSw=>by go_simp⟩) hHeld ?_
   simp only [lays]
   clear hHeld
   refine wpAnyH_done (by kernel_rfl) ?_ _
   go_wp2_with fail
   go_meet
   exact⟨X1.heap.size,W.heap.size,rfl,rfl,GaR.begin (lb:=X1.heap.size) (rb:=W.heap.size) HN1.out b2 (by omega) (by omega) (by omega) k2 k1⟩
 case rest=>
 obtain⟨lb,rb,rfl,rfl,HC0⟩:=hcut
 obtain⟨w1,hw1⟩:∃X,X=wc:=⟨_,rfl⟩
 subst hw1
 have hb1:=cells_below hbox HC0.out.bel hDl
 obtain⟨d0,d1,d2,d3,d4⟩:=five hb1
 clear hmS hmR
 go_wp2_with fail
 clear d0 d1 d2 d3 d4 hb1
 go_loopw [22] (fun i wr=>∃k:Nat,k≤m.slots.length∧i=.int .i64 k∧Hid (GaR W wr lb rb n1 m val k)) (fun i _=>m.slots.length - (intOf i).toNat)
 case atStart=>exact⟨0,Nat.zero_le _,rfl,HC0⟩
 case round=>
  obtain⟨k,hk,rfl,HC⟩:=hrel
  have hbl:=HC.out.bel
  have hDr:=cells_below hbox hbl hDl
  have hDw:D<wr.heap.size:=Nat.lt_of_lt_of_le hDl hbl.size
  by_cases hkl:k<m.slots.length
  ·have hki:(k:Int)<(m.slots.length:Int):=by omega
   obtain⟨g0,g1,g2⟩:=flatS_get (tv:=fun j=>val (.tab j)) hkl
   obtain⟨⟨kk,dd,es⟩,hss⟩:∃s,m.slots.getD k default=s:=⟨_,rfl⟩
   rw [hss] at g0 g1
   obtain⟨ta,tc,eq,_⟩:=HK.out.1.own.forms (.tab k) (Live.tab hkl)
   obtain⟨tn,htn⟩:∃n,rowN m (.tab k)=n:=⟨_,rfl⟩
   rw [htn] at eq
   have v0:wr.cell? ⟨sb,k*3,none⟩=some (.int .i64 kk):=(hbl.cell (p:=⟨sb,k*3,none⟩) hsbl).trans ((HRw.out.1.cellAt (k*3+0) (by omega)).trans g0)
   have v1:wr.cell? ⟨sb,k*3+1,none⟩=some (.string dd):=(hbl.cell (p:=⟨sb,k*3+1,none⟩) hsbl).trans ((HRw.out.1.cellAt (k*3+1) (by omega)).trans g1)
   have v2:wr.cell? ⟨sb,k*3+1+1,none⟩=some (.slice ta tn tc):=(hbl.cell (p:=⟨sb,k*3+1+1,none⟩) hsbl).trans ((HRw.out.1.cellAt (k*3+2) (by omega)).trans (g2.trans (by rw [←eq])))
   have hmr:=(hbl.block r (Array.getElem?_eq_some_iff.1 HMp.out).1).trans HMp.out
   have hma:(wr.alloc (.cells #[.int .i64 kk,.string dd,.slice ta tn tc] 61)).heap[r]? = some (.map ((entK m.slots ((List.range m.slots.length).filter (kept m.slots))).toArray) (rnk m.slots m.slots.length)):=map_alloc hmr _
   by_cases hp:kept m.slots k=true
   ·obtain⟨p,hfp⟩:=find_at (L:=m.slots) (l:=(List.range m.slots.length).filter (kept m.slots)) (k:=k) (List.mem_filter.2 ⟨List.mem_range.2 hkl,hp⟩) 0
    obtain⟨rk,hrkE⟩:∃n,rnk m.slots k=n:=⟨_,rfl⟩
    have hlk:=look_run (P:=Tryz.prog) (w:=wr.alloc (.cells #[.int .i64 kk,.string dd,.slice ta tn tc] 61)) 67 3 3 r (rnk m.slots m.slots.length) ((entK m.slots ((List.range m.slots.length).filter (kept m.slots))).toArray) (k:Int) (.int .i64 (rnk m.slots k:Int)) p Tryz.underlying67 Tryz.underlying3 hma (by simpa using hfp)
    rw [hrkE] at hlk
    have hrk:rk<n1:=by rw [←hrkE,← HN1.out.1];exact rnk_lt hkl hp
    have hrki:(rk:Int)<(n1:Int):=by omega
    have HKp:Hid (k<m.slots.length∧kept m.slots k=true∧rnk m.slots k=rk∧(∃es,m.slots.getD k default=(kk,dd,es))∧val (.tab k)=.slice ta tn tc):=⟨hkl,hp,hrkE,⟨es,hss⟩,eq⟩
    obtain⟨fk,hfk⟩:∃x,m.refs.getD k 0=x:=⟨_,rfl⟩
    have HFk:Hid (m.refs.getD k 0=fk):=hfk
    have hkr:k<m.refs.length:=by rw [HRl.out];exact hkl
    have hkri:(k:Int)<(m.refs.length:Int):=by omega
    have cf:wr.cell? ⟨fb,k,none⟩=some (.int .i64 fk):=by
     refine (hbl.cell (p:=⟨fb,k,none⟩) hfbl).trans ((HRw.out.2.cellAt k (by omega)).trans ?_)
     show (List.map (Value.int .i64) m.refs)[k]? = _
     rw [List.getElem?_map,List.getElem?_eq_getElem hkr,← hfk]
     simp [List.getD,hkr]
    have hfw:fb<wr.heap.size:=Nat.lt_of_lt_of_le hfbl hbl.size
    have hlbw:=row_lt HC.out.l
    have hrbw:=row_lt HC.out.r
    have HFr:Hid (lb≠wr.heap.size∧lb≠D∧lb≠fb∧rb≠wr.heap.size∧rb≠D∧rb≠fb):=⟨by omega,by omega,by omega,by omega,by omega,by omega⟩
    have HGr:Hid (∃u,(ints (gR m.slots m.refs k))[rk]? = some u):=⟨_,List.getElem?_eq_getElem (by rw [ints_length,gR_length (by omega),HN1.out.1];exact hrk)⟩
    clear hfp hrkE hp hfk g0 g1 g2 hss eq htn hma hmr hlbw hrbw
    go_upto_region 6 with fail
    obtain⟨X9,hX9⟩:∃X,X=wr.alloc (.cells #[.int .i64 kk,.string dd,.slice ta tn tc] 61):=⟨_,rfl⟩
    have b9:Below wr.heap.size wr X9:=by rw [hX9];exact (Below.refl _ _).alloc (Nat.le_refl _) _
    have k9:X9.heap[wr.heap.size]? = some (.cells #[.int .i64 kk,.string dd,.slice ta tn tc] 61):=by rw [hX9];exact World.alloc_heap_new _ _
    rw [←hX9]
    clear hX9
    have hD9:X9.heap[D]? = some (.cells #[.int .i64 m.guest,.slice ra m.root.length rc,.slice (some ⟨sb,0,none⟩) m.slots.length sc,.slice (some ⟨fb,0,none⟩) m.refs.length fc,.slice na m.snaps.length nc] 70):=(b9.block D hDw).trans hDr
    have hf9:X9.cell? ⟨fb,k,none⟩=some (.int .i64 fk):=(b9.cell (p:=⟨fb,k,none⟩) hfw).trans cf
    have HG9:Hid (GaR W X9 lb rb n1 m val (k)):=HC.out.below b9
    refine wp_region_held_drew (S:=(fun X:World=>X.heap[wr.heap.size]? = some (.cells #[.int .i64 kk,.string dd,.slice ta tn tc] 61)∧X.heap[D]? = some (.cells #[.int .i64 m.guest,.slice ra m.root.length rc,.slice (some ⟨sb,0,none⟩) m.slots.length sc,.slice (some ⟨fb,0,none⟩) m.refs.length fc,.slice na m.snaps.length nc] 70)∧X.cell? ⟨fb,k,none⟩=some (.int .i64 fk))) (by kernel_rfl) ⟨k9,hD9,hf9⟩ (fun hHeld=>?_)
    obtain⟨Y0,hY0⟩:∃Y,Y=X9.drew:=⟨_,rfl⟩
    have HGY:Hid (GaR W Y0 lb rb n1 m val (k)):=by rw [hY0];exact HG9.out.drew
    have kY:Y0.heap[wr.heap.size]? = some (.cells #[.int .i64 kk,.string dd,.slice ta tn tc] 61)∧Y0.heap[D]? = some (.cells #[.int .i64 m.guest,.slice ra m.root.length rc,.slice (some ⟨sb,0,none⟩) m.slots.length sc,.slice (some ⟨fb,0,none⟩) m.refs.length fc,.slice na m.snaps.length nc] 70)∧Y0.cell? ⟨fb,k,none⟩=some (.int .i64 fk):=by rw [hY0];exact⟨k9,hD9,hf9⟩
    have hsY:wr.heap.size<Y0.heap.size:=(Array.getElem?_eq_some_iff.1 kY.1).1
    rw [←hY0] at hHeld ⊢
    clear hY0 k9 hD9 hf9 b9 HG9
    refine tkH 0 (.slice (some ⟨lb,0,none⟩) n1 n1) rfl (Or.inl ⟨by rfl,fun w' hSw=>by go_simp⟩) hHeld ?_
    simp only [lays]
    refine tkH 1 (.int .i64 (rk:Int)) rfl (Or.inl ⟨by rfl,fun w' hSw=>by go_simp⟩) hHeld ?_
    simp only [lays]
    refine tkH 2 (.slice (some ⟨rb,0,none⟩) n1 n1) rfl (Or.inl ⟨by rfl,fun w' hSw=>by go_simp⟩) hHeld ?_
    simp only [lays]
    refine tkH 3 (.int .i64 (rk:Int)) rfl (Or.inl ⟨by rfl,fun w' hSw=>by go_simp⟩) hHeld ?_
    simp only [lays]
    refine tkH 4 (.agg #[.int .i64 kk,.string dd,.slice ta tn tc]) rfl (Or.inl ⟨by rfl,fun w' hSw=>by obtain⟨qa,qb,qc⟩:=hSw;obtain⟨t0,t1,t2⟩:=three6 qa;obtain⟨j0,j1,j2,j3,j4⟩:=five qb;go_simp⟩) hHeld ?_
    simp only [lays]
    refine tkH 5 (.pointer (some ⟨D,0,none⟩)) rfl (Or.inl ⟨by rfl,fun w' hSw=>by go_simp⟩) hHeld ?_
    simp only [lays]
    refine tkH 6 (.pointer (some ⟨D,0,none⟩)) rfl (Or.inl ⟨by rfl,fun w' hSw=>by go_simp⟩) hHeld ?_
    simp only [lays]
    refine tkH 7 (.pointer (some ⟨D,0,none⟩)) rfl (Or.inl ⟨by rfl,fun w' hSw=>by go_simp⟩) hHeld ?_
    simp only [lays]
    refine tkH 8 (.pointer (some ⟨D,3,none⟩)) rfl (Or.inl ⟨by rfl,fun w' hSw=>by go_simp⟩) hHeld ?_
    simp only [lays]
    refine tkH 9 (.slice (some ⟨fb,0,none⟩) m.refs.length fc) rfl (Or.inl ⟨by rfl,fun w' hSw=>by obtain⟨qa,qb,qc⟩:=hSw;obtain⟨t0,t1,t2⟩:=three6 qa;obtain⟨j0,j1,j2,j3,j4⟩:=five qb;go_simp⟩) hHeld ?_
    simp only [lays]
    refine tkH 10 (.int .i64 (k:Int)) rfl (Or.inl ⟨by rfl,fun w' hSw=>by go_simp⟩) hHeld ?_
    simp only [lays]
    refine tkH 11 (.pointer (some ⟨fb,k,none⟩)) rfl (Or.inl ⟨by rfl,fun w' hSw=>by go_simp⟩) hHeld ?_
    simp only [lays]
    refine tkH 12 (.int .i64 fk) rfl (Or.inl ⟨by rfl,fun w' hSw=>by obtain⟨qa,qb,qc⟩:=hSw;obtain⟨t0,t1,t2⟩:=three6 qa;obtain⟨j0,j1,j2,j3,j4⟩:=five qb;go_simp⟩) hHeld ?_
    simp only [lays]
    refine tkH 13 (.pointer (some ⟨lb,rk*3,none⟩)) rfl (Or.inl ⟨by rfl,fun w' hSw=>by go_simp⟩) hHeld ?_
    simp only [lays]
    obtain⟨⟨u0,z0⟩,⟨u1,z1⟩,⟨u2,z2⟩,z3,z4,z5⟩:=HGY.out.cells3 hrk
    have HG1:Hid ((((Y0.setCell ⟨lb,rk*3,none⟩ (.int .i64 kk)).setCell ⟨lb,rk*3+1,none⟩ (.string dd)).setCell ⟨lb,rk*3+2,none⟩ (.slice ta tn tc)).ownsRow W.heap.size 61 3 (.slice (some ⟨lb,0,none⟩) n1 n1) n1 (flatS (gS m.slots (k+1)) (gT m.slots val (k+1)))∧Below W.heap.size W (((Y0.setCell ⟨lb,rk*3,none⟩ (.int .i64 kk)).setCell ⟨lb,rk*3+1,none⟩ (.string dd)).setCell ⟨lb,rk*3+2,none⟩ (.slice ta tn tc))):=HGY.out.put HKp.out.1 HKp.out.2.1 HKp.out.2.2.1 HKp.out.2.2.2.1 HKp.out.2.2.2.2
    have kY1:(((Y0.setCell ⟨lb,rk*3,none⟩ (.int .i64 kk)).setCell ⟨lb,rk*3+1,none⟩ (.string dd)).setCell ⟨lb,rk*3+2,none⟩ (.slice ta tn tc)).heap[wr.heap.size]? = some (.cells #[.int .i64 kk,.string dd,.slice ta tn tc] 61)∧(((Y0.setCell ⟨lb,rk*3,none⟩ (.int .i64 kk)).setCell ⟨lb,rk*3+1,none⟩ (.string dd)).setCell ⟨lb,rk*3+2,none⟩ (.slice ta tn tc)).heap[D]? = some (.cells #[.int .i64 m.guest,.slice ra m.root.length rc,.slice (some ⟨sb,0,none⟩) m.slots.length sc,.slice (some ⟨fb,0,none⟩) m.refs.length fc,.slice na m.snaps.length nc] 70)∧(((Y0.setCell ⟨lb,rk*3,none⟩ (.int .i64 kk)).setCell ⟨lb,rk*3+1,none⟩ (.string dd)).setCell ⟨lb,rk*3+2,none⟩ (.slice ta tn tc)).cell? ⟨fb,k,none⟩=some (.int .i64 fk):=⟨(heap_three6 _ _ _ (fun e=>HFr.out.1 e.symm)).trans kY.1,(heap_three6 _ _ _ (fun e=>HFr.out.2.1 e.symm)).trans kY.2.1,(World.cell?_of_block (heap_three6 _ _ _ (fun e=>HFr.out.2.2.1 e.symm))).trans kY.2.2⟩
    have HR1:Hid ((((Y0.setCell ⟨lb,rk*3,none⟩ (.int .i64 kk)).setCell ⟨lb,rk*3+1,none⟩ (.string dd)).setCell ⟨lb,rk*3+2,none⟩ (.slice ta tn tc)).ownsRow W.heap.size 3 1 (.slice (some ⟨rb,0,none⟩) n1 n1) n1 (ints (gR m.slots m.refs k))):=row_blkP HGY.out.r (fun q e=>heap_three6 _ _ _ (fun x=>HGY.out.ne (by have e':some rb=some q:=e;have:=Option.some.inj e';have x:q=lb:=x;omega)))
    refine wpAnyH_ready (rs:=[14]) (by kernel_rfl) (by simp) ?_
    refine AllReadyH.cons rfl (fun K hK=>?_) AllReadyH.nil
    clear hHeld
    simp only [lays]
    rw [if_pos (by rfl)]
    go_simp
    obtain⟨Y1,hY1⟩:∃Y,Y=(((Y0.setCell ⟨lb,rk*3,none⟩ (.int .i64 kk)).setCell ⟨lb,rk*3+1,none⟩ (.string dd)).setCell ⟨lb,rk*3+2,none⟩ (.slice ta tn tc)):=⟨_,rfl⟩
    rw [←hY1] at HG1 kY1 HR1
    first | rw [←hY1] | skip
    clear hY1 z0 z1 z2 z3 z4 z5
    refine hK.out _ _ kY1 (fun hHeld=>?_)
    clear hK K
    try simp only [lays]
    have c5:Y1.cell? ⟨rb,rk,none⟩=(ints (gR m.slots m.refs k))[rk]?:=HR1.out.cellAt rk (by omega)
    obtain⟨uu,huu⟩:∃u,(ints (gR m.slots m.refs k))[rk]? = some u:=HGr.out
    rw [huu] at c5
    have f5:Y1.frozen? ⟨rb,rk,none⟩=false:=HR1.out.frozenAt rk
    have HG2:Hid (GaR W (Y1.setCell ⟨rb,rk,none⟩ (.int .i64 fk)) lb rb n1 m val (k+1)):=GaR.last HG1.out.1 HG1.out.2 HR1.out HGY.out.ne HKp.out.1 HKp.out.2.1 HKp.out.2.2.1 HFk.out
    have kY2:(Y1.setCell ⟨rb,rk,none⟩ (.int .i64 fk)).heap[wr.heap.size]? = some (.cells #[.int .i64 kk,.string dd,.slice ta tn tc] 61)∧(Y1.setCell ⟨rb,rk,none⟩ (.int .i64 fk)).heap[D]? = some (.cells #[.int .i64 m.guest,.slice ra m.root.length rc,.slice (some ⟨sb,0,none⟩) m.slots.length sc,.slice (some ⟨fb,0,none⟩) m.refs.length fc,.slice na m.snaps.length nc] 70)∧(Y1.setCell ⟨rb,rk,none⟩ (.int .i64 fk)).cell? ⟨fb,k,none⟩=some (.int .i64 fk):=⟨cells_other kY1.1 (fun e=>HFr.out.2.2.2.1 e.symm) _ _,cells_other kY1.2.1 (fun e=>HFr.out.2.2.2.2.1 e.symm) _ _,(World.cell?_of_block (Below.heap_setCell Y1 ⟨rb,rk,none⟩ _ fb (fun e=>HFr.out.2.2.2.2.2 e.symm))).trans kY1.2.2⟩
    clear huu
    refine tkH 15 (.pointer (some ⟨rb,rk,none⟩)) rfl (Or.inl ⟨by rfl,fun w' hSw=>by go_simp⟩) hHeld ?_
    simp only [lays]
    refine wpAnyH_ready (rs:=[16]) (by kernel_rfl) (by simp) ?_
    refine AllReadyH.cons rfl (fun K hK=>?_) AllReadyH.nil
    clear hHeld
    simp only [lays]
    rw [if_pos (by rfl)]
    go_simp
    refine hK.out _ _ kY2 (fun hHeld=>?_)
    clear hK K hHeld
    try simp only [lays]
    refine wpAnyH_done (by kernel_rfl) ?_ _
    go_wp2_with fail
    go_roundw
    case rel=>exact⟨k+1,by omega,by go_num,HG2⟩
    case measure=>first | (simp [intOf];done) | (simp [intOf];omega)
   ·have hp:kept m.slots k=false:=by simpa using hp
    have hlk:=look_none (P:=Tryz.prog) (w:=wr.alloc (.cells #[.int .i64 kk,.string dd,.slice ta tn tc] 61)) 67 3 3 r (rnk m.slots m.slots.length) ((entK m.slots ((List.range m.slots.length).filter (kept m.slots))).toArray) (k:Int) (.int .i64 0) Tryz.underlying67 Tryz.underlying3 hma (by simpa using find_no (L:=m.slots) (l:=(List.range m.slots.length).filter (kept m.slots)) (k:=(k:Int)) (fun j hj x=>by have:=(List.mem_filter.1 hj).2;have e:j=k:=(by omega);rw [e,hp] at this;cases this) 0) (by kernel_rfl)
    have HG2:Hid (GaR W (wr.alloc (.cells #[.int .i64 kk,.string dd,.slice ta tn tc] 61)) lb rb n1 m val (k+1)):=by
     have:=HC.out.below ((Below.refl _ _).alloc (Nat.le_refl _) (.cells #[.int .i64 kk,.string dd,.slice ta tn tc] 61))
     exact⟨this.bel,by rw [gS_same hp,gT_same hp];exact this.l,by rw [gR_same hp];exact this.r,this.ne⟩
    clear hp g0 g1 g2 hss eq htn hma hmr
    go_wp2_with fail
    go_roundw
    case rel=>exact⟨k+1,by omega,by go_num,HG2⟩
    case measure=>first | (simp [intOf];done) | (simp [intOf];omega)
  ·have e:k=m.slots.length:=by omega
   subst e
   obtain⟨d0,d1,d2,d3,d4⟩:=five hDr
   have ff0:=cells_frozen hDr 0;have ff1:=cells_frozen hDr 1;have ff2:=cells_frozen hDr 2;have ff3:=cells_frozen hDr 3;have ff4:=cells_frozen hDr 4
   clear hDr
   go_wp2_with fail
   go_end0
   have hl:=HC.out.l
   have hr:=HC.out.r
   rw [gS_end] at hl
   rw [gR_end] at hr
   refine⟨rfl,_,DTo.gath HK.out.1 HK.out.2.1 HC.out.bel (lv:=.slice (some ⟨lb,0,none⟩) n1 n1) (rv:=.slice (some ⟨rb,0,none⟩) n1 n1) (by rw [HN1.out.1];exact hl) (by rw [HN1.out.1];exact hr) (fun g e x=>HC.out.ne (by have e':some lb=some g:=e;have x':some rb=some g:=x;have:=Option.some.inj e';have:=Option.some.inj x';omega))⟩
theorem rn_snapcall {W wr:World}{B D bm r k i:Nat}{L:List SlotD}{g:ImgD}{val:Nm→Value}(h:RnR W wr B D bm r L g (rnI L k i g) val)(hB:B≤W.heap.size)(hk:k<g.snaps.length)(hl:(g.snaps.getD k default).2.2.length≤1000)(hfar:∀a,Live g a→(val a).ownBlock≠some bm∧(val a).ownBlock≠some r) :
  Calls Tryz.prog 74 #[val (.sr k),.func (.func 44) #[] #[.pointer (some ⟨bm,0,none⟩)]] wr fun q W'=>q=.returned (.tuple #[])∧RnR W W' B D bm r L g (rnI L (k+1) i g) val:=by
 have ha:Live (rnI L k i g) (.sr k):=(rnI_live _ _ _ _ _).2 (Live.sr hk)
 have hr:=h.dto.dk.own.row _ ha
 have e1:rowN (rnI L k i g) (.sr k)=(g.snaps.getD k default).2.2.length:=by
  show ((rnS L k g.snaps).getD k default).2.2.length=_
  rw [rnS_get hk,if_neg (by omega)]
 have e2:rowV (rnI L k i g) val (.sr k)=ints (g.snaps.getD k default).2.2:=by
  show ints ((rnS L k g.snaps).getD k default).2.2=_
  rw [rnS_get hk,if_neg (by omega)]
 rw [e1,e2] at hr
 have hr:wr.ownsRow B 3 1 (val (.sr k)) (g.snaps.getD k default).2.2.length (ints (g.snaps.getD k default).2.2):=hr
 obtain⟨f1,f2⟩:=hfar (.sr k) (Live.sr hk)
 refine (turnAll_is (g':=none) hl hr h.num f1 f2).mono ?_
 rintro q W' ⟨rfl,k1,k2⟩
 have e3:rowN (rnI L (k+1) i g) (.sr k)=(g.snaps.getD k default).2.2.length:=by
  show ((rnS L (k+1) g.snaps).getD k default).2.2.length=_
  rw [rnS_get hk,if_pos (by omega)]
  show ((g.snaps.getD k default).2.2.map (ren L)).length=_
  rw [List.length_map]
 have e4:rowV (rnI L (k+1) i g) val (.sr k)=ints ((g.snaps.getD k default).2.2.map (ren L)):=by
  show ints ((rnS L (k+1) g.snaps).getD k default).2.2=_
  rw [rnS_get hk,if_pos (by omega)];rfl
 refine⟨rfl,h.dto.turn hB (rnI_live _ _ _ _) ha (by rw [e3,e4];exact k1) k2 (fun b=>(rnI_live _ _ _ _ b).trans (rnI_live _ _ _ _ b).symm) rfl (fun b hb hne=>rn_snap b ((rnI_live _ _ _ _ b).1 hb) hne),h.num.grown k2 f1 f2⟩
theorem rn_slotcall {W wr:World}{B D bm r j k:Nat}{L:List SlotD}{g:ImgD}{val:Nm→Value}(h:RnR W wr B D bm r L g (rnI L j k g) val)(hB:B≤W.heap.size)(hk:k<g.slots.length)(hl:(g.slots.getD k default).2.2.length≤1000)(hfar:∀a,Live g a→(val a).ownBlock≠some bm∧(val a).ownBlock≠some r) :
  Calls Tryz.prog 74 #[val (.tab k),.func (.func 44) #[] #[.pointer (some ⟨bm,0,none⟩)]] wr fun q W'=>q=.returned (.tuple #[])∧RnR W W' B D bm r L g (rnI L j (k+1) g) val:=by
 have ha:Live (rnI L j k g) (.tab k):=(rnI_live _ _ _ _ _).2 (Live.tab hk)
 have hr:=h.dto.dk.own.row _ ha
 have e1:rowN (rnI L j k g) (.tab k)=(g.slots.getD k default).2.2.length:=by
  show ((rnL L k g.slots).getD k default).2.2.length=_
  rw [rnL_get hk,if_neg (by omega)]
 have e2:rowV (rnI L j k g) val (.tab k)=ints (g.slots.getD k default).2.2:=by
  show ints ((rnL L k g.slots).getD k default).2.2=_
  rw [rnL_get hk,if_neg (by omega)]
 rw [e1,e2] at hr
 have hr:wr.ownsRow B 3 1 (val (.tab k)) (g.slots.getD k default).2.2.length (ints (g.slots.getD k default).2.2):=hr
 obtain⟨f1,f2⟩:=hfar (.tab k) (Live.tab hk)
 refine (turnAll_is (g':=none) hl hr h.num f1 f2).mono ?_
 rintro q W' ⟨rfl,k1,k2⟩
 have e3:rowN (rnI L j (k+1) g) (.tab k)=(g.slots.getD k default).2.2.length:=by
  show ((rnL L (k+1) g.slots).getD k default).2.2.length=_
  rw [rnL_get hk,if_pos (by omega)]
  show ((g.slots.getD k default).2.2.map (ren L)).length=_
  rw [List.length_map]
 have e4:rowV (rnI L j (k+1) g) val (.tab k)=ints ((g.slots.getD k default).2.2.map (ren L)):=by
  show ints ((rnL L (k+1) g.slots).getD k default).2.2=_
  rw [rnL_get hk,if_pos (by omega)];rfl
 refine⟨rfl,h.dto.turn hB (rnI_live _ _ _ _) ha (by rw [e3,e4];exact k1) k2 (fun b=>(rnI_live _ _ _ _ b).trans (rnI_live _ _ _ _ b).symm) rfl (fun b hb hne=>rn_slot b ((rnI_live _ _ _ _ b).1 hb) hne),h.num.grown k2 f1 f2⟩
set_option maxHeartbeats 8000000 in
theorem renumber_is {W:World}{B D bm r:Nat}{L:List SlotD}{g:ImgD}{val:Nm→Value}(hK:DK W B D val g)(hB:B≤W.heap.size)(hN:NumB W bm r L)(hfar:∀a,Live g a→(val a).ownBlock≠some bm∧(val a).ownBlock≠some r)(hl0:g.root.length≤1000)(hn1:g.snaps.length≤1000)(hn2:g.slots.length≤1000)(hl1:∀k,k<g.snaps.length→(g.snaps.getD k default).2.2.length≤1000)(hl2:∀k,k<g.slots.length→(g.slots.getD k default).2.2.length≤1000) :
  Calls Tryz.prog 43 #[.pointer (some ⟨D,0,none⟩),.func (.func 44) #[] #[.pointer (some ⟨bm,0,none⟩)]] W fun q W'=>q=.returned (.tuple #[])∧DTo W W' B D g val nilV (rnI L g.snaps.length g.slots.length g) val:=by
 obtain⟨ra,rc,e0,_⟩:=hK.own.forms .root (Live.root g)
 obtain⟨sa,sc,e1,_⟩:=hK.own.forms .slots (Live.slots g)
 obtain⟨na,nc,e3,_⟩:=hK.own.forms .snaps (Live.snaps g)
 have e0:val .root=.slice ra g.root.length rc:=e0
 have e1:val .slots=.slice sa g.slots.length sc:=e1
 have e3:val .snaps=.slice na g.snaps.length nc:=e3
 have HV:Hid (val .root=.slice ra g.root.length rc∧val .slots=.slice sa g.slots.length sc∧val .snaps=.slice na g.snaps.length nc):=⟨e0,e1,e3⟩
 have HL:Hid (g.root.length≤1000∧(∀k,k<g.snaps.length→(g.snaps.getD k default).2.2.length≤1000)∧∀k,k<g.slots.length→(g.slots.getD k default).2.2.length≤1000):=⟨hl0,hl1,hl2⟩
 have HB:Hid (B≤W.heap.size):=hB
 have HF:Hid (∀a,Live g a→(val a).ownBlock≠some bm∧(val a).ownBlock≠some r):=hfar
 have hr:W.ownsRow B 3 1 (val .root) g.root.length (ints g.root):=hK.own.row .root (Live.root g)
 obtain⟨f1,f2⟩:=hfar .root (Live.root g)
 have hcall:Calls Tryz.prog 74 #[.slice ra g.root.length rc,.func (.func 44) #[] #[.pointer (some ⟨bm,0,none⟩)]] W fun q W'=>q=.returned (.tuple #[])∧RnR W W' B D bm r L g (rnI L 0 0 g) val:=by
  have hc:=turnAll_is (g':=none) hl0 hr hN f1 f2
  rw [e0] at hc
  refine hc.mono ?_
  rintro q W' ⟨rfl,k1,k2⟩
  rw [←e0] at k1 k2
  refine⟨rfl,(DTo.refl hK nilV).turn hB (fun _=>Iff.rfl) (Live.root g) (a:=.root) (m':=rnI L 0 0 g) ?_ k2 (rnI_live _ _ _ _) rfl (fun b hb hne=>?_),hN.grown k2 f1 f2⟩
  ·show W'.ownsRow B 3 1 (val .root) (g.root.map (ren L)).length (ints (g.root.map (ren L)))
   rw [List.length_map];exact k1
  ·rcases hb.cases with rfl | rfl | rfl | rfl | ⟨k,rfl,hk⟩ | ⟨k,rfl,hk⟩
   ·exact absurd rfl hne
   ·exact⟨rfl,rfl⟩
   ·exact⟨rfl,rfl⟩
   ·exact⟨rfl,rfl⟩
   ·exact⟨rfl,rfl⟩
   ·exact⟨rfl,rfl⟩
 obtain⟨_,c1,_,_,_⟩:=hK.five
 rw [e0] at c1
 clear hK hB hN hfar hl0 hl1 hl2 hr f1 f2 e0 e1 e3
 go_enter Tryz.func43,Tryz.ntmps43
 go_wp2_with fail
 refine hcall.mono ?_
 rintro e' w1 ⟨rfl,hR⟩
 dsimp only
 have d4:w1.cell? ⟨D,4,none⟩=some (.slice na g.snaps.length nc):=by have:=hR.dto.dk.five.2.2.2.2;rw [HV.out.2.2] at this;exact this
 have HR1:Hid (RnR W w1 B D bm r L g (rnI L 0 0 g) val):=hR
 clear hR c1 hcall
 go_wp2_with fail
 clear d4
 go_loopw [21] (fun i wr=>∃k:Nat,k≤g.snaps.length∧i=.int .i64 k∧Hid (RnR W wr B D bm r L g (rnI L k 0 g) val)) (fun i _=>g.snaps.length - (intOf i).toNat)
 case atStart=>exact⟨0,Nat.zero_le _,rfl,HR1⟩
 case round=>
  obtain⟨k,hk,rfl,HC⟩:=hrel
  by_cases hkl:k<g.snaps.length
  ·have hki:(k:Int)<(g.snaps.length:Int):=by omega
   have hrow:wr.ownsRow B 64 3 (val .snaps) g.snaps.length (flatN g.snaps (fun j=>val (.sr j))):=by
    have:=HC.out.dto.dk.own.row .snaps (Live.snaps _)
    have e1:rowN (rnI L k 0 g) .snaps=g.snaps.length:=by exact rnS_length _ _ _
    have e2:rowV (rnI L k 0 g) val .snaps=flatN g.snaps (fun j=>val (.sr j)):=flatN_rn
    rw [e1,e2] at this
    exact this
   rw [HV.out.2.2] at hrow
   obtain⟨cb,hcb⟩:∃b,na=some ⟨b,0,none⟩:=by
    rcases row_form hrow with ⟨e,hn⟩ | ⟨b,c,e,_⟩
    ·omega
    ·simp only [Value.slice.injEq] at e;exact⟨b,e.1⟩
   subst hcb
   obtain⟨g0,g1,g2⟩:=flatN_get (qv:=fun j=>val (.sr j)) hkl
   obtain⟨x0,hx0⟩:∃x,x=(g.snaps.getD k default).1:=⟨_,rfl⟩
   obtain⟨x1,hx1⟩:∃x,x=(g.snaps.getD k default).2.1:=⟨_,rfl⟩
   rw [←hx0] at g0
   rw [←hx1] at g1
   obtain⟨qa,qc,eq,_⟩:=HC.out.dto.dk.own.forms (.sr k) ((rnI_live _ _ _ _ _).2 (Live.sr hkl))
   obtain⟨qn,hqn⟩:∃n,rowN (rnI L k 0 g) (.sr k)=n:=⟨_,rfl⟩
   rw [hqn] at eq
   have v0:wr.cell? ⟨cb,k*3,none⟩=some (.string x0):=(hrow.cellAt (k*3+0) (by omega)).trans g0
   have v1:wr.cell? ⟨cb,k*3+1,none⟩=some (.int .i64 x1):=(hrow.cellAt (k*3+1) (by omega)).trans g1
   have v2:wr.cell? ⟨cb,k*3+1+1,none⟩=some (.slice qa qn qc):=(hrow.cellAt (k*3+2) (by omega)).trans (g2.trans (by rw [←eq]))
   have hcall:=rn_snapcall (HC.out.alloc HB.out (.cells #[.string x0,.int .i64 x1,.slice qa qn qc] 64)) HB.out hkl (HL.out.2.1 k hkl) HF.out
   rw [eq] at hcall
   clear g0 g1 g2 hx0 hx1 eq hqn hrow
   go_wp2_with fail
   refine hcall.mono ?_
   rintro e' w1 ⟨rfl,hR⟩
   have HR:Hid (RnR W w1 B D bm r L g (rnI L (k+1) 0 g) val):=hR
   clear hR
   dsimp only
   go_wp2_with fail
   go_roundw
   case rel=>exact⟨k+1,by omega,by go_num,HR⟩
   case measure=>first | (simp [intOf];done) | (simp [intOf];omega)
  ·have e:k=g.snaps.length:=by omega
   subst e
   have d2:wr.cell? ⟨D,2,none⟩=some (.slice sa g.slots.length sc):=by have:=HC.out.dto.dk.five.2.2.1;rw [HV.out.2.1] at this;exact this
   obtain⟨w5,hw5⟩:∃X,X=wr:=⟨_,rfl⟩
   subst hw5
   go_wp2_with fail
   clear d2
   go_loopw [36] (fun i wr=>∃k:Nat,k≤g.slots.length∧i=.int .i64 k∧Hid (RnR W wr B D bm r L g (rnI L g.snaps.length k g) val)) (fun i _=>g.slots.length - (intOf i).toNat)
   case atStart=>exact⟨0,Nat.zero_le _,rfl,HC⟩
   case round=>
    clear HC
    obtain⟨k,hk,rfl,HC⟩:=hrel
    by_cases hkl:k<g.slots.length
    ·have hki:(k:Int)<(g.slots.length:Int):=by omega
     have hrow:wr.ownsRow B 61 3 (val .slots) g.slots.length (flatS g.slots (fun j=>val (.tab j))):=by
      have:=HC.out.dto.dk.own.row .slots (Live.slots _)
      have e1:rowN (rnI L g.snaps.length k g) .slots=g.slots.length:=by exact rnL_length _ _ _
      have e2:rowV (rnI L g.snaps.length k g) val .slots=flatS g.slots (fun j=>val (.tab j)):=flatS_rn
      rw [e1,e2] at this
      exact this
     rw [HV.out.2.1] at hrow
     obtain⟨cb,hcb⟩:∃b,sa=some ⟨b,0,none⟩:=by
      rcases row_form hrow with ⟨e,hn⟩ | ⟨b,c,e,_⟩
      ·omega
      ·simp only [Value.slice.injEq] at e;exact⟨b,e.1⟩
     subst hcb
     obtain⟨g0,g1,g2⟩:=flatS_get (tv:=fun j=>val (.tab j)) hkl
     obtain⟨x0,hx0⟩:∃x,x=(g.slots.getD k default).1:=⟨_,rfl⟩
     obtain⟨x1,hx1⟩:∃x,x=(g.slots.getD k default).2.1:=⟨_,rfl⟩
     rw [←hx0] at g0
     rw [←hx1] at g1
     obtain⟨qa,qc,eq,_⟩:=HC.out.dto.dk.own.forms (.tab k) ((rnI_live _ _ _ _ _).2 (Live.tab hkl))
     obtain⟨qn,hqn⟩:∃n,rowN (rnI L g.snaps.length k g) (.tab k)=n:=⟨_,rfl⟩
     rw [hqn] at eq
     have v0:wr.cell? ⟨cb,k*3,none⟩=some (.int .i64 x0):=(hrow.cellAt (k*3+0) (by omega)).trans g0
     have v1:wr.cell? ⟨cb,k*3+1,none⟩=some (.string x1):=(hrow.cellAt (k*3+1) (by omega)).trans g1
     have v2:wr.cell? ⟨cb,k*3+1+1,none⟩=some (.slice qa qn qc):=(hrow.cellAt (k*3+2) (by omega)).trans (g2.trans (by rw [←eq]))
     have hcall:=rn_slotcall (HC.out.alloc HB.out (.cells #[.int .i64 x0,.string x1,.slice qa qn qc] 61)) HB.out hkl (HL.out.2.2 k hkl) HF.out
     rw [eq] at hcall
     clear g0 g1 g2 hx0 hx1 eq hqn hrow
     go_wp2_with fail
     refine hcall.mono ?_
     rintro e' w1 ⟨rfl,hR⟩
     have HR:Hid (RnR W w1 B D bm r L g (rnI L g.snaps.length (k+1) g) val):=hR
     clear hR
     dsimp only
     go_wp2_with fail
     go_roundw
     case rel=>exact⟨k+1,by omega,by go_num,HR⟩
     case measure=>first | (simp [intOf];done) | (simp [intOf];omega)
    ·have e:k=g.slots.length:=by omega
     subst e
     go_wp2_with fail
     go_end0
     exact⟨rfl,HC.out.dto⟩
end Go.Proofs.YtehleeibgkpjmafGreat
namespace Go.Proofs.YtehleeibgkpjmafGreat
open Go.RowKit
set_option maxRecDepth 20000
theorem okD_len {s:SlotD}(h:okD s=true):s.2.2.length≤4:=by
 unfold okD slotOK at h
 split at h
 ·simp at h;rw [h.2];exact Nat.zero_le _
 ·split at h
  ·simp at h;rw [h.2];exact Nat.zero_le _
  ·split at h
   ·simp at h;rw [ckE_len h.1];exact Nat.le_refl _
   ·cases h
theorem fits_of_shape {m:ImgD}(h:shapeE m=0):Fits m:=by
 obtain⟨h1,h2,h3,h4,h5,h6,h7⟩:=shapeE_zero h
 have hs:=slotsE_parts h2
 have hR:∀s ∈ rootsOf m,s.2.2.length≤5:=fun s hs=>by
  have hg:=List.all_eq_true.1 h5 s hs
  have hf:=List.all_eq_true.1 h7 s hs
  unfold guestOK at hg
  unfold rootFit at hf
  simp only [Bool.and_eq_true,decide_eq_true_eq] at hg hf
  omega
 have hroot:=hR (⟨#[]⟩,m.guest,m.root) List.mem_cons_self
 have hroot:m.root.length≤5:=hroot
 have hr:room=140737488355328:=room_is
 refine⟨by omega,by omega,by omega,by omega,fun j hj=>?_,fun j hj=>?_⟩
 ·have ok:=slotsE_all h2 hj
  have e:m.slots.getD j default=m.slots[j]:=by simp [List.getD,hj]
  rw [e]
  have:m.slots[j].2.2.length≤4:=okD_len ok
  omega
 ·have e:m.snaps.getD j default=m.snaps[j]:=by simp [List.getD,hj]
  rw [e]
  have:=hR m.snaps[j] (List.mem_cons_of_mem _ (List.getElem_mem hj))
  omega
end Go.Proofs.YtehleeibgkpjmafGreat
namespace Go.Proofs.YtehleeibgkpjmafGreat
open Go.RowKit Go.Shelf
theorem AnsI.open {w w':World}{B:Nat}{m:ImgD}{err:Int}{r:Ending}(h:AnsI w B m err r w'):∃val ra rc sa sc fa fc na nc,r=.returned (.tuple #[.agg #[.int .i64 m.guest,.slice ra m.root.length rc,.slice sa m.slots.length sc,.slice fa m.refs.length fc,.slice na m.snaps.length nc],.int .i64 err])∧OI w' B val m∧Below B w w'∧imgV m.guest val=.agg #[.int .i64 m.guest,.slice ra m.root.length rc,.slice sa m.slots.length sc,.slice fa m.refs.length fc,.slice na m.snaps.length nc]:=by
 obtain⟨val,rfl,hO,hb⟩:=h
 obtain⟨ra,rc,e0,_⟩:=hO.forms .root (Live.root m)
 obtain⟨sa,sc,e1,_⟩:=hO.forms .slots (Live.slots m)
 obtain⟨fa,fc,e2,_⟩:=hO.forms .refs (Live.refs m)
 obtain⟨na,nc,e3,_⟩:=hO.forms .snaps (Live.snaps m)
 have e:imgV m.guest val=.agg #[.int .i64 m.guest,.slice ra m.root.length rc,.slice sa m.slots.length sc,.slice fa m.refs.length fc,.slice na m.snaps.length nc]:=by
  unfold imgV
  rw [e0,e1,e2,e3]
  rfl
 exact⟨val,ra,rc,sa,sc,fa,fc,na,nc,by rw [e],hO,hb,e⟩
set_option maxRecDepth 20000
set_option linter.unusedVariables false
set_option linter.unusedSimpArgs false
theorem rn_gath (m:ImgD):rnI m.slots (gathD m).snaps.length (gathD m).slots.length (gathD m)=packD m:=by
 unfold rnI rnS rnL packD
 rw [List.take_length,List.drop_length,List.take_length,List.drop_length,List.append_nil,List.append_nil]
 have:(gathD m).slots.map (packS m.slots)=packL m.slots:=by
  show ((keptI m.slots).map (fun j=>m.slots.getD j default)).map (packS m.slots)=_
  rw [List.map_map];rfl
 rw [this]
 rfl
theorem fits_small {m:ImgD}(h:shapeE m=0):(gathD m).root.length≤1000∧(gathD m).snaps.length≤1000∧(gathD m).slots.length≤1000∧(∀k,k<(gathD m).snaps.length→((gathD m).snaps.getD k default).2.2.length≤1000)∧∀k,k<(gathD m).slots.length→((gathD m).slots.getD k default).2.2.length≤1000:=by
 obtain⟨l1,l40⟩:=slotsE_parts (shapeE_zero h).2.1
 obtain⟨f1,f2,f3,_⟩:=snap_fit h (s:=(⟨#[]⟩,m.guest,m.root)) List.mem_cons_self
 dsimp only at f1 f2 f3
 have hk:=keptI_le m.slots
 have hlen:(gathD m).slots.length=(keptI m.slots).length:=by show ((keptI m.slots).map _).length=_;rw [List.length_map]
 refine⟨by show m.root.length≤1000;omega,by have:=(shapeE_zero h).1;show m.snaps.length≤1000;omega,by omega,fun k hk=>?_,fun k hk=>?_⟩
 ·have hk:k<m.snaps.length:=hk
  have hm:m.snaps.getD k default ∈ m.snaps:=by rw [show m.snaps.getD k default=m.snaps[k] by simp [List.getD,hk]];exact List.getElem_mem hk
  obtain⟨g1,g2,g3,_⟩:=snap_fit h (List.mem_cons_of_mem _ hm)
  show (m.snaps.getD k default).2.2.length≤1000
  omega
 ·rw [hlen] at hk
  obtain⟨t1,t2⟩:=gath_tab (m:=m) hk
  rw [t2]
  have hs:=(shapeE_zero h).2.1
  have hall:m.slots.all okD=true:=by
   unfold slotsE at hs
   rw [if_pos ⟨l1,l40⟩] at hs
   split at hs
   ·rename_i x;exact x.1
   ·cases hs
  have:=okD_len (List.all_eq_true.1 hall _ (getD_mem t1))
  omega
set_option maxHeartbeats 4000000 in
theorem pack_turn {w:World}{m:ImgD}(hs:shapeE m=0):Turns w 40 #[] m (some (packD m)):=by
 intro W D B val hb h1 h2 hK
 show Calls Tryz.prog 40 #[.pointer (some ⟨D,0,none⟩)] W (fun r W'=>∃val',r=.returned (.tuple #[])∧DTo W W' B D m val nilV (packD m) val')
 have hSl:Slots W (val .slots) m.slots:=hK.own.img.four.2.1
 have hnum:=numbers_is hSl (shapeE_zero hs).2.1
 obtain⟨sa,sc,e1,_⟩:=hK.own.forms .slots (Live.slots m)
 have e1:val .slots=.slice sa m.slots.length sc:=e1
 have d2:=hK.five.2.2.1
 rw [e1] at hnum d2
 have hDl:=hK.lt
 have HK:Hid (DK W B D val m∧B≤W.heap.size∧shapeE m=0):=⟨hK,h2,hs⟩
 clear hK hSl h1 h2 hs hb e1
 go_enter Tryz.func40,Tryz.ntmps40
 go_wp2_with (go_at_call 41;refine hnum.mono ?_;rintro e' w1 ⟨rfl,hmap,b1⟩;have HM:Hid (w1.heap[W.heap.size]? = some (.map ((entK m.slots ((List.range m.slots.length).filter (kept m.slots))).toArray) (rnk m.slots m.slots.length))∧Below W.heap.size W w1):=⟨hmap,b1⟩;clear hmap b1)
 have b2:Below W.heap.size W (w1.alloc (.cells #[.map (some W.heap.size)] 67)):=HM.out.2.alloc HM.out.2.size _
 have hs2:W.heap.size+1≤w1.heap.size:=(Array.getElem?_eq_some_iff.1 HM.out.1).1
 have hmap2:=map_alloc HM.out.1 (.cells #[.map (some W.heap.size)] 67)
 have hK2:=HK.out.1.below b2
 have hg:=gather_is hK2 (Nat.le_trans HK.out.2.1 b2.size) hmap2 HK.out.2.2
 refine hg.mono ?_
 rintro e' w3 ⟨rfl,val3,hT⟩
 dsimp only
 have hz2:(w1.alloc (.cells #[.map (some W.heap.size)] 67)).heap.size=w1.heap.size+1:=by simp
 have hold:∀q,W.heap.size≤q→∀a,Live m a→(val a).ownBlock≠some q:=fun q hq a ha e=>by have:=((HK.out.1.own.row a ha).lt q e).2;omega
 have hN:NumB w3 w1.heap.size W.heap.size m.slots:=⟨(hT.keep w1.heap.size (by omega) (by omega) (nilV_own _) (hold _ (by omega))).trans (World.alloc_heap_new _ _),(hT.keep W.heap.size (by omega) (by omega) (nilV_own _) (hold _ (Nat.le_refl _))).trans hmap2⟩
 have hfar:∀a,Live (gathD m) a→(val3 a).ownBlock≠some w1.heap.size∧(val3 a).ownBlock≠some W.heap.size:=fun a ha=>⟨hT.src _ (by omega) (nilV_own _) (hold _ (by omega)) a ha,hT.src _ (by omega) (nilV_own _) (hold _ (Nat.le_refl _)) a ha⟩
 have hsh:=HK.out.2.2
 have hfit:=fits_small hsh
 have hren:=renumber_is hT.dk (Nat.le_trans (Nat.le_trans HK.out.2.1 b2.size) hT.bel.size) hN hfar hfit.1 hfit.2.1 hfit.2.2.1 hfit.2.2.2.1 hfit.2.2.2.2
 rw [rn_gath] at hren
 have cb:w3.cell? ⟨w1.heap.size,0,none⟩=some (.map (some W.heap.size)):=by simp [World.cell?,hN.1]
 have HT:Hid (∀w4,DTo w3 w4 B D (gathD m) val3 nilV (packD m) val3→DTo W w4 B D m val nilV (packD m) val3):=fun w4 h4=>DTo.first b2 HK.out.2.1 (hT.andThen h4) (fun q e=>by cases e)
 clear hT hN hfar hfit hg hK2 hmap2 hold
 have hmf:∀ (fn:Fn) (first cap:Array Value) (w:World),(Instr.makeFunc fn first cap).run Tryz.prog w=.ok (.func fn first cap) w:=fun _ _ _ _=>rfl
 go_wp2_with fail
 refine hren.mono ?_
 rintro e' w4 ⟨rfl,h4⟩
 dsimp only
 have HF:=HT.out w4 h4
 have HF':Hid (DTo W w4 B D m val nilV (packD m) val3):=HF
 clear h4 HF
 go_wp2_with fail
 go_end0
 first | exact⟨_,rfl,HF'.out⟩ | exact⟨rfl,_,HF'.out⟩
def pkM (m:ImgD):ImgD:=if checkE m=0 then packD m else imgZ
set_option maxHeartbeats 4000000 in
theorem pack_bad_at (m:ImgD)(ra:Option Addr)(rc:Nat)(sa:Option Addr)(sc:Nat)(fa:Option Addr)(fc:Nat)(na:Option Addr)(nc:Nat)(E:Int)(w:World)(h:Img w (.agg #[.int .i64 m.guest,.slice ra m.root.length rc,.slice sa m.slots.length sc,.slice fa m.refs.length fc,.slice na m.snaps.length nc]) m)(hE:checkE m=E)(hne:(E != 0)=true) :
  Calls Tryz.prog 17 #[.agg #[.int .i64 m.guest,.slice ra m.root.length rc,.slice sa m.slots.length sc,.slice fa m.refs.length fc,.slice na m.snaps.length nc]] w (AnsI w w.heap.size imgZ E):=by
 have b0:Below w.heap.size w ((w.alloc (.cells #[.int .i64 m.guest,.slice ra m.root.length rc,.slice sa m.slots.length sc,.slice fa m.refs.length fc,.slice na m.snaps.length nc] 27)).alloc (.cells #[.int .i64 0,.slice none 0 0,.slice none 0 0,.slice none 0 0,.slice none 0 0] 27)):=((Below.refl _ _).alloc (by simp;try omega) _).alloc (by simp;try omega) _
 have q0:(w.alloc (.cells #[.int .i64 m.guest,.slice ra m.root.length rc,.slice sa m.slots.length sc,.slice fa m.refs.length fc,.slice na m.snaps.length nc] 27)).heap[w.heap.size]? = some (.cells #[.int .i64 m.guest,.slice ra m.root.length rc,.slice sa m.slots.length sc,.slice fa m.refs.length fc,.slice na m.snaps.length nc] 27):=by have:=World.alloc_heap_new w (.cells #[.int .i64 m.guest,.slice ra m.root.length rc,.slice sa m.slots.length sc,.slice fa m.refs.length fc,.slice na m.snaps.length nc] 27);simpa using this
 have m0:((w.alloc (.cells #[.int .i64 m.guest,.slice ra m.root.length rc,.slice sa m.slots.length sc,.slice fa m.refs.length fc,.slice na m.snaps.length nc] 27)).alloc (.cells #[.int .i64 0,.slice none 0 0,.slice none 0 0,.slice none 0 0,.slice none 0 0] 27)).heap[w.heap.size]? = some (.cells #[.int .i64 m.guest,.slice ra m.root.length rc,.slice sa m.slots.length sc,.slice fa m.refs.length fc,.slice na m.snaps.length nc] 27):=(cells_alloc q0 _)
 have q1:((w.alloc (.cells #[.int .i64 m.guest,.slice ra m.root.length rc,.slice sa m.slots.length sc,.slice fa m.refs.length fc,.slice na m.snaps.length nc] 27)).alloc (.cells #[.int .i64 0,.slice none 0 0,.slice none 0 0,.slice none 0 0,.slice none 0 0] 27)).heap[w.heap.size+1]? = some (.cells #[.int .i64 0,.slice none 0 0,.slice none 0 0,.slice none 0 0,.slice none 0 0] 27):=by have:=World.alloc_heap_new (w.alloc (.cells #[.int .i64 m.guest,.slice ra m.root.length rc,.slice sa m.slots.length sc,.slice fa m.refs.length fc,.slice na m.snaps.length nc] 27)) (.cells #[.int .i64 0,.slice none 0 0,.slice none 0 0,.slice none 0 0,.slice none 0 0] 27);simpa using this
 have m1:((w.alloc (.cells #[.int .i64 m.guest,.slice ra m.root.length rc,.slice sa m.slots.length sc,.slice fa m.refs.length fc,.slice na m.snaps.length nc] 27)).alloc (.cells #[.int .i64 0,.slice none 0 0,.slice none 0 0,.slice none 0 0,.slice none 0 0] 27)).heap[w.heap.size+1]? = some (.cells #[.int .i64 0,.slice none 0 0,.slice none 0 0,.slice none 0 0,.slice none 0 0] 27):=q1
 have hz:((w.alloc (.cells #[.int .i64 m.guest,.slice ra m.root.length rc,.slice sa m.slots.length sc,.slice fa m.refs.length fc,.slice na m.snaps.length nc] 27)).alloc (.cells #[.int .i64 0,.slice none 0 0,.slice none 0 0,.slice none 0 0,.slice none 0 0] 27)).heap.size=w.heap.size+1+1:=by simp
 clear q0 q1
 have hchk:=tcheck_is (h.below b0) hE
 obtain⟨c0,c1,c2,c3,c4⟩:=five m0
 have HM:Hid ((Below w.heap.size w ((w.alloc (.cells #[.int .i64 m.guest,.slice ra m.root.length rc,.slice sa m.slots.length sc,.slice fa m.refs.length fc,.slice na m.snaps.length nc] 27)).alloc (.cells #[.int .i64 0,.slice none 0 0,.slice none 0 0,.slice none 0 0,.slice none 0 0] 27))∧((w.alloc (.cells #[.int .i64 m.guest,.slice ra m.root.length rc,.slice sa m.slots.length sc,.slice fa m.refs.length fc,.slice na m.snaps.length nc] 27)).alloc (.cells #[.int .i64 0,.slice none 0 0,.slice none 0 0,.slice none 0 0,.slice none 0 0] 27)).heap.size=w.heap.size+1+1)∧((w.alloc (.cells #[.int .i64 m.guest,.slice ra m.root.length rc,.slice sa m.slots.length sc,.slice fa m.refs.length fc,.slice na m.snaps.length nc] 27)).alloc (.cells #[.int .i64 0,.slice none 0 0,.slice none 0 0,.slice none 0 0,.slice none 0 0] 27)).heap[w.heap.size]? = some (.cells #[.int .i64 m.guest,.slice ra m.root.length rc,.slice sa m.slots.length sc,.slice fa m.refs.length fc,.slice na m.snaps.length nc] 27)∧((w.alloc (.cells #[.int .i64 m.guest,.slice ra m.root.length rc,.slice sa m.slots.length sc,.slice fa m.refs.length fc,.slice na m.snaps.length nc] 27)).alloc (.cells #[.int .i64 0,.slice none 0 0,.slice none 0 0,.slice none 0 0,.slice none 0 0] 27)).heap[w.heap.size+1]? = some (.cells #[.int .i64 0,.slice none 0 0,.slice none 0 0,.slice none 0 0,.slice none 0 0] 27)):=⟨⟨b0,hz⟩,m0,m1⟩
 clear h m0 m1 hz b0 hE
 go_enter Tryz.func17,Tryz.ntmps17
 go_wp2_with (go_at_call 38;refine hchk.mono ?_;rintro e w1 ⟨rfl,b1⟩;have k3:=cells_below HM.out.2.2 b1 (by rw [HM.out.1.2];omega);obtain⟨z0,z1,z2,z3,z4⟩:=five k3;have y0:=cells_frozen k3 0;have y1:=cells_frozen k3 1;have y2:=cells_frozen k3 2;have y3:=cells_frozen k3 3;have y4:=cells_frozen k3 4;have HB:Hid (Below w.heap.size w w1):=Below.on HM.out.1.1 b1;clear b1 k3)
 have i1:w.heap.size≤w.heap.size+1:=by omega
 refine bodyPost_ret (v:=.tuple #[.agg #[.int .i64 0,.slice none 0 0,.slice none 0 0,.slice none 0 0,.slice none 0 0],.int .i64 E]) (by simp [results,Tryz.results17,go_sem,z0,z1,z2,z3,z4]) rfl (AnsI.bad E (((((HB.out.setCell i1 _).setCell i1 _).setCell i1 _).setCell i1 _).setCell i1 _))
set_option maxHeartbeats 4000000 in
theorem pack_ok_at (m:ImgD)(ra:Option Addr)(rc:Nat)(sa:Option Addr)(sc:Nat)(fa:Option Addr)(fc:Nat)(na:Option Addr)(nc:Nat)(w:World)(h:Img w (.agg #[.int .i64 m.guest,.slice ra m.root.length rc,.slice sa m.slots.length sc,.slice fa m.refs.length fc,.slice na m.snaps.length nc]) m)(hE:checkE m=0)(M:ImgD)(hM:packD m=M) :
  Calls Tryz.prog 17 #[.agg #[.int .i64 m.guest,.slice ra m.root.length rc,.slice sa m.slots.length sc,.slice fa m.refs.length fc,.slice na m.snaps.length nc]] w (AnsI w w.heap.size M 0):=by
 have b0:Below w.heap.size w ((w.alloc (.cells #[.int .i64 m.guest,.slice ra m.root.length rc,.slice sa m.slots.length sc,.slice fa m.refs.length fc,.slice na m.snaps.length nc] 27)).alloc (.cells #[.int .i64 0,.slice none 0 0,.slice none 0 0,.slice none 0 0,.slice none 0 0] 27)):=((Below.refl _ _).alloc (by simp;try omega) _).alloc (by simp;try omega) _
 have q0:(w.alloc (.cells #[.int .i64 m.guest,.slice ra m.root.length rc,.slice sa m.slots.length sc,.slice fa m.refs.length fc,.slice na m.snaps.length nc] 27)).heap[w.heap.size]? = some (.cells #[.int .i64 m.guest,.slice ra m.root.length rc,.slice sa m.slots.length sc,.slice fa m.refs.length fc,.slice na m.snaps.length nc] 27):=by have:=World.alloc_heap_new w (.cells #[.int .i64 m.guest,.slice ra m.root.length rc,.slice sa m.slots.length sc,.slice fa m.refs.length fc,.slice na m.snaps.length nc] 27);simpa using this
 have m0:((w.alloc (.cells #[.int .i64 m.guest,.slice ra m.root.length rc,.slice sa m.slots.length sc,.slice fa m.refs.length fc,.slice na m.snaps.length nc] 27)).alloc (.cells #[.int .i64 0,.slice none 0 0,.slice none 0 0,.slice none 0 0,.slice none 0 0] 27)).heap[w.heap.size]? = some (.cells #[.int .i64 m.guest,.slice ra m.root.length rc,.slice sa m.slots.length sc,.slice fa m.refs.length fc,.slice na m.snaps.length nc] 27):=(cells_alloc q0 _)
 have q1:((w.alloc (.cells #[.int .i64 m.guest,.slice ra m.root.length rc,.slice sa m.slots.length sc,.slice fa m.refs.length fc,.slice na m.snaps.length nc] 27)).alloc (.cells #[.int .i64 0,.slice none 0 0,.slice none 0 0,.slice none 0 0,.slice none 0 0] 27)).heap[w.heap.size+1]? = some (.cells #[.int .i64 0,.slice none 0 0,.slice none 0 0,.slice none 0 0,.slice none 0 0] 27):=by have:=World.alloc_heap_new (w.alloc (.cells #[.int .i64 m.guest,.slice ra m.root.length rc,.slice sa m.slots.length sc,.slice fa m.refs.length fc,.slice na m.snaps.length nc] 27)) (.cells #[.int .i64 0,.slice none 0 0,.slice none 0 0,.slice none 0 0,.slice none 0 0] 27);simpa using this
 have m1:((w.alloc (.cells #[.int .i64 m.guest,.slice ra m.root.length rc,.slice sa m.slots.length sc,.slice fa m.refs.length fc,.slice na m.snaps.length nc] 27)).alloc (.cells #[.int .i64 0,.slice none 0 0,.slice none 0 0,.slice none 0 0,.slice none 0 0] 27)).heap[w.heap.size+1]? = some (.cells #[.int .i64 0,.slice none 0 0,.slice none 0 0,.slice none 0 0,.slice none 0 0] 27):=q1
 have hz:((w.alloc (.cells #[.int .i64 m.guest,.slice ra m.root.length rc,.slice sa m.slots.length sc,.slice fa m.refs.length fc,.slice na m.snaps.length nc] 27)).alloc (.cells #[.int .i64 0,.slice none 0 0,.slice none 0 0,.slice none 0 0,.slice none 0 0] 27)).heap.size=w.heap.size+1+1:=by simp
 clear q0 q1
 have hchk:=tcheck_is (h.below b0) hE
 obtain⟨c0,c1,c2,c3,c4⟩:=five m0
 have HO:Hid (∀w1,Below ((w.alloc (.cells #[.int .i64 m.guest,.slice ra m.root.length rc,.slice sa m.slots.length sc,.slice fa m.refs.length fc,.slice na m.snaps.length nc] 27)).alloc (.cells #[.int .i64 0,.slice none 0 0,.slice none 0 0,.slice none 0 0,.slice none 0 0] 27)).heap.size ((w.alloc (.cells #[.int .i64 m.guest,.slice ra m.root.length rc,.slice sa m.slots.length sc,.slice fa m.refs.length fc,.slice na m.snaps.length nc] 27)).alloc (.cells #[.int .i64 0,.slice none 0 0,.slice none 0 0,.slice none 0 0,.slice none 0 0] 27)) w1→Calls Tryz.prog 39 #[.agg #[.int .i64 m.guest,.slice ra m.root.length rc,.slice sa m.slots.length sc,.slice fa m.refs.length fc,.slice na m.snaps.length nc],.func (.func 40) #[] #[]] w1 (AnsI w1 w1.heap.size M 0)):=fun w1 b1=>by
  have ho:=of_is (h.below (Below.on b0 b1)) (fits_of_shape (checkE_shape hE)) (enters_of Tryz.func40 (by kernel_rfl) rfl) (pack_turn (w:=w1) (checkE_shape hE))
  have hsh:=pack_shape (checkE_shape hE)
  have e1:ofM (some (packD m))=M:=by unfold ofM;dsimp only;rw [if_pos hsh,counted_same (pack_right hE)];exact hM
  have e2:ofE (some (packD m))=0:=hsh
  rw [e1,e2] at ho
  exact ho
 have HM:Hid ((Below w.heap.size w ((w.alloc (.cells #[.int .i64 m.guest,.slice ra m.root.length rc,.slice sa m.slots.length sc,.slice fa m.refs.length fc,.slice na m.snaps.length nc] 27)).alloc (.cells #[.int .i64 0,.slice none 0 0,.slice none 0 0,.slice none 0 0,.slice none 0 0] 27))∧((w.alloc (.cells #[.int .i64 m.guest,.slice ra m.root.length rc,.slice sa m.slots.length sc,.slice fa m.refs.length fc,.slice na m.snaps.length nc] 27)).alloc (.cells #[.int .i64 0,.slice none 0 0,.slice none 0 0,.slice none 0 0,.slice none 0 0] 27)).heap.size=w.heap.size+1+1)∧((w.alloc (.cells #[.int .i64 m.guest,.slice ra m.root.length rc,.slice sa m.slots.length sc,.slice fa m.refs.length fc,.slice na m.snaps.length nc] 27)).alloc (.cells #[.int .i64 0,.slice none 0 0,.slice none 0 0,.slice none 0 0,.slice none 0 0] 27)).heap[w.heap.size]? = some (.cells #[.int .i64 m.guest,.slice ra m.root.length rc,.slice sa m.slots.length sc,.slice fa m.refs.length fc,.slice na m.snaps.length nc] 27)∧((w.alloc (.cells #[.int .i64 m.guest,.slice ra m.root.length rc,.slice sa m.slots.length sc,.slice fa m.refs.length fc,.slice na m.snaps.length nc] 27)).alloc (.cells #[.int .i64 0,.slice none 0 0,.slice none 0 0,.slice none 0 0,.slice none 0 0] 27)).heap[w.heap.size+1]? = some (.cells #[.int .i64 0,.slice none 0 0,.slice none 0 0,.slice none 0 0,.slice none 0 0] 27)):=⟨⟨b0,hz⟩,m0,m1⟩
 clear h m0 m1 hz b0 hE hM
 go_enter Tryz.func17,Tryz.ntmps17
 go_wp2_with (go_at_call 38;refine hchk.mono ?_;rintro e w1 ⟨rfl,b1⟩;have d0:=cells_below HM.out.2.1 b1 (by rw [HM.out.1.2];omega);obtain⟨x1,x2,x3,x4,x5⟩:=five d0;have hof:=HO.out w1 b1;have HV:Hid (Below w.heap.size w w1∧w1.heap[w.heap.size+1]? = some (.cells #[.int .i64 0,.slice none 0 0,.slice none 0 0,.slice none 0 0,.slice none 0 0] 27)∧w.heap.size+1<w1.heap.size):=(⟨Below.on HM.out.1.1 b1,cells_below HM.out.2.2 b1 (by rw [HM.out.1.2];omega),by have:=b1.size;rw [HM.out.1.2] at this;omega⟩);clear b1 d0)
 refine hof.mono ?_
 intro e w3 hA
 obtain⟨val,ga,gc,la,lc,oa,oc,ta,tc,rfl,hO,b1,hI⟩:=hA.open
 dsimp only
 have k3:=cells_below HV.out.2.1 b1 HV.out.2.2
 obtain⟨z0,z1,z2,z3,z4⟩:=five k3
 have y0:=cells_frozen k3 0
 have y1:=cells_frozen k3 1
 have y2:=cells_frozen k3 2
 have y3:=cells_frozen k3 3
 have y4:=cells_frozen k3 4
 have HP:Hid (OI w3 w1.heap.size val M):=hO
 have HB:Hid (Below w.heap.size w w3):=Below.on HV.out.1 b1
 have HI:Hid (imgV M.guest val=.agg #[.int .i64 M.guest,.slice ga M.root.length gc,.slice la M.slots.length lc,.slice oa M.refs.length oc,.slice ta M.snaps.length tc]):=hI
 clear hO b1 hI hof hA
 go_wp2_with fail
 have i1:w.heap.size≤w.heap.size+1:=by omega
 have hf1:∀a,Live M a→(val a).ownBlock≠some (w.heap.size+1):=fun a ha e=>by have:=((HP.out.row a ha).lt _ e).1;have:=HV.out.2.2;omega
 refine bodyPost_ret (v:=.tuple #[.agg #[.int .i64 M.guest,.slice ga M.root.length gc,.slice la M.slots.length lc,.slice oa M.refs.length oc,.slice ta M.snaps.length tc],.int .i64 0]) (by simp [results,Tryz.results17,go_sem,z0,z1,z2,z3,z4]) rfl ⟨val,by rw [HI.out],OI.mono (((((HP.out.far hf1).far hf1).far hf1).far hf1).far hf1) (by have:=HV.out.2.2;omega),((((HB.out.setCell i1 _).setCell i1 _).setCell i1 _).setCell i1 _).setCell i1 _⟩
theorem pack_is {w:World}{v:Value}{m:ImgD}(h:Img w v m){M:ImgD}{E:Int}(hM:pkM m=M)(hE:checkE m=E) :
  Calls Tryz.prog 17 #[v] w (AnsI w w.heap.size M E):=by
 have h':=h
 obtain⟨ra,rc,sa,sc,fa,fc,na,nc,rfl,_⟩:=h.parts
 by_cases hC:checkE m=0
 ·have e:E=0:=hE.symm.trans hC
  subst e
  exact pack_ok_at m ra rc sa sc fa fc na nc w h' hC M (by unfold pkM at hM;rw [if_pos hC] at hM;exact hM)
 ·have:M=imgZ:=by unfold pkM at hM;rw [if_neg hC] at hM;exact hM.symm
  subst this
  exact pack_bad_at m ra rc sa sc fa fc na nc E w h' hE (by rw [←hE];simpa using hC)
end Go.Proofs.YtehleeibgkpjmafGreat
namespace Go.Proofs.YtehleeibgkpjmafGreat
open Go.RowKit
set_option maxRecDepth 20000
def Ss (w:World) (v:Value) (xs:List ByteArray):Prop:=
 ∃ao cap,v=.slice ao xs.length cap∧xs.length≤maxLen∧xs.length≤cap∧(xs≠[]→∃b off,ao=some ⟨b,off,none⟩∧b<w.heap.size∧∀j,j<xs.length→w.cell? ⟨b,off+j,none⟩=some (.string (xs.getD j ByteArray.empty)))
theorem Ss.below {w w1:World}{v:Value}{xs:List ByteArray}(h:Ss w v xs)(hb:Below w.heap.size w w1):Ss w1 v xs:=by
 obtain⟨ao,cap,hv,hm,hcp,hc⟩:=h
 refine⟨ao,cap,hv,hm,hcp,fun hne=>?_⟩
 obtain⟨b,off,ha,hlt,hcell⟩:=hc hne
 exact⟨b,off,ha,Nat.lt_of_lt_of_le hlt hb.size,fun j hj=>(hb.cell (p:=⟨b,off+j,none⟩) hlt).trans (hcell j hj)⟩
theorem Ss.nil (w:World):Ss w (.slice none 0 0) []:=⟨none,0,rfl,Nat.zero_le _,Nat.zero_le _,fun h=>absurd rfl h⟩
theorem Ss.cells {w:World}{ao:Option Addr}{n cap:Nat}{xs:List ByteArray}(h:Ss w (.slice ao n cap) xs) :
  xs.length=n∧n≤9223372036854775807∧n≤cap∧∀j,j<n→∃b off,ao=some ⟨b,off,none⟩∧b<w.heap.size∧w.cell? ⟨b,off+j,none⟩=some (.string (xs.getD j ByteArray.empty)):=by
 obtain⟨ao',cap',hv,hm,hcp,hc⟩:=h
 simp only [Value.slice.injEq] at hv
 obtain⟨rfl,rfl,rfl⟩:=hv
 unfold maxLen at hm
 refine⟨rfl,by omega,hcp,fun j hj=>?_⟩
 obtain⟨b,off,rfl,hlt,hcell⟩:=hc (by intro e;rw [e] at hj;simp at hj)
 exact⟨b,off,rfl,hlt,hcell j hj⟩
theorem Ss.form {w:World}{v:Value}{xs:List ByteArray}(h:Ss w v xs):∃ao cap,v=.slice ao xs.length cap:=by
 obtain⟨ao,cap,hv,_⟩:=h;exact⟨ao,cap,hv⟩
theorem Ss.at {w:World}{ao:Option Addr}{n cap:Nat}{xs:List ByteArray}(h:Ss w (.slice ao n cap) xs)(hpos:0<n) :
  ∃b off,ao=some ⟨b,off,none⟩∧b<w.heap.size∧∀j,j<n→w.cell? ⟨b,off+j,none⟩=some (.string (xs.getD j ByteArray.empty)):=by
 obtain⟨ao',cap',hv,hm,hcp,hc⟩:=h
 simp only [Value.slice.injEq] at hv
 obtain⟨rfl,rfl,rfl⟩:=hv
 exact hc (by intro e;rw [e] at hpos;simp at hpos)
theorem Ss_of_own {w:World}{base:Nat}{g n cap:Nat}{xs:List ByteArray}(h:w.ownsRow base 9 1 (.slice (some ⟨g,0,none⟩) n cap) n (xs.map Value.string)):Ss w (.slice (some ⟨g,0,none⟩) n cap) xs:=by
 have hl:xs.length=n:=by have:=h.1;simpa using this
 have hc:=fun j=>h.cellAt j
 obtain⟨_,h2⟩:=h
 rcases h2 with ⟨h',_⟩ | ⟨g',cap',cur,h',_,hg,hnc,hcm,_,_⟩
 ·simp at h'
 ·simp only [Value.slice.injEq,Option.some.injEq,Addr.mk.injEq,and_true,true_and] at h'
  obtain⟨rfl,rfl⟩:=h'
  refine⟨_,cap,by rw [hl],by rw [hl];exact Nat.le_trans hnc hcm,by rw [hl];exact hnc,fun _=>⟨g,0,rfl,(szH hg),fun j hj=>?_⟩⟩
  rw [Nat.zero_add,hc j (by omega)]
  simp [List.getD,hj]
theorem Ss.past {w:World}{v:Value}{xs:List ByteArray}(h:Ss w v xs)(o:Obj):Ss (w.alloc o) v xs:=h.below ((Below.refl _ _).alloc (Nat.le_refl _) o)
theorem owns_below {w w1:World}{B:Nat}{v:Value}{n:Nat}{xs:List Value}(h:w.ownsRow B 9 1 v n xs)(hb:Below w.heap.size w w1):w1.ownsRow B 9 1 v n xs:=by
 refine⟨h.1,?_⟩
 rcases h.2 with h' | ⟨g,cap,cur,hv,hg,hh,r⟩
 ·exact .inl h'
 ·exact .inr ⟨g,cap,cur,hv,hg,(hb.block g (szH hh)).trans hh,r⟩
theorem Below.on'' {B:Nat}{w w1 w2:World}(h:Below B w w1)(k:Below w1.heap.size w1 w2)(hB:B≤w1.heap.size):Below B w w2:=h.trans (k.mono hB)
def ckP (xs:List ByteArray):Int:=if xs.length≤16 then (if xs.all (fun p=>decide (p.size=4))=true then 0 else 1) else 2
theorem ckP_many {xs:List ByteArray}(h:¬xs.length≤16):ckP xs=2:=by unfold ckP;rw [if_neg h]
theorem ckP_bad {xs:List ByteArray}(h:xs.length≤16){j:Nat}(hj:j<xs.length)(hb:(xs.getD j ByteArray.empty).size≠4):ckP xs=1:=by
 unfold ckP
 rw [if_pos h,if_neg]
 intro ha
 rw [List.all_eq_true] at ha
 have:=ha _ (List.getElem_mem hj)
 simp [List.getD,hj] at hb
 simp [hb] at this
theorem ckP_ok {xs:List ByteArray}(h:xs.length≤16)(ha:∀j,j<xs.length→(xs.getD j ByteArray.empty).size=4):ckP xs=0:=by
 unfold ckP
 rw [if_pos h,if_pos]
 rw [List.all_eq_true]
 intro x hx
 obtain⟨j,hj,rfl⟩:=List.getElem_of_mem hx
 have:=ha j hj
 simpa [List.getD,hj] using this
end Go.Proofs.YtehleeibgkpjmafGreat
namespace Go.Proofs.YtehleeibgkpjmafGreat
open Go.RowKit
end Go.Proofs.YtehleeibgkpjmafGreat
namespace Go.Proofs.YtehleeibgkpjmafGreat
open Go.RowKit Go.Shelf
set_option maxRecDepth 20000
def rerootD (M:ImgD) (g:Nat):ImgD:={ M with guest:=(g:Int),root:=(M.root ++ List.replicate ((g+3) / 4 - M.root.length) 0).take ((g+3) / 4) }
def cutD (m:ImgD) (g:Nat):Option ImgD:=
 if g % 4≠0∧g / 4<m.root.length∧cutR (tableO m (g / 4)) (g % 4)≠tableO m (g / 4) then tabledD m (g / 4) (cutR (tableO m (g / 4)) (g % 4)) else some m
def resizeD (m:ImgD) (g:Nat):Option ImgD:=(cutD m g).map (fun M=>countedD (rerootD M g))
theorem reroot_get (M:ImgD)(g j:Nat)(hj:j<(g+3) / 4):(rerootD M g).root.getD j 0=M.root.getD j 0:=by
 show ((M.root ++ List.replicate ((g+3) / 4 - M.root.length) 0).take ((g+3) / 4)).getD j 0=_
 simp only [List.getD,List.getElem?_take,hj,if_true]
 rw [List.getElem?_append]
 split
 ·rfl
 ·rename_i h
  rw [List.getElem?_eq_none (l:=M.root) (by omega),List.getElem?_replicate]
  split <;> rfl
theorem reroot_length (M:ImgD)(g:Nat):(rerootD M g).root.length=(g+3) / 4:=by
 show ((M.root ++ List.replicate ((g+3) / 4 - M.root.length) 0).take ((g+3) / 4)).length=_
 simp;omega
theorem reroot_mem {M:ImgD}{g:Nat}{x:Int}(h:x ∈ (rerootD M g).root):x=0∨x ∈ M.root:=by
 have h:x ∈ M.root ++ List.replicate ((g+3) / 4 - M.root.length) 0:=List.mem_of_mem_take h
 rcases List.mem_append.1 h with h | h
 ·exact .inr h
 ·exact .inl (List.mem_replicate.1 h).2
theorem cutR_get {es:List Int}(h4:es.length=4){n:Nat}(hn:n≤4)(i:Nat):(cutR es n).getD i 0=if i<n then es.getD i 0 else 0:=by
 unfold cutR
 simp only [List.getD]
 rw [List.getElem?_append,List.length_take]
 by_cases h:i<n
 ·rw [if_pos (by omega),if_pos h,List.getElem?_take,if_pos h]
 ·rw [if_neg (by omega),if_neg h,List.getElem?_replicate]
  split <;> rfl
theorem cutR_mem {es:List Int}{n:Nat}{x:Int}(h:x ∈ cutR es n):x ∈ es∨x=0:=by
 unfold cutR at h
 rcases List.mem_append.1 h with h | h
 ·exact .inl (List.mem_of_mem_take h)
 ·exact .inr (List.mem_replicate.1 h).2
theorem cutR_ck' {es:List Int}(h:ckE es=0){n:Nat}(hn:n≤4):ckE (cutR es n)=0:=by
 refine ckE_yes (by unfold cutR;simp;have:=ckE_len h;omega) ?_
 rw [List.all_eq_true]
 intro x hx
 rcases cutR_mem hx with hm | hm
 ·exact List.all_eq_true.1 (ckE_all h) x hm
 ·rw [hm];rfl
theorem drop_zero {es:List Int}{i:Nat}(h:∀j,i≤j→j<es.length→es.getD j 0=0):(es.drop i).all (fun e=>e == 0)=true:=by
 rw [List.all_eq_true]
 intro x hx
 obtain⟨j,hj,rfl⟩:=List.getElem_of_mem hx
 rw [List.getElem_drop]
 simp at hj
 have:=h (i+j) (by omega) (by omega)
 rw [getD_at (by omega)] at this
 simpa using this
theorem of_drop_zero {es:List Int}{i:Nat}(h:(es.drop i).all (fun e=>e == 0)=true){j:Nat}(h1:i≤j):es.getD j 0=0:=by
 rcases Nat.lt_or_ge j es.length with hj | hj
 ·have hm:es[j] ∈ es.drop i:=by
   rw [List.mem_iff_getElem]
   refine⟨j - i,by simp;omega,?_⟩
   rw [List.getElem_drop];congr 1;omega
  have:=List.all_eq_true.1 h _ hm
  rw [getD_at hj];simpa using this
 ·simp [List.getD,Nat.not_lt.2 hj]
theorem cut_tail {m:ImgD}{k:Nat}{es:List Int}(h:TailZ m k es)(h4:es.length=4){n:Nat}(hn:n≤4):TailZ m k (cutR es n):=by
 intro h1 h2
 have:=h h1 h2
 refine drop_zero fun j hj hl=>?_
 rw [cutR_get h4 hn]
 split
 ·exact of_drop_zero this hj
 ·rfl
theorem cut_laid {m:ImgD}(hC:checkE m=0){g:Nat}{M:ImgD}(hM:cutD m g=some M):(∃es,Laid m M (g / 4) es∧(g / 4<m.root.length→∀i,es.getD i 0=if g % 4=0∨i<g % 4 then (tableO m (g / 4)).getD i 0 else 0))∧M.slots.length≤m.slots.length+1:=by
 have h:=checkE_shape hC
 unfold cutD at hM
 split at hM
 ·rename_i hc
  obtain⟨h1,h2,h3⟩:=hc
  obtain⟨ock,oent⟩:=tableO_ok h h2
  have h4:=ckE_len ock
  obtain⟨hL,hlen⟩:=tabled_laid hC h2 (cutR_ck' ock (by omega)) (fun e he=>(cutR_mem he).elim (fun hm=>oent e hm) (fun hm=>by rw [hm];rfl)) (cut_tail (tableO_tail h _) h4 (by omega)) hM
  refine⟨⟨_,hL,fun _ i=>?_⟩,hlen⟩
  rw [cutR_get h4 (by omega)]
  by_cases hi:i<g % 4
  ·rw [if_pos hi,if_pos (.inr hi)]
  ·rw [if_neg hi,if_neg (fun x=>x.elim h1 hi)]
 ·rename_i hc
  simp at hM
  subst hM
  refine⟨⟨tableO m (g / 4),⟨h,rfl,rfl,rfl,fun q hq=>?_,fun _ _ _ _=>rfl,fun _ _=>rfl⟩,fun hk i=>?_⟩,Nat.le_succ _⟩
  ·by_cases e:q / 4=g / 4
   ·rw [if_pos e,← e,← lookV_tableO]
   ·rw [if_neg e]
  ·by_cases hg:g % 4=0
   ·rw [if_pos (.inl hg)]
   ·have hce:cutR (tableO m (g / 4)) (g % 4)=tableO m (g / 4):=Classical.byContradiction fun x=>hc ⟨hg,hk,x⟩
    have h4:=ckE_len (tableO_ok h hk).1
    have e:=cutR_get h4 (n:=g % 4) (by omega) i
    rw [hce] at e
    by_cases hi:i<g % 4
    ·rw [if_pos (.inr hi)]
    ·rw [if_neg (fun x=>x.elim hg hi),e,if_neg hi]
theorem tab_look {M:ImgD}{k i:Nat}(hz:M.root.getD k 0≠0)(hi:i<4):(tabOf M.slots (M.root.getD k 0)).getD i 0=lookV M M.root (4*k+i):=by
 unfold lookV
 have e1:(4*k+i) / 4=k:=by omega
 have e2:(4*k+i) % 4=i:=by omega
 rw [e1,e2,if_neg hz]
theorem resize_shape {m:ImgD}(hC:checkE m=0){g:Nat}(hg:g≤16){M:ImgD}(hM:cutD m g=some M):shapeE (rerootD M g)=0:=by
 have h:=checkE_shape hC
 obtain⟨⟨es,hL,hes⟩,_⟩:=cut_laid hC hM
 have hrM:=root_ok hL.shape
 refine reroot_shape hL.shape (by unfold guestOK;exact decide_eq_true (by omega)) ?_
 show rootFit M.slots (g:Int) (rerootD M g).root=true
 unfold rootFit
 simp only [Bool.and_eq_true,decide_eq_true_eq]
 refine⟨by rw [reroot_length];omega,?_,?_⟩
 ·rw [List.all_eq_true]
  intro x hx
  rcases reroot_mem hx with e | e
  ·rw [e];rfl
  ·exact List.all_eq_true.1 hrM.2 x e
 ·unfold lastFit
  by_cases hg4:g % 4=0
  ·have:((g:Int) % 4 == 0)=true:=by simp;omega
   rw [this];rfl
  ·have hw:(g+3) / 4 - 1=g / 4:=by omega
   rw [reroot_length,hw,reroot_get M g _ (by omega)]
   have hgm:((g:Int) % 4).toNat=g % 4:=by omega
   rw [hgm]
   by_cases hz:M.root.getD (g / 4) 0=0
   ·rw [hz];simp
   ·have hk:g / 4<M.root.length:=by
     rcases Nat.lt_or_ge (g / 4) M.root.length with h' | h'
     ·exact h'
     ·exact absurd (by simp [List.getD,Nat.not_lt.2 h']) hz
    have hkm:g / 4<m.root.length:=by rw [←hL.rlen];exact hk
    have hE:=all_at hrM.2 hk
    rw [rootE_x hz] at hE
    have h4:=tab_len (shapeE_zero hL.shape).2.1 hE
    have:((tabOf M.slots (M.root.getD (g / 4) 0)).drop (g % 4)).all (fun e=>e == 0)=true:=by
     refine drop_zero fun j hj hl=>?_
     rw [h4] at hl
     rw [tab_look hz hl,hL.look _ (by omega),if_pos (by omega),show (4*(g / 4)+j) % 4=j by omega,hes hkm,if_neg (by omega)]
    rw [this];simp
theorem le_two {f:Nat→Nat}{a b:Nat} : ∀ {n:Nat},a<n→b<n→a≠b→f a+f b≤((List.range n).map f).sum
 | 0,h,_,_=>absurd h (by omega)
 | n+1,ha,hb,hne=>by
  rw [List.range_succ,List.map_append,List.sum_append]
  by_cases ea:a=n
  ·have:=le_sum (f:=f) (n:=n) (k:=b) (by omega);subst ea;simp;omega
  ·by_cases eb:b=n
   ·have:=le_sum (f:=f) (n:=n) (k:=a) (by omega);subst eb;simp;omega
   ·have:=le_two (f:=f) (a:=a) (b:=b) (n:=n) (by omega) (by omega) hne;simp;omega
theorem look_by {m:ImgD}(h:shapeE m=0){root:List Int}(hall:root.all (rootE m.slots)=true){q:Nat}(hl:q / 4<root.length){e:Nat}(e1:1≤e)(hq:lookV m root q=(e:Int)) :
  ∃j:Nat,root.getD (q / 4) 0=(j:Int)∧(j:Int) ∈ root∧j<m.slots.length∧kd m.slots j=2∧q % 4<(tabOf m.slots j).length∧(tabOf m.slots j).getD (q % 4) 0=(e:Int):=by
 unfold lookV at hq
 by_cases hz:root.getD (q / 4) 0=0
 ·rw [if_pos hz] at hq;omega
 rw [if_neg hz] at hq
 have hE:=all_at hall hl
 have hE2:=hE
 rw [rootE_x hz] at hE2
 have h4:=tab_len (shapeE_zero h).2.1 hE2
 rcases rootE_cases hE with e0 | ⟨j,ej,hj,hk⟩
 ·exact absurd e0 hz
 ·refine⟨j,ej,?_,hj,hk,?_,?_⟩
  ·rw [←ej,getD_at hl];exact List.getElem_mem hl
  ·rw [←ej];omega
  ·rw [←ej];exact hq
theorem told_twice {m:ImgD}{e:Nat}(e1:1≤e)(hc:cntI m.slots (flatR m) e=1){j i j' i':Nat}(hj:j<m.slots.length)(hk:kd m.slots j=2)(hm:(j:Int) ∈ flatR m)(hi:i<(tabOf m.slots j).length)(ht:(tabOf m.slots j).getD i 0=(e:Int))
  (hj':j'<m.slots.length) (hk':kd m.slots j'=2) (hm':(j':Int) ∈ flatR m) (hi':i'<(tabOf m.slots j').length) (ht':(tabOf m.slots j').getD i' 0=(e:Int)):j=j'∧i=i':=by
 unfold cntI at hc
 rw [if_neg (by omega)] at hc
 have hs:sumT m.slots (flatR m) (e:Int)≤1:=by omega
 have t1:toldT m.slots (flatR m) e j=(tabOf m.slots j).count (e:Int):=by unfold toldT;rw [if_pos ⟨hk,hm⟩]
 have t2:toldT m.slots (flatR m) e j'=(tabOf m.slots j').count (e:Int):=by unfold toldT;rw [if_pos ⟨hk',hm'⟩]
 have c1:1≤(tabOf m.slots j).count (e:Int):=List.count_pos_iff.2 (by rw [←ht,getD_at hi];exact List.getElem_mem hi)
 have c2:1≤(tabOf m.slots j').count (e:Int):=List.count_pos_iff.2 (by rw [←ht',getD_at hi'];exact List.getElem_mem hi')
 have ej:j=j':=Classical.byContradiction fun hne=>by
  have:=le_two (f:=toldT m.slots (flatR m) e) hj hj' hne
  unfold sumT at hs
  omega
 subst ej
 refine⟨rfl,Classical.byContradiction fun hne=>?_⟩
 have h2:2≤(tabOf m.slots j).count (e:Int):=by
  rcases Nat.lt_or_ge i i' with hl | hl
  ·exact count_two _ i i' hl hi' ht ht'
  ·exact count_two _ i' i (by omega) hi ht' ht
 have:=le_sum (f:=toldT m.slots (flatR m) e) (n:=m.slots.length) (k:=j) hj
 unfold sumT at hs
 omega
theorem inplace_only {m:ImgD}(hC:checkE m=0){n:Nat}(hn:(n:Int)<m.guest)(hi:wInPl m n=true) :
  ∃e:Nat,lookV m m.root n=(e:Int)∧1≤e∧e<m.slots.length∧kd m.slots e=1∧(∀q,q / 4<m.root.length→q≠n→lookV m m.root q≠(e:Int))∧∀s ∈ m.snaps,∀q,q / 4<s.2.2.length→lookV m s.2.2 q≠(e:Int):=by
 obtain⟨h,hcnt,_⟩:=checkE_zero hC
 have hr:=root_ok h
 have hg:=guest_ok h
 have hk:n / 4<m.root.length:=by omega
 unfold wInPl at hi
 simp only [Bool.and_eq_true,decide_eq_true_eq,beq_iff_eq] at hi
 obtain⟨hpos,hin,hrf⟩:=hi
 rcases lookV_ent h hr.2 n hk with e0 | e0 | ⟨e,he,e1,el,ek⟩
 ·omega
 ·omega
 rw [he,Int.toNat_natCast,← hcnt,cntL_get h e el] at hrf
 obtain⟨j,ej,jm,hj,hjk,hjl,hjt⟩:=look_by h hr.2 hk e1 he
 have hin2:=hin
 unfold inPl at hin2
 simp only [Bool.and_eq_true,bne_iff_ne,beq_iff_eq] at hin2
 have hlone:Lone m (n / 4) j:=by
  have hrf2:=hin2.2
  have j1:1≤j:=by have:=hin2.1;omega
  rw [ej,Int.toNat_natCast,← hcnt,cntL_get h j hj] at hrf2
  unfold cntI at hrf2
  rw [if_neg (by omega),sumT_no (shapeE_zero h).2.2.2.2.2.1 _ j1 (by rw [hjk];decide)] at hrf2
  exact lone_one hk ej (by omega)
 have hjf:(j:Int) ∈ flatR m:=by rw [flatR_app];exact List.mem_append_left _ jm
 refine⟨e,he,e1,el,ek,fun q hq hne hl=>?_,fun s hs q hq hl=>?_⟩
 ·obtain⟨j',ej',jm',hj',hjk',hjl',hjt'⟩:=look_by h hr.2 hq e1 hl
  obtain⟨e2,e3⟩:=told_twice e1 hrf hj hjk hjf hjl hjt hj' hjk' (by rw [flatR_app];exact List.mem_append_left _ jm') hjl' hjt'
  subst e2
  by_cases e4:q / 4=n / 4
  ·exact hne (by omega)
  ·exact hlone.root (q / 4) hq e4 ej'
 ·have hfit:=snap_fit h (List.mem_cons_of_mem _ hs)
  obtain⟨j',ej',jm',hj',hjk',hjl',hjt'⟩:=look_by h hfit.2.2.2 hq e1 hl
  obtain⟨e2,e3⟩:=told_twice e1 hrf hj hjk hjf hjl hjt hj' hjk' (by rw [flatR_app];exact List.mem_append_right _ (by rw [List.mem_flatMap];exact⟨s,hs,jm'⟩)) hjl' hjt'
  subst e2
  exact hlone.snap s hs jm'
theorem page_setP {L:List SlotD}{e:Nat}{page:ByteArray}{x:Int}(hx:x≠(e:Int))(hx0:0≤x∨x≤0):pageV (L.set e (1,page,[])) x=pageV L x:=by
 unfold pageV
 by_cases h:x≤0
 ·rw [if_pos h,if_pos h]
 ·rw [if_neg h,if_neg h]
  have:e≠x.toNat:=by omega
  simp [List.getD,this]
theorem page_at {L:List SlotD}{e:Nat}{page:ByteArray}(e1:1≤e)(el:e<L.length):pageV (L.set e (1,page,[])) (e:Int)=page:=by
 unfold pageV
 rw [if_neg (by omega),Int.toNat_natCast]
 simp [List.getD,el]
structure Wrote (m M:ImgD) (n:Nat) (page:ByteArray) (d:Nat):Prop where
 right:checkE M=0
 len:M.slots.length≤m.slots.length+d
 all:allV M=(allV m).set n page
 pastV:∀nm,pastV M nm=pastV m nm
 pastE:∀nm,pastE M nm=pastE m nm
 guest:M.guest=m.guest
theorem allP_congr {m M:ImgD}{r r':List Int}{g:Nat}(h:∀q,q<g→pageV M.slots (lookV M r' q)=pageV m.slots (lookV m r q)):allP M r' g=allP m r g:=by
 unfold allP
 exact List.map_congr_left fun q hq=>h q (List.mem_range.1 hq)
theorem past_of {m M:ImgD}(hC:checkE m=0)(hM:checkE M=0)(hs:M.snaps=m.snaps)(h:∀s ∈ m.snaps,allP M s.2.2 s.2.1.toNat=allP m s.2.2 s.2.1.toNat)(nm:ByteArray):pastV M nm=pastV m nm∧pastE M nm=pastE m nm:=by
 unfold pastV pastE
 rw [if_neg (by rw [hM];simp),if_neg (by rw [hC];simp),if_neg (by rw [hM];simp),if_neg (by rw [hC];simp),hs]
 cases hsi:snapIx m.snaps nm with
 | none=>exact⟨rfl,rfl⟩
 | some j=>exact⟨h _ (snapIx_get hsi),rfl⟩
theorem wrote_in {m:ImgD}(hC:checkE m=0){n:Nat}(hn:(n:Int)<m.guest)(hi:wInPl m n=true){page:ByteArray}(hp:page.size=4):Wrote m { m with slots:=m.slots.set (lookV m m.root n).toNat (1,page,[]) } n page 0:=by
 obtain⟨e,he,e1,el,ek,hown,hsnap⟩:=inplace_only hC hn hi
 have h:=checkE_shape hC
 have hr:=root_ok h
 have hg:=guest_ok h
 rw [he,Int.toNat_natCast]
 obtain⟨hck,hlk⟩:=setP_same (page:=page) hC ek hp
 have hp2:∀nm,pastV { m with slots:=m.slots.set e (1,page,[]) } nm=pastV m nm∧pastE { m with slots:=m.slots.set e (1,page,[]) } nm=pastE m nm:=past_of hC hck rfl fun s hs=>allP_congr fun q hq=>by
  have hfit:=snap_fit h (List.mem_cons_of_mem _ hs)
  rw [hlk]
  exact page_setP (hsnap s hs q (by omega)) (by omega)
 refine⟨hck,by show (m.slots.set _ _).length≤_;rw [List.length_set];omega,?_,fun nm=>(hp2 nm).1,fun nm=>(hp2 nm).2,rfl⟩
 unfold allV
 rw [if_pos hck,if_pos hC]
 unfold allP
 apply List.ext_getElem
 ·simp
 ·intro q h1 h2
  have hq:q<m.guest.toNat:=by simpa using h1
  rw [List.getElem_set,List.getElem_map,List.getElem_range,hlk]
  show pageV (m.slots.set e (1,page,[])) (lookV m m.root q)=_
  by_cases e4:n=q
  ·subst e4
   rw [if_pos rfl,he,page_at e1 el]
  ·rw [if_neg e4,List.getElem_map,List.getElem_range]
   exact page_setP (hown q (by omega) (fun x=>e4 x.symm)) (by omega)
theorem Laid.wrote {m M:ImgD}{n d:Nat}{x:Int}(hC:checkE m=0)(hn:(n:Int)<m.guest)(hL:Laid m M (n / 4) ((tableO m (n / 4)).set (n % 4) x))(hl:M.slots.length≤m.slots.length+d){page:ByteArray}(hp:pageV M.slots x=page):Wrote m (countedD M) n page d:=by
 refine⟨counted_right hL.shape,?_,?_,fun nm=>(hL.pastV hC nm).1,fun nm=>(hL.pastV hC nm).2,hL.guest⟩
 ·have:(countedD M).slots.length=M.slots.length:=freeUn_length _ _
  omega
 ·rw [←hp];exact hL.put hC hn
theorem wrote_write {m:ImgD}(hC:checkE m=0){n:Nat}(hn:(n:Int)<m.guest){page:ByteArray}(hp:page.size=4){M:ImgD}(hM:writeD m n page=some M):Wrote m M n page 2:=by
 unfold writeD at hM
 by_cases hi:wInPl m n=true
 ·rw [if_pos hi] at hM
  simp only [Option.some.injEq] at hM
  subst hM
  have:=wrote_in hC hn hi hp
  exact⟨this.right,Nat.le_trans this.len (by omega),this.all,this.pastV,this.pastE,this.guest⟩
 ·rw [if_neg hi] at hM
  by_cases h1:tabN m (n / 4)=40
  ·rw [if_pos h1] at hM;cases hM
  ·rw [if_neg h1] at hM
   by_cases h2:wD m n=40
   ·rw [if_pos h2] at hM;cases hM
   ·rw [if_neg h2] at hM
    simp only [Option.some.injEq] at hM
    subst hM
    obtain⟨a,b,c⟩:=write_laid hC hn h1 h2 hp
    exact a.wrote hC hn c b
theorem DTo.pre {w w1 w2:World}{B D:Nat}{m m1:ImgD}{val val1:Nm→Value}{ev:Value}(h:DTo w1 w2 B D m val ev m1 val1)(hb:Below w.heap.size w w1)(hB:B≤w.heap.size):DTo w w2 B D m val ev m1 val1:=
 ⟨h.dk,(hb.mono hB).trans h.bel,fun q hq hD hev hm=>(h.keep q (Nat.lt_of_lt_of_le hq hb.size) hD hev hm).trans (hb.block q hq),fun q hq hev hm=>h.src q (Nat.lt_of_lt_of_le hq hb.size) hev hm⟩
def layR (l:List Int) (n:Nat) (x:Int):List Int:=if n=l.length then l ++ [x] else l.set n x
theorem layR_length {l:List Int}{n:Nat}{x:Int} : (layR l n x).length=if n=l.length then l.length+1 else l.length:=by
 unfold layR;split <;> simp
def takeD (m:ImgD) (s:SlotD):ImgD:={ m with slots:=layS m.slots (grabN m.slots) s,refs:=layR m.refs (grabN m.slots) 1 }
theorem grab_is {w:World}{v:Value}{L:List SlotD}(h:Slots w v L)(hE:slotsE L=0){g:Nat}(hg:grabN L=g) :
  Calls Tryz.prog 94 #[v] w fun r w'=>r=.returned (.tuple #[.int .i64 (if g=40 then 0 else (g:Int)),.int .i64 (if g=40 then 7 else 0)])∧Below w.heap.size w w':=by
 have h1:=(slotsE_parts hE).1
 refine (grab_ok v L w h hE).mono ?_
 rintro e w' ⟨h | ⟨q,hq,hG,rfl⟩,hb⟩
 ·have e40:g=40:=by rw [←hg];exact (grabN_at h1).unique h.1
  rw [if_pos e40,if_pos e40]
  exact⟨h.2,hb⟩
 ·have eg:q=g:=by rw [←hg];exact hG.unique (grabN_at h1)
  subst eg
  rw [if_neg (by omega),if_neg (by omega)]
  exact⟨rfl,hb⟩
set_option maxHeartbeats 4000000 in
theorem take_full (m:ImgD)(sa:Option Addr)(sn sc:Nat)(k:Int)(d:ByteArray)(ea:Option Addr)(en ec:Nat)(B D:Nat)(val:Nm→Value)(w:World)(hK:DK w B D val m)(e1:val .slots=.slice sa sn sc)(hs:slotsE m.slots=0)(hg:grabN m.slots=40) :
  Calls Tryz.prog 61 #[.pointer (some ⟨D,0,none⟩),.agg #[.int .i64 k,.string d,.slice ea en ec]] w fun r w'=>r=.panicked noSlotP∧Below w.heap.size w w':=by
 have hK1:DK (w.alloc (.cells #[.int .i64 k,.string d,.slice ea en ec] 61)) B D val m:=hK.alloc _
 obtain⟨d0,d1,d2,d3,d4⟩:=hK1.five
 rw [e1] at d2
 have hcall:=grab_is hK1.own.img.four.2.1 hs hg
 rw [e1] at hcall
 have b0:Below w.heap.size w (w.alloc (.cells #[.int .i64 k,.string d,.slice ea en ec] 61)):=(Below.refl _ _).alloc (Nat.le_refl _) _
 clear hg hs
 go_enter Tryz.func61,Tryz.ntmps61
 go_wp2_with (go_at_call 94;refine hcall.mono ?_;rintro e w1 ⟨rfl,b1⟩)
 exact⟨rfl,rfl,Below.on b0 b1⟩
set_option maxHeartbeats 4000000 in
theorem take_old (m:ImgD)(sg sc:Nat)(fg fc:Nat)(k:Int)(d:ByteArray)(ea:Option Addr)(en ec:Nat)(es:List Int)(g:Nat)(B D:Nat)(val:Nm→Value)(w:World)(hK:DK w B D val m)(hB:B≤w.heap.size)(e1:val .slots=.slice (some ⟨sg,0,none⟩) m.slots.length sc)(e2:val .refs=.slice (some ⟨fg,0,none⟩) m.slots.length fc)(hs:slotsE m.slots=0)(hg:grabN m.slots=g)(hgl:g<m.slots.length)(hrl:m.refs.length=m.slots.length)
  (he:w.ownsRow B 3 1 (.slice ea en ec) es.length (ints es)) (hfar:Far m val (.tab g) (.slice ea en ec)) (hD:(Value.slice ea en ec).ownBlock≠some D) :
  Calls Tryz.prog 61 #[.pointer (some ⟨D,0,none⟩),.agg #[.int .i64 k,.string d,.slice ea en ec]] w fun r w'=>r=.returned (.int .i64 (g:Int))∧∃val',DTo w w' B D m val (.slice ea en ec) { m with slots:=m.slots.set g (k,d,es),refs:=m.refs.set g 1 } val'∧val' .root=val .root:=by
 have hK1:DK (w.alloc (.cells #[.int .i64 k,.string d,.slice ea en ec] 61)) B D val m:=hK.alloc _
 have h40:=(slotsE_parts hs).2
 obtain⟨d0,d1,d2,d3,d4⟩:=hK1.five
 rw [e1] at d2
 rw [e2] at d3
 have hcall:=grab_is hK1.own.img.four.2.1 hs hg
 rw [e1] at hcall
 have g40:¬g=40:=by omega
 rw [if_neg g40,if_neg g40] at hcall
 have b0:Below w.heap.size w (w.alloc (.cells #[.int .i64 k,.string d,.slice ea en ec] 61)):=(Below.refl _ _).alloc (Nat.le_refl _) _
 have mS:(w.alloc (.cells #[.int .i64 k,.string d,.slice ea en ec] 61)).heap[w.heap.size]? = some (.cells #[.int .i64 k,.string d,.slice ea en ec] 61):=World.alloc_heap_new _ _
 have hgi:(g:Int)<(m.slots.length:Int):=by omega
 have hgn:((g:Int) == (m.slots.length:Int))=false:=by simp;omega
 have hgn':¬(g:Int)=(m.slots.length:Int):=by omega
 clear hg hs
 go_enter Tryz.func61,Tryz.ntmps61
 go_wp2_with (go_at_call 94;refine hcall.mono ?_;rintro e w1 ⟨rfl,b1⟩;have hK2:=hK1.below b1;obtain⟨i0,i1,i2,i3,i4⟩:=hK2.five;rw [e1] at i2;rw [e2] at i3;have mS1:=cells_below mS b1 (by simp);obtain⟨s0,s1,s2⟩:=three mS1)
 have hgS:sg<w.heap.size∧B≤sg:=by
  have:=(hK.own.row .slots (Live.slots m)).lt sg (by rw [e1];rfl)
  exact⟨this.2,this.1⟩
 have hgF:fg<w.heap.size∧B≤fg:=by
  have:=(hK.own.row .refs (Live.refs m)).lt fg (by rw [e2];rfl)
  exact⟨this.2,this.1⟩
 have hDl:=hK.lt
 have nDS:¬D=sg:=fun e=>hK.far .slots (Live.slots m) (by rw [e1,e];rfl)
 have nDF:¬D=fg:=fun e=>hK.far .refs (Live.refs m) (by rw [e2,e];rfl)
 have nSD:¬sg=D:=fun e=>nDS e.symm
 have nFD:¬fg=D:=fun e=>nDF e.symm
 have nSF:¬sg=fg:=fun e=>hK.own.apart .slots .refs (Live.slots m) (Live.refs m) (by intro x;cases x) sg (by rw [e1];rfl) (by rw [e2,e];rfl)
 have nFS:¬fg=sg:=fun e=>nSF e.symm
 have nWS:¬w.heap.size=sg:=by omega
 have nSW:¬sg=w.heap.size:=by omega
 have nWF:¬w.heap.size=fg:=by omega
 have nFW:¬fg=w.heap.size:=by omega
 have hT1:=(DTo.refl hK1 (.slice ea en ec)).below (by simp;omega) b1
 have hr1:=hT1.dk.own.row .slots (Live.slots m)
 rw [e1] at hr1
 have hr1:w1.ownsRow B 61 3 (.slice (some ⟨sg,0,none⟩) m.slots.length sc) m.slots.length (flatS m.slots (fun j=>val (.tab j))):=hr1
 obtain⟨t0,t1,t2⟩:=flatS_get (L:=m.slots) (tv:=fun j=>val (.tab j)) hgl
 have t0:=(hr1.cellAt (g*3) (by omega)).trans t0
 have t1:=(hr1.cellAt (g*3+1) (by omega)).trans t1
 have t2:=(hr1.cellAt (g*3+2) (by omega)).trans t2
 have u0:=hr1.frozenAt (g*3)
 have u1:=hr1.frozenAt (g*3+1)
 have u2:=hr1.frozenAt (g*3+2)
 have hr2:=hT1.dk.own.row .refs (Live.refs m)
 rw [e2] at hr2
 have hr2:w1.ownsRow B 3 1 (.slice (some ⟨fg,0,none⟩) m.slots.length fc) m.slots.length (ints m.refs):=by rw [←hrl];rw [←hrl] at hr2;exact hr2
 have t3:w1.cell? ⟨fg,g,none⟩=some (.int .i64 (m.refs.getD g 0)):=by
  refine (hr2.cellAt g (by omega)).trans ?_
  unfold ints
  rw [List.getElem?_map,List.getElem?_eq_getElem (by rw [hrl];exact hgl)]
  simp [List.getD,hrl,hgl]
 have u3:=hr2.frozenAt g
 clear hr1 hr2 hcall hK1 hK2 mS mS1 d0 d1 d2 d3 d4 i0 i1 i4
 go_region_held3 (fun W=>W.cell? ⟨D,0+1+1,none⟩=some (.slice (some ⟨sg,0,none⟩) m.slots.length sc)∧W.cell? ⟨D,0+1+1+1,none⟩=some (.slice (some ⟨fg,0,none⟩) m.slots.length fc)∧W.cell? ⟨w.heap.size,0,none⟩=some (.int .i64 k)∧W.cell? ⟨w.heap.size,0+1,none⟩=some (.string d)∧W.cell? ⟨w.heap.size,0+1+1,none⟩=some (.slice ea en ec)) (first | exact⟨i2,i3,s0,s1,s2⟩ | go_keep) (fail)
 have hev:=row_keep (he.alloc (.cells #[.int .i64 k,.string d,.slice ea en ec] 61)) b1
 have hF:=(hT1.setSlot hgl e1 k d es hev hfar hD (fun q e=>.inl e)).setRefs (g:=fg) (n:=m.slots.length) (cap:=fc) ((upd_other _ _ (by intro x;cases x)).trans e2) g 1
 have HF:Hid (DTo w ((((w1.setCell ⟨sg,g*3,none⟩ (.int .i64 k)).setCell ⟨sg,g*3+1,none⟩ (.string d)).setCell ⟨sg,g*3+2,none⟩ (.slice ea en ec)).setCell ⟨fg,g,none⟩ (.int .i64 1)).drew B D m val (.slice ea en ec) { m with slots:=m.slots.set g (k,d,es),refs:=m.refs.set g 1 } (upd val (.tab g) (.slice ea en ec))):=(hF.drew).pre b0 hB
 clear hF hev hT1
 go_wp2_with fail
 go_ret
 exact⟨rfl,_,HF.out,upd_other _ _ (by intro x;cases x)⟩
abbrev z3:List Value:=[.int .i64 0,.string ⟨#[]⟩,.slice none 0 0]
abbrev z1:List Value:=[.int .i64 0]
structure TkI (w1:World) (B:Nat) (sv0 fv0:Value) (n:Nat) (xs ys:List Value) (sv fv:Value) (cS cR:Bool) (W:World):Prop where
 bel:Below B w1 W
 bB:B≤w1.heap.size
 s:W.ownsRow B 61 3 sv (if cS then n+1 else n) (if cS then xs ++ z3 else xs)
 r:W.ownsRow B 3 1 fv (if cR then n+1 else n) (if cR then ys ++ z1 else ys)
 keep:∀q,q<w1.heap.size→sv0.ownBlock≠some q→fv0.ownBlock≠some q→W.heap[q]? = w1.heap[q]?
 sb:sv.ownBlock=sv0.ownBlock∨∀g,sv.ownBlock=some g→w1.heap.size≤g
 fb:fv.ownBlock=fv0.ownBlock∨∀g,fv.ownBlock=some g→w1.heap.size≤g
 ap:∀g,sv.ownBlock=some g→fv.ownBlock≠some g
theorem TkI.alloc {w1:World}{B:Nat}{sv0 fv0:Value}{n:Nat}{xs ys:List Value}{sv fv:Value}{cS cR:Bool}{W:World}(h:TkI w1 B sv0 fv0 n xs ys sv fv cS cR W)(o:Obj):TkI w1 B sv0 fv0 n xs ys sv fv cS cR (W.alloc o):=
 ⟨h.bel.alloc (Nat.le_trans h.bB h.bel.size) o,h.bB,h.s.alloc o,h.r.alloc o,fun q hq h1 h2=>(Below.heap_alloc W o q (Nat.lt_of_lt_of_le hq h.bel.size)).trans (h.keep q hq h1 h2),h.sb,h.fb,h.ap⟩
theorem TkI.drew {w1:World}{B:Nat}{sv0 fv0:Value}{n:Nat}{xs ys:List Value}{sv fv:Value}{cS cR:Bool}{W:World}(h:TkI w1 B sv0 fv0 n xs ys sv fv cS cR W):TkI w1 B sv0 fv0 n xs ys sv fv cS cR W.drew:=
 ⟨h.bel.drew,h.bB,h.s.drew,h.r.drew,h.keep,h.sb,h.fb,h.ap⟩
theorem row_type {W:World}{B n size:Nat}{e:TypeId}{v:Value}{xs:List Value}(h:W.ownsRow B e size v n xs){q:Nat}{A:Array Value}{t:TypeId}(hq:W.heap[q]? = some (.cells A t))(ht:t≠e):some q≠v.ownBlock:=fun x=>by
 rcases h.2 with ⟨rfl,_⟩ | ⟨g,cap,cur,rfl,_,hg,_⟩
 ·cases x
 ·have x:q=g:=Option.some.inj x
  subst x
  rw [hg] at hq
  simp only [Option.some.injEq,Obj.cells.injEq] at hq
  exact ht hq.2.1.symm
def Kp (W W':World) (e:TypeId):Prop:=∀ (q:Nat) (A:Array Value) (t:TypeId),W.heap[q]? = some (.cells A t)→t≠e→W'.heap[q]? = some (.cells A t)
theorem kp_grown {W W':World}{B n size:Nat}{e:TypeId}{v:Value}{xs:List Value}(h:W.ownsRow B e size v n xs)(hg:W.grownBy W' v.ownBlock):Kp W W' e:=fun q _ _ hq ht=>
 (hg.block q (szH hq) (row_type h hq ht)).trans hq
theorem TkI.appS {w1:World}{B:Nat}{sv0 fv0:Value}{n:Nat}{xs ys:List Value}{sv fv v':Value}{cR:Bool}{W W':World}(h:TkI w1 B sv0 fv0 n xs ys sv fv false cR W)(hg:W.grownBy W' sv.ownBlock)(hr:W'.ownsRow B 61 3 v' (n+1) (xs ++ z3))(hb:v'.ownBlock=sv.ownBlock∨v'.ownBlock=some W.heap.size):TkI w1 B sv0 fv0 n xs ys v' fv true cR W':=by
 have hne:fv.ownBlock=none∨fv.ownBlock≠sv.ownBlock:=by
  cases e:fv.ownBlock with
  | none=>exact .inl rfl
  | some g=>exact .inr (fun x=>h.ap g x.symm e)
 have hlt:∀g,fv.ownBlock=some g→g<W.heap.size:=fun g e=>(h.r.lt g e).2
 refine⟨h.bel.grown hg (Nat.le_trans h.bB h.bel.size) (fun k e=>(h.s.lt k e).1),h.bB,hr,h.r.kept hg hne,fun q hq h1 h2=>?_,?_,h.fb,?_⟩
 ·refine (hg.block q (Nat.lt_of_lt_of_le hq h.bel.size) (fun e=>?_)).trans (h.keep q hq h1 h2)
  rcases h.sb with x | x
  ·exact h1 (x.symm.trans e.symm)
  ·have:=x q e.symm;omega
 ·rcases hb with x | x
  ·rw [x];exact h.sb
  ·refine .inr (fun g e=>?_)
   rw [x] at e
   cases e
   exact h.bel.size
 ·intro g e
  rcases hb with x | x
  ·exact h.ap g (x.symm.trans e)
  ·rw [x] at e
   cases e
   intro y
   have:=hlt _ y
   omega
theorem TkI.appR {w1:World}{B:Nat}{sv0 fv0:Value}{n:Nat}{xs ys:List Value}{sv fv v':Value}{cS:Bool}{W W':World}(h:TkI w1 B sv0 fv0 n xs ys sv fv cS false W)(hg:W.grownBy W' fv.ownBlock)(hr:W'.ownsRow B 3 1 v' (n+1) (ys ++ z1))(hb:v'.ownBlock=fv.ownBlock∨v'.ownBlock=some W.heap.size):TkI w1 B sv0 fv0 n xs ys sv v' cS true W':=by
 have hne:sv.ownBlock=none∨sv.ownBlock≠fv.ownBlock:=by
  cases e:sv.ownBlock with
  | none=>exact .inl rfl
  | some g=>exact .inr (fun x=>h.ap g e x.symm)
 have hlt:∀g,sv.ownBlock=some g→g<W.heap.size:=fun g e=>(h.s.lt g e).2
 refine⟨h.bel.grown hg (Nat.le_trans h.bB h.bel.size) (fun k e=>(h.r.lt k e).1),h.bB,h.s.kept hg hne,hr,fun q hq h1 h2=>?_,h.sb,?_,?_⟩
 ·refine (hg.block q (Nat.lt_of_lt_of_le hq h.bel.size) (fun e=>?_)).trans (h.keep q hq h1 h2)
  rcases h.fb with x | x
  ·exact h2 (x.symm.trans e.symm)
  ·have:=x q e.symm;omega
 ·rcases hb with x | x
  ·rw [x];exact h.fb
  ·refine .inr (fun g e=>?_)
   rw [x] at e
   cases e
   exact h.bel.size
 ·intro g e y
  rcases hb with x | x
  ·exact h.ap g e (x.symm.trans y)
  ·rw [x] at y
   cases y
   have:=hlt _ e
   omega
theorem TkI.sForm {w1:World}{B:Nat}{sv0 fv0:Value}{n:Nat}{xs ys:List Value}{sv fv:Value}{cR:Bool}{W:World}(h:TkI w1 B sv0 fv0 n xs ys sv fv true cR W):∃ao cap,sv=.slice ao (n+1) cap:=row_slice h.s
theorem TkI.rForm {w1:World}{B:Nat}{sv0 fv0:Value}{n:Nat}{xs ys:List Value}{sv fv:Value}{cS:Bool}{W:World}(h:TkI w1 B sv0 fv0 n xs ys sv fv cS true W):∃ao cap,fv=.slice ao (n+1) cap:=row_slice h.r
theorem cells_at {W:World}{N:Nat}{l:List Value}{t:TypeId}(h:W.heap[N]? = some (.cells l.toArray t)):∀ (j:Nat) (u:Value),l[j]? = some u→W.cell? ((⟨N,0,none⟩:Addr).add j)=some u:=fun j u hu=>by
 rw [addr_add,Nat.zero_add]
 simp [World.cell?,h,hu]
theorem step_tkS {w1:World}{B:Nat}{sv0 fv0:Value}{n:Nat}{xs ys:List Value}{sv fv:Value}{cR:Bool}{W:World}{ops:Array Oper}{o:Oper}{a:Act}{K:Act→World→Prop}{Q:Exit→Act→World→Prop}{E:Prop}(hgd:o.guard=none)(s x:Operand)(ho:o.op=.call { callee:=.builtin .append,args:=#[s,x],argTypes:=#[24,24] })
  (TK:TkI w1 B sv0 fv0 n xs ys sv fv false cR W) (hn:n≤40) {N:Nat} (hs:a.eval s=sv) (hx:a.eval x=.slice (some ⟨N,0,none⟩) 1 1) (hN:W.heap[N]? = some (.cells #[.int .i64 0,.string ⟨#[]⟩,.slice none 0 0] 61))
  (h:∀v' w',Hid (TkI w1 B sv0 fv0 n xs ys v' fv true cR w')→Hid (Kp W w' 61)→K (a.put o.dst v') w'):if Region.wanted o (yielded ops a.tmps)=true then Oper.wp Tryz.prog o a W K Q else E:=by
 have hw:Region.wanted o (yielded ops a.tmps)=true:=by simp [Region.wanted,hgd]
 rw [if_pos hw]
 obtain⟨i0,hi,hz0,hz1,hz2⟩:=info_parts infoSlot
 obtain⟨v',w',hr,g2,g3,_,g5⟩:=run_append_own_at (P:=Tryz.prog) W B 24 o.type 61 i0 _ 3 48 Tryz.underlying24 hi hz0 hz1 hz2 rfl (by decide) sv n xs TK.s ⟨N,0,none⟩ 1 1 z3 rfl (cells_at (l:=z3) hN) (by intro u hu;simp at hu;rcases hu with rfl | rfl | rfl <;> rfl) (by unfold maxLen;omega) (by omega) (Nat.le_trans TK.bB TK.bel.size)
 unfold Oper.wp execOp
 simp only [ho,resolve,invoke,builtin,Sem.run_bind,Sem.run_pure,Result.andThen_ok,List.map_toArray,List.map_cons,List.map_nil,hs,hx,hr]
 exact h v' w' (TK.appS g3 g2 g5) (kp_grown TK.s g3)
theorem step_tkR {w1:World}{B:Nat}{sv0 fv0:Value}{n:Nat}{xs ys:List Value}{sv fv:Value}{cS:Bool}{W:World}{ops:Array Oper}{o:Oper}{a:Act}{K:Act→World→Prop}{Q:Exit→Act→World→Prop}{E:Prop}(hgd:o.guard=none)(s x:Operand)(ho:o.op=.call { callee:=.builtin .append,args:=#[s,x],argTypes:=#[23,23] })
  (TK:TkI w1 B sv0 fv0 n xs ys sv fv cS false W) (hn:n≤40) {N:Nat} (hs:a.eval s=fv) (hx:a.eval x=.slice (some ⟨N,0,none⟩) 1 1) (hN:W.heap[N]? = some (.cells #[.int .i64 0] 3))
  (h:∀v' w',Hid (TkI w1 B sv0 fv0 n xs ys sv v' cS true w')→Hid (Kp W w' 3)→K (a.put o.dst v') w'):if Region.wanted o (yielded ops a.tmps)=true then Oper.wp Tryz.prog o a W K Q else E:=by
 have hw:Region.wanted o (yielded ops a.tmps)=true:=by simp [Region.wanted,hgd]
 rw [if_pos hw]
 obtain⟨i0,hi,hz0,hz1,hz2⟩:=info_parts info3
 obtain⟨v',w',hr,g2,g3,_,g5⟩:=run_append_own_at (P:=Tryz.prog) W B 23 o.type 3 i0 _ 1 8 Tryz.underlying23 hi hz0 hz1 hz2 rfl (by decide) fv n ys TK.r ⟨N,0,none⟩ 1 1 z1 rfl (cells_at (l:=z1) hN) (by intro u hu;simp at hu;subst hu;rfl) (by unfold maxLen;omega) (by omega) (Nat.le_trans TK.bB TK.bel.size)
 unfold Oper.wp execOp
 simp only [ho,resolve,invoke,builtin,Sem.run_bind,Sem.run_pure,Result.andThen_ok,List.map_toArray,List.map_cons,List.map_nil,hs,hx,hr]
 exact h v' w' (TK.appR g3 g2 g5) (kp_grown TK.r g3)
end Go.Proofs.YtehleeibgkpjmafGreat
