/- Texts joined: WrO, WrX, WrV, SCheck, WrY, WrW, WrU, Cut, WrE, WrZ. -/
import Derived.Test.YtehleeibgkpjmafGreatMoveTellsJ8
import Derived.Test.YtehleeibgkpjmafGreatMoveTellsJ1
import Derived.Deep.RegionHeld
import Derived.BigQuiet
import Derived.Test.YtehleeibgkpjmafGreatMoveTellsJ7
import Derived.Test.YtehleeibgkpjmafGreatMoveTellsJ4
import Derived.Deep.RegionWith
import Derived.Laws.CopyRow
import Derived.Laws.IdiomCopy
set_option linter.unusedVariables false
set_option linter.unusedSimpArgs false
namespace Go.Proofs.YtehleeibgkpjmafGreat
open Go.RowKit Go.Shelf
set_option maxRecDepth 20000
set_option linter.unusedSimpArgs false
set_option linter.unusedVariables false
theorem drewN_first {B q:Nat}{W w3:World}(h:Below B (W.drewN q) w3):Below B W w3:=⟨h.os,h.tape,h.output,h.size,h.block⟩
theorem DTo.drewN_first {B D q:Nat}{W w1:World}{m m1:ImgD}{val val1:Nm→Value}{ev:Value}(h:DTo (W.drewN q) w1 B D m val ev m1 val1):DTo W w1 B D m val ev m1 val1:=⟨h.dk,Go.Proofs.YtehleeibgkpjmafGreat.drewN_first h.bel,h.keep,h.src⟩
set_option maxHeartbeats 4000000 in
theorem wcore_A_n1 (bk bn bs n d B D:Nat)(k:Int)(page:ByteArray)(W:World)(m m1 m2 M:ImgD)(val:Nm→Value)(g1:decide (0<k)=false)(g2:¬0<k)(hck:W.cell? ⟨bk,0,none⟩=some (.int .i64 k))(hcn:W.cell? ⟨bn,0,none⟩=some (.int .i64 (n:Int)))(HS:Hid (∀X,Below B W X→(fun X:World=>X.cell? ⟨bn,0,none⟩=some (.int .i64 (n:Int))∧X.cell? ⟨bs,0,none⟩=some (.int .i64 1)∧X.cell? ⟨bs,0+1,none⟩=some (.string page)∧X.cell? ⟨bs,0+1+1,none⟩=some (.slice none 0 0)) X))(HP1:Hid (∀q,Calls Tryz.prog 60 #[.pointer (some ⟨D,0,none⟩),.int .i64 (n:Int),.int .i64 (-1)] (W.drewN q) (Tells (W.drewN q) B D m val nilV none))) :
  Calls Tryz.prog 59 #[.pointer (some ⟨D,0,none⟩),.pointer (some ⟨bk,0,none⟩),.pointer (some ⟨bn,0,none⟩),.pointer (some ⟨bs,0,none⟩)] W (fun r W'=>r=.panicked noSlotP∧Below B W W'):=by
 go_enter Tryz.func59,Tryz.ntmps59
 try go_wp2_with fail
 go_quiet (fail)
 go_wp2_with (go_at_call 60;refine (HP1.out _).mono ?_;rintro e w3 ⟨rfl,b3⟩;exact⟨rfl,rfl,drewN_first b3⟩)
set_option maxHeartbeats 4000000 in
theorem wcore_A_n2 (bk bn bs n d B D:Nat)(k:Int)(page:ByteArray)(W:World)(m m1 m2 M:ImgD)(val:Nm→Value)(g1:decide (0<k)=false)(g2:¬0<k)(hck:W.cell? ⟨bk,0,none⟩=some (.int .i64 k))(hcn:W.cell? ⟨bn,0,none⟩=some (.int .i64 (n:Int)))(HS:Hid (∀X,Below B W X→(fun X:World=>X.cell? ⟨bn,0,none⟩=some (.int .i64 (n:Int))∧X.cell? ⟨bs,0,none⟩=some (.int .i64 1)∧X.cell? ⟨bs,0+1,none⟩=some (.string page)∧X.cell? ⟨bs,0+1+1,none⟩=some (.slice none 0 0)) X))(HP1:Hid (∀q,Calls Tryz.prog 60 #[.pointer (some ⟨D,0,none⟩),.int .i64 (n:Int),.int .i64 (-1)] (W.drewN q) (Tells (W.drewN q) B D m val nilV (some m1))))(HTK:Hid (∀ (w1:World) (val1:Nm→Value),DK w1 B D val1 m1→Below B W w1→Calls Tryz.prog 61 #[.pointer (some ⟨D,0,none⟩),.agg #[.int .i64 1,.string page,.slice none 0 0]] w1 (fun r w2=>r=.panicked noSlotP∧Below B W w2))) :
  Calls Tryz.prog 59 #[.pointer (some ⟨D,0,none⟩),.pointer (some ⟨bk,0,none⟩),.pointer (some ⟨bn,0,none⟩),.pointer (some ⟨bs,0,none⟩)] W (fun r W'=>r=.panicked noSlotP∧Below B W W'):=by
 go_enter Tryz.func59,Tryz.ntmps59
 try go_wp2_with fail
 go_quiet (fail)
 go_wp2_with (go_at_call 60;refine (HP1.out _).mono ?_;rintro e w1 ⟨rfl,val1,hT1⟩;have hT1:=DTo.drewN_first hT1;have HT1:=Hid_mkW hT1;clear hT1)
 clear hck hcn
 refine wp_region_held_drew (S:=(fun X:World=>X.cell? ⟨bn,0,none⟩=some (.int .i64 (n:Int))∧X.cell? ⟨bs,0,none⟩=some (.int .i64 1)∧X.cell? ⟨bs,0+1,none⟩=some (.string page)∧X.cell? ⟨bs,0+1+1,none⟩=some (.slice none 0 0))) (by kernel_rfl) (HS.out _ (to_drew HT1.out.bel)) (fun hHeld=>?_)
 refine tkH 0 (.pointer (some ⟨D,0,none⟩)) rfl (Or.inl ⟨by rfl,fun w' hSw=>by obtain⟨q1,q2,q3,q4⟩:=hSw;go_simp⟩) hHeld ?_
 simp only [lays]
 refine tkH 1 (.int .i64 (n:Int)) rfl (Or.inl ⟨by rfl,fun w' hSw=>by obtain⟨q1,q2,q3,q4⟩:=hSw;go_simp⟩) hHeld ?_
 simp only [lays]
 refine tkH 2 (.pointer (some ⟨D,0,none⟩)) rfl (Or.inl ⟨by rfl,fun w' hSw=>by obtain⟨q1,q2,q3,q4⟩:=hSw;go_simp⟩) hHeld ?_
 simp only [lays]
 refine tkH 3 (.agg #[.int .i64 1,.string page,.slice none 0 0]) rfl (Or.inl ⟨by rfl,fun w' hSw=>by obtain⟨q1,q2,q3,q4⟩:=hSw;go_simp⟩) hHeld ?_
 simp only [lays]
 refine wpAnyH_ready (rs:=[4]) (by kernel_rfl) (by simp) ?_
 refine AllReadyH.cons rfl (fun K hK=>?_) AllReadyH.nil
 clear hHeld
 simp only [lays]
 rw [if_pos (by rfl)]
 clear hK
 go_wp2_with (go_at_call 61;refine (HTK.out _ _ HT1.out.dk.drew (to_drew HT1.out.bel)).mono ?_;rintro e w2 ⟨rfl,b2⟩;exact⟨rfl,rfl,b2⟩)
set_option maxHeartbeats 4000000 in
theorem wcore_A_n3 (bk bn bs n d B D:Nat)(k:Int)(page:ByteArray)(W:World)(m m1 m2 M:ImgD)(val:Nm→Value)(g1:decide (0<k)=false)(g2:¬0<k)(hck:W.cell? ⟨bk,0,none⟩=some (.int .i64 k))(hcn:W.cell? ⟨bn,0,none⟩=some (.int .i64 (n:Int)))(HS:Hid (∀X,Below B W X→(fun X:World=>X.cell? ⟨bn,0,none⟩=some (.int .i64 (n:Int))∧X.cell? ⟨bs,0,none⟩=some (.int .i64 1)∧X.cell? ⟨bs,0+1,none⟩=some (.string page)∧X.cell? ⟨bs,0+1+1,none⟩=some (.slice none 0 0)) X))(HP1:Hid (∀q,Calls Tryz.prog 60 #[.pointer (some ⟨D,0,none⟩),.int .i64 (n:Int),.int .i64 (-1)] (W.drewN q) (Tells (W.drewN q) B D m val nilV (some m1))))(HTK:Hid (∀ (w1:World) (val1:Nm→Value),DK w1 B D val1 m1→Below B W w1→Calls Tryz.prog 61 #[.pointer (some ⟨D,0,none⟩),.agg #[.int .i64 1,.string page,.slice none 0 0]] w1 (fun r w2=>r=.returned (.int .i64 (d:Int))∧∃val2,DTo w1 w2 B D m1 val1 nilV m2 val2)))(HP2:Hid (∀ (w2:World) (val2:Nm→Value),DK w2 B D val2 m2→Below B W w2→Calls Tryz.prog 60 #[.pointer (some ⟨D,0,none⟩),.int .i64 (n:Int),.int .i64 (d:Int)] w2 (Tells w2 B D m2 val2 nilV none))) :
  Calls Tryz.prog 59 #[.pointer (some ⟨D,0,none⟩),.pointer (some ⟨bk,0,none⟩),.pointer (some ⟨bn,0,none⟩),.pointer (some ⟨bs,0,none⟩)] W (fun r W'=>r=.panicked noSlotP∧Below B W W'):=by
 go_enter Tryz.func59,Tryz.ntmps59
 try go_wp2_with fail
 go_quiet (fail)
 go_wp2_with (go_at_call 60;refine (HP1.out _).mono ?_;rintro e w1 ⟨rfl,val1,hT1⟩;have hT1:=DTo.drewN_first hT1;have HT1:=Hid_mkW hT1;clear hT1)
 clear hck hcn
 refine wp_region_held_drew (S:=(fun X:World=>X.cell? ⟨bn,0,none⟩=some (.int .i64 (n:Int))∧X.cell? ⟨bs,0,none⟩=some (.int .i64 1)∧X.cell? ⟨bs,0+1,none⟩=some (.string page)∧X.cell? ⟨bs,0+1+1,none⟩=some (.slice none 0 0))) (by kernel_rfl) (HS.out _ (to_drew HT1.out.bel)) (fun hHeld=>?_)
 refine tkH 0 (.pointer (some ⟨D,0,none⟩)) rfl (Or.inl ⟨by rfl,fun w' hSw=>by obtain⟨q1,q2,q3,q4⟩:=hSw;go_simp⟩) hHeld ?_
 simp only [lays]
 refine tkH 1 (.int .i64 (n:Int)) rfl (Or.inl ⟨by rfl,fun w' hSw=>by obtain⟨q1,q2,q3,q4⟩:=hSw;go_simp⟩) hHeld ?_
 simp only [lays]
 refine tkH 2 (.pointer (some ⟨D,0,none⟩)) rfl (Or.inl ⟨by rfl,fun w' hSw=>by obtain⟨q1,q2,q3,q4⟩:=hSw;go_simp⟩) hHeld ?_
 simp only [lays]
 refine tkH 3 (.agg #[.int .i64 1,.string page,.slice none 0 0]) rfl (Or.inl ⟨by rfl,fun w' hSw=>by obtain⟨q1,q2,q3,q4⟩:=hSw;go_simp⟩) hHeld ?_
 simp only [lays]
 refine wpAnyH_ready (rs:=[4]) (by kernel_rfl) (by simp) ?_
 refine AllReadyH.cons rfl (fun K hK=>?_) AllReadyH.nil
 clear hHeld
 simp only [lays]
 rw [if_pos (by rfl)]
 go_wp2_with (go_at_call 61;refine (HTK.out _ _ HT1.out.dk.drew (to_drew HT1.out.bel)).mono ?_;rintro e w2 ⟨rfl,val2,hT2⟩;have HT2:=Hid_mkW (HT1.out.drew.andThen hT2);clear hT2)
 refine hK.out _ _ (HS.out _ HT2.out.bel) (fun hHeld=>?_)
 clear hK hHeld K
 try simp only [lays]
 refine wpAnyH_ready (rs:=[5]) (by kernel_rfl) (by simp) ?_
 refine AllReadyH.cons rfl (fun K hK=>?_) AllReadyH.nil
 simp only [lays]
 rw [if_pos (by rfl)]
 clear hK
 go_wp2_with (go_at_call 60;refine (HP2.out _ _ HT2.out.dk HT2.out.bel).mono ?_;rintro e w3 ⟨rfl,b3⟩;exact⟨rfl,rfl,HT2.out.bel.trans b3⟩)
set_option maxHeartbeats 4000000 in
theorem wcore_A_ok (bk bn bs n d B D:Nat)(k:Int)(page:ByteArray)(W:World)(m m1 m2 M:ImgD)(val:Nm→Value)(g1:decide (0<k)=false)(g2:¬0<k)(hck:W.cell? ⟨bk,0,none⟩=some (.int .i64 k))(hcn:W.cell? ⟨bn,0,none⟩=some (.int .i64 (n:Int)))(HS:Hid (∀X,Below B W X→(fun X:World=>X.cell? ⟨bn,0,none⟩=some (.int .i64 (n:Int))∧X.cell? ⟨bs,0,none⟩=some (.int .i64 1)∧X.cell? ⟨bs,0+1,none⟩=some (.string page)∧X.cell? ⟨bs,0+1+1,none⟩=some (.slice none 0 0)) X))(HP1:Hid (∀q,Calls Tryz.prog 60 #[.pointer (some ⟨D,0,none⟩),.int .i64 (n:Int),.int .i64 (-1)] (W.drewN q) (Tells (W.drewN q) B D m val nilV (some m1))))(HTK:Hid (∀ (w1:World) (val1:Nm→Value),DK w1 B D val1 m1→Below B W w1→Calls Tryz.prog 61 #[.pointer (some ⟨D,0,none⟩),.agg #[.int .i64 1,.string page,.slice none 0 0]] w1 (fun r w2=>r=.returned (.int .i64 (d:Int))∧∃val2,DTo w1 w2 B D m1 val1 nilV m2 val2)))(HP2:Hid (∀ (w2:World) (val2:Nm→Value),DK w2 B D val2 m2→Below B W w2→Calls Tryz.prog 60 #[.pointer (some ⟨D,0,none⟩),.int .i64 (n:Int),.int .i64 (d:Int)] w2 (Tells w2 B D m2 val2 nilV (some M)))) :
  Calls Tryz.prog 59 #[.pointer (some ⟨D,0,none⟩),.pointer (some ⟨bk,0,none⟩),.pointer (some ⟨bn,0,none⟩),.pointer (some ⟨bs,0,none⟩)] W (fun r W'=>∃val',r=.returned (.tuple #[])∧DTo W W' B D m val nilV M val'):=by
 go_enter Tryz.func59,Tryz.ntmps59
 try go_wp2_with fail
 go_quiet (fail)
 go_wp2_with (go_at_call 60;refine (HP1.out _).mono ?_;rintro e w1 ⟨rfl,val1,hT1⟩;have hT1:=DTo.drewN_first hT1;have HT1:=Hid_mkW hT1;clear hT1)
 clear hck hcn
 refine wp_region_held_drew (S:=(fun X:World=>X.cell? ⟨bn,0,none⟩=some (.int .i64 (n:Int))∧X.cell? ⟨bs,0,none⟩=some (.int .i64 1)∧X.cell? ⟨bs,0+1,none⟩=some (.string page)∧X.cell? ⟨bs,0+1+1,none⟩=some (.slice none 0 0))) (by kernel_rfl) (HS.out _ (to_drew HT1.out.bel)) (fun hHeld=>?_)
 refine tkH 0 (.pointer (some ⟨D,0,none⟩)) rfl (Or.inl ⟨by rfl,fun w' hSw=>by obtain⟨q1,q2,q3,q4⟩:=hSw;go_simp⟩) hHeld ?_
 simp only [lays]
 refine tkH 1 (.int .i64 (n:Int)) rfl (Or.inl ⟨by rfl,fun w' hSw=>by obtain⟨q1,q2,q3,q4⟩:=hSw;go_simp⟩) hHeld ?_
 simp only [lays]
 refine tkH 2 (.pointer (some ⟨D,0,none⟩)) rfl (Or.inl ⟨by rfl,fun w' hSw=>by obtain⟨q1,q2,q3,q4⟩:=hSw;go_simp⟩) hHeld ?_
 simp only [lays]
 refine tkH 3 (.agg #[.int .i64 1,.string page,.slice none 0 0]) rfl (Or.inl ⟨by rfl,fun w' hSw=>by obtain⟨q1,q2,q3,q4⟩:=hSw;go_simp⟩) hHeld ?_
 simp only [lays]
 refine wpAnyH_ready (rs:=[4]) (by kernel_rfl) (by simp) ?_
 refine AllReadyH.cons rfl (fun K hK=>?_) AllReadyH.nil
 clear hHeld
 simp only [lays]
 rw [if_pos (by rfl)]
 go_wp2_with (go_at_call 61;refine (HTK.out _ _ HT1.out.dk.drew (to_drew HT1.out.bel)).mono ?_;rintro e w2 ⟨rfl,val2,hT2⟩;have HT2:=Hid_mkW (HT1.out.drew.andThen hT2);clear hT2)
 refine hK.out _ _ (HS.out _ HT2.out.bel) (fun hHeld=>?_)
 clear hK hHeld K
 try simp only [lays]
 refine wpAnyH_ready (rs:=[5]) (by kernel_rfl) (by simp) ?_
 refine AllReadyH.cons rfl (fun K hK=>?_) AllReadyH.nil
 simp only [lays]
 rw [if_pos (by rfl)]
 go_wp2_with (go_at_call 60;refine (HP2.out _ _ HT2.out.dk HT2.out.bel).mono ?_;rintro e w3 ⟨rfl,val3,hT3⟩;have HT3:=Hid_mkW (HT2.out.andThen hT3);clear hT3)
 refine hK.out _ _ (HS.out _ HT3.out.bel) (fun hHeld=>?_)
 clear hK hHeld K
 refine wpAnyH_done (by kernel_rfl) ?_ _
 go_wp2_with fail
 go_end0
 exact⟨val3,rfl,HT3.out⟩
set_option maxHeartbeats 4000000 in
theorem wcore_B_n1 (bk bn bs n d B D:Nat)(k:Int)(page:ByteArray)(W:World)(m m1 m2 M:ImgD)(val:Nm→Value)(j fg fc sl:Nat)(x:Int)(g1:decide (0<j)=true)(g2:0<j)(g3:(j:Int)<(sl:Int))(g4:j<sl)(d3:W.cell? ⟨D,3,none⟩=some (.slice (some ⟨fg,0,none⟩) sl fc))(c2:W.cell? ⟨fg,j,none⟩=some (.int .i64 x))(g5:(x == 1)=false)(hck:W.cell? ⟨bk,0,none⟩=some (.int .i64 (j:Int)))(hcn:W.cell? ⟨bn,0,none⟩=some (.int .i64 (n:Int)))(HS:Hid (∀X,Below B W X→(fun X:World=>X.cell? ⟨bn,0,none⟩=some (.int .i64 (n:Int))∧X.cell? ⟨bs,0,none⟩=some (.int .i64 1)∧X.cell? ⟨bs,0+1,none⟩=some (.string page)∧X.cell? ⟨bs,0+1+1,none⟩=some (.slice none 0 0)) X))(HP1:Hid (∀q,Calls Tryz.prog 60 #[.pointer (some ⟨D,0,none⟩),.int .i64 (n:Int),.int .i64 (-1)] (W.drewN q) (Tells (W.drewN q) B D m val nilV none))) :
  Calls Tryz.prog 59 #[.pointer (some ⟨D,0,none⟩),.pointer (some ⟨bk,0,none⟩),.pointer (some ⟨bn,0,none⟩),.pointer (some ⟨bs,0,none⟩)] W (fun r W'=>r=.panicked noSlotP∧Below B W W'):=by
 go_enter Tryz.func59,Tryz.ntmps59
 try go_wp2_with fail
 go_quiet (fail)
 go_wp2_with (go_at_call 60;refine (HP1.out _).mono ?_;rintro e w3 ⟨rfl,b3⟩;exact⟨rfl,rfl,drewN_first b3⟩)
set_option maxHeartbeats 4000000 in
theorem wcore_B_n2 (bk bn bs n d B D:Nat)(k:Int)(page:ByteArray)(W:World)(m m1 m2 M:ImgD)(val:Nm→Value)(j fg fc sl:Nat)(x:Int)(g1:decide (0<j)=true)(g2:0<j)(g3:(j:Int)<(sl:Int))(g4:j<sl)(d3:W.cell? ⟨D,3,none⟩=some (.slice (some ⟨fg,0,none⟩) sl fc))(c2:W.cell? ⟨fg,j,none⟩=some (.int .i64 x))(g5:(x == 1)=false)(hck:W.cell? ⟨bk,0,none⟩=some (.int .i64 (j:Int)))(hcn:W.cell? ⟨bn,0,none⟩=some (.int .i64 (n:Int)))(HS:Hid (∀X,Below B W X→(fun X:World=>X.cell? ⟨bn,0,none⟩=some (.int .i64 (n:Int))∧X.cell? ⟨bs,0,none⟩=some (.int .i64 1)∧X.cell? ⟨bs,0+1,none⟩=some (.string page)∧X.cell? ⟨bs,0+1+1,none⟩=some (.slice none 0 0)) X))(HP1:Hid (∀q,Calls Tryz.prog 60 #[.pointer (some ⟨D,0,none⟩),.int .i64 (n:Int),.int .i64 (-1)] (W.drewN q) (Tells (W.drewN q) B D m val nilV (some m1))))(HTK:Hid (∀ (w1:World) (val1:Nm→Value),DK w1 B D val1 m1→Below B W w1→Calls Tryz.prog 61 #[.pointer (some ⟨D,0,none⟩),.agg #[.int .i64 1,.string page,.slice none 0 0]] w1 (fun r w2=>r=.panicked noSlotP∧Below B W w2))) :
  Calls Tryz.prog 59 #[.pointer (some ⟨D,0,none⟩),.pointer (some ⟨bk,0,none⟩),.pointer (some ⟨bn,0,none⟩),.pointer (some ⟨bs,0,none⟩)] W (fun r W'=>r=.panicked noSlotP∧Below B W W'):=by
 go_enter Tryz.func59,Tryz.ntmps59
 try go_wp2_with fail
 go_quiet (fail)
 go_wp2_with (go_at_call 60;refine (HP1.out _).mono ?_;rintro e w1 ⟨rfl,val1,hT1⟩;have hT1:=DTo.drewN_first hT1;have HT1:=Hid_mkW hT1;clear hT1)
 clear hck hcn
 refine wp_region_held_drew (S:=(fun X:World=>X.cell? ⟨bn,0,none⟩=some (.int .i64 (n:Int))∧X.cell? ⟨bs,0,none⟩=some (.int .i64 1)∧X.cell? ⟨bs,0+1,none⟩=some (.string page)∧X.cell? ⟨bs,0+1+1,none⟩=some (.slice none 0 0))) (by kernel_rfl) (HS.out _ (to_drew HT1.out.bel)) (fun hHeld=>?_)
 refine tkH 0 (.pointer (some ⟨D,0,none⟩)) rfl (Or.inl ⟨by rfl,fun w' hSw=>by obtain⟨q1,q2,q3,q4⟩:=hSw;go_simp⟩) hHeld ?_
 simp only [lays]
 refine tkH 1 (.int .i64 (n:Int)) rfl (Or.inl ⟨by rfl,fun w' hSw=>by obtain⟨q1,q2,q3,q4⟩:=hSw;go_simp⟩) hHeld ?_
 simp only [lays]
 refine tkH 2 (.pointer (some ⟨D,0,none⟩)) rfl (Or.inl ⟨by rfl,fun w' hSw=>by obtain⟨q1,q2,q3,q4⟩:=hSw;go_simp⟩) hHeld ?_
 simp only [lays]
 refine tkH 3 (.agg #[.int .i64 1,.string page,.slice none 0 0]) rfl (Or.inl ⟨by rfl,fun w' hSw=>by obtain⟨q1,q2,q3,q4⟩:=hSw;go_simp⟩) hHeld ?_
 simp only [lays]
 refine wpAnyH_ready (rs:=[4]) (by kernel_rfl) (by simp) ?_
 refine AllReadyH.cons rfl (fun K hK=>?_) AllReadyH.nil
 clear hHeld
 simp only [lays]
 rw [if_pos (by rfl)]
 clear hK
 go_wp2_with (go_at_call 61;refine (HTK.out _ _ HT1.out.dk.drew (to_drew HT1.out.bel)).mono ?_;rintro e w2 ⟨rfl,b2⟩;exact⟨rfl,rfl,b2⟩)
set_option maxHeartbeats 4000000 in
theorem wcore_B_n3 (bk bn bs n d B D:Nat)(k:Int)(page:ByteArray)(W:World)(m m1 m2 M:ImgD)(val:Nm→Value)(j fg fc sl:Nat)(x:Int)(g1:decide (0<j)=true)(g2:0<j)(g3:(j:Int)<(sl:Int))(g4:j<sl)(d3:W.cell? ⟨D,3,none⟩=some (.slice (some ⟨fg,0,none⟩) sl fc))(c2:W.cell? ⟨fg,j,none⟩=some (.int .i64 x))(g5:(x == 1)=false)(hck:W.cell? ⟨bk,0,none⟩=some (.int .i64 (j:Int)))(hcn:W.cell? ⟨bn,0,none⟩=some (.int .i64 (n:Int)))(HS:Hid (∀X,Below B W X→(fun X:World=>X.cell? ⟨bn,0,none⟩=some (.int .i64 (n:Int))∧X.cell? ⟨bs,0,none⟩=some (.int .i64 1)∧X.cell? ⟨bs,0+1,none⟩=some (.string page)∧X.cell? ⟨bs,0+1+1,none⟩=some (.slice none 0 0)) X))(HP1:Hid (∀q,Calls Tryz.prog 60 #[.pointer (some ⟨D,0,none⟩),.int .i64 (n:Int),.int .i64 (-1)] (W.drewN q) (Tells (W.drewN q) B D m val nilV (some m1))))(HTK:Hid (∀ (w1:World) (val1:Nm→Value),DK w1 B D val1 m1→Below B W w1→Calls Tryz.prog 61 #[.pointer (some ⟨D,0,none⟩),.agg #[.int .i64 1,.string page,.slice none 0 0]] w1 (fun r w2=>r=.returned (.int .i64 (d:Int))∧∃val2,DTo w1 w2 B D m1 val1 nilV m2 val2)))(HP2:Hid (∀ (w2:World) (val2:Nm→Value),DK w2 B D val2 m2→Below B W w2→Calls Tryz.prog 60 #[.pointer (some ⟨D,0,none⟩),.int .i64 (n:Int),.int .i64 (d:Int)] w2 (Tells w2 B D m2 val2 nilV none))) :
  Calls Tryz.prog 59 #[.pointer (some ⟨D,0,none⟩),.pointer (some ⟨bk,0,none⟩),.pointer (some ⟨bn,0,none⟩),.pointer (some ⟨bs,0,none⟩)] W (fun r W'=>r=.panicked noSlotP∧Below B W W'):=by
 go_enter Tryz.func59,Tryz.ntmps59
 try go_wp2_with fail
 go_quiet (fail)
 go_wp2_with (go_at_call 60;refine (HP1.out _).mono ?_;rintro e w1 ⟨rfl,val1,hT1⟩;have hT1:=DTo.drewN_first hT1;have HT1:=Hid_mkW hT1;clear hT1)
 clear hck hcn
 refine wp_region_held_drew (S:=(fun X:World=>X.cell? ⟨bn,0,none⟩=some (.int .i64 (n:Int))∧X.cell? ⟨bs,0,none⟩=some (.int .i64 1)∧X.cell? ⟨bs,0+1,none⟩=some (.string page)∧X.cell? ⟨bs,0+1+1,none⟩=some (.slice none 0 0))) (by kernel_rfl) (HS.out _ (to_drew HT1.out.bel)) (fun hHeld=>?_)
 refine tkH 0 (.pointer (some ⟨D,0,none⟩)) rfl (Or.inl ⟨by rfl,fun w' hSw=>by obtain⟨q1,q2,q3,q4⟩:=hSw;go_simp⟩) hHeld ?_
 simp only [lays]
 refine tkH 1 (.int .i64 (n:Int)) rfl (Or.inl ⟨by rfl,fun w' hSw=>by obtain⟨q1,q2,q3,q4⟩:=hSw;go_simp⟩) hHeld ?_
 simp only [lays]
 refine tkH 2 (.pointer (some ⟨D,0,none⟩)) rfl (Or.inl ⟨by rfl,fun w' hSw=>by obtain⟨q1,q2,q3,q4⟩:=hSw;go_simp⟩) hHeld ?_
 simp only [lays]
 refine tkH 3 (.agg #[.int .i64 1,.string page,.slice none 0 0]) rfl (Or.inl ⟨by rfl,fun w' hSw=>by obtain⟨q1,q2,q3,q4⟩:=hSw;go_simp⟩) hHeld ?_
 simp only [lays]
 refine wpAnyH_ready (rs:=[4]) (by kernel_rfl) (by simp) ?_
 refine AllReadyH.cons rfl (fun K hK=>?_) AllReadyH.nil
 clear hHeld
 simp only [lays]
 rw [if_pos (by rfl)]
 go_wp2_with (go_at_call 61;refine (HTK.out _ _ HT1.out.dk.drew (to_drew HT1.out.bel)).mono ?_;rintro e w2 ⟨rfl,val2,hT2⟩;have HT2:=Hid_mkW (HT1.out.drew.andThen hT2);clear hT2)
 refine hK.out _ _ (HS.out _ HT2.out.bel) (fun hHeld=>?_)
 clear hK hHeld K
 try simp only [lays]
 refine wpAnyH_ready (rs:=[5]) (by kernel_rfl) (by simp) ?_
 refine AllReadyH.cons rfl (fun K hK=>?_) AllReadyH.nil
 simp only [lays]
 rw [if_pos (by rfl)]
 clear hK
 go_wp2_with (go_at_call 60;refine (HP2.out _ _ HT2.out.dk HT2.out.bel).mono ?_;rintro e w3 ⟨rfl,b3⟩;exact⟨rfl,rfl,HT2.out.bel.trans b3⟩)
set_option maxHeartbeats 4000000 in
theorem wcore_B_ok (bk bn bs n d B D:Nat)(k:Int)(page:ByteArray)(W:World)(m m1 m2 M:ImgD)(val:Nm→Value)(j fg fc sl:Nat)(x:Int)(g1:decide (0<j)=true)(g2:0<j)(g3:(j:Int)<(sl:Int))(g4:j<sl)(d3:W.cell? ⟨D,3,none⟩=some (.slice (some ⟨fg,0,none⟩) sl fc))(c2:W.cell? ⟨fg,j,none⟩=some (.int .i64 x))(g5:(x == 1)=false)(hck:W.cell? ⟨bk,0,none⟩=some (.int .i64 (j:Int)))(hcn:W.cell? ⟨bn,0,none⟩=some (.int .i64 (n:Int)))(HS:Hid (∀X,Below B W X→(fun X:World=>X.cell? ⟨bn,0,none⟩=some (.int .i64 (n:Int))∧X.cell? ⟨bs,0,none⟩=some (.int .i64 1)∧X.cell? ⟨bs,0+1,none⟩=some (.string page)∧X.cell? ⟨bs,0+1+1,none⟩=some (.slice none 0 0)) X))(HP1:Hid (∀q,Calls Tryz.prog 60 #[.pointer (some ⟨D,0,none⟩),.int .i64 (n:Int),.int .i64 (-1)] (W.drewN q) (Tells (W.drewN q) B D m val nilV (some m1))))(HTK:Hid (∀ (w1:World) (val1:Nm→Value),DK w1 B D val1 m1→Below B W w1→Calls Tryz.prog 61 #[.pointer (some ⟨D,0,none⟩),.agg #[.int .i64 1,.string page,.slice none 0 0]] w1 (fun r w2=>r=.returned (.int .i64 (d:Int))∧∃val2,DTo w1 w2 B D m1 val1 nilV m2 val2)))(HP2:Hid (∀ (w2:World) (val2:Nm→Value),DK w2 B D val2 m2→Below B W w2→Calls Tryz.prog 60 #[.pointer (some ⟨D,0,none⟩),.int .i64 (n:Int),.int .i64 (d:Int)] w2 (Tells w2 B D m2 val2 nilV (some M)))) :
  Calls Tryz.prog 59 #[.pointer (some ⟨D,0,none⟩),.pointer (some ⟨bk,0,none⟩),.pointer (some ⟨bn,0,none⟩),.pointer (some ⟨bs,0,none⟩)] W (fun r W'=>∃val',r=.returned (.tuple #[])∧DTo W W' B D m val nilV M val'):=by
 go_enter Tryz.func59,Tryz.ntmps59
 try go_wp2_with fail
 go_quiet (fail)
 go_wp2_with (go_at_call 60;refine (HP1.out _).mono ?_;rintro e w1 ⟨rfl,val1,hT1⟩;have hT1:=DTo.drewN_first hT1;have HT1:=Hid_mkW hT1;clear hT1)
 clear hck hcn
 refine wp_region_held_drew (S:=(fun X:World=>X.cell? ⟨bn,0,none⟩=some (.int .i64 (n:Int))∧X.cell? ⟨bs,0,none⟩=some (.int .i64 1)∧X.cell? ⟨bs,0+1,none⟩=some (.string page)∧X.cell? ⟨bs,0+1+1,none⟩=some (.slice none 0 0))) (by kernel_rfl) (HS.out _ (to_drew HT1.out.bel)) (fun hHeld=>?_)
 refine tkH 0 (.pointer (some ⟨D,0,none⟩)) rfl (Or.inl ⟨by rfl,fun w' hSw=>by obtain⟨q1,q2,q3,q4⟩:=hSw;go_simp⟩) hHeld ?_
 simp only [lays]
 refine tkH 1 (.int .i64 (n:Int)) rfl (Or.inl ⟨by rfl,fun w' hSw=>by obtain⟨q1,q2,q3,q4⟩:=hSw;go_simp⟩) hHeld ?_
 simp only [lays]
 refine tkH 2 (.pointer (some ⟨D,0,none⟩)) rfl (Or.inl ⟨by rfl,fun w' hSw=>by obtain⟨q1,q2,q3,q4⟩:=hSw;go_simp⟩) hHeld ?_
 simp only [lays]
 refine tkH 3 (.agg #[.int .i64 1,.string page,.slice none 0 0]) rfl (Or.inl ⟨by rfl,fun w' hSw=>by obtain⟨q1,q2,q3,q4⟩:=hSw;go_simp⟩) hHeld ?_
 simp only [lays]
 refine wpAnyH_ready (rs:=[4]) (by kernel_rfl) (by simp) ?_
 refine AllReadyH.cons rfl (fun K hK=>?_) AllReadyH.nil
 clear hHeld
 simp only [lays]
 rw [if_pos (by rfl)]
 go_wp2_with (go_at_call 61;refine (HTK.out _ _ HT1.out.dk.drew (to_drew HT1.out.bel)).mono ?_;rintro e w2 ⟨rfl,val2,hT2⟩;have HT2:=Hid_mkW (HT1.out.drew.andThen hT2);clear hT2)
 refine hK.out _ _ (HS.out _ HT2.out.bel) (fun hHeld=>?_)
 clear hK hHeld K
 try simp only [lays]
 refine wpAnyH_ready (rs:=[5]) (by kernel_rfl) (by simp) ?_
 refine AllReadyH.cons rfl (fun K hK=>?_) AllReadyH.nil
 simp only [lays]
 rw [if_pos (by rfl)]
 go_wp2_with (go_at_call 60;refine (HP2.out _ _ HT2.out.dk HT2.out.bel).mono ?_;rintro e w3 ⟨rfl,val3,hT3⟩;have HT3:=Hid_mkW (HT2.out.andThen hT3);clear hT3)
 refine hK.out _ _ (HS.out _ HT3.out.bel) (fun hHeld=>?_)
 clear hK hHeld K
 refine wpAnyH_done (by kernel_rfl) ?_ _
 go_wp2_with fail
 go_end0
 exact⟨val3,rfl,HT3.out⟩
set_option maxHeartbeats 4000000 in
theorem wcore_C_n1 (bk bn bs n d B D:Nat)(k:Int)(page:ByteArray)(W:World)(m m1 m2 M:ImgD)(val:Nm→Value)(j t g cap rl fg fc sl:Nat)(y:Int)(g1:decide (0<j)=true)(g2:0<j)(g3:(j:Int)<(sl:Int))(g4:j<sl)(d3:W.cell? ⟨D,3,none⟩=some (.slice (some ⟨fg,0,none⟩) sl fc))(c2:W.cell? ⟨fg,j,none⟩=some (.int .i64 1))(d1:W.cell? ⟨D,1,none⟩=some (.slice (some ⟨g,0,none⟩) rl cap))(h16:n<16)(g6:n / 4<rl)(g7:(n:Int) / 4<(rl:Int))(hq:((n:Int) / 4).toNat=n / 4)(c:W.cell? ⟨g,n / 4,none⟩=some (.int .i64 (t:Int)))(g8:(t:Int)<(sl:Int))(g9:t<sl)(c3:W.cell? ⟨fg,t,none⟩=some (.int .i64 y))(g5:(y == 1)=false)(hck:W.cell? ⟨bk,0,none⟩=some (.int .i64 (j:Int)))(hcn:W.cell? ⟨bn,0,none⟩=some (.int .i64 (n:Int)))(HS:Hid (∀X,Below B W X→(fun X:World=>X.cell? ⟨bn,0,none⟩=some (.int .i64 (n:Int))∧X.cell? ⟨bs,0,none⟩=some (.int .i64 1)∧X.cell? ⟨bs,0+1,none⟩=some (.string page)∧X.cell? ⟨bs,0+1+1,none⟩=some (.slice none 0 0)) X))(HP1:Hid (∀q,Calls Tryz.prog 60 #[.pointer (some ⟨D,0,none⟩),.int .i64 (n:Int),.int .i64 (-1)] (W.drewN q) (Tells (W.drewN q) B D m val nilV none))) :
  Calls Tryz.prog 59 #[.pointer (some ⟨D,0,none⟩),.pointer (some ⟨bk,0,none⟩),.pointer (some ⟨bn,0,none⟩),.pointer (some ⟨bs,0,none⟩)] W (fun r W'=>r=.panicked noSlotP∧Below B W W'):=by
 go_enter Tryz.func59,Tryz.ntmps59
 try go_wp2_with fail
 go_quiet (fail)
 go_wp2_with (go_at_call 60;refine (HP1.out _).mono ?_;rintro e w3 ⟨rfl,b3⟩;exact⟨rfl,rfl,drewN_first b3⟩)
set_option maxHeartbeats 4000000 in
theorem wcore_C_n2 (bk bn bs n d B D:Nat)(k:Int)(page:ByteArray)(W:World)(m m1 m2 M:ImgD)(val:Nm→Value)(j t g cap rl fg fc sl:Nat)(y:Int)(g1:decide (0<j)=true)(g2:0<j)(g3:(j:Int)<(sl:Int))(g4:j<sl)(d3:W.cell? ⟨D,3,none⟩=some (.slice (some ⟨fg,0,none⟩) sl fc))(c2:W.cell? ⟨fg,j,none⟩=some (.int .i64 1))(d1:W.cell? ⟨D,1,none⟩=some (.slice (some ⟨g,0,none⟩) rl cap))(h16:n<16)(g6:n / 4<rl)(g7:(n:Int) / 4<(rl:Int))(hq:((n:Int) / 4).toNat=n / 4)(c:W.cell? ⟨g,n / 4,none⟩=some (.int .i64 (t:Int)))(g8:(t:Int)<(sl:Int))(g9:t<sl)(c3:W.cell? ⟨fg,t,none⟩=some (.int .i64 y))(g5:(y == 1)=false)(hck:W.cell? ⟨bk,0,none⟩=some (.int .i64 (j:Int)))(hcn:W.cell? ⟨bn,0,none⟩=some (.int .i64 (n:Int)))(HS:Hid (∀X,Below B W X→(fun X:World=>X.cell? ⟨bn,0,none⟩=some (.int .i64 (n:Int))∧X.cell? ⟨bs,0,none⟩=some (.int .i64 1)∧X.cell? ⟨bs,0+1,none⟩=some (.string page)∧X.cell? ⟨bs,0+1+1,none⟩=some (.slice none 0 0)) X))(HP1:Hid (∀q,Calls Tryz.prog 60 #[.pointer (some ⟨D,0,none⟩),.int .i64 (n:Int),.int .i64 (-1)] (W.drewN q) (Tells (W.drewN q) B D m val nilV (some m1))))(HTK:Hid (∀ (w1:World) (val1:Nm→Value),DK w1 B D val1 m1→Below B W w1→Calls Tryz.prog 61 #[.pointer (some ⟨D,0,none⟩),.agg #[.int .i64 1,.string page,.slice none 0 0]] w1 (fun r w2=>r=.panicked noSlotP∧Below B W w2))) :
  Calls Tryz.prog 59 #[.pointer (some ⟨D,0,none⟩),.pointer (some ⟨bk,0,none⟩),.pointer (some ⟨bn,0,none⟩),.pointer (some ⟨bs,0,none⟩)] W (fun r W'=>r=.panicked noSlotP∧Below B W W'):=by
 go_enter Tryz.func59,Tryz.ntmps59
 try go_wp2_with fail
 go_quiet (fail)
 go_wp2_with (go_at_call 60;refine (HP1.out _).mono ?_;rintro e w1 ⟨rfl,val1,hT1⟩;have hT1:=DTo.drewN_first hT1;have HT1:=Hid_mkW hT1;clear hT1)
 clear hck hcn
 refine wp_region_held_drew (S:=(fun X:World=>X.cell? ⟨bn,0,none⟩=some (.int .i64 (n:Int))∧X.cell? ⟨bs,0,none⟩=some (.int .i64 1)∧X.cell? ⟨bs,0+1,none⟩=some (.string page)∧X.cell? ⟨bs,0+1+1,none⟩=some (.slice none 0 0))) (by kernel_rfl) (HS.out _ (to_drew HT1.out.bel)) (fun hHeld=>?_)
 refine tkH 0 (.pointer (some ⟨D,0,none⟩)) rfl (Or.inl ⟨by rfl,fun w' hSw=>by obtain⟨q1,q2,q3,q4⟩:=hSw;go_simp⟩) hHeld ?_
 simp only [lays]
 refine tkH 1 (.int .i64 (n:Int)) rfl (Or.inl ⟨by rfl,fun w' hSw=>by obtain⟨q1,q2,q3,q4⟩:=hSw;go_simp⟩) hHeld ?_
 simp only [lays]
 refine tkH 2 (.pointer (some ⟨D,0,none⟩)) rfl (Or.inl ⟨by rfl,fun w' hSw=>by obtain⟨q1,q2,q3,q4⟩:=hSw;go_simp⟩) hHeld ?_
 simp only [lays]
 refine tkH 3 (.agg #[.int .i64 1,.string page,.slice none 0 0]) rfl (Or.inl ⟨by rfl,fun w' hSw=>by obtain⟨q1,q2,q3,q4⟩:=hSw;go_simp⟩) hHeld ?_
 simp only [lays]
 refine wpAnyH_ready (rs:=[4]) (by kernel_rfl) (by simp) ?_
 refine AllReadyH.cons rfl (fun K hK=>?_) AllReadyH.nil
 clear hHeld
 simp only [lays]
 rw [if_pos (by rfl)]
 clear hK
 go_wp2_with (go_at_call 61;refine (HTK.out _ _ HT1.out.dk.drew (to_drew HT1.out.bel)).mono ?_;rintro e w2 ⟨rfl,b2⟩;exact⟨rfl,rfl,b2⟩)
set_option maxHeartbeats 4000000 in
theorem wcore_C_n3 (bk bn bs n d B D:Nat)(k:Int)(page:ByteArray)(W:World)(m m1 m2 M:ImgD)(val:Nm→Value)(j t g cap rl fg fc sl:Nat)(y:Int)(g1:decide (0<j)=true)(g2:0<j)(g3:(j:Int)<(sl:Int))(g4:j<sl)(d3:W.cell? ⟨D,3,none⟩=some (.slice (some ⟨fg,0,none⟩) sl fc))(c2:W.cell? ⟨fg,j,none⟩=some (.int .i64 1))(d1:W.cell? ⟨D,1,none⟩=some (.slice (some ⟨g,0,none⟩) rl cap))(h16:n<16)(g6:n / 4<rl)(g7:(n:Int) / 4<(rl:Int))(hq:((n:Int) / 4).toNat=n / 4)(c:W.cell? ⟨g,n / 4,none⟩=some (.int .i64 (t:Int)))(g8:(t:Int)<(sl:Int))(g9:t<sl)(c3:W.cell? ⟨fg,t,none⟩=some (.int .i64 y))(g5:(y == 1)=false)(hck:W.cell? ⟨bk,0,none⟩=some (.int .i64 (j:Int)))(hcn:W.cell? ⟨bn,0,none⟩=some (.int .i64 (n:Int)))(HS:Hid (∀X,Below B W X→(fun X:World=>X.cell? ⟨bn,0,none⟩=some (.int .i64 (n:Int))∧X.cell? ⟨bs,0,none⟩=some (.int .i64 1)∧X.cell? ⟨bs,0+1,none⟩=some (.string page)∧X.cell? ⟨bs,0+1+1,none⟩=some (.slice none 0 0)) X))(HP1:Hid (∀q,Calls Tryz.prog 60 #[.pointer (some ⟨D,0,none⟩),.int .i64 (n:Int),.int .i64 (-1)] (W.drewN q) (Tells (W.drewN q) B D m val nilV (some m1))))(HTK:Hid (∀ (w1:World) (val1:Nm→Value),DK w1 B D val1 m1→Below B W w1→Calls Tryz.prog 61 #[.pointer (some ⟨D,0,none⟩),.agg #[.int .i64 1,.string page,.slice none 0 0]] w1 (fun r w2=>r=.returned (.int .i64 (d:Int))∧∃val2,DTo w1 w2 B D m1 val1 nilV m2 val2)))(HP2:Hid (∀ (w2:World) (val2:Nm→Value),DK w2 B D val2 m2→Below B W w2→Calls Tryz.prog 60 #[.pointer (some ⟨D,0,none⟩),.int .i64 (n:Int),.int .i64 (d:Int)] w2 (Tells w2 B D m2 val2 nilV none))) :
  Calls Tryz.prog 59 #[.pointer (some ⟨D,0,none⟩),.pointer (some ⟨bk,0,none⟩),.pointer (some ⟨bn,0,none⟩),.pointer (some ⟨bs,0,none⟩)] W (fun r W'=>r=.panicked noSlotP∧Below B W W'):=by
 go_enter Tryz.func59,Tryz.ntmps59
 try go_wp2_with fail
 go_quiet (fail)
 go_wp2_with (go_at_call 60;refine (HP1.out _).mono ?_;rintro e w1 ⟨rfl,val1,hT1⟩;have hT1:=DTo.drewN_first hT1;have HT1:=Hid_mkW hT1;clear hT1)
 clear hck hcn
 refine wp_region_held_drew (S:=(fun X:World=>X.cell? ⟨bn,0,none⟩=some (.int .i64 (n:Int))∧X.cell? ⟨bs,0,none⟩=some (.int .i64 1)∧X.cell? ⟨bs,0+1,none⟩=some (.string page)∧X.cell? ⟨bs,0+1+1,none⟩=some (.slice none 0 0))) (by kernel_rfl) (HS.out _ (to_drew HT1.out.bel)) (fun hHeld=>?_)
 refine tkH 0 (.pointer (some ⟨D,0,none⟩)) rfl (Or.inl ⟨by rfl,fun w' hSw=>by obtain⟨q1,q2,q3,q4⟩:=hSw;go_simp⟩) hHeld ?_
 simp only [lays]
 refine tkH 1 (.int .i64 (n:Int)) rfl (Or.inl ⟨by rfl,fun w' hSw=>by obtain⟨q1,q2,q3,q4⟩:=hSw;go_simp⟩) hHeld ?_
 simp only [lays]
 refine tkH 2 (.pointer (some ⟨D,0,none⟩)) rfl (Or.inl ⟨by rfl,fun w' hSw=>by obtain⟨q1,q2,q3,q4⟩:=hSw;go_simp⟩) hHeld ?_
 simp only [lays]
 refine tkH 3 (.agg #[.int .i64 1,.string page,.slice none 0 0]) rfl (Or.inl ⟨by rfl,fun w' hSw=>by obtain⟨q1,q2,q3,q4⟩:=hSw;go_simp⟩) hHeld ?_
 simp only [lays]
 refine wpAnyH_ready (rs:=[4]) (by kernel_rfl) (by simp) ?_
 refine AllReadyH.cons rfl (fun K hK=>?_) AllReadyH.nil
 clear hHeld
 simp only [lays]
 rw [if_pos (by rfl)]
 go_wp2_with (go_at_call 61;refine (HTK.out _ _ HT1.out.dk.drew (to_drew HT1.out.bel)).mono ?_;rintro e w2 ⟨rfl,val2,hT2⟩;have HT2:=Hid_mkW (HT1.out.drew.andThen hT2);clear hT2)
 refine hK.out _ _ (HS.out _ HT2.out.bel) (fun hHeld=>?_)
 clear hK hHeld K
 try simp only [lays]
 refine wpAnyH_ready (rs:=[5]) (by kernel_rfl) (by simp) ?_
 refine AllReadyH.cons rfl (fun K hK=>?_) AllReadyH.nil
 simp only [lays]
 rw [if_pos (by rfl)]
 clear hK
 go_wp2_with (go_at_call 60;refine (HP2.out _ _ HT2.out.dk HT2.out.bel).mono ?_;rintro e w3 ⟨rfl,b3⟩;exact⟨rfl,rfl,HT2.out.bel.trans b3⟩)
set_option maxHeartbeats 4000000 in
theorem wcore_C_ok (bk bn bs n d B D:Nat)(k:Int)(page:ByteArray)(W:World)(m m1 m2 M:ImgD)(val:Nm→Value)(j t g cap rl fg fc sl:Nat)(y:Int)(g1:decide (0<j)=true)(g2:0<j)(g3:(j:Int)<(sl:Int))(g4:j<sl)(d3:W.cell? ⟨D,3,none⟩=some (.slice (some ⟨fg,0,none⟩) sl fc))(c2:W.cell? ⟨fg,j,none⟩=some (.int .i64 1))(d1:W.cell? ⟨D,1,none⟩=some (.slice (some ⟨g,0,none⟩) rl cap))(h16:n<16)(g6:n / 4<rl)(g7:(n:Int) / 4<(rl:Int))(hq:((n:Int) / 4).toNat=n / 4)(c:W.cell? ⟨g,n / 4,none⟩=some (.int .i64 (t:Int)))(g8:(t:Int)<(sl:Int))(g9:t<sl)(c3:W.cell? ⟨fg,t,none⟩=some (.int .i64 y))(g5:(y == 1)=false)(hck:W.cell? ⟨bk,0,none⟩=some (.int .i64 (j:Int)))(hcn:W.cell? ⟨bn,0,none⟩=some (.int .i64 (n:Int)))(HS:Hid (∀X,Below B W X→(fun X:World=>X.cell? ⟨bn,0,none⟩=some (.int .i64 (n:Int))∧X.cell? ⟨bs,0,none⟩=some (.int .i64 1)∧X.cell? ⟨bs,0+1,none⟩=some (.string page)∧X.cell? ⟨bs,0+1+1,none⟩=some (.slice none 0 0)) X))(HP1:Hid (∀q,Calls Tryz.prog 60 #[.pointer (some ⟨D,0,none⟩),.int .i64 (n:Int),.int .i64 (-1)] (W.drewN q) (Tells (W.drewN q) B D m val nilV (some m1))))(HTK:Hid (∀ (w1:World) (val1:Nm→Value),DK w1 B D val1 m1→Below B W w1→Calls Tryz.prog 61 #[.pointer (some ⟨D,0,none⟩),.agg #[.int .i64 1,.string page,.slice none 0 0]] w1 (fun r w2=>r=.returned (.int .i64 (d:Int))∧∃val2,DTo w1 w2 B D m1 val1 nilV m2 val2)))(HP2:Hid (∀ (w2:World) (val2:Nm→Value),DK w2 B D val2 m2→Below B W w2→Calls Tryz.prog 60 #[.pointer (some ⟨D,0,none⟩),.int .i64 (n:Int),.int .i64 (d:Int)] w2 (Tells w2 B D m2 val2 nilV (some M)))) :
  Calls Tryz.prog 59 #[.pointer (some ⟨D,0,none⟩),.pointer (some ⟨bk,0,none⟩),.pointer (some ⟨bn,0,none⟩),.pointer (some ⟨bs,0,none⟩)] W (fun r W'=>∃val',r=.returned (.tuple #[])∧DTo W W' B D m val nilV M val'):=by
 go_enter Tryz.func59,Tryz.ntmps59
 try go_wp2_with fail
 go_quiet (fail)
 go_wp2_with (go_at_call 60;refine (HP1.out _).mono ?_;rintro e w1 ⟨rfl,val1,hT1⟩;have hT1:=DTo.drewN_first hT1;have HT1:=Hid_mkW hT1;clear hT1)
 clear hck hcn
 refine wp_region_held_drew (S:=(fun X:World=>X.cell? ⟨bn,0,none⟩=some (.int .i64 (n:Int))∧X.cell? ⟨bs,0,none⟩=some (.int .i64 1)∧X.cell? ⟨bs,0+1,none⟩=some (.string page)∧X.cell? ⟨bs,0+1+1,none⟩=some (.slice none 0 0))) (by kernel_rfl) (HS.out _ (to_drew HT1.out.bel)) (fun hHeld=>?_)
 refine tkH 0 (.pointer (some ⟨D,0,none⟩)) rfl (Or.inl ⟨by rfl,fun w' hSw=>by obtain⟨q1,q2,q3,q4⟩:=hSw;go_simp⟩) hHeld ?_
 simp only [lays]
 refine tkH 1 (.int .i64 (n:Int)) rfl (Or.inl ⟨by rfl,fun w' hSw=>by obtain⟨q1,q2,q3,q4⟩:=hSw;go_simp⟩) hHeld ?_
 simp only [lays]
 refine tkH 2 (.pointer (some ⟨D,0,none⟩)) rfl (Or.inl ⟨by rfl,fun w' hSw=>by obtain⟨q1,q2,q3,q4⟩:=hSw;go_simp⟩) hHeld ?_
 simp only [lays]
 refine tkH 3 (.agg #[.int .i64 1,.string page,.slice none 0 0]) rfl (Or.inl ⟨by rfl,fun w' hSw=>by obtain⟨q1,q2,q3,q4⟩:=hSw;go_simp⟩) hHeld ?_
 simp only [lays]
 refine wpAnyH_ready (rs:=[4]) (by kernel_rfl) (by simp) ?_
 refine AllReadyH.cons rfl (fun K hK=>?_) AllReadyH.nil
 clear hHeld
 simp only [lays]
 rw [if_pos (by rfl)]
 go_wp2_with (go_at_call 61;refine (HTK.out _ _ HT1.out.dk.drew (to_drew HT1.out.bel)).mono ?_;rintro e w2 ⟨rfl,val2,hT2⟩;have HT2:=Hid_mkW (HT1.out.drew.andThen hT2);clear hT2)
 refine hK.out _ _ (HS.out _ HT2.out.bel) (fun hHeld=>?_)
 clear hK hHeld K
 try simp only [lays]
 refine wpAnyH_ready (rs:=[5]) (by kernel_rfl) (by simp) ?_
 refine AllReadyH.cons rfl (fun K hK=>?_) AllReadyH.nil
 simp only [lays]
 rw [if_pos (by rfl)]
 go_wp2_with (go_at_call 60;refine (HP2.out _ _ HT2.out.dk HT2.out.bel).mono ?_;rintro e w3 ⟨rfl,val3,hT3⟩;have HT3:=Hid_mkW (HT2.out.andThen hT3);clear hT3)
 refine hK.out _ _ (HS.out _ HT3.out.bel) (fun hHeld=>?_)
 clear hK hHeld K
 refine wpAnyH_done (by kernel_rfl) ?_ _
 go_wp2_with fail
 go_end0
 exact⟨val3,rfl,HT3.out⟩
theorem DTo.drew_first {B D:Nat}{W w1:World}{m m1:ImgD}{val val1:Nm→Value}{ev:Value}(h:DTo W.drew w1 B D m val ev m1 val1):DTo W w1 B D m val ev m1 val1:=⟨h.dk,⟨h.bel.os,h.bel.tape,h.bel.output,h.bel.size,h.bel.block⟩,h.keep,h.src⟩
theorem DK.drewN {W:World}{B D:Nat}{val:Nm→Value}{m:ImgD}(h:DK W B D val m)(q:Nat):DK (W.drewN q) B D val m:=h.below (below_drewN (Below.refl _ _) q)
set_option maxHeartbeats 4000000 in
theorem wcore_D (bk bn bs n j t B D:Nat)(page:ByteArray)(W:World)(m:ImgD)(val:Nm→Value)(hK:DK W B D val m)(hck:W.cell? ⟨bk,0,none⟩=some (.int .i64 (j:Int)))(hcn:W.cell? ⟨bn,0,none⟩=some (.int .i64 (n:Int)))(s0:W.cell? ⟨bs,0,none⟩=some (.int .i64 1))(s1:W.cell? ⟨bs,1,none⟩=some (.string page))(s2:W.cell? ⟨bs,2,none⟩=some (.slice none 0 0))(ls:bs<B)(lk:bk<B)(h16:n<16)(hr:n / 4<m.root.length)(ht:m.root.getD (n / 4) 0=(t:Int))(htl:t<m.slots.length)(hrl:m.refs.length=m.slots.length)(hrt:m.refs.getD t 0=1)(hj1:1≤j)(hjl:j<m.slots.length)(hrj:m.refs.getD j 0=1) :
  Calls Tryz.prog 59 #[.pointer (some ⟨D,0,none⟩),.pointer (some ⟨bk,0,none⟩),.pointer (some ⟨bn,0,none⟩),.pointer (some ⟨bs,0,none⟩)] W (fun r W'=>∃val',r=.returned (.tuple #[])∧DTo W W' B D m val nilV { m with slots:=m.slots.set j (1,page,[]) } val'):=by
 obtain⟨g,cap,e,c,_⟩:=hK.rootAt hr
 rw [ht] at c
 have d1:=hK.root5 e
 obtain⟨fg,fc,e2,c2,_⟩:=hK.refsAt (r:=j) (by omega)
 obtain⟨fg',fc',e2',c3,_⟩:=hK.refsAt (r:=t) (by omega)
 rw [e2] at e2'
 simp only [Value.slice.injEq,Option.some.injEq,Addr.mk.injEq,and_true,true_and] at e2'
 obtain⟨rfl,rfl⟩:=e2'
 rw [hrj] at c2
 rw [hrt] at c3
 rw [hrl] at e2
 have d3:=hK.refs5 e2
 obtain⟨sg,sc,e3,t0,t1,t2,sf,hsB,hsl,hsD,_⟩:=hK.slotAt hjl
 have d2:=hK.slots5 e3
 have f0:=sf (j*3)
 have f1:=sf (j*3+1)
 have f2:=sf (j*3+2)
 have hq:((n:Int) / 4).toNat=n / 4:=by omega
 have g1:decide (0<j)=true:=by simp;omega
 have g2:0<j:=by omega
 have g3:(j:Int)<(m.slots.length:Int):=by omega
 have g7:(n:Int) / 4<(m.root.length:Int):=by omega
 have g8:(t:Int)<(m.slots.length:Int):=by omega
 have nDS:¬D=sg:=fun x=>hsD x.symm
 have nSD:¬sg=D:=hsD
 have nbS:¬bs=sg:=by omega
 have nSb:¬sg=bs:=by omega
 have nkS:¬bk=sg:=by omega
 have nSk:¬sg=bk:=by omega
 have HF:Hid (∀q,DTo W ((((W.drewN q).drew.setCell ⟨sg,j*3,none⟩ (.int .i64 1)).setCell ⟨sg,j*3+1,none⟩ (.string page)).setCell ⟨sg,j*3+2,none⟩ (.slice none 0 0)) B D m val nilV { m with slots:=m.slots.set j (1,page,[]) } (upd val (.tab j) nilV)):=fun q=>DTo.drewN_first (DTo.drew_first ((DTo.refl ((hK.drewN q).drew) nilV).setSlot hjl e3 1 page [] (World.ownsRow_nil _ _ _ _) (fun b hb _ q hq=>(by cases hq)) (by intro x;cases x) (fun q x=>(by cases x))))
 have k2:=(five (cells_other (cells_other (cells_other hK.box nDS (j*3) (.int .i64 1)) nDS (j*3+1) (.string page)) nDS (j*3+2) (.slice none 0 0))).2.2.1
 rw [e3] at k2
 have hcS:∀i v,W.cell? ⟨bs,i,none⟩=some v→(((W.setCell ⟨sg,j*3,none⟩ (.int .i64 1)).setCell ⟨sg,j*3+1,none⟩ (.string page)).setCell ⟨sg,j*3+2,none⟩ (.slice none 0 0)).cell? ⟨bs,i,none⟩=some v:=fun i v hv=>by
  rw [World.cell?_setCell_far _ _ _ _ nSb,World.cell?_setCell_far _ _ _ _ nSb,World.cell?_setCell_far _ _ _ _ nSb];exact hv
 have hcK:∀i v,bk<B→W.cell? ⟨bk,i,none⟩=some v→(((W.setCell ⟨sg,j*3,none⟩ (.int .i64 1)).setCell ⟨sg,j*3+1,none⟩ (.string page)).setCell ⟨sg,j*3+2,none⟩ (.slice none 0 0)).cell? ⟨bk,i,none⟩=some v:=fun i v hb hv=>by
  have nSk:¬sg=bk:=by omega
  rw [World.cell?_setCell_far _ _ _ _ nSk,World.cell?_setCell_far _ _ _ _ nSk,World.cell?_setCell_far _ _ _ _ nSk];exact hv
 have KK:=Hid_mkW (And.intro k2 (And.intro (hcS _ _ s0) (And.intro (hcS _ _ s1) (And.intro (hcS _ _ s2) (hcK _ _ lk hck)))))
 clear hcS hcK k2 hK ht hrt hrj hrl e e2 e3 sf
 go_enter Tryz.func59,Tryz.ntmps59
 try go_wp2_with fail
 go_quiet (fail)
 go_wp2_with fail
 go_region_held3 (fun X=>X.cell? ⟨D,0+1+1,none⟩=some (.slice (some ⟨sg,0,none⟩) m.slots.length sc)∧X.cell? ⟨bs,0,none⟩=some (.int .i64 1)∧X.cell? ⟨bs,0+1,none⟩=some (.string page)∧X.cell? ⟨bs,0+1+1,none⟩=some (.slice none 0 0)∧X.cell? ⟨bk,0,none⟩=some (.int .i64 (j:Int))) (first | exact⟨d2,s0,s1,s2,hck⟩ | exact KK.out) (fail)
 go_wp2_with fail
 refine bodyPost_ret (results_none rfl _ _ _) rfl ?_
 exact⟨_,rfl,HF.out _⟩
theorem write_turn {w:World}{m:ImgD}{n bk bn bs:Nat}{k:Int}{page:ByteArray}(ck:w.cell? ⟨bk,0,none⟩=some (.int .i64 k))(cn:w.cell? ⟨bn,0,none⟩=some (.int .i64 (n:Int)))(s0:w.cell? ⟨bs,0,none⟩=some (.int .i64 1))(s1:w.cell? ⟨bs,1,none⟩=some (.string page))(s2:w.cell? ⟨bs,2,none⟩=some (.slice none 0 0))(lk:bk<w.heap.size)(ln:bn<w.heap.size)(ls:bs<w.heap.size)(hC:checkE m=0)(hn:(n:Int)<m.guest)(hk:lookV m m.root n=k):Turns w 59 #[.pointer (some ⟨bk,0,none⟩),.pointer (some ⟨bn,0,none⟩),.pointer (some ⟨bs,0,none⟩)] m (wrP m n page):=by
 intro W D B val hb h1' h2 hK
 have ck:=(hb.cell (p:=⟨bk,0,none⟩) lk).trans ck
 have cn:=(hb.cell (p:=⟨bn,0,none⟩) ln).trans cn
 have s0:=(hb.cell (p:=⟨bs,0,none⟩) ls).trans s0
 have s1:=(hb.cell (p:=⟨bs,1,none⟩) ls).trans s1
 have s2:=(hb.cell (p:=⟨bs,2,none⟩) ls).trans s2
 show Calls Tryz.prog 59 #[.pointer (some ⟨D,0,none⟩),.pointer (some ⟨bk,0,none⟩),.pointer (some ⟨bn,0,none⟩),.pointer (some ⟨bs,0,none⟩)] W _
 have hs:=checkE_shape hC
 have hg:=guest_ok hs
 have hro:=root_ok hs
 have hrl:=(shapeE_zero hs).2.2.1
 have hr:n / 4<m.root.length:=by omega
 have h16:n<16:=by omega
 obtain⟨t,ht,htl⟩:=root_nat hs hr
 have hts:=tableO_ok hs hr
 have HS:Hid (∀X,Below B W X→(fun X:World=>X.cell? ⟨bn,0,none⟩=some (.int .i64 (n:Int))∧X.cell? ⟨bs,0,none⟩=some (.int .i64 1)∧X.cell? ⟨bs,0+1,none⟩=some (.string page)∧X.cell? ⟨bs,0+1+1,none⟩=some (.slice none 0 0)) X):=fun X hX=>⟨(hX.cell (p:=⟨bn,0,none⟩) (Nat.lt_of_lt_of_le ln h1')).trans cn,(hX.cell (p:=⟨bs,0,none⟩) (Nat.lt_of_lt_of_le ls h1')).trans s0,(hX.cell (p:=⟨bs,1,none⟩) (Nat.lt_of_lt_of_le ls h1')).trans s1,(hX.cell (p:=⟨bs,2,none⟩) (Nat.lt_of_lt_of_le ls h1')).trans s2⟩
 have HP1:∀q,Calls Tryz.prog 60 #[.pointer (some ⟨D,0,none⟩),.int .i64 (n:Int),.int .i64 (-1)] (W.drewN q) (Tells (W.drewN q) B D m val nilV (wr1 m n)):=fun q=>put_is (hK.drewN q) h2 h16 hr ht htl (.inr (shapeE_zero hs).2.1) hrl hts.1 (by decide)
 unfold wrP
 by_cases hw:wInPl m n=true
 ·rw [if_pos hw]
  unfold wInPl inPl at hw
  rw [hk,ht] at hw
  simp only [Bool.and_eq_true,decide_eq_true_eq,bne_iff_ne,ne_eq,beq_iff_eq,Int.toNat_natCast] at hw
  obtain⟨a1,⟨a2,a3⟩,a4⟩:=hw
  rcases lookV_ent hs hro.2 n hr with h | h | ⟨j,hj,j1,jl,_⟩
  ·rw [hk] at h;omega
  ·rw [hk] at h;omega
  ·have ekj:k=(j:Int):=hk.symm.trans hj
   subst ekj
   rw [Int.toNat_natCast] at a4
   rw [hk,Int.toNat_natCast]
   exact wcore_D bk bn bs n j t B D page W m val hK ck cn s0 s1 s2 (by omega) (by omega) h16 hr ht htl hrl a3 j1 jl a4
 ·rw [if_neg hw]
  have hgd:(¬0<k)∨(∃ (j fg fc:Nat) (x:Int),k=(j:Int)∧0<j∧j<m.slots.length∧W.cell? ⟨D,3,none⟩=some (.slice (some ⟨fg,0,none⟩) m.slots.length fc)∧W.cell? ⟨fg,j,none⟩=some (.int .i64 x)∧(x == 1)=false)∨(∃ (j g cap fg fc:Nat) (y:Int),k=(j:Int)∧0<j∧j<m.slots.length∧W.cell? ⟨D,3,none⟩=some (.slice (some ⟨fg,0,none⟩) m.slots.length fc)∧W.cell? ⟨fg,j,none⟩=some (.int .i64 1)∧W.cell? ⟨D,1,none⟩=some (.slice (some ⟨g,0,none⟩) m.root.length cap)∧W.cell? ⟨g,n / 4,none⟩=some (.int .i64 (t:Int))∧W.cell? ⟨fg,t,none⟩=some (.int .i64 y)∧(y == 1)=false):=by
   by_cases h0:0<k
   ·right
    rcases lookV_ent hs hro.2 n hr with h | h | ⟨j,hj,j1,jl,_⟩
    ·rw [hk] at h;omega
    ·rw [hk] at h;omega
    ·have ekj:k=(j:Int):=hk.symm.trans hj
     obtain⟨fg,fc,e2,c2,_⟩:=hK.refsAt (r:=j) (by omega)
     have d3:=hK.refs5 e2
     rw [hrl] at d3
     cases hx:m.refs.getD j 0 == 1 with
     | false=>exact .inl ⟨j,fg,fc,_,ekj,by omega,jl,d3,c2,hx⟩
     | true=>
      obtain⟨fg',fc',e2',c3,_⟩:=hK.refsAt (r:=t) (by omega)
      rw [e2] at e2'
      simp only [Value.slice.injEq,Option.some.injEq,Addr.mk.injEq,and_true,true_and] at e2'
      obtain⟨rfl,rfl⟩:=e2'
      obtain⟨g,cap,e,c,_⟩:=hK.rootAt hr
      rw [ht] at c
      have hx1:m.refs.getD j 0=1:=by simpa using hx
      rw [hx1] at c2
      refine .inr ⟨j,g,cap,fg,fc,_,ekj,by omega,jl,d3,c2,hK.root5 e,c,c3,?_⟩
      cases hy:m.refs.getD t 0 == 1 with
      | false=>rfl
      | true=>
       refine absurd ?_ hw
       have ht0:¬(t:Int)=0:=fun x=>by
        have hk':=hk
        unfold lookV at hk'
        rw [ht,if_pos x] at hk'
        omega
       unfold wInPl inPl
       rw [hj,ht,Int.toNat_natCast,Int.toNat_natCast,hx,hy]
       simp
       omega
   ·exact .inl h0
  cases h1:wr1 m n with
  | none=>
   rcases hgd with g | ⟨j,fg,fc,x,rfl,j1,jl,d3,c2,g5⟩ | ⟨j,g,cap,fg,fc,y,rfl,j1,jl,d3,c2,d1,c,c3,g5⟩
   ·exact wcore_A_n1 bk bn bs n 0 B D k page W m m m m val (by simp;omega) g ck cn HS (fun q=>by have:=HP1 q;rw [h1] at this;exact this)
   ·exact wcore_B_n1 bk bn bs n 0 B D 0 page W m m m m val j fg fc m.slots.length x (by simp;omega) j1 (by omega) jl d3 c2 g5 ck cn HS (fun q=>by have:=HP1 q;rw [h1] at this;exact this)
   ·exact wcore_C_n1 bk bn bs n 0 B D 0 page W m m m m val j t g cap m.root.length fg fc m.slots.length y (by simp;omega) j1 (by omega) jl d3 c2 d1 h16 hr (by omega) (by omega) c (by omega) htl c3 g5 ck cn HS (fun q=>by have:=HP1 q;rw [h1] at this;exact this)
  | some m1=>
   dsimp only
   have hsh:=lay_shape hC hn (.inr rfl) h1
   have hs1:=(shapeE_zero hsh).2.1
   have hrl1:=(shapeE_zero hsh).2.2.1
   by_cases hg40:grabN m1.slots=40
   ·rw [if_pos hg40]
    have HTN:Hid (∀ (w1:World) (val1:Nm→Value),DK w1 B D val1 m1→Below B W w1→Calls Tryz.prog 61 #[.pointer (some ⟨D,0,none⟩),.agg #[.int .i64 1,.string page,.slice none 0 0]] w1 (fun r w2=>r=.panicked noSlotP∧Below B W w2)):=fun w1 val1 hk1 hb1=>(take_none (es:=[]) hk1 hs1 hg40 (World.ownsRow_nil _ _ _ _)).mono (fun e w2 h=>⟨h.1,hb1.trans (h.2.mono (Nat.le_trans h2 hb1.size))⟩)
    rcases hgd with g | ⟨j,fg,fc,x,rfl,j1,jl,d3,c2,g5⟩ | ⟨j,g,cap,fg,fc,y,rfl,j1,jl,d3,c2,d1,c,c3,g5⟩
    ·exact wcore_A_n2 bk bn bs n 0 B D k page W m m1 m m val (by simp;omega) g ck cn HS (fun q=>by have:=HP1 q;rw [h1] at this;exact this) HTN
    ·exact wcore_B_n2 bk bn bs n 0 B D 0 page W m m1 m m val j fg fc m.slots.length x (by simp;omega) j1 (by omega) jl d3 c2 g5 ck cn HS (fun q=>by have:=HP1 q;rw [h1] at this;exact this) HTN
    ·exact wcore_C_n2 bk bn bs n 0 B D 0 page W m m1 m m val j t g cap m.root.length fg fc m.slots.length y (by simp;omega) j1 (by omega) jl d3 c2 d1 h16 hr (by omega) (by omega) c (by omega) htl c3 g5 ck cn HS (fun q=>by have:=HP1 q;rw [h1] at this;exact this) HTN
   ·rw [if_neg hg40]
    obtain⟨t2,ht2,htl2,hip,hrl2,hr2,hck2,hE2⟩:=wr2_facts hC hn h1 hg40 page
    have HTK:Hid (∀ (w1:World) (val1:Nm→Value),DK w1 B D val1 m1→Below B W w1→Calls Tryz.prog 61 #[.pointer (some ⟨D,0,none⟩),.agg #[.int .i64 1,.string page,.slice none 0 0]] w1 (fun r w2=>r=.returned (.int .i64 (grabN m1.slots:Int))∧∃val2,DTo w1 w2 B D m1 val1 nilV (takeD m1 (1,page,[])) val2)):=fun w1 val1 hk1 hb1=>(take_ok (es:=[]) hk1 (Nat.le_trans h2 hb1.size) hs1 hrl1 rfl hg40 (World.ownsRow_nil _ _ _ _) (fun a ha q hq=>by cases hq) (by intro x;cases x)).mono (fun e w2 h=>by obtain⟨a,val2,hT,_⟩:=h;exact⟨a,val2,hT⟩)
    have HP2:∀ (w2:World) (val2:Nm→Value),DK w2 B D val2 (takeD m1 (1,page,[]))→Below B W w2→Calls Tryz.prog 60 #[.pointer (some ⟨D,0,none⟩),.int .i64 (n:Int),.int .i64 (grabN m1.slots:Int)] w2 (Tells w2 B D (takeD m1 (1,page,[])) val2 nilV (layP (takeD m1 (1,page,[])) (n / 4) ((tableO (takeD m1 (1,page,[])) (n / 4)).set (n % 4) (grabN m1.slots:Int)))):=fun w2 val2 hk2 hb2=>put_is hk2 (Nat.le_trans h2 hb2.size) h16 hr2 ht2 htl2 (.inl hip) hrl2 hck2 hE2
    cases ho:layP (takeD m1 (1,page,[])) (n / 4) ((tableO (takeD m1 (1,page,[])) (n / 4)).set (n % 4) (grabN m1.slots:Int)) with
    | none=>
     rcases hgd with g | ⟨j,fg,fc,x,rfl,j1,jl,d3,c2,g5⟩ | ⟨j,g,cap,fg,fc,y,rfl,j1,jl,d3,c2,d1,c,c3,g5⟩
     ·exact wcore_A_n3 bk bn bs n (grabN m1.slots) B D k page W m m1 (takeD m1 (1,page,[])) m val (by simp;omega) g ck cn HS (fun q=>by have:=HP1 q;rw [h1] at this;exact this) HTK (fun w2 val2 hk2 hb2=>by have:=HP2 w2 val2 hk2 hb2;rw [ho] at this;exact this)
     ·exact wcore_B_n3 bk bn bs n (grabN m1.slots) B D 0 page W m m1 (takeD m1 (1,page,[])) m val j fg fc m.slots.length x (by simp;omega) j1 (by omega) jl d3 c2 g5 ck cn HS (fun q=>by have:=HP1 q;rw [h1] at this;exact this) HTK (fun w2 val2 hk2 hb2=>by have:=HP2 w2 val2 hk2 hb2;rw [ho] at this;exact this)
     ·exact wcore_C_n3 bk bn bs n (grabN m1.slots) B D 0 page W m m1 (takeD m1 (1,page,[])) m val j t g cap m.root.length fg fc m.slots.length y (by simp;omega) j1 (by omega) jl d3 c2 d1 h16 hr (by omega) (by omega) c (by omega) htl c3 g5 ck cn HS (fun q=>by have:=HP1 q;rw [h1] at this;exact this) HTK (fun w2 val2 hk2 hb2=>by have:=HP2 w2 val2 hk2 hb2;rw [ho] at this;exact this)
    | some M=>
     rcases hgd with g | ⟨j,fg,fc,x,rfl,j1,jl,d3,c2,g5⟩ | ⟨j,g,cap,fg,fc,y,rfl,j1,jl,d3,c2,d1,c,c3,g5⟩
     ·exact wcore_A_ok bk bn bs n (grabN m1.slots) B D k page W m m1 (takeD m1 (1,page,[])) M val (by simp;omega) g ck cn HS (fun q=>by have:=HP1 q;rw [h1] at this;exact this) HTK (fun w2 val2 hk2 hb2=>by have:=HP2 w2 val2 hk2 hb2;rw [ho] at this;exact this)
     ·exact wcore_B_ok bk bn bs n (grabN m1.slots) B D 0 page W m m1 (takeD m1 (1,page,[])) M val j fg fc m.slots.length x (by simp;omega) j1 (by omega) jl d3 c2 g5 ck cn HS (fun q=>by have:=HP1 q;rw [h1] at this;exact this) HTK (fun w2 val2 hk2 hb2=>by have:=HP2 w2 val2 hk2 hb2;rw [ho] at this;exact this)
     ·exact wcore_C_ok bk bn bs n (grabN m1.slots) B D 0 page W m m1 (takeD m1 (1,page,[])) M val j t g cap m.root.length fg fc m.slots.length y (by simp;omega) j1 (by omega) jl d3 c2 d1 h16 hr (by omega) (by omega) c (by omega) htl c3 g5 ck cn HS (fun q=>by have:=HP1 q;rw [h1] at this;exact this) HTK (fun w2 val2 hk2 hb2=>by have:=HP2 w2 val2 hk2 hb2;rw [ho] at this;exact this)
theorem lookE_prt {m:ImgD}{n:Int}(h:lookE m n=0):checkE m=0∧0≤n∧n<m.guest:=by
 unfold lookE at h
 by_cases h0:checkE m=0
 ·rw [if_neg (by simp [h0])] at h
  by_cases h1:0≤n∧n<m.guest
  ·exact⟨h0,h1.1,h1.2⟩
  ·rw [if_neg h1] at h;cases h
 ·rw [if_pos h0] at h;exact absurd h h0
theorem one {W:World}{B:Nat}{a0:Value}{t:TypeId}(h:W.heap[B]? = some (.cells #[a0] t)):W.cell? ⟨B,0,none⟩=some a0:=by simp [World.cell?,h]
end Go.Proofs.YtehleeibgkpjmafGreat
namespace Go.Proofs.YtehleeibgkpjmafGreat
open Go.RowKit
set_option maxRecDepth 20000
def slotE (k:Int) (d:ByteArray) (xs:List Int):Int:=if slotOK k d xs=true then 0 else 1
theorem below_of_drew {w w1:World}{o:Obj}(h:Below (w.alloc o).drew.heap.size (w.alloc o).drew w1):Below (w.heap.size+1) (w.alloc o) w1:=
 ⟨h.os,h.tape,h.output,h.size,fun k hk=>h.block k (by simp;exact hk)⟩
theorem box_cells {w w1:World}{x y z:Value}{T:TypeId}(h:Below (w.heap.size+1) (w.alloc (.cells #[x,y,z] T)) w1) :
  w1.cell? ⟨w.heap.size,0,none⟩=some x∧w1.cell? ⟨w.heap.size,1,none⟩=some y∧w1.cell? ⟨w.heap.size,2,none⟩=some z:=by
 refine⟨(h.cell (p:=⟨w.heap.size,0,none⟩) (by simp)).trans ?_,(h.cell (p:=⟨w.heap.size,1,none⟩) (by simp)).trans ?_,(h.cell (p:=⟨w.heap.size,2,none⟩) (by simp)).trans ?_⟩ <;> rw [World.cell?_alloc_at _ _ _ _ rfl] <;> rfl
theorem rules_at (w:World)(N:Nat)(hN:w.heap.size=N):Calls Tryz.prog 90 #[] w fun r w'=>r=.returned (.map (some N))∧Hid (w'.heap[N]? = some (.map RULES 3))∧Below w.heap.size w w':=by
 subst hN
 exact (rules_any w).mono fun e w' h=>⟨h.1,h.2.1,h.2.2.1⟩
set_option maxHeartbeats 1000000 in
theorem scheck_at (k:Int)(d:ByteArray)(ta:Option Addr)(tn tc:Nat)(xs:List Int)(w:World)(h:Sl w (.slice ta tn tc) xs) :
  Calls Tryz.prog 58 #[.agg #[.int .i64 k,.string d,.slice ta tn tc]] w fun r w'=>r=.returned (.int .i64 (slotE k d xs))∧Below w.heap.size w w':=by
 have hs:=h.past (.cells #[.int .i64 k,.string d,.slice ta tn tc] 61)
 have b0:Below w.heap.size w (w.alloc (.cells #[.int .i64 k,.string d,.slice ta tn tc] 61)):=(Below.refl _ _).alloc (Nat.le_refl _) _
 cases hE:slotOK k d xs with
 | true=>
  have HE:Hid (slotE k d xs=0):=by show _=_;unfold slotE;rw [if_pos hE]
  go_enter Tryz.func58,Tryz.ntmps58
  go_wp2
  go_region_with (first | (go_at_call 90;refine (rules_at _ (w.heap.size+1) (by simp)).mono ?_;rintro e w1 ⟨rfl,HR,b1⟩;have b1:Below (w.heap.size+1) (w.alloc (.cells #[.int .i64 k,.string d,.slice ta tn tc] 61)) w1:=(below_of_drew b1);obtain⟨c1,c2,c3⟩:=box_cells b1) | (go_at_call 89;refine (isRight_any _ 3 k d _ xs _ ?_ ?_).mono ?_;(first | exact HR.out | skip);(first | exact hs.below (by simpa using b1) | skip);rintro e w2 ⟨rfl,b2⟩))
  all_goals
   go_wp2
   go_ret
   exact⟨ret_int HE.out.symm,Below.on (b0.trans (b1.mono (Nat.le_succ _))) b2⟩
 | false=>
  have HE:Hid (slotE k d xs=1):=by show _=_;unfold slotE;rw [if_neg (by simp [hE])]
  go_enter Tryz.func58,Tryz.ntmps58
  go_wp2
  go_region_with (first | (go_at_call 90;refine (rules_at _ (w.heap.size+1) (by simp)).mono ?_;rintro e w1 ⟨rfl,HR,b1⟩;have b1:Below (w.heap.size+1) (w.alloc (.cells #[.int .i64 k,.string d,.slice ta tn tc] 61)) w1:=(below_of_drew b1);obtain⟨c1,c2,c3⟩:=box_cells b1) | (go_at_call 89;refine (isRight_any _ 3 k d _ xs _ ?_ ?_).mono ?_;(first | exact HR.out | skip);(first | exact hs.below (by simpa using b1) | skip);rintro e w2 ⟨rfl,b2⟩))
  all_goals
   go_wp2
   go_ret
   exact⟨ret_int HE.out.symm,Below.on (b0.trans (b1.mono (Nat.le_succ _))) b2⟩
theorem scheck_any (k:Int)(d:ByteArray)(tv:Value)(xs:List Int)(w:World)(h:Sl w tv xs) :
  Calls Tryz.prog 58 #[.agg #[.int .i64 k,.string d,tv]] w fun r w'=>r=.returned (.int .i64 (slotE k d xs))∧Below w.heap.size w w':=by
 obtain⟨ao,cap,rfl⟩:=h.form
 exact scheck_at k d ao _ cap xs w h
theorem scheck_is {k:Int}{d:ByteArray}{tv:Value}{xs:List Int}{w:World}(h:Sl w tv xs){c:Int}(hc:slotE k d xs=c) :
  Calls Tryz.prog 58 #[.agg #[.int .i64 k,.string d,tv]] w fun r w'=>r=.returned (.int .i64 c)∧Below w.heap.size w w':=by subst hc;exact scheck_any k d tv xs w h
end Go.Proofs.YtehleeibgkpjmafGreat
namespace Go.Proofs.YtehleeibgkpjmafGreat
open Go.RowKit Go.Shelf
set_option maxRecDepth 20000
set_option linter.unusedVariables false
theorem slot_page {page:ByteArray}(h:page.size=4):slotE 1 page []=0:=by
 unfold slotE slotOK
 simp [h]
theorem slot_nopage {page:ByteArray}(h:page.size≠4):slotE 1 page []=1:=by
 unfold slotE slotOK
 simp [h]
set_option maxHeartbeats 4000000 in
theorem write_bad_at (m:ImgD)(ra:Option Addr)(rn rc:Nat)(sa:Option Addr)(sn sc:Nat)(fa:Option Addr)(fn fc:Nat)(na:Option Addr)(nn nc:Nat)(n E:Int)(page:ByteArray)(w:World)(h:Img w (.agg #[.int .i64 m.guest,.slice ra rn rc,.slice sa sn sc,.slice fa fn fc,.slice na nn nc]) m)(hl:lookE m n=E)(hE:(E != 0)=true) :
  Calls Tryz.prog 31 #[.agg #[.int .i64 m.guest,.slice ra rn rc,.slice sa sn sc,.slice fa fn fc,.slice na nn nc],.int .i64 n,.string page] w (AnsI w w.heap.size imgZ E):=by
 have b0:Below w.heap.size w (((w.alloc (.cells #[.int .i64 m.guest,.slice ra rn rc,.slice sa sn sc,.slice fa fn fc,.slice na nn nc] 27)).alloc (.cells #[.int .i64 n] 3)).alloc (.cells #[.int .i64 0,.slice none 0 0,.slice none 0 0,.slice none 0 0,.slice none 0 0] 27)):=(((Below.refl _ _).alloc (by simp;try omega) _).alloc (by simp;try omega) _).alloc (by simp;try omega) _
 have q0:(w.alloc (.cells #[.int .i64 m.guest,.slice ra rn rc,.slice sa sn sc,.slice fa fn fc,.slice na nn nc] 27)).heap[w.heap.size]? = some (.cells #[.int .i64 m.guest,.slice ra rn rc,.slice sa sn sc,.slice fa fn fc,.slice na nn nc] 27):=by have:=World.alloc_heap_new w (.cells #[.int .i64 m.guest,.slice ra rn rc,.slice sa sn sc,.slice fa fn fc,.slice na nn nc] 27);simpa using this
 have m0:(((w.alloc (.cells #[.int .i64 m.guest,.slice ra rn rc,.slice sa sn sc,.slice fa fn fc,.slice na nn nc] 27)).alloc (.cells #[.int .i64 n] 3)).alloc (.cells #[.int .i64 0,.slice none 0 0,.slice none 0 0,.slice none 0 0,.slice none 0 0] 27)).heap[w.heap.size]? = some (.cells #[.int .i64 m.guest,.slice ra rn rc,.slice sa sn sc,.slice fa fn fc,.slice na nn nc] 27):=(cells_alloc (cells_alloc q0 _) _)
 have q1:((w.alloc (.cells #[.int .i64 m.guest,.slice ra rn rc,.slice sa sn sc,.slice fa fn fc,.slice na nn nc] 27)).alloc (.cells #[.int .i64 n] 3)).heap[w.heap.size+1]? = some (.cells #[.int .i64 n] 3):=by have:=World.alloc_heap_new (w.alloc (.cells #[.int .i64 m.guest,.slice ra rn rc,.slice sa sn sc,.slice fa fn fc,.slice na nn nc] 27)) (.cells #[.int .i64 n] 3);simpa using this
 have m1:(((w.alloc (.cells #[.int .i64 m.guest,.slice ra rn rc,.slice sa sn sc,.slice fa fn fc,.slice na nn nc] 27)).alloc (.cells #[.int .i64 n] 3)).alloc (.cells #[.int .i64 0,.slice none 0 0,.slice none 0 0,.slice none 0 0,.slice none 0 0] 27)).heap[w.heap.size+1]? = some (.cells #[.int .i64 n] 3):=(cells_alloc q1 _)
 have q2:(((w.alloc (.cells #[.int .i64 m.guest,.slice ra rn rc,.slice sa sn sc,.slice fa fn fc,.slice na nn nc] 27)).alloc (.cells #[.int .i64 n] 3)).alloc (.cells #[.int .i64 0,.slice none 0 0,.slice none 0 0,.slice none 0 0,.slice none 0 0] 27)).heap[w.heap.size+1+1]? = some (.cells #[.int .i64 0,.slice none 0 0,.slice none 0 0,.slice none 0 0,.slice none 0 0] 27):=by have:=World.alloc_heap_new ((w.alloc (.cells #[.int .i64 m.guest,.slice ra rn rc,.slice sa sn sc,.slice fa fn fc,.slice na nn nc] 27)).alloc (.cells #[.int .i64 n] 3)) (.cells #[.int .i64 0,.slice none 0 0,.slice none 0 0,.slice none 0 0,.slice none 0 0] 27);simpa using this
 have m2:(((w.alloc (.cells #[.int .i64 m.guest,.slice ra rn rc,.slice sa sn sc,.slice fa fn fc,.slice na nn nc] 27)).alloc (.cells #[.int .i64 n] 3)).alloc (.cells #[.int .i64 0,.slice none 0 0,.slice none 0 0,.slice none 0 0,.slice none 0 0] 27)).heap[w.heap.size+1+1]? = some (.cells #[.int .i64 0,.slice none 0 0,.slice none 0 0,.slice none 0 0,.slice none 0 0] 27):=q2
 have hz:(((w.alloc (.cells #[.int .i64 m.guest,.slice ra rn rc,.slice sa sn sc,.slice fa fn fc,.slice na nn nc] 27)).alloc (.cells #[.int .i64 n] 3)).alloc (.cells #[.int .i64 0,.slice none 0 0,.slice none 0 0,.slice none 0 0,.slice none 0 0] 27)).heap.size=w.heap.size+1+1+1:=by simp
 clear q0 q1 q2
 have hE0:¬E=0:=by simpa using hE
 have hlook:=look_is (h.below b0) n hl (if_neg hE0)
 obtain⟨c0,c1,c2,c3,c4⟩:=five m0
 have cn:=one m1
 have HM:Hid ((((w.alloc (.cells #[.int .i64 m.guest,.slice ra rn rc,.slice sa sn sc,.slice fa fn fc,.slice na nn nc] 27)).alloc (.cells #[.int .i64 n] 3)).alloc (.cells #[.int .i64 0,.slice none 0 0,.slice none 0 0,.slice none 0 0,.slice none 0 0] 27)).heap[w.heap.size+1+1]? = some (.cells #[.int .i64 0,.slice none 0 0,.slice none 0 0,.slice none 0 0,.slice none 0 0] 27)∧Below w.heap.size w (((w.alloc (.cells #[.int .i64 m.guest,.slice ra rn rc,.slice sa sn sc,.slice fa fn fc,.slice na nn nc] 27)).alloc (.cells #[.int .i64 n] 3)).alloc (.cells #[.int .i64 0,.slice none 0 0,.slice none 0 0,.slice none 0 0,.slice none 0 0] 27))∧(((w.alloc (.cells #[.int .i64 m.guest,.slice ra rn rc,.slice sa sn sc,.slice fa fn fc,.slice na nn nc] 27)).alloc (.cells #[.int .i64 n] 3)).alloc (.cells #[.int .i64 0,.slice none 0 0,.slice none 0 0,.slice none 0 0,.slice none 0 0] 27)).heap.size=w.heap.size+1+1+1):=⟨m2,b0,hz⟩
 clear h m0 m1 m2 hz hl b0
 go_enter Tryz.func31,Tryz.ntmps31
 go_wp2_with (go_at_call 52;refine hlook.mono ?_;rintro e w1 ⟨rfl,b1⟩;have k3:=cells_alloc (cells_below HM.out.1 b1 (by rw [HM.out.2.2];omega)) (.cells #[.int .i64 0] 3);obtain⟨z0,z1,z2,z3,z4⟩:=five k3;have y0:=cells_frozen k3 0;have y1:=cells_frozen k3 1;have y2:=cells_frozen k3 2;have y3:=cells_frozen k3 3;have y4:=cells_frozen k3 4;have hsz:w.heap.size+1+1+1≤w1.heap.size:=(by have:=b1.size;rw [HM.out.2.2] at this;exact this);have HB:Hid (Below w.heap.size w (w1.alloc (.cells #[.int .i64 0] 3))):=(Below.on HM.out.2.1 b1).alloc (by omega) _;clear b1 k3)
 have i1:w.heap.size≤w.heap.size+1+1:=by omega
 refine bodyPost_ret (v:=.tuple #[.agg #[.int .i64 0,.slice none 0 0,.slice none 0 0,.slice none 0 0,.slice none 0 0],.int .i64 E]) (by simp [results,Tryz.results31,go_sem,z0,z1,z2,z3,z4]) rfl (AnsI.bad E (((((HB.out.setCell i1 _).setCell i1 _).setCell i1 _).setCell i1 _).setCell i1 _))
set_option maxHeartbeats 4000000 in
theorem write_form_at (m:ImgD)(ra:Option Addr)(rn rc:Nat)(sa:Option Addr)(sn sc:Nat)(fa:Option Addr)(fn fc:Nat)(na:Option Addr)(nn nc:Nat)(n:Nat)(page:ByteArray)(w:World)(h:Img w (.agg #[.int .i64 m.guest,.slice ra rn rc,.slice sa sn sc,.slice fa fn fc,.slice na nn nc]) m)(hl:lookE m (n:Int)=0)(hp:page.size≠4)(k:Int)(hk:lookV m m.root n=k) :
  Calls Tryz.prog 31 #[.agg #[.int .i64 m.guest,.slice ra rn rc,.slice sa sn sc,.slice fa fn fc,.slice na nn nc],.int .i64 (n:Int),.string page] w (AnsI w w.heap.size imgZ 1):=by
 have b0:Below w.heap.size w (((w.alloc (.cells #[.int .i64 m.guest,.slice ra rn rc,.slice sa sn sc,.slice fa fn fc,.slice na nn nc] 27)).alloc (.cells #[.int .i64 (n:Int)] 3)).alloc (.cells #[.int .i64 0,.slice none 0 0,.slice none 0 0,.slice none 0 0,.slice none 0 0] 27)):=(((Below.refl _ _).alloc (by simp;try omega) _).alloc (by simp;try omega) _).alloc (by simp;try omega) _
 have q0:(w.alloc (.cells #[.int .i64 m.guest,.slice ra rn rc,.slice sa sn sc,.slice fa fn fc,.slice na nn nc] 27)).heap[w.heap.size]? = some (.cells #[.int .i64 m.guest,.slice ra rn rc,.slice sa sn sc,.slice fa fn fc,.slice na nn nc] 27):=by have:=World.alloc_heap_new w (.cells #[.int .i64 m.guest,.slice ra rn rc,.slice sa sn sc,.slice fa fn fc,.slice na nn nc] 27);simpa using this
 have m0:(((w.alloc (.cells #[.int .i64 m.guest,.slice ra rn rc,.slice sa sn sc,.slice fa fn fc,.slice na nn nc] 27)).alloc (.cells #[.int .i64 (n:Int)] 3)).alloc (.cells #[.int .i64 0,.slice none 0 0,.slice none 0 0,.slice none 0 0,.slice none 0 0] 27)).heap[w.heap.size]? = some (.cells #[.int .i64 m.guest,.slice ra rn rc,.slice sa sn sc,.slice fa fn fc,.slice na nn nc] 27):=(cells_alloc (cells_alloc q0 _) _)
 have q1:((w.alloc (.cells #[.int .i64 m.guest,.slice ra rn rc,.slice sa sn sc,.slice fa fn fc,.slice na nn nc] 27)).alloc (.cells #[.int .i64 (n:Int)] 3)).heap[w.heap.size+1]? = some (.cells #[.int .i64 (n:Int)] 3):=by have:=World.alloc_heap_new (w.alloc (.cells #[.int .i64 m.guest,.slice ra rn rc,.slice sa sn sc,.slice fa fn fc,.slice na nn nc] 27)) (.cells #[.int .i64 (n:Int)] 3);simpa using this
 have m1:(((w.alloc (.cells #[.int .i64 m.guest,.slice ra rn rc,.slice sa sn sc,.slice fa fn fc,.slice na nn nc] 27)).alloc (.cells #[.int .i64 (n:Int)] 3)).alloc (.cells #[.int .i64 0,.slice none 0 0,.slice none 0 0,.slice none 0 0,.slice none 0 0] 27)).heap[w.heap.size+1]? = some (.cells #[.int .i64 (n:Int)] 3):=(cells_alloc q1 _)
 have q2:(((w.alloc (.cells #[.int .i64 m.guest,.slice ra rn rc,.slice sa sn sc,.slice fa fn fc,.slice na nn nc] 27)).alloc (.cells #[.int .i64 (n:Int)] 3)).alloc (.cells #[.int .i64 0,.slice none 0 0,.slice none 0 0,.slice none 0 0,.slice none 0 0] 27)).heap[w.heap.size+1+1]? = some (.cells #[.int .i64 0,.slice none 0 0,.slice none 0 0,.slice none 0 0,.slice none 0 0] 27):=by have:=World.alloc_heap_new ((w.alloc (.cells #[.int .i64 m.guest,.slice ra rn rc,.slice sa sn sc,.slice fa fn fc,.slice na nn nc] 27)).alloc (.cells #[.int .i64 (n:Int)] 3)) (.cells #[.int .i64 0,.slice none 0 0,.slice none 0 0,.slice none 0 0,.slice none 0 0] 27);simpa using this
 have m2:(((w.alloc (.cells #[.int .i64 m.guest,.slice ra rn rc,.slice sa sn sc,.slice fa fn fc,.slice na nn nc] 27)).alloc (.cells #[.int .i64 (n:Int)] 3)).alloc (.cells #[.int .i64 0,.slice none 0 0,.slice none 0 0,.slice none 0 0,.slice none 0 0] 27)).heap[w.heap.size+1+1]? = some (.cells #[.int .i64 0,.slice none 0 0,.slice none 0 0,.slice none 0 0,.slice none 0 0] 27):=q2
 have hz:(((w.alloc (.cells #[.int .i64 m.guest,.slice ra rn rc,.slice sa sn sc,.slice fa fn fc,.slice na nn nc] 27)).alloc (.cells #[.int .i64 (n:Int)] 3)).alloc (.cells #[.int .i64 0,.slice none 0 0,.slice none 0 0,.slice none 0 0,.slice none 0 0] 27)).heap.size=w.heap.size+1+1+1:=by simp
 clear q0 q1 q2
 have hlook:=look_is (c:=k) (h.below b0) (n:Int) hl (by rw [if_pos rfl,Int.toNat_natCast];exact hk)
 obtain⟨c0,c1,c2,c3,c4⟩:=five m0
 have cn:=one m1
 have HC:Hid (∀w1:World,Calls Tryz.prog 58 #[.agg #[.int .i64 1,.string page,.slice none 0 0]] ((w1.alloc (.cells #[.int .i64 k] 3)).alloc (.cells #[.int .i64 1,.string page,.slice none 0 0] 61)) fun r w'=>r=.returned (.int .i64 1)∧Below ((w1.alloc (.cells #[.int .i64 k] 3)).alloc (.cells #[.int .i64 1,.string page,.slice none 0 0] 61)).heap.size ((w1.alloc (.cells #[.int .i64 k] 3)).alloc (.cells #[.int .i64 1,.string page,.slice none 0 0] 61)) w'):=fun w1=>scheck_is (Sl.nil _) (slot_nopage hp)
 have HM:Hid ((((w.alloc (.cells #[.int .i64 m.guest,.slice ra rn rc,.slice sa sn sc,.slice fa fn fc,.slice na nn nc] 27)).alloc (.cells #[.int .i64 (n:Int)] 3)).alloc (.cells #[.int .i64 0,.slice none 0 0,.slice none 0 0,.slice none 0 0,.slice none 0 0] 27)).heap[w.heap.size+1+1]? = some (.cells #[.int .i64 0,.slice none 0 0,.slice none 0 0,.slice none 0 0,.slice none 0 0] 27)∧Below w.heap.size w (((w.alloc (.cells #[.int .i64 m.guest,.slice ra rn rc,.slice sa sn sc,.slice fa fn fc,.slice na nn nc] 27)).alloc (.cells #[.int .i64 (n:Int)] 3)).alloc (.cells #[.int .i64 0,.slice none 0 0,.slice none 0 0,.slice none 0 0,.slice none 0 0] 27))∧(((w.alloc (.cells #[.int .i64 m.guest,.slice ra rn rc,.slice sa sn sc,.slice fa fn fc,.slice na nn nc] 27)).alloc (.cells #[.int .i64 (n:Int)] 3)).alloc (.cells #[.int .i64 0,.slice none 0 0,.slice none 0 0,.slice none 0 0,.slice none 0 0] 27)).heap.size=w.heap.size+1+1+1):=⟨m2,b0,hz⟩
 clear h m0 m1 m2 hz hl b0 hk hp
 go_enter Tryz.func31,Tryz.ntmps31
 go_wp2_with (first | (go_at_call 58;refine hck.mono ?_;rintro e w2 ⟨rfl,b2⟩;have k3:=cells_below HW.out.1 b2 HW.out.2.2;obtain⟨z0,z1,z2,z3,z4⟩:=five k3;have y0:=cells_frozen k3 0;have y1:=cells_frozen k3 1;have y2:=cells_frozen k3 2;have y3:=cells_frozen k3 3;have y4:=cells_frozen k3 4;have HB:Hid (Below w.heap.size w w2):=Below.on HW.out.2.1 b2;clear b2 k3) | (go_at_call 52;refine hlook.mono ?_;rintro e w1 ⟨rfl,b1⟩;have hsz:w.heap.size+1+1+1≤w1.heap.size:=(by have:=b1.size;rw [HM.out.2.2] at this;exact this);have hz1:((w1.alloc (.cells #[.int .i64 k] 3)).alloc (.cells #[.int .i64 1,.string page,.slice none 0 0] 61)).heap.size=w1.heap.size+1+1:=(by simp);have HW:Hid (((w1.alloc (.cells #[.int .i64 k] 3)).alloc (.cells #[.int .i64 1,.string page,.slice none 0 0] 61)).heap[w.heap.size+1+1]? = some (.cells #[.int .i64 0,.slice none 0 0,.slice none 0 0,.slice none 0 0,.slice none 0 0] 27)∧Below w.heap.size w ((w1.alloc (.cells #[.int .i64 k] 3)).alloc (.cells #[.int .i64 1,.string page,.slice none 0 0] 61))∧w.heap.size+1+1<((w1.alloc (.cells #[.int .i64 k] 3)).alloc (.cells #[.int .i64 1,.string page,.slice none 0 0] 61)).heap.size):=(⟨cells_alloc (cells_alloc (cells_below HM.out.1 b1 (by rw [HM.out.2.2];omega)) _) _,((Below.on HM.out.2.1 b1).alloc (by omega) _).alloc (by simp;omega) _,by rw [hz1];omega⟩);have qq:((w1.alloc (.cells #[.int .i64 k] 3)).alloc (.cells #[.int .i64 1,.string page,.slice none 0 0] 61)).heap[w1.heap.size+1]? = some (.cells #[.int .i64 1,.string page,.slice none 0 0] 61):=(by have:=World.alloc_heap_new (w1.alloc (.cells #[.int .i64 k] 3)) (.cells #[.int .i64 1,.string page,.slice none 0 0] 61);simpa using this);obtain⟨u0,u1,u2⟩:=three qq;have hck:=HC.out w1;clear b1 hz1 hsz qq))
 have i1:w.heap.size≤w.heap.size+1+1:=by omega
 refine bodyPost_ret (v:=.tuple #[.agg #[.int .i64 0,.slice none 0 0,.slice none 0 0,.slice none 0 0,.slice none 0 0],.int .i64 1]) (by simp [results,Tryz.results31,go_sem,z0,z1,z2,z3,z4]) rfl (AnsI.bad 1 (((((HB.out.setCell i1 _).setCell i1 _).setCell i1 _).setCell i1 _).setCell i1 _))
set_option maxHeartbeats 4000000 in
theorem write_ok_at (m:ImgD)(ra:Option Addr)(rn rc:Nat)(sa:Option Addr)(sn sc:Nat)(fa:Option Addr)(fn fc:Nat)(na:Option Addr)(nn nc:Nat)(n:Nat)(page:ByteArray)(w:World)(h:Img w (.agg #[.int .i64 m.guest,.slice ra rn rc,.slice sa sn sc,.slice fa fn fc,.slice na nn nc]) m)(hF:Fits m)(hl:lookE m (n:Int)=0)(hp:page.size=4)(k:Int)(hk:lookV m m.root n=k)(M:ImgD)(hM:ofM (wrP m n page)=M)(er:Int)(her:ofE (wrP m n page)=er) :
  Calls Tryz.prog 31 #[.agg #[.int .i64 m.guest,.slice ra rn rc,.slice sa sn sc,.slice fa fn fc,.slice na nn nc],.int .i64 (n:Int),.string page] w (AnsI w w.heap.size M er):=by
 have b0:Below w.heap.size w (((w.alloc (.cells #[.int .i64 m.guest,.slice ra rn rc,.slice sa sn sc,.slice fa fn fc,.slice na nn nc] 27)).alloc (.cells #[.int .i64 (n:Int)] 3)).alloc (.cells #[.int .i64 0,.slice none 0 0,.slice none 0 0,.slice none 0 0,.slice none 0 0] 27)):=(((Below.refl _ _).alloc (by simp;try omega) _).alloc (by simp;try omega) _).alloc (by simp;try omega) _
 have q0:(w.alloc (.cells #[.int .i64 m.guest,.slice ra rn rc,.slice sa sn sc,.slice fa fn fc,.slice na nn nc] 27)).heap[w.heap.size]? = some (.cells #[.int .i64 m.guest,.slice ra rn rc,.slice sa sn sc,.slice fa fn fc,.slice na nn nc] 27):=by have:=World.alloc_heap_new w (.cells #[.int .i64 m.guest,.slice ra rn rc,.slice sa sn sc,.slice fa fn fc,.slice na nn nc] 27);simpa using this
 have m0:(((w.alloc (.cells #[.int .i64 m.guest,.slice ra rn rc,.slice sa sn sc,.slice fa fn fc,.slice na nn nc] 27)).alloc (.cells #[.int .i64 (n:Int)] 3)).alloc (.cells #[.int .i64 0,.slice none 0 0,.slice none 0 0,.slice none 0 0,.slice none 0 0] 27)).heap[w.heap.size]? = some (.cells #[.int .i64 m.guest,.slice ra rn rc,.slice sa sn sc,.slice fa fn fc,.slice na nn nc] 27):=(cells_alloc (cells_alloc q0 _) _)
 have q1:((w.alloc (.cells #[.int .i64 m.guest,.slice ra rn rc,.slice sa sn sc,.slice fa fn fc,.slice na nn nc] 27)).alloc (.cells #[.int .i64 (n:Int)] 3)).heap[w.heap.size+1]? = some (.cells #[.int .i64 (n:Int)] 3):=by have:=World.alloc_heap_new (w.alloc (.cells #[.int .i64 m.guest,.slice ra rn rc,.slice sa sn sc,.slice fa fn fc,.slice na nn nc] 27)) (.cells #[.int .i64 (n:Int)] 3);simpa using this
 have m1:(((w.alloc (.cells #[.int .i64 m.guest,.slice ra rn rc,.slice sa sn sc,.slice fa fn fc,.slice na nn nc] 27)).alloc (.cells #[.int .i64 (n:Int)] 3)).alloc (.cells #[.int .i64 0,.slice none 0 0,.slice none 0 0,.slice none 0 0,.slice none 0 0] 27)).heap[w.heap.size+1]? = some (.cells #[.int .i64 (n:Int)] 3):=(cells_alloc q1 _)
 have q2:(((w.alloc (.cells #[.int .i64 m.guest,.slice ra rn rc,.slice sa sn sc,.slice fa fn fc,.slice na nn nc] 27)).alloc (.cells #[.int .i64 (n:Int)] 3)).alloc (.cells #[.int .i64 0,.slice none 0 0,.slice none 0 0,.slice none 0 0,.slice none 0 0] 27)).heap[w.heap.size+1+1]? = some (.cells #[.int .i64 0,.slice none 0 0,.slice none 0 0,.slice none 0 0,.slice none 0 0] 27):=by have:=World.alloc_heap_new ((w.alloc (.cells #[.int .i64 m.guest,.slice ra rn rc,.slice sa sn sc,.slice fa fn fc,.slice na nn nc] 27)).alloc (.cells #[.int .i64 (n:Int)] 3)) (.cells #[.int .i64 0,.slice none 0 0,.slice none 0 0,.slice none 0 0,.slice none 0 0] 27);simpa using this
 have m2:(((w.alloc (.cells #[.int .i64 m.guest,.slice ra rn rc,.slice sa sn sc,.slice fa fn fc,.slice na nn nc] 27)).alloc (.cells #[.int .i64 (n:Int)] 3)).alloc (.cells #[.int .i64 0,.slice none 0 0,.slice none 0 0,.slice none 0 0,.slice none 0 0] 27)).heap[w.heap.size+1+1]? = some (.cells #[.int .i64 0,.slice none 0 0,.slice none 0 0,.slice none 0 0,.slice none 0 0] 27):=q2
 have hz:(((w.alloc (.cells #[.int .i64 m.guest,.slice ra rn rc,.slice sa sn sc,.slice fa fn fc,.slice na nn nc] 27)).alloc (.cells #[.int .i64 (n:Int)] 3)).alloc (.cells #[.int .i64 0,.slice none 0 0,.slice none 0 0,.slice none 0 0,.slice none 0 0] 27)).heap.size=w.heap.size+1+1+1:=by simp
 clear q0 q1 q2
 obtain⟨hC,_,hn⟩:=lookE_prt hl
 have hlook:=look_is (c:=k) (h.below b0) (n:Int) hl (by rw [if_pos rfl,Int.toNat_natCast];exact hk)
 obtain⟨c0,c1,c2,c3,c4⟩:=five m0
 have cn:=one m1
 have HC:Hid (∀w1:World,Calls Tryz.prog 58 #[.agg #[.int .i64 1,.string page,.slice none 0 0]] ((w1.alloc (.cells #[.int .i64 k] 3)).alloc (.cells #[.int .i64 1,.string page,.slice none 0 0] 61)) fun r w'=>r=.returned (.int .i64 0)∧Below ((w1.alloc (.cells #[.int .i64 k] 3)).alloc (.cells #[.int .i64 1,.string page,.slice none 0 0] 61)).heap.size ((w1.alloc (.cells #[.int .i64 k] 3)).alloc (.cells #[.int .i64 1,.string page,.slice none 0 0] 61)) w'):=fun w1=>scheck_is (Sl.nil _) (slot_page hp)
 have HO:Hid (∀w1 w2,Below (((w.alloc (.cells #[.int .i64 m.guest,.slice ra rn rc,.slice sa sn sc,.slice fa fn fc,.slice na nn nc] 27)).alloc (.cells #[.int .i64 (n:Int)] 3)).alloc (.cells #[.int .i64 0,.slice none 0 0,.slice none 0 0,.slice none 0 0,.slice none 0 0] 27)).heap.size (((w.alloc (.cells #[.int .i64 m.guest,.slice ra rn rc,.slice sa sn sc,.slice fa fn fc,.slice na nn nc] 27)).alloc (.cells #[.int .i64 (n:Int)] 3)).alloc (.cells #[.int .i64 0,.slice none 0 0,.slice none 0 0,.slice none 0 0,.slice none 0 0] 27)) w1→Below ((w1.alloc (.cells #[.int .i64 k] 3)).alloc (.cells #[.int .i64 1,.string page,.slice none 0 0] 61)).heap.size ((w1.alloc (.cells #[.int .i64 k] 3)).alloc (.cells #[.int .i64 1,.string page,.slice none 0 0] 61)) w2→Calls Tryz.prog 39 #[.agg #[.int .i64 m.guest,.slice ra rn rc,.slice sa sn sc,.slice fa fn fc,.slice na nn nc],.func (.func 59) #[] #[.pointer (some ⟨w1.heap.size,0,none⟩),.pointer (some ⟨w.heap.size+1,0,none⟩),.pointer (some ⟨w1.heap.size+1,0,none⟩)]] w2 (AnsI w2 w2.heap.size M er)):=fun w1 w2 b1 b2=>by
  have hsz:w.heap.size+1+1+1≤w1.heap.size:=(by have:=b1.size;rw [hz] at this;exact this)
  have hz1:((w1.alloc (.cells #[.int .i64 k] 3)).alloc (.cells #[.int .i64 1,.string page,.slice none 0 0] 61)).heap.size=w1.heap.size+1+1:=by simp
  have q0:((w1.alloc (.cells #[.int .i64 k] 3)).alloc (.cells #[.int .i64 1,.string page,.slice none 0 0] 61)).heap[w1.heap.size]? = some (.cells #[.int .i64 k] 3):=cells_alloc (World.alloc_heap_new _ _) _
  have qq:((w1.alloc (.cells #[.int .i64 k] 3)).alloc (.cells #[.int .i64 1,.string page,.slice none 0 0] 61)).heap[w1.heap.size+1]? = some (.cells #[.int .i64 1,.string page,.slice none 0 0] 61):=by have:=World.alloc_heap_new (w1.alloc (.cells #[.int .i64 k] 3)) (.cells #[.int .i64 1,.string page,.slice none 0 0] 61);simpa using this
  have qn:=cells_alloc (cells_alloc (cells_below m1 b1 (by rw [hz];omega)) (.cells #[.int .i64 k] 3)) (.cells #[.int .i64 1,.string page,.slice none 0 0] 61)
  have r0:=one (cells_below q0 b2 (by rw [hz1];omega))
  have rn:=one (cells_below qn b2 (by rw [hz1];omega))
  obtain⟨r1,r2,r3⟩:=three (cells_below qq b2 (by rw [hz1];omega))
  have hsz2:w1.heap.size+1+1≤w2.heap.size:=by have:=b2.size;rw [hz1] at this;exact this
  have bb:Below w.heap.size w ((w1.alloc (.cells #[.int .i64 k] 3)).alloc (.cells #[.int .i64 1,.string page,.slice none 0 0] 61)):=((Below.on b0 b1).alloc (by omega) _).alloc (by simp;omega) _
  rw [←hM,← her]
  exact of_is (h.below (Below.on bb b2)) hF (enters_of Tryz.func59 (by kernel_rfl) rfl) (write_turn r0 rn r1 r2 r3 (by omega) (by omega) (by omega) hC hn hk)
 have HM:Hid ((((w.alloc (.cells #[.int .i64 m.guest,.slice ra rn rc,.slice sa sn sc,.slice fa fn fc,.slice na nn nc] 27)).alloc (.cells #[.int .i64 (n:Int)] 3)).alloc (.cells #[.int .i64 0,.slice none 0 0,.slice none 0 0,.slice none 0 0,.slice none 0 0] 27)).heap[w.heap.size]? = some (.cells #[.int .i64 m.guest,.slice ra rn rc,.slice sa sn sc,.slice fa fn fc,.slice na nn nc] 27)∧(((w.alloc (.cells #[.int .i64 m.guest,.slice ra rn rc,.slice sa sn sc,.slice fa fn fc,.slice na nn nc] 27)).alloc (.cells #[.int .i64 (n:Int)] 3)).alloc (.cells #[.int .i64 0,.slice none 0 0,.slice none 0 0,.slice none 0 0,.slice none 0 0] 27)).heap[w.heap.size+1+1]? = some (.cells #[.int .i64 0,.slice none 0 0,.slice none 0 0,.slice none 0 0,.slice none 0 0] 27)∧Below w.heap.size w (((w.alloc (.cells #[.int .i64 m.guest,.slice ra rn rc,.slice sa sn sc,.slice fa fn fc,.slice na nn nc] 27)).alloc (.cells #[.int .i64 (n:Int)] 3)).alloc (.cells #[.int .i64 0,.slice none 0 0,.slice none 0 0,.slice none 0 0,.slice none 0 0] 27))∧(((w.alloc (.cells #[.int .i64 m.guest,.slice ra rn rc,.slice sa sn sc,.slice fa fn fc,.slice na nn nc] 27)).alloc (.cells #[.int .i64 (n:Int)] 3)).alloc (.cells #[.int .i64 0,.slice none 0 0,.slice none 0 0,.slice none 0 0,.slice none 0 0] 27)).heap.size=w.heap.size+1+1+1):=⟨m0,m2,b0,hz⟩
 clear h m0 m1 m2 hz hl b0 hC hn hk hM her hF hp
 go_enter Tryz.func31,Tryz.ntmps31
 go_wp2_with (first | (go_at_call 58;refine hck.mono ?_;rintro e w2 ⟨rfl,b2⟩;have d0:=cells_below HW.out.2.2.2.1 b2 (by have:=HW.out.2.2.1;omega);obtain⟨d1,d2,d3,d4,d5⟩:=five d0;have hof:=HO.out w1 w2 HW.out.2.2.2.2 b2;have HV:Hid (Below w.heap.size w w2∧w2.heap[w.heap.size+1+1]? = some (.cells #[.int .i64 0,.slice none 0 0,.slice none 0 0,.slice none 0 0,.slice none 0 0] 27)∧w.heap.size+1+1<w2.heap.size):=(⟨Below.on HW.out.2.1 b2,cells_below HW.out.1 b2 HW.out.2.2.1,Nat.lt_of_lt_of_le HW.out.2.2.1 b2.size⟩);clear b2 d0) | (go_at_call 52;refine hlook.mono ?_;rintro e w1 ⟨rfl,b1⟩;have hsz:w.heap.size+1+1+1≤w1.heap.size:=(by have:=b1.size;rw [HM.out.2.2.2] at this;exact this);have hz1:((w1.alloc (.cells #[.int .i64 k] 3)).alloc (.cells #[.int .i64 1,.string page,.slice none 0 0] 61)).heap.size=w1.heap.size+1+1:=(by simp);have HW:Hid (((w1.alloc (.cells #[.int .i64 k] 3)).alloc (.cells #[.int .i64 1,.string page,.slice none 0 0] 61)).heap[w.heap.size+1+1]? = some (.cells #[.int .i64 0,.slice none 0 0,.slice none 0 0,.slice none 0 0,.slice none 0 0] 27)∧Below w.heap.size w ((w1.alloc (.cells #[.int .i64 k] 3)).alloc (.cells #[.int .i64 1,.string page,.slice none 0 0] 61))∧w.heap.size+1+1<((w1.alloc (.cells #[.int .i64 k] 3)).alloc (.cells #[.int .i64 1,.string page,.slice none 0 0] 61)).heap.size∧((w1.alloc (.cells #[.int .i64 k] 3)).alloc (.cells #[.int .i64 1,.string page,.slice none 0 0] 61)).heap[w.heap.size]? = some (.cells #[.int .i64 m.guest,.slice ra rn rc,.slice sa sn sc,.slice fa fn fc,.slice na nn nc] 27)∧Below (((w.alloc (.cells #[.int .i64 m.guest,.slice ra rn rc,.slice sa sn sc,.slice fa fn fc,.slice na nn nc] 27)).alloc (.cells #[.int .i64 (n:Int)] 3)).alloc (.cells #[.int .i64 0,.slice none 0 0,.slice none 0 0,.slice none 0 0,.slice none 0 0] 27)).heap.size (((w.alloc (.cells #[.int .i64 m.guest,.slice ra rn rc,.slice sa sn sc,.slice fa fn fc,.slice na nn nc] 27)).alloc (.cells #[.int .i64 (n:Int)] 3)).alloc (.cells #[.int .i64 0,.slice none 0 0,.slice none 0 0,.slice none 0 0,.slice none 0 0] 27)) w1):=(⟨cells_alloc (cells_alloc (cells_below HM.out.2.1 b1 (by rw [HM.out.2.2.2];omega)) _) _,((Below.on HM.out.2.2.1 b1).alloc (by omega) _).alloc (by simp;omega) _,by rw [hz1];omega,cells_alloc (cells_alloc (cells_below HM.out.1 b1 (by rw [HM.out.2.2.2];omega)) _) _,b1⟩);have qq:((w1.alloc (.cells #[.int .i64 k] 3)).alloc (.cells #[.int .i64 1,.string page,.slice none 0 0] 61)).heap[w1.heap.size+1]? = some (.cells #[.int .i64 1,.string page,.slice none 0 0] 61):=(by have:=World.alloc_heap_new (w1.alloc (.cells #[.int .i64 k] 3)) (.cells #[.int .i64 1,.string page,.slice none 0 0] 61);simpa using this);obtain⟨u0,u1,u2⟩:=three qq;have hck:=HC.out w1;clear b1 hz1 hsz qq))
 refine hof.mono ?_
 intro e w3 hA
 obtain⟨val,ga,gc,la,lc,oa,oc,ta,tc,rfl,hO,b1,hI⟩:=hA.open
 dsimp only
 have k3:=cells_below HV.out.2.1 b1 HV.out.2.2
 obtain⟨z0,z1,z2,z3,z4⟩:=five k3
 have y0:=cells_frozen k3 0
 have y1:=cells_frozen k3 1
 have y2:=cells_frozen k3 2
 have y3:=cells_frozen k3 3
 have y4:=cells_frozen k3 4
 have HP:Hid (OI w3 w2.heap.size val M):=hO
 have HB:Hid (Below w.heap.size w w3):=Below.on HV.out.1 b1
 have HI:Hid (imgV M.guest val=.agg #[.int .i64 M.guest,.slice ga M.root.length gc,.slice la M.slots.length lc,.slice oa M.refs.length oc,.slice ta M.snaps.length tc]):=hI
 clear hO b1 hI hof hA
 go_wp2_with fail
 have i1:w.heap.size≤w.heap.size+1+1:=by omega
 have hf1:∀a,Live M a→(val a).ownBlock≠some (w.heap.size+1+1):=fun a ha e=>by have:=((HP.out.row a ha).lt _ e).1;have:=HV.out.2.2;omega
 refine bodyPost_ret (v:=.tuple #[.agg #[.int .i64 M.guest,.slice ga M.root.length gc,.slice la M.slots.length lc,.slice oa M.refs.length oc,.slice ta M.snaps.length tc],.int .i64 er]) (by simp [results,Tryz.results31,go_sem,z0,z1,z2,z3,z4]) rfl ⟨val,by rw [HI.out],OI.mono (((((HP.out.far hf1).far hf1).far hf1).far hf1).far hf1) (by have:=HV.out.2.2;omega),((((HB.out.setCell i1 _).setCell i1 _).setCell i1 _).setCell i1 _).setCell i1 _⟩
def wrE (m:ImgD) (n:Int) (page:ByteArray):Int:=if lookE m n≠0 then lookE m n else if page.size=4 then errO (writeD m n.toNat page) else 1
def wrM (m:ImgD) (n:Int) (page:ByteArray):ImgD:=if lookE m n≠0 then imgZ else if page.size=4 then (writeD m n.toNat page).getD imgZ else imgZ
theorem write_is {w:World}{v:Value}{m:ImgD}(h:Img w v m)(n:Int)(page:ByteArray) :
  Calls Tryz.prog 31 #[v,.int .i64 n,.string page] w (AnsI w w.heap.size (wrM m n page) (wrE m n page)):=by
 have h':=h
 obtain⟨ra,rc,sa,sc,fa,fc,na,nc,rfl,_⟩:=h.parts
 unfold wrM wrE
 by_cases hl:lookE m n=0
 ·have hl0:¬lookE m n≠0:=fun x=>x hl
  rw [if_neg hl0,if_neg hl0]
  obtain⟨hC,h0,hn⟩:=lookE_prt hl
  obtain⟨j,rfl⟩:=Int.eq_ofNat_of_zero_le h0
  rw [Int.toNat_natCast]
  by_cases hp:page.size=4
  ·rw [if_pos hp,if_pos hp]
   have hM:=wrP_meets hC hn hp
   exact write_ok_at m ra _ rc sa _ sc fa _ fc na _ nc j page w h' (fits_of_shape (checkE_shape hC)) hl hp _ rfl _ hM.m _ hM.e
  ·rw [if_neg hp,if_neg hp]
   exact write_form_at m ra _ rc sa _ sc fa _ fc na _ nc j page w h' hl hp _ rfl
 ·rw [if_pos hl,if_pos hl]
  exact write_bad_at m ra _ rc sa _ sc fa _ fc na _ nc n _ page w h' rfl (by simp [hl])
def cutP (m:ImgD) (g:Nat):Option ImgD:=if g / 4<m.root.length∧cutR (tableO m (g / 4)) (g % 4)≠tableO m (g / 4) then layP m (g / 4) (cutR (tableO m (g / 4)) (g % 4)) else some m
def rzP (m:ImgD) (g:Nat):Option ImgD:=(cutP m g).map (fun M=>rerootD M g)
theorem Kin.reroot {a b:ImgD}(h:Kin a b)(g:Nat):Kin (rerootD a g) (rerootD b g):=by
 refine⟨rfl,?_,h.slots,h.snaps,h.refs⟩
 show List.take _ _=List.take _ _
 rw [h.root]
theorem rzP_meets {m:ImgD}(hC:checkE m=0){g:Nat}(hg:g≤16):Meets (rzP m g) (resizeD m g):=by
 have hs:=checkE_shape hC
 have hrl:=(shapeE_zero hs).2.2.1
 unfold rzP resizeD
 by_cases h0:g % 4=0
 ·have hcd:cutD m g=some m:=by unfold cutD;rw [if_neg (fun x=>x.1 h0)]
  have hsh:=resize_shape hC hg hcd
  rw [hcd]
  have hrr:∀M,cutP m g=some M→rerootD M g=rerootD m g:=fun M hM=>by
   unfold cutP at hM
   split at hM
   ·rename_i hc
    have hz:cutR (tableO m (g / 4)) (g % 4)=[0,0,0,0]:=by rw [h0];unfold cutR;simp [List.replicate]
    rw [hz] at hM
    have hM:layP m (g / 4) [0,0,0,0]=some { m with root:=m.root.set (g / 4) 0 }:=by unfold layP;rw [if_pos (by decide)]
    rename_i hM'
    rw [hM] at hM'
    cases hM'
    unfold rerootD
    have e:(g+3) / 4=g / 4:=by omega
    simp only [ImgD.mk.injEq,true_and,and_true]
    rw [List.length_set,e]
    have hl:=hc.1
    rw [show g / 4 - m.root.length=0 by omega]
    simp only [List.replicate_zero,List.append_nil]
    rw [List.take_set_of_le (Nat.le_refl _)]
   ·cases hM;rfl
  have hne:cutP m g≠none:=by
   unfold cutP
   split
   ·have hz:cutR (tableO m (g / 4)) (g % 4)=[0,0,0,0]:=by rw [h0];unfold cutR;simp [List.replicate]
    rw [hz]
    unfold layP
    rw [if_pos (by decide)]
    simp
   ·simp
  cases hc:cutP m g with
  | none=>exact absurd hc hne
  | some M=>
   refine⟨fun x=>(by cases x),fun X hX=>?_⟩
   simp only [Option.map_some,Option.some.injEq] at hX
   rw [←hX,hrr M hc]
   exact⟨hsh,rfl⟩
 ·have e:cutP m g=if g / 4<m.root.length∧cutR (tableO m (g / 4)) (g % 4)≠tableO m (g / 4) then layP m (g / 4) (cutR (tableO m (g / 4)) (g % 4)) else some m:=rfl
  by_cases hc:g / 4<m.root.length∧cutR (tableO m (g / 4)) (g % 4)≠tableO m (g / 4)
  ·rw [e,if_pos hc]
   have hcd:cutD m g=tabledD m (g / 4) (cutR (tableO m (g / 4)) (g % 4)):=by unfold cutD;rw [if_pos ⟨h0,hc⟩]
   obtain⟨hiff,hsome⟩:=layP_tabled hC hc.1 (cutR (tableO m (g / 4)) (g % 4))
   cases hl:layP m (g / 4) (cutR (tableO m (g / 4)) (g % 4)) with
   | none=>
    rw [hcd,hiff.1 hl]
    exact⟨fun _=>rfl,fun M hM=>(by cases hM)⟩
   | some M=>
    obtain⟨M',hM',hkin⟩:=hsome M hl
    have hK:=(hkin (layP_len hrl hl) (tabled_len hrl hM')).reroot g
    have hsh:=resize_shape hC hg (hcd.trans hM')
    rw [hcd,hM']
    refine⟨fun x=>(by cases x),fun X hX=>?_⟩
    simp only [Option.map_some,Option.some.injEq] at hX
    subst hX
    exact⟨hK.shape.trans hsh,by simp only [Option.map_some];rw [hK.counted]⟩
  ·rw [e,if_neg hc]
   have hcd:cutD m g=some m:=by unfold cutD;rw [if_neg (fun x=>hc x.2)]
   have hsh:=resize_shape hC hg hcd
   rw [hcd]
   refine⟨fun x=>(by cases x),fun X hX=>?_⟩
   simp only [Option.map_some,Option.some.injEq] at hX
   subst hX
   exact⟨hsh,rfl⟩
end Go.Proofs.YtehleeibgkpjmafGreat
namespace Go.Proofs.YtehleeibgkpjmafGreat
open Go.RowKit
end Go.Proofs.YtehleeibgkpjmafGreat
namespace Go.Proofs.YtehleeibgkpjmafGreat
open Go.RowKit Go.Shelf
set_option maxRecDepth 20000
set_option maxHeartbeats 400000 in
theorem cut_own (v:Value)(xs:List Int)(k:Nat)(w:World)(h:Sl w v xs)(h0:ckE xs=0)(hk4:k≤4):Calls Tryz.prog 102 #[v,.int .i64 k] w fun r w'=>∃v',r=.returned (.tuple #[v',.int .i64 0])∧w'.ownsRow w.heap.size 3 1 v' (cutR xs k).length (ints (cutR xs k))∧Below w.heap.size w w':=by
 have H4:Hid (xs.length=4):=ckE_len h0
 have hk4':(k:Int)≤4:=by omega
 have hk0':¬(k:Int)<0:=by omega
 go_enter Tryz.func102,Tryz.ntmps102
 go_wp2_with (first | (go_at_call 113;refine (check_any _ xs _ h).mono ?_;rintro e w' ⟨rfl,rfl⟩) | (go_at_call 115;refine (first_any _ xs _ _ h H4.out (by omega) (by omega)).mono ?_;rintro e w1 ⟨g,cap',rfl,hown,hbel⟩;have HO:Hid (w1.ownsRow _ 3 1 (.slice (some ⟨g,0,none⟩) 4 cap') 4 ((cutR xs (Int.toNat (k:Int))).map (.int .i64))):=hown;clear hown))
 go_ret2
 have hO:=HO.out
 rw [Int.toNat_natCast] at hO
 have hl:(cutR xs k).length=4:=by unfold cutR;simp [H4.out];omega
 rw [hl]
 exact⟨_,rfl,hO,hbel⟩
theorem row_belowW {W W':World}{B n size:Nat}{e:TypeId}{v:Value}{xs:List Value}(h:W.ownsRow B e size v n xs)(hb:Below W.heap.size W W'):W'.ownsRow B e size v n xs:=row_blk h (fun g e=>hb.block g (h.lt g e).2)
theorem cutR_len {xs:List Int}(h:xs.length=4){k:Nat}(hk:k≤4):(cutR xs k).length=4:=by unfold cutR;simp [h];omega
theorem cutR_ck {xs:List Int}(h:ckE xs=0){k:Nat}(hk:k≤4):ckE (cutR xs k)=0:=by
 have h4:=ckE_len h
 refine ckE_yes (cutR_len h4 hk) ?_
 have ha:xs.all isE=true:=by
  unfold ckE at h
  split at h
  ·rename_i h1;exact h1.2
  ·cases h
 rw [List.all_eq_true] at ha ⊢
 intro x hx
 unfold cutR at hx
 rcases List.mem_append.1 hx with h1 | h1
 ·exact ha x (List.mem_of_mem_take h1)
 ·rw [List.eq_of_mem_replicate h1];decide
set_option maxHeartbeats 2000000 in
theorem wcut_is {m:ImgD}{g B D:Nat}{val:Nm→Value}{w:World}(hK:DK w B D val m)(hB:B≤w.heap.size)(h16:g≤16)(hs:shapeE m=0) :
  Calls Tryz.prog 83 #[.pointer (some ⟨D,0,none⟩),.int .i64 (g:Int)] w (Tells w B D m val nilV (cutP m g)):=by
 obtain⟨ra,rc,e0,_⟩:=hK.own.forms .root (Live.root m)
 have d1:w.cell? ⟨D,1,none⟩=some (.slice ra m.root.length rc):=hK.root5 e0
 have e4:((g / 4:Nat):Int)=(g:Int) / 4:=by omega
 have e5:((g % 4:Nat):Int)=(g:Int) % 4:=by omega
 have hrl:=(shapeE_zero hs).2.2.1
 unfold cutP
 by_cases hr:g / 4<m.root.length
 ·obtain⟨t,ht,htl⟩:=root_nat hs hr
  have hck:=(tableO_ok hs hr).1
  have hent:=entries_is hK hr ht htl
  rw [e4] at hent
  have hg1:¬(m.root.length:Int)≤(g:Int) / 4:=by omega
  have hg2:decide ((m.root.length:Int)≤(g:Int) / 4)=false:=by simp;omega
  have HC:Hid (∀v w1,Sl w1 v (tableO m (g / 4))→Calls Tryz.prog 102 #[v,.int .i64 ((g:Int) % 4)] w1 fun r w'=>∃v',r=.returned (.tuple #[v',.int .i64 0])∧w'.ownsRow w1.heap.size 3 1 v' (cutR (tableO m (g / 4)) (g % 4)).length (ints (cutR (tableO m (g / 4)) (g % 4)))∧Below w1.heap.size w1 w'):=fun v w1 h1=>by
   have:=cut_own v _ (g % 4) w1 h1 hck (by omega)
   rw [e5] at this
   exact this
  by_cases hne:cutR (tableO m (g / 4)) (g % 4)=tableO m (g / 4)
  ·rw [if_neg (fun x=>x.2 hne)]
   have HQ:Hid (∀u v W,W.ownsRow w.heap.size 3 1 u (cutR (tableO m (g / 4)) (g % 4)).length (ints (cutR (tableO m (g / 4)) (g % 4)))→Sl W v (tableO m (g / 4))→Calls Tryz.prog 70 #[u,v] W fun r w'=>r=.returned (.bool true)∧Below W.heap.size W w'):=fun u v W h1 h2=>equal_is (row_sl h1) h2 (by rw [hne]) (by rw [hne];simp)
   have HF:Hid (∀W,Below w.heap.size w W→DTo w W B D m val nilV m val):=fun W hb=>(DTo.refl hK nilV).below hB hb
   clear hK e0 e4 e5 hrl hr ht htl hck hne hs
   go_enter Tryz.func83,Tryz.ntmps83
   go_wp2_with (first | (go_at_call 70;refine (HQ.out _ _ _ (row_mono ho2 b1.size) (hs1.below b2)).mono ?_;rintro e w3 ⟨rfl,b3⟩) | (go_at_call 102;refine (HC.out _ _ hs1).mono ?_;rintro e w2 ⟨v2,rfl,ho2,b2⟩) | (go_at_call 92;refine hent.mono ?_;rintro e w1 ⟨v1,rfl,hs1,b1⟩))
   go_end0
   exact⟨rfl,val,HF.out _ (Below.on' b1 b2 b3)⟩
  ·rw [if_pos ⟨hr,hne⟩]
   have hl4:=ckE_len hck
   have HQ:Hid (∀u v W,W.ownsRow w.heap.size 3 1 u (cutR (tableO m (g / 4)) (g % 4)).length (ints (cutR (tableO m (g / 4)) (g % 4)))→Sl W v (tableO m (g / 4))→Calls Tryz.prog 70 #[u,v] W fun r w'=>r=.returned (.bool false)∧Below W.heap.size W w'):=fun u v W h1 h2=>equal_is (row_sl h1) h2 (by rw [hl4];exact cutR_len hl4 (by omega)) (by simpa using hne)
   cases ho:layP m (g / 4) (cutR (tableO m (g / 4)) (g % 4)) with
   | none=>
    have HL:Hid (∀ev W,Below w.heap.size w W→W.ownsRow w.heap.size 3 1 ev (cutR (tableO m (g / 4)) (g % 4)).length (ints (cutR (tableO m (g / 4)) (g % 4)))→Calls Tryz.prog 93 #[.pointer (some ⟨D,0,none⟩),.int .i64 ((g:Int) / 4),ev] W (Tells w B D m val nilV none)):=fun ev W h1 h3=>by
     have:=wlay_new hK hB hr ht htl (.inr (shapeE_zero hs).2.1) hrl h1 (Nat.le_refl _) h3 (cutR_ck hck (by omega)) ho
     rw [e4] at this
     exact this
    clear hK e0 e4 e5 hrl hr ht htl hck hne hs hl4 ho
    go_enter Tryz.func83,Tryz.ntmps83
    go_wp2_with (first | (go_at_call 93;refine (HL.out _ _ (Below.on' b1 b2 b3) (row_belowW (row_mono ho2 b1.size) b3)).mono ?_;rintro e w4 ⟨rfl,b4⟩;exact⟨rfl,rfl,b4⟩) | (go_at_call 70;refine (HQ.out _ _ _ (row_mono ho2 b1.size) (hs1.below b2)).mono ?_;rintro e w3 ⟨rfl,b3⟩) | (go_at_call 102;refine (HC.out _ _ hs1).mono ?_;rintro e w2 ⟨v2,rfl,ho2,b2⟩) | (go_at_call 92;refine hent.mono ?_;rintro e w1 ⟨v1,rfl,hs1,b1⟩))
   | some M=>
    have HL:Hid (∀ev W,Below w.heap.size w W→W.ownsRow w.heap.size 3 1 ev (cutR (tableO m (g / 4)) (g % 4)).length (ints (cutR (tableO m (g / 4)) (g % 4)))→Calls Tryz.prog 93 #[.pointer (some ⟨D,0,none⟩),.int .i64 ((g:Int) / 4),ev] W (Tells w B D m val nilV (some M))):=fun ev W h1 h3=>by
     have:=wlay_new hK hB hr ht htl (.inr (shapeE_zero hs).2.1) hrl h1 (Nat.le_refl _) h3 (cutR_ck hck (by omega)) ho
     rw [e4] at this
     exact this
    clear hK e0 e4 e5 hrl hr ht htl hck hne hs hl4 ho
    go_enter Tryz.func83,Tryz.ntmps83
    go_wp2_with (first | (go_at_call 93;refine (HL.out _ _ (Below.on' b1 b2 b3) (row_belowW (row_mono ho2 b1.size) b3)).mono ?_;rintro e w4 ⟨rfl,val4,hT⟩) | (go_at_call 70;refine (HQ.out _ _ _ (row_mono ho2 b1.size) (hs1.below b2)).mono ?_;rintro e w3 ⟨rfl,b3⟩) | (go_at_call 102;refine (HC.out _ _ hs1).mono ?_;rintro e w2 ⟨v2,rfl,ho2,b2⟩) | (go_at_call 92;refine hent.mono ?_;rintro e w1 ⟨v1,rfl,hs1,b1⟩))
    go_end0
    exact⟨rfl,val4,hT⟩
 ·rw [if_neg (fun x=>hr x.1)]
  have hg1:(m.root.length:Int)≤(g:Int) / 4:=by omega
  have hg2:decide ((m.root.length:Int)≤(g:Int) / 4)=true:=by simp;omega
  have HF:Hid (DTo w w B D m val nilV m val):=DTo.refl hK nilV
  clear hK e0 e4 e5 hrl hr hs
  go_enter Tryz.func83,Tryz.ntmps83
  go_wp2_with fail
  refine bodyPost_ret (results_none rfl _ _ _) rfl ?_
  exact⟨rfl,val,HF.out⟩
def rootTo (xs:List Int) (n:Nat):List Int:=(xs ++ List.replicate (n - xs.length) 0).take n
theorem rootTo_len (xs:List Int)(n:Nat):(rootTo xs n).length=n:=by unfold rootTo;simp;omega
theorem copy_root {w:World}{v:Value}{xs:List Int}(h:Sl w v xs)(n:Nat) :
  ∃W2 c,(Builtin.copy_ #[23,23] 3 #[.slice (some ⟨w.heap.size,0,none⟩) n n,v]).run Tryz.prog (w.alloc (.cells ((List.replicate n (0:Int)).map (Value.int .i64)).toArray 3))=.ok c W2∧
   W2.heap[w.heap.size]? = some (.cells ((rootTo xs n).map (Value.int .i64)).toArray 3)∧Below w.heap.size w W2:=by
 obtain⟨ao,cap,rfl⟩:=h.form
 obtain⟨_,_,_,hc⟩:=h.cells
 have hg:=heap_alloc_new w (.cells ((List.replicate n (0:Int)).map (Value.int .i64)).toArray 3)
 by_cases h0:min xs.length n=0
 ·have hrun:=run_copy_none (P:=Tryz.prog) (w.alloc (.cells ((List.replicate n (0:Int)).map (Value.int .i64)).toArray 3)) 23 23 3 3 (some ⟨w.heap.size,0,none⟩) ao n n xs.length cap Tryz.underlying23 Tryz.size3 h0
  refine⟨_,_,hrun,?_,(Below.refl _ _).alloc (Nat.le_refl _) _⟩
  have e:rootTo xs n=List.replicate n 0:=by
   unfold rootTo
   by_cases hn:n=0
   ·subst hn;simp
   ·have:xs=[]:=List.length_eq_zero_iff.1 (by omega)
    subst this
    simp
  rw [e]
  exact hg
 ·obtain⟨b,off,rfl,hb,_⟩:=hc 0 (by omega)
  have hc:∀j,j<xs.length→w.cell? ⟨b,off+j,none⟩=some (.int .i64 (xs.getD j 0)):=fun j hj=>by
   obtain⟨b',off',e,_,h2⟩:=hc j hj
   simp only [Option.some.injEq,Addr.mk.injEq,and_true] at e
   obtain⟨rfl,rfl⟩:=e
   exact h2
  obtain⟨X,hX⟩:∃X,X=(xs.take n).map (Value.int .i64):=⟨_,rfl⟩
  have hXl:X.length=min xs.length n:=by rw [hX];simp;omega
  have hsrc:∀j v,X[j]? = some v→(w.alloc (.cells ((List.replicate n (0:Int)).map (Value.int .i64)).toArray 3)).cell? ((⟨b,off,none⟩:Addr).add j)=some v:=by
   intro j v hj
   have hjn:j<min xs.length n:=by have:=(List.getElem?_eq_some_iff.1 hj).1;rw [hXl] at this;exact this
   rw [hX] at hj
   have:v=.int .i64 (xs.getD j 0):=by
    rw [List.getElem?_map,List.getElem?_take,if_pos (by omega)] at hj
    simp [List.getD,show j<xs.length by omega] at hj ⊢
    exact hj.symm
   rw [this]
   rw [addr_add]
   exact (World.cell?_alloc_past _ _ _ hb).trans (hc j (by omega))
  have hrun:=run_copy_row (P:=Tryz.prog) _ 23 23 3 3 w.heap.size 0 n n ⟨b,off,none⟩ xs.length cap _ 3 X Tryz.underlying23 Tryz.size3 hg hXl hsrc (by rw [hXl];simp;omega) (by rw [hX];exact ints_oneCell _ _)
  refine⟨_,_,hrun,?_,below_setRow ((Below.refl _ _).alloc (Nat.le_refl _) _) (Nat.le_refl _) _⟩
  rw [setRow_heap _ _ _ _ _ _ hg,hX]
  have e:(rootTo xs n).map (Value.int .i64)=(xs.take n).map (Value.int .i64) ++ ((List.replicate n (0:Int)).map (Value.int .i64)).drop (min xs.length n):=by
   rw [←List.map_drop,← List.map_append]
   congr 1
   unfold rootTo
   rw [List.take_append,List.take_replicate,List.drop_replicate]
   congr 2
   omega
  rw [e]
  simp [Nat.min_comm]
theorem row_whole {W:World}{B g:Nat}{xs:List Int}(hB:B≤g)(h:W.heap[g]? = some (.cells (xs.map (Value.int .i64)).toArray 3))(hm:xs.length≤40):W.ownsRow B 3 1 (.slice (some ⟨g,0,none⟩) xs.length xs.length) xs.length (ints xs):=by
 have hx:(40:Nat)≤maxLen:=by decide
 exact⟨by simp [ints],.inr ⟨g,xs.length,_,rfl,hB,h,Nat.le_refl _,Nat.le_trans hm hx,by simp,by simp [ints,List.take_of_length_le]⟩⟩
set_option maxHeartbeats 2000000 in
theorem rz_turn {w:World}{m:ImgD}{g bg:Nat}(cg:w.cell? ⟨bg,0,none⟩=some (.int .i64 (g:Int)))(lg:bg<w.heap.size)(h16:g≤16)(hs:shapeE m=0) :
  Turns w 82 #[.pointer (some ⟨bg,0,none⟩)] m (rzP m g):=by
 intro W D B val hb h1 h2 hK
 have cg:=(hb.cell (p:=⟨bg,0,none⟩) lg).trans cg
 have hcut:=wcut_is hK h2 h16 hs
 show Calls Tryz.prog 82 #[.pointer (some ⟨D,0,none⟩),.pointer (some ⟨bg,0,none⟩)] W _
 unfold rzP
 cases hc:cutP m g with
 | none=>
  rw [hc] at hcut
  clear hc hK hs
  go_enter Tryz.func82,Tryz.ntmps82
  go_wp2_with (go_at_call 83;refine hcut.mono ?_;rintro e w3 ⟨rfl,b3⟩;exact⟨rfl,rfl,b3⟩)
 | some M=>
  rw [hc] at hcut
  show Calls Tryz.prog 82 #[.pointer (some ⟨D,0,none⟩),.pointer (some ⟨bg,0,none⟩)] W (fun r W'=>∃val',r=.returned (.tuple #[])∧DTo W W' B D m val nilV (rerootD M g) val')
  obtain⟨N,hN⟩:∃N,(g+3) / 4=N:=⟨_,rfl⟩
  have hN4:N≤4:=by omega
  have e4:(N:Int)=((g:Int)+4 - 1) / 4:=by omega
  have HE:Hid (rerootD M g = { M with guest:=(g:Int),root:=rootTo M.root N }):=by unfold rerootD rootTo;rw [hN];exact rfl
  have hmk0:=mk_ints N (by omega)
  obtain⟨Z,hZ⟩:∃Z,((List.replicate N (0:Int)).map (Value.int .i64)).toArray=Z:=⟨_,rfl⟩
  rw [hZ,e4] at hmk0
  have HZ:Hid (((List.replicate N (0:Int)).map (Value.int .i64)).toArray=Z):=hZ
  have HN:Hid (N≤4):=hN4
  have hlg:bg<B:=Nat.lt_of_lt_of_le lg h1
  have HH:Hid (B≤W.heap.size∧bg<B):=⟨h2,hlg⟩
  clear hc hK hs hN hN4 e4 hZ hb lg h1 h2
  go_enter Tryz.func82,Tryz.ntmps82
  go_wp2_with (go_at_call 83;refine hcut.mono ?_;rintro e w1 ⟨rfl,val1,hT1⟩;have cg1:=(hT1.bel.cell (p:=⟨bg,0,none⟩) HH.out.2).trans cg;obtain⟨ra,rc,e0,hS0⟩:=hT1.dk.own.forms .root (Live.root M);obtain⟨W2,cc,hcp,hg2,hB2⟩:=copy_root (row_sl (hT1.dk.own.row .root (Live.root M))) N;rw [HZ.out,e0] at hcp;have hcp:(Builtin.copy_ #[23,23] 3 #[.slice (some ⟨w1.heap.size,0,none⟩) N N,.slice ra M.root.length rc]).run Tryz.prog (w1.alloc (.cells Z 3))=.ok cc W2:=hcp;have d1:(w1.alloc (.cells Z 3)).cell? ⟨D,1,none⟩=some (.slice ra M.root.length rc):=(hT1.dk.alloc _).root5 e0;have hT2:=hT1.below HH.out.1 hB2;have cg2:=(hT2.bel.cell (p:=⟨bg,0,none⟩) HH.out.2).trans cg;obtain⟨p0,p1,_,_,_⟩:=hT2.dk.five;have f0:=hT2.dk.frozen 0;have f1:=hT2.dk.frozen 1;have HT:=Hid_mkW (And.intro hT2 (And.intro hg2 hT1.bel.size));have HD:=Hid_mkW hT1;clear hT2 hT1 hg2 hS0 e0)
  go_end0
  have hT2:=HT.out.1
  have hDw:=HD.out.dk.lt
  have hBw:B≤w1.heap.size:=Nat.le_trans HH.out.1 HT.out.2.2
  have k1:=hT2.setDesk (hT2.dk.setGuest (g:Int)) (fun q _ hs _ b hb=>hs b hb)
  have hrow:(W2.setCell ⟨D,0,none⟩ (.int .i64 (g:Int))).ownsRow B 3 1 (.slice (some ⟨w1.heap.size,0,none⟩) N N) (rootTo M.root N).length (ints (rootTo M.root N)):=by
   have h0:(W2.setCell ⟨D,0,none⟩ (.int .i64 (g:Int))).heap[w1.heap.size]? = some (.cells ((rootTo M.root N).map (Value.int .i64)).toArray 3):=cells_other HT.out.2.1 (by omega) 0 _
   have:=row_whole hBw h0 (by rw [rootTo_len];have:=HN.out;omega)
   rw [rootTo_len] at this ⊢
   exact this
  have hnew:∀b,Live M b→(val1 b).ownBlock≠some w1.heap.size:=HD.out.dk.own.lt (Nat.le_refl _)
  have hv:(Value.slice (some ⟨w1.heap.size,0,none⟩) N N).ownBlock=some w1.heap.size:=rfl
  have k2:=k1.setDesk (k1.dk.swapRoot hrow (fun b hb _ q hq x=>by cases hq;exact hnew b hb x) (fun x=>by rw [hv] at x;injection x with x;omega)) (fun q _ hs hq b hb=>by
   by_cases e:b=.root
   ·subst e
    rw [upd_same]
    intro x
    rw [hv] at x
    injection x with x
    have:=HT.out.2.2
    omega
   ·rw [upd_other _ _ e]
    exact hs b hb)
  rw [HE.out]
  exact⟨_,rfl,k2⟩
end Go.Proofs.YtehleeibgkpjmafGreat
