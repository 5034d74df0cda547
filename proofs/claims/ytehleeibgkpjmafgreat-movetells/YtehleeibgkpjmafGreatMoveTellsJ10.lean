/- Texts joined: WrRz, WrB, RefF, Pair, FrI, WrC0, WrG, WrH, UpP. -/
import Derived.Test.YtehleeibgkpjmafGreatMoveTellsJ9
import Derived.Test.YtehleeibgkpjmafGreatMoveTellsJ7
import Derived.Test.YtehleeibgkpjmafGreatMoveTellsJ4
import Derived.Test.YtehleeibgkpjmafGreatMoveTellsJ1
set_option linter.unusedVariables false
set_option linter.unusedSimpArgs false
namespace Go.Proofs.YtehleeibgkpjmafGreat
open Go.RowKit Go.Shelf
set_option maxRecDepth 20000
set_option linter.unusedVariables false
set_option maxHeartbeats 4000000 in
theorem resize_bad_at (m:ImgD)(ra:Option Addr)(rn rc:Nat)(sa:Option Addr)(sn sc:Nat)(fa:Option Addr)(fn fc:Nat)(na:Option Addr)(nn nc:Nat)(g:Int)(E:Int)(w:World)(h:Img w (.agg #[.int .i64 m.guest,.slice ra rn rc,.slice sa sn sc,.slice fa fn fc,.slice na nn nc]) m)(hE:checkE m=E)(hne:(E != 0)=true) :
  Calls Tryz.prog 48 #[.agg #[.int .i64 m.guest,.slice ra rn rc,.slice sa sn sc,.slice fa fn fc,.slice na nn nc],.int .i64 g] w (AnsI w w.heap.size imgZ E):=by
 have b0:Below w.heap.size w (((w.alloc (.cells #[.int .i64 m.guest,.slice ra rn rc,.slice sa sn sc,.slice fa fn fc,.slice na nn nc] 27)).alloc (.cells #[.int .i64 g] 3)).alloc (.cells #[.int .i64 0,.slice none 0 0,.slice none 0 0,.slice none 0 0,.slice none 0 0] 27)):=(((Below.refl _ _).alloc (by simp;try omega) _).alloc (by simp;try omega) _).alloc (by simp;try omega) _
 have q0:(w.alloc (.cells #[.int .i64 m.guest,.slice ra rn rc,.slice sa sn sc,.slice fa fn fc,.slice na nn nc] 27)).heap[w.heap.size]? = some (.cells #[.int .i64 m.guest,.slice ra rn rc,.slice sa sn sc,.slice fa fn fc,.slice na nn nc] 27):=by have:=World.alloc_heap_new w (.cells #[.int .i64 m.guest,.slice ra rn rc,.slice sa sn sc,.slice fa fn fc,.slice na nn nc] 27);simpa using this
 have m0:(((w.alloc (.cells #[.int .i64 m.guest,.slice ra rn rc,.slice sa sn sc,.slice fa fn fc,.slice na nn nc] 27)).alloc (.cells #[.int .i64 g] 3)).alloc (.cells #[.int .i64 0,.slice none 0 0,.slice none 0 0,.slice none 0 0,.slice none 0 0] 27)).heap[w.heap.size]? = some (.cells #[.int .i64 m.guest,.slice ra rn rc,.slice sa sn sc,.slice fa fn fc,.slice na nn nc] 27):=(cells_alloc (cells_alloc q0 _) _)
 have q1:((w.alloc (.cells #[.int .i64 m.guest,.slice ra rn rc,.slice sa sn sc,.slice fa fn fc,.slice na nn nc] 27)).alloc (.cells #[.int .i64 g] 3)).heap[w.heap.size+1]? = some (.cells #[.int .i64 g] 3):=by have:=World.alloc_heap_new (w.alloc (.cells #[.int .i64 m.guest,.slice ra rn rc,.slice sa sn sc,.slice fa fn fc,.slice na nn nc] 27)) (.cells #[.int .i64 g] 3);simpa using this
 have m1:(((w.alloc (.cells #[.int .i64 m.guest,.slice ra rn rc,.slice sa sn sc,.slice fa fn fc,.slice na nn nc] 27)).alloc (.cells #[.int .i64 g] 3)).alloc (.cells #[.int .i64 0,.slice none 0 0,.slice none 0 0,.slice none 0 0,.slice none 0 0] 27)).heap[w.heap.size+1]? = some (.cells #[.int .i64 g] 3):=(cells_alloc q1 _)
 have q2:(((w.alloc (.cells #[.int .i64 m.guest,.slice ra rn rc,.slice sa sn sc,.slice fa fn fc,.slice na nn nc] 27)).alloc (.cells #[.int .i64 g] 3)).alloc (.cells #[.int .i64 0,.slice none 0 0,.slice none 0 0,.slice none 0 0,.slice none 0 0] 27)).heap[w.heap.size+1+1]? = some (.cells #[.int .i64 0,.slice none 0 0,.slice none 0 0,.slice none 0 0,.slice none 0 0] 27):=by have:=World.alloc_heap_new ((w.alloc (.cells #[.int .i64 m.guest,.slice ra rn rc,.slice sa sn sc,.slice fa fn fc,.slice na nn nc] 27)).alloc (.cells #[.int .i64 g] 3)) (.cells #[.int .i64 0,.slice none 0 0,.slice none 0 0,.slice none 0 0,.slice none 0 0] 27);simpa using this
 have m2:(((w.alloc (.cells #[.int .i64 m.guest,.slice ra rn rc,.slice sa sn sc,.slice fa fn fc,.slice na nn nc] 27)).alloc (.cells #[.int .i64 g] 3)).alloc (.cells #[.int .i64 0,.slice none 0 0,.slice none 0 0,.slice none 0 0,.slice none 0 0] 27)).heap[w.heap.size+1+1]? = some (.cells #[.int .i64 0,.slice none 0 0,.slice none 0 0,.slice none 0 0,.slice none 0 0] 27):=q2
 have hz:(((w.alloc (.cells #[.int .i64 m.guest,.slice ra rn rc,.slice sa sn sc,.slice fa fn fc,.slice na nn nc] 27)).alloc (.cells #[.int .i64 g] 3)).alloc (.cells #[.int .i64 0,.slice none 0 0,.slice none 0 0,.slice none 0 0,.slice none 0 0] 27)).heap.size=w.heap.size+1+1+1:=by simp
 clear q0 q1 q2
 have hchk:=tcheck_is (h.below b0) hE
 obtain⟨c0,c1,c2,c3,c4⟩:=five m0
 have HM:Hid ((((w.alloc (.cells #[.int .i64 m.guest,.slice ra rn rc,.slice sa sn sc,.slice fa fn fc,.slice na nn nc] 27)).alloc (.cells #[.int .i64 g] 3)).alloc (.cells #[.int .i64 0,.slice none 0 0,.slice none 0 0,.slice none 0 0,.slice none 0 0] 27)).heap[w.heap.size+1+1]? = some (.cells #[.int .i64 0,.slice none 0 0,.slice none 0 0,.slice none 0 0,.slice none 0 0] 27)∧Below w.heap.size w (((w.alloc (.cells #[.int .i64 m.guest,.slice ra rn rc,.slice sa sn sc,.slice fa fn fc,.slice na nn nc] 27)).alloc (.cells #[.int .i64 g] 3)).alloc (.cells #[.int .i64 0,.slice none 0 0,.slice none 0 0,.slice none 0 0,.slice none 0 0] 27))∧(((w.alloc (.cells #[.int .i64 m.guest,.slice ra rn rc,.slice sa sn sc,.slice fa fn fc,.slice na nn nc] 27)).alloc (.cells #[.int .i64 g] 3)).alloc (.cells #[.int .i64 0,.slice none 0 0,.slice none 0 0,.slice none 0 0,.slice none 0 0] 27)).heap.size=w.heap.size+1+1+1∧(((w.alloc (.cells #[.int .i64 m.guest,.slice ra rn rc,.slice sa sn sc,.slice fa fn fc,.slice na nn nc] 27)).alloc (.cells #[.int .i64 g] 3)).alloc (.cells #[.int .i64 0,.slice none 0 0,.slice none 0 0,.slice none 0 0,.slice none 0 0] 27)).heap[w.heap.size+1]? = some (.cells #[.int .i64 g] 3)):=⟨m2,b0,hz,m1⟩
 clear h m0 m1 m2 hz b0 hE
 go_enter Tryz.func48,Tryz.ntmps48
 go_wp2_with (go_at_call 38;refine hchk.mono ?_;rintro e w1 ⟨rfl,b1⟩;have k3:=cells_below HM.out.1 b1 (by rw [HM.out.2.2.1];omega);obtain⟨z0,z1,z2,z3,z4⟩:=five k3;have y0:=cells_frozen k3 0;have y1:=cells_frozen k3 1;have y2:=cells_frozen k3 2;have y3:=cells_frozen k3 3;have y4:=cells_frozen k3 4;have cn:=one (cells_below HM.out.2.2.2 b1 (by rw [HM.out.2.2.1];omega));have HB:Hid (Below w.heap.size w w1):=Below.on HM.out.2.1 b1;clear b1 k3)
 have i1:w.heap.size≤w.heap.size+1+1:=by omega
 refine bodyPost_ret (v:=.tuple #[.agg #[.int .i64 0,.slice none 0 0,.slice none 0 0,.slice none 0 0,.slice none 0 0],.int .i64 E]) (by simp [results,Tryz.results48,go_sem,z0,z1,z2,z3,z4]) rfl (AnsI.bad E (((((HB.out.setCell i1 _).setCell i1 _).setCell i1 _).setCell i1 _).setCell i1 _))
set_option maxHeartbeats 4000000 in
theorem resize_neg_at (m:ImgD)(ra:Option Addr)(rn rc:Nat)(sa:Option Addr)(sn sc:Nat)(fa:Option Addr)(fn fc:Nat)(na:Option Addr)(nn nc:Nat)(g:Int)(w:World)(h:Img w (.agg #[.int .i64 m.guest,.slice ra rn rc,.slice sa sn sc,.slice fa fn fc,.slice na nn nc]) m)(hE:checkE m=0)(hg:g<0) :
  Calls Tryz.prog 48 #[.agg #[.int .i64 m.guest,.slice ra rn rc,.slice sa sn sc,.slice fa fn fc,.slice na nn nc],.int .i64 g] w (AnsI w w.heap.size imgZ 3):=by
 have b0:Below w.heap.size w (((w.alloc (.cells #[.int .i64 m.guest,.slice ra rn rc,.slice sa sn sc,.slice fa fn fc,.slice na nn nc] 27)).alloc (.cells #[.int .i64 g] 3)).alloc (.cells #[.int .i64 0,.slice none 0 0,.slice none 0 0,.slice none 0 0,.slice none 0 0] 27)):=(((Below.refl _ _).alloc (by simp;try omega) _).alloc (by simp;try omega) _).alloc (by simp;try omega) _
 have q0:(w.alloc (.cells #[.int .i64 m.guest,.slice ra rn rc,.slice sa sn sc,.slice fa fn fc,.slice na nn nc] 27)).heap[w.heap.size]? = some (.cells #[.int .i64 m.guest,.slice ra rn rc,.slice sa sn sc,.slice fa fn fc,.slice na nn nc] 27):=by have:=World.alloc_heap_new w (.cells #[.int .i64 m.guest,.slice ra rn rc,.slice sa sn sc,.slice fa fn fc,.slice na nn nc] 27);simpa using this
 have m0:(((w.alloc (.cells #[.int .i64 m.guest,.slice ra rn rc,.slice sa sn sc,.slice fa fn fc,.slice na nn nc] 27)).alloc (.cells #[.int .i64 g] 3)).alloc (.cells #[.int .i64 0,.slice none 0 0,.slice none 0 0,.slice none 0 0,.slice none 0 0] 27)).heap[w.heap.size]? = some (.cells #[.int .i64 m.guest,.slice ra rn rc,.slice sa sn sc,.slice fa fn fc,.slice na nn nc] 27):=(cells_alloc (cells_alloc q0 _) _)
 have q1:((w.alloc (.cells #[.int .i64 m.guest,.slice ra rn rc,.slice sa sn sc,.slice fa fn fc,.slice na nn nc] 27)).alloc (.cells #[.int .i64 g] 3)).heap[w.heap.size+1]? = some (.cells #[.int .i64 g] 3):=by have:=World.alloc_heap_new (w.alloc (.cells #[.int .i64 m.guest,.slice ra rn rc,.slice sa sn sc,.slice fa fn fc,.slice na nn nc] 27)) (.cells #[.int .i64 g] 3);simpa using this
 have m1:(((w.alloc (.cells #[.int .i64 m.guest,.slice ra rn rc,.slice sa sn sc,.slice fa fn fc,.slice na nn nc] 27)).alloc (.cells #[.int .i64 g] 3)).alloc (.cells #[.int .i64 0,.slice none 0 0,.slice none 0 0,.slice none 0 0,.slice none 0 0] 27)).heap[w.heap.size+1]? = some (.cells #[.int .i64 g] 3):=(cells_alloc q1 _)
 have q2:(((w.alloc (.cells #[.int .i64 m.guest,.slice ra rn rc,.slice sa sn sc,.slice fa fn fc,.slice na nn nc] 27)).alloc (.cells #[.int .i64 g] 3)).alloc (.cells #[.int .i64 0,.slice none 0 0,.slice none 0 0,.slice none 0 0,.slice none 0 0] 27)).heap[w.heap.size+1+1]? = some (.cells #[.int .i64 0,.slice none 0 0,.slice none 0 0,.slice none 0 0,.slice none 0 0] 27):=by have:=World.alloc_heap_new ((w.alloc (.cells #[.int .i64 m.guest,.slice ra rn rc,.slice sa sn sc,.slice fa fn fc,.slice na nn nc] 27)).alloc (.cells #[.int .i64 g] 3)) (.cells #[.int .i64 0,.slice none 0 0,.slice none 0 0,.slice none 0 0,.slice none 0 0] 27);simpa using this
 have m2:(((w.alloc (.cells #[.int .i64 m.guest,.slice ra rn rc,.slice sa sn sc,.slice fa fn fc,.slice na nn nc] 27)).alloc (.cells #[.int .i64 g] 3)).alloc (.cells #[.int .i64 0,.slice none 0 0,.slice none 0 0,.slice none 0 0,.slice none 0 0] 27)).heap[w.heap.size+1+1]? = some (.cells #[.int .i64 0,.slice none 0 0,.slice none 0 0,.slice none 0 0,.slice none 0 0] 27):=q2
 have hz:(((w.alloc (.cells #[.int .i64 m.guest,.slice ra rn rc,.slice sa sn sc,.slice fa fn fc,.slice na nn nc] 27)).alloc (.cells #[.int .i64 g] 3)).alloc (.cells #[.int .i64 0,.slice none 0 0,.slice none 0 0,.slice none 0 0,.slice none 0 0] 27)).heap.size=w.heap.size+1+1+1:=by simp
 clear q0 q1 q2
 have g1:decide (g<0)=true:=by simp [hg]
 have hchk:=tcheck_is (h.below b0) hE
 obtain⟨c0,c1,c2,c3,c4⟩:=five m0
 have HM:Hid ((((w.alloc (.cells #[.int .i64 m.guest,.slice ra rn rc,.slice sa sn sc,.slice fa fn fc,.slice na nn nc] 27)).alloc (.cells #[.int .i64 g] 3)).alloc (.cells #[.int .i64 0,.slice none 0 0,.slice none 0 0,.slice none 0 0,.slice none 0 0] 27)).heap[w.heap.size+1+1]? = some (.cells #[.int .i64 0,.slice none 0 0,.slice none 0 0,.slice none 0 0,.slice none 0 0] 27)∧Below w.heap.size w (((w.alloc (.cells #[.int .i64 m.guest,.slice ra rn rc,.slice sa sn sc,.slice fa fn fc,.slice na nn nc] 27)).alloc (.cells #[.int .i64 g] 3)).alloc (.cells #[.int .i64 0,.slice none 0 0,.slice none 0 0,.slice none 0 0,.slice none 0 0] 27))∧(((w.alloc (.cells #[.int .i64 m.guest,.slice ra rn rc,.slice sa sn sc,.slice fa fn fc,.slice na nn nc] 27)).alloc (.cells #[.int .i64 g] 3)).alloc (.cells #[.int .i64 0,.slice none 0 0,.slice none 0 0,.slice none 0 0,.slice none 0 0] 27)).heap.size=w.heap.size+1+1+1∧(((w.alloc (.cells #[.int .i64 m.guest,.slice ra rn rc,.slice sa sn sc,.slice fa fn fc,.slice na nn nc] 27)).alloc (.cells #[.int .i64 g] 3)).alloc (.cells #[.int .i64 0,.slice none 0 0,.slice none 0 0,.slice none 0 0,.slice none 0 0] 27)).heap[w.heap.size+1]? = some (.cells #[.int .i64 g] 3)):=⟨m2,b0,hz,m1⟩
 clear h m0 m1 m2 hz b0 hE
 go_enter Tryz.func48,Tryz.ntmps48
 go_wp2_with (go_at_call 38;refine hchk.mono ?_;rintro e w1 ⟨rfl,b1⟩;have k3:=cells_below HM.out.1 b1 (by rw [HM.out.2.2.1];omega);obtain⟨z0,z1,z2,z3,z4⟩:=five k3;have y0:=cells_frozen k3 0;have y1:=cells_frozen k3 1;have y2:=cells_frozen k3 2;have y3:=cells_frozen k3 3;have y4:=cells_frozen k3 4;have cn:=one (cells_below HM.out.2.2.2 b1 (by rw [HM.out.2.2.1];omega));have HB:Hid (Below w.heap.size w w1):=Below.on HM.out.2.1 b1;clear b1 k3)
 have i1:w.heap.size≤w.heap.size+1+1:=by omega
 refine bodyPost_ret (v:=.tuple #[.agg #[.int .i64 0,.slice none 0 0,.slice none 0 0,.slice none 0 0,.slice none 0 0],.int .i64 3]) (by simp [results,Tryz.results48,go_sem,z0,z1,z2,z3,z4]) rfl (AnsI.bad 3 (((((HB.out.setCell i1 _).setCell i1 _).setCell i1 _).setCell i1 _).setCell i1 _))
set_option maxHeartbeats 4000000 in
theorem resize_far_at (m:ImgD)(ra:Option Addr)(rn rc:Nat)(sa:Option Addr)(sn sc:Nat)(fa:Option Addr)(fn fc:Nat)(na:Option Addr)(nn nc:Nat)(g:Int)(w:World)(h:Img w (.agg #[.int .i64 m.guest,.slice ra rn rc,.slice sa sn sc,.slice fa fn fc,.slice na nn nc]) m)(hE:checkE m=0)(hg:16<g) :
  Calls Tryz.prog 48 #[.agg #[.int .i64 m.guest,.slice ra rn rc,.slice sa sn sc,.slice fa fn fc,.slice na nn nc],.int .i64 g] w (AnsI w w.heap.size imgZ 3):=by
 have b0:Below w.heap.size w (((w.alloc (.cells #[.int .i64 m.guest,.slice ra rn rc,.slice sa sn sc,.slice fa fn fc,.slice na nn nc] 27)).alloc (.cells #[.int .i64 g] 3)).alloc (.cells #[.int .i64 0,.slice none 0 0,.slice none 0 0,.slice none 0 0,.slice none 0 0] 27)):=(((Below.refl _ _).alloc (by simp;try omega) _).alloc (by simp;try omega) _).alloc (by simp;try omega) _
 have q0:(w.alloc (.cells #[.int .i64 m.guest,.slice ra rn rc,.slice sa sn sc,.slice fa fn fc,.slice na nn nc] 27)).heap[w.heap.size]? = some (.cells #[.int .i64 m.guest,.slice ra rn rc,.slice sa sn sc,.slice fa fn fc,.slice na nn nc] 27):=by have:=World.alloc_heap_new w (.cells #[.int .i64 m.guest,.slice ra rn rc,.slice sa sn sc,.slice fa fn fc,.slice na nn nc] 27);simpa using this
 have m0:(((w.alloc (.cells #[.int .i64 m.guest,.slice ra rn rc,.slice sa sn sc,.slice fa fn fc,.slice na nn nc] 27)).alloc (.cells #[.int .i64 g] 3)).alloc (.cells #[.int .i64 0,.slice none 0 0,.slice none 0 0,.slice none 0 0,.slice none 0 0] 27)).heap[w.heap.size]? = some (.cells #[.int .i64 m.guest,.slice ra rn rc,.slice sa sn sc,.slice fa fn fc,.slice na nn nc] 27):=(cells_alloc (cells_alloc q0 _) _)
 have q1:((w.alloc (.cells #[.int .i64 m.guest,.slice ra rn rc,.slice sa sn sc,.slice fa fn fc,.slice na nn nc] 27)).alloc (.cells #[.int .i64 g] 3)).heap[w.heap.size+1]? = some (.cells #[.int .i64 g] 3):=by have:=World.alloc_heap_new (w.alloc (.cells #[.int .i64 m.guest,.slice ra rn rc,.slice sa sn sc,.slice fa fn fc,.slice na nn nc] 27)) (.cells #[.int .i64 g] 3);simpa using this
 have m1:(((w.alloc (.cells #[.int .i64 m.guest,.slice ra rn rc,.slice sa sn sc,.slice fa fn fc,.slice na nn nc] 27)).alloc (.cells #[.int .i64 g] 3)).alloc (.cells #[.int .i64 0,.slice none 0 0,.slice none 0 0,.slice none 0 0,.slice none 0 0] 27)).heap[w.heap.size+1]? = some (.cells #[.int .i64 g] 3):=(cells_alloc q1 _)
 have q2:(((w.alloc (.cells #[.int .i64 m.guest,.slice ra rn rc,.slice sa sn sc,.slice fa fn fc,.slice na nn nc] 27)).alloc (.cells #[.int .i64 g] 3)).alloc (.cells #[.int .i64 0,.slice none 0 0,.slice none 0 0,.slice none 0 0,.slice none 0 0] 27)).heap[w.heap.size+1+1]? = some (.cells #[.int .i64 0,.slice none 0 0,.slice none 0 0,.slice none 0 0,.slice none 0 0] 27):=by have:=World.alloc_heap_new ((w.alloc (.cells #[.int .i64 m.guest,.slice ra rn rc,.slice sa sn sc,.slice fa fn fc,.slice na nn nc] 27)).alloc (.cells #[.int .i64 g] 3)) (.cells #[.int .i64 0,.slice none 0 0,.slice none 0 0,.slice none 0 0,.slice none 0 0] 27);simpa using this
 have m2:(((w.alloc (.cells #[.int .i64 m.guest,.slice ra rn rc,.slice sa sn sc,.slice fa fn fc,.slice na nn nc] 27)).alloc (.cells #[.int .i64 g] 3)).alloc (.cells #[.int .i64 0,.slice none 0 0,.slice none 0 0,.slice none 0 0,.slice none 0 0] 27)).heap[w.heap.size+1+1]? = some (.cells #[.int .i64 0,.slice none 0 0,.slice none 0 0,.slice none 0 0,.slice none 0 0] 27):=q2
 have hz:(((w.alloc (.cells #[.int .i64 m.guest,.slice ra rn rc,.slice sa sn sc,.slice fa fn fc,.slice na nn nc] 27)).alloc (.cells #[.int .i64 g] 3)).alloc (.cells #[.int .i64 0,.slice none 0 0,.slice none 0 0,.slice none 0 0,.slice none 0 0] 27)).heap.size=w.heap.size+1+1+1:=by simp
 clear q0 q1 q2
 have g1:decide (g<0)=false:=by simp;omega
 have g2:¬g<0:=by omega
 have g3:decide (16<g)=true:=by simp [hg]
 have hchk:=tcheck_is (h.below b0) hE
 obtain⟨c0,c1,c2,c3,c4⟩:=five m0
 have HM:Hid ((((w.alloc (.cells #[.int .i64 m.guest,.slice ra rn rc,.slice sa sn sc,.slice fa fn fc,.slice na nn nc] 27)).alloc (.cells #[.int .i64 g] 3)).alloc (.cells #[.int .i64 0,.slice none 0 0,.slice none 0 0,.slice none 0 0,.slice none 0 0] 27)).heap[w.heap.size+1+1]? = some (.cells #[.int .i64 0,.slice none 0 0,.slice none 0 0,.slice none 0 0,.slice none 0 0] 27)∧Below w.heap.size w (((w.alloc (.cells #[.int .i64 m.guest,.slice ra rn rc,.slice sa sn sc,.slice fa fn fc,.slice na nn nc] 27)).alloc (.cells #[.int .i64 g] 3)).alloc (.cells #[.int .i64 0,.slice none 0 0,.slice none 0 0,.slice none 0 0,.slice none 0 0] 27))∧(((w.alloc (.cells #[.int .i64 m.guest,.slice ra rn rc,.slice sa sn sc,.slice fa fn fc,.slice na nn nc] 27)).alloc (.cells #[.int .i64 g] 3)).alloc (.cells #[.int .i64 0,.slice none 0 0,.slice none 0 0,.slice none 0 0,.slice none 0 0] 27)).heap.size=w.heap.size+1+1+1∧(((w.alloc (.cells #[.int .i64 m.guest,.slice ra rn rc,.slice sa sn sc,.slice fa fn fc,.slice na nn nc] 27)).alloc (.cells #[.int .i64 g] 3)).alloc (.cells #[.int .i64 0,.slice none 0 0,.slice none 0 0,.slice none 0 0,.slice none 0 0] 27)).heap[w.heap.size+1]? = some (.cells #[.int .i64 g] 3)):=⟨m2,b0,hz,m1⟩
 clear h m0 m1 m2 hz b0 hE
 go_enter Tryz.func48,Tryz.ntmps48
 go_wp2_with (go_at_call 38;refine hchk.mono ?_;rintro e w1 ⟨rfl,b1⟩;have k3:=cells_below HM.out.1 b1 (by rw [HM.out.2.2.1];omega);obtain⟨z0,z1,z2,z3,z4⟩:=five k3;have y0:=cells_frozen k3 0;have y1:=cells_frozen k3 1;have y2:=cells_frozen k3 2;have y3:=cells_frozen k3 3;have y4:=cells_frozen k3 4;have cn:=one (cells_below HM.out.2.2.2 b1 (by rw [HM.out.2.2.1];omega));have HB:Hid (Below w.heap.size w w1):=Below.on HM.out.2.1 b1;clear b1 k3)
 have i1:w.heap.size≤w.heap.size+1+1:=by omega
 refine bodyPost_ret (v:=.tuple #[.agg #[.int .i64 0,.slice none 0 0,.slice none 0 0,.slice none 0 0,.slice none 0 0],.int .i64 3]) (by simp [results,Tryz.results48,go_sem,z0,z1,z2,z3,z4]) rfl (AnsI.bad 3 (((((HB.out.setCell i1 _).setCell i1 _).setCell i1 _).setCell i1 _).setCell i1 _))
set_option maxHeartbeats 4000000 in
theorem resize_ok_at (m:ImgD)(ra:Option Addr)(rn rc:Nat)(sa:Option Addr)(sn sc:Nat)(fa:Option Addr)(fn fc:Nat)(na:Option Addr)(nn nc:Nat)(g:Nat)(w:World)(h:Img w (.agg #[.int .i64 m.guest,.slice ra rn rc,.slice sa sn sc,.slice fa fn fc,.slice na nn nc]) m)(hF:Fits m)(hE:checkE m=0)(h16:g≤16)(M:ImgD)(hM:ofM (rzP m g)=M)(er:Int)(her:ofE (rzP m g)=er) :
  Calls Tryz.prog 48 #[.agg #[.int .i64 m.guest,.slice ra rn rc,.slice sa sn sc,.slice fa fn fc,.slice na nn nc],.int .i64 (g:Int)] w (AnsI w w.heap.size M er):=by
 have b0:Below w.heap.size w (((w.alloc (.cells #[.int .i64 m.guest,.slice ra rn rc,.slice sa sn sc,.slice fa fn fc,.slice na nn nc] 27)).alloc (.cells #[.int .i64 (g:Int)] 3)).alloc (.cells #[.int .i64 0,.slice none 0 0,.slice none 0 0,.slice none 0 0,.slice none 0 0] 27)):=(((Below.refl _ _).alloc (by simp;try omega) _).alloc (by simp;try omega) _).alloc (by simp;try omega) _
 have q0:(w.alloc (.cells #[.int .i64 m.guest,.slice ra rn rc,.slice sa sn sc,.slice fa fn fc,.slice na nn nc] 27)).heap[w.heap.size]? = some (.cells #[.int .i64 m.guest,.slice ra rn rc,.slice sa sn sc,.slice fa fn fc,.slice na nn nc] 27):=by have:=World.alloc_heap_new w (.cells #[.int .i64 m.guest,.slice ra rn rc,.slice sa sn sc,.slice fa fn fc,.slice na nn nc] 27);simpa using this
 have m0:(((w.alloc (.cells #[.int .i64 m.guest,.slice ra rn rc,.slice sa sn sc,.slice fa fn fc,.slice na nn nc] 27)).alloc (.cells #[.int .i64 (g:Int)] 3)).alloc (.cells #[.int .i64 0,.slice none 0 0,.slice none 0 0,.slice none 0 0,.slice none 0 0] 27)).heap[w.heap.size]? = some (.cells #[.int .i64 m.guest,.slice ra rn rc,.slice sa sn sc,.slice fa fn fc,.slice na nn nc] 27):=(cells_alloc (cells_alloc q0 _) _)
 have q1:((w.alloc (.cells #[.int .i64 m.guest,.slice ra rn rc,.slice sa sn sc,.slice fa fn fc,.slice na nn nc] 27)).alloc (.cells #[.int .i64 (g:Int)] 3)).heap[w.heap.size+1]? = some (.cells #[.int .i64 (g:Int)] 3):=by have:=World.alloc_heap_new (w.alloc (.cells #[.int .i64 m.guest,.slice ra rn rc,.slice sa sn sc,.slice fa fn fc,.slice na nn nc] 27)) (.cells #[.int .i64 (g:Int)] 3);simpa using this
 have m1:(((w.alloc (.cells #[.int .i64 m.guest,.slice ra rn rc,.slice sa sn sc,.slice fa fn fc,.slice na nn nc] 27)).alloc (.cells #[.int .i64 (g:Int)] 3)).alloc (.cells #[.int .i64 0,.slice none 0 0,.slice none 0 0,.slice none 0 0,.slice none 0 0] 27)).heap[w.heap.size+1]? = some (.cells #[.int .i64 (g:Int)] 3):=(cells_alloc q1 _)
 have q2:(((w.alloc (.cells #[.int .i64 m.guest,.slice ra rn rc,.slice sa sn sc,.slice fa fn fc,.slice na nn nc] 27)).alloc (.cells #[.int .i64 (g:Int)] 3)).alloc (.cells #[.int .i64 0,.slice none 0 0,.slice none 0 0,.slice none 0 0,.slice none 0 0] 27)).heap[w.heap.size+1+1]? = some (.cells #[.int .i64 0,.slice none 0 0,.slice none 0 0,.slice none 0 0,.slice none 0 0] 27):=by have:=World.alloc_heap_new ((w.alloc (.cells #[.int .i64 m.guest,.slice ra rn rc,.slice sa sn sc,.slice fa fn fc,.slice na nn nc] 27)).alloc (.cells #[.int .i64 (g:Int)] 3)) (.cells #[.int .i64 0,.slice none 0 0,.slice none 0 0,.slice none 0 0,.slice none 0 0] 27);simpa using this
 have m2:(((w.alloc (.cells #[.int .i64 m.guest,.slice ra rn rc,.slice sa sn sc,.slice fa fn fc,.slice na nn nc] 27)).alloc (.cells #[.int .i64 (g:Int)] 3)).alloc (.cells #[.int .i64 0,.slice none 0 0,.slice none 0 0,.slice none 0 0,.slice none 0 0] 27)).heap[w.heap.size+1+1]? = some (.cells #[.int .i64 0,.slice none 0 0,.slice none 0 0,.slice none 0 0,.slice none 0 0] 27):=q2
 have hz:(((w.alloc (.cells #[.int .i64 m.guest,.slice ra rn rc,.slice sa sn sc,.slice fa fn fc,.slice na nn nc] 27)).alloc (.cells #[.int .i64 (g:Int)] 3)).alloc (.cells #[.int .i64 0,.slice none 0 0,.slice none 0 0,.slice none 0 0,.slice none 0 0] 27)).heap.size=w.heap.size+1+1+1:=by simp
 clear q0 q1 q2
 have hs:=checkE_shape hE
 have hchk:=tcheck_is (h.below b0) hE
 obtain⟨c0,c1,c2,c3,c4⟩:=five m0
 have g1:decide ((g:Int)<0)=false:=by simp
 have g3:decide ((16:Int)<(g:Int))=false:=by simp;omega
 have g4:¬(16:Int)<(g:Int):=by omega
 have HO:Hid (∀w1,Below (((w.alloc (.cells #[.int .i64 m.guest,.slice ra rn rc,.slice sa sn sc,.slice fa fn fc,.slice na nn nc] 27)).alloc (.cells #[.int .i64 (g:Int)] 3)).alloc (.cells #[.int .i64 0,.slice none 0 0,.slice none 0 0,.slice none 0 0,.slice none 0 0] 27)).heap.size (((w.alloc (.cells #[.int .i64 m.guest,.slice ra rn rc,.slice sa sn sc,.slice fa fn fc,.slice na nn nc] 27)).alloc (.cells #[.int .i64 (g:Int)] 3)).alloc (.cells #[.int .i64 0,.slice none 0 0,.slice none 0 0,.slice none 0 0,.slice none 0 0] 27)) w1→Calls Tryz.prog 39 #[.agg #[.int .i64 m.guest,.slice ra rn rc,.slice sa sn sc,.slice fa fn fc,.slice na nn nc],.func (.func 82) #[] #[.pointer (some ⟨w.heap.size+1,0,none⟩)]] w1 (AnsI w1 w1.heap.size M er)):=fun w1 b1=>by
  have hsz:w.heap.size+1+1+1≤w1.heap.size:=(by have:=b1.size;rw [hz] at this;exact this)
  rw [←hM,← her]
  exact of_is (h.below (Below.on b0 b1)) hF (enters_of Tryz.func82 (by kernel_rfl) rfl) (rz_turn (one (cells_below m1 b1 (by rw [hz];omega))) (by omega) h16 hs)
 have HM:Hid ((((w.alloc (.cells #[.int .i64 m.guest,.slice ra rn rc,.slice sa sn sc,.slice fa fn fc,.slice na nn nc] 27)).alloc (.cells #[.int .i64 (g:Int)] 3)).alloc (.cells #[.int .i64 0,.slice none 0 0,.slice none 0 0,.slice none 0 0,.slice none 0 0] 27)).heap[w.heap.size]? = some (.cells #[.int .i64 m.guest,.slice ra rn rc,.slice sa sn sc,.slice fa fn fc,.slice na nn nc] 27)∧(((w.alloc (.cells #[.int .i64 m.guest,.slice ra rn rc,.slice sa sn sc,.slice fa fn fc,.slice na nn nc] 27)).alloc (.cells #[.int .i64 (g:Int)] 3)).alloc (.cells #[.int .i64 0,.slice none 0 0,.slice none 0 0,.slice none 0 0,.slice none 0 0] 27)).heap[w.heap.size+1+1]? = some (.cells #[.int .i64 0,.slice none 0 0,.slice none 0 0,.slice none 0 0,.slice none 0 0] 27)∧Below w.heap.size w (((w.alloc (.cells #[.int .i64 m.guest,.slice ra rn rc,.slice sa sn sc,.slice fa fn fc,.slice na nn nc] 27)).alloc (.cells #[.int .i64 (g:Int)] 3)).alloc (.cells #[.int .i64 0,.slice none 0 0,.slice none 0 0,.slice none 0 0,.slice none 0 0] 27))∧(((w.alloc (.cells #[.int .i64 m.guest,.slice ra rn rc,.slice sa sn sc,.slice fa fn fc,.slice na nn nc] 27)).alloc (.cells #[.int .i64 (g:Int)] 3)).alloc (.cells #[.int .i64 0,.slice none 0 0,.slice none 0 0,.slice none 0 0,.slice none 0 0] 27)).heap.size=w.heap.size+1+1+1∧(((w.alloc (.cells #[.int .i64 m.guest,.slice ra rn rc,.slice sa sn sc,.slice fa fn fc,.slice na nn nc] 27)).alloc (.cells #[.int .i64 (g:Int)] 3)).alloc (.cells #[.int .i64 0,.slice none 0 0,.slice none 0 0,.slice none 0 0,.slice none 0 0] 27)).heap[w.heap.size+1]? = some (.cells #[.int .i64 (g:Int)] 3)):=⟨m0,m2,b0,hz,m1⟩
 clear h m0 m1 m2 hz b0 hE hs hM her hF h16
 go_enter Tryz.func48,Tryz.ntmps48
 go_wp2_with (go_at_call 38;refine hchk.mono ?_;rintro e w1 ⟨rfl,b1⟩;have d0:=cells_below HM.out.1 b1 (by rw [HM.out.2.2.2.1];omega);obtain⟨d1,d2,d3,d4,d5⟩:=five d0;have cn:=one (cells_below HM.out.2.2.2.2 b1 (by rw [HM.out.2.2.2.1];omega));have hof:=HO.out w1 b1;have HV:Hid (Below w.heap.size w w1∧w1.heap[w.heap.size+1+1]? = some (.cells #[.int .i64 0,.slice none 0 0,.slice none 0 0,.slice none 0 0,.slice none 0 0] 27)∧w.heap.size+1+1<w1.heap.size):=(⟨Below.on HM.out.2.2.1 b1,cells_below HM.out.2.1 b1 (by rw [HM.out.2.2.2.1];omega),by have:=b1.size;rw [HM.out.2.2.2.1] at this;omega⟩);clear b1 d0)
 refine hof.mono ?_
 intro e w3 hA
 obtain⟨val,ga,gc,la,lc,oa,oc,ta,tc,rfl,hO,b1,hI⟩:=hA.open
 dsimp only
 have k3:=cells_below HV.out.2.1 b1 HV.out.2.2
 obtain⟨z0,z1,z2,z3,z4⟩:=five k3
 have y0:=cells_frozen k3 0
 have y1:=cells_frozen k3 1
 have y2:=cells_frozen k3 2
 have y3:=cells_frozen k3 3
 have y4:=cells_frozen k3 4
 have HP:Hid (OI w3 w1.heap.size val M):=hO
 have HB:Hid (Below w.heap.size w w3):=Below.on HV.out.1 b1
 have HI:Hid (imgV M.guest val=.agg #[.int .i64 M.guest,.slice ga M.root.length gc,.slice la M.slots.length lc,.slice oa M.refs.length oc,.slice ta M.snaps.length tc]):=hI
 clear hO b1 hI hof hA
 go_wp2_with fail
 have i1:w.heap.size≤w.heap.size+1+1:=by omega
 have hf1:∀a,Live M a→(val a).ownBlock≠some (w.heap.size+1+1):=fun a ha e=>by have:=((HP.out.row a ha).lt _ e).1;have:=HV.out.2.2;omega
 refine bodyPost_ret (v:=.tuple #[.agg #[.int .i64 M.guest,.slice ga M.root.length gc,.slice la M.slots.length lc,.slice oa M.refs.length oc,.slice ta M.snaps.length tc],.int .i64 er]) (by simp [results,Tryz.results48,go_sem,z0,z1,z2,z3,z4]) rfl ⟨val,by rw [HI.out],OI.mono (((((HP.out.far hf1).far hf1).far hf1).far hf1).far hf1) (by have:=HV.out.2.2;omega),((((HB.out.setCell i1 _).setCell i1 _).setCell i1 _).setCell i1 _).setCell i1 _⟩
def rzE (m:ImgD) (g:Int):Int:=if checkE m≠0 then checkE m else if 0≤g∧g≤16 then errO (resizeD m g.toNat) else 3
def rzM (m:ImgD) (g:Int):ImgD:=if checkE m≠0 then imgZ else if 0≤g∧g≤16 then (resizeD m g.toNat).getD imgZ else imgZ
theorem resize_is {w:World}{v:Value}{m:ImgD}(h:Img w v m)(g:Int) :
  Calls Tryz.prog 48 #[v,.int .i64 g] w (AnsI w w.heap.size (rzM m g) (rzE m g)):=by
 have h':=h
 obtain⟨ra,rc,sa,sc,fa,fc,na,nc,rfl,_⟩:=h.parts
 unfold rzM rzE
 by_cases hl:checkE m=0
 ·have hl0:¬checkE m≠0:=fun x=>x hl
  rw [if_neg hl0,if_neg hl0]
  by_cases hg:0≤g∧g≤16
  ·rw [if_pos hg,if_pos hg]
   obtain⟨j,rfl⟩:=Int.eq_ofNat_of_zero_le hg.1
   rw [Int.toNat_natCast]
   have h16:j≤16:=by omega
   have hM:=rzP_meets hl h16
   exact resize_ok_at m ra _ rc sa _ sc fa _ fc na _ nc j w h' (fits_of_shape (checkE_shape hl)) hl h16 _ hM.m _ hM.e
  ·rw [if_neg hg,if_neg hg]
   by_cases h0:g<0
   ·exact resize_neg_at m ra _ rc sa _ sc fa _ fc na _ nc g w h' hl h0
   ·exact resize_far_at m ra _ rc sa _ sc fa _ fc na _ nc g w h' hl (by omega)
 ·rw [if_pos hl,if_pos hl]
  exact resize_bad_at m ra _ rc sa _ sc fa _ fc na _ nc g _ w h' rfl (by simp [hl])
theorem write_to {w:World}{v:Value}{m:ImgD}(h:Img w v m)(n:Int)(page:ByteArray){M:ImgD}{E:Int}(hM:wrM m n page=M)(hE:wrE m n page=E) :
  Calls Tryz.prog 31 #[v,.int .i64 n,.string page] w (AnsI w w.heap.size M E):=by
 subst hM hE;exact write_is h n page
theorem resize_to {w:World}{v:Value}{m:ImgD}(h:Img w v m)(g:Int){M:ImgD}{E:Int}(hM:rzM m g=M)(hE:rzE m g=E) :
  Calls Tryz.prog 48 #[v,.int .i64 g] w (AnsI w w.heap.size M E):=by
 subst hM hE;exact resize_is h g
theorem errO_zero {o:Option ImgD}(h:errO o=0):∃M,o=some M:=by
 cases o with
 | none=>exact absurd h (by decide)
 | some M=>exact⟨M,rfl⟩
theorem wr_ok {m:ImgD}{n:Int}{page:ByteArray}(he:wrE m n page=0):lookE m n=0∧page.size=4∧writeD m n.toNat page=some (wrM m n page)∧Wrote m (wrM m n page) n.toNat page 2:=by
 unfold wrE at he
 by_cases hl:lookE m n=0
 ·rw [if_neg (by simpa using hl)] at he
  by_cases hp:page.size=4
  ·rw [if_pos hp] at he
   obtain⟨M,hM⟩:=errO_zero he
   have e:wrM m n page=M:=by unfold wrM;rw [if_neg (by simpa using hl),if_pos hp,hM];rfl
   obtain⟨hC,h0,hn⟩:=lookE_prt hl
   rw [e]
   exact⟨hl,hp,hM,wrote_write hC (by omega) hp hM⟩
  ·rw [if_neg hp] at he;exact absurd he (by decide)
 ·rw [if_pos hl] at he;exact absurd he hl
theorem checkImage_bad (gm:Int)(ra:Option Addr)(rn rc:Nat)(sa:Option Addr)(sn sc:Nat)(fa:Option Addr)(fn fc:Nat)(na:Option Addr)(nn nc:Nat)(m:ImgD)(E:Int)(w:World)(h:Img w (.agg #[.int .i64 gm,.slice ra rn rc,.slice sa sn sc,.slice fa fn fc,.slice na nn nc]) m)(hE:shapeE m=E)(hne:(E != 0)=true) :
  Calls Tryz.prog 18 #[.agg #[.int .i64 gm,.slice ra rn rc,.slice sa sn sc,.slice fa fn fc,.slice na nn nc]] w fun r w'=>r=.returned (.int .i64 E)∧Below w.heap.size w w':=by
 have b0:Below w.heap.size w (w.alloc (.cells #[.int .i64 gm,.slice ra rn rc,.slice sa sn sc,.slice fa fn fc,.slice na nn nc] 27)):=(Below.refl _ _).alloc (Nat.le_refl _) _
 have hcall:=shapeOf_is (h.below b0) hE
 clear h hE
 go_enter Tryz.func18,Tryz.ntmps18
 go_wp2_with (go_at_call 45;refine hcall.mono ?_;rintro e w1 ⟨rfl,b1⟩)
 go_ret
 exact⟨rfl,Below.on b0 b1⟩
set_option linter.unusedSimpArgs false in
set_option maxHeartbeats 4000000 in
theorem checkImage_at (gm:Int)(ra:Option Addr)(rn rc:Nat)(sb so:Nat)(sn sc:Nat)(fa:Option Addr)(fn fc:Nat)(na:Option Addr)(nn nc:Nat)(m:ImgD)(E:Int)(w:World)(h:Img w (.agg #[.int .i64 gm,.slice ra rn rc,.slice (some ⟨sb,so,none⟩) sn sc,.slice fa fn fc,.slice na nn nc]) m)(hsn:m.slots.length=sn)(hsb:sb<w.heap.size)(hcl:∀j,(h:j<m.slots.length)→SlAt w sb (so+j*3) m.slots[j])(hf:Sl w (.slice fa fn fc) m.refs)(hfn:fn=sn)
  (h0:shapeE m=0) (hE:checkE m=E) :
  Calls Tryz.prog 18 #[.agg #[.int .i64 gm,.slice ra rn rc,.slice (some ⟨sb,so,none⟩) sn sc,.slice fa fn fc,.slice na nn nc]] w fun r w'=>r=.returned (.int .i64 E)∧Below w.heap.size w w':=by
 have b0:Below w.heap.size w (w.alloc (.cells #[.int .i64 gm,.slice ra rn rc,.slice (some ⟨sb,so,none⟩) sn sc,.slice fa fn fc,.slice na nn nc] 27)):=(Below.refl _ _).alloc (Nat.le_refl _) _
 have m0:(w.alloc (.cells #[.int .i64 gm,.slice ra rn rc,.slice (some ⟨sb,so,none⟩) sn sc,.slice fa fn fc,.slice na nn nc] 27)).heap[w.heap.size]? = some (.cells #[.int .i64 gm,.slice ra rn rc,.slice (some ⟨sb,so,none⟩) sn sc,.slice fa fn fc,.slice na nn nc] 27):=World.alloc_heap_new _ _
 have h40:sn≤40:=by rw [←hsn];exact (slotsE_parts (shapeE_zero h0).2.1).2
 have hrl:m.refs.length=sn:=by rw [(shapeE_zero h0).2.2.1,hsn]
 have HE:Hid (E=if cntL m≠m.refs then 9 else if (List.range m.slots.length).all (freeAt m)=true then 0 else 9):=by
  show _=_
  rw [←hE];unfold checkE;rw [if_neg (by simpa using h0)]
 have FB:Hid (∀n,n<sn→(m.refs.getD n 0≠(cntL m).getD n 0∨freeAt m n=false)→E=9):=fun n hn hor=>by
  rw [HE.out]
  by_cases hq:cntL m≠m.refs
  ·rw [if_pos hq]
  ·rw [if_neg hq,if_neg]
   intro e
   rcases hor with hh | hh
   ·exact hh (by rw [Classical.not_not.1 hq])
   ·have:=List.all_eq_true.1 e n (by rw [hsn];simpa using hn)
    rw [hh] at this;cases this
 have FG:Hid ((∀n,n<sn→m.refs.getD n 0=(cntL m).getD n 0∧freeAt m n=true)→E=0):=fun hall=>by
  rw [HE.out,if_neg,if_pos]
  ·rw [List.all_eq_true];intro j hj;exact (hall j (by rw [←hsn];simpa using hj)).2
  ·rw [Classical.not_not]
   apply List.ext_getElem
   ·rw [cntL_length,hrl,hsn]
   ·intro j h1 h2
    have:=(hall j (by rw [←hrl];exact h2)).1
    simpa [List.getD,h1,h2] using this.symm
 have hcall:=shapeOf_is (h.below b0) h0
 have hcnt:=fun W (hW:Below w.heap.size w W)=>countsOf_is (h.below hW) h0
 rw [hsn] at hcnt
 have H1:Hid (m.slots.length=sn):=hsn
 have H2:Hid (∀j,(h:j<m.slots.length)→SlAt w sb (so+j*3) m.slots[j]):=hcl
 have H3:Hid (Sl w (.slice fa fn fc) m.refs):=hf
 subst hfn
 have H4:Hid (m.refs.length=fn):=hrl
 clear HE hsn hcl hf hrl h h0 hE
 go_enter Tryz.func18,Tryz.ntmps18
 go_wp2_with fail
 refine hcall.mono ?_
 rintro e w1 ⟨rfl,b1⟩
 have m1:=cells_below m0 b1 (by simp)
 obtain⟨c0,c1,c2,c3,c4⟩:=five m1
 have hb1:=Below.on b0 b1
 have hcnt:=hcnt w1 hb1
 clear hcall
 go_wp2_with fail
 refine hcnt.mono ?_
 rintro e w2 ⟨⟨rfl,hL⟩,b2⟩
 have m2:=cells_below m1 b2 (szH m1)
 clear c0 c1 c2 c3 c4 hcnt
 obtain⟨c0,c1,c2,c3,c4⟩:=five m2
 have hbw:=Below.on hb1 b2
 obtain⟨g,hg⟩:∃g,w1.heap.size+1=g:=⟨_,rfl⟩
 rw [hg] at hL ⊢
 clear hg
 go_wp2_with fail
 go_loopw [5] (fun i wq=>∃k:Nat,k≤fn∧i=.int .i64 k∧Hid (∀j,j<k→m.refs.getD j 0=(cntL m).getD j 0∧freeAt m j=true)∧(Hid (∀a,wq.cell? a=w2.cell? a)∧Below w.heap.size w wq)) (fun i _=>fn - (intOf i).toNat)
 case atStart=>exact⟨0,Nat.zero_le _,rfl,fun j hj=>absurd hj (by omega),fun _=>rfl,hbw⟩
 case round=>
  obtain⟨k,hk,rfl,HA,hsame,hbr⟩:=hrel
  have c0:=(hsame.out _).trans c0
  have c1:=(hsame.out _).trans c1
  have c2:=(hsame.out _).trans c2
  have c3:=(hsame.out _).trans c3
  have c4:=(hsame.out _).trans c4
  by_cases hlk:k<fn
  ·have hki:(k:Int)<(fn:Int):=by omega
   have hkm:k<m.slots.length:=by rw [H1.out];exact hlk
   obtain⟨tv,s1,_⟩:=H2.out k hkm
   have ekd:m.slots[k].1=kd m.slots k:=by unfold kd;simp [List.getD,hkm]
   rw [ekd] at s1
   have s1:=(hbr.cell (p:=⟨sb,so+k*3,none⟩) hsb).trans s1
   obtain⟨b,off,rfl,hlt,hcf⟩:=H3.out.cells.2.2.2 k hlk
   have hcf:=(hbr.cell (p:=⟨b,off+k,none⟩) hlt).trans hcf
   have hcc:=(hsame.out _).trans (hL.cell (by rw [cntL_length,H1.out];exact hlk))
   obtain⟨x,hx⟩:∃x,m.refs.getD k 0=x:=⟨_,rfl⟩
   obtain⟨y,hy⟩:∃y,(cntL m).getD k 0=y:=⟨_,rfl⟩
   obtain⟨z,hz⟩:∃z,kd m.slots k=z:=⟨_,rfl⟩
   have HF:Hid (freeAt m k=((z == 0) == (y == 0))):=by
    show _=_
    unfold freeAt
    rw [hy,← hz];rfl
   rw [hx] at hcf
   rw [hy] at hcc
   rw [hz] at s1
   have HXY:Hid (m.refs.getD k 0=x∧(cntL m).getD k 0=y):=⟨hx,hy⟩
   clear hx hy hz ekd
   by_cases hxy:x=y
   ·have hxyb:(x != y)=false:=by simp [hxy]
    have HE2:Hid (x=y):=hxy
    clear hxy
    cases hy0:y == 0 with
    | true=>
     cases hz0:z == 0 with
     | true=>
      go_wp2_with fail
      go_quiet (fail)
      go_wp2_with fail
      go_roundw
      case rel=>exact⟨k+1,by omega,by go_num,fun j hj=>by
       by_cases e:j=k
       ·subst e;exact⟨by rw [HXY.out.1,HXY.out.2,HE2.out],by rw [HF.out,hz0,hy0];rfl⟩
       ·exact HA.out j (by omega),fun a=>hsame.out a,⟨hbr.os,hbr.tape,hbr.output,hbr.size,hbr.block⟩⟩
      case measure=>simp [intOf];omega
     | false=>
      have HB:Hid (E=9):=FB.out k hlk (.inr (by rw [HF.out,hz0,hy0];rfl))
      go_wp2_with fail
      go_quiet (fail)
      go_wp2_with fail
      go_ret
      exact⟨ret_int HB.out.symm,⟨hbr.os,hbr.tape,hbr.output,hbr.size,hbr.block⟩⟩
    | false=>
     cases hz0:z == 0 with
     | true=>
      have HB:Hid (E=9):=FB.out k hlk (.inr (by rw [HF.out,hz0,hy0];rfl))
      go_wp2_with fail
      go_quiet (fail)
      go_wp2_with fail
      go_ret
      exact⟨ret_int HB.out.symm,⟨hbr.os,hbr.tape,hbr.output,hbr.size,hbr.block⟩⟩
     | false=>
      go_wp2_with fail
      go_quiet (fail)
      go_wp2_with fail
      go_roundw
      case rel=>exact⟨k+1,by omega,by go_num,fun j hj=>by
       by_cases e:j=k
       ·subst e;exact⟨by rw [HXY.out.1,HXY.out.2,HE2.out],by rw [HF.out,hz0,hy0];rfl⟩
       ·exact HA.out j (by omega),fun a=>hsame.out a,⟨hbr.os,hbr.tape,hbr.output,hbr.size,hbr.block⟩⟩
      case measure=>simp [intOf];omega
   ·have hxyb:(x != y)=true:=by simp [hxy]
    have HB:Hid (E=9):=FB.out k hlk (.inl (by rw [HXY.out.1,HXY.out.2];exact hxy))
    clear hxy
    go_wp2_with fail
    go_quiet (fail)
    go_wp2_with fail
    go_ret
    exact⟨ret_int HB.out.symm,⟨hbr.os,hbr.tape,hbr.output,hbr.size,hbr.block⟩⟩
  ·have HB:Hid (E=0):=FG.out (fun n hn=>HA.out n (by omega))
   have e5:k=fn:=by omega
   subst e5
   go_wp2_with fail
   go_ret
   exact⟨ret_int HB.out.symm,hbr⟩
theorem checkImage_is {w:World}{v:Value}{m:ImgD}(h:Img w v m){E:Int}(hE:checkE m=E) :
  Calls Tryz.prog 18 #[v] w fun r w'=>r=.returned (.int .i64 E)∧Below w.heap.size w w':=by
 have h':=h
 obtain⟨ra,rc,sa,sc,fa,fc,na,nc,rfl,h1,h2,h3,h4⟩:=h.parts
 by_cases h0:shapeE m=0
 ·obtain⟨z1,z2,z3,_⟩:=shapeE_zero h0
  obtain⟨sb,so,sc',e,hcp,hlt,hcell⟩:=h2.open (slotsE_parts z2).1
  simp at e
  obtain⟨rfl,rfl⟩:=e
  exact checkImage_at m.guest ra _ rc sb so _ sc fa _ fc na _ nc m E w h' rfl hlt hcell h3 z3 h0 hE
 ·have e:shapeE m=E:=by rw [←hE];unfold checkE;rw [if_pos h0]
  exact checkImage_bad m.guest ra _ rc sa _ sc fa _ fc na _ nc m E w h' e (by rw [←e];simpa using h0)
theorem lookR_hole (gm:Int)(ra:Option Addr)(rn rc:Nat)(sa:Option Addr)(sn sc:Nat)(fa:Option Addr)(fn fc:Nat)(na:Option Addr)(nn nc:Nat)(qb qo qn qc n:Nat)(w:World)(hn:n<16)(hqn:n / 4<qn)(hqb:qb<w.heap.size)(hc:w.cell? ⟨qb,qo+n / 4,none⟩=some (.int .i64 0)) :
  Calls Tryz.prog 84 #[.agg #[.int .i64 gm,.slice ra rn rc,.slice sa sn sc,.slice fa fn fc,.slice na nn nc],.slice (some ⟨qb,qo,none⟩) qn qc,.int .i64 n] w fun r w'=>r=.returned (.int .i64 0)∧Below w.heap.size w w':=by
 have b0:Below w.heap.size w (w.alloc (.cells #[.int .i64 gm,.slice ra rn rc,.slice sa sn sc,.slice fa fn fc,.slice na nn nc] 27)):=(Below.refl _ _).alloc (Nat.le_refl _) _
 have cr:=(b0.cell (p:=⟨qb,qo+n / 4,none⟩) hqb).trans hc
 have hq:((n:Int) / 4).toNat=n / 4:=by omega
 go_enter Tryz.func84,Tryz.ntmps84
 go_wp2_with fail
 go_ret
 exact⟨rfl,b0⟩
theorem lookR_tab (gm:Int)(ra:Option Addr)(rn rc:Nat)(sb so:Nat)(sn sc:Nat)(fa:Option Addr)(fn fc:Nat)(na:Option Addr)(nn nc:Nat)(qb qo qn qc n:Nat)(t:Nat)(x:Int)(w:World)(hn:n<16)(hqn:n / 4<qn)(hqb:qb<w.heap.size)(hc:w.cell? ⟨qb,qo+n / 4,none⟩=some (.int .i64 t))(ht:0<t)(hts:t<sn)(hsb:sb<w.heap.size)
  (tb tw tc:Nat) (hct:w.cell? ⟨sb,so+t*3+2,none⟩=some (.slice (some ⟨tb,tw,none⟩) 4 tc)) (htb:tb<w.heap.size) (hx:w.cell? ⟨tb,tw+n % 4,none⟩=some (.int .i64 x)) :
  Calls Tryz.prog 84 #[.agg #[.int .i64 gm,.slice ra rn rc,.slice (some ⟨sb,so,none⟩) sn sc,.slice fa fn fc,.slice na nn nc],.slice (some ⟨qb,qo,none⟩) qn qc,.int .i64 n] w fun r w'=>r=.returned (.int .i64 x)∧Below w.heap.size w w':=by
 have b0:Below w.heap.size w (w.alloc (.cells #[.int .i64 gm,.slice ra rn rc,.slice (some ⟨sb,so,none⟩) sn sc,.slice fa fn fc,.slice na nn nc] 27)):=(Below.refl _ _).alloc (Nat.le_refl _) _
 have cr:=(b0.cell (p:=⟨qb,qo+n / 4,none⟩) hqb).trans hc
 have ct:=(b0.cell (p:=⟨sb,so+t*3+2,none⟩) hsb).trans hct
 have cx:=(b0.cell (p:=⟨tb,tw+n % 4,none⟩) htb).trans hx
 have hq:((n:Int) / 4).toNat=n / 4:=by omega
 have hq2:((n:Int) % 4).toNat=n % 4:=by omega
 have hne:((t:Int) == 0)=false:=by simp;omega
 have h4:n % 4<4:=by omega
 go_enter Tryz.func84,Tryz.ntmps84
 go_wp2_with fail
 go_ret
 exact⟨rfl,b0⟩
theorem lookR_is {w:World}{v rv:Value}{m:ImgD}{root:List Int}(h:Img w v m)(hr:Sl w rv root)(hs:slotsE m.slots=0)(hall:root.all (rootE m.slots)=true)(n:Nat)(hn:n<16)(hl:n / 4<root.length){c:Int}(hc:lookV m root n=c) :
  Calls Tryz.prog 84 #[v,rv,.int .i64 n] w fun r w'=>r=.returned (.int .i64 c)∧Below w.heap.size w w':=by
 obtain⟨ra,rc,sa,sc,fa,fc,na,nc,rfl,h1,h2,h3,h4⟩:=h.parts
 have hE2:=all_at hall hl
 obtain⟨rb,ro,qc,rfl,_,hrb,hcell⟩:=hr.open (by omega)
 have hcr:=hcell (n / 4) hl
 unfold lookV at hc
 by_cases hz:root.getD (n / 4) 0=0
 ·rw [if_pos hz] at hc
  subst hc
  rw [hz] at hcr
  exact lookR_hole m.guest ra _ rc sa _ sc fa _ fc na _ nc rb ro _ qc n w hn hl hrb hcr
 ·rw [if_neg hz] at hc
  rw [rootE_x hz] at hE2
  obtain⟨t,ht,htl,hkd⟩:=isKd_yes hE2
  have hok:=okD_tab (slotsE_all hs htl) hkd
  obtain⟨sb,so,sc',e,_,hsb,hcl⟩:=h2.open (by omega)
  simp at e
  obtain⟨rfl,rfl⟩:=e
  obtain⟨tv,_,_,c3,hsl⟩:=hcl t htl
  obtain⟨tb,tw,tc,rfl,_,htb,htc⟩:=hsl.four hok.1
  rw [ht] at hcr hc hz
  have e4:tabOf m.slots (t:Int)=m.slots[t].2.2:=by unfold tabOf;simp [List.getD,htl]
  rw [e4] at hc
  have hx:=htc (n % 4) (by omega)
  rw [hc] at hx
  exact lookR_tab m.guest ra _ rc sb so _ sc fa _ fc na _ nc rb ro _ qc n t c w hn hl hrb hcr (by omega) htl hsb tb tw tc c3 htb hx
theorem lookErr_bad (gm:Int)(ra:Option Addr)(rn rc:Nat)(sa:Option Addr)(sn sc:Nat)(fa:Option Addr)(fn fc:Nat)(na:Option Addr)(nn nc:Nat)(m:ImgD)(E n:Int)(w:World)(h:Img w (.agg #[.int .i64 gm,.slice ra rn rc,.slice sa sn sc,.slice fa fn fc,.slice na nn nc]) m)(hE:checkE m=E)(hne:(E != 0)=true) :
  Calls Tryz.prog 63 #[.agg #[.int .i64 gm,.slice ra rn rc,.slice sa sn sc,.slice fa fn fc,.slice na nn nc],.int .i64 n] w fun r w'=>r=.returned (.int .i64 E)∧Below w.heap.size w w':=by
 have b0:Below w.heap.size w (w.alloc (.cells #[.int .i64 gm,.slice ra rn rc,.slice sa sn sc,.slice fa fn fc,.slice na nn nc] 27)):=(Below.refl _ _).alloc (Nat.le_refl _) _
 have hcall:=checkImage_is (h.below b0) hE
 clear h hE
 go_enter Tryz.func63,Tryz.ntmps63
 go_wp2_with (go_at_call 18;refine hcall.mono ?_;rintro e w1 ⟨rfl,b1⟩)
 go_ret
 exact⟨rfl,Below.on b0 b1⟩
theorem lookErr_at (gm:Nat)(ra:Option Addr)(rn rc:Nat)(sa:Option Addr)(sn sc:Nat)(fa:Option Addr)(fn fc:Nat)(na:Option Addr)(nn nc:Nat)(m:ImgD)(n:Int)(w:World)(h:Img w (.agg #[.int .i64 gm,.slice ra rn rc,.slice sa sn sc,.slice fa fn fc,.slice na nn nc]) m)(hE:checkE m=0)(hg:gm≤16){E:Int}(hr:(if 0≤n∧n<gm then 0 else 3)=E) :
  Calls Tryz.prog 63 #[.agg #[.int .i64 gm,.slice ra rn rc,.slice sa sn sc,.slice fa fn fc,.slice na nn nc],.int .i64 n] w fun r w'=>r=.returned (.int .i64 E)∧Below w.heap.size w w':=by
 have b0:Below w.heap.size w (w.alloc (.cells #[.int .i64 gm,.slice ra rn rc,.slice sa sn sc,.slice fa fn fc,.slice na nn nc] 27)):=(Below.refl _ _).alloc (Nat.le_refl _) _
 have m0:(w.alloc (.cells #[.int .i64 gm,.slice ra rn rc,.slice sa sn sc,.slice fa fn fc,.slice na nn nc] 27)).heap[w.heap.size]? = some (.cells #[.int .i64 gm,.slice ra rn rc,.slice sa sn sc,.slice fa fn fc,.slice na nn nc] 27):=World.alloc_heap_new _ _
 have hcall:=checkImage_is (h.below b0) hE
 obtain⟨B,hB⟩:∃B,decide ((0:Int)≤n∧n≤(gm:Int) - 1)=B:=⟨_,rfl⟩
 have HB:Hid (decide ((0:Int)≤n∧n≤(gm:Int) - 1)=B):=hB
 have HR:Hid (E=if B=true then 0 else 3):=by
  show _=_
  rw [←hr,← hB]
  by_cases hc:0≤n∧n<gm
  ·rw [if_pos hc,if_pos (decide_eq_true (by omega))]
  ·rw [if_neg hc,if_neg (by rw [decide_eq_false (by omega)];decide)]
 clear h hE hB hr
 cases B with
 | true=>
  go_enter Tryz.func63,Tryz.ntmps63
  go_wp2_with (first | (go_at_call 18;refine hcall.mono ?_;rintro e w1 ⟨rfl,b1⟩;have m1:=cells_below m0 b1 (by simp);obtain⟨c0,c1,c2,c3,c4⟩:=five m1) | (go_at_call 75;refine (within_any _ _ _ _).mono ?_;rintro e w' ⟨rfl,hw⟩;subst hw;rw [HB.out]))
  go_ret
  exact⟨by rw [HR.out];rfl,Below.on b0 b1⟩
 | false=>
  go_enter Tryz.func63,Tryz.ntmps63
  go_wp2_with (first | (go_at_call 18;refine hcall.mono ?_;rintro e w1 ⟨rfl,b1⟩;have m1:=cells_below m0 b1 (by simp);obtain⟨c0,c1,c2,c3,c4⟩:=five m1) | (go_at_call 75;refine (within_any _ _ _ _).mono ?_;rintro e w' ⟨rfl,hw⟩;subst hw;rw [HB.out]))
  go_ret
  exact⟨by rw [HR.out];rfl,Below.on b0 b1⟩
theorem lookErr_is {w:World}{v:Value}{m:ImgD}(h:Img w v m)(n:Int){E:Int}(hE:lookE m n=E) :
  Calls Tryz.prog 63 #[v,.int .i64 n] w fun r w'=>r=.returned (.int .i64 E)∧Below w.heap.size w w':=by
 have h':=h
 obtain⟨ra,rc,sa,sc,fa,fc,na,nc,rfl,h1,h2,h3,h4⟩:=h.parts
 unfold lookE at hE
 by_cases h0:checkE m=0
 ·rw [if_neg (by simpa using h0)] at hE
  have hg:=guest_ok (checkE_shape h0)
  obtain⟨k,hk⟩:∃k:Nat,m.guest=k:=⟨m.guest.toNat,by omega⟩
  rw [hk] at h' hE ⊢
  exact lookErr_at k ra _ rc sa _ sc fa _ fc na _ nc m n w h' h0 (by omega) hE
 ·rw [if_pos h0] at hE
  exact lookErr_bad m.guest ra _ rc sa _ sc fa _ fc na _ nc m E n w h' hE (by rw [←hE];simpa using h0)
theorem lookOf_at (gm:Int)(ra:Option Addr)(rn rc:Nat)(sa:Option Addr)(sn sc:Nat)(fa:Option Addr)(fn fc:Nat)(na:Option Addr)(nn nc:Nat)(m:ImgD)(n:Nat)(c:Int)(w:World)(h:Img w (.agg #[.int .i64 gm,.slice ra rn rc,.slice sa sn sc,.slice fa fn fc,.slice na nn nc]) m)(hr:Sl w (.slice ra rn rc) m.root)(hs:slotsE m.slots=0)(hall:m.root.all (rootE m.slots)=true)(hn:n<16)(hl:n / 4<m.root.length)(hc:lookV m m.root n=c) :
  Calls Tryz.prog 50 #[.agg #[.int .i64 gm,.slice ra rn rc,.slice sa sn sc,.slice fa fn fc,.slice na nn nc],.int .i64 n] w fun r w'=>r=.returned (.int .i64 c)∧Below w.heap.size w w':=by
 have b0:Below w.heap.size w (w.alloc (.cells #[.int .i64 gm,.slice ra rn rc,.slice sa sn sc,.slice fa fn fc,.slice na nn nc] 27)):=(Below.refl _ _).alloc (Nat.le_refl _) _
 have hcall:=lookR_is (h.below b0) (hr.below b0) hs hall n hn hl hc
 clear h hr hs hall hc hl
 go_enter Tryz.func50,Tryz.ntmps50
 go_wp2_with (go_at_call 84;refine hcall.mono ?_;rintro e w1 ⟨rfl,b1⟩)
 go_ret
 exact⟨rfl,Below.on b0 b1⟩
theorem lookOf_is {w:World}{v:Value}{m:ImgD}(h:Img w v m)(n:Int)(hE:lookE m n=0){c:Int}(hc:lookV m m.root n.toNat=c) :
  Calls Tryz.prog 50 #[v,.int .i64 n] w fun r w'=>r=.returned (.int .i64 c)∧Below w.heap.size w w':=by
 have h':=h
 obtain⟨ra,rc,sa,sc,fa,fc,na,nc,rfl,h1,h2,h3,h4⟩:=h.parts
 unfold lookE at hE
 split at hE
 ·rename_i h0;exact absurd hE h0
 rename_i h0
 have h0:checkE m=0:=Classical.not_not.1 h0
 split at hE
 ·rename_i hn
  have hsh:=checkE_shape h0
  have hg:=guest_ok hsh
  have hro:=root_ok hsh
  obtain⟨k,rfl⟩:∃k:Nat,n=k:=⟨n.toNat,by omega⟩
  rw [Int.toNat_natCast] at hc
  exact lookOf_at m.guest ra _ rc sa _ sc fa _ fc na _ nc m k c w h' h1 (shapeE_zero hsh).2.1 hro.2 (by omega) (by omega) hc
 ·simp at hE
def aaaa:ByteArray:=⟨#[97,97,97,97]⟩
def bbbb:ByteArray:=⟨#[98,98,98,98]⟩
def nOld:ByteArray:=⟨#[111,108,100]⟩
def pairD (g:Int) (R T:List Int):ImgD:=⟨g,[2,4],[(0,⟨#[]⟩,[]),(1,aaaa,[]),(2,⟨#[]⟩,[1,0,-1,1]),(1,bbbb,[]),(2,⟨#[]⟩,T)],R,[(nOld,4,[2])]⟩
structure PairW (n:Nat) (W:World) (R T:List Int):Prop where
 root:LAt W (n+1) [2,4]
 ta:LAt W (n+2) [1,0,-1,1]
 tb:LAt W (n+3) T
 slots:W.heap[n+4]? = some (.cells #[.int .i64 0,.string ⟨#[]⟩,.slice none 0 0,.int .i64 1,.string aaaa,.slice none 0 0,.int .i64 2,.string ⟨#[]⟩,.slice (some ⟨n+2,0,none⟩) 4 4,.int .i64 1,.string bbbb,.slice none 0 0,.int .i64 2,.string ⟨#[]⟩,.slice (some ⟨n+3,0,none⟩) 4 4] 61)
 refs:LAt W (n+5) R
 sroot:LAt W (n+6) [2]
 snaps:W.heap[n+7]? = some (.cells #[.string nOld,.int .i64 4,.slice (some ⟨n+6,0,none⟩) 1 1] 64)
theorem alloc_get (W:World)(o:Obj)(i:Nat):(W.alloc o).heap[i]? = if i=W.heap.size then some o else W.heap[i]?:=by
 show (W.heap.push o)[i]? = _
 rw [Array.getElem?_push]
theorem size_alloc (W:World)(o:Obj):(W.alloc o).heap.size=W.heap.size+1:=by simp
set_option linter.unusedSimpArgs false in
theorem pair_at (w:World):Calls Tryz.prog 26 #[] w fun r w'=>r=.returned (.agg #[.int .i64 6,.slice (some ⟨w.heap.size+1,0,none⟩) 2 2,.slice (some ⟨w.heap.size+4,0,none⟩) 5 5,.slice (some ⟨w.heap.size+5,0,none⟩) 5 5,.slice (some ⟨w.heap.size+7,0,none⟩) 1 1])∧PairW w.heap.size w' [0,2,2,1,1] [3,0,0,0]∧Below w.heap.size w w':=by
 go_enter Tryz.func26,Tryz.ntmps26
 go_wp2
 refine bodyPost_ret (v:=.agg #[.int .i64 6,.slice (some ⟨w.heap.size+1,0,none⟩) 2 2,.slice (some ⟨w.heap.size+4,0,none⟩) 5 5,.slice (some ⟨w.heap.size+5,0,none⟩) 5 5,.slice (some ⟨w.heap.size+7,0,none⟩) 1 1]) (by simp [results,Tryz.results26,go_sem]) rfl ⟨rfl,⟨?_,?_,?_,?_,?_,?_,?_⟩,?_⟩
 ·show _=_;simp only [alloc_get,size_alloc,Nat.add_right_cancel_iff,Nat.add_assoc,Nat.reduceAdd,Nat.add_left_cancel_iff,Nat.reduceEqDiff,↓reduceIte,List.map,Nat.left_eq_add,reduceCtorEq,Nat.add_eq_left,Nat.succ_ne_self]
 ·show _=_;simp only [alloc_get,size_alloc,Nat.add_right_cancel_iff,Nat.add_assoc,Nat.reduceAdd,Nat.add_left_cancel_iff,Nat.reduceEqDiff,↓reduceIte,List.map,Nat.left_eq_add,reduceCtorEq,Nat.add_eq_left,Nat.succ_ne_self]
 ·show _=_;simp only [alloc_get,size_alloc,Nat.add_right_cancel_iff,Nat.add_assoc,Nat.reduceAdd,Nat.add_left_cancel_iff,Nat.reduceEqDiff,↓reduceIte,List.map,Nat.left_eq_add,reduceCtorEq,Nat.add_eq_left,Nat.succ_ne_self]
 ·show _=_;simp only [alloc_get,size_alloc,Nat.add_assoc,Nat.reduceAdd,Nat.add_left_cancel_iff,Nat.reduceEqDiff,↓reduceIte,aaaa,bbbb]
 ·show _=_;simp only [alloc_get,size_alloc,Nat.add_right_cancel_iff,Nat.add_assoc,Nat.reduceAdd,Nat.add_left_cancel_iff,Nat.reduceEqDiff,↓reduceIte,List.map,Nat.left_eq_add,reduceCtorEq,Nat.add_eq_left,Nat.succ_ne_self]
 ·show _=_;simp only [alloc_get,size_alloc,Nat.add_right_cancel_iff,Nat.add_assoc,Nat.reduceAdd,Nat.add_left_cancel_iff,Nat.reduceEqDiff,↓reduceIte,List.map,Nat.left_eq_add,reduceCtorEq,Nat.add_eq_left,Nat.succ_ne_self]
 ·show _=_;simp only [alloc_get,size_alloc,Nat.add_assoc,Nat.reduceAdd,Nat.add_left_cancel_iff,Nat.reduceEqDiff,↓reduceIte,nOld]
 ·exact ((((((((Below.refl _ _).alloc (Nat.le_refl _) _).alloc (by simp) _).alloc (by simp;omega) _).alloc (by simp;omega) _).alloc (by simp;omega) _).alloc (by simp;omega) _).alloc (by simp;omega) _).alloc (by simp;omega) _
theorem PairW.below {n:Nat}{W W':World}{R T:List Int}(h:PairW n W R T){k:Nat}(hb:Below k W W')(hk:n+8≤k):PairW n W' R T:=
 ⟨(hb.block _ (by omega)).trans h.root,(hb.block _ (by omega)).trans h.ta,(hb.block _ (by omega)).trans h.tb,(hb.block _ (by omega)).trans h.slots,(hb.block _ (by omega)).trans h.refs,(hb.block _ (by omega)).trans h.sroot,(hb.block _ (by omega)).trans h.snaps⟩
theorem PairW.size {n:Nat}{W:World}{R T:List Int}(h:PairW n W R T):n+8≤W.heap.size:=by
 have:=(Array.getElem?_eq_some_iff.1 h.snaps).1;omega
theorem cell_of {W:World}{g:Nat}{A:Array Value}{t:TypeId}{fr:Nat × Nat}(h:W.heap[g]? = some (.cells A t fr)){j:Nat}{v:Value}(hv:A[j]? = some v):W.cell? ⟨g,j,none⟩=some v:=by
 simp [World.cell?,h,hv]
theorem PairW.img {n:Nat}{W:World}{R T:List Int}(h:PairW n W R T)(hR:R.length=5)(hT:T.length=4)(g:Int) :
  Img W (.agg #[.int .i64 g,.slice (some ⟨n+1,0,none⟩) 2 2,.slice (some ⟨n+4,0,none⟩) 5 5,.slice (some ⟨n+5,0,none⟩) 5 5,.slice (some ⟨n+7,0,none⟩) 1 1]) (pairD g R T):=by
 refine⟨_,_,_,_,rfl,h.root.sl rfl (by decide),⟨some ⟨n+4,0,none⟩,5,rfl,show (5:Nat)≤maxLen by decide,Nat.le_refl _,fun _=>⟨n+4,0,rfl,(Array.getElem?_eq_some_iff.1 h.slots).1,?_⟩⟩,h.refs.sl hR (by decide),⟨some ⟨n+7,0,none⟩,1,rfl,show (1:Nat)≤maxLen by decide,Nat.le_refl _,fun _=>⟨n+7,0,rfl,(Array.getElem?_eq_some_iff.1 h.snaps).1,?_⟩⟩⟩
 ·intro j hj
  have h5:j<5:=hj
  match j,h5 with
  | 0,_=>exact⟨_,cell_of h.slots rfl,cell_of h.slots rfl,cell_of h.slots rfl,Sl.nil W⟩
  | 1,_=>exact⟨_,cell_of h.slots rfl,cell_of h.slots rfl,cell_of h.slots rfl,Sl.nil W⟩
  | 2,_=>exact⟨_,cell_of h.slots rfl,cell_of h.slots rfl,cell_of h.slots rfl,h.ta.sl rfl (by decide)⟩
  | 3,_=>exact⟨_,cell_of h.slots rfl,cell_of h.slots rfl,cell_of h.slots rfl,Sl.nil W⟩
  | 4,_=>exact⟨_,cell_of h.slots rfl,cell_of h.slots rfl,cell_of h.slots rfl,h.tb.sl hT (by decide)⟩
 ·intro j hj
  have h1:j<1:=hj
  match j,h1 with
  | 0,_=>exact⟨_,cell_of h.snaps rfl,cell_of h.snaps rfl,cell_of h.snaps rfl,h.sroot.sl rfl (by decide)⟩
theorem LAt.other {W:World}{g g':Nat}{l:List Int}(h:LAt W g l)(hne:g≠g')(j:Nat)(v:Value):LAt (W.setCell ⟨g',j,none⟩ v) g l:=((Only.set g' W j v).block g hne).trans h
theorem PairW.setRefs {n:Nat}{W:World}{R T:List Int}(h:PairW n W R T)(j:Nat)(x:Int):PairW n (W.setCell ⟨n+5,j,none⟩ (.int .i64 x)) (R.set j x) T:=
 ⟨h.root.other (by omega) _ _,h.ta.other (by omega) _ _,h.tb.other (by omega) _ _,((Only.set (n+5) W j _).block _ (by omega)).trans h.slots,h.refs.set j x,h.sroot.other (by omega) _ _,((Only.set (n+5) W j _).block _ (by omega)).trans h.snaps⟩
theorem PairW.setTab {n:Nat}{W:World}{R T:List Int}(h:PairW n W R T)(j:Nat)(x:Int):PairW n (W.setCell ⟨n+3,j,none⟩ (.int .i64 x)) R (T.set j x):=
 ⟨h.root.other (by omega) _ _,h.ta.other (by omega) _ _,h.tb.set j x,((Only.set (n+3) W j _).block _ (by omega)).trans h.slots,h.refs.other (by omega) _ _,h.sroot.other (by omega) _ _,((Only.set (n+3) W j _).block _ (by omega)).trans h.snaps⟩
theorem pair_is (w:World):Calls Tryz.prog 26 #[] w fun r w'=>(∃v,r=.returned v∧Img w' v (pairD 6 [0,2,2,1,1] [3,0,0,0]))∧Below w.heap.size w w':=
 (pair_at w).mono fun _ _ h=>⟨⟨_,h.1,h.2.1.img rfl rfl 6⟩,h.2.2⟩
def zD:ImgD:=⟨0,[],[(0,⟨#[]⟩,[])],[0],[]⟩
def freshD (g:Nat):ImgD:=⟨g,List.replicate ((g+3) / 4) 0,[(0,⟨#[]⟩,[])],[0],[]⟩
def frsM (g:Int):ImgD:=rzM zD g
def frsE (g:Int):Int:=rzE zD g
theorem frs_is:∀k:Nat,k≤16→frsM k=freshD k∧frsE k=0∧checkE (freshD k)=0
 | 0,_=>⟨by kernel_rfl,by decide +kernel,by decide +kernel⟩
 | 1,_=>⟨by kernel_rfl,by decide +kernel,by decide +kernel⟩
 | 2,_=>⟨by kernel_rfl,by decide +kernel,by decide +kernel⟩
 | 3,_=>⟨by kernel_rfl,by decide +kernel,by decide +kernel⟩
 | 4,_=>⟨by kernel_rfl,by decide +kernel,by decide +kernel⟩
 | 5,_=>⟨by kernel_rfl,by decide +kernel,by decide +kernel⟩
 | 6,_=>⟨by kernel_rfl,by decide +kernel,by decide +kernel⟩
 | 7,_=>⟨by kernel_rfl,by decide +kernel,by decide +kernel⟩
 | 8,_=>⟨by kernel_rfl,by decide +kernel,by decide +kernel⟩
 | 9,_=>⟨by kernel_rfl,by decide +kernel,by decide +kernel⟩
 | 10,_=>⟨by kernel_rfl,by decide +kernel,by decide +kernel⟩
 | 11,_=>⟨by kernel_rfl,by decide +kernel,by decide +kernel⟩
 | 12,_=>⟨by kernel_rfl,by decide +kernel,by decide +kernel⟩
 | 13,_=>⟨by kernel_rfl,by decide +kernel,by decide +kernel⟩
 | 14,_=>⟨by kernel_rfl,by decide +kernel,by decide +kernel⟩
 | 15,_=>⟨by kernel_rfl,by decide +kernel,by decide +kernel⟩
 | 16,_=>⟨by kernel_rfl,by decide +kernel,by decide +kernel⟩
 | k+17,h=>absurd h (by omega)
theorem al2a (W:World)(a b:Obj):((W.alloc a).alloc b).heap[W.heap.size]? = some a:=(Below.heap_alloc _ _ _ (by simp)).trans (World.alloc_heap_new W a)
theorem al2b (W:World)(a b:Obj):((W.alloc a).alloc b).heap[(W.alloc a).heap.size]? = some b:=World.alloc_heap_new _ _
theorem zD_img {W:World}{x y:Nat}(hx:W.heap[x]? = some (.cells #[.int .i64 0,.string ⟨#[]⟩,.slice none 0 0] 61))(hy:W.heap[y]? = some (.cells #[.int .i64 0] 3)):Img W (.agg #[.int .i64 0,.slice none 0 0,.slice (some ⟨x,0,none⟩) 1 1,.slice (some ⟨y,0,none⟩) 1 1,.slice none 0 0]) zD:=by
 refine⟨_,_,_,_,rfl,Sl.nil W,?_,?_,?_⟩
 ·refine⟨some ⟨x,0,none⟩,1,rfl,show (1:Nat)≤maxLen by decide,Nat.le_refl _,fun _=>⟨x,0,rfl,(szH hx),?_⟩⟩
  intro j hj
  have h1:j<1:=hj
  match j,h1 with
  | 0,_=>exact⟨_,cell_of hx rfl,cell_of hx rfl,cell_of hx rfl,Sl.nil W⟩
 ·refine⟨some ⟨y,0,none⟩,1,rfl,show (1:Nat)≤maxLen by decide,Nat.le_refl _,fun _=>⟨y,0,rfl,(szH hy),fun j hj=>?_⟩⟩
  have h1:j<1:=hj
  match j,h1 with
  | 0,_=>exact cell_of hy rfl
 ·exact⟨none,0,rfl,Nat.zero_le _,Nat.le_refl _,fun x=>absurd rfl x⟩
set_option maxHeartbeats 4000000 in
theorem fresh_at (g:Int)(w:World)(M:ImgD)(E:Int)(hM:frsM g=M)(hE:frsE g=E):Calls Tryz.prog 22 #[.int .i64 g] w (AnsI w w.heap.size M E):=by
 have m0:(w.alloc (.cells #[.int .i64 0,.slice none 0 0,.slice none 0 0,.slice none 0 0,.slice none 0 0] 27)).heap[w.heap.size]? = some (.cells #[.int .i64 0,.slice none 0 0,.slice none 0 0,.slice none 0 0,.slice none 0 0] 27):=World.alloc_heap_new _ _
 have HR:Hid (∀ (W:World) (x y:Nat),W.heap[x]? = some (.cells #[.int .i64 0,.string ⟨#[]⟩,.slice none 0 0] 61)→W.heap[y]? = some (.cells #[.int .i64 0] 3)→Calls Tryz.prog 48 #[.agg #[.int .i64 0,.slice none 0 0,.slice (some ⟨x,0,none⟩) 1 1,.slice (some ⟨y,0,none⟩) 1 1,.slice none 0 0],.int .i64 g] W (AnsI W W.heap.size M E)):=fun W x y hx hy=>resize_to (zD_img hx hy) g hM hE
 have hb1:Below w.heap.size w ((w.alloc (.cells #[.int .i64 0,.slice none 0 0,.slice none 0 0,.slice none 0 0,.slice none 0 0] 27)).alloc (.cells #[.int .i64 0,.string ⟨#[]⟩,.slice none 0 0] 61) |>.alloc (.cells #[.int .i64 0] 3)).drew:=((((Below.refl _ _).alloc (Nat.le_refl _) _).alloc (by simp) _).alloc (by simp;omega) _).drew
 have hb2:Below w.heap.size w ((w.alloc (.cells #[.int .i64 0,.slice none 0 0,.slice none 0 0,.slice none 0 0,.slice none 0 0] 27)).alloc (.cells #[.int .i64 0] 3) |>.alloc (.cells #[.int .i64 0,.string ⟨#[]⟩,.slice none 0 0] 61)).drew:=((((Below.refl _ _).alloc (Nat.le_refl _) _).alloc (by simp) _).alloc (by simp;omega) _).drew
 clear hM hE
 go_enter Tryz.func22,Tryz.ntmps22
 have hm1:∀w,(Instr.makeSlice 24 (.int .i64 1) (.int .i64 1)).run Tryz.prog w=.ok (.slice (some ⟨w.heap.size,0,none⟩) 1 1) (w.alloc (.cells #[.int .i64 0,.string ⟨#[]⟩,.slice none 0 0] 61)):=fun _=>by kernel_rfl
 have hm2:∀w,(Instr.makeSlice 23 (.int .i64 1) (.int .i64 1)).run Tryz.prog w=.ok (.slice (some ⟨w.heap.size,0,none⟩) 1 1) (w.alloc (.cells #[.int .i64 0] 3)):=fun _=>by kernel_rfl
 have x1:(((w.alloc (.cells #[.int .i64 0,.slice none 0 0,.slice none 0 0,.slice none 0 0,.slice none 0 0] 27)).alloc (.cells #[.int .i64 0,.string ⟨#[]⟩,.slice none 0 0] 61)).alloc (.cells #[.int .i64 0] 3)).heap[w.heap.size+1]? = some (.cells #[.int .i64 0,.string ⟨#[]⟩,.slice none 0 0] 61):=by have:=al2a (w.alloc (.cells #[.int .i64 0,.slice none 0 0,.slice none 0 0,.slice none 0 0,.slice none 0 0] 27)) (.cells #[.int .i64 0,.string ⟨#[]⟩,.slice none 0 0] 61) (.cells #[.int .i64 0] 3);simpa using this
 have y1:(((w.alloc (.cells #[.int .i64 0,.slice none 0 0,.slice none 0 0,.slice none 0 0,.slice none 0 0] 27)).alloc (.cells #[.int .i64 0,.string ⟨#[]⟩,.slice none 0 0] 61)).alloc (.cells #[.int .i64 0] 3)).heap[w.heap.size+1+1]? = some (.cells #[.int .i64 0] 3):=by have:=al2b (w.alloc (.cells #[.int .i64 0,.slice none 0 0,.slice none 0 0,.slice none 0 0,.slice none 0 0] 27)) (.cells #[.int .i64 0,.string ⟨#[]⟩,.slice none 0 0] 61) (.cells #[.int .i64 0] 3);simpa using this
 have x2:(((w.alloc (.cells #[.int .i64 0,.slice none 0 0,.slice none 0 0,.slice none 0 0,.slice none 0 0] 27)).alloc (.cells #[.int .i64 0] 3)).alloc (.cells #[.int .i64 0,.string ⟨#[]⟩,.slice none 0 0] 61)).heap[w.heap.size+1+1]? = some (.cells #[.int .i64 0,.string ⟨#[]⟩,.slice none 0 0] 61):=by have:=al2b (w.alloc (.cells #[.int .i64 0,.slice none 0 0,.slice none 0 0,.slice none 0 0,.slice none 0 0] 27)) (.cells #[.int .i64 0] 3) (.cells #[.int .i64 0,.string ⟨#[]⟩,.slice none 0 0] 61);simpa using this
 have y2:(((w.alloc (.cells #[.int .i64 0,.slice none 0 0,.slice none 0 0,.slice none 0 0,.slice none 0 0] 27)).alloc (.cells #[.int .i64 0] 3)).alloc (.cells #[.int .i64 0,.string ⟨#[]⟩,.slice none 0 0] 61)).heap[w.heap.size+1]? = some (.cells #[.int .i64 0] 3):=by have:=al2a (w.alloc (.cells #[.int .i64 0,.slice none 0 0,.slice none 0 0,.slice none 0 0,.slice none 0 0] 27)) (.cells #[.int .i64 0] 3) (.cells #[.int .i64 0,.string ⟨#[]⟩,.slice none 0 0] 61);simpa using this
 go_upto_region 1 with fail
 go_region_with (go_at_call 48;refine (HR.out _ _ _ (by first | exact x1 | exact x2) (by first | exact y1 | exact y2)).mono ?_;intro e w2 hA;obtain⟨val,a1,a2,a3,a4,a5,a6,a7,a8,rfl,hO,bb,hI⟩:=hA.open;have zz:=(bb.block w.heap.size (by simp <;> omega)).trans (cells_alloc (cells_alloc m0 _) _);obtain⟨z0,z1,z2,z3,z4⟩:=five zz;have f0:=cells_frozen zz 0;have f1:=cells_frozen zz 1;have f2:=cells_frozen zz 2;have f3:=cells_frozen zz 3;have f4:=cells_frozen zz 4;have HO:Hid (OI w2 _ val M∧_=imgV M.guest val):=⟨hO,hI.symm⟩;have HB:Hid (Below w.heap.size w w2):=(by first | exact hb1.trans (bb.mono (by simp <;> omega)) | exact hb2.trans (bb.mono (by simp <;> omega)));clear hA hO hI bb)
 all_goals
  go_wp2_with fail
  have i1:w.heap.size≤w.heap.size:=Nat.le_refl _
  have hfr:∀a,Live M a→(val a).ownBlock≠some w.heap.size:=fun a ha e=>by
   have:=((HO.out.1.row a ha).lt _ e).1
   simp at this
   omega
  refine bodyPost_ret (v:=.tuple #[.agg #[.int .i64 M.guest,.slice a1 M.root.length a2,.slice a3 M.slots.length a4,.slice a5 M.refs.length a6,.slice a7 M.snaps.length a8],.int .i64 E]) (by simp [results,Tryz.results22,go_sem,z0,z1,z2,z3,z4]) rfl ⟨val,by rw [←HO.out.2],OI.mono (((((HO.out.1.far hfr).far hfr).far hfr).far hfr).far hfr) (by simp <;> omega),((((HB.out.setCell i1 _).setCell i1 _).setCell i1 _).setCell i1 _).setCell i1 _⟩
theorem fresh_is (g:Int)(w:World){M:ImgD}{E:Int}(hM:frsM g=M)(hE:frsE g=E):Calls Tryz.prog 22 #[.int .i64 g] w (AnsI w w.heap.size M E):=fresh_at g w M E hM hE
theorem count_but {f:Nat→Bool}{t:Nat} : ∀n,(∀j,1≤j→j<n→j≠t→f j=true)→n≤(List.range n).countP f+(if 0<n then 1 else 0)+(if t<n then 1 else 0)
 | 0,_=>by simp
 | n+1,h=>by
  have ih:=count_but (f:=f) (t:=t) n (fun j h1 h2 h3=>h j h1 (by omega) h3)
  rw [List.range_succ,List.countP_append]
  by_cases e:n=t
  ·subst e
   rw [if_neg (Nat.lt_irrefl _)] at ih
   rw [if_pos (by omega),if_pos (by omega)]
   split at ih <;> omega
  ·by_cases e0:n=0
   ·subst e0
    rw [if_pos (by omega)]
    omega
   ·have hf:f n=true:=h n (by omega) (by omega) e
    have e1:[n].countP f=1:=by simp [hf]
    rw [e1,if_pos (by omega)]
    rw [if_pos (by omega)] at ih
    split at ih
    ·rw [if_pos (by omega)];omega
    ·rename_i hlt
     rw [if_neg (by omega)];omega
theorem used_kd (L:List SlotD):usedN L=(List.range L.length).countP (fun j=>kd L j != 0):=by
 unfold usedN
 have hl:L=(List.range L.length).map (fun j=>L.getD j default):=by
  apply List.ext_getElem
  ·simp
  ·intro j h1 h2;simp [List.getD,h1]
 conv=>lhs;rw [hl]
 rw [List.countP_map]
 rfl
theorem count_none {l:List Int}{t:Int}(h:t ∉ l):l.count t=0:=List.count_eq_zero.2 h
theorem used_setP {L:List SlotD}{e:Nat}{page:ByteArray}(hk:kd L e=1):usedN (L.set e (1,page,[]))=usedN L:=by
 rw [used_kd,used_kd,List.length_set]
 refine List.countP_congr fun j _=>?_
 rw [kd_setP hk]
theorem inPl_specG {m:ImgD}(hC:checkE m=0){r:Nat}(hr:r<m.root.length)(hp:inPl m r=true):∃t:Nat,m.root.getD r 0=(t:Int)∧1≤t∧t<m.slots.length∧m.refs.getD t 0=1:=by
 have hs:=checkE_shape hC
 have hro:=root_ok hs
 unfold inPl at hp
 simp only [Bool.and_eq_true,bne_iff_ne,ne_eq,beq_iff_eq] at hp
 have hm:m.root.getD r 0 ∈ m.root:=by simp [List.getD,hr]
 have hE:=List.all_eq_true.1 hro.2 _ hm
 unfold rootE at hE
 have hk:isKd m.slots (m.root.getD r 0) 2=true:=by
  cases hx:isKd m.slots (m.root.getD r 0) 2 with
  | true=>rfl
  | false=>rw [hx] at hE;simp at hE;exact absurd hE hp.1
 obtain⟨j,hj,hjl,_⟩:=isKd_yes hk
 refine⟨j,hj,by omega,hjl,?_⟩
 rw [hj,Int.toNat_natCast] at hp
 exact hp.2
theorem root_natG {m:ImgD}(hs:shapeE m=0){r:Nat}(hr:r<m.root.length):∃t:Nat,m.root.getD r 0=(t:Int)∧t<m.slots.length:=by
 have hro:=root_ok hs
 have hm:m.root.getD r 0 ∈ m.root:=by simp [List.getD,hr]
 have hE:=List.all_eq_true.1 hro.2 _ hm
 have hp:=slotsE_parts (shapeE_zero hs).2.1
 by_cases h0:m.root.getD r 0=0
 ·exact⟨0,h0,by omega⟩
 ·unfold rootE at hE
  have hk:isKd m.slots (m.root.getD r 0) 2=true:=by
   cases hx:isKd m.slots (m.root.getD r 0) 2 with
   | true=>rfl
   | false=>rw [hx] at hE;simp at hE;exact absurd hE h0
  obtain⟨j,hj,hjl,_⟩:=isKd_yes hk
  exact⟨j,hj,hjl⟩
theorem sum_at {f g:Nat→Nat}{k:Nat} : ∀n,k<n→(∀j,j≠k→g j=f j)→((List.range n).map g).sum+f k=((List.range n).map f).sum+g k
 | 0,h,_=>absurd h (by omega)
 | n+1,h,ho=>by
  rw [List.range_succ,List.map_append,List.map_append,List.sum_append,List.sum_append]
  by_cases e:k=n
  ·subst e
   have:(List.range k).map g=(List.range k).map f:=List.map_congr_left fun j hj=>ho j (by have:=List.mem_range.1 hj;omega)
   rw [this];simp;omega
  ·have:=sum_at n (by omega) ho
   simp [ho n (fun x=>e x.symm)];omega
theorem sum_pad {f:Nat→Nat}{n:Nat} : ∀d,(∀j,n≤j→f j=0)→((List.range (n+d)).map f).sum=((List.range n).map f).sum
 | 0,_=>rfl
 | d+1,h=>by rw [←Nat.add_assoc,List.range_succ,List.map_append,List.sum_append,sum_pad d h];simp [h (n+d) (by omega)]
def tC (m:ImgD) (x:Nat):Nat:=(flatR m).count (x:Int)
def pC (m:ImgD) (x:Nat):Nat:=sumT m.slots (flatR m) (x:Int)
theorem pC_40 {m:ImgD}(hl:m.slots.length≤40)(x:Nat):pC m x=((List.range 40).map (toldT m.slots (flatR m) (x:Int))).sum:=by
 have:=sum_pad (f:=toldT m.slots (flatR m) (x:Int)) (n:=m.slots.length) (40 - m.slots.length) (fun j hj=>by
  unfold toldT
  rw [if_neg]
  rintro ⟨h,_⟩
  have:=kd_lt (L:=m.slots) (j:=j) (by rw [h];decide)
  omega)
 rw [Nat.add_sub_cancel' hl] at this
 exact this.symm
theorem kd_one {m:ImgD}(h:shapeE m=0){x:Nat}(hk:kd m.slots x≠0):1≤x∧x<m.slots.length:=by
 refine⟨?_,kd_lt hk⟩
 rcases Nat.eq_zero_or_pos x with e | e
 ·rw [e] at hk;exact absurd (slot0 (shapeE_zero h).2.1) hk
 ·exact e
theorem kd_cases {L:List SlotD}(h:slotsE L=0){j:Nat}(hj:j<L.length):kd L j=0∨kd L j=1∨kd L j=2:=by
 have:=slotsE_all h hj
 rw [←kd_getElem hj]
 unfold okD slotOK at this
 split at this
 ·left;assumption
 ·split at this
  ·right;left;assumption
  ·split at this
   ·right;right;assumption
   ·cases this
theorem cnt_tab {m:ImgD}(h:shapeE m=0){x:Nat}(hk:kd m.slots x=2):(cntL m).getD x 0=(tC m x:Int):=by
 obtain⟨h1,hx⟩:=kd_one h (x:=x) (by rw [hk];decide)
 rw [cntL_get h x hx]
 unfold cntI tC
 rw [if_neg (by omega),sumT_no (shapeE_zero h).2.2.2.2.2.1 _ h1 (by rw [hk];decide),Nat.add_zero]
theorem tC_none {m:ImgD}(h:shapeE m=0){x:Nat}(h1:1≤x)(hk:kd m.slots x≠2):tC m x=0:=
 count_none (fun hm=>hk (told_root h hm h1).2.1)
theorem pC_none {m:ImgD}(h:shapeE m=0){x:Nat}(h1:1≤x)(hk:kd m.slots x≠1):pC m x=0:=
 sumT_no (shapeE_zero h).2.2.2.2.2.1 _ h1 hk
theorem cnt_page {m:ImgD}(h:shapeE m=0){x:Nat}(hk:kd m.slots x=1):(cntL m).getD x 0=(pC m x:Int):=by
 obtain⟨h1,hx⟩:=kd_one h (x:=x) (by rw [hk];decide)
 rw [cntL_get h x hx]
 have h0:=tC_none h h1 (by rw [hk];decide)
 unfold tC at h0
 unfold cntI pC
 rw [if_neg (by omega),h0,Nat.zero_add]
theorem count_setI (a x:Int):∀ (l:List Int) (i:Nat),i<l.length→(l.set i a).count x+(if l.getD i 0=x then 1 else 0)=l.count x+(if a=x then 1 else 0)
 | [],i,h=>absurd h (by simp)
 | b :: l,0,_=>by
  simp only [List.set_cons_zero,List.count_cons,beq_iff_eq,List.getD_cons_zero]
  omega
 | b :: l,i+1,h=>by
  have:=count_setI a x l i (by simpa using h)
  simp only [List.set_cons_succ,List.count_cons,beq_iff_eq,List.getD_cons_succ]
  omega
theorem flatR_cd (m:ImgD):flatR (countedD m)=flatR m:=rfl
theorem pC_counted {m:ImgD}(h:shapeE m=0){x:Nat}(h1:1≤x)(hx:x<m.slots.length):pC (countedD m) x=pC m x:=by
 have e1:=cntL_get (counted_shape h) x (by show x<(freeUn _ _).length;rw [freeUn_length];exact hx)
 have e2:=cntL_get h x hx
 rw [counted_cnt h,e2] at e1
 unfold cntI at e1
 rw [if_neg (by omega),if_neg (by omega),flatR_cd] at e1
 unfold pC
 rw [flatR_cd]
 omega
def lo (m:ImgD) (n:Nat):Bool:=m.root.getD (n / 4) 0 != 0 && tC m (m.root.getD (n / 4) 0).toNat == 1
def so (m:ImgD) (n:Nat):Bool:=decide (0<lookV m m.root n) && pC m (lookV m m.root n).toNat == 1
def need (m:ImgD) (n:Nat):Nat:=if lo m n=true then (if so m n=true then 0 else 1) else 2
theorem root_facts {m:ImgD}(hC:checkE m=0){k:Nat}(hk:k<m.root.length):∃t:Nat,m.root.getD k 0=(t:Int)∧(t=0∨(1≤t∧kd m.slots t=2∧1≤tC m t∧m.refs.getD t 0=(tC m t:Int))):=by
 obtain⟨hs,hr,_⟩:=checkE_zero hC
 obtain⟨t,ht,_⟩:=root_natG hs hk
 refine⟨t,ht,?_⟩
 rcases Nat.eq_zero_or_pos t with e | e
 ·exact .inl e
 ·have hm:(t:Int) ∈ flatR m:=by
   rw [flatR_app,← ht,getD_at hk]
   exact List.mem_append_left _ (List.getElem_mem hk)
  have h2:=(told_root hs hm e).2.1
  refine .inr ⟨e,h2,List.count_pos_iff.2 hm,?_⟩
  rw [←hr];exact cnt_tab hs h2
theorem look_facts {m:ImgD}(hC:checkE m=0){n:Nat}(hk:n / 4<m.root.length):lookV m m.root n≤0∨∃e:Nat,lookV m m.root n=(e:Int)∧1≤e∧kd m.slots e=1∧m.refs.getD e 0=(pC m e:Int):=by
 obtain⟨hs,hr,_⟩:=checkE_zero hC
 obtain⟨ock,oent⟩:=tableO_ok hs hk
 rw [lookV_tableO]
 have h4:n % 4<(tableO m (n / 4)).length:=by rw [ckE_len ock];omega
 have hmem:(tableO m (n / 4)).getD (n % 4) 0 ∈ tableO m (n / 4):=by rw [getD_at h4];exact List.getElem_mem h4
 rcases tabE_cases (oent _ hmem) with e | e | ⟨j,e,_,hkj⟩
 ·left;omega
 ·left;omega
 ·right
  refine⟨j,e,(kd_one hs (by rw [hkj];decide)).1,hkj,?_⟩
  rw [←hr];exact cnt_page hs hkj
theorem lo_inPl {m:ImgD}(hC:checkE m=0){n:Nat}(hk:n / 4<m.root.length):lo m n=inPl m (n / 4):=by
 obtain⟨t,ht,h⟩:=root_facts hC hk
 unfold lo inPl
 rw [ht,Int.toNat_natCast]
 rcases h with h | ⟨_,_,_,h⟩
 ·subst h;rfl
 ·rw [h]
  congr 1
  rw [Bool.eq_iff_iff];simp only [beq_iff_eq];omega
theorem so_wInPl {m:ImgD}(hC:checkE m=0){n:Nat}(hk:n / 4<m.root.length):wInPl m n=(lo m n && so m n):=by
 rw [lo_inPl hC hk]
 unfold wInPl so
 rcases look_facts hC hk with h | ⟨e,he,h1,_,h2⟩
 ·rw [show decide (0<lookV m m.root n)=false by simp;omega];simp
 ·rw [he,Int.toNat_natCast,h2,show decide (0<(e:Int))=true by simp;omega,Bool.true_and,Bool.true_and]
  congr 1
  rw [Bool.eq_iff_iff];simp only [beq_iff_eq];omega
theorem used_lay {L:List SlotD}{n:Nat}{s:SlotD}(hn:n≤L.length)(hs:s.1≠0):usedN (layS L n s)=usedN L+(if kd L n=0 then 1 else 0):=by
 unfold layS
 by_cases e:n=L.length
 ·rw [if_pos e]
  have:kd L n=0:=by unfold kd;rw [e];simp [List.getD];rfl
  rw [if_pos this]
  unfold usedN
  rw [List.countP_append,List.countP_cons]
  simp [hs]
 ·rw [if_neg e]
  have hl:n<L.length:=by omega
  unfold usedN
  rw [List.countP_set hl]
  have hle:(if (L[n].1 != 0)=true then 1 else 0)≤L.countP (fun s=>s.1 != 0):=List.boole_getElem_le_countP (p:=fun s:SlotD=>s.1 != 0) hl
  rw [kd_getElem hl] at hle ⊢
  simp only [hs,bne_iff_ne,ne_eq,not_false_eq_true,if_true]
  by_cases hk:kd L n=0
  ·simp [hk]
  ·rw [if_neg hk]
   simp only [bne_iff_ne,ne_eq,hk,not_false_eq_true,if_true] at hle ⊢
   omega
theorem used_le {L:List SlotD}(h0:kd L 0=0)(h1:1≤L.length):usedN L+1≤L.length:=by
 have e:=used_lay (L:=L) (n:=0) (s:=((1,⟨#[]⟩,[]):SlotD)) (by omega) (by decide)
 rw [if_pos h0] at e
 have:usedN (layS L 0 (1,⟨#[]⟩,[]))≤(layS L 0 (1,⟨#[]⟩,[])).length:=List.countP_le_length
 rw [layS_length,if_neg (by omega)] at this
 omega
theorem used_le2 {L:List SlotD}(h0:kd L 0=0){j:Nat}(j1:1≤j)(hj:j<L.length)(hk:kd L j=0):usedN L+2≤L.length:=by
 have e:=used_lay (L:=L) (n:=j) (s:=((1,⟨#[]⟩,[]):SlotD)) (by omega) (by decide)
 rw [if_pos hk] at e
 have:=used_le (L:=layS L j (1,⟨#[]⟩,[])) (by rw [layS_kd (by omega),if_neg (by omega)];exact h0) (by rw [layS_length,if_neg (by omega)];omega)
 rw [layS_length,if_neg (by omega)] at this
 omega
theorem grab40 {L:List SlotD}(h0:kd L 0=0)(h1:1≤L.length)(h40:L.length≤40):grabN L=40↔usedN L=39:=by
 obtain⟨g1,gl,gu,gf⟩:=grabN_spec h1
 constructor
 ·intro e
  have hl:L.length=40:=by omega
  have hb:=count_but (f:=fun j=>kd L j != 0) (t:=40) 40 (fun j j1 j2 _=>by have:=gu j j1 (by omega);simpa using this)
  have hu:=used_le h0 h1
  rw [used_kd,hl] at hu ⊢
  simp at hb
  omega
 ·intro e
  have hu:=used_le h0 h1
  have hl:L.length=40:=by omega
  by_cases g:grabN L<L.length
  ·have:=used_le2 h0 g1 g gf
   omega
  ·omega
theorem write_none {m:ImgD}(hC:checkE m=0){n:Nat}(hn:(n:Int)<m.guest)(page:ByteArray):writeD m n page=none↔39<usedN m.slots+need m n:=by
 have hs:=checkE_shape hC
 have hr:=root_ok hs
 have hg:=guest_ok hs
 have hk:n / 4<m.root.length:=by omega
 have hsl:=(shapeE_zero hs).2.1
 have h0:=slot0 hsl
 have hp:=slotsE_parts hsl
 have hu:=used_le h0 hp.1
 have hw:=so_wInPl hC hk
 unfold writeD
 by_cases hi:wInPl m n=true
 ·rw [if_pos hi]
  rw [hi] at hw
  have hw':lo m n=true∧so m n=true:=by simpa using hw.symm
  have hnd:need m n=0:=by unfold need;rw [if_pos hw'.1,if_pos hw'.2]
  rw [hnd]
  simp;omega
 ·rw [if_neg hi]
  have hlo:=lo_inPl hC hk
  by_cases hl:lo m n=true
  ·have hso:so m n=false:=by
    cases e:so m n with
    | false=>rfl
    | true=>rw [hl,e] at hw;exact absurd hw hi
   have hnd:need m n=1:=by unfold need;rw [if_pos hl,hso,if_neg (by decide)]
   rw [hnd]
   have hin:inPl m (n / 4)=true:=by rw [←hlo];exact hl
   obtain⟨t,ht,t1,tl,_⟩:=inPl_specG hC hk hin
   have htn:tabN m (n / 4)=t:=by unfold tabN;rw [if_pos hin,ht];simp
   rw [if_neg (by rw [htn];omega)]
   have hkt:kd m.slots t=2:=by
    obtain⟨t',ht',h⟩:=root_facts hC hk
    have:t'=t:=by omega
    rcases h with h | h
    ·omega
    ·rw [←this];exact h.2.1
   have e1:usedN (tabL m (n / 4) (tableO m (n / 4)))=usedN m.slots:=by
    unfold tabL;rw [htn,used_lay (by omega) (by show (2:Int)≠0;decide),if_neg (by rw [hkt];decide)];rfl
   have e2:(tabL m (n / 4) (tableO m (n / 4))).length=m.slots.length:=by unfold tabL;rw [htn,layS_length,if_neg (by omega)]
   have e3:kd (tabL m (n / 4) (tableO m (n / 4))) 0=0:=by unfold tabL;rw [htn,layS_kd (by omega),if_neg (by omega)];exact h0
   have e4:=grab40 e3 (by omega) (by omega)
   rw [e1] at e4
   have e5:wD m n=40↔usedN m.slots=39:=e4
   by_cases h:wD m n=40
   ·rw [if_pos h];have:=e5.1 h;simp;omega
   ·rw [if_neg h];have:¬usedN m.slots=39:=fun x=>h (e5.2 x)
    simp;omega
  ·have hnd:need m n=2:=by unfold need;rw [if_neg hl]
   rw [hnd]
   have hin:¬inPl m (n / 4)=true:=by rw [←hlo];exact hl
   have htn:tabN m (n / 4)=grabN m.slots:=by unfold tabN;rw [if_neg hin]
   have e0:=grab40 h0 hp.1 hp.2
   obtain⟨g1,gl,gu,gf⟩:=grabN_spec hp.1
   by_cases h:tabN m (n / 4)=40
   ·rw [if_pos h]
    have:=e0.1 (by rw [←htn];exact h)
    simp;omega
   ·rw [if_neg h]
    have hne:¬usedN m.slots=39:=fun x=>h (by rw [htn];exact e0.2 x)
    have e1:usedN (tabL m (n / 4) (tableO m (n / 4)))=usedN m.slots+1:=by
     unfold tabL;rw [htn,used_lay gl (by show (2:Int)≠0;decide),if_pos gf]
    have hle:=layS_le (s:=((2,⟨#[]⟩,tableO m (n / 4)):SlotD)) gl hp.2 (by rw [htn] at h;omega)
    have e3:kd (tabL m (n / 4) (tableO m (n / 4))) 0=0:=by unfold tabL;rw [htn,layS_kd gl,if_neg (by omega)];exact h0
    have e4:=grab40 e3 (by unfold tabL;rw [htn];omega) (by unfold tabL;rw [htn];omega)
    rw [e1] at e4
    have e5:wD m n=40↔usedN m.slots+1=39:=e4
    by_cases h':wD m n=40
    ·rw [if_pos h'];have:=e5.1 h';simp;omega
    ·rw [if_neg h'];have:¬usedN m.slots+1=39:=fun x=>h' (e5.2 x)
     simp;omega
theorem ite_cast (a b:Nat):(if a=b then 1 else 0:Nat)=(if (a:Int)=(b:Int) then 1 else 0):=by
 by_cases e:a=b
 ·rw [if_pos e,if_pos (by omega)]
 ·rw [if_neg e,if_neg (by omega)]
structure Step (m A:ImgD) (n t d:Nat):Prop where
 right:checkE A=0
 guest:A.guest=m.guest
 rlen:A.root.length=m.root.length
 root:∀j,j<m.root.length→A.root.getD j 0=if j=n / 4 then (t:Int) else m.root.getD j 0
 look:∀q,q / 4<m.root.length→q≠n→lookV A A.root q=lookV m m.root q
 t1:1≤t
 tlone:lo m n=true→m.root.getD (n / 4) 0=(t:Int)
 tfresh:lo m n=false→tC m t=0
 dsame:lo m n=true→so m n=true→lookV m m.root n=(d:Int)
 dfresh:¬(lo m n=true∧so m n=true)→pC m d=0
 tc:∀x:Nat,1≤x→tC A x+(if m.root.getD (n / 4) 0=(x:Int) then 1 else 0)=tC m x+(if t=x then 1 else 0)
 pc:∀x:Nat,1≤x→x<m.slots.length→pC A x+(if lookV m m.root n=(x:Int) then 1 else 0)=pC m x+(if lo m n=true then 0 else (tableO m (n / 4)).count (x:Int))+(if d=x then 1 else 0)
 used:usedN A.slots=usedN m.slots+need m n
theorem step_in {m:ImgD}(hC:checkE m=0){n:Nat}(hn:(n:Int)<m.guest){page:ByteArray}(hp:page.size=4)(hi:wInPl m n=true) :
  ∃t d,Step m { m with slots:=m.slots.set (lookV m m.root n).toNat (1,page,[]) } n t d:=by
 have hs:=checkE_shape hC
 have hr:=root_ok hs
 have hg:=guest_ok hs
 have hk:n / 4<m.root.length:=by omega
 have hw:=so_wInPl hC hk
 rw [hi] at hw
 have hw':lo m n=true∧so m n=true:=by simpa using hw.symm
 obtain⟨t,ht,hT⟩:=root_facts hC hk
 have hpos:0<lookV m m.root n:=by have:=hw'.2;unfold so at this;simp at this;exact this.1
 rcases look_facts hC hk with h | ⟨e,he,e1,hke,_⟩
 ·omega
 have t1:1≤t:=by
  have:=hw'.1
  unfold lo at this
  rw [ht] at this
  simp at this
  omega
 rw [he,Int.toNat_natCast]
 obtain⟨hright,hlook⟩:=setP_same (page:=page) hC hke hp
 have hrf:cntL { m with slots:=m.slots.set e (1,page,[]) } = m.refs:=(checkE_zero hright).2.1
 have hpc:∀x:Nat,1≤x→x<m.slots.length→pC { m with slots:=m.slots.set e (1,page,[]) } x=pC m x:=fun x x1 xl=>by
  have a1:=cntL_get (checkE_shape hright) x (by show x<(m.slots.set e _).length;rw [List.length_set];exact xl)
  have a2:=cntL_get hs x xl
  rw [hrf] at a1
  rw [(checkE_zero hC).2.1,a1] at a2
  unfold cntI at a2
  rw [if_neg (by omega),if_neg (by omega)] at a2
  have hfl:flatR { m with slots:=m.slots.set e (1,page,[]) } = flatR m:=rfl
  rw [hfl] at a2
  unfold pC
  rw [hfl]
  omega
 refine⟨t,e,⟨hright,rfl,rfl,fun j _=>?_,fun q hq _=>hlook _ _,t1,fun _=>ht,fun x=>?_,fun _ _=>he,fun x=>absurd hw' x,fun x x1=>?_,fun x x1 xl=>?_,?_⟩⟩
 ·by_cases ej:j=n / 4
  ·rw [if_pos ej,ej];exact ht
  ·rw [if_neg ej]
 ·rw [hw'.1] at x;cases x
 ·show tC m x+_=_
  rw [ht]
  congr 1
  by_cases ex:t=x
  ·rw [if_pos ex,if_pos (by omega)]
  ·rw [if_neg ex,if_neg (by omega)]
 ·rw [hpc x x1 xl,if_pos hw'.1,he]
  by_cases ex:e=x
  ·rw [if_pos ex,if_pos (by omega)]
  ·rw [if_neg ex,if_neg (by omega)]
 ·show usedN (m.slots.set e (1,page,[]))=_
  rw [used_setP hke]
  unfold need
  rw [if_pos hw'.1,if_pos hw'.2];rfl
theorem step_else {m:ImgD}(hC:checkE m=0){n:Nat}(hn:(n:Int)<m.guest){page:ByteArray}(hp:page.size=4)(hi:¬wInPl m n=true)(h40:tabN m (n / 4)≠40)(hd40:wD m n≠40) :
  Step m (countedD (tabSet m (n / 4) (tabN m (n / 4)) (wL m n page) (rfZ (wL m n page)))) n (tabN m (n / 4)) (wD m n):=by
 obtain⟨hx,hl,hz,hk,d1,d40,hkd,hdt⟩:=write_ext hC hn h40 hd40 hp
 obtain⟨hL,hpg,_⟩:=write_laid hC hn h40 hd40 hp
 obtain⟨t1,tl,t40,tk,_⟩:=tabN_spec hC hk h40
 have hs:=checkE_shape hC
 have hsl:=(shapeE_zero hs).2.1
 have h40m:=(slotsE_parts hsl).2
 obtain⟨ock,oent⟩:=tableO_ok hs hk
 have hlen:=ckE_len ock
 have hlo:=lo_inPl hC hk
 have hw:=so_wInPl hC hk
 have hlkO:=lookV_tableO m n
 obtain⟨r,hr,hR⟩:=root_facts hC hk
 -- the table: told once, it stays; else it is fresh
 have htl1:lo m n=true→r=tabN m (n / 4)∧kd m.slots (tabN m (n / 4))=2:=fun x=>by
  rw [hlo] at x
  have e:tabN m (n / 4)=r:=by unfold tabN;rw [if_pos x,hr];simp
  refine⟨e.symm,?_⟩
  rw [e]
  rcases hR with h | h
  ·omega
  ·exact h.2.1
 have htl0:lo m n=false→kd m.slots (tabN m (n / 4))=0:=fun x=>by
  rw [hlo] at x
  have e:tabN m (n / 4)=grabN m.slots:=by unfold tabN;rw [if_neg (by rw [x];decide)]
  rw [e];exact (grabN_spec (slotsE_parts hsl).1).2.2.2
 have hmany:lo m n=false→1≤r→2≤tC m r:=fun x r1=>by
  rcases hR with h | ⟨_,_,h1,_⟩
  ·omega
  ·unfold lo at x
   rw [hr,Int.toNat_natCast] at x
   have:((r:Int) != 0)=true:=by simp;omega
   rw [this,Bool.true_and] at x
   have:¬tC m r=1:=by simpa using x
   omega
 obtain⟨t,ht⟩:∃t,tabN m (n / 4)=t:=⟨_,rfl⟩
 obtain⟨d,hd⟩:∃d,wD m n=d:=⟨_,rfl⟩
 have es_eq:wEs m n=(tableO m (n / 4)).set (n % 4) (d:Int):=by unfold wEs;rw [hd]
 have hused:usedN (wL m n page)=usedN m.slots+(if lo m n=true then 1 else 2):=by
  unfold wL tabL
  rw [used_lay (by
   have:=(grabN_spec (L:=tabL m (n / 4) (tableO m (n / 4))) (by unfold tabL;rw [layS_length];split <;> omega)).2.1
   unfold tabL at this
   rw [layS_length] at this ⊢
   exact this) (by show (1:Int)≠0;decide),used_lay tl (by show (2:Int)≠0;decide),layS_kd tl,if_neg hdt,if_pos hkd]
  cases hb:lo m n with
  | true=>rw [if_neg (by rw [(htl1 hb).2];decide),if_pos rfl]
  | false=>rw [if_pos (htl0 hb),if_neg (by decide)]
 obtain⟨T,hT⟩:∃T,tabSet m (n / 4) (tabN m (n / 4)) (wL m n page) (rfZ (wL m n page))=T:=⟨_,rfl⟩
 have hTs:T.slots=wL m n page:=by rw [←hT];rfl
 have hTr:T.root=m.root.set (n / 4) (t:Int):=by rw [←hT,← ht];rfl
 have hTn:T.snaps=m.snaps:=by rw [←hT];rfl
 rw [hT] at hL ⊢
 rw [ht] at hx hl t1 tl t40 hdt htl1 htl0 ⊢
 rw [hd] at d1 d40 hkd hdt ⊢
 have hsh:=hL.shape
 obtain⟨z1,z2,z3,z4,z5,z6,z7⟩:=shapeE_zero hsh
 have h40T:=(slotsE_parts z2).2
 have kdt:kd T.slots t=2:=by rw [hTs];unfold kd;rw [hx.tab]
 have hfl:flatR T=m.root.set (n / 4) (t:Int) ++ m.snaps.flatMap (fun s=>s.2.2):=by rw [flatR_app,hTr,hTn]
 have tc:∀x:Nat,1≤x→tC T x+(if m.root.getD (n / 4) 0=(x:Int) then 1 else 0)=tC m x+(if t=x then 1 else 0):=fun x x1=>by
  unfold tC
  rw [hfl,flatR_app,List.count_append,List.count_append]
  have:=count_setI (t:Int) (x:Int) m.root (n / 4) hk
  rw [ite_cast t x]
  omega
 have tmem:(t:Int) ∈ flatR T:=by rw [hfl];exact List.mem_append_left _ (List.mem_iff_getElem.2 ⟨n / 4,by rw [List.length_set];exact hk,by simp⟩)
 -- another slot is told by T just if it is told by m
 have told:∀j:Nat,j≠t→1≤j→((j:Int) ∈ flatR T↔(j:Int) ∈ flatR m):=fun j hj j1=>by
  have:=tc j j1
  have e0:(if t=j then 1 else 0:Nat)=0:=if_neg (fun x=>hj x.symm)
  rw [hr,e0] at this
  rw [←List.count_pos_iff,← List.count_pos_iff]
  show 0<tC T j↔0<tC m j
  by_cases e:r=j
  ·subst e
   rw [if_pos rfl] at this
   have hb:lo m n=false:=by
    cases hb:lo m n with
    | false=>rfl
    | true=>exact absurd (htl1 hb).1 hj
   have:=hmany hb j1
   omega
  ·rw [if_neg (by omega)] at this
   omega
 have hoth:∀ (x j:Nat),j≠t→toldT T.slots (flatR T) (x:Int) j=toldT m.slots (flatR m) (x:Int) j:=fun x j hj=>by
  unfold toldT
  have hkk:kd T.slots j=2↔kd m.slots j=2:=by
   rw [hTs]
   refine⟨hx.tabs j hj,fun h2=>?_⟩
   have:=hx.keep j hj (by rw [h2];decide)
   unfold kd at h2 ⊢
   rw [this];exact h2
  by_cases h2:kd m.slots j=2
  ·have j1:=(kd_one hs (x:=j) (by rw [h2];decide)).1
   have etab:tabOf T.slots j=tabOf m.slots j:=by unfold tabOf;rw [Int.toNat_natCast,hTs,hx.keep j hj (by rw [h2];decide)]
   rw [etab]
   by_cases hm:(j:Int) ∈ flatR m
   ·rw [if_pos ⟨hkk.2 h2,(told j hj j1).2 hm⟩,if_pos ⟨h2,hm⟩]
   ·rw [if_neg (fun h=>hm ((told j hj j1).1 h.2)),if_neg (fun h=>hm h.2)]
  ·rw [if_neg (fun h=>h2 (hkk.1 h.1)),if_neg (fun h=>h2 h.1)]
 have pcT:∀x:Nat,1≤x→pC T x+(if lookV m m.root n=(x:Int) then 1 else 0)=pC m x+(if lo m n=true then 0 else (tableO m (n / 4)).count (x:Int))+(if d=x then 1 else 0):=fun x x1=>by
  have hsum:=sum_at (f:=toldT m.slots (flatR m) (x:Int)) (g:=toldT T.slots (flatR T) (x:Int)) (k:=t) 40 t40 (hoth x)
  rw [←pC_40 h40T,← pC_40 h40m] at hsum
  have e1:toldT T.slots (flatR T) (x:Int) t=((tableO m (n / 4)).set (n % 4) (d:Int)).count (x:Int):=by
   unfold toldT
   rw [if_pos ⟨kdt,tmem⟩]
   congr 1
   rw [←es_eq]
   unfold tabOf;rw [Int.toNat_natCast,hTs,hx.tab]
  have e2:=count_setI (d:Int) (x:Int) (tableO m (n / 4)) (n % 4) (by omega)
  rw [←hlkO] at e2
  rw [ite_cast d x]
  cases hb:lo m n with
  | true=>
   obtain⟨er,ek⟩:=htl1 hb
   have e3:toldT m.slots (flatR m) (x:Int) t=(tableO m (n / 4)).count (x:Int):=by
    unfold toldT
    have r1:1≤r:=by omega
    have hm:(t:Int) ∈ flatR m:=by
     rw [←er,← List.count_pos_iff]
     rcases hR with h | h
     ·omega
     ·exact h.2.2.1
    rw [if_pos ⟨ek,hm⟩]
    congr 1
    unfold tableO
    rw [hr,if_neg (by omega),er]
   rw [if_pos (show true=true from rfl)]
   omega
  | false=>
   have e3:toldT m.slots (flatR m) (x:Int) t=0:=by
    unfold toldT
    rw [if_neg (fun h=>by rw [htl0 hb] at h;exact absurd h.1 (by decide))]
   rw [if_neg (show ¬false=true by decide)]
   omega
 have hnso:¬(lo m n=true∧so m n=true):=fun ⟨a,b⟩=>hi (by rw [hw,a,b];rfl)
 -- nothing becomes free
 have hfree:∀j,kd T.slots j≠0→(cntL T).getD j 0≠0:=fun j hj=>by
  obtain⟨j1,jl⟩:=kd_one hsh hj
  have hok:=kd_cases z2 jl
  rcases hok with h0 | h1 | h2
  ·exact absurd h0 hj
  ·rw [cnt_page hsh h1]
   have hp:=pcT j j1
   by_cases ed:d=j
   ·rw [if_pos ed] at hp
    have:1≤(tableO m (n / 4)).count (lookV m m.root n):=List.count_pos_iff.2 (by rw [hlkO,getD_at (by omega)];exact List.getElem_mem (by omega))
    by_cases el:lookV m m.root n=(j:Int)
    ·exfalso
     have hkj:kd m.slots j≠0:=by
      rcases look_facts hC hk with h | ⟨e,he,e1,hke,_⟩
      ·omega
      ·have:e=j:=by omega
       rw [←this,hke];decide
     rw [←ed] at hkj
     exact hkj hkd
    ·rw [if_neg el] at hp;omega
   ·have hkm:kd m.slots j=1:=by
     have hjt:j≠t:=fun e=>by rw [e,kdt] at h1;cases h1
     by_cases hz0:kd m.slots j=0
     ·exfalso
      rw [hTs] at h1
      unfold wL tabL at h1
      rw [ht,hd] at h1
      rw [layS_kd (by
       have:=(grabN_spec (L:=tabL m (n / 4) (tableO m (n / 4))) (by unfold tabL;rw [layS_length];split <;> omega)).2.1
       unfold tabL at this
       rw [layS_length] at this ⊢
       rw [←hd,← ht];exact this),if_neg (fun e=>ed e.symm),layS_kd tl,if_neg hjt,hz0] at h1
      cases h1
     ·have:=hx.keep j hjt hz0
      rw [hTs] at h1
      unfold kd at h1 ⊢
      rw [←this];exact h1
    have hm1:1≤pC m j:=by
     have h3:=(checkE_zero hC).2.2 j (kd_one hs (by rw [hkm];decide)).2
     unfold freeAt at h3
     have h4:=cnt_page hs hkm
     rw [h4] at h3
     unfold kd at hkm
     rw [hkm] at h3
     simp at h3
     omega
    rw [if_neg ed] at hp
    by_cases el:lookV m m.root n=(j:Int)
    ·rw [if_pos el] at hp
     cases hb:lo m n with
     | true=>
      rw [hb,if_pos (show true=true from rfl)] at hp
      have:so m n=false:=by
       cases hc:so m n with
       | false=>rfl
       | true=>exact absurd ⟨hb,hc⟩ hnso
      unfold so at this
      rw [el,Int.toNat_natCast] at this
      have hpos:decide (0<(j:Int))=true:=by simp;omega
      rw [hpos,Bool.true_and] at this
      have:¬pC m j=1:=by simpa using this
      omega
     | false=>
      rw [hb,if_neg (show ¬false=true by decide)] at hp
      have:1≤(tableO m (n / 4)).count (j:Int):=List.count_pos_iff.2 (by rw [←el,hlkO,getD_at (by omega)];exact List.getElem_mem (by omega))
      omega
    ·rw [if_neg el] at hp;omega
  ·rw [cnt_tab hsh h2]
   by_cases ej:j=t
   ·subst ej
    have:0<tC T j:=List.count_pos_iff.2 tmem
    omega
   ·have hkm:kd m.slots j=2:=hx.tabs j ej (by rw [←hTs];exact h2)
    have hm1:1≤tC m j:=by
     have h3:=(checkE_zero hC).2.2 j (kd_one hs (by rw [hkm];decide)).2
     unfold freeAt at h3
     have h4:=cnt_tab hs hkm
     rw [h4] at h3
     unfold kd at hkm
     rw [hkm] at h3
     simp at h3
     omega
    have:0<tC T j:=List.count_pos_iff.2 ((told j ej j1).2 (List.count_pos_iff.1 hm1))
    omega
 have hlT:m.slots.length≤T.slots.length:=by
  rw [hTs];unfold wL tabL;rw [layS_length,layS_length];split <;> split <;> omega
 refine⟨counted_right hsh,hL.guest,hL.rlen,fun j hj=>?_,fun q hq hqn=>?_,t1,fun x=>?_,fun x=>tC_none hs t1 (by rw [htl0 x];decide),fun a b=>absurd ⟨a,b⟩ hnso,fun _=>pC_none hs d1 (by rw [hkd];decide),tc,fun x x1 xl=>?_,?_⟩
 ·show T.root.getD j 0=_
  rw [hTr,getD_setI]
  by_cases ej:j=n / 4
  ·rw [if_pos ⟨ej.symm,hj⟩,if_pos ej]
  ·rw [if_neg (fun h=>ej h.1.symm),if_neg ej]
 ·have e1:lookV (countedD T) (countedD T).root q=lookV T T.root q:=lookV_counted hsh (s:=(⟨#[]⟩,T.guest,T.root)) List.mem_cons_self (n:=q) (by show q / 4<T.root.length;rw [hL.rlen];exact hq)
  rw [e1,hL.look q hq]
  by_cases eq:q / 4=n / 4
  ·rw [if_pos eq,es_eq,lookV_tableO m q,eq]
   rw [getD_setI,if_neg (fun h=>by omega)]
  ·rw [if_neg eq]
 ·rw [hr,(htl1 x).1]
 ·rw [pC_counted hsh x1 (by omega)]
  exact pcT x x1
 ·have:usedN (countedD T).slots=usedN T.slots:=by
   rw [used_kd,used_kd]
   show (List.range (freeUn T.slots (cntL T)).length).countP _=_
   rw [freeUn_length]
   refine List.countP_congr (fun j hj=>?_)
   have hj:=List.mem_range.1 hj
   have e:kd (countedD T).slots j=if (cntL T).getD j 0=0 then 0 else kd T.slots j:=by
    show ((freeUn T.slots (cntL T)).getD j default).1=_
    rw [freeUn_get hj]
    split
    ·rfl
    ·rfl
   rw [e]
   by_cases hc:(cntL T).getD j 0=0
   ·rw [if_pos hc]
    have:kd T.slots j=0:=by
     by_cases h:kd T.slots j=0
     ·exact h
     ·exact absurd hc (hfree j h)
    rw [this]
   ·rw [if_neg hc]
  rw [this,hTs,hused]
  unfold need
  cases hb:lo m n with
  | true=>
   have:so m n=false:=by
    cases hc:so m n with
    | false=>rfl
    | true=>exact absurd ⟨hb,hc⟩ hnso
   rw [if_pos rfl,if_pos rfl,this,if_neg (by decide)]
  | false=>rw [if_neg (by decide),if_neg (by decide)]
theorem step_write {m:ImgD}(hC:checkE m=0){n:Nat}(hn:(n:Int)<m.guest){page:ByteArray}(hp:page.size=4){A:ImgD}(hA:writeD m n page=some A):∃t d,Step m A n t d:=by
 unfold writeD at hA
 by_cases hi:wInPl m n=true
 ·rw [if_pos hi] at hA
  cases hA
  exact step_in hC hn hp hi
 ·rw [if_neg hi] at hA
  by_cases h40:tabN m (n / 4)=40
  ·rw [if_pos h40] at hA;cases hA
  ·rw [if_neg h40] at hA
   by_cases hd:wD m n=40
   ·rw [if_pos hd] at hA;cases hA
   ·rw [if_neg hd] at hA
    cases hA
    exact⟨_,_,step_else hC hn hp hi h40 hd⟩
set_option linter.unusedSimpArgs false
abbrev pgA (l:List ByteArray) (k:Nat):ByteArray:=l.getD k ByteArray.empty
def isZ (p:ByteArray):Bool:=p.toList == Z4.toList
theorem isZ_eq {p:ByteArray}(h:isZ p=true):p=Z4:=by
 have e:p.toList=Z4.toList:=by simpa [isZ] using h
 have e:p.data.toList=Z4.data.toList:=by simpa [ByteArray.toList_eq] using e
 cases p with | mk x=>exact congrArg ByteArray.mk (Array.toList_inj.1 e)
def upS (l:List ByteArray):Nat→ImgD
 | 0=>freshD l.length
 | k+1=>if isZ (pgA l k)=true then upS l k else wrM (upS l k) (k:Int) (pgA l k)
theorem ckP_zero {l:List ByteArray}(h:ckP l=0):l.length≤16∧∀k,k<l.length→(pgA l k).size=4:=by
 unfold ckP at h
 split at h
 ·rename_i h16
  split at h
  ·rename_i ha
   refine⟨h16,fun k hk=>?_⟩
   rw [List.all_eq_true] at ha
   have:=ha l[k] (List.getElem_mem hk)
   have e:pgA l k=l[k]:=by simp [List.getD,hk]
   rw [e];simpa using this
  ·cases h
 ·cases h
theorem writeD_snaps {m M:ImgD}{n:Nat}{page:ByteArray}(h:writeD m n page=some M):M.snaps=m.snaps:=by
 unfold writeD at h
 split at h
 ·cases Option.some.inj h;rfl
 ·split at h
  ·cases h
  ·split at h
   ·cases h
   ·cases Option.some.inj h;rfl
theorem need_le (m:ImgD)(n:Nat):need m n≤2:=by unfold need;split <;> (try split) <;> omega
theorem setN_next {α:Type}(A:List α)(z x:α)(n:Nat):(A ++ List.replicate (n+1) z).set A.length x=A ++ x :: List.replicate n z:=by
 rw [List.set_append,if_neg (Nat.lt_irrefl _),Nat.sub_self,List.replicate_succ,List.set_cons_zero]
structure UpF (l:List ByteArray) (k:Nat) (m:ImgD):Prop where
 right:checkE m=0
 guest:m.guest=(l.length:Int)
 used:usedN m.slots≤2*k
 snaps:m.snaps=[]
 all:allV m=l.take k ++ List.replicate (l.length - k) Z4
theorem fresh_all:∀k:Nat,k≤16→allV (freshD k)=List.replicate k Z4
 | 0,_=>by kernel_rfl
 | 1,_=>by kernel_rfl
 | 2,_=>by kernel_rfl
 | 3,_=>by kernel_rfl
 | 4,_=>by kernel_rfl
 | 5,_=>by kernel_rfl
 | 6,_=>by kernel_rfl
 | 7,_=>by kernel_rfl
 | 8,_=>by kernel_rfl
 | 9,_=>by kernel_rfl
 | 10,_=>by kernel_rfl
 | 11,_=>by kernel_rfl
 | 12,_=>by kernel_rfl
 | 13,_=>by kernel_rfl
 | 14,_=>by kernel_rfl
 | 15,_=>by kernel_rfl
 | 16,_=>by kernel_rfl
 | k+17,h=>absurd h (by omega)
theorem up_step {l:List ByteArray}(h:ckP l=0){k:Nat}(hk:k<l.length)(f:UpF l k (upS l k)):UpF l (k+1) (upS l (k+1))∧(isZ (pgA l k)=false→wrE (upS l k) (k:Int) (pgA l k)=0):=by
 obtain⟨h16,h4⟩:=ckP_zero h
 have e:pgA l k=l[k]:=by simp [List.getD,hk]
 have htk:l.take (k+1)=l.take k ++ [pgA l k]:=by rw [e];exact (List.take_append_getElem hk).symm
 have hlen:(l.take k).length=k:=by rw [List.length_take];omega
 have hrep:l.length - k=(l.length - (k+1))+1:=by omega
 by_cases hz:isZ (pgA l k)=true
 ·have hu:upS l (k+1)=upS l k:=by show (if _ then _ else _)=_;rw [if_pos hz]
  refine⟨?_,fun x=>by rw [hz] at x;cases x⟩
  rw [hu]
  refine⟨f.right,f.guest,by have:=f.used;omega,f.snaps,?_⟩
  rw [f.all,htk,isZ_eq hz,hrep,List.replicate_succ,List.append_assoc];rfl
 ·have hu:upS l (k+1)=wrM (upS l k) (k:Int) (pgA l k):=by show (if _ then _ else _)=_;rw [if_neg hz]
  have hkg:(k:Int)<(upS l k).guest:=by rw [f.guest];omega
  have hl:lookE (upS l k) (k:Int)=0:=lookE_of f.right hkg
  have hne:writeD (upS l k) k (pgA l k)≠none:=fun x=>by
   have:=(write_none f.right hkg (pgA l k)).1 x
   have:=f.used
   have:=need_le (upS l k) k
   omega
  obtain⟨A,hA⟩:∃A,writeD (upS l k) k (pgA l k)=some A:=by cases hx:writeD (upS l k) k (pgA l k) with | none=>exact absurd hx hne | some A=>exact⟨A,rfl⟩
  have he:wrE (upS l k) (k:Int) (pgA l k)=0:=by
   unfold wrE
   rw [if_neg (by rw [hl];simp),if_pos (h4 k hk),Int.toNat_natCast,hA];rfl
  obtain⟨_,_,hw,W⟩:=wr_ok he
  rw [Int.toNat_natCast] at hw W
  obtain⟨t,d,S⟩:=step_write f.right hkg (h4 k hk) hw
  refine⟨?_,fun _=>he⟩
  rw [hu]
  refine⟨W.right,W.guest.trans f.guest,?_,(writeD_snaps hw).trans f.snaps,?_⟩
  ·have:=S.used
   have:=f.used
   have:=need_le (upS l k) k
   omega
  ·rw [W.all,f.all,hrep,htk,List.append_assoc]
   have:=setN_next (l.take k) Z4 (pgA l k) (l.length - (k+1))
   rw [hlen] at this
   exact this
theorem up_facts {l:List ByteArray}(h:ckP l=0):∀k,k≤l.length→UpF l k (upS l k)
 | 0,_=>by
  obtain⟨h16,_⟩:=ckP_zero h
  refine⟨(frs_is _ h16).2.2,rfl,Nat.le_of_eq rfl,rfl,?_⟩
  rw [List.take_zero,List.nil_append,Nat.sub_zero]
  exact fresh_all _ h16
 | k+1,hk=>(up_step h (by omega) (up_facts h k (by omega))).1
end Go.Proofs.YtehleeibgkpjmafGreat
