/- Texts joined: WrY, WrW, WrU, Cut, WrE, WrZ, WrRz, WrB, SkW, Pair, FrI, SkC, RdP, RdB, SkR, CpyS, SkF, SkO, SameInts, OwA. -/
import Derived.Test.YtehleeibgkpjmagGreatRestImagesJ8
import Derived.Test.YtehleeibgkpjmagGreatRestImagesJ1
import Derived.Test.YtehleeibgkpjmagGreatRestImagesJ7
import Derived.Test.YtehleeibgkpjmagGreatRestImagesJ4
import Derived.BigQuiet
import Derived.Laws.CopyRow
import Derived.Laws.IdiomCopy
import Derived.Test.YtehleeibgkpjmagGreatRestImagesJ6
import Derived.Deep.RegionHeld
import Derived.Deep.AppendLies
import Derived.Test.YtehleeibgkpjmagGreatRestImagesJ3
import Derived.Deep.QuietTactic
import Derived.Test.YtehleeibgkpjmagGreatRestImagesJ5
import Derived.Deep.RegionLaw
import Derived.Deep.CutRange
set_option linter.unusedVariables false
set_option linter.unusedSimpArgs false
set_option maxHeartbeats 200000000
set_option maxRecDepth 20000
namespace Go.Proofs.YtehleeibgkpjmagGreat
open Go.RowKit Go.Shelf
theorem QlS {page:ByteArray}(h:page.size=4):Qfk 1 page []=0:=by
 unfold Qfk QaZ;simp [h]
theorem Qh4 {page:ByteArray}(h:page.size≠4):Qfk 1 page []=1:=by
 unfold Qfk QaZ;simp [h]
theorem QhP (m:ImgD)(ra:Option Addr)(rn rc:Nat)(sa:Option Addr)(sn sc:Nat)(fa:Option Addr)(fn fc:Nat)(na:Option Addr)(nn nc:Nat)(n E:Int)(page:ByteArray)(w:World)(h:Img w (.agg (bI m.guest ra rn rc sa sn sc fa fn fc na nn nc)) m)(hl:Qbk m n=E)(hE:(E != 0)=true) :
  Calls Tryz.prog 7 #[.agg (bI m.guest ra rn rc sa sn sc fa fn fc na nn nc),.int .i64 n,.string page] w (AnsI w w.heap.size imgZ E):=by
 have b0:Below w.heap.size w (((w.alloc (.cells (bI m.guest ra rn rc sa sn sc fa fn fc na nn nc) 26)).alloc (.cells #[.int .i64 n] 3)).alloc zI):=(((Below.refl _ _).alloc (by simp;try omega) _).alloc (by simp;try omega) _).alloc (by simp;try omega) _;have q0:(w.alloc (.cells (bI m.guest ra rn rc sa sn sc fa fn fc na nn nc) 26)).heap[w.heap.size]? = some (.cells (bI m.guest ra rn rc sa sn sc fa fn fc na nn nc) 26):=by have:=World.alloc_heap_new w (.cells (bI m.guest ra rn rc sa sn sc fa fn fc na nn nc) 26);simpa using this
 have m0:(((w.alloc (.cells (bI m.guest ra rn rc sa sn sc fa fn fc na nn nc) 26)).alloc (.cells #[.int .i64 n] 3)).alloc zI).heap[w.heap.size]? = some (.cells (bI m.guest ra rn rc sa sn sc fa fn fc na nn nc) 26):=(Qac (Qac q0 _) _);have q1:((w.alloc (.cells (bI m.guest ra rn rc sa sn sc fa fn fc na nn nc) 26)).alloc (.cells #[.int .i64 n] 3)).heap[w.heap.size+1]? = some (.cells #[.int .i64 n] 3):=by have:=World.alloc_heap_new (w.alloc (.cells (bI m.guest ra rn rc sa sn sc fa fn fc na nn nc) 26)) (.cells #[.int .i64 n] 3);simpa using this
 have m1:(((w.alloc (.cells (bI m.guest ra rn rc sa sn sc fa fn fc na nn nc) 26)).alloc (.cells #[.int .i64 n] 3)).alloc zI).heap[w.heap.size+1]? = some (.cells #[.int .i64 n] 3):=(Qac q1 _);have q2:(((w.alloc (.cells (bI m.guest ra rn rc sa sn sc fa fn fc na nn nc) 26)).alloc (.cells #[.int .i64 n] 3)).alloc zI).heap[w.heap.size+1+1]? = some zI:=by have:=World.alloc_heap_new ((w.alloc (.cells (bI m.guest ra rn rc sa sn sc fa fn fc na nn nc) 26)).alloc (.cells #[.int .i64 n] 3)) zI;simpa using this
 have m2:(((w.alloc (.cells (bI m.guest ra rn rc sa sn sc fa fn fc na nn nc) 26)).alloc (.cells #[.int .i64 n] 3)).alloc zI).heap[w.heap.size+1+1]? = some zI:=q2;have hz:(((w.alloc (.cells (bI m.guest ra rn rc sa sn sc fa fn fc na nn nc) 26)).alloc (.cells #[.int .i64 n] 3)).alloc zI).heap.size=w.heap.size+1+1+1:=by simp
 clear q0 q1 q2;have hE0:¬E=0:=by simpa using hE
 have hlook:=Qfr (h.below b0) n hl (if_neg hE0);obtain⟨c0,c1,c2,c3,c4⟩:=five m0;have cn:=one m1;have HM:Hid ((((w.alloc (.cells (bI m.guest ra rn rc sa sn sc fa fn fc na nn nc) 26)).alloc (.cells #[.int .i64 n] 3)).alloc zI).heap[w.heap.size+1+1]? = some zI∧Below w.heap.size w (((w.alloc (.cells (bI m.guest ra rn rc sa sn sc fa fn fc na nn nc) 26)).alloc (.cells #[.int .i64 n] 3)).alloc zI)∧(((w.alloc (.cells (bI m.guest ra rn rc sa sn sc fa fn fc na nn nc) 26)).alloc (.cells #[.int .i64 n] 3)).alloc zI).heap.size=w.heap.size+1+1+1):=⟨m2,b0,hz⟩;clear h m0 m1 m2 hz hl b0
 go_enter Tryz.func7,Tryz.ntmps7
 go_wp2_with (go_at_call 23;refine hlook.mono ?_;rintro e w1 ⟨rfl,b1⟩;have k3:=Qac (Qab HM.out.1 b1 (by rw [HM.out.2.2];omega)) (.cells #[.int .i64 0] 3);obtain⟨z0,z1,z2,z3,z4⟩:=five k3;have y0:=Qaa k3 0;have y1:=Qaa k3 1;have y2:=Qaa k3 2;have y3:=Qaa k3 3;have y4:=Qaa k3 4;have hsz:w.heap.size+1+1+1≤w1.heap.size:=(by have:=b1.size;rw [HM.out.2.2] at this;exact this);have HB:Hid (Below w.heap.size w (w1.alloc (.cells #[.int .i64 0] 3))):=(Below.on HM.out.2.1 b1).alloc (by omega) _;clear b1 k3);have i1:w.heap.size≤w.heap.size+1+1:=by omega
 refine bodyPost_ret (v:=.tuple #[.agg #[.int .i64 0,nl,nl,nl,nl],.int .i64 E]) (by simp [results,Tryz.results7,go_sem,z0,z1,z2,z3,z4]) rfl (AnsI.bad E (((((HB.out.setCell i1 _).setCell i1 _).setCell i1 _).setCell i1 _).setCell i1 _))
theorem Qgi (m:ImgD)(ra:Option Addr)(rn rc:Nat)(sa:Option Addr)(sn sc:Nat)(fa:Option Addr)(fn fc:Nat)(na:Option Addr)(nn nc:Nat)(n:Nat)(page:ByteArray)(w:World)(h:Img w (.agg (bI m.guest ra rn rc sa sn sc fa fn fc na nn nc)) m)(hl:Qbk m (n:Int)=0)(hp:page.size≠4)(k:Int)(hk:QaT m m.root n=k) :
  Calls Tryz.prog 7 #[.agg (bI m.guest ra rn rc sa sn sc fa fn fc na nn nc),.int .i64 (n:Int),.string page] w (AnsI w w.heap.size imgZ 1):=by
 have b0:Below w.heap.size w (((w.alloc (.cells (bI m.guest ra rn rc sa sn sc fa fn fc na nn nc) 26)).alloc (.cells #[.int .i64 (n:Int)] 3)).alloc zI):=(((Below.refl _ _).alloc (by simp;try omega) _).alloc (by simp;try omega) _).alloc (by simp;try omega) _;have q0:(w.alloc (.cells (bI m.guest ra rn rc sa sn sc fa fn fc na nn nc) 26)).heap[w.heap.size]? = some (.cells (bI m.guest ra rn rc sa sn sc fa fn fc na nn nc) 26):=by have:=World.alloc_heap_new w (.cells (bI m.guest ra rn rc sa sn sc fa fn fc na nn nc) 26);simpa using this
 have m0:(((w.alloc (.cells (bI m.guest ra rn rc sa sn sc fa fn fc na nn nc) 26)).alloc (.cells #[.int .i64 (n:Int)] 3)).alloc zI).heap[w.heap.size]? = some (.cells (bI m.guest ra rn rc sa sn sc fa fn fc na nn nc) 26):=(Qac (Qac q0 _) _);have q1:((w.alloc (.cells (bI m.guest ra rn rc sa sn sc fa fn fc na nn nc) 26)).alloc (.cells #[.int .i64 (n:Int)] 3)).heap[w.heap.size+1]? = some (.cells #[.int .i64 (n:Int)] 3):=by have:=World.alloc_heap_new (w.alloc (.cells (bI m.guest ra rn rc sa sn sc fa fn fc na nn nc) 26)) (.cells #[.int .i64 (n:Int)] 3);simpa using this
 have m1:(((w.alloc (.cells (bI m.guest ra rn rc sa sn sc fa fn fc na nn nc) 26)).alloc (.cells #[.int .i64 (n:Int)] 3)).alloc zI).heap[w.heap.size+1]? = some (.cells #[.int .i64 (n:Int)] 3):=(Qac q1 _);have q2:(((w.alloc (.cells (bI m.guest ra rn rc sa sn sc fa fn fc na nn nc) 26)).alloc (.cells #[.int .i64 (n:Int)] 3)).alloc zI).heap[w.heap.size+1+1]? = some zI:=by have:=World.alloc_heap_new ((w.alloc (.cells (bI m.guest ra rn rc sa sn sc fa fn fc na nn nc) 26)).alloc (.cells #[.int .i64 (n:Int)] 3)) zI;simpa using this
 have m2:(((w.alloc (.cells (bI m.guest ra rn rc sa sn sc fa fn fc na nn nc) 26)).alloc (.cells #[.int .i64 (n:Int)] 3)).alloc zI).heap[w.heap.size+1+1]? = some zI:=q2;have hz:(((w.alloc (.cells (bI m.guest ra rn rc sa sn sc fa fn fc na nn nc) 26)).alloc (.cells #[.int .i64 (n:Int)] 3)).alloc zI).heap.size=w.heap.size+1+1+1:=by simp
 clear q0 q1 q2;have hlook:=Qfr (c:=k) (h.below b0) (n:Int) hl (by rw [if_pos rfl,Int.toNat_natCast];exact hk);obtain⟨c0,c1,c2,c3,c4⟩:=five m0;have cn:=one m1;have HC:Hid (∀w1:World,Calls Tryz.prog 24 #[.agg #[.int .i64 1,.string page,nl]] ((w1.alloc (.cells #[.int .i64 k] 3)).alloc (.cells #[.int .i64 1,.string page,nl] 37)) fun r w'=>r=.returned (.int .i64 1)∧Below ((w1.alloc (.cells #[.int .i64 k] 3)).alloc (.cells #[.int .i64 1,.string page,nl] 37)).heap.size ((w1.alloc (.cells #[.int .i64 k] 3)).alloc (.cells #[.int .i64 1,.string page,nl] 37)) w'):=fun w1=>QhJ (Sl.nil _) (Qh4 hp)
 have HM:Hid ((((w.alloc (.cells (bI m.guest ra rn rc sa sn sc fa fn fc na nn nc) 26)).alloc (.cells #[.int .i64 (n:Int)] 3)).alloc zI).heap[w.heap.size+1+1]? = some zI∧Below w.heap.size w (((w.alloc (.cells (bI m.guest ra rn rc sa sn sc fa fn fc na nn nc) 26)).alloc (.cells #[.int .i64 (n:Int)] 3)).alloc zI)∧(((w.alloc (.cells (bI m.guest ra rn rc sa sn sc fa fn fc na nn nc) 26)).alloc (.cells #[.int .i64 (n:Int)] 3)).alloc zI).heap.size=w.heap.size+1+1+1):=⟨m2,b0,hz⟩;clear h m0 m1 m2 hz hl b0 hk hp
 go_enter Tryz.func7,Tryz.ntmps7
 go_wp2_with (first | (go_at_call 24;refine hck.mono ?_;rintro e w2 ⟨rfl,b2⟩;have k3:=Qab HW.out.1 b2 HW.out.2.2;obtain⟨z0,z1,z2,z3,z4⟩:=five k3;have y0:=Qaa k3 0;have y1:=Qaa k3 1;have y2:=Qaa k3 2;have y3:=Qaa k3 3;have y4:=Qaa k3 4;have HB:Hid (Below w.heap.size w w2):=Below.on HW.out.2.1 b2;clear b2 k3) | (go_at_call 23;refine hlook.mono ?_;rintro e w1 ⟨rfl,b1⟩;have hsz:w.heap.size+1+1+1≤w1.heap.size:=(by have:=b1.size;rw [HM.out.2.2] at this;exact this);have hz1:((w1.alloc (.cells #[.int .i64 k] 3)).alloc (.cells #[.int .i64 1,.string page,nl] 37)).heap.size=w1.heap.size+1+1:=(by simp);have HW:Hid (((w1.alloc (.cells #[.int .i64 k] 3)).alloc (.cells #[.int .i64 1,.string page,nl] 37)).heap[w.heap.size+1+1]? = some zI∧Below w.heap.size w ((w1.alloc (.cells #[.int .i64 k] 3)).alloc (.cells #[.int .i64 1,.string page,nl] 37))∧w.heap.size+1+1<((w1.alloc (.cells #[.int .i64 k] 3)).alloc (.cells #[.int .i64 1,.string page,nl] 37)).heap.size):=(⟨Qac (Qac (Qab HM.out.1 b1 (by rw [HM.out.2.2];omega)) _) _,((Below.on HM.out.2.1 b1).alloc (by omega) _).alloc (by simp;omega) _,by rw [hz1];omega⟩);have qq:((w1.alloc (.cells #[.int .i64 k] 3)).alloc (.cells #[.int .i64 1,.string page,nl] 37)).heap[w1.heap.size+1]? = some (.cells #[.int .i64 1,.string page,nl] 37):=(by have:=World.alloc_heap_new (w1.alloc (.cells #[.int .i64 k] 3)) (.cells #[.int .i64 1,.string page,nl] 37);simpa using this);obtain⟨u0,u1,u2⟩:=Qb6 qq;have hck:=HC.out w1;clear b1 hz1 hsz qq));have i1:w.heap.size≤w.heap.size+1+1:=by omega
 refine bodyPost_ret (v:=.tuple #[.agg #[.int .i64 0,nl,nl,nl,nl],.int .i64 1]) (by simp [results,Tryz.results7,go_sem,z0,z1,z2,z3,z4]) rfl (AnsI.bad 1 (((((HB.out.setCell i1 _).setCell i1 _).setCell i1 _).setCell i1 _).setCell i1 _))
theorem Qip (m:ImgD)(ra:Option Addr)(rn rc:Nat)(sa:Option Addr)(sn sc:Nat)(fa:Option Addr)(fn fc:Nat)(na:Option Addr)(nn nc:Nat)(n:Nat)(page:ByteArray)(w:World)(h:Img w (.agg (bI m.guest ra rn rc sa sn sc fa fn fc na nn nc)) m)(hF:Fits m)(hl:Qbk m (n:Int)=0)(hp:page.size=4)(k:Int)(hk:QaT m m.root n=k)(M:ImgD)(hM:ofM (wrP m n page)=M)(er:Int)(her:ofE (wrP m n page)=er) :
  Calls Tryz.prog 7 #[.agg (bI m.guest ra rn rc sa sn sc fa fn fc na nn nc),.int .i64 (n:Int),.string page] w (AnsI w w.heap.size M er):=by
 have b0:Below w.heap.size w (((w.alloc (.cells (bI m.guest ra rn rc sa sn sc fa fn fc na nn nc) 26)).alloc (.cells #[.int .i64 (n:Int)] 3)).alloc zI):=(((Below.refl _ _).alloc (by simp;try omega) _).alloc (by simp;try omega) _).alloc (by simp;try omega) _;have q0:(w.alloc (.cells (bI m.guest ra rn rc sa sn sc fa fn fc na nn nc) 26)).heap[w.heap.size]? = some (.cells (bI m.guest ra rn rc sa sn sc fa fn fc na nn nc) 26):=by have:=World.alloc_heap_new w (.cells (bI m.guest ra rn rc sa sn sc fa fn fc na nn nc) 26);simpa using this
 have m0:(((w.alloc (.cells (bI m.guest ra rn rc sa sn sc fa fn fc na nn nc) 26)).alloc (.cells #[.int .i64 (n:Int)] 3)).alloc zI).heap[w.heap.size]? = some (.cells (bI m.guest ra rn rc sa sn sc fa fn fc na nn nc) 26):=(Qac (Qac q0 _) _);have q1:((w.alloc (.cells (bI m.guest ra rn rc sa sn sc fa fn fc na nn nc) 26)).alloc (.cells #[.int .i64 (n:Int)] 3)).heap[w.heap.size+1]? = some (.cells #[.int .i64 (n:Int)] 3):=by have:=World.alloc_heap_new (w.alloc (.cells (bI m.guest ra rn rc sa sn sc fa fn fc na nn nc) 26)) (.cells #[.int .i64 (n:Int)] 3);simpa using this
 have m1:(((w.alloc (.cells (bI m.guest ra rn rc sa sn sc fa fn fc na nn nc) 26)).alloc (.cells #[.int .i64 (n:Int)] 3)).alloc zI).heap[w.heap.size+1]? = some (.cells #[.int .i64 (n:Int)] 3):=(Qac q1 _);have q2:(((w.alloc (.cells (bI m.guest ra rn rc sa sn sc fa fn fc na nn nc) 26)).alloc (.cells #[.int .i64 (n:Int)] 3)).alloc zI).heap[w.heap.size+1+1]? = some zI:=by have:=World.alloc_heap_new ((w.alloc (.cells (bI m.guest ra rn rc sa sn sc fa fn fc na nn nc) 26)).alloc (.cells #[.int .i64 (n:Int)] 3)) zI;simpa using this
 have m2:(((w.alloc (.cells (bI m.guest ra rn rc sa sn sc fa fn fc na nn nc) 26)).alloc (.cells #[.int .i64 (n:Int)] 3)).alloc zI).heap[w.heap.size+1+1]? = some zI:=q2;have hz:(((w.alloc (.cells (bI m.guest ra rn rc sa sn sc fa fn fc na nn nc) 26)).alloc (.cells #[.int .i64 (n:Int)] 3)).alloc zI).heap.size=w.heap.size+1+1+1:=by simp
 clear q0 q1 q2;obtain⟨hC,_,hn⟩:=QcY hl;have hlook:=Qfr (c:=k) (h.below b0) (n:Int) hl (by rw [if_pos rfl,Int.toNat_natCast];exact hk);obtain⟨c0,c1,c2,c3,c4⟩:=five m0;have cn:=one m1;have HC:Hid (∀w1:World,Calls Tryz.prog 24 #[.agg #[.int .i64 1,.string page,nl]] ((w1.alloc (.cells #[.int .i64 k] 3)).alloc (.cells #[.int .i64 1,.string page,nl] 37)) fun r w'=>r=.returned (.int .i64 0)∧Below ((w1.alloc (.cells #[.int .i64 k] 3)).alloc (.cells #[.int .i64 1,.string page,nl] 37)).heap.size ((w1.alloc (.cells #[.int .i64 k] 3)).alloc (.cells #[.int .i64 1,.string page,nl] 37)) w'):=fun w1=>QhJ (Sl.nil _) (QlS hp)
 have HO:Hid (∀w1 w2,Below (((w.alloc (.cells (bI m.guest ra rn rc sa sn sc fa fn fc na nn nc) 26)).alloc (.cells #[.int .i64 (n:Int)] 3)).alloc zI).heap.size (((w.alloc (.cells (bI m.guest ra rn rc sa sn sc fa fn fc na nn nc) 26)).alloc (.cells #[.int .i64 (n:Int)] 3)).alloc zI) w1→Below ((w1.alloc (.cells #[.int .i64 k] 3)).alloc (.cells #[.int .i64 1,.string page,nl] 37)).heap.size ((w1.alloc (.cells #[.int .i64 k] 3)).alloc (.cells #[.int .i64 1,.string page,nl] 37)) w2→Calls Tryz.prog 25 #[.agg (bI m.guest ra rn rc sa sn sc fa fn fc na nn nc),.func (.func 26) #[] #[.pointer (some ⟨w1.heap.size,0,none⟩),.pointer (some ⟨w.heap.size+1,0,none⟩),.pointer (some ⟨w1.heap.size+1,0,none⟩)]] w2 (AnsI w2 w2.heap.size M er)):=fun w1 w2 b1 b2=>by
  have hsz:w.heap.size+1+1+1≤w1.heap.size:=(by have:=b1.size;rw [hz] at this;exact this);have hz1:((w1.alloc (.cells #[.int .i64 k] 3)).alloc (.cells #[.int .i64 1,.string page,nl] 37)).heap.size=w1.heap.size+1+1:=by simp
  have q0:((w1.alloc (.cells #[.int .i64 k] 3)).alloc (.cells #[.int .i64 1,.string page,nl] 37)).heap[w1.heap.size]? = some (.cells #[.int .i64 k] 3):=Qac (zHn _ _) _;have qq:((w1.alloc (.cells #[.int .i64 k] 3)).alloc (.cells #[.int .i64 1,.string page,nl] 37)).heap[w1.heap.size+1]? = some (.cells #[.int .i64 1,.string page,nl] 37):=by have:=World.alloc_heap_new (w1.alloc (.cells #[.int .i64 k] 3)) (.cells #[.int .i64 1,.string page,nl] 37);simpa using this
  have qn:=Qac (Qac (Qab m1 b1 (by rw [hz];omega)) (.cells #[.int .i64 k] 3)) (.cells #[.int .i64 1,.string page,nl] 37);have r0:=one (Qab q0 b2 (by rw [hz1];omega));have rn:=one (Qab qn b2 (by rw [hz1];omega));obtain⟨r1,r2,r3⟩:=Qb6 (Qab qq b2 (by rw [hz1];omega));have hsz2:w1.heap.size+1+1≤w2.heap.size:=by have:=b2.size;rw [hz1] at this;exact this
  have bb:Below w.heap.size w ((w1.alloc (.cells #[.int .i64 k] 3)).alloc (.cells #[.int .i64 1,.string page,nl] 37)):=((Below.on b0 b1).alloc (by omega) _).alloc (by simp;omega) _;rw [←hM,← her];exact Qke (h.below (Below.on bb b2)) hF (enters_of Tryz.func26 (by kernel_rfl) rfl) (Qkf r0 rn r1 r2 r3 (by omega) (by omega) (by omega) hC hn hk)
 have HM:Hid ((((w.alloc (.cells (bI m.guest ra rn rc sa sn sc fa fn fc na nn nc) 26)).alloc (.cells #[.int .i64 (n:Int)] 3)).alloc zI).heap[w.heap.size]? = some (.cells (bI m.guest ra rn rc sa sn sc fa fn fc na nn nc) 26)∧(((w.alloc (.cells (bI m.guest ra rn rc sa sn sc fa fn fc na nn nc) 26)).alloc (.cells #[.int .i64 (n:Int)] 3)).alloc zI).heap[w.heap.size+1+1]? = some zI∧Below w.heap.size w (((w.alloc (.cells (bI m.guest ra rn rc sa sn sc fa fn fc na nn nc) 26)).alloc (.cells #[.int .i64 (n:Int)] 3)).alloc zI)∧(((w.alloc (.cells (bI m.guest ra rn rc sa sn sc fa fn fc na nn nc) 26)).alloc (.cells #[.int .i64 (n:Int)] 3)).alloc zI).heap.size=w.heap.size+1+1+1):=⟨m0,m2,b0,hz⟩;clear h m0 m1 m2 hz hl b0 hC hn hk hM her hF hp
 go_enter Tryz.func7,Tryz.ntmps7
 go_wp2_with (first | (go_at_call 24;refine hck.mono ?_;rintro e w2 ⟨rfl,b2⟩;have d0:=Qab HW.out.2.2.2.1 b2 (by have:=HW.out.2.2.1;omega);obtain⟨d1,d2,d3,d4,d5⟩:=five d0;have hof:=HO.out w1 w2 HW.out.2.2.2.2 b2;have HV:Hid (Below w.heap.size w w2∧w2.heap[w.heap.size+1+1]? = some zI∧w.heap.size+1+1<w2.heap.size):=(⟨Below.on HW.out.2.1 b2,Qab HW.out.1 b2 HW.out.2.2.1,Nat.lt_of_lt_of_le HW.out.2.2.1 b2.size⟩);clear b2 d0) | (go_at_call 23;refine hlook.mono ?_;rintro e w1 ⟨rfl,b1⟩;have hsz:w.heap.size+1+1+1≤w1.heap.size:=(by have:=b1.size;rw [HM.out.2.2.2] at this;exact this);have hz1:((w1.alloc (.cells #[.int .i64 k] 3)).alloc (.cells #[.int .i64 1,.string page,nl] 37)).heap.size=w1.heap.size+1+1:=(by simp);have HW:Hid (((w1.alloc (.cells #[.int .i64 k] 3)).alloc (.cells #[.int .i64 1,.string page,nl] 37)).heap[w.heap.size+1+1]? = some zI∧Below w.heap.size w ((w1.alloc (.cells #[.int .i64 k] 3)).alloc (.cells #[.int .i64 1,.string page,nl] 37))∧w.heap.size+1+1<((w1.alloc (.cells #[.int .i64 k] 3)).alloc (.cells #[.int .i64 1,.string page,nl] 37)).heap.size∧((w1.alloc (.cells #[.int .i64 k] 3)).alloc (.cells #[.int .i64 1,.string page,nl] 37)).heap[w.heap.size]? = some (.cells (bI m.guest ra rn rc sa sn sc fa fn fc na nn nc) 26)∧Below (((w.alloc (.cells (bI m.guest ra rn rc sa sn sc fa fn fc na nn nc) 26)).alloc (.cells #[.int .i64 (n:Int)] 3)).alloc zI).heap.size (((w.alloc (.cells (bI m.guest ra rn rc sa sn sc fa fn fc na nn nc) 26)).alloc (.cells #[.int .i64 (n:Int)] 3)).alloc zI) w1):=(⟨Qac (Qac (Qab HM.out.2.1 b1 (by rw [HM.out.2.2.2];omega)) _) _,((Below.on HM.out.2.2.1 b1).alloc (by omega) _).alloc (by simp;omega) _,by rw [hz1];omega,Qac (Qac (Qab HM.out.1 b1 (by rw [HM.out.2.2.2];omega)) _) _,b1⟩);have qq:((w1.alloc (.cells #[.int .i64 k] 3)).alloc (.cells #[.int .i64 1,.string page,nl] 37)).heap[w1.heap.size+1]? = some (.cells #[.int .i64 1,.string page,nl] 37):=(by have:=World.alloc_heap_new (w1.alloc (.cells #[.int .i64 k] 3)) (.cells #[.int .i64 1,.string page,nl] 37);simpa using this);obtain⟨u0,u1,u2⟩:=Qb6 qq;have hck:=HC.out w1;clear b1 hz1 hsz qq));refine hof.mono ?_;intro e w3 hA;obtain⟨val,ga,gc,la,lc,oa,oc,ta,tc,rfl,hO,b1,hI⟩:=hA.open;dsimp only;have k3:=Qab HV.out.2.1 b1 HV.out.2.2;obtain⟨z0,z1,z2,z3,z4⟩:=five k3;have y0:=Qaa k3 0;have y1:=Qaa k3 1;have y2:=Qaa k3 2;have y3:=Qaa k3 3;have y4:=Qaa k3 4;have HP:Hid (OI w3 w2.heap.size val M):=hO;have HB:Hid (Below w.heap.size w w3):=Below.on HV.out.1 b1;have HI:Hid (imgV M.guest val=.agg (aI M ga gc la lc oa oc ta tc)):=hI;clear hO b1 hI hof hA;go_wp2_with fail;have i1:w.heap.size≤w.heap.size+1+1:=by omega
 have hf1:∀a,Live M a→(val a).ownBlock≠some (w.heap.size+1+1):=fun a ha e=>by have:=((HP.out.row a ha).lt _ e).1;have:=HV.out.2.2;omega
 refine bodyPost_ret (v:=.tuple #[.agg (aI M ga gc la lc oa oc ta tc),.int .i64 er]) (by simp [results,Tryz.results7,go_sem,z0,z1,z2,z3,z4]) rfl ⟨val,by rw [HI.out],OI.mono (((((HP.out.far hf1).far hf1).far hf1).far hf1).far hf1) (by have:=HV.out.2.2;omega),((((HB.out.setCell i1 _).setCell i1 _).setCell i1 _).setCell i1 _).setCell i1 _⟩
def wrE (m:ImgD) (n:Int) (page:ByteArray):Int:=if Qbk m n≠0 then Qbk m n else if page.size=4 then errO (QbV m n.toNat page) else 1
def wrM (m:ImgD) (n:Int) (page:ByteArray):ImgD:=if Qbk m n≠0 then imgZ else if page.size=4 then (QbV m n.toNat page).getD imgZ else imgZ
theorem Qja {w:World}{v:Value}{m:ImgD}(h:Img w v m)(n:Int)(page:ByteArray) :
  Calls Tryz.prog 7 #[v,.int .i64 n,.string page] w (AnsI w w.heap.size (wrM m n page) (wrE m n page)):=by
 have h':=h;obtain⟨ra,rc,sa,sc,fa,fc,na,nc,rfl,_⟩:=h.parts;unfold wrM wrE
 by_cases hl:Qbk m n=0
 ·have hl0:¬Qbk m n≠0:=fun x=>x hl
  rw [if_neg hl0,if_neg hl0];obtain⟨hC,h0,hn⟩:=QcY hl;obtain⟨j,rfl⟩:=Int.eq_ofNat_of_zero_le h0;rw [Int.toNat_natCast]
  by_cases hp:page.size=4
  ·rw [if_pos hp,if_pos hp];have hM:=Qmw hC hn hp;exact Qip m ra _ rc sa _ sc fa _ fc na _ nc j page w h' (Qbx (Qal hC)) hl hp _ rfl _ hM.m _ hM.e
  ·rw [if_neg hp,if_neg hp];exact Qgi m ra _ rc sa _ sc fa _ fc na _ nc j page w h' hl hp _ rfl
 ·rw [if_pos hl,if_pos hl];exact QhP m ra _ rc sa _ sc fa _ fc na _ nc n _ page w h' rfl (by simp [hl])

theorem QoD (m:ImgD)(ra:Option Addr)(rn rc:Nat)(sa:Option Addr)(sn sc:Nat)(fa:Option Addr)(fn fc:Nat)(na:Option Addr)(nn nc:Nat)(n:Int)(w:World)(h:Img w (.agg (bI m.guest ra rn rc sa sn sc fa fn fc na nn nc)) m)(M:ImgD)(hM:(if Qbk m n=0 then (putD m n.toNat (-1)).getD imgZ else imgZ)=M)(er:Int)(her:(if Qbk m n=0 then errO (putD m n.toNat (-1)) else Qbk m n)=er) :
  Calls Tryz.prog 20 #[.agg (bI m.guest ra rn rc sa sn sc fa fn fc na nn nc),.int .i64 n] w (AnsI w w.heap.size M er):=by
 have b0:Below w.heap.size w ((w.alloc (.cells (bI m.guest ra rn rc sa sn sc fa fn fc na nn nc) 26)).alloc zI):=((Below.refl _ _).alloc (by simp;try omega) _).alloc (by simp;try omega) _;have q0:(w.alloc (.cells (bI m.guest ra rn rc sa sn sc fa fn fc na nn nc) 26)).heap[w.heap.size]? = some (.cells (bI m.guest ra rn rc sa sn sc fa fn fc na nn nc) 26):=by have:=World.alloc_heap_new w (.cells (bI m.guest ra rn rc sa sn sc fa fn fc na nn nc) 26);simpa using this
 have m0:((w.alloc (.cells (bI m.guest ra rn rc sa sn sc fa fn fc na nn nc) 26)).alloc zI).heap[w.heap.size]? = some (.cells (bI m.guest ra rn rc sa sn sc fa fn fc na nn nc) 26):=(Qac q0 _);have q1:((w.alloc (.cells (bI m.guest ra rn rc sa sn sc fa fn fc na nn nc) 26)).alloc zI).heap[w.heap.size+1]? = some zI:=by have:=World.alloc_heap_new (w.alloc (.cells (bI m.guest ra rn rc sa sn sc fa fn fc na nn nc) 26)) zI;simpa using this
 have m1:((w.alloc (.cells (bI m.guest ra rn rc sa sn sc fa fn fc na nn nc) 26)).alloc zI).heap[w.heap.size+1]? = some zI:=q1;have hz:((w.alloc (.cells (bI m.guest ra rn rc sa sn sc fa fn fc na nn nc) 26)).alloc zI).heap.size=w.heap.size+1+1:=by simp
 clear q0 q1;have hof:=QhQ (h.below b0) n (-1) (.inr rfl);rw [hM,her] at hof;obtain⟨c0,c1,c2,c3,c4⟩:=five m0;have HW:Hid (Below w.heap.size w ((w.alloc (.cells (bI m.guest ra rn rc sa sn sc fa fn fc na nn nc) 26)).alloc zI)∧((w.alloc (.cells (bI m.guest ra rn rc sa sn sc fa fn fc na nn nc) 26)).alloc zI).heap[w.heap.size+1]? = some zI∧((w.alloc (.cells (bI m.guest ra rn rc sa sn sc fa fn fc na nn nc) 26)).alloc zI).heap.size=w.heap.size+1+1):=⟨b0,m1,hz⟩;clear h m0 m1 hz b0 hM her
 go_enter Tryz.func20,Tryz.ntmps20
 go_wp2_with fail;refine hof.mono ?_;intro e w2 hA;obtain⟨val,ga,gc,la,lc,oa,oc,ta,tc,rfl,hO,b1,hI⟩:=hA.open;dsimp only;have k1:=Qab HW.out.2.1 b1 (by have:=HW.out.2.2;omega);obtain⟨z0,z1,z2,z3,z4⟩:=five k1;have y0:=Qaa k1 0;have y1:=Qaa k1 1;have y2:=Qaa k1 2;have y3:=Qaa k1 3;have y4:=Qaa k1 4;have HP:Hid (OI w2 (w.heap.size+1+1) val M):=by rw [HW.out.2.2] at hO;exact hO
 have HB:Hid (Below w.heap.size w w2):=Below.on HW.out.1 b1;have HI:Hid (imgV M.guest val=.agg (aI M ga gc la lc oa oc ta tc)):=hI;clear hO b1 hI hof hA;go_wp2_with fail;have i1:w.heap.size≤w.heap.size+1:=by omega
 have hf1:∀a,Live M a→(val a).ownBlock≠some (w.heap.size+1):=fun a ha e=>by have:=((HP.out.row a ha).lt _ e).1;omega
 refine bodyPost_ret (v:=.tuple #[.agg (aI M ga gc la lc oa oc ta tc),.int .i64 er]) (by simp [results,Tryz.results20,go_sem,z0,z1,z2,z3,z4]) rfl ⟨val,by rw [HI.out],OI.mono (((((HP.out.far hf1).far hf1).far hf1).far hf1).far hf1) (by omega),((((HB.out.setCell i1 _).setCell i1 _).setCell i1 _).setCell i1 _).setCell i1 _⟩
theorem Qod {w:World}{v:Value}{m:ImgD}(h:Img w v m)(n:Int) :
  Calls Tryz.prog 20 #[v,.int .i64 n] w (AnsI w w.heap.size (if Qbk m n=0 then (putD m n.toNat (-1)).getD imgZ else imgZ) (if Qbk m n=0 then errO (putD m n.toNat (-1)) else Qbk m n)):=by
 have h':=h;obtain⟨ra,rc,sa,sc,fa,fc,na,nc,rfl,_⟩:=h.parts;exact QoD m ra _ rc sa _ sc fa _ fc na _ nc n w h' _ rfl _ rfl
theorem Qnq (m:ImgD)(ra:Option Addr)(rn rc:Nat)(sa:Option Addr)(sn sc:Nat)(fa:Option Addr)(fn fc:Nat)(na:Option Addr)(nn nc:Nat)(n:Int)(w:World)(h:Img w (.agg (bI m.guest ra rn rc sa sn sc fa fn fc na nn nc)) m)(M:ImgD)(hM:(if Qbk m n=0 then (putD m n.toNat (0)).getD imgZ else imgZ)=M)(er:Int)(her:(if Qbk m n=0 then errO (putD m n.toNat (0)) else Qbk m n)=er) :
  Calls Tryz.prog 19 #[.agg (bI m.guest ra rn rc sa sn sc fa fn fc na nn nc),.int .i64 n] w (AnsI w w.heap.size M er):=by
 have b0:Below w.heap.size w ((w.alloc (.cells (bI m.guest ra rn rc sa sn sc fa fn fc na nn nc) 26)).alloc zI):=((Below.refl _ _).alloc (by simp;try omega) _).alloc (by simp;try omega) _;have q0:(w.alloc (.cells (bI m.guest ra rn rc sa sn sc fa fn fc na nn nc) 26)).heap[w.heap.size]? = some (.cells (bI m.guest ra rn rc sa sn sc fa fn fc na nn nc) 26):=by have:=World.alloc_heap_new w (.cells (bI m.guest ra rn rc sa sn sc fa fn fc na nn nc) 26);simpa using this
 have m0:((w.alloc (.cells (bI m.guest ra rn rc sa sn sc fa fn fc na nn nc) 26)).alloc zI).heap[w.heap.size]? = some (.cells (bI m.guest ra rn rc sa sn sc fa fn fc na nn nc) 26):=(Qac q0 _);have q1:((w.alloc (.cells (bI m.guest ra rn rc sa sn sc fa fn fc na nn nc) 26)).alloc zI).heap[w.heap.size+1]? = some zI:=by have:=World.alloc_heap_new (w.alloc (.cells (bI m.guest ra rn rc sa sn sc fa fn fc na nn nc) 26)) zI;simpa using this
 have m1:((w.alloc (.cells (bI m.guest ra rn rc sa sn sc fa fn fc na nn nc) 26)).alloc zI).heap[w.heap.size+1]? = some zI:=q1;have hz:((w.alloc (.cells (bI m.guest ra rn rc sa sn sc fa fn fc na nn nc) 26)).alloc zI).heap.size=w.heap.size+1+1:=by simp
 clear q0 q1;have hof:=QhQ (h.below b0) n (0) (.inl rfl);rw [hM,her] at hof;obtain⟨c0,c1,c2,c3,c4⟩:=five m0;have HW:Hid (Below w.heap.size w ((w.alloc (.cells (bI m.guest ra rn rc sa sn sc fa fn fc na nn nc) 26)).alloc zI)∧((w.alloc (.cells (bI m.guest ra rn rc sa sn sc fa fn fc na nn nc) 26)).alloc zI).heap[w.heap.size+1]? = some zI∧((w.alloc (.cells (bI m.guest ra rn rc sa sn sc fa fn fc na nn nc) 26)).alloc zI).heap.size=w.heap.size+1+1):=⟨b0,m1,hz⟩;clear h m0 m1 hz b0 hM her
 go_enter Tryz.func19,Tryz.ntmps19
 go_wp2_with fail;refine hof.mono ?_;intro e w2 hA;obtain⟨val,ga,gc,la,lc,oa,oc,ta,tc,rfl,hO,b1,hI⟩:=hA.open;dsimp only;have k1:=Qab HW.out.2.1 b1 (by have:=HW.out.2.2;omega);obtain⟨z0,z1,z2,z3,z4⟩:=five k1;have y0:=Qaa k1 0;have y1:=Qaa k1 1;have y2:=Qaa k1 2;have y3:=Qaa k1 3;have y4:=Qaa k1 4;have HP:Hid (OI w2 (w.heap.size+1+1) val M):=by rw [HW.out.2.2] at hO;exact hO
 have HB:Hid (Below w.heap.size w w2):=Below.on HW.out.1 b1;have HI:Hid (imgV M.guest val=.agg (aI M ga gc la lc oa oc ta tc)):=hI;clear hO b1 hI hof hA;go_wp2_with fail;have i1:w.heap.size≤w.heap.size+1:=by omega
 have hf1:∀a,Live M a→(val a).ownBlock≠some (w.heap.size+1):=fun a ha e=>by have:=((HP.out.row a ha).lt _ e).1;omega
 refine bodyPost_ret (v:=.tuple #[.agg (aI M ga gc la lc oa oc ta tc),.int .i64 er]) (by simp [results,Tryz.results19,go_sem,z0,z1,z2,z3,z4]) rfl ⟨val,by rw [HI.out],OI.mono (((((HP.out.far hf1).far hf1).far hf1).far hf1).far hf1) (by omega),((((HB.out.setCell i1 _).setCell i1 _).setCell i1 _).setCell i1 _).setCell i1 _⟩
theorem Qnd {w:World}{v:Value}{m:ImgD}(h:Img w v m)(n:Int) :
  Calls Tryz.prog 19 #[v,.int .i64 n] w (AnsI w w.heap.size (if Qbk m n=0 then (putD m n.toNat (0)).getD imgZ else imgZ) (if Qbk m n=0 then errO (putD m n.toNat (0)) else Qbk m n)):=by
 have h':=h;obtain⟨ra,rc,sa,sc,fa,fc,na,nc,rfl,_⟩:=h.parts;exact Qnq m ra _ rc sa _ sc fa _ fc na _ nc n w h' _ rfl _ rfl

def cutP (m:ImgD) (g:Nat):Option ImgD:=if g / 4<m.root.length∧cutR (Qak m (g / 4)) (g % 4)≠Qak m (g / 4) then layP m (g / 4) (cutR (Qak m (g / 4)) (g % 4)) else some m
def rzP (m:ImgD) (g:Nat):Option ImgD:=(cutP m g).map (fun M=>QbK M g)
theorem Kin.reroot {a b:ImgD}(h:Kin a b)(g:Nat):Kin (QbK a g) (QbK b g):=by
 refine⟨rfl,?_,h.slots,h.snaps,h.refs⟩
 show List.take _ _=List.take _ _
 rw [h.root]
theorem Qlv {m:ImgD}(hC:Qaq m=0){g:Nat}(hg:g≤16):Qif (rzP m g) (Qgc m g):=by
 have hs:=Qal hC;have hrl:=(Qad hs).2.2.1;unfold rzP Qgc
 by_cases h0:g % 4=0
 ·have hcd:cutD m g=some m:=by unfold cutD;rw [if_neg (fun x=>x.1 h0)]
  have hsh:=Qc3 hC hg hcd;rw [hcd];have hrr:∀M,cutP m g=some M→QbK M g=QbK m g:=fun M hM=>by
   unfold cutP at hM
   split at hM
   ·rename_i hc
    have hz:cutR (Qak m (g / 4)) (g % 4)=[0,0,0,0]:=by rw [h0];unfold cutR;simp [List.replicate]
    rw [hz] at hM;have hM:layP m (g / 4) [0,0,0,0]=some { m with root:=m.root.set (g / 4) 0 }:=by unfold layP;rw [if_pos (by decide)]
    rename_i hM'
    rw [hM] at hM'
    cases hM'
    unfold QbK;have e:(g+3) / 4=g / 4:=by omega
    simp only [ImgD.mk.injEq,true_and,and_true];rw [List.length_set,e];have hl:=hc.1;rw [show g / 4 - m.root.length=0 by omega];simp only [List.replicate_zero,List.append_nil];rw [List.take_set_of_le (Nat.le_refl _)]
   ·cases hM;rfl
  have hne:cutP m g≠none:=by
   unfold cutP
   split
   ·have hz:cutR (Qak m (g / 4)) (g % 4)=[0,0,0,0]:=by rw [h0];unfold cutR;simp [List.replicate]
    rw [hz];unfold layP;rw [if_pos (by decide)];simp
   ·simp
  cases hc:cutP m g with
  | none=>exact absurd hc hne
  | some M=>
   refine⟨fun x=>(by cases x),fun X hX=>?_⟩;simp only [Option.map_some,Option.some.injEq] at hX;rw [←hX,hrr M hc];exact⟨hsh,rfl⟩
 ·have e:cutP m g=if g / 4<m.root.length∧cutR (Qak m (g / 4)) (g % 4)≠Qak m (g / 4) then layP m (g / 4) (cutR (Qak m (g / 4)) (g % 4)) else some m:=rfl
  by_cases hc:g / 4<m.root.length∧cutR (Qak m (g / 4)) (g % 4)≠Qak m (g / 4)
  ·rw [e,if_pos hc];have hcd:cutD m g=Qcq m (g / 4) (cutR (Qak m (g / 4)) (g % 4)):=by unfold cutD;rw [if_pos ⟨h0,hc⟩]
   obtain⟨hiff,hsome⟩:=QdH hC hc.1 (cutR (Qak m (g / 4)) (g % 4))
   cases hl:layP m (g / 4) (cutR (Qak m (g / 4)) (g % 4)) with
   | none=>
    rw [hcd,hiff.1 hl];exact⟨fun _=>rfl,fun M hM=>(by cases hM)⟩
   | some M=>
    obtain⟨M',hM',hkin⟩:=hsome M hl;have hK:=(hkin (QeL hrl hl) (Qed hrl hM')).reroot g;have hsh:=Qc3 hC hg (hcd.trans hM');rw [hcd,hM'];refine⟨fun x=>(by cases x),fun X hX=>?_⟩;simp only [Option.map_some,Option.some.injEq] at hX;subst hX;exact⟨hK.shape.trans hsh,by simp only [Option.map_some];rw [hK.counted]⟩
  ·rw [e,if_neg hc];have hcd:cutD m g=some m:=by unfold cutD;rw [if_neg (fun x=>hc x.2)]
   have hsh:=Qc3 hC hg hcd;rw [hcd];refine⟨fun x=>(by cases x),fun X hX=>?_⟩;simp only [Option.map_some,Option.some.injEq] at hX;subst hX;exact⟨hsh,rfl⟩
theorem Qpg (v:Value)(xs:List Int)(k:Nat)(w:World)(h:Sl w v xs)(h0:ckE xs=0)(hk4:k≤4):Calls Tryz.prog 82 #[v,.int .i64 k] w fun r w'=>∃v',r=.returned (.tuple #[v',.int .i64 0])∧w'.ownsRow w.heap.size 3 1 v' (cutR xs k).length (ints (cutR xs k))∧Below w.heap.size w w':=by
 have H4:Hid (xs.length=4):=Qa7 h0;have hk4':(k:Int)≤4:=by omega
 have hk0':¬(k:Int)<0:=by omega
 go_enter Tryz.func82,Tryz.ntmps82
 go_wp2_with (first | (go_at_call 89;refine (Qd0 _ xs _ h).mono ?_;rintro e w' ⟨rfl,rfl⟩) | (go_at_call 91;refine (QhY _ xs _ _ h H4.out (by omega) (by omega)).mono ?_;rintro e w1 ⟨g,cap',rfl,hown,hbel⟩;have HO:Hid (w1.ownsRow _ 3 1 (.slice (some ⟨g,0,none⟩) 4 cap') 4 ((cutR xs (Int.toNat (k:Int))).map (.int .i64))):=hown;clear hown))
 go_ret2
 have hO:=HO.out;rw [Int.toNat_natCast] at hO;have hl:(cutR xs k).length=4:=by unfold cutR;simp [H4.out];omega
 rw [hl];exact⟨_,rfl,hO,hbel⟩
theorem QfO {W W':World}{B n size:Nat}{e:TypeId}{v:Value}{xs:List Value}(h:W.ownsRow B e size v n xs)(hb:Below W.heap.size W W'):W'.ownsRow B e size v n xs:=QeZ h (fun g e=>hb.block g (h.lt g e).2)
theorem Qjd {xs:List Int}(h:xs.length=4){k:Nat}(hk:k≤4):(cutR xs k).length=4:=by unfold cutR;simp [h];omega
theorem QlW {xs:List Int}(h:ckE xs=0){k:Nat}(hk:k≤4):ckE (cutR xs k)=0:=by
 have h4:=Qa7 h;refine Qfe (Qjd h4 hk) ?_;have ha:xs.all isE=true:=by
  unfold ckE at h
  split at h
  ·rename_i h1;exact h1.2
  ·cases h
 rw [List.all_eq_true] at ha ⊢;intro x hx;unfold cutR at hx;rcases List.mem_append.1 hx with h1 | h1
 ·exact ha x (List.mem_of_mem_take h1)
 ·rw [List.eq_of_mem_replicate h1];decide
theorem QoL {m:ImgD}{g B D:Nat}{val:Nm→Value}{w:World}(hK:DK w B D val m)(hB:B≤w.heap.size)(h16:g≤16)(hs:Qao m=0) :
  Calls Tryz.prog 57 #[.pointer (some ⟨D,0,none⟩),.int .i64 (g:Int)] w (QbU w B D m val nilV (cutP m g)):=by
 obtain⟨ra,rc,e0,_⟩:=hK.own.forms .root (Live.root m);have d1:w.cell? ⟨D,1,none⟩=some (.slice ra m.root.length rc):=hK.root5 e0;have e4:((g / 4:Nat):Int)=(g:Int) / 4:=by omega
 have e5:((g % 4:Nat):Int)=(g:Int) % 4:=by omega
 have hrl:=(Qad hs).2.2.1;unfold cutP
 by_cases hr:g / 4<m.root.length
 ·obtain⟨t,ht,htl⟩:=Qb3 hs hr;have hck:=(Qa0 hs hr).1;have hent:=QfT hK hr ht htl;rw [e4] at hent;have hg1:¬(m.root.length:Int)≤(g:Int) / 4:=by omega
  have hg2:decide ((m.root.length:Int)≤(g:Int) / 4)=false:=by simp;omega
  have HC:Hid (∀v w1,Sl w1 v (Qak m (g / 4))→Calls Tryz.prog 82 #[v,.int .i64 ((g:Int) % 4)] w1 fun r w'=>∃v',r=.returned (.tuple #[v',.int .i64 0])∧w'.ownsRow w1.heap.size 3 1 v' (cutR (Qak m (g / 4)) (g % 4)).length (ints (cutR (Qak m (g / 4)) (g % 4)))∧Below w1.heap.size w1 w'):=fun v w1 h1=>by
   have:=Qpg v _ (g % 4) w1 h1 hck (by omega);rw [e5] at this;exact this
  by_cases hne:cutR (Qak m (g / 4)) (g % 4)=Qak m (g / 4)
  ·rw [if_neg (fun x=>x.2 hne)];have HQ:Hid (∀u v W,W.ownsRow w.heap.size 3 1 u (cutR (Qak m (g / 4)) (g % 4)).length (ints (cutR (Qak m (g / 4)) (g % 4)))→Sl W v (Qak m (g / 4))→Calls Tryz.prog 68 #[u,v] W fun r w'=>r=.returned (.bool true)∧Below W.heap.size W w'):=fun u v W h1 h2=>QeH (QbT h1) h2 (by rw [hne]) (by rw [hne];simp)
   have HF:Hid (∀W,Below w.heap.size w W→DTo w W B D m val nilV m val):=fun W hb=>(DTo.refl hK nilV).below hB hb
   clear hK e0 e4 e5 hrl hr ht htl hck hne hs
   go_enter Tryz.func57,Tryz.ntmps57
   go_wp2_with (first | (go_at_call 68;refine (HQ.out _ _ _ (QaP ho2 b1.size) (hs1.below b2)).mono ?_;rintro e w3 ⟨rfl,b3⟩) | (go_at_call 82;refine (HC.out _ _ hs1).mono ?_;rintro e w2 ⟨v2,rfl,ho2,b2⟩) | (go_at_call 64;refine hent.mono ?_;rintro e w1 ⟨v1,rfl,hs1,b1⟩))
   go_end0
   exact⟨rfl,val,HF.out _ (Below.on' b1 b2 b3)⟩
  ·rw [if_pos ⟨hr,hne⟩];have hl4:=Qa7 hck;have HQ:Hid (∀u v W,W.ownsRow w.heap.size 3 1 u (cutR (Qak m (g / 4)) (g % 4)).length (ints (cutR (Qak m (g / 4)) (g % 4)))→Sl W v (Qak m (g / 4))→Calls Tryz.prog 68 #[u,v] W fun r w'=>r=.returned (.bool false)∧Below W.heap.size W w'):=fun u v W h1 h2=>QeH (QbT h1) h2 (by rw [hl4];exact Qjd hl4 (by omega)) (by simpa using hne)
   cases ho:layP m (g / 4) (cutR (Qak m (g / 4)) (g % 4)) with
   | none=>
    have HL:Hid (∀ev W,Below w.heap.size w W→W.ownsRow w.heap.size 3 1 ev (cutR (Qak m (g / 4)) (g % 4)).length (ints (cutR (Qak m (g / 4)) (g % 4)))→Calls Tryz.prog 65 #[.pointer (some ⟨D,0,none⟩),.int .i64 ((g:Int) / 4),ev] W (QbU w B D m val nilV none)):=fun ev W h1 h3=>by
     have:=QeK hK hB hr ht htl (.inr (Qad hs).2.1) hrl h1 (Nat.le_refl _) h3 (QlW hck (by omega)) ho;rw [e4] at this;exact this
    clear hK e0 e4 e5 hrl hr ht htl hck hne hs hl4 ho
    go_enter Tryz.func57,Tryz.ntmps57
    go_wp2_with (first | (go_at_call 65;refine (HL.out _ _ (Below.on' b1 b2 b3) (QfO (QaP ho2 b1.size) b3)).mono ?_;rintro e w4 ⟨rfl,b4⟩;exact⟨rfl,rfl,b4⟩) | (go_at_call 68;refine (HQ.out _ _ _ (QaP ho2 b1.size) (hs1.below b2)).mono ?_;rintro e w3 ⟨rfl,b3⟩) | (go_at_call 82;refine (HC.out _ _ hs1).mono ?_;rintro e w2 ⟨v2,rfl,ho2,b2⟩) | (go_at_call 64;refine hent.mono ?_;rintro e w1 ⟨v1,rfl,hs1,b1⟩))
   | some M=>
    have HL:Hid (∀ev W,Below w.heap.size w W→W.ownsRow w.heap.size 3 1 ev (cutR (Qak m (g / 4)) (g % 4)).length (ints (cutR (Qak m (g / 4)) (g % 4)))→Calls Tryz.prog 65 #[.pointer (some ⟨D,0,none⟩),.int .i64 ((g:Int) / 4),ev] W (QbU w B D m val nilV (some M))):=fun ev W h1 h3=>by
     have:=QeK hK hB hr ht htl (.inr (Qad hs).2.1) hrl h1 (Nat.le_refl _) h3 (QlW hck (by omega)) ho;rw [e4] at this;exact this
    clear hK e0 e4 e5 hrl hr ht htl hck hne hs hl4 ho
    go_enter Tryz.func57,Tryz.ntmps57
    go_wp2_with (first | (go_at_call 65;refine (HL.out _ _ (Below.on' b1 b2 b3) (QfO (QaP ho2 b1.size) b3)).mono ?_;rintro e w4 ⟨rfl,val4,hT⟩) | (go_at_call 68;refine (HQ.out _ _ _ (QaP ho2 b1.size) (hs1.below b2)).mono ?_;rintro e w3 ⟨rfl,b3⟩) | (go_at_call 82;refine (HC.out _ _ hs1).mono ?_;rintro e w2 ⟨v2,rfl,ho2,b2⟩) | (go_at_call 64;refine hent.mono ?_;rintro e w1 ⟨v1,rfl,hs1,b1⟩))
    go_end0
    exact⟨rfl,val4,hT⟩
 ·rw [if_neg (fun x=>hr x.1)];have hg1:(m.root.length:Int)≤(g:Int) / 4:=by omega
  have hg2:decide ((m.root.length:Int)≤(g:Int) / 4)=true:=by simp;omega
  have HF:Hid (DTo w w B D m val nilV m val):=DTo.refl hK nilV;clear hK e0 e4 e5 hrl hr hs
  go_enter Tryz.func57,Tryz.ntmps57
  go_wp2_with fail;refine bodyPost_ret (results_none rfl _ _ _) rfl ?_;exact⟨rfl,val,HF.out⟩

def QcT (xs:List Int) (n:Nat):List Int:=(xs ++ List.replicate (n - xs.length) 0).take n
theorem QfP (xs:List Int)(n:Nat):(QcT xs n).length=n:=by unfold QcT;simp;omega
theorem Ql1 {w:World}{v:Value}{xs:List Int}(h:Sl w v xs)(n:Nat) :
  ∃W2 c,(Builtin.copy_ #[22,22] 3 #[.slice (some ⟨w.heap.size,0,none⟩) n n,v]).run Tryz.prog (w.alloc (.cells ((List.replicate n (0:Int)).map (Value.int .i64)).toArray 3))=.ok c W2∧
   W2.heap[w.heap.size]? = some (.cells ((QcT xs n).map (Value.int .i64)).toArray 3)∧Below w.heap.size w W2:=by
 obtain⟨ao,cap,rfl⟩:=h.form;obtain⟨_,_,_,hc⟩:=h.cells;have hg:=heap_alloc_new w (.cells ((List.replicate n (0:Int)).map (Value.int .i64)).toArray 3)
 by_cases h0:min xs.length n=0
 ·have hrun:=run_copy_none (P:=Tryz.prog) (w.alloc (.cells ((List.replicate n (0:Int)).map (Value.int .i64)).toArray 3)) 22 22 3 3 (some ⟨w.heap.size,0,none⟩) ao n n xs.length cap Tryz.underlying22 Tryz.size3 h0;refine⟨_,_,hrun,?_,bA⟩;have e:QcT xs n=List.replicate n 0:=by
   unfold QcT
   by_cases hn:n=0
   ·subst hn;simp
   ·have:xs=[]:=List.length_eq_zero_iff.1 (by omega);subst this;simp
  rw [e];exact hg
 ·obtain⟨b,off,rfl,hb,_⟩:=hc 0 (by omega);have hc:∀j,j<xs.length→w.cell? ⟨b,off+j,none⟩=some (.int .i64 (xs.getD j 0)):=fun j hj=>by
   obtain⟨b',off',e,_,h2⟩:=hc j hj;simp only [Option.some.injEq,Addr.mk.injEq,and_true] at e;obtain⟨rfl,rfl⟩:=e;exact h2
  obtain⟨X,hX⟩:∃X,X=(xs.take n).map (Value.int .i64):=⟨_,rfl⟩;have hXl:X.length=min xs.length n:=by rw [hX];simp;omega
  have hsrc:∀j v,X[j]? = some v→(w.alloc (.cells ((List.replicate n (0:Int)).map (Value.int .i64)).toArray 3)).cell? ((⟨b,off,none⟩:Addr).add j)=some v:=by
   intro j v hj;have hjn:j<min xs.length n:=by have:=(List.getElem?_eq_some_iff.1 hj).1;rw [hXl] at this;exact this
   rw [hX] at hj;have:v=.int .i64 (xs.getD j 0):=by
    rw [List.getElem?_map,List.getElem?_take,if_pos (by omega)] at hj;simp [List.getD,show j<xs.length by omega] at hj ⊢
    exact hj.symm
   rw [this];rw [Qa2];exact (World.cell?_alloc_past _ _ _ hb).trans (hc j (by omega))
  have hrun:=run_copy_row (P:=Tryz.prog) _ 22 22 3 3 w.heap.size 0 n n ⟨b,off,none⟩ xs.length cap _ 3 X Tryz.underlying22 Tryz.size3 hg hXl hsrc (by rw [hXl];simp;omega) (by rw [hX];exact ints_oneCell _ _);refine⟨_,_,hrun,?_,below_setRow (bA) (Nat.le_refl _) _⟩;rw [setRow_heap _ _ _ _ _ _ hg,hX];have e:(QcT xs n).map (Value.int .i64)=(xs.take n).map (Value.int .i64) ++ ((List.replicate n (0:Int)).map (Value.int .i64)).drop (min xs.length n):=by
   rw [←List.map_drop,← List.map_append]
   congr 1
   unfold QcT;rw [List.take_append,List.take_replicate,List.drop_replicate]
   congr 2
   omega
  rw [e];simp [Nat.min_comm]
theorem Qmt {W:World}{B g:Nat}{xs:List Int}(hB:B≤g)(h:W.heap[g]? = some (.cells (xs.map (Value.int .i64)).toArray 3))(hm:xs.length≤40):W.ownsRow B 3 1 (.slice (some ⟨g,0,none⟩) xs.length xs.length) xs.length (ints xs):=by
 have hx:(40:Nat)≤maxLen:=by decide
 exact⟨by simp [ints],.inr ⟨g,xs.length,_,rfl,hB,h,Nat.le_refl _,Nat.le_trans hm hx,by simp,by simp [ints,List.take_of_length_le]⟩⟩
theorem Qpf {w:World}{m:ImgD}{g bg:Nat}(cg:w.cell? ⟨bg,0,none⟩=some (.int .i64 (g:Int)))(lg:bg<w.heap.size)(h16:g≤16)(hs:Qao m=0) :
  QfJ w 56 #[.pointer (some ⟨bg,0,none⟩)] m (rzP m g):=by
 intro W D B val hb h1 h2 hK;have cg:=(hb.cell (p:=⟨bg,0,none⟩) lg).trans cg;have hcut:=QoL hK h2 h16 hs
 show Calls Tryz.prog 56 #[.pointer (some ⟨D,0,none⟩),.pointer (some ⟨bg,0,none⟩)] W _
 unfold rzP
 cases hc:cutP m g with
 | none=>
  rw [hc] at hcut;clear hc hK hs
  go_enter Tryz.func56,Tryz.ntmps56
  go_wp2_with (go_at_call 57;refine hcut.mono ?_;rintro e w3 ⟨rfl,b3⟩;exact⟨rfl,rfl,b3⟩)
 | some M=>
  rw [hc] at hcut
  show Calls Tryz.prog 56 #[.pointer (some ⟨D,0,none⟩),.pointer (some ⟨bg,0,none⟩)] W (fun r W'=>∃val',r=.returned (.tuple #[])∧DTo W W' B D m val nilV (QbK M g) val')
  obtain⟨N,hN⟩:∃N,(g+3) / 4=N:=⟨_,rfl⟩;have hN4:N≤4:=by omega
  have e4:(N:Int)=((g:Int)+4 - 1) / 4:=by omega
  have HE:Hid (QbK M g = { M with guest:=(g:Int),root:=QcT M.root N }):=by unfold QbK QcT;rw [hN];exact rfl
  have hmk0:=Qe6 N (by omega);obtain⟨Z,hZ⟩:∃Z,((List.replicate N (0:Int)).map (Value.int .i64)).toArray=Z:=⟨_,rfl⟩;rw [hZ,e4] at hmk0;have HZ:Hid (((List.replicate N (0:Int)).map (Value.int .i64)).toArray=Z):=hZ;have HN:Hid (N≤4):=hN4;have hlg:bg<B:=Nat.lt_of_lt_of_le lg h1;have HH:Hid (B≤W.heap.size∧bg<B):=⟨h2,hlg⟩;clear hc hK hs hN hN4 e4 hZ hb lg h1 h2
  go_enter Tryz.func56,Tryz.ntmps56
  go_wp2_with (go_at_call 57;refine hcut.mono ?_;rintro e w1 ⟨rfl,val1,hT1⟩;have cg1:=(hT1.bel.cell (p:=⟨bg,0,none⟩) HH.out.2).trans cg;obtain⟨ra,rc,e0,hS0⟩:=hT1.dk.own.forms .root (Live.root M);obtain⟨W2,cc,hcp,hg2,hB2⟩:=Ql1 (QbT (hT1.dk.own.row .root (Live.root M))) N;rw [HZ.out,e0] at hcp;have hcp:(Builtin.copy_ #[22,22] 3 #[.slice (some ⟨w1.heap.size,0,none⟩) N N,.slice ra M.root.length rc]).run Tryz.prog (w1.alloc (.cells Z 3))=.ok cc W2:=hcp;have d1:(w1.alloc (.cells Z 3)).cell? ⟨D,1,none⟩=some (.slice ra M.root.length rc):=(hT1.dk.alloc _).root5 e0;have hT2:=hT1.below HH.out.1 hB2;have cg2:=(hT2.bel.cell (p:=⟨bg,0,none⟩) HH.out.2).trans cg;obtain⟨p0,p1,_,_,_⟩:=hT2.dk.five;have f0:=hT2.dk.frozen 0;have f1:=hT2.dk.frozen 1;have HT:=Qam (And.intro hT2 (And.intro hg2 hT1.bel.size));have HD:=Qam hT1;clear hT2 hT1 hg2 hS0 e0)
  go_end0
  have hT2:=HT.out.1;have hDw:=HD.out.dk.lt;have hBw:B≤w1.heap.size:=Nat.le_trans HH.out.1 HT.out.2.2;have k1:=hT2.setDesk (hT2.dk.setGuest (g:Int)) (fun q _ hs _ b hb=>hs b hb);have hrow:(W2.setCell ⟨D,0,none⟩ (.int .i64 (g:Int))).ownsRow B 3 1 (.slice (some ⟨w1.heap.size,0,none⟩) N N) (QcT M.root N).length (ints (QcT M.root N)):=by
   have h0:(W2.setCell ⟨D,0,none⟩ (.int .i64 (g:Int))).heap[w1.heap.size]? = some (.cells ((QcT M.root N).map (Value.int .i64)).toArray 3):=Qan HT.out.2.1 (by omega) 0 _;have:=Qmt hBw h0 (by rw [QfP];have:=HN.out;omega);rw [QfP] at this ⊢;exact this
  have hnew:∀b,Live M b→(val1 b).ownBlock≠some w1.heap.size:=HD.out.dk.own.lt (Nat.le_refl _);have hv:(Value.slice (some ⟨w1.heap.size,0,none⟩) N N).ownBlock=some w1.heap.size:=rfl;have k2:=k1.setDesk (k1.dk.swapRoot hrow (fun b hb _ q hq x=>by cases hq;exact hnew b hb x) (fun x=>by rw [hv] at x;injection x with x;omega)) (fun q _ hs hq b hb=>by
   by_cases e:b=.root
   ·subst e;rw [Qar];intro x;rw [hv] at x
    injection x with x
    have:=HT.out.2.2;omega
   ·rw [Qae _ _ e];exact hs b hb)
  rw [HE.out];exact⟨_,rfl,k2⟩

theorem QgS (m:ImgD)(ra:Option Addr)(rn rc:Nat)(sa:Option Addr)(sn sc:Nat)(fa:Option Addr)(fn fc:Nat)(na:Option Addr)(nn nc:Nat)(g:Int)(E:Int)(w:World)(h:Img w (.agg (bI m.guest ra rn rc sa sn sc fa fn fc na nn nc)) m)(hE:Qaq m=E)(hne:(E != 0)=true) :
  Calls Tryz.prog 21 #[.agg (bI m.guest ra rn rc sa sn sc fa fn fc na nn nc),.int .i64 g] w (AnsI w w.heap.size imgZ E):=by
 have b0:Below w.heap.size w (((w.alloc (.cells (bI m.guest ra rn rc sa sn sc fa fn fc na nn nc) 26)).alloc (.cells #[.int .i64 g] 3)).alloc zI):=(((Below.refl _ _).alloc (by simp;try omega) _).alloc (by simp;try omega) _).alloc (by simp;try omega) _;have q0:(w.alloc (.cells (bI m.guest ra rn rc sa sn sc fa fn fc na nn nc) 26)).heap[w.heap.size]? = some (.cells (bI m.guest ra rn rc sa sn sc fa fn fc na nn nc) 26):=by have:=World.alloc_heap_new w (.cells (bI m.guest ra rn rc sa sn sc fa fn fc na nn nc) 26);simpa using this
 have m0:(((w.alloc (.cells (bI m.guest ra rn rc sa sn sc fa fn fc na nn nc) 26)).alloc (.cells #[.int .i64 g] 3)).alloc zI).heap[w.heap.size]? = some (.cells (bI m.guest ra rn rc sa sn sc fa fn fc na nn nc) 26):=(Qac (Qac q0 _) _);have q1:((w.alloc (.cells (bI m.guest ra rn rc sa sn sc fa fn fc na nn nc) 26)).alloc (.cells #[.int .i64 g] 3)).heap[w.heap.size+1]? = some (.cells #[.int .i64 g] 3):=by have:=World.alloc_heap_new (w.alloc (.cells (bI m.guest ra rn rc sa sn sc fa fn fc na nn nc) 26)) (.cells #[.int .i64 g] 3);simpa using this
 have m1:(((w.alloc (.cells (bI m.guest ra rn rc sa sn sc fa fn fc na nn nc) 26)).alloc (.cells #[.int .i64 g] 3)).alloc zI).heap[w.heap.size+1]? = some (.cells #[.int .i64 g] 3):=(Qac q1 _);have q2:(((w.alloc (.cells (bI m.guest ra rn rc sa sn sc fa fn fc na nn nc) 26)).alloc (.cells #[.int .i64 g] 3)).alloc zI).heap[w.heap.size+1+1]? = some zI:=by have:=World.alloc_heap_new ((w.alloc (.cells (bI m.guest ra rn rc sa sn sc fa fn fc na nn nc) 26)).alloc (.cells #[.int .i64 g] 3)) zI;simpa using this
 have m2:(((w.alloc (.cells (bI m.guest ra rn rc sa sn sc fa fn fc na nn nc) 26)).alloc (.cells #[.int .i64 g] 3)).alloc zI).heap[w.heap.size+1+1]? = some zI:=q2;have hz:(((w.alloc (.cells (bI m.guest ra rn rc sa sn sc fa fn fc na nn nc) 26)).alloc (.cells #[.int .i64 g] 3)).alloc zI).heap.size=w.heap.size+1+1+1:=by simp
 clear q0 q1 q2;have hchk:=Qbc (h.below b0) hE;obtain⟨c0,c1,c2,c3,c4⟩:=five m0;have HM:Hid ((((w.alloc (.cells (bI m.guest ra rn rc sa sn sc fa fn fc na nn nc) 26)).alloc (.cells #[.int .i64 g] 3)).alloc zI).heap[w.heap.size+1+1]? = some zI∧Below w.heap.size w (((w.alloc (.cells (bI m.guest ra rn rc sa sn sc fa fn fc na nn nc) 26)).alloc (.cells #[.int .i64 g] 3)).alloc zI)∧(((w.alloc (.cells (bI m.guest ra rn rc sa sn sc fa fn fc na nn nc) 26)).alloc (.cells #[.int .i64 g] 3)).alloc zI).heap.size=w.heap.size+1+1+1∧(((w.alloc (.cells (bI m.guest ra rn rc sa sn sc fa fn fc na nn nc) 26)).alloc (.cells #[.int .i64 g] 3)).alloc zI).heap[w.heap.size+1]? = some (.cells #[.int .i64 g] 3)):=⟨m2,b0,hz,m1⟩;clear h m0 m1 m2 hz b0 hE
 go_enter Tryz.func21,Tryz.ntmps21
 go_wp2_with (go_at_call 29;refine hchk.mono ?_;rintro e w1 ⟨rfl,b1⟩;have k3:=Qab HM.out.1 b1 (by rw [HM.out.2.2.1];omega);obtain⟨z0,z1,z2,z3,z4⟩:=five k3;have y0:=Qaa k3 0;have y1:=Qaa k3 1;have y2:=Qaa k3 2;have y3:=Qaa k3 3;have y4:=Qaa k3 4;have cn:=one (Qab HM.out.2.2.2 b1 (by rw [HM.out.2.2.1];omega));have HB:Hid (Below w.heap.size w w1):=Below.on HM.out.2.1 b1;clear b1 k3);have i1:w.heap.size≤w.heap.size+1+1:=by omega
 refine bodyPost_ret (v:=.tuple #[.agg #[.int .i64 0,nl,nl,nl,nl],.int .i64 E]) (by simp [results,Tryz.results21,go_sem,z0,z1,z2,z3,z4]) rfl (AnsI.bad E (((((HB.out.setCell i1 _).setCell i1 _).setCell i1 _).setCell i1 _).setCell i1 _))
theorem Qgb (m:ImgD)(ra:Option Addr)(rn rc:Nat)(sa:Option Addr)(sn sc:Nat)(fa:Option Addr)(fn fc:Nat)(na:Option Addr)(nn nc:Nat)(g:Int)(w:World)(h:Img w (.agg (bI m.guest ra rn rc sa sn sc fa fn fc na nn nc)) m)(hE:Qaq m=0)(hg:g<0) :
  Calls Tryz.prog 21 #[.agg (bI m.guest ra rn rc sa sn sc fa fn fc na nn nc),.int .i64 g] w (AnsI w w.heap.size imgZ 3):=by
 have b0:Below w.heap.size w (((w.alloc (.cells (bI m.guest ra rn rc sa sn sc fa fn fc na nn nc) 26)).alloc (.cells #[.int .i64 g] 3)).alloc zI):=(((Below.refl _ _).alloc (by simp;try omega) _).alloc (by simp;try omega) _).alloc (by simp;try omega) _;have q0:(w.alloc (.cells (bI m.guest ra rn rc sa sn sc fa fn fc na nn nc) 26)).heap[w.heap.size]? = some (.cells (bI m.guest ra rn rc sa sn sc fa fn fc na nn nc) 26):=by have:=World.alloc_heap_new w (.cells (bI m.guest ra rn rc sa sn sc fa fn fc na nn nc) 26);simpa using this
 have m0:(((w.alloc (.cells (bI m.guest ra rn rc sa sn sc fa fn fc na nn nc) 26)).alloc (.cells #[.int .i64 g] 3)).alloc zI).heap[w.heap.size]? = some (.cells (bI m.guest ra rn rc sa sn sc fa fn fc na nn nc) 26):=(Qac (Qac q0 _) _);have q1:((w.alloc (.cells (bI m.guest ra rn rc sa sn sc fa fn fc na nn nc) 26)).alloc (.cells #[.int .i64 g] 3)).heap[w.heap.size+1]? = some (.cells #[.int .i64 g] 3):=by have:=World.alloc_heap_new (w.alloc (.cells (bI m.guest ra rn rc sa sn sc fa fn fc na nn nc) 26)) (.cells #[.int .i64 g] 3);simpa using this
 have m1:(((w.alloc (.cells (bI m.guest ra rn rc sa sn sc fa fn fc na nn nc) 26)).alloc (.cells #[.int .i64 g] 3)).alloc zI).heap[w.heap.size+1]? = some (.cells #[.int .i64 g] 3):=(Qac q1 _);have q2:(((w.alloc (.cells (bI m.guest ra rn rc sa sn sc fa fn fc na nn nc) 26)).alloc (.cells #[.int .i64 g] 3)).alloc zI).heap[w.heap.size+1+1]? = some zI:=by have:=World.alloc_heap_new ((w.alloc (.cells (bI m.guest ra rn rc sa sn sc fa fn fc na nn nc) 26)).alloc (.cells #[.int .i64 g] 3)) zI;simpa using this
 have m2:(((w.alloc (.cells (bI m.guest ra rn rc sa sn sc fa fn fc na nn nc) 26)).alloc (.cells #[.int .i64 g] 3)).alloc zI).heap[w.heap.size+1+1]? = some zI:=q2;have hz:(((w.alloc (.cells (bI m.guest ra rn rc sa sn sc fa fn fc na nn nc) 26)).alloc (.cells #[.int .i64 g] 3)).alloc zI).heap.size=w.heap.size+1+1+1:=by simp
 clear q0 q1 q2;have g1:decide (g<0)=true:=by simp [hg]
 have hchk:=Qbc (h.below b0) hE;obtain⟨c0,c1,c2,c3,c4⟩:=five m0;have HM:Hid ((((w.alloc (.cells (bI m.guest ra rn rc sa sn sc fa fn fc na nn nc) 26)).alloc (.cells #[.int .i64 g] 3)).alloc zI).heap[w.heap.size+1+1]? = some zI∧Below w.heap.size w (((w.alloc (.cells (bI m.guest ra rn rc sa sn sc fa fn fc na nn nc) 26)).alloc (.cells #[.int .i64 g] 3)).alloc zI)∧(((w.alloc (.cells (bI m.guest ra rn rc sa sn sc fa fn fc na nn nc) 26)).alloc (.cells #[.int .i64 g] 3)).alloc zI).heap.size=w.heap.size+1+1+1∧(((w.alloc (.cells (bI m.guest ra rn rc sa sn sc fa fn fc na nn nc) 26)).alloc (.cells #[.int .i64 g] 3)).alloc zI).heap[w.heap.size+1]? = some (.cells #[.int .i64 g] 3)):=⟨m2,b0,hz,m1⟩;clear h m0 m1 m2 hz b0 hE
 go_enter Tryz.func21,Tryz.ntmps21
 go_wp2_with (go_at_call 29;refine hchk.mono ?_;rintro e w1 ⟨rfl,b1⟩;have k3:=Qab HM.out.1 b1 (by rw [HM.out.2.2.1];omega);obtain⟨z0,z1,z2,z3,z4⟩:=five k3;have y0:=Qaa k3 0;have y1:=Qaa k3 1;have y2:=Qaa k3 2;have y3:=Qaa k3 3;have y4:=Qaa k3 4;have cn:=one (Qab HM.out.2.2.2 b1 (by rw [HM.out.2.2.1];omega));have HB:Hid (Below w.heap.size w w1):=Below.on HM.out.2.1 b1;clear b1 k3);have i1:w.heap.size≤w.heap.size+1+1:=by omega
 refine bodyPost_ret (v:=.tuple #[.agg #[.int .i64 0,nl,nl,nl,nl],.int .i64 3]) (by simp [results,Tryz.results21,go_sem,z0,z1,z2,z3,z4]) rfl (AnsI.bad 3 (((((HB.out.setCell i1 _).setCell i1 _).setCell i1 _).setCell i1 _).setCell i1 _))
theorem QgR (m:ImgD)(ra:Option Addr)(rn rc:Nat)(sa:Option Addr)(sn sc:Nat)(fa:Option Addr)(fn fc:Nat)(na:Option Addr)(nn nc:Nat)(g:Int)(w:World)(h:Img w (.agg (bI m.guest ra rn rc sa sn sc fa fn fc na nn nc)) m)(hE:Qaq m=0)(hg:16<g) :
  Calls Tryz.prog 21 #[.agg (bI m.guest ra rn rc sa sn sc fa fn fc na nn nc),.int .i64 g] w (AnsI w w.heap.size imgZ 3):=by
 have b0:Below w.heap.size w (((w.alloc (.cells (bI m.guest ra rn rc sa sn sc fa fn fc na nn nc) 26)).alloc (.cells #[.int .i64 g] 3)).alloc zI):=(((Below.refl _ _).alloc (by simp;try omega) _).alloc (by simp;try omega) _).alloc (by simp;try omega) _;have q0:(w.alloc (.cells (bI m.guest ra rn rc sa sn sc fa fn fc na nn nc) 26)).heap[w.heap.size]? = some (.cells (bI m.guest ra rn rc sa sn sc fa fn fc na nn nc) 26):=by have:=World.alloc_heap_new w (.cells (bI m.guest ra rn rc sa sn sc fa fn fc na nn nc) 26);simpa using this
 have m0:(((w.alloc (.cells (bI m.guest ra rn rc sa sn sc fa fn fc na nn nc) 26)).alloc (.cells #[.int .i64 g] 3)).alloc zI).heap[w.heap.size]? = some (.cells (bI m.guest ra rn rc sa sn sc fa fn fc na nn nc) 26):=(Qac (Qac q0 _) _);have q1:((w.alloc (.cells (bI m.guest ra rn rc sa sn sc fa fn fc na nn nc) 26)).alloc (.cells #[.int .i64 g] 3)).heap[w.heap.size+1]? = some (.cells #[.int .i64 g] 3):=by have:=World.alloc_heap_new (w.alloc (.cells (bI m.guest ra rn rc sa sn sc fa fn fc na nn nc) 26)) (.cells #[.int .i64 g] 3);simpa using this
 have m1:(((w.alloc (.cells (bI m.guest ra rn rc sa sn sc fa fn fc na nn nc) 26)).alloc (.cells #[.int .i64 g] 3)).alloc zI).heap[w.heap.size+1]? = some (.cells #[.int .i64 g] 3):=(Qac q1 _);have q2:(((w.alloc (.cells (bI m.guest ra rn rc sa sn sc fa fn fc na nn nc) 26)).alloc (.cells #[.int .i64 g] 3)).alloc zI).heap[w.heap.size+1+1]? = some zI:=by have:=World.alloc_heap_new ((w.alloc (.cells (bI m.guest ra rn rc sa sn sc fa fn fc na nn nc) 26)).alloc (.cells #[.int .i64 g] 3)) zI;simpa using this
 have m2:(((w.alloc (.cells (bI m.guest ra rn rc sa sn sc fa fn fc na nn nc) 26)).alloc (.cells #[.int .i64 g] 3)).alloc zI).heap[w.heap.size+1+1]? = some zI:=q2;have hz:(((w.alloc (.cells (bI m.guest ra rn rc sa sn sc fa fn fc na nn nc) 26)).alloc (.cells #[.int .i64 g] 3)).alloc zI).heap.size=w.heap.size+1+1+1:=by simp
 clear q0 q1 q2;have g1:decide (g<0)=false:=by simp;omega
 have g2:¬g<0:=by omega
 have g3:decide (16<g)=true:=by simp [hg]
 have hchk:=Qbc (h.below b0) hE;obtain⟨c0,c1,c2,c3,c4⟩:=five m0;have HM:Hid ((((w.alloc (.cells (bI m.guest ra rn rc sa sn sc fa fn fc na nn nc) 26)).alloc (.cells #[.int .i64 g] 3)).alloc zI).heap[w.heap.size+1+1]? = some zI∧Below w.heap.size w (((w.alloc (.cells (bI m.guest ra rn rc sa sn sc fa fn fc na nn nc) 26)).alloc (.cells #[.int .i64 g] 3)).alloc zI)∧(((w.alloc (.cells (bI m.guest ra rn rc sa sn sc fa fn fc na nn nc) 26)).alloc (.cells #[.int .i64 g] 3)).alloc zI).heap.size=w.heap.size+1+1+1∧(((w.alloc (.cells (bI m.guest ra rn rc sa sn sc fa fn fc na nn nc) 26)).alloc (.cells #[.int .i64 g] 3)).alloc zI).heap[w.heap.size+1]? = some (.cells #[.int .i64 g] 3)):=⟨m2,b0,hz,m1⟩;clear h m0 m1 m2 hz b0 hE
 go_enter Tryz.func21,Tryz.ntmps21
 go_wp2_with (go_at_call 29;refine hchk.mono ?_;rintro e w1 ⟨rfl,b1⟩;have k3:=Qab HM.out.1 b1 (by rw [HM.out.2.2.1];omega);obtain⟨z0,z1,z2,z3,z4⟩:=five k3;have y0:=Qaa k3 0;have y1:=Qaa k3 1;have y2:=Qaa k3 2;have y3:=Qaa k3 3;have y4:=Qaa k3 4;have cn:=one (Qab HM.out.2.2.2 b1 (by rw [HM.out.2.2.1];omega));have HB:Hid (Below w.heap.size w w1):=Below.on HM.out.2.1 b1;clear b1 k3);have i1:w.heap.size≤w.heap.size+1+1:=by omega
 refine bodyPost_ret (v:=.tuple #[.agg #[.int .i64 0,nl,nl,nl,nl],.int .i64 3]) (by simp [results,Tryz.results21,go_sem,z0,z1,z2,z3,z4]) rfl (AnsI.bad 3 (((((HB.out.setCell i1 _).setCell i1 _).setCell i1 _).setCell i1 _).setCell i1 _))
theorem QhA (m:ImgD)(ra:Option Addr)(rn rc:Nat)(sa:Option Addr)(sn sc:Nat)(fa:Option Addr)(fn fc:Nat)(na:Option Addr)(nn nc:Nat)(g:Nat)(w:World)(h:Img w (.agg (bI m.guest ra rn rc sa sn sc fa fn fc na nn nc)) m)(hF:Fits m)(hE:Qaq m=0)(h16:g≤16)(M:ImgD)(hM:ofM (rzP m g)=M)(er:Int)(her:ofE (rzP m g)=er) :
  Calls Tryz.prog 21 #[.agg (bI m.guest ra rn rc sa sn sc fa fn fc na nn nc),.int .i64 (g:Int)] w (AnsI w w.heap.size M er):=by
 have b0:Below w.heap.size w (((w.alloc (.cells (bI m.guest ra rn rc sa sn sc fa fn fc na nn nc) 26)).alloc (.cells #[.int .i64 (g:Int)] 3)).alloc zI):=(((Below.refl _ _).alloc (by simp;try omega) _).alloc (by simp;try omega) _).alloc (by simp;try omega) _;have q0:(w.alloc (.cells (bI m.guest ra rn rc sa sn sc fa fn fc na nn nc) 26)).heap[w.heap.size]? = some (.cells (bI m.guest ra rn rc sa sn sc fa fn fc na nn nc) 26):=by have:=World.alloc_heap_new w (.cells (bI m.guest ra rn rc sa sn sc fa fn fc na nn nc) 26);simpa using this
 have m0:(((w.alloc (.cells (bI m.guest ra rn rc sa sn sc fa fn fc na nn nc) 26)).alloc (.cells #[.int .i64 (g:Int)] 3)).alloc zI).heap[w.heap.size]? = some (.cells (bI m.guest ra rn rc sa sn sc fa fn fc na nn nc) 26):=(Qac (Qac q0 _) _);have q1:((w.alloc (.cells (bI m.guest ra rn rc sa sn sc fa fn fc na nn nc) 26)).alloc (.cells #[.int .i64 (g:Int)] 3)).heap[w.heap.size+1]? = some (.cells #[.int .i64 (g:Int)] 3):=by have:=World.alloc_heap_new (w.alloc (.cells (bI m.guest ra rn rc sa sn sc fa fn fc na nn nc) 26)) (.cells #[.int .i64 (g:Int)] 3);simpa using this
 have m1:(((w.alloc (.cells (bI m.guest ra rn rc sa sn sc fa fn fc na nn nc) 26)).alloc (.cells #[.int .i64 (g:Int)] 3)).alloc zI).heap[w.heap.size+1]? = some (.cells #[.int .i64 (g:Int)] 3):=(Qac q1 _);have q2:(((w.alloc (.cells (bI m.guest ra rn rc sa sn sc fa fn fc na nn nc) 26)).alloc (.cells #[.int .i64 (g:Int)] 3)).alloc zI).heap[w.heap.size+1+1]? = some zI:=by have:=World.alloc_heap_new ((w.alloc (.cells (bI m.guest ra rn rc sa sn sc fa fn fc na nn nc) 26)).alloc (.cells #[.int .i64 (g:Int)] 3)) zI;simpa using this
 have m2:(((w.alloc (.cells (bI m.guest ra rn rc sa sn sc fa fn fc na nn nc) 26)).alloc (.cells #[.int .i64 (g:Int)] 3)).alloc zI).heap[w.heap.size+1+1]? = some zI:=q2;have hz:(((w.alloc (.cells (bI m.guest ra rn rc sa sn sc fa fn fc na nn nc) 26)).alloc (.cells #[.int .i64 (g:Int)] 3)).alloc zI).heap.size=w.heap.size+1+1+1:=by simp
 clear q0 q1 q2;have hs:=Qal hE;have hchk:=Qbc (h.below b0) hE;obtain⟨c0,c1,c2,c3,c4⟩:=five m0;have g1:decide ((g:Int)<0)=false:=by simp
 have g3:decide ((16:Int)<(g:Int))=false:=by simp;omega
 have g4:¬(16:Int)<(g:Int):=by omega
 have HO:Hid (∀w1,Below (((w.alloc (.cells (bI m.guest ra rn rc sa sn sc fa fn fc na nn nc) 26)).alloc (.cells #[.int .i64 (g:Int)] 3)).alloc zI).heap.size (((w.alloc (.cells (bI m.guest ra rn rc sa sn sc fa fn fc na nn nc) 26)).alloc (.cells #[.int .i64 (g:Int)] 3)).alloc zI) w1→Calls Tryz.prog 25 #[.agg (bI m.guest ra rn rc sa sn sc fa fn fc na nn nc),.func (.func 56) #[] #[.pointer (some ⟨w.heap.size+1,0,none⟩)]] w1 (AnsI w1 w1.heap.size M er)):=fun w1 b1=>by
  have hsz:w.heap.size+1+1+1≤w1.heap.size:=(by have:=b1.size;rw [hz] at this;exact this);rw [←hM,← her];exact Qke (h.below (Below.on b0 b1)) hF (enters_of Tryz.func56 (by kernel_rfl) rfl) (Qpf (one (Qab m1 b1 (by rw [hz];omega))) (by omega) h16 hs)
 have HM:Hid ((((w.alloc (.cells (bI m.guest ra rn rc sa sn sc fa fn fc na nn nc) 26)).alloc (.cells #[.int .i64 (g:Int)] 3)).alloc zI).heap[w.heap.size]? = some (.cells (bI m.guest ra rn rc sa sn sc fa fn fc na nn nc) 26)∧(((w.alloc (.cells (bI m.guest ra rn rc sa sn sc fa fn fc na nn nc) 26)).alloc (.cells #[.int .i64 (g:Int)] 3)).alloc zI).heap[w.heap.size+1+1]? = some zI∧Below w.heap.size w (((w.alloc (.cells (bI m.guest ra rn rc sa sn sc fa fn fc na nn nc) 26)).alloc (.cells #[.int .i64 (g:Int)] 3)).alloc zI)∧(((w.alloc (.cells (bI m.guest ra rn rc sa sn sc fa fn fc na nn nc) 26)).alloc (.cells #[.int .i64 (g:Int)] 3)).alloc zI).heap.size=w.heap.size+1+1+1∧(((w.alloc (.cells (bI m.guest ra rn rc sa sn sc fa fn fc na nn nc) 26)).alloc (.cells #[.int .i64 (g:Int)] 3)).alloc zI).heap[w.heap.size+1]? = some (.cells #[.int .i64 (g:Int)] 3)):=⟨m0,m2,b0,hz,m1⟩;clear h m0 m1 m2 hz b0 hE hs hM her hF h16
 go_enter Tryz.func21,Tryz.ntmps21
 go_wp2_with (go_at_call 29;refine hchk.mono ?_;rintro e w1 ⟨rfl,b1⟩;have d0:=Qab HM.out.1 b1 (by rw [HM.out.2.2.2.1];omega);obtain⟨d1,d2,d3,d4,d5⟩:=five d0;have cn:=one (Qab HM.out.2.2.2.2 b1 (by rw [HM.out.2.2.2.1];omega));have hof:=HO.out w1 b1;have HV:Hid (Below w.heap.size w w1∧w1.heap[w.heap.size+1+1]? = some zI∧w.heap.size+1+1<w1.heap.size):=(⟨Below.on HM.out.2.2.1 b1,Qab HM.out.2.1 b1 (by rw [HM.out.2.2.2.1];omega),by have:=b1.size;rw [HM.out.2.2.2.1] at this;omega⟩);clear b1 d0);refine hof.mono ?_;intro e w3 hA;obtain⟨val,ga,gc,la,lc,oa,oc,ta,tc,rfl,hO,b1,hI⟩:=hA.open;dsimp only;have k3:=Qab HV.out.2.1 b1 HV.out.2.2;obtain⟨z0,z1,z2,z3,z4⟩:=five k3;have y0:=Qaa k3 0;have y1:=Qaa k3 1;have y2:=Qaa k3 2;have y3:=Qaa k3 3;have y4:=Qaa k3 4;have HP:Hid (OI w3 w1.heap.size val M):=hO;have HB:Hid (Below w.heap.size w w3):=Below.on HV.out.1 b1;have HI:Hid (imgV M.guest val=.agg (aI M ga gc la lc oa oc ta tc)):=hI;clear hO b1 hI hof hA;go_wp2_with fail;have i1:w.heap.size≤w.heap.size+1+1:=by omega
 have hf1:∀a,Live M a→(val a).ownBlock≠some (w.heap.size+1+1):=fun a ha e=>by have:=((HP.out.row a ha).lt _ e).1;have:=HV.out.2.2;omega
 refine bodyPost_ret (v:=.tuple #[.agg (aI M ga gc la lc oa oc ta tc),.int .i64 er]) (by simp [results,Tryz.results21,go_sem,z0,z1,z2,z3,z4]) rfl ⟨val,by rw [HI.out],OI.mono (((((HP.out.far hf1).far hf1).far hf1).far hf1).far hf1) (by have:=HV.out.2.2;omega),((((HB.out.setCell i1 _).setCell i1 _).setCell i1 _).setCell i1 _).setCell i1 _⟩
def rzE (m:ImgD) (g:Int):Int:=if Qaq m≠0 then Qaq m else if 0≤g∧g≤16 then errO (Qgc m g.toNat) else 3
def rzM (m:ImgD) (g:Int):ImgD:=if Qaq m≠0 then imgZ else if 0≤g∧g≤16 then (Qgc m g.toNat).getD imgZ else imgZ
theorem Qlc {w:World}{v:Value}{m:ImgD}(h:Img w v m)(g:Int) :
  Calls Tryz.prog 21 #[v,.int .i64 g] w (AnsI w w.heap.size (rzM m g) (rzE m g)):=by
 have h':=h;obtain⟨ra,rc,sa,sc,fa,fc,na,nc,rfl,_⟩:=h.parts;unfold rzM rzE
 by_cases hl:Qaq m=0
 ·have hl0:¬Qaq m≠0:=fun x=>x hl
  rw [if_neg hl0,if_neg hl0]
  by_cases hg:0≤g∧g≤16
  ·rw [if_pos hg,if_pos hg];obtain⟨j,rfl⟩:=Int.eq_ofNat_of_zero_le hg.1;rw [Int.toNat_natCast];have h16:j≤16:=by omega
   have hM:=Qlv hl h16;exact QhA m ra _ rc sa _ sc fa _ fc na _ nc j w h' (Qbx (Qal hl)) hl h16 _ hM.m _ hM.e
  ·rw [if_neg hg,if_neg hg]
   by_cases h0:g<0
   ·exact Qgb m ra _ rc sa _ sc fa _ fc na _ nc g w h' hl h0
   ·exact QgR m ra _ rc sa _ sc fa _ fc na _ nc g w h' hl (by omega)
 ·rw [if_pos hl,if_pos hl];exact QgS m ra _ rc sa _ sc fa _ fc na _ nc g _ w h' rfl (by simp [hl])

def puE (m:ImgD) (n e:Int):Int:=if Qbk m n=0 then errO (putD m n.toNat e) else Qbk m n
def puM (m:ImgD) (n e:Int):ImgD:=if Qbk m n=0 then (putD m n.toNat e).getD imgZ else imgZ
theorem Qol {w:World}{v:Value}{m:ImgD}(h:Img w v m)(n:Int){M:ImgD}{E:Int}(hM:puM m n (-1)=M)(hE:puE m n (-1)=E) :
  Calls Tryz.prog 20 #[v,.int .i64 n] w (AnsI w w.heap.size M E):=by
 subst hM hE;exact Qod h n
theorem QnH {w:World}{v:Value}{m:ImgD}(h:Img w v m)(n:Int){M:ImgD}{E:Int}(hM:puM m n 0=M)(hE:puE m n 0=E) :
  Calls Tryz.prog 19 #[v,.int .i64 n] w (AnsI w w.heap.size M E):=by
 subst hM hE;exact Qnd h n
theorem Qi9 {w:World}{v:Value}{m:ImgD}(h:Img w v m)(n:Int)(page:ByteArray){M:ImgD}{E:Int}(hM:wrM m n page=M)(hE:wrE m n page=E) :
  Calls Tryz.prog 7 #[v,.int .i64 n,.string page] w (AnsI w w.heap.size M E):=by
 subst hM hE;exact Qja h n page
theorem Ql2 {w:World}{v:Value}{m:ImgD}(h:Img w v m)(g:Int){M:ImgD}{E:Int}(hM:rzM m g=M)(hE:rzE m g=E) :
  Calls Tryz.prog 21 #[v,.int .i64 g] w (AnsI w w.heap.size M E):=by
 subst hM hE;exact Qlc h g


def aaaa:ByteArray:=⟨#[97,97,97,97]⟩
def bbbb:ByteArray:=⟨#[98,98,98,98]⟩
def nOld:ByteArray:=⟨#[111,108,100]⟩
def Qox (g:Int) (R T:List Int):ImgD:=⟨g,[2,4],[(0,⟨#[]⟩,[]),(1,aaaa,[]),(2,⟨#[]⟩,[1,0,-1,1]),(1,bbbb,[]),(2,⟨#[]⟩,T)],R,[(nOld,4,[2])]⟩
structure QoS (n:Nat) (W:World) (R T:List Int):Prop where
 root:LAt W (n+1) [2,4]
 ta:LAt W (n+2) [1,0,-1,1]
 tb:LAt W (n+3) T
 slots:W.heap[n+4]? = some (.cells #[.int .i64 0,.string ⟨#[]⟩,nl,.int .i64 1,.string aaaa,nl,.int .i64 2,.string ⟨#[]⟩,.slice (some ⟨n+2,0,none⟩) 4 4,.int .i64 1,.string bbbb,nl,.int .i64 2,.string ⟨#[]⟩,.slice (some ⟨n+3,0,none⟩) 4 4] 37)
 refs:LAt W (n+5) R
 sroot:LAt W (n+6) [2]
 snaps:W.heap[n+7]? = some (.cells #[.string nOld,.int .i64 4,.slice (some ⟨n+6,0,none⟩) 1 1] 39)
theorem Qcf (W:World)(o:Obj)(i:Nat):(W.alloc o).heap[i]? = if i=W.heap.size then some o else W.heap[i]?:=by
 show (W.heap.push o)[i]? = _
 rw [Array.getElem?_push]
theorem Qb2 (W:World)(o:Obj):(W.alloc o).heap.size=W.heap.size+1:=by simp
set_option linter.unusedSimpArgs false in
theorem Qo9 (w:World):Calls Tryz.prog 18 #[] w fun r w'=>r=.returned (.agg #[.int .i64 6,.slice (some ⟨w.heap.size+1,0,none⟩) 2 2,.slice (some ⟨w.heap.size+4,0,none⟩) 5 5,.slice (some ⟨w.heap.size+5,0,none⟩) 5 5,.slice (some ⟨w.heap.size+7,0,none⟩) 1 1])∧QoS w.heap.size w' [0,2,2,1,1] [3,0,0,0]∧Below w.heap.size w w':=by
 go_enter Tryz.func18,Tryz.ntmps18
 go_wp2
 refine bodyPost_ret (v:=.agg #[.int .i64 6,.slice (some ⟨w.heap.size+1,0,none⟩) 2 2,.slice (some ⟨w.heap.size+4,0,none⟩) 5 5,.slice (some ⟨w.heap.size+5,0,none⟩) 5 5,.slice (some ⟨w.heap.size+7,0,none⟩) 1 1]) (by simp [results,Tryz.results18,go_sem]) rfl ⟨rfl,⟨?_,?_,?_,?_,?_,?_,?_⟩,?_⟩
 ·show _=_;simp only [Qcf,Qb2,Nat.add_right_cancel_iff,Nat.add_assoc,Nat.reduceAdd,Nat.add_left_cancel_iff,Nat.reduceEqDiff,↓reduceIte,List.map,Nat.left_eq_add,reduceCtorEq,Nat.add_eq_left,Nat.succ_ne_self]
 ·show _=_;simp only [Qcf,Qb2,Nat.add_right_cancel_iff,Nat.add_assoc,Nat.reduceAdd,Nat.add_left_cancel_iff,Nat.reduceEqDiff,↓reduceIte,List.map,Nat.left_eq_add,reduceCtorEq,Nat.add_eq_left,Nat.succ_ne_self]
 ·show _=_;simp only [Qcf,Qb2,Nat.add_right_cancel_iff,Nat.add_assoc,Nat.reduceAdd,Nat.add_left_cancel_iff,Nat.reduceEqDiff,↓reduceIte,List.map,Nat.left_eq_add,reduceCtorEq,Nat.add_eq_left,Nat.succ_ne_self]
 ·show _=_;simp only [Qcf,Qb2,Nat.add_assoc,Nat.reduceAdd,Nat.add_left_cancel_iff,Nat.reduceEqDiff,↓reduceIte,aaaa,bbbb]
 ·show _=_;simp only [Qcf,Qb2,Nat.add_right_cancel_iff,Nat.add_assoc,Nat.reduceAdd,Nat.add_left_cancel_iff,Nat.reduceEqDiff,↓reduceIte,List.map,Nat.left_eq_add,reduceCtorEq,Nat.add_eq_left,Nat.succ_ne_self]
 ·show _=_;simp only [Qcf,Qb2,Nat.add_right_cancel_iff,Nat.add_assoc,Nat.reduceAdd,Nat.add_left_cancel_iff,Nat.reduceEqDiff,↓reduceIte,List.map,Nat.left_eq_add,reduceCtorEq,Nat.add_eq_left,Nat.succ_ne_self]
 ·show _=_;simp only [Qcf,Qb2,Nat.add_assoc,Nat.reduceAdd,Nat.add_left_cancel_iff,Nat.reduceEqDiff,↓reduceIte,nOld]
 ·exact (((((((bA).alloc (by simp) _).alloc (by simp;omega) _).alloc (by simp;omega) _).alloc (by simp;omega) _).alloc (by simp;omega) _).alloc (by simp;omega) _).alloc (by simp;omega) _
theorem Qbq {W:World}{g:Nat}{A:Array Value}{t:TypeId}{fr:Nat × Nat}(h:W.heap[g]? = some (.cells A t fr)){j:Nat}{v:Value}(hv:A[j]? = some v):W.cell? ⟨g,j,none⟩=some v:=by
 simp [World.cell?,h,hv]
theorem QoS.img {n:Nat}{W:World}{R T:List Int}(h:QoS n W R T)(hR:R.length=5)(hT:T.length=4)(g:Int) :
  Img W (.agg #[.int .i64 g,.slice (some ⟨n+1,0,none⟩) 2 2,.slice (some ⟨n+4,0,none⟩) 5 5,.slice (some ⟨n+5,0,none⟩) 5 5,.slice (some ⟨n+7,0,none⟩) 1 1]) (Qox g R T):=by
 refine⟨_,_,_,_,rfl,h.root.sl rfl (by decide),⟨some ⟨n+4,0,none⟩,5,rfl,show (5:Nat)≤maxLen by decide,Nat.le_refl _,fun _=>⟨n+4,0,rfl,(Array.getElem?_eq_some_iff.1 h.slots).1,?_⟩⟩,h.refs.sl hR (by decide),⟨some ⟨n+7,0,none⟩,1,rfl,show (1:Nat)≤maxLen by decide,Nat.le_refl _,fun _=>⟨n+7,0,rfl,(Array.getElem?_eq_some_iff.1 h.snaps).1,?_⟩⟩⟩
 ·intro j hj;have h5:j<5:=hj
  match j,h5 with
  | 0,_=>exact⟨_,Qbq h.slots rfl,Qbq h.slots rfl,Qbq h.slots rfl,Sl.nil W⟩
  | 1,_=>exact⟨_,Qbq h.slots rfl,Qbq h.slots rfl,Qbq h.slots rfl,Sl.nil W⟩
  | 2,_=>exact⟨_,Qbq h.slots rfl,Qbq h.slots rfl,Qbq h.slots rfl,h.ta.sl rfl (by decide)⟩
  | 3,_=>exact⟨_,Qbq h.slots rfl,Qbq h.slots rfl,Qbq h.slots rfl,Sl.nil W⟩
  | 4,_=>exact⟨_,Qbq h.slots rfl,Qbq h.slots rfl,Qbq h.slots rfl,h.tb.sl hT (by decide)⟩
 ·intro j hj;have h1:j<1:=hj
  match j,h1 with
  | 0,_=>exact⟨_,Qbq h.snaps rfl,Qbq h.snaps rfl,Qbq h.snaps rfl,h.sroot.sl rfl (by decide)⟩
theorem Qfl (w:World):Calls Tryz.prog 18 #[] w fun r w'=>(∃v,r=.returned v∧Img w' v (Qox 6 [0,2,2,1,1] [3,0,0,0]))∧Below w.heap.size w w':=
 (Qo9 w).mono fun _ _ h=>⟨⟨_,h.1,h.2.1.img rfl rfl 6⟩,h.2.2⟩



theorem Qni {p:Qav→Bool}{L:List Qav}{k:Nat}(hk:k<L.length)(h:p L[k]=true)(ha:∀j,(hj:j<L.length)→j<k→p L[j]=false):L.findIdx? p=some k:=by
 rw [List.findIdx?_eq_some_iff_getElem];exact⟨hk,h,fun j hj=>by rw [ha j (by omega) hj];decide⟩
theorem Qlk {p:Qav→Bool}{L:List Qav}(ha:∀j,(hj:j<L.length)→p L[j]=false):L.findIdx? p=none:=by
 rw [List.findIdx?_eq_none_iff];intro x hx;obtain⟨j,hj,rfl⟩:=List.getElem_of_mem hx;exact ha j hj

theorem Ql9 (gm:Int)(ra:Option Addr)(rn rc:Nat)(sa:Option Addr)(sn sc:Nat)(fa:Option Addr)(fn fc:Nat)(na:Option Addr)(nn nc:Nat)(S:List Qav)(nm:ByteArray)(w:World)(hN:QbL w (.slice na nn nc) S)(hnn:S.length=nn)(hn3:nn≤1000)(i:Int)(hi:ixOf (Qbj S nm)=i) :
  Calls Tryz.prog 48 #[.agg (bI gm ra rn rc sa sn sc fa fn fc na nn nc),.string nm] w fun r w'=>r=.returned (.int .i64 i)∧Below w.heap.size w w':=by
 have b0:Below w.heap.size w (w.alloc (.cells (bI gm ra rn rc sa sn sc fa fn fc na nn nc) 26)):=bA;have m0:(w.alloc (.cells (bI gm ra rn rc sa sn sc fa fn fc na nn nc) 26)).heap[w.heap.size]? = some (.cells (bI gm ra rn rc sa sn sc fa fn fc na nn nc) 26):=zHn _ _;have z0:w.heap.size<(w.alloc (.cells (bI gm ra rn rc sa sn sc fa fn fc na nn nc) 26)).heap.size:=by simp
 have H1:Hid (QbL w (.slice na nn nc) S∧S.length=nn∧ixOf (Qbj S nm)=i):=⟨hN,hnn,hi⟩;obtain⟨c0,c1,c2,c3,c4⟩:=five m0;clear hN hnn hi
 go_enter Tryz.func48,Tryz.ntmps48
 go_wp2_with fail
 go_loopw [5] (fun i wq=>∃k:Nat,k≤nn∧i=.int .i64 k∧Hid (∀j,(h:j<S.length)→j<k→(S[j].1.toList == nm.toList)=false)∧wq=(w.alloc (.cells (bI gm ra rn rc sa sn sc fa fn fc na nn nc) 26))) (fun i _=>nn - (intOf i).toNat)
 case atStart=>exact⟨0,Nat.zero_le _,rfl,fun j h hj=>absurd hj (by omega),rfl⟩
 case round=>
  obtain⟨k,hk,rfl,HA,hw⟩:=hrel;subst hw
  by_cases hlk:k<nn
  ·have hkL:k<S.length:=by rw [H1.out.2.1];exact hlk
   obtain⟨b,off,rfl,hlt,hS⟩:=H1.out.1.at k hkL;have hki:(k:Int)<(nn:Int):=by omega
   obtain⟨s,hs⟩:∃s,s=S[k]:=⟨_,rfl⟩;obtain⟨kk,dd,tt⟩:=s;rw [←hs] at hS;obtain⟨tv,s1,_⟩:=hS;have HX:Hid (S[k]=(kk,dd,tt)):=hs.symm;have s1:=(b0.cell (p:=⟨b,off+k*3,none⟩) hlt).trans s1;clear hs
   cases hq:kk.toList == nm.toList with
   | true=>
    go_wp2_with fail;go_ret;exact⟨by rw [←H1.out.2.2];unfold Qbj;rw [Qni (p:=fun s=>s.1.toList == nm.toList) hkL (by rw [HX.out];exact hq) HA.out];rfl,b0⟩
   | false=>
    go_wp2_with fail;go_roundw
    case rel=>exact⟨k+1,by omega,by go_num,fun j h hj=>by
     by_cases e:j=k
     ·subst e;rw [HX.out];exact hq
     ·exact HA.out j h (by omega),trivial⟩
    case measure=>simp [intOf];omega
  ·have e4:k=nn:=by omega
   subst e4;go_wp2_with fail;go_ret;exact⟨by rw [←H1.out.2.2];unfold Qbj;rw [Qlk (p:=fun s=>s.1.toList == nm.toList) (fun j hj=>HA.out j hj (by rw [H1.out.2.1] at hj;exact hj))];rfl,b0⟩
theorem QeU {w:World}{v:Value}{m:ImgD}(h:Img w v m)(nm:ByteArray)(hn:m.snaps.length≤1000){i:Int}(hi:ixOf (Qbj m.snaps nm)=i) :
  Calls Tryz.prog 48 #[v,.string nm] w fun r w'=>r=.returned (.int .i64 i)∧Below w.heap.size w w':=by
 obtain⟨ra,rc,sa,sc,fa,fc,na,nc,rfl,h1,h2,h3,h4⟩:=h.parts;exact Ql9 m.guest ra _ rc sa _ sc fa _ fc na _ nc m.snaps nm w h4 rfl hn i hi




theorem QeR {W W':World}{B n size:Nat}{e:TypeId}{v:Value}{xs:List Value}(h:W.ownsRow B e size v n xs)(hb:∀g,v.ownBlock=some g→W'.heap[g]? = W.heap[g]?):W'.ownsRow B e size v n xs:=QeZ h hb
theorem Qou (ao bo:Option Addr)(n cap cap':Nat)(xs:List Int)(w:World)(hn:xs.length=n)(hm:n≤9223372036854775807)
  (hc:∀j,j<n→∃b off,ao=some ⟨b,off,none⟩∧b<w.heap.size∧w.cell? ⟨b,off+j,none⟩=some (.int .i64 (xs.getD j 0)))
  (hd:∀j,j<n→∃b off,bo=some ⟨b,off,none⟩∧b<w.heap.size∧w.cell? ⟨b,off+j,none⟩=some (.int .i64 (xs.getD j 0))) :
  Calls Tryz.prog 22 #[.slice ao n cap,.slice bo n cap'] w fun r w'=>r=.returned (.bool true)∧Below w.heap.size w w':=by
 have HC:Hid (∀j,j<n→∃b off,ao=some ⟨b,off,none⟩∧b<w.heap.size∧w.cell? ⟨b,off+j,none⟩=some (.int .i64 (xs.getD j 0))):=hc;have HD:Hid (∀j,j<n→∃b off,bo=some ⟨b,off,none⟩∧b<w.heap.size∧w.cell? ⟨b,off+j,none⟩=some (.int .i64 (xs.getD j 0))):=hd;clear hc hd;have HN:Hid (xs.length=n):=hn;clear hn
 go_enter Tryz.func22,Tryz.ntmps22
 go_wp2
 go_loopw [5] (fun i wr=>∃k:Nat,k≤n∧i=.int .i64 k∧Below w.heap.size w wr) (fun i _=>n - (intOf i).toNat)
 case atStart=>exact⟨0,by omega,rfl,Below.refl _ _⟩
 case round=>
  obtain⟨k,hk,rfl,hbel⟩:=hrel
  by_cases hlt:k<n
  ·obtain⟨x,hx⟩:∃x,xs.getD k 0=x:=⟨_,rfl⟩;obtain⟨b,off,hao,hl1,hck⟩:=HC.out k hlt;obtain⟨b',off',hbo,hl2,hck'⟩:=HD.out k hlt;rw [hx] at hck hck';clear hx;have g1:wr.cell? ⟨b,off+k,none⟩=some (.int .i64 x):=(hbel.cell (p:=⟨b,off+k,none⟩) hl1).trans hck;have g2:wr.cell? ⟨b',off'+k,none⟩=some (.int .i64 x):=(hbel.cell (p:=⟨b',off'+k,none⟩) hl2).trans hck';have i1:(k:Int)<(n:Int):=by omega
   go_wp2
   go_quiet (fail)
   go_wp2
   go_roundw
   case rel=>exact⟨k+1,by omega,by go_num,below_drewN hbel _⟩
   case measure=>simp [intOf];omega
  ·have e4:k=n:=by omega
   subst e4
   go_wp2
   go_ret;exact⟨rfl,hbel⟩
theorem QbS {v u:Value}{xs:List Int}{w:World}(h:Sl w v xs)(k:Sl w u xs) :
  Calls Tryz.prog 22 #[v,u] w fun r w'=>r=.returned (.bool true)∧Below w.heap.size w w':=by
 obtain⟨ao,cap,rfl⟩:=h.form;obtain⟨bo,cap',rfl⟩:=k.form;obtain⟨hn,hm,_,hc⟩:=h.cells;obtain⟨_,_,_,hd⟩:=k.cells;exact Qou ao bo _ cap cap' xs w hn hm hc hd
abbrev e3:Obj:=.cells #[] 3
end Go.Proofs.YtehleeibgkpjmagGreat
