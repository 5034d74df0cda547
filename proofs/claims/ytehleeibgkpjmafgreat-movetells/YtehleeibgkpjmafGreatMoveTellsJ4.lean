/- Texts joined: TChk2, TLook, Z4, RtI, Cted, ExtP, Grab, WrP, WrQ, PkP, PkN. -/
import Derived.Test.YtehleeibgkpjmafGreatMoveTellsJ3
import Derived.Test.YtehleeibgkpjmafGreatMoveTellsJ1
import Derived.WalkKit
set_option linter.unusedVariables false
set_option linter.unusedSimpArgs false
namespace Go.Proofs.YtehleeibgkpjmafGreat
open Go.RowKit Go.Shelf
set_option maxRecDepth 20000
def freeAt (m:ImgD) (i:Nat):Bool:=((m.slots.getD i default).1 == 0) == ((cntL m).getD i 0 == 0)
def checkE (m:ImgD):Int:=if shapeE m≠0 then shapeE m else if cntL m≠m.refs then 9 else if (List.range m.slots.length).all (freeAt m)=true then 0 else 9
theorem tcheck_err (gm:Int)(ra:Option Addr)(rn rc:Nat)(sa:Option Addr)(sn sc:Nat)(fa:Option Addr)(fn fc:Nat)(na:Option Addr)(nn nc:Nat)(m:ImgD)(E:Int)(w:World)(h:Img w (.agg #[.int .i64 gm,.slice ra rn rc,.slice sa sn sc,.slice fa fn fc,.slice na nn nc]) m)(hE:shapeE m=E)(hne:(E != 0)=true) :
  Calls Tryz.prog 38 #[.agg #[.int .i64 gm,.slice ra rn rc,.slice sa sn sc,.slice fa fn fc,.slice na nn nc]] w fun r w'=>r=.returned (.int .i64 E)∧Below w.heap.size w w':=by
 have b0:Below w.heap.size w (w.alloc (.cells #[.int .i64 gm,.slice ra rn rc,.slice sa sn sc,.slice fa fn fc,.slice na nn nc] 27)):=(Below.refl _ _).alloc (Nat.le_refl _) _
 have hcall:=counts_err (h.below b0) hE hne
 clear h hE
 go_enter Tryz.func38,Tryz.ntmps38
 go_wp2_with (go_at_call 69;refine hcall.mono ?_;rintro e w1 ⟨rfl,b1⟩)
 go_ret
 exact⟨rfl,Below.on b0 b1⟩
theorem equal_is {w:World}{u v:Value}{xs ys:List Int}(h:Sl w u xs)(k:Sl w v ys)(hl:xs.length=ys.length){B:Bool}(hB:(xs == ys)=B) :
  Calls Tryz.prog 70 #[u,v] w fun r w'=>r=.returned (.bool B)∧Below w.heap.size w w':=by
 subst hB
 obtain⟨ao,cap,rfl⟩:=h.form
 obtain⟨bo,cap',rfl⟩:=k.form
 obtain⟨_,hm,_,hc⟩:=h.cells
 obtain⟨_,_,_,hd⟩:=k.cells
 rw [←hl] at hd ⊢
 refine equal_at ao bo _ cap cap' xs ys w rfl hl.symm hm (fun j hj=>?_) (fun j hj=>?_)
 ·obtain⟨b,off,e,_,c⟩:=hc j hj
  exact⟨b,off,e,c⟩
 ·obtain⟨b,off,e,_,c⟩:=hd j hj
  exact⟨b,off,e,c⟩
set_option maxHeartbeats 2000000 in
theorem tcheck_at (gm:Int)(ra:Option Addr)(rn rc:Nat)(sb so:Nat)(sn sc:Nat)(fa:Option Addr)(fn fc:Nat)(na:Option Addr)(nn nc:Nat)(m:ImgD)(E:Int)(w:World)(h:Img w (.agg #[.int .i64 gm,.slice ra rn rc,.slice (some ⟨sb,so,none⟩) sn sc,.slice fa fn fc,.slice na nn nc]) m)
  (hf:Sl w (.slice fa fn fc) m.refs) (hsn:m.slots.length=sn) (hsb:sb<w.heap.size) (h40:sn≤40) (hcl:∀j,(h:j<m.slots.length)→SlAt w sb (so+j*3) m.slots[j]) (hE:shapeE m=0) (hc:checkE m=E) :
  Calls Tryz.prog 38 #[.agg #[.int .i64 gm,.slice ra rn rc,.slice (some ⟨sb,so,none⟩) sn sc,.slice fa fn fc,.slice na nn nc]] w fun r w'=>r=.returned (.int .i64 E)∧Below w.heap.size w w':=by
 have b0:Below w.heap.size w (w.alloc (.cells #[.int .i64 gm,.slice ra rn rc,.slice (some ⟨sb,so,none⟩) sn sc,.slice fa fn fc,.slice na nn nc] 27)):=(Below.refl _ _).alloc (Nat.le_refl _) _
 have m0:(w.alloc (.cells #[.int .i64 gm,.slice ra rn rc,.slice (some ⟨sb,so,none⟩) sn sc,.slice fa fn fc,.slice na nn nc] 27)).heap[w.heap.size]? = some (.cells #[.int .i64 gm,.slice ra rn rc,.slice (some ⟨sb,so,none⟩) sn sc,.slice fa fn fc,.slice na nn nc] 27):=World.alloc_heap_new _ _
 have hcall:=counts_ok (h.below b0) hE
 have hz:=(shapeE_zero hE).2.2.1
 have HLr:Hid ((cntL m).length=m.refs.length):=by show _=_;rw [cntL_length,hz]
 have HN:Hid (m.slots.length=sn):=hsn
 have HCl:Hid (∀j,(h:j<m.slots.length)→SlAt w sb (so+j*3) m.slots[j]):=hcl
 have HE:Hid (checkE m=if cntL m≠m.refs then 9 else if (List.range m.slots.length).all (freeAt m)=true then 0 else 9):=by
  show _=_
  unfold checkE
  rw [if_neg (by simpa using hE)]
 have Hc:Hid (checkE m=E):=hc
 clear h hE hz hsn hcl hc
 cases hq:cntL m == m.refs with
 | false=>
  have H9:Hid (E=9):=by
   show _=_
   rw [←Hc.out,HE.out,if_pos (by simpa using hq)]
  go_enter Tryz.func38,Tryz.ntmps38
  go_wp2_with fail
  refine hcall.mono ?_
  rintro e w1 ⟨⟨lv,rfl,hlv⟩,b1⟩
  have m1:=cells_below m0 b1 (by simp)
  obtain⟨c0,c1,c2,c3,c4⟩:=five m1
  have hf1:=hf.below (Below.on b0 b1)
  have hcall2:=equal_is hlv hf1 HLr.out hq
  obtain⟨la,lc,rfl⟩:=hlv.form
  clear hcall hlv hf1
  go_wp2_with fail
  refine hcall2.mono ?_
  rintro e w2 ⟨rfl,b2⟩
  go_wp2_with fail
  go_ret
  exact⟨by rw [H9.out];rfl,Below.on' b0 b1 b2⟩
 | true=>
  have H9:Hid (E=if (List.range m.slots.length).all (freeAt m)=true then 0 else 9):=by
   show _=_
   rw [←Hc.out,HE.out,if_neg (by simpa using hq)]
  go_enter Tryz.func38,Tryz.ntmps38
  go_wp2_with fail
  refine hcall.mono ?_
  rintro e w1 ⟨⟨lv,rfl,hlv⟩,b1⟩
  have m1:=cells_below m0 b1 (by simp)
  obtain⟨c0,c1,c2,c3,c4⟩:=five m1
  have hf1:=hf.below (Below.on b0 b1)
  have hcall2:=equal_is hlv hf1 HLr.out hq
  obtain⟨la,lc,rfl⟩:=hlv.form
  clear hcall hf1
  go_wp2_with fail
  refine hcall2.mono ?_
  rintro e w2 ⟨rfl,b2⟩
  have m2:=cells_below m1 b2 (szH m1)
  obtain⟨d0,d1,d2,d3,d4⟩:=five m2
  have hlv2:=hlv.below b2
  have hbw:=Below.on' b0 b1 b2
  obtain⟨_,hlm,_,hlc⟩:=hlv2.cells
  have HLc:Hid (∀j,j<(cntL m).length→∃b off,la=some ⟨b,off,none⟩∧b<w2.heap.size∧w2.cell? ⟨b,off+j,none⟩=some (.int .i64 ((cntL m).getD j 0))):=hlc
  have hle:(cntL m).length=sn:=by rw [cntL_length,HN.out]
  have HLe:Hid ((cntL m).length=sn):=hle
  rw [hle] at HLc ⊢
  clear hcall2 hlv hlv2 hlc c0 c1 c2 c3 c4 hle hlm hf
  go_wp2_with fail
  go_loopw [5,6,23] (fun _ _ i wr=>∃k:Nat,k≤sn∧i=.int .i64 k∧Hid (∀j,j<k→freeAt m j=true)∧Below w2.heap.size w2 wr) (fun _ _ i _=>sn - (intOf i).toNat)
  case atStart=>exact⟨0,Nat.zero_le _,rfl,fun j hj=>absurd hj (by omega),Below.refl _ _⟩
  case round=>
   obtain⟨k,hk,rfl,HA,hbel⟩:=hrel
   by_cases hlk:k<sn
   ·have hki:(k:Int)<(sn:Int):=by omega
    have hkm:k<m.slots.length:=by rw [HN.out];exact hlk
    obtain⟨lb,lo,rfl,hlb,hlc⟩:=HLc.out k hlk
    obtain⟨s,hs⟩:∃s,s=m.slots[k]'hkm:=⟨_,rfl⟩
    obtain⟨kk,dd,tt⟩:=s
    have hS:SlAt w sb (so+k*3) (kk,dd,tt):=by rw [hs];exact HCl.out k _
    obtain⟨tv,e1,e2,e3,hsl⟩:=hS
    obtain⟨ta,tc,rfl⟩:=hsl.form
    have hbr:=Below.on hbw hbel
    obtain⟨c,hc⟩:∃c,(cntL m).getD k 0=c:=⟨_,rfl⟩
    rw [hc] at hlc
    have e1:wr.cell? ⟨sb,so+k*3,none⟩=some (.int .i64 kk):=(hbr.cell (p:=⟨sb,so+k*3,none⟩) hsb).trans e1
    have e2:wr.cell? ⟨sb,so+k*3+1,none⟩=some (.string dd):=(hbr.cell (p:=⟨sb,so+k*3+1,none⟩) hsb).trans e2
    have e3:wr.cell? ⟨sb,so+k*3+1+1,none⟩=some (.slice ta tt.length tc):=(hbr.cell (p:=⟨sb,so+k*3+1+1,none⟩) hsb).trans e3
    have el:(wr.alloc (.cells #[.int .i64 kk,.string dd,.slice ta tt.length tc] 61)).cell? ⟨lb,lo+k,none⟩=some (.int .i64 c):=((hbel.alloc hbel.size _).cell (p:=⟨lb,lo+k,none⟩) hlb).trans hlc
    have HF:Hid (freeAt m k=((kk == 0) == (c == 0))):=by
     show _=_
     unfold freeAt
     rw [hc]
     simp [List.getD,hkm,← hs]
    have hba:Below w2.heap.size w2 (wr.alloc (.cells #[.int .i64 kk,.string dd,.slice ta tt.length tc] 61)):=hbel.alloc hbel.size _
    clear hs hlc hc hsl
    cases hx:kk == 0 with
    | true=>
     cases hy:c == 0 with
     | true=>
      go_wp2_with fail
      go_region
      go_wp2_with fail
      go_roundw
      case rel=>exact⟨k+1,by omega,by go_num,fun j hj=>by
       by_cases e:j=k
       ·subst e;rw [HF.out,hx,hy];rfl
       ·exact HA.out j (by omega),⟨hba.os,hba.tape,hba.output,hba.size,hba.block⟩⟩
      case measure=>simp [intOf];omega
     | false=>
      have HB:Hid (E=9):=by
       show _=_
       rw [H9.out,if_neg]
       intro e
       rw [List.all_eq_true] at e
       have:=e k (by simpa using hkm)
       rw [HF.out,hx,hy] at this
       cases this
      go_wp2_with fail
      go_region
      go_wp2_with fail
      go_ret
      exact⟨ret_int HB.out.symm,Below.on hbw ⟨hba.os,hba.tape,hba.output,hba.size,hba.block⟩⟩
    | false=>
     cases hy:c == 0 with
     | true=>
      have HB:Hid (E=9):=by
       show _=_
       rw [H9.out,if_neg]
       intro e
       rw [List.all_eq_true] at e
       have:=e k (by simpa using hkm)
       rw [HF.out,hx,hy] at this
       cases this
      go_wp2_with fail
      go_region
      go_wp2_with fail
      go_ret
      exact⟨ret_int HB.out.symm,Below.on hbw ⟨hba.os,hba.tape,hba.output,hba.size,hba.block⟩⟩
     | false=>
      go_wp2_with fail
      go_region
      go_wp2_with fail
      go_roundw
      case rel=>exact⟨k+1,by omega,by go_num,fun j hj=>by
       by_cases e:j=k
       ·subst e;rw [HF.out,hx,hy];rfl
       ·exact HA.out j (by omega),⟨hba.os,hba.tape,hba.output,hba.size,hba.block⟩⟩
      case measure=>simp [intOf];omega
   ·have e4:k=sn:=by omega
    subst e4
    go_wp2_with fail
    go_ret
    refine⟨ret_int ?_,Below.on hbw hbel⟩
    rw [H9.out,if_pos]
    rw [List.all_eq_true]
    intro j hj
    exact HA.out j (by rw [←HN.out];simpa using hj)
theorem tcheck_is {w:World}{v:Value}{m:ImgD}(h:Img w v m){E:Int}(hE:checkE m=E) :
  Calls Tryz.prog 38 #[v] w fun r w'=>r=.returned (.int .i64 E)∧Below w.heap.size w w':=by
 have h':=h
 obtain⟨ra,rc,sa,sc,fa,fc,na,nc,rfl,h1,h2,h3,h4⟩:=h.parts
 by_cases h0:shapeE m=0
 ·have z2:=(shapeE_zero h0).2.1
  have hp:=slotsE_parts z2
  obtain⟨sb,so,sc',e,hcp,hlt,hcell⟩:=h2.open hp.1
  simp at e
  obtain⟨rfl,rfl⟩:=e
  exact tcheck_at m.guest ra _ rc sb so _ sc fa _ fc na _ nc m E w h' h3 rfl hlt hp.2 hcell h0 hE
 ·have e:shapeE m=E:=by rw [←hE];unfold checkE;rw [if_pos h0]
  exact tcheck_err m.guest ra _ rc sa _ sc fa _ fc na _ nc m E w h' e (by rw [←e];simpa using h0)
def lookV (m:ImgD) (root:List Int) (n:Nat):Int:=if root.getD (n / 4) 0=0 then 0 else (tabOf m.slots (root.getD (n / 4) 0)).getD (n % 4) 0
def lookE (m:ImgD) (n:Int):Int:=if checkE m≠0 then checkE m else if 0≤n∧n<m.guest then 0 else 3
theorem look_err (gm:Int)(ra:Option Addr)(rn rc:Nat)(sa:Option Addr)(sn sc:Nat)(fa:Option Addr)(fn fc:Nat)(na:Option Addr)(nn nc:Nat)(m:ImgD)(E n:Int)(w:World)(h:Img w (.agg #[.int .i64 gm,.slice ra rn rc,.slice sa sn sc,.slice fa fn fc,.slice na nn nc]) m)(hE:checkE m=E)(hne:(E != 0)=true) :
  Calls Tryz.prog 52 #[.agg #[.int .i64 gm,.slice ra rn rc,.slice sa sn sc,.slice fa fn fc,.slice na nn nc],.int .i64 n] w fun r w'=>r=.returned (.tuple #[.int .i64 0,.int .i64 E])∧Below w.heap.size w w':=by
 have b0:Below w.heap.size w (w.alloc (.cells #[.int .i64 gm,.slice ra rn rc,.slice sa sn sc,.slice fa fn fc,.slice na nn nc] 27)):=(Below.refl _ _).alloc (Nat.le_refl _) _
 have hcall:=tcheck_is (h.below b0) hE
 clear h hE
 go_enter Tryz.func52,Tryz.ntmps52
 go_wp2_with (go_at_call 38;refine hcall.mono ?_;rintro e w1 ⟨rfl,b1⟩)
 go_ret2
 exact⟨rfl,Below.on b0 b1⟩
theorem look_range (gm:Int)(ra:Option Addr)(rn rc:Nat)(sa:Option Addr)(sn sc:Nat)(fa:Option Addr)(fn fc:Nat)(na:Option Addr)(nn nc:Nat)(m:ImgD)(n:Int)(w:World)(h:Img w (.agg #[.int .i64 gm,.slice ra rn rc,.slice sa sn sc,.slice fa fn fc,.slice na nn nc]) m)(hE:checkE m=0)(hn:n<0∨gm≤n) :
  Calls Tryz.prog 52 #[.agg #[.int .i64 gm,.slice ra rn rc,.slice sa sn sc,.slice fa fn fc,.slice na nn nc],.int .i64 n] w fun r w'=>r=.returned (.tuple #[.int .i64 0,.int .i64 3])∧Below w.heap.size w w':=by
 have b0:Below w.heap.size w (w.alloc (.cells #[.int .i64 gm,.slice ra rn rc,.slice sa sn sc,.slice fa fn fc,.slice na nn nc] 27)):=(Below.refl _ _).alloc (Nat.le_refl _) _
 have m0:(w.alloc (.cells #[.int .i64 gm,.slice ra rn rc,.slice sa sn sc,.slice fa fn fc,.slice na nn nc] 27)).heap[w.heap.size]? = some (.cells #[.int .i64 gm,.slice ra rn rc,.slice sa sn sc,.slice fa fn fc,.slice na nn nc] 27):=World.alloc_heap_new _ _
 have hcall:=tcheck_is (h.below b0) hE
 clear h hE
 by_cases h0:n<0
 ·clear hn
  go_enter Tryz.func52,Tryz.ntmps52
  go_wp2_with (go_at_call 38;refine hcall.mono ?_;rintro e w1 ⟨rfl,b1⟩)
  go_ret2
  exact⟨rfl,Below.on b0 b1⟩
 ·have h1:gm≤n:=by omega
  clear hn
  go_enter Tryz.func52,Tryz.ntmps52
  go_wp2_with (go_at_call 38;refine hcall.mono ?_;rintro e w1 ⟨rfl,b1⟩;have m1:=cells_below m0 b1 (by simp);obtain⟨c0,c1,c2,c3,c4⟩:=five m1)
  go_ret2
  exact⟨rfl,Below.on b0 b1⟩
set_option maxHeartbeats 1000000 in
theorem look_hole (gm:Int)(rb ro:Nat)(rn rc:Nat)(sa:Option Addr)(sn sc:Nat)(fa:Option Addr)(fn fc:Nat)(na:Option Addr)(nn nc:Nat)(m:ImgD)(n:Nat)(w:World)(h:Img w (.agg #[.int .i64 gm,.slice (some ⟨rb,ro,none⟩) rn rc,.slice sa sn sc,.slice fa fn fc,.slice na nn nc]) m)(hE:checkE m=0)(hn:(n:Int)<gm)(hrn:n / 4<rn)(hn16:n<16)(hrb:rb<w.heap.size)(hc:w.cell? ⟨rb,ro+n / 4,none⟩=some (.int .i64 0)) :
  Calls Tryz.prog 52 #[.agg #[.int .i64 gm,.slice (some ⟨rb,ro,none⟩) rn rc,.slice sa sn sc,.slice fa fn fc,.slice na nn nc],.int .i64 n] w fun r w'=>r=.returned (.tuple #[.int .i64 0,.int .i64 0])∧Below w.heap.size w w':=by
 have b0:Below w.heap.size w (w.alloc (.cells #[.int .i64 gm,.slice (some ⟨rb,ro,none⟩) rn rc,.slice sa sn sc,.slice fa fn fc,.slice na nn nc] 27)):=(Below.refl _ _).alloc (Nat.le_refl _) _
 have m0:(w.alloc (.cells #[.int .i64 gm,.slice (some ⟨rb,ro,none⟩) rn rc,.slice sa sn sc,.slice fa fn fc,.slice na nn nc] 27)).heap[w.heap.size]? = some (.cells #[.int .i64 gm,.slice (some ⟨rb,ro,none⟩) rn rc,.slice sa sn sc,.slice fa fn fc,.slice na nn nc] 27):=World.alloc_heap_new _ _
 have hcall:=tcheck_is (h.below b0) hE
 have hq:((n:Int) / 4).toNat=n / 4:=by omega
 clear h hE
 go_enter Tryz.func52,Tryz.ntmps52
 go_wp2_with (go_at_call 38;refine hcall.mono ?_;rintro e w1 ⟨rfl,b1⟩;have m1:=cells_below m0 b1 (by simp);obtain⟨c0,c1,c2,c3,c4⟩:=five m1;have cr:w1.cell? ⟨rb,ro+n / 4,none⟩=some (.int .i64 0):=((Below.on b0 b1).cell (p:=⟨rb,ro+n / 4,none⟩) hrb).trans hc)
 go_ret2
 exact⟨rfl,Below.on b0 b1⟩
set_option maxHeartbeats 1000000 in
theorem look_tab (gm:Int)(rb ro:Nat)(rn rc:Nat)(sb so:Nat)(sn sc:Nat)(fa:Option Addr)(fn fc:Nat)(na:Option Addr)(nn nc:Nat)(m:ImgD)(n t:Nat)(w:World)(h:Img w (.agg #[.int .i64 gm,.slice (some ⟨rb,ro,none⟩) rn rc,.slice (some ⟨sb,so,none⟩) sn sc,.slice fa fn fc,.slice na nn nc]) m)(hE:checkE m=0)(hn:(n:Int)<gm)(hrn:n / 4<rn)(hn16:n<16)(hrb:rb<w.heap.size)(hc:w.cell? ⟨rb,ro+n / 4,none⟩=some (.int .i64 t))
  (ht0:0<t) (ht:t<sn) (hsb:sb<w.heap.size) (tb tw tc:Nat) (hct:w.cell? ⟨sb,so+t*3+2,none⟩=some (.slice (some ⟨tb,tw,none⟩) 4 tc)) (htb:tb<w.heap.size) (x:Int) (hx:w.cell? ⟨tb,tw+n % 4,none⟩=some (.int .i64 x)) :
  Calls Tryz.prog 52 #[.agg #[.int .i64 gm,.slice (some ⟨rb,ro,none⟩) rn rc,.slice (some ⟨sb,so,none⟩) sn sc,.slice fa fn fc,.slice na nn nc],.int .i64 n] w fun r w'=>r=.returned (.tuple #[.int .i64 x,.int .i64 0])∧Below w.heap.size w w':=by
 have b0:Below w.heap.size w (w.alloc (.cells #[.int .i64 gm,.slice (some ⟨rb,ro,none⟩) rn rc,.slice (some ⟨sb,so,none⟩) sn sc,.slice fa fn fc,.slice na nn nc] 27)):=(Below.refl _ _).alloc (Nat.le_refl _) _
 have m0:(w.alloc (.cells #[.int .i64 gm,.slice (some ⟨rb,ro,none⟩) rn rc,.slice (some ⟨sb,so,none⟩) sn sc,.slice fa fn fc,.slice na nn nc] 27)).heap[w.heap.size]? = some (.cells #[.int .i64 gm,.slice (some ⟨rb,ro,none⟩) rn rc,.slice (some ⟨sb,so,none⟩) sn sc,.slice fa fn fc,.slice na nn nc] 27):=World.alloc_heap_new _ _
 have hcall:=tcheck_is (h.below b0) hE
 have hq:((n:Int) / 4).toNat=n / 4:=by omega
 have hq2:((n:Int) % 4).toNat=n % 4:=by omega
 have hne:((t:Int) == 0)=false:=by simp;omega
 have h4:n % 4<4:=by omega
 clear h hE
 go_enter Tryz.func52,Tryz.ntmps52
 go_wp2_with (go_at_call 38;refine hcall.mono ?_;rintro e w1 ⟨rfl,b1⟩;have m1:=cells_below m0 b1 (by simp);obtain⟨c0,c1,c2,c3,c4⟩:=five m1;have cr:w1.cell? ⟨rb,ro+n / 4,none⟩=some (.int .i64 t):=((Below.on b0 b1).cell (p:=⟨rb,ro+n / 4,none⟩) hrb).trans hc;have ct:w1.cell? ⟨sb,so+t*3+2,none⟩=some (.slice (some ⟨tb,tw,none⟩) 4 tc):=((Below.on b0 b1).cell (p:=⟨sb,so+t*3+2,none⟩) hsb).trans hct;have cx:w1.cell? ⟨tb,tw+n % 4,none⟩=some (.int .i64 x):=((Below.on b0 b1).cell (p:=⟨tb,tw+n % 4,none⟩) htb).trans hx)
 go_ret2
 exact⟨rfl,Below.on b0 b1⟩
theorem checkE_shape {m:ImgD}(h:checkE m=0):shapeE m=0:=by
 unfold checkE at h
 split at h
 ·rename_i h1;exact absurd h h1
 ·rename_i h1;simpa using h1
theorem look_is {w:World}{v:Value}{m:ImgD}(h:Img w v m)(n:Int){E c:Int}(hE:lookE m n=E)(hc:(if E=0 then lookV m m.root n.toNat else 0)=c) :
  Calls Tryz.prog 52 #[v,.int .i64 n] w fun r w'=>r=.returned (.tuple #[.int .i64 c,.int .i64 E])∧Below w.heap.size w w':=by
 have h':=h
 obtain⟨ra,rc,sa,sc,fa,fc,na,nc,rfl,h1,h2,h3,h4⟩:=h.parts
 unfold lookE at hE
 by_cases h0:checkE m=0
 ·rw [if_neg (by simpa using h0)] at hE
  by_cases hn:0≤n∧n<m.guest
  ·rw [if_pos hn] at hE
   subst hE
   rw [if_pos rfl] at hc
   obtain⟨k,rfl⟩:∃k:Nat,n=k:=⟨n.toNat,by omega⟩
   rw [Int.toNat_natCast] at hc
   obtain⟨z1,z2,z3,z4,z5,z6,z7⟩:=shapeE_zero (checkE_shape h0)
   have hg:guestOK m.guest=true:=List.all_eq_true.1 z5 (⟨#[]⟩,m.guest,m.root) List.mem_cons_self
   have hrf:rootFit m.slots m.guest m.root=true:=List.all_eq_true.1 z7 (⟨#[]⟩,m.guest,m.root) List.mem_cons_self
   unfold guestOK at hg
   simp only [decide_eq_true_eq] at hg
   unfold rootFit at hrf
   simp only [Bool.and_eq_true,decide_eq_true_eq] at hrf
   have hkl:k / 4<m.root.length:=by omega
   have hE2:=all_at hrf.2.1 hkl
   obtain⟨rb,ro,rc',e,_,hrb,hcell⟩:=h1.open (by omega)
   simp at e
   obtain⟨rfl,rfl⟩:=e
   have hcr:=hcell (k / 4) hkl
   unfold lookV at hc
   by_cases hz:m.root.getD (k / 4) 0=0
   ·rw [if_pos hz] at hc
    subst hc
    rw [hz] at hcr
    exact look_hole m.guest rb ro _ rc sa _ sc fa _ fc na _ nc m k w h' h0 hn.2 hkl (by omega) hrb hcr
   ·rw [if_neg hz] at hc
    rw [rootE_x hz] at hE2
    obtain⟨t,ht,htl,hkd⟩:=isKd_yes hE2
    have hok:=okD_tab (slotsE_all z2 htl) hkd
    obtain⟨sb,so,sc',e,_,hsb,hcl⟩:=h2.open (by omega)
    simp at e
    obtain⟨rfl,rfl⟩:=e
    obtain⟨tv,_,_,c3,hsl⟩:=hcl t htl
    obtain⟨tb,tw,tc,rfl,_,htb,htc⟩:=hsl.four hok.1
    rw [ht] at hcr hc hz
    have e4:tabOf m.slots (t:Int)=m.slots[t].2.2:=by unfold tabOf;simp [List.getD,htl]
    rw [e4] at hc
    have hx:=htc (k % 4) (by omega)
    rw [hc] at hx
    exact look_tab m.guest rb ro _ rc sb so _ sc fa _ fc na _ nc m k t w h' h0 hn.2 hkl (by omega) hrb hcr (by omega) htl hsb tb tw tc c3 htb c hx
  ·rw [if_neg hn] at hE
   subst hE
   rw [if_neg (by decide)] at hc
   subst hc
   exact look_range m.guest ra _ rc sa _ sc fa _ fc na _ nc m n w h' h0 (by omega)
 ·rw [if_pos h0] at hE
  rw [if_neg (by rw [←hE];exact h0)] at hc
  subst hc
  exact look_err m.guest ra _ rc sa _ sc fa _ fc na _ nc m E n w h' hE (by rw [←hE];simpa using h0)
end Go.Proofs.YtehleeibgkpjmafGreat
namespace Go.Proofs.YtehleeibgkpjmafGreat
def Z4:ByteArray:=⟨#[0,0,0,0]⟩
end Go.Proofs.YtehleeibgkpjmafGreat
namespace Go.Proofs.YtehleeibgkpjmafGreat
open Go.RowKit Go.Shelf
set_option maxRecDepth 20000
theorem checkE_zero {m:ImgD}(h:checkE m=0):shapeE m=0∧cntL m=m.refs∧∀j,j<m.slots.length→freeAt m j=true:=by
 have hs:=checkE_shape h
 unfold checkE at h
 rw [if_neg (by simpa using hs)] at h
 split at h
 ·simp at h
 ·rename_i hc
  split at h
  ·rename_i ha
   exact⟨hs,Classical.not_not.1 hc,fun j hj=>List.all_eq_true.1 ha j (by simpa using hj)⟩
  ·simp at h
theorem getD_at {l:List Int}{j:Nat}(h:j<l.length):l.getD j 0=l[j]:=by simp [List.getD,h]
theorem guest_ok {m:ImgD}(h:shapeE m=0):0≤m.guest∧m.guest≤16:=by
 have:=List.all_eq_true.1 (shapeE_zero h).2.2.2.2.1 (⟨#[]⟩,m.guest,m.root) List.mem_cons_self
 unfold guestOK at this
 simpa using this
theorem root_ok {m:ImgD}(h:shapeE m=0):(m.root.length:Int)=(m.guest+3) / 4∧m.root.all (rootE m.slots)=true:=by
 have:=List.all_eq_true.1 (shapeE_zero h).2.2.2.2.2.2 (⟨#[]⟩,m.guest,m.root) List.mem_cons_self
 unfold rootFit at this
 simp only [Bool.and_eq_true,decide_eq_true_eq] at this
 exact⟨this.1,this.2.1⟩
theorem lookV_ent {m:ImgD}(h:shapeE m=0){root:List Int}(hall:root.all (rootE m.slots)=true)(n:Nat)(hl:n / 4<root.length):lookV m root n=0∨lookV m root n = -1∨∃j:Nat,lookV m root n=j∧1≤j∧j<m.slots.length∧kd m.slots j=1:=by
 obtain⟨z1,z2,z3,z4,z5,z6,z7⟩:=shapeE_zero h
 unfold lookV
 by_cases hz:root.getD (n / 4) 0=0
 ·rw [if_pos hz];exact .inl rfl
 rw [if_neg hz]
 have hE2:=all_at hall hl
 rw [rootE_x hz] at hE2
 have h4:=tab_len z2 hE2
 have hm:n % 4<(tabOf m.slots (root.getD (n / 4) 0)).length:=by omega
 have e:(tabOf m.slots (root.getD (n / 4) 0)).getD (n % 4) 0=(tabOf m.slots (root.getD (n / 4) 0))[n % 4]:=getD_at hm
 rw [e]
 rcases tab_ent z6 _ (List.getElem_mem hm) with g | g | ⟨j,g1,g2,g3⟩
 ·exact .inl g
 ·exact .inr (.inl g)
 ·refine .inr (.inr ⟨j,g1,?_,g2,g3⟩)
  rcases Nat.eq_zero_or_pos j with e | e
  ·subst e;rw [slot0 z2] at g3;simp at g3
  ·exact e
theorem lookE_of {m:ImgD}(hC:checkE m=0){k:Nat}(hk:(k:Int)<m.guest):lookE m k=0:=by
 unfold lookE;rw [if_neg (by simpa using hC),if_pos ⟨by omega,hk⟩]
def pageV (L:List SlotD) (e:Int):ByteArray:=if e≤0 then Z4 else (L.getD e.toNat default).2.1
def allP (m:ImgD) (root:List Int) (g:Nat):List ByteArray:=(List.range g).map (fun n=>pageV m.slots (lookV m root n))
def readV (m:ImgD) (n:Int):ByteArray:=if lookE m n=0 then pageV m.slots (lookV m m.root n.toNat) else ByteArray.empty
def allV (m:ImgD):List ByteArray:=if checkE m=0 then allP m m.root m.guest.toNat else []
def snapIx (S:List SnapD) (nm:ByteArray):Option Nat:=S.findIdx? (fun s=>s.1.toList == nm.toList)
def pastE (m:ImgD) (nm:ByteArray):Int:=if checkE m≠0 then checkE m else match snapIx m.snaps nm with | some _=>0 | none=>5
def pastV (m:ImgD) (nm:ByteArray):List ByteArray:=if checkE m≠0 then [] else match snapIx m.snaps nm with | some k=>allP m (m.snaps.getD k default).2.2 (m.snaps.getD k default).2.1.toNat | none=>[]
theorem snapIx_some {S:List SnapD}{nm:ByteArray}{k:Nat}(h:snapIx S nm=some k):k<S.length:=by
 unfold snapIx at h
 rw [List.findIdx?_eq_some_iff_getElem] at h
 exact h.1
def slotZ:SlotD:=(0,⟨#[]⟩,[])
def freeUn (L:List SlotD) (c:List Int):List SlotD:=(List.range L.length).map (fun j=>if c.getD j 0=0 then slotZ else L.getD j default)
def countedD (m:ImgD):ImgD:={ m with refs:=cntL m,slots:=freeUn m.slots (cntL m) }
theorem freeUn_length (L:List SlotD)(c:List Int):(freeUn L c).length=L.length:=by simp [freeUn]
theorem freeUn_get {L:List SlotD}{c:List Int}{j:Nat}(hj:j<L.length):(freeUn L c).getD j default=if c.getD j 0=0 then slotZ else L.getD j default:=by
 unfold freeUn
 simp only [List.getD,List.getElem?_map,List.getElem?_range hj,Option.map_some,Option.getD_some]
theorem freeUn_kept {L:List SlotD}{c:List Int}{j:Nat}(hj:j<L.length)(hc:c.getD j 0≠0):(freeUn L c).getD j default=L.getD j default:=by
 rw [freeUn_get hj,if_neg hc]
theorem freeUn_gone {L:List SlotD}{c:List Int}{j:Nat}(hj:j<L.length)(hc:c.getD j 0=0):(freeUn L c).getD j default=slotZ:=by
 rw [freeUn_get hj,if_pos hc]
theorem le_sum {f:Nat→Nat} : ∀ {n k:Nat},k<n→f k≤((List.range n).map f).sum
 | 0,_,h=>absurd h (by omega)
 | n+1,k,h=>by
  rw [List.range_succ,List.map_append,List.sum_append]
  by_cases e:k=n
  ·subst e;simp
  ·have:=le_sum (f:=f) (n:=n) (k:=k) (by omega);simp;omega
theorem sum_pos {f:Nat→Nat} : ∀ {n:Nat},0<((List.range n).map f).sum→∃k,k<n∧0<f k
 | 0,h=>absurd h (by simp)
 | n+1,h=>by
  rw [List.range_succ,List.map_append,List.sum_append] at h
  by_cases e:0<f n
  ·exact⟨n,by omega,e⟩
  ·obtain⟨k,hk,hf⟩:=sum_pos (f:=f) (n:=n) (by simp at h;omega)
   exact⟨k,by omega,hf⟩
theorem told_root {m:ImgD}(h:shapeE m=0){j:Nat}(hj:(j:Int) ∈ flatR m)(h1:1≤j):j<m.slots.length∧kd m.slots j=2∧(cntL m).getD j 0≠0:=by
 rcases rootE_cases (flatR_root h _ hj) with e | ⟨i,e,hi,hk⟩
 ·omega
 ·have:j=i:=by omega
  subst this
  refine⟨hi,hk,?_⟩
  rw [cntL_get h j hi]
  unfold cntI
  have:=List.count_pos_iff.2 hj
  rw [if_neg (by omega)];omega
theorem told_ent {m:ImgD}(h:shapeE m=0){j:Nat}(hj:(j:Int) ∈ flatR m)(h1:1≤j){i:Nat}(hi:(i:Int) ∈ tabOf m.slots j)(hi1:1≤i):i<m.slots.length∧kd m.slots i=1∧(cntL m).getD i 0≠0:=by
 obtain⟨hjl,hk,_⟩:=told_root h hj h1
 rcases tab_ent (shapeE_zero h).2.2.2.2.2.1 _ hi with e | e | ⟨q,e,hq,hk1⟩
 ·omega
 ·omega
 ·have:i=q:=by omega
  subst this
  refine⟨hq,hk1,?_⟩
  rw [cntL_get h i hq]
  unfold cntI
  rw [if_neg (by omega)]
  have h2:toldT m.slots (flatR m) i j≤sumT m.slots (flatR m) i:=le_sum hjl
  have h3:toldT m.slots (flatR m) i j=(tabOf m.slots j).count (i:Int):=by unfold toldT;rw [if_pos ⟨hk,hj⟩]
  have:=List.count_pos_iff.2 hi
  omega
theorem cnt_told {m:ImgD}(h:shapeE m=0){j:Nat}(hj:j<m.slots.length)(hc:(cntL m).getD j 0≠0):1≤j∧((kd m.slots j=2∧(j:Int) ∈ flatR m)∨(kd m.slots j=1∧∃k:Nat,1≤k∧(k:Int) ∈ flatR m∧kd m.slots k=2∧(j:Int) ∈ tabOf m.slots k)):=by
 obtain⟨z1,z2,z3,z4,z5,z6,z7⟩:=shapeE_zero h
 rw [cntL_get h j hj] at hc
 unfold cntI at hc
 by_cases h0:j=0
 ·rw [if_pos h0] at hc;exact absurd rfl hc
 rw [if_neg h0] at hc
 refine⟨by omega,?_⟩
 by_cases hp:0<(flatR m).count (j:Int)
 ·have hm:=List.count_pos_iff.1 hp
  exact .inl ⟨(told_root h hm (by omega)).2.1,hm⟩
 ·obtain⟨k,hk,hf⟩:=sum_pos (f:=toldT m.slots (flatR m) j) (n:=m.slots.length) (by
   have:0<sumT m.slots (flatR m) j:=by omega
   exact this)
  unfold toldT at hf
  split at hf
  ·rename_i hc2
   have hm:=List.count_pos_iff.1 hf
   have k1:1≤k:=by
    rcases Nat.eq_zero_or_pos k with e | e
    ·subst e;rw [slot0 z2] at hc2;simp at hc2
    ·exact e
   exact .inr ⟨(told_ent h hc2.2 k1 hm (by omega)).2.1,k,k1,hc2.2,hc2.1,hm⟩
  ·omega
theorem kd_kept {m:ImgD}{j:Nat}(hj:j<m.slots.length)(hc:(cntL m).getD j 0≠0):kd (countedD m).slots j=kd m.slots j:=by
 unfold kd countedD;dsimp only;rw [freeUn_kept hj hc]
theorem tab_kept {m:ImgD}{j:Nat}(hj:j<m.slots.length)(hc:(cntL m).getD j 0≠0):tabOf (countedD m).slots j=tabOf m.slots j:=by
 unfold tabOf countedD;dsimp only;rw [Int.toNat_natCast,freeUn_kept hj hc]
theorem isKd_of {L:List SlotD}{j:Nat}(hj:j<L.length){k:Int}(hk:kd L j=k):isKd L j k=true:=by
 rw [isKd_in hj]
 unfold kd at hk
 simp [List.getD,hj] at hk
 simp [hk]
theorem rootsOf_counted (m:ImgD):rootsOf (countedD m)=rootsOf m:=rfl
theorem flatR_counted (m:ImgD):flatR (countedD m)=flatR m:=rfl
theorem okD_Z:okD slotZ=true:=by decide
theorem getElem_getD {L:List SlotD}{j:Nat}(hj:j<L.length):L[j]=L.getD j default:=by simp [List.getD,hj]
theorem counted_shape {m:ImgD}(h:shapeE m=0):shapeE (countedD m)=0:=by
 obtain⟨z1,z2,z3,z4,z5,z6,z7⟩:=shapeE_zero h
 have hp:=slotsE_parts z2
 have hlen:(countedD m).slots.length=m.slots.length:=freeUn_length _ _
 have hs:slotsE (countedD m).slots=0:=by
  refine slotsE_ok (by rw [hlen];exact hp.1) (by rw [hlen];exact hp.2) (fun j hj=>?_) ?_
  ·rw [hlen] at hj
   rw [getElem_getD (by rw [hlen];exact hj)]
   show okD ((freeUn m.slots (cntL m)).getD j default)=true
   rw [freeUn_get hj]
   split
   ·exact okD_Z
   ·rw [←getElem_getD hj];exact slotsE_all z2 hj
  ·rw [getElem_getD (by rw [hlen];exact hp.1)]
   show ((freeUn m.slots (cntL m)).getD 0 default).1=0
   rw [freeUn_get hp.1]
   split
   ·rfl
   ·exact slot0 z2
 have ht:tabFit (countedD m).slots=true:=by
  unfold tabFit
  rw [List.all_eq_true]
  intro s hsm
  obtain⟨j,hj,rfl⟩:=List.getElem_of_mem hsm
  rw [hlen] at hj
  rw [getElem_getD (by rw [hlen];exact hj),List.all_eq_true]
  show ∀e ∈ ((freeUn m.slots (cntL m)).getD j default).2.2,tabE (countedD m).slots e=true
  intro e he
  by_cases hc:(cntL m).getD j 0=0
  ·rw [freeUn_gone hj hc] at he;cases he
  ·rw [freeUn_kept hj hc] at he
   have he':e ∈ tabOf m.slots (j:Int):=by unfold tabOf;rw [Int.toNat_natCast];exact he
   obtain⟨j1,hcase⟩:=cnt_told h hj hc
   rcases hcase with ⟨hk,hjm⟩ | ⟨hk,_⟩
   ·rcases tab_ent z6 _ he' with e0 | e1 | ⟨i,rfl,hi,hk1⟩
    ·rw [e0];rfl
    ·rw [e1];rfl
    ·have i1:1≤i:=by
      rcases Nat.eq_zero_or_pos i with e | e
      ·subst e;rw [slot0 z2] at hk1;simp at hk1
      ·exact e
     obtain⟨_,_,hci⟩:=told_ent h hjm j1 he' i1
     rw [tabE_x (by omega) (by omega)]
     exact isKd_of (by rw [hlen];exact hi) (by rw [kd_kept hi hci];exact hk1)
   · -- a page has no table
    exfalso
    have ok:=slotsE_all z2 hj
    rw [getElem_getD hj] at ok
    unfold kd at hk
    unfold okD slotOK at ok
    rw [if_neg (by rw [hk];decide),if_pos hk] at ok
    generalize m.slots.getD j default=s at hk ok he
    simp at ok
    rw [ok.2] at he;cases he
 have hr:(rootsOf (countedD m)).all (fun s=>rootFit (countedD m).slots s.2.1 s.2.2)=true:=by
  rw [rootsOf_counted,List.all_eq_true]
  intro s hsm
  have hf:=List.all_eq_true.1 z7 s hsm
  have hmem:∀k ∈ s.2.2,k ∈ flatR m:=fun k hk=>by unfold flatR;rw [List.mem_flatMap];exact⟨s,hsm,hk⟩
  unfold rootFit at hf ⊢
  simp only [Bool.and_eq_true] at hf ⊢
  refine⟨hf.1,?_,?_⟩
  ·rw [List.all_eq_true]
   intro k hk
   rcases rootE_cases (List.all_eq_true.1 hf.2.1 k hk) with e | ⟨j,rfl,hj,hk2⟩
   ·rw [e];rfl
   ·have j1:1≤j:=by
     rcases Nat.eq_zero_or_pos j with e | e
     ·subst e;rw [slot0 z2] at hk2;simp at hk2
     ·exact e
    rw [rootE_x (by omega)]
    obtain⟨_,_,hc⟩:=told_root h (hmem _ hk) j1
    exact isKd_of (by rw [hlen];exact hj) (by rw [kd_kept hj hc];exact hk2)
  ·have hl:=hf.2.2
   unfold lastFit at hl ⊢
   by_cases hg:s.2.1 % 4=0
   ·simp [hg]
   ·have hg':(s.2.1 % 4 == 0)=false:=by simpa using hg
    rw [hg',Bool.false_or] at hl ⊢
    by_cases hx:s.2.2.getD (s.2.2.length - 1) 0=0
    ·rw [hx];rfl
    ·have hx':(s.2.2.getD (s.2.2.length - 1) 0 == 0)=false:=by simpa using hx
     rw [hx',Bool.false_or] at hl ⊢
     have hne:s.2.2.length - 1<s.2.2.length:=by
      rcases Nat.eq_zero_or_pos s.2.2.length with e | e
      ·exfalso;apply hx;rw [List.length_eq_zero_iff.1 e];rfl
      ·omega
     have hE:=all_at hf.2.1 hne
     have hm2:s.2.2.getD (s.2.2.length - 1) 0 ∈ flatR m:=hmem _ (by rw [getD_at hne];exact List.getElem_mem hne)
     generalize s.2.2.getD (s.2.2.length - 1) 0=x at hE hm2 hl hx ⊢
     rcases rootE_cases hE with e | ⟨j,rfl,hj,hk2⟩
     ·exact absurd e hx
     ·obtain⟨_,_,hc⟩:=told_root h hm2 (by omega)
      rw [tab_kept hj hc];exact hl
 unfold shapeE
 rw [if_neg (by show ¬3<m.snaps.length;omega),if_neg (by simpa using hs),if_neg,if_neg (by rw [rootsOf_counted,z5];decide),if_neg (by rw [ht];decide),if_neg (by rw [hr];decide)]
 rintro (e | e)
 ·exact e (by rw [hlen];exact cntL_length m)
 ·have:namesOK m.snaps=false:=e
  rw [z4] at this;cases this
theorem counted_cnt {m:ImgD}(h:shapeE m=0):cntL (countedD m)=cntL m:=by
 have hlen:(countedD m).slots.length=m.slots.length:=freeUn_length _ _
 rw [rl_of (cntL_length (countedD m)),rl_of (cntL_length m),hlen]
 refine rl_congr fun j hj=>?_
 rw [cntL_get (counted_shape h) j (by rw [hlen];exact hj),cntL_get h j hj,flatR_counted]
 unfold cntI
 by_cases h0:j=0
 ·rw [if_pos h0,if_pos h0]
 rw [if_neg h0,if_neg h0]
 have e:sumT (countedD m).slots (flatR m) j=sumT m.slots (flatR m) j:=by
  unfold sumT
  rw [hlen]
  refine sum_same _ fun k hk=>?_
  unfold toldT
  by_cases hm:(k:Int) ∈ flatR m
  ·by_cases k0:k=0
   ·subst k0
    rw [if_neg (by rw [slot0 (shapeE_zero (counted_shape h)).2.1];simp),if_neg (by rw [slot0 (shapeE_zero h).2.1];simp)]
   ·obtain⟨_,_,hc⟩:=told_root h hm (by omega)
    rw [kd_kept hk hc,tab_kept hk hc]
  ·rw [if_neg (fun x=>hm x.2),if_neg (fun x=>hm x.2)]
 rw [e]
theorem counted_right {m:ImgD}(h:shapeE m=0):checkE (countedD m)=0:=by
 have hlen:(countedD m).slots.length=m.slots.length:=freeUn_length _ _
 unfold checkE
 rw [if_neg (by simpa using counted_shape h),counted_cnt h]
 have e:(countedD m).refs=cntL m:=rfl
 rw [e,if_neg (by simp),if_pos]
 rw [List.all_eq_true]
 intro j hj
 have hj:j<m.slots.length:=by rw [←hlen];simpa using hj
 unfold freeAt
 rw [counted_cnt h]
 by_cases hc:(cntL m).getD j 0=0
 ·have:((countedD m).slots.getD j default).1=0:=by show ((freeUn m.slots (cntL m)).getD j default).1=0;rw [freeUn_gone hj hc];rfl
  rw [this,hc];rfl
 ·obtain⟨_,hk⟩:=cnt_told h hj hc
  have hne:kd m.slots j≠0:=by
   rcases hk with ⟨e,_⟩ | ⟨e,_⟩
   ·rw [e];decide
   ·rw [e];decide
  have e1:((countedD m).slots.getD j default).1=kd m.slots j:=kd_kept hj hc
  have e2:(((countedD m).slots.getD j default).1 == 0)=false:=by rw [e1];simpa using hne
  have e3:((cntL m).getD j 0 == 0)=false:=by simpa using hc
  rw [e2,e3];rfl
theorem counted_same {m:ImgD}(h:checkE m=0):countedD m=m:=by
 obtain⟨hs,hc,hf⟩:=checkE_zero h
 unfold countedD
 have e:freeUn m.slots (cntL m)=m.slots:=by
  apply List.ext_getElem
  ·exact freeUn_length _ _
  ·intro j h1 h2
   rw [getElem_getD h1,getElem_getD h2,freeUn_get h2]
   split
   ·rename_i hz
    have hfj:=hf j h2
    unfold freeAt at hfj
    rw [hz] at hfj
    have hk:(m.slots.getD j default).1=0:=by simpa using hfj
    have ok:=slotsE_all (shapeE_zero hs).2.1 h2
    rw [getElem_getD h2] at ok
    unfold okD slotOK at ok
    rw [if_pos hk] at ok
    generalize m.slots.getD j default=s at hk ok
    obtain⟨a,b,c⟩:=s
    simp at hk ok
    subst hk
    rw [ok.1,ok.2];rfl
   ·rfl
 rw [e,hc]
theorem lookV_counted {m:ImgD}(h:shapeE m=0){s:SnapD}(hs:s ∈ rootsOf m){n:Nat}(hn:n / 4<s.2.2.length):lookV (countedD m) s.2.2 n=lookV m s.2.2 n:=by
 unfold lookV
 by_cases hz:s.2.2.getD (n / 4) 0=0
 ·rw [if_pos hz,if_pos hz]
 rw [if_neg hz,if_neg hz]
 have hm:s.2.2.getD (n / 4) 0 ∈ flatR m:=by
  unfold flatR;rw [List.mem_flatMap]
  exact⟨s,hs,by rw [getD_at hn];exact List.getElem_mem hn⟩
 rcases rootE_cases (flatR_root h _ hm) with e | ⟨j,e,hj,hk⟩
 ·exact absurd e hz
 ·rw [e] at hm hz ⊢
  obtain⟨_,_,hc⟩:=told_root h hm (by omega)
  rw [tab_kept hj hc]
theorem pageV_counted {m:ImgD}(h:shapeE m=0){s:SnapD}(hs:s ∈ rootsOf m){n:Nat}(hn:n / 4<s.2.2.length):pageV (countedD m).slots (lookV m s.2.2 n)=pageV m.slots (lookV m s.2.2 n):=by
 have hf:=List.all_eq_true.1 (shapeE_zero h).2.2.2.2.2.2 s hs
 unfold rootFit at hf
 simp only [Bool.and_eq_true] at hf
 have hent:=lookV_ent h hf.2.1 n hn
 unfold pageV
 by_cases hz:lookV m s.2.2 n≤0
 ·rw [if_pos hz,if_pos hz]
 rw [if_neg hz,if_neg hz]
 rcases hent with e | e | ⟨j,e,j1,hj,hk⟩
 ·omega
 ·omega
 ·rw [e,Int.toNat_natCast]
  have hr0:s.2.2.getD (n / 4) 0≠0:=fun e0=>by
   unfold lookV at e;rw [if_pos e0] at e;omega
  have hm:s.2.2.getD (n / 4) 0 ∈ flatR m:=by
   unfold flatR;rw [List.mem_flatMap]
   exact⟨s,hs,by rw [getD_at hn];exact List.getElem_mem hn⟩
  have e':(tabOf m.slots (s.2.2.getD (n / 4) 0)).getD (n % 4) 0=(j:Int):=by
   unfold lookV at e;rw [if_neg hr0] at e;exact e
  rcases rootE_cases (flatR_root h _ hm) with e0 | ⟨t,et,ht,hkt⟩
  ·exact absurd e0 hr0
  ·rw [et] at hm hr0 e'
   have hlt:n % 4<(tabOf m.slots (t:Int)).length:=by
    rw [tab_len (shapeE_zero h).2.1 (isKd_of ht hkt)];omega
   have hmem:(j:Int) ∈ tabOf m.slots (t:Int):=by rw [←e',getD_at hlt];exact List.getElem_mem hlt
   obtain⟨_,_,hc⟩:=told_ent h hm (by omega) hmem j1
   have:(countedD m).slots.getD j default=m.slots.getD j default:=freeUn_kept hj hc
   rw [this]
theorem allP_counted {m:ImgD}(h:shapeE m=0){s:SnapD}(hs:s ∈ rootsOf m):allP (countedD m) s.2.2 s.2.1.toNat=allP m s.2.2 s.2.1.toNat:=by
 unfold allP
 refine List.map_congr_left fun n hn=>?_
 have hn:=List.mem_range.1 hn
 have hf:=List.all_eq_true.1 (shapeE_zero h).2.2.2.2.2.2 s hs
 have hg:=List.all_eq_true.1 (shapeE_zero h).2.2.2.2.1 s hs
 unfold rootFit at hf
 unfold guestOK at hg
 simp only [Bool.and_eq_true,decide_eq_true_eq] at hf hg
 have hl:n / 4<s.2.2.length:=by omega
 rw [lookV_counted h hs hl,pageV_counted h hs hl]
theorem kd_lt {L:List SlotD}{j:Nat}(h:kd L j≠0):j<L.length:=by
 rcases Nat.lt_or_ge j L.length with h' | h'
 ·exact h'
 ·exfalso;apply h;unfold kd;rw [show L.getD j default=default by simp [List.getD,Nat.not_lt.2 h']];rfl
theorem tabOf_eq {L L':List SlotD}{j:Nat}(h:L'.getD j default=L.getD j default):tabOf L' j=tabOf L j:=by
 unfold tabOf;rw [Int.toNat_natCast,h]
theorem kd_eq {L L':List SlotD}{j:Nat}(h:L'.getD j default=L.getD j default):kd L' j=kd L j:=by
 unfold kd;rw [h]
structure Ext (L L':List SlotD) (t:Nat) (es:List Int):Prop where
 len:L'.length≤40
 keep:∀j,j≠t→kd L j≠0→L'.getD j default=L.getD j default
 tab:L'.getD t default=(2,⟨#[]⟩,es)
 page:kd L t≠1
 ok:∀j,j<L'.length→okD (L'.getD j default)=true
 head:kd L' 0=0
 tabs:∀j,j≠t→kd L' j=2→kd L j=2
 ents:∀e ∈ es,tabE L' e=true
theorem Ext.kdt {L L':List SlotD}{t:Nat}{es:List Int}(h:Ext L L' t es):kd L' t=2:=by unfold kd;rw [h.tab]
theorem Ext.tlt {L L':List SlotD}{t:Nat}{es:List Int}(h:Ext L L' t es):t<L'.length:=kd_lt (by rw [h.kdt];decide)
theorem Ext.t1 {L L':List SlotD}{t:Nat}{es:List Int}(h:Ext L L' t es):1≤t:=by
 rcases Nat.eq_zero_or_pos t with e | e
 ·have:=h.kdt;rw [e,h.head] at this;simp at this
 ·exact e
theorem Ext.tabt {L L':List SlotD}{t:Nat}{es:List Int}(h:Ext L L' t es):tabOf L' t=es:=by unfold tabOf;rw [Int.toNat_natCast,h.tab]
theorem Ext.data {L L':List SlotD}{t:Nat}{es:List Int}(h:Ext L L' t es){j:Nat}(hj:kd L j=1):L'.getD j default=L.getD j default:=
 h.keep j (fun e=>h.page (by rw [←e];exact hj)) (by rw [hj];decide)
theorem Ext.slots {L L':List SlotD}{t:Nat}{es:List Int}(h:Ext L L' t es):slotsE L'=0:=by
 refine slotsE_ok (by have:=h.tlt;omega) h.len (fun j hj=>?_) ?_
 ·rw [getElem_getD hj];exact h.ok j hj
 ·rw [getElem_getD];exact h.head
theorem Ext.tabE {L L':List SlotD}{t:Nat}{es:List Int}(h:Ext L L' t es)(h0:slotsE L=0){e:Int}(he:tabE L e=true):Go.Proofs.YtehleeibgkpjmafGreat.tabE L' e=true:=by
 rcases tabE_cases he with e0 | e1 | ⟨j,rfl,hj,hk⟩
 ·rw [e0];rfl
 ·rw [e1];rfl
 ·have j1:1≤j:=by
   rcases Nat.eq_zero_or_pos j with e | e
   ·subst e;rw [slot0 h0] at hk;simp at hk
   ·exact e
  rw [tabE_x (by omega) (by omega)]
  have hd:=h.data hk
  have hk':kd L' j=1:=by rw [kd_eq hd];exact hk
  exact isKd_of (kd_lt (by rw [hk'];decide)) hk'
theorem Ext.fit {L L':List SlotD}{t:Nat}{es:List Int}(h:Ext L L' t es)(h0:slotsE L=0)(hf:tabFit L=true):tabFit L'=true:=by
 unfold tabFit
 rw [List.all_eq_true]
 intro s hs
 obtain⟨j,hj,rfl⟩:=List.getElem_of_mem hs
 rw [getElem_getD hj,List.all_eq_true]
 intro e he
 by_cases hjt:j=t
 ·subst hjt;rw [h.tab] at he;exact h.ents e he
 ·by_cases hk:kd L' j=2
  ·have hk0:=h.tabs j hjt hk
   have hkeep:=h.keep j hjt (by rw [hk0];decide)
   rw [hkeep] at he
   have he':e ∈ tabOf L (j:Int):=by unfold tabOf;rw [Int.toNat_natCast];exact he
   exact h.tabE h0 (List.all_eq_true.1 (tab_all hf j) e he')
  ·exfalso
   have ok:=h.ok j hj
   unfold kd at hk
   unfold okD slotOK at ok
   generalize L'.getD j default=s at ok hk he
   rw [if_neg (c:=s.1=2) hk] at ok
   split at ok
   ·simp at ok;rw [ok.2] at he;cases he
   split at ok
   ·simp at ok;rw [ok.2] at he;cases he
   ·cases ok
structure Lone (m:ImgD) (k t:Nat):Prop where
 root:∀i,i<m.root.length→i≠k→m.root.getD i 0≠(t:Int)
 snap:∀s ∈ m.snaps,(t:Int) ∉ s.2.2
def tabSet (m:ImgD) (k t:Nat) (L':List SlotD) (rf:List Int):ImgD:={ m with root:=m.root.set k (t:Int),slots:=L',refs:=rf }
theorem getD_setI (l:List Int)(i j:Nat)(x:Int):(l.set i x).getD j 0=if i=j∧j<l.length then x else l.getD j 0:=getD_set l i j x
theorem rootE_ext {L L':List SlotD}{t:Nat}{es:List Int}(h:Ext L L' t es)(h0:slotsE L=0){x:Int}(hx:rootE L x=true)(hne:x≠(t:Int)):rootE L' x=true∧tabOf L' x=tabOf L x:=by
 rcases rootE_cases hx with e | ⟨j,rfl,hj,hk⟩
 ·subst e
  refine⟨rfl,?_⟩
  have a:tabOf L 0=[]:=by
   have ok:=slotsE_all h0 (slotsE_parts h0).1
   rw [getElem_getD (slotsE_parts h0).1] at ok
   have hk:=slot0 h0
   unfold kd at hk
   unfold okD slotOK at ok
   rw [if_pos hk] at ok
   simp at ok
   unfold tabOf
   simpa using ok.2
  have hs:=h.slots
  have b:tabOf L' 0=[]:=by
   have ok:=slotsE_all hs (slotsE_parts hs).1
   rw [getElem_getD (slotsE_parts hs).1] at ok
   have hk:=h.head
   unfold kd at hk
   unfold okD slotOK at ok
   rw [if_pos hk] at ok
   simp at ok
   unfold tabOf
   simpa using ok.2
  rw [a,b]
 ·have hjt:j≠t:=fun e=>hne (by rw [e])
  have hkeep:=h.keep j hjt (by rw [hk];decide)
  have hk':kd L' j=2:=by rw [kd_eq hkeep];exact hk
  have j1:1≤j:=by
   rcases Nat.eq_zero_or_pos j with e | e
   ·subst e;rw [slot0 h0] at hk;simp at hk
   ·exact e
  refine⟨?_,tabOf_eq hkeep⟩
  rw [rootE_x (by omega)]
  exact isKd_of (kd_lt (by rw [hk'];decide)) hk'
theorem rootFit_ext {L L':List SlotD}{t:Nat}{es:List Int}(h:Ext L L' t es)(h0:slotsE L=0){g:Int}{r:List Int}(hf:rootFit L g r=true)(hne:(t:Int) ∉ r):rootFit L' g r=true:=by
 unfold rootFit at hf ⊢
 simp only [Bool.and_eq_true,decide_eq_true_eq] at hf ⊢
 refine⟨hf.1,?_,?_⟩
 ·rw [List.all_eq_true]
  intro x hx
  exact (rootE_ext h h0 (List.all_eq_true.1 hf.2.1 x hx) (fun e=>hne (e ▸ hx))).1
 ·have hl:=hf.2.2
  unfold lastFit at hl ⊢
  by_cases hr:r.length=0
  ·rw [List.length_eq_zero_iff.1 hr];simp
  ·have hlt:r.length - 1<r.length:=by omega
   have hmem:r.getD (r.length - 1) 0 ∈ r:=by rw [getD_at hlt];exact List.getElem_mem hlt
   rw [(rootE_ext h h0 (all_at hf.2.1 hlt) (fun e=>hne (e ▸ hmem))).2]
   exact hl
theorem tabSet_shape {m:ImgD}{k t:Nat}{L':List SlotD}{es rf:List Int}(h:shapeE m=0)(hk:k<m.root.length)(hx:Ext m.slots L' t es)(hl:Lone m k t)(hrf:rf.length=L'.length)
  (hlast:k=m.root.length - 1→m.guest % 4≠0→(es.drop (m.guest % 4).toNat).all (fun e=>e == 0)=true):shapeE (tabSet m k t L' rf)=0:=by
 obtain⟨z1,z2,z3,z4,z5,z6,z7⟩:=shapeE_zero h
 have hs:=hx.slots
 have ht:=hx.fit z2 z6
 have hroot:=List.all_eq_true.1 z7 (⟨#[]⟩,m.guest,m.root) List.mem_cons_self
 dsimp only at hroot
 have hr:rootFit L' m.guest (m.root.set k (t:Int))=true:=by
  unfold rootFit at hroot ⊢
  simp only [Bool.and_eq_true,decide_eq_true_eq] at hroot ⊢
  refine⟨by rw [List.length_set];exact hroot.1,?_,?_⟩
  ·rw [List.all_eq_true]
   intro x hx'
   obtain⟨j,hj,rfl⟩:=List.getElem_of_mem hx'
   rw [List.length_set] at hj
   rw [List.getElem_set]
   by_cases e:k=j
   ·rw [if_pos e,rootE_x (by have:=hx.t1;omega)]
    exact isKd_of hx.tlt hx.kdt
   ·rw [if_neg e]
    have hE:=all_at hroot.2.1 hj
    have hn:=hl.root j hj (fun x=>e x.symm)
    rw [getD_at hj] at hE hn
    exact (rootE_ext hx z2 hE hn).1
  ·unfold lastFit
   rw [List.length_set,getD_setI]
   by_cases hg:m.guest % 4=0
   ·simp [hg]
   have hg':(m.guest % 4 == 0)=false:=by simpa using hg
   rw [hg',Bool.false_or]
   have hlt:m.root.length - 1<m.root.length:=by omega
   by_cases e:k=m.root.length - 1
   ·rw [if_pos ⟨e,hlt⟩,hx.tabt]
    have:=hlast e hg
    rw [this];simp
   ·rw [if_neg (fun x=>e x.1)]
    have hold:=hroot.2.2
    unfold lastFit at hold
    rw [hg',Bool.false_or] at hold
    rw [(rootE_ext hx z2 (all_at hroot.2.1 hlt) (hl.root _ hlt (fun x=>e x.symm))).2]
    exact hold
 have hall:(rootsOf (tabSet m k t L' rf)).all (fun s=>rootFit L' s.2.1 s.2.2)=true:=by
  show (((⟨#[]⟩,m.guest,m.root.set k (t:Int)):SnapD) :: m.snaps).all _=true
  rw [List.all_cons,hr,Bool.true_and,List.all_eq_true]
  intro s hsm
  exact rootFit_ext hx z2 (List.all_eq_true.1 z7 s (List.mem_cons_of_mem _ hsm)) (hl.snap s hsm)
 have hgall:(rootsOf (tabSet m k t L' rf)).all (fun s=>guestOK s.2.1)=true:=by
  show (((⟨#[]⟩,m.guest,m.root.set k (t:Int)):SnapD) :: m.snaps).all _=true
  have:=z5
  unfold rootsOf at this
  rw [List.all_cons] at this ⊢
  exact this
 unfold shapeE
 rw [if_neg (by show ¬3<m.snaps.length;omega),if_neg (by show ¬slotsE L'≠0;simpa using hs),if_neg,if_neg (by rw [hgall];decide),if_neg (by show ¬tabFit L'=false;rw [ht];decide),if_neg (by have e:=hall;show ¬((rootsOf (tabSet m k t L' rf)).all fun s=>rootFit L' s.2.1 s.2.2)=false;rw [e];decide)]
 rintro (e | e)
 ·exact e hrf
 ·have:namesOK m.snaps=false:=e
  rw [z4] at this;cases this
theorem look_tabSet {m:ImgD}{k t:Nat}{L':List SlotD}{es rf:List Int}(hx:Ext m.slots L' t es)(h0:slotsE m.slots=0)(hl:Lone m k t)(hall:m.root.all (rootE m.slots)=true)(n:Nat)(hn:n / 4<m.root.length) :
  lookV (tabSet m k t L' rf) (m.root.set k (t:Int)) n=if n / 4=k then es.getD (n % 4) 0 else lookV m m.root n:=by
 have hg:=getD_setI m.root k (n / 4) (t:Int)
 by_cases e:n / 4=k
 ·rw [if_pos (⟨e.symm,hn⟩:k=n / 4∧n / 4<m.root.length)] at hg
  unfold lookV
  rw [hg,if_pos e,if_neg (by have:=hx.t1;omega)]
  show (tabOf L' (t:Int)).getD (n % 4) 0=_
  rw [hx.tabt]
 ·rw [if_neg (fun x=>e x.1.symm)] at hg
  rw [if_neg e]
  unfold lookV
  rw [hg]
  by_cases hz:m.root.getD (n / 4) 0=0
  ·rw [if_pos hz,if_pos hz]
  ·rw [if_neg hz,if_neg hz]
   show (tabOf L' _).getD (n % 4) 0=_
   rw [(rootE_ext hx h0 (all_at hall hn) (hl.root _ hn e)).2]
theorem look_snap {m:ImgD}{k t:Nat}{L':List SlotD}{es rf:List Int}(hx:Ext m.slots L' t es)(h0:slotsE m.slots=0){r:List Int}(hall:r.all (rootE m.slots)=true)(hne:(t:Int) ∉ r)(n:Nat)(hn:n / 4<r.length) :
  lookV (tabSet m k t L' rf) r n=lookV m r n:=by
 unfold lookV
 by_cases hz:r.getD (n / 4) 0=0
 ·rw [if_pos hz,if_pos hz]
 ·rw [if_neg hz,if_neg hz]
  show (tabOf L' _).getD (n % 4) 0=_
  rw [(rootE_ext hx h0 (all_at hall hn) (fun e=>hne (by rw [←e,getD_at hn];exact List.getElem_mem hn))).2]
theorem page_ext {L L':List SlotD}{t:Nat}{es:List Int}(hx:Ext L L' t es){e:Int}(he:e=0∨e = -1∨∃j:Nat,e=j∧1≤j∧j<L.length∧kd L j=1):pageV L' e=pageV L e:=by
 unfold pageV
 rcases he with rfl | rfl | ⟨j,rfl,j1,hj,hk⟩
 ·rfl
 ·rfl
 ·rw [if_neg (by omega),if_neg (by omega),Int.toNat_natCast,hx.data hk]
end Go.Proofs.YtehleeibgkpjmafGreat
namespace Go.Proofs.YtehleeibgkpjmafGreat
open Go.RowKit
set_option maxRecDepth 20000
def GrabAt (L:List SlotD) (g:Nat):Prop:=1≤g∧g≤L.length∧(∀j,(h:j<L.length)→1≤j→j<g→(L[j]).1≠0)∧∀h:g<L.length,(L[g]).1=0
theorem GrabAt.unique {L:List SlotD}{g g':Nat}(h:GrabAt L g)(k:GrabAt L g'):g=g':=by
 obtain⟨h1,h2,h3,h4⟩:=h
 obtain⟨k1,k2,k3,k4⟩:=k
 rcases Nat.lt_trichotomy g g' with e | e | e
 ·exact absurd (h4 (by omega)) (k3 g (by omega) h1 e)
 ·exact e
 ·exact absurd (k4 (by omega)) (h3 g' (by omega) k1 e)
set_option maxHeartbeats 1000000 in
theorem grab_at (b off cap n:Nat)(L:List SlotD)(w:World)(hn:L.length=n)(h1:1≤n)(h40:n≤40)(hlt:b<w.heap.size)(hc:∀j,(h:j<L.length)→SlAt w b (off+j*3) L[j])(hs:Slots w (.slice (some ⟨b,off,none⟩) n cap) L)(hE:slotsE L=0) :
  Calls Tryz.prog 94 #[.slice (some ⟨b,off,none⟩) n cap] w fun r w'=>((GrabAt L 40∧r=.returned (.tuple #[.int .i64 0,.int .i64 7]))∨∃g:Nat,g<40∧GrabAt L g∧r=.returned (.tuple #[.int .i64 g,.int .i64 0]))∧Below w.heap.size w w':=by
 have HC:Hid (∀j,(h:j<L.length)→SlAt w b (off+j*3) L[j]):=hc
 have HN:Hid (L.length=n):=hn
 have HE:Hid (slotsE L=0):=hE
 clear hc hn hE
 go_enter Tryz.func94,Tryz.ntmps94
 go_wp2_with (go_at_call 116;refine (checkAll_any _ L _ hs).mono ?_;rintro e w1 ⟨he,b1⟩;rw [HE.out] at he;subst he)
 go_loop [5] (fun i=>∃k:Nat,1≤k∧k≤n∧i=.int .i64 k∧∀j,(h:j<L.length)→1≤j→j<k→(L[j]).1≠0) (fun i=>n - (intOf i).toNat)
 case atStart=>exact⟨1,Nat.le_refl _,h1,rfl,fun j h hj hj'=>absurd hj' (by omega)⟩
 case round=>
  obtain⟨k,hk1,hk,rfl,hall⟩:=hrel
  have HA:Hid (∀j,(h:j<L.length)→1≤j→j<k→(L[j]).1≠0):=hall
  clear hall
  have fin:∀g:Nat,GrabAt L g→g=k→((GrabAt L 40∧(k:Int)=40)∨(k:Int)≠40):=fun g hg e=>by
   subst e
   by_cases e:(g:Int)=40
   ·have:g=40:=by omega
    subst this;exact .inl ⟨hg,rfl⟩
   ·exact .inr e
  have HF:Hid (∀g:Nat,GrabAt L g→g=k→((GrabAt L 40∧(k:Int)=40)∨(k:Int)≠40)):=fin
  clear fin
  by_cases hlk:k<n
  ·obtain⟨s,hs'⟩:∃s,s=L[k]'(by rw [HN.out];exact hlk):=⟨_,rfl⟩
   obtain⟨kk,dd,tt⟩:=s
   have hS:SlAt w b (off+k*3) (kk,dd,tt):=by rw [hs'];exact HC.out k _
   obtain⟨tv,c1,_,_,_⟩:=hS
   have c1:w1.cell? ⟨b,off+k*3,none⟩=some (.int .i64 kk):=(b1.cell (p:=⟨b,off+k*3,none⟩) hlt).trans c1
   have HS:Hid ((kk,dd,tt)=L[k]'(by rw [HN.out];exact hlk)):=hs'
   clear hs'
   have hki:(k:Int)<(n:Int):=by omega
   by_cases h0:kk=0
   ·have h0':(kk != 0)=false:=by simp [h0]
    have H0:Hid (kk=0):=h0
    clear h0
    have hne:((k:Int) == 40)=false:=by simp;omega
    have HG:Hid (GrabAt L k):=⟨hk1,by rw [HN.out];exact hk,HA.out,fun h=>by rw [←HS.out];exact H0.out⟩
    go_wp2
    go_ret2
    exact⟨.inr ⟨k,by omega,HG.out,rfl⟩,b1⟩
   ·have h0':(kk != 0)=true:=by simp [h0]
    go_wp2
    go_round
    case rel=>exact⟨k+1,by omega,by omega,by go_num,fun j h hj hj'=>by
     by_cases e:j=k
     ·subst e;rw [←HS.out];exact h0
     ·exact HA.out j h hj (by omega)⟩
    case measure=>simp [intOf];omega
  ·have e4:k=n:=by omega
   subst e4
   have HG:Hid (GrabAt L k):=⟨hk1,by rw [HN.out];exact hk,HA.out,fun h=>absurd h (by rw [HN.out];omega)⟩
   by_cases e40:k=40
   ·subst e40
    go_wp2
    go_ret2
    exact⟨.inl ⟨HG.out,rfl⟩,b1⟩
   ·have hne:((k:Int) == 40)=false:=by simp;omega
    go_wp2
    go_ret2
    exact⟨.inr ⟨k,by omega,HG.out,rfl⟩,b1⟩
theorem grab_ok (v:Value)(L:List SlotD)(w:World)(h:Slots w v L)(hE:slotsE L=0) :
  Calls Tryz.prog 94 #[v] w fun r w'=>((GrabAt L 40∧r=.returned (.tuple #[.int .i64 0,.int .i64 7]))∨∃g:Nat,g<40∧GrabAt L g∧r=.returned (.tuple #[.int .i64 g,.int .i64 0]))∧Below w.heap.size w w':=by
 have hs:=h
 obtain⟨b,off,cap,rfl,hcp,hlt,hcell⟩:=h.open (slotsE_parts hE).1
 exact grab_at b off cap _ L w rfl (slotsE_parts hE).1 (slotsE_parts hE).2 hlt hcell hs hE
end Go.Proofs.YtehleeibgkpjmafGreat
namespace Go.Proofs.YtehleeibgkpjmafGreat
open Go.RowKit Go.Shelf
set_option maxRecDepth 20000
def grabF (L:List SlotD):Nat→Nat→Nat
 | 0,j=>j
 | f+1,j=>if j<L.length∧kd L j≠0 then grabF L f (j+1) else j
def grabN (L:List SlotD):Nat:=grabF L L.length 1
theorem grabF_spec (L:List SlotD):∀ (f j:Nat),L.length≤j+f→j≤L.length→j≤grabF L f j∧grabF L f j≤L.length∧(∀i,j≤i→i<grabF L f j→kd L i≠0)∧(grabF L f j<L.length→kd L (grabF L f j)=0)
 | 0,j,h,hj=>⟨Nat.le_refl _,hj,fun i h1 h2=>by simp [grabF] at h2;omega,fun h2=>by simp [grabF] at h2;omega⟩
 | f+1,j,h,hj=>by
  unfold grabF
  by_cases c:j<L.length∧kd L j≠0
  ·rw [if_pos c]
   obtain⟨a,b,d,e⟩:=grabF_spec L f (j+1) (by omega) (by omega)
   refine⟨by omega,b,fun i h1 h2=>?_,e⟩
   by_cases ei:i=j
   ·subst ei;exact c.2
   ·exact d i (by omega) h2
  ·rw [if_neg c]
   refine⟨Nat.le_refl _,hj,fun i h1 h2=>by omega,fun h2=>?_⟩
   exact Classical.byContradiction fun x=>c ⟨h2,x⟩
theorem kd_getElem {L:List SlotD}{j:Nat}(h:j<L.length):L[j].1=kd L j:=by unfold kd;simp [List.getD,h]
theorem grabN_spec {L:List SlotD}(h1:1≤L.length):1≤grabN L∧grabN L≤L.length∧(∀i,1≤i→i<grabN L→kd L i≠0)∧kd L (grabN L)=0:=by
 obtain⟨a,b,c,d⟩:=grabF_spec L L.length 1 (by omega) h1
 refine⟨a,b,c,?_⟩
 rcases Nat.lt_or_ge (grabN L) L.length with h | h
 ·exact d h
 ·exact Classical.byContradiction fun x=>by have:=kd_lt x;omega
theorem grabN_at {L:List SlotD}(h1:1≤L.length):GrabAt L (grabN L):=by
 obtain⟨a,b,c,d⟩:=grabN_spec h1
 exact⟨a,b,fun j hj h1 h2=>by rw [kd_getElem hj];exact c j h1 h2,fun h=>by rw [kd_getElem h];exact d⟩
theorem grabN_le40 {L:List SlotD}(h:slotsE L=0):grabN L≤40:=by
 have:=slotsE_parts h;have:=grabN_spec this.1;omega
def layS (L:List SlotD) (n:Nat) (s:SlotD):List SlotD:=if n=L.length then L ++ [s] else L.set n s
theorem layS_length {L:List SlotD}{n:Nat}{s:SlotD} : (layS L n s).length=if n=L.length then L.length+1 else L.length:=by
 unfold layS;split <;> simp
theorem layS_get {L:List SlotD}{n:Nat}{s:SlotD}(hn:n≤L.length)(j:Nat):(layS L n s).getD j default=if j=n then s else L.getD j default:=by
 unfold layS
 by_cases e:n=L.length
 ·rw [if_pos e]
  subst e
  by_cases ej:j=L.length
  ·subst ej;rw [if_pos rfl];simp [List.getD]
  ·rw [if_neg ej]
   by_cases hj:j<L.length
   ·simp [List.getD,List.getElem?_append,hj]
   ·have a:L.getD j default=default:=by simp [List.getD,hj]
    have b:(L ++ [s]).getD j default=default:=by
     have:¬j<(L ++ [s]).length:=by simp;omega
     unfold List.getD
     rw [List.getElem?_eq_none (by omega)];rfl
    rw [a,b]
 ·rw [if_neg e]
  by_cases ej:j=n
  ·subst ej;rw [if_pos rfl];simp [List.getD,show j<L.length by omega]
  ·rw [if_neg ej];simp [List.getD,Ne.symm ej]
theorem layS_kd {L:List SlotD}{n:Nat}{s:SlotD}(hn:n≤L.length)(j:Nat):kd (layS L n s) j=if j=n then s.1 else kd L j:=by
 unfold kd;rw [layS_get hn];split <;> rfl
theorem layS_le {L:List SlotD}{n:Nat}{s:SlotD}(hn:n≤L.length)(h40:L.length≤40)(hn40:n<40):(layS L n s).length≤40∧L.length≤(layS L n s).length∧n<(layS L n s).length:=by
 rw [layS_length];split <;> omega
theorem ok_tab {es:List Int}(hes:ckE es=0)(hb:bareL es=false):okD (2,⟨#[]⟩,es)=true:=by
 have:bareE es=false:=by unfold bareE;rw [if_pos hes,hb]
 show slotOK 2 ⟨#[]⟩ es=true
 rw [slotOK_2]
 exact decide_eq_true ⟨hes,this,rfl⟩
theorem ok_page {page:ByteArray}(h:page.size=4):okD (1,page,[])=true:=by
 show slotOK 1 page []=true
 unfold slotOK
 rw [if_neg (by decide),if_pos rfl]
 exact decide_eq_true ⟨h,rfl⟩
theorem ext_lay {L:List SlotD}{t:Nat}{es:List Int}(h0:slotsE L=0)(ht:t≤L.length)(t1:1≤t)(t40:t<40)(hk:kd L t=0∨kd L t=2)(hes:ckE es=0)(hb:bareL es=false)(hents:∀e ∈ es,tabE L e=true):Ext L (layS L t (2,⟨#[]⟩,es)) t es:=by
 have hp:=slotsE_parts h0
 have hle:=layS_le (s:=(2,⟨#[]⟩,es)) ht hp.2 t40
 have hpg:kd L t≠1:=by rcases hk with e | e <;> rw [e] <;> decide
 refine⟨hle.1,fun j hj _=>by rw [layS_get ht,if_neg hj],by rw [layS_get ht,if_pos rfl],hpg,fun j hj=>?_,?_,fun j hj hk2=>?_,fun e he=>?_⟩
 ·rw [layS_get ht]
  by_cases ej:j=t
  ·rw [if_pos ej];exact ok_tab hes hb
  ·rw [if_neg ej]
   have hjl:j<L.length:=by rw [layS_length] at hj;split at hj <;> omega
   rw [←getElem_getD hjl];exact slotsE_all h0 hjl
 ·rw [layS_kd ht,if_neg (by omega)];exact slot0 h0
 ·rw [layS_kd ht,if_neg hj] at hk2;exact hk2
 ·rcases tabE_cases (hents e he) with e0 | e1 | ⟨j,rfl,hj,hkj⟩
  ·rw [e0];rfl
  ·rw [e1];rfl
  ·have j1:1≤j:=by
    rcases Nat.eq_zero_or_pos j with e | e
    ·subst e;rw [slot0 h0] at hkj;simp at hkj
    ·exact e
   have hjt:j≠t:=fun e=>hpg (by rw [←e];exact hkj)
   rw [tabE_x (by omega) (by omega)]
   exact isKd_of (by omega) (by rw [layS_kd ht,if_neg hjt];exact hkj)
theorem ext_write {L:List SlotD}{t d:Nat}{es:List Int}{page:ByteArray}(h0:slotsE L=0)(ht:t≤L.length)(t1:1≤t)(t40:t<40)(hk:kd L t=0∨kd L t=2)(hes:ckE es=0)(hb:bareL es=false)
  (hd:d≤(layS L t (2,⟨#[]⟩,es)).length) (d1:1≤d) (d40:d<40) (hdt:d≠t) (hkd:kd L d=0) (hp4:page.size=4) (hents:∀e ∈ es,tabE L e=true∨e=(d:Int)):Ext L (layS (layS L t (2,⟨#[]⟩,es)) d (1,page,[])) t es:=by
 have hp:=slotsE_parts h0
 have hle:=layS_le (s:=(2,⟨#[]⟩,es)) ht hp.2 t40
 have hle2:=layS_le (s:=((1,page,[]):SlotD)) hd hle.1 d40
 have hpg:kd L t≠1:=by rcases hk with e | e <;> rw [e] <;> decide
 refine⟨hle2.1,fun j hj hkj=>?_,?_,hpg,fun j hj=>?_,?_,fun j hj hk2=>?_,fun e he=>?_⟩
 ·have hjd:j≠d:=fun e=>hkj (by rw [e];exact hkd)
  rw [layS_get hd,if_neg hjd,layS_get ht,if_neg hj]
 ·rw [layS_get hd,if_neg (fun e=>hdt e.symm),layS_get ht,if_pos rfl]
 ·rw [layS_get hd]
  by_cases ed:j=d
  ·rw [if_pos ed];exact ok_page hp4
  ·rw [if_neg ed,layS_get ht]
   by_cases ej:j=t
   ·rw [if_pos ej];exact ok_tab hes hb
   ·rw [if_neg ej]
    have hjl:j<L.length:=by
     rw [layS_length] at hj
     rw [layS_length] at hj hd
     split at hj <;> split at hj <;> split at hd <;> omega
    rw [←getElem_getD hjl];exact slotsE_all h0 hjl
 ·rw [layS_kd hd,if_neg (by omega),layS_kd ht,if_neg (by omega)];exact slot0 h0
 ·rw [layS_kd hd] at hk2
  by_cases ed:j=d
  ·rw [if_pos ed] at hk2;simp at hk2
  ·rw [if_neg ed,layS_kd ht,if_neg hj] at hk2;exact hk2
 ·rcases hents e he with hE | hE
  ·rcases tabE_cases hE with e0 | e1 | ⟨j,rfl,hj,hkj⟩
   ·rw [e0];rfl
   ·rw [e1];rfl
   ·have j1:1≤j:=by
     rcases Nat.eq_zero_or_pos j with e | e
     ·subst e;rw [slot0 h0] at hkj;simp at hkj
     ·exact e
    have hjt:j≠t:=fun e=>hpg (by rw [←e];exact hkj)
    have hjd:j≠d:=fun e=>by rw [e,hkd] at hkj;simp at hkj
    rw [tabE_x (by omega) (by omega)]
    exact isKd_of (by omega) (by rw [layS_kd hd,if_neg hjd,layS_kd ht,if_neg hjt];exact hkj)
  ·rw [hE,tabE_x (by omega) (by omega)]
   exact isKd_of hle2.2.2 (by rw [layS_kd hd,if_pos rfl])
theorem count_two {t:Int} : ∀ (l:List Int) (i k:Nat),i<k→k<l.length→l.getD i 0=t→l.getD k 0=t→2≤l.count t
 | [],i,k,_,hk,_,_=>absurd hk (by simp)
 | a :: l,0,k+1,_,hk,h1,h2=>by
  have h1:a=t:=by simpa using h1
  have h2:l.getD k 0=t:=by simpa using h2
  have hk:k<l.length:=by simpa using hk
  have:t ∈ l:=by rw [←h2,getD_at hk];exact List.getElem_mem hk
  have:=List.count_pos_iff.2 this
  rw [List.count_cons,h1];simp;omega
 | a :: l,i+1,k+1,hik,hk,h1,h2=>by
  have:=count_two l i k (by omega) (by simpa using hk) (by simpa using h1) (by simpa using h2)
  rw [List.count_cons];omega
theorem flatR_app (m:ImgD):flatR m=m.root ++ m.snaps.flatMap (fun s=>s.2.2):=rfl
theorem lone_one {m:ImgD}{k t:Nat}(hk:k<m.root.length)(ht:m.root.getD k 0=(t:Int))(hc:(flatR m).count (t:Int)=1):Lone m k t:=by
 rw [flatR_app,List.count_append] at hc
 have hmem:(t:Int) ∈ m.root:=by rw [←ht,getD_at hk];exact List.getElem_mem hk
 have h1:=List.count_pos_iff.2 hmem
 refine⟨fun i hi hne e=>?_,fun s hs hm=>?_⟩
 ·have:2≤m.root.count (t:Int):=by
   rcases Nat.lt_or_ge i k with h | h
   ·exact count_two m.root i k h hk e ht
   ·exact count_two m.root k i (by omega) hi ht e
  omega
 ·have:(t:Int) ∈ m.snaps.flatMap (fun s=>s.2.2):=by rw [List.mem_flatMap];exact⟨s,hs,hm⟩
  have:=List.count_pos_iff.2 this
  omega
theorem lone_free {m:ImgD}{k t:Nat}(h:shapeE m=0)(t1:1≤t)(ht:kd m.slots t=0):Lone m k t:=by
 have hno:(t:Int) ∉ flatR m:=fun hm=>by have:=(told_root h hm t1).2.1;rw [ht] at this;simp at this
 rw [flatR_app] at hno
 refine⟨fun i hi _ e=>hno (List.mem_append_left _ (by rw [←e,getD_at hi];exact List.getElem_mem hi)),fun s hs hm=>hno (List.mem_append_right _ (by rw [List.mem_flatMap];exact⟨s,hs,hm⟩))⟩
def tableO (m:ImgD) (k:Nat):List Int:=if m.root.getD k 0=0 then [0,0,0,0] else tabOf m.slots (m.root.getD k 0)
def inPl (m:ImgD) (k:Nat):Bool:=m.root.getD k 0 != 0 && m.refs.getD (m.root.getD k 0).toNat 0 == 1
def tabN (m:ImgD) (k:Nat):Nat:=if inPl m k=true then (m.root.getD k 0).toNat else grabN m.slots
theorem tableO_ok {m:ImgD}(h:shapeE m=0){k:Nat}(hk:k<m.root.length):ckE (tableO m k)=0∧∀e ∈ tableO m k,tabE m.slots e=true:=by
 have hr:=root_ok h
 unfold tableO
 by_cases hz:m.root.getD k 0=0
 ·rw [if_pos hz]
  refine⟨by decide,fun e he=>?_⟩
  have:e=0:=by simpa using he
  rw [this];rfl
 ·rw [if_neg hz]
  have hE:=all_at hr.2 hk
  rw [rootE_x hz] at hE
  obtain⟨j,e,hj,hk2⟩:=isKd_yes hE
  rw [e]
  refine⟨?_,fun x hx=>List.all_eq_true.1 (tab_all (shapeE_zero h).2.2.2.2.2.1 _) x hx⟩
  have:=okD_tab (slotsE_all (shapeE_zero h).2.1 hj) hk2
  unfold tabOf
  simpa [List.getD,hj] using this.2
theorem tabN_spec {m:ImgD}(hC:checkE m=0){k:Nat}(hk:k<m.root.length)(h40:tabN m k≠40):1≤tabN m k∧tabN m k≤m.slots.length∧tabN m k<40∧(kd m.slots (tabN m k)=0∨kd m.slots (tabN m k)=2)∧Lone m k (tabN m k):=by
 obtain⟨h,hcnt,_⟩:=checkE_zero hC
 obtain⟨z1,z2,z3,z4,z5,z6,z7⟩:=shapeE_zero h
 have hp:=slotsE_parts z2
 unfold tabN at h40 ⊢
 by_cases hi:inPl m k=true
 ·rw [if_pos hi] at h40 ⊢
  unfold inPl at hi
  simp at hi
  obtain⟨hz,hrf⟩:=hi
  have hz:m.root.getD k 0≠0:=hz
  have hrf:m.refs.getD (m.root.getD k 0).toNat 0=1:=hrf
  have hE:=all_at (root_ok h).2 hk
  rcases rootE_cases hE with e | ⟨j,e,hj,hkj⟩
  ·exact absurd e hz
  ·have hmem:(j:Int) ∈ flatR m:=by rw [flatR_app];exact List.mem_append_left _ (by rw [←e,getD_at hk];exact List.getElem_mem hk)
   rw [e,Int.toNat_natCast] at hrf ⊢
   have j1:1≤j:=by omega
   have hc1:(flatR m).count (j:Int)=1:=by
    rw [←hcnt,cntL_get h j hj] at hrf
    unfold cntI at hrf
    rw [if_neg (by omega),sumT_no z6 _ j1 (by rw [hkj];decide)] at hrf
    omega
   exact⟨j1,by omega,by omega,.inr hkj,lone_one hk e hc1⟩
 ·rw [if_neg hi] at h40 ⊢
  obtain⟨a,b,c,d⟩:=grabN_spec hp.1
  exact⟨a,b,by omega,.inl d,lone_free h a d⟩
def TailZ (m:ImgD) (k:Nat) (es:List Int):Prop:=k=m.root.length - 1→m.guest % 4≠0→(es.drop (m.guest % 4).toNat).all (fun e=>e == 0)=true
theorem tableO_tail {m:ImgD}(h:shapeE m=0)(k:Nat):TailZ m k (tableO m k):=by
 intro hk hg
 have hf:=List.all_eq_true.1 (shapeE_zero h).2.2.2.2.2.2 (⟨#[]⟩,m.guest,m.root) List.mem_cons_self
 unfold rootFit lastFit at hf
 dsimp only at hf
 simp only [Bool.and_eq_true] at hf
 have hl:=hf.2.2
 have hg':(m.guest % 4 == 0)=false:=by simpa using hg
 rw [hg',Bool.false_or,← hk] at hl
 unfold tableO
 by_cases hz:m.root.getD k 0=0
 ·rw [if_pos hz]
  have:∀j,([0,0,0,0]:List Int).drop j=List.replicate (4 - j) 0:=fun j=>by
   have:([0,0,0,0]:List Int)=List.replicate 4 0:=rfl
   rw [this,List.drop_replicate]
  rw [this];simp
 ·rw [if_neg hz]
  have hz':(m.root.getD k 0 == 0)=false:=by simpa using hz
  rw [hz',Bool.false_or] at hl
  exact hl
theorem tail_set {m:ImgD}{k:Nat}{es:List Int}(h:TailZ m k es){n:Nat}(hn:(n:Int)<m.guest)(hk:n / 4=k)(hr:(m.root.length:Int)=(m.guest+3) / 4)(e:Int):TailZ m k (es.set (n % 4) e):=by
 intro h1 h2
 have:=h h1 h2
 rw [List.drop_set_of_lt (by omega)]
 exact this
theorem set_ck {es:List Int}(h:ckE es=0){i:Nat}{e:Int}(he:isE e=true):ckE (es.set i e)=0:=by
 refine ckE_yes (by rw [List.length_set];exact ckE_len h) ?_
 rw [List.all_eq_true]
 intro x hx
 rcases List.mem_or_eq_of_mem_set hx with hm | hm
 ·exact List.all_eq_true.1 (ckE_all h) x hm
 ·rw [hm];exact he
theorem bare_get {es:List Int}{i:Nat}(hi:i<es.length)(h:es.getD i 0≠0):bareL es=false:=by
 unfold bareL
 exact not_all_of hi (by simpa using h)
theorem set_get {es:List Int}{i:Nat}(hi:i<es.length)(e:Int):(es.set i e).getD i 0=e:=by rw [getD_setI,if_pos ⟨rfl,hi⟩]
theorem mem_set {es:List Int}{i:Nat}{e x:Int}(h:x ∈ es.set i e):x ∈ es∨x=e:=List.mem_or_eq_of_mem_set h
def rfZ (L:List SlotD):List Int:=List.replicate L.length 0
def tabL (m:ImgD) (k:Nat) (es:List Int):List SlotD:=layS m.slots (tabN m k) (2,⟨#[]⟩,es)
def tabledD (m:ImgD) (k:Nat) (es:List Int):Option ImgD:=
 if bareL es=true then some { m with root:=m.root.set k 0 } else if tabN m k=40 then none else some (tabSet m k (tabN m k) (tabL m k es) (rfZ (tabL m k es)))
def wInPl (m:ImgD) (n:Nat):Bool:=decide (0<lookV m m.root n) && (inPl m (n / 4) && m.refs.getD (lookV m m.root n).toNat 0 == 1)
def wD (m:ImgD) (n:Nat):Nat:=grabN (tabL m (n / 4) (tableO m (n / 4)))
def wEs (m:ImgD) (n:Nat):List Int:=(tableO m (n / 4)).set (n % 4) (wD m n:Int)
def wL (m:ImgD) (n:Nat) (page:ByteArray):List SlotD:=layS (tabL m (n / 4) (wEs m n)) (wD m n) (1,page,[])
def writeD (m:ImgD) (n:Nat) (page:ByteArray):Option ImgD:=
 if wInPl m n=true then some { m with slots:=m.slots.set (lookV m m.root n).toNat (1,page,[]) }
 else if tabN m (n / 4)=40 then none else if wD m n=40 then none else some (countedD (tabSet m (n / 4) (tabN m (n / 4)) (wL m n page) (rfZ (wL m n page))))
theorem lookV_tableO (m:ImgD)(n:Nat):lookV m m.root n=(tableO m (n / 4)).getD (n % 4) 0:=by
 unfold lookV tableO
 split
 ·have h4:n % 4<4:=Nat.mod_lt _ (by decide)
  have:∀i,i<4→([0,0,0,0]:List Int).getD i 0=0:=by decide
  rw [this _ h4]
 ·rfl
theorem write_ext {m:ImgD}(hC:checkE m=0){n:Nat}(hn:(n:Int)<m.guest)(h40:tabN m (n / 4)≠40)(hd40:wD m n≠40){page:ByteArray}(hp:page.size=4) :
  Ext m.slots (wL m n page) (tabN m (n / 4)) (wEs m n)∧Lone m (n / 4) (tabN m (n / 4))∧TailZ m (n / 4) (wEs m n)∧n / 4<m.root.length∧1≤wD m n∧wD m n<40∧kd m.slots (wD m n)=0∧wD m n≠tabN m (n / 4):=by
 obtain⟨h,_,_⟩:=checkE_zero hC
 have hr:=root_ok h
 have hg:=guest_ok h
 have hk:n / 4<m.root.length:=by omega
 obtain⟨t1,tl,t40,tk,hl⟩:=tabN_spec hC hk h40
 obtain⟨ock,oent⟩:=tableO_ok h hk
 have hs:=(shapeE_zero h).2.1
 have hp40:=slotsE_parts hs
 have hle:=layS_le (s:=((2,⟨#[]⟩,tableO m (n / 4)):SlotD)) tl hp40.2 t40
 obtain⟨d1,dl,dne,dfree⟩:=grabN_spec (L:=tabL m (n / 4) (tableO m (n / 4))) (by unfold tabL;omega)
 have hdt:wD m n≠tabN m (n / 4):=fun e=>by
  have:kd (tabL m (n / 4) (tableO m (n / 4))) (wD m n)=0:=dfree
  unfold tabL at this
  rw [layS_kd tl,if_pos e] at this
  simp at this
 have hkd:kd m.slots (wD m n)=0:=by
  have:kd (tabL m (n / 4) (tableO m (n / 4))) (wD m n)=0:=dfree
  unfold tabL at this
  rw [layS_kd tl,if_neg hdt] at this
  exact this
 have hdl:wD m n≤(layS m.slots (tabN m (n / 4)) (2,⟨#[]⟩,wEs m n)).length:=by
  have:wD m n≤(tabL m (n / 4) (tableO m (n / 4))).length:=dl
  unfold tabL at this
  rw [layS_length] at this ⊢;exact this
 have hd40':wD m n<40:=by
  have:wD m n≤(tabL m (n / 4) (tableO m (n / 4))).length:=dl
  unfold tabL at this;omega
 have hd1:1≤wD m n:=d1
 have h4:n % 4<(tableO m (n / 4)).length:=by rw [ckE_len ock];omega
 have hEd:isE (wD m n:Int)=true:=by rw [isE_iff];omega
 refine⟨?_,hl,?_,hk,hd1,hd40',hkd,hdt⟩
 ·refine ext_write hs tl t1 t40 tk (set_ck ock hEd) (bare_get (i:=n % 4) (by unfold wEs;rw [List.length_set];exact h4) (by unfold wEs;rw [set_get h4];omega)) hdl hd1 hd40' hdt hkd hp (fun e he=>?_)
  rcases mem_set he with hm | hm
  ·exact .inl (oent e hm)
  ·exact .inr hm
 ·exact tail_set (tableO_tail h _) hn rfl hr.1 _
def EntOK (L:List SlotD) (e:Int):Prop:=e=0∨e = -1∨∃j:Nat,e=j∧1≤j∧j<L.length∧kd L j=1
structure Laid (m M:ImgD) (k:Nat) (es:List Int):Prop where
 shape:shapeE M=0
 guest:M.guest=m.guest
 snaps:M.snaps=m.snaps
 rlen:M.root.length=m.root.length
 look:∀q,q / 4<m.root.length→lookV M M.root q=if q / 4=k then es.getD (q % 4) 0 else lookV m m.root q
 past:∀s ∈ m.snaps,∀q,q / 4<s.2.2.length→lookV M s.2.2 q=lookV m s.2.2 q
 page:∀e,EntOK m.slots e→pageV M.slots e=pageV m.slots e
theorem laid_ext {m:ImgD}{k t:Nat}{L':List SlotD}{es rf:List Int}(h:shapeE m=0)(hk:k<m.root.length)(hx:Ext m.slots L' t es)(hl:Lone m k t)(hrf:rf.length=L'.length)(hz:TailZ m k es):Laid m (tabSet m k t L' rf) k es:=by
 have hs:=(shapeE_zero h).2.1
 have hr:=root_ok h
 refine⟨tabSet_shape h hk hx hl hrf hz,rfl,rfl,by show (m.root.set k _).length=_;rw [List.length_set],fun q hq=>look_tabSet hx hs hl hr.2 q hq,fun s hsm q hq=>?_,fun e he=>page_ext hx he⟩
 have hf:=List.all_eq_true.1 (shapeE_zero h).2.2.2.2.2.2 s (List.mem_cons_of_mem _ hsm)
 unfold rootFit at hf
 simp only [Bool.and_eq_true] at hf
 exact look_snap hx hs hf.2.1 (hl.snap s hsm) q hq
theorem reroot_shape {m:ImgD}(h:shapeE m=0){g:Int}{r:List Int}(hg:guestOK g=true)(hf:rootFit m.slots g r=true):shapeE { m with guest:=g,root:=r } = 0:=by
 obtain⟨z1,z2,z3,z4,z5,z6,z7⟩:=shapeE_zero h
 unfold rootsOf at z5 z7
 rw [List.all_cons] at z5 z7
 simp only [Bool.and_eq_true] at z5 z7
 have hgall:(rootsOf { m with guest:=g,root:=r }).all (fun s=>guestOK s.2.1)=true:=by
  show (((⟨#[]⟩,g,r):SnapD) :: m.snaps).all _=true
  rw [List.all_cons,z5.2,Bool.and_true];exact hg
 have hall:(rootsOf { m with guest:=g,root:=r }).all (fun s=>rootFit m.slots s.2.1 s.2.2)=true:=by
  show (((⟨#[]⟩,g,r):SnapD) :: m.snaps).all _=true
  rw [List.all_cons,z7.2,Bool.and_true];exact hf
 unfold shapeE
 rw [if_neg (by show ¬3<m.snaps.length;omega),if_neg (by show ¬slotsE m.slots≠0;simpa using z2),if_neg,if_neg (by rw [hgall];decide),if_neg (by show ¬tabFit m.slots=false;rw [z6];decide),if_neg (by show ¬((rootsOf { m with guest:=g,root:=r }).all fun s=>rootFit m.slots s.2.1 s.2.2)=false;rw [hall];decide)]
 rintro (e | e)
 ·exact e z3
 ·have:namesOK m.snaps=false:=e
  rw [z4] at this;cases this
theorem rootFit_root {m:ImgD}(h:shapeE m=0):rootFit m.slots m.guest m.root=true:=List.all_eq_true.1 (shapeE_zero h).2.2.2.2.2.2 (⟨#[]⟩,m.guest,m.root) List.mem_cons_self
theorem guestOK_guest {m:ImgD}(h:shapeE m=0):guestOK m.guest=true:=List.all_eq_true.1 (shapeE_zero h).2.2.2.2.1 (⟨#[]⟩,m.guest,m.root) List.mem_cons_self
theorem rootFit_zero {L:List SlotD}{g:Int}{r:List Int}(h:rootFit L g r=true)(k:Nat):rootFit L g (r.set k 0)=true:=by
 unfold rootFit at h ⊢
 simp only [Bool.and_eq_true,decide_eq_true_eq] at h ⊢
 refine⟨by rw [List.length_set];exact h.1,?_,?_⟩
 ·rw [List.all_eq_true]
  intro x hx
  rcases mem_set hx with hm | hm
  ·exact List.all_eq_true.1 h.2.1 x hm
  ·rw [hm];rfl
 ·have hl:=h.2.2
  unfold lastFit at hl ⊢
  rw [List.length_set,getD_setI]
  by_cases e:k=r.length - 1∧r.length - 1<r.length
  ·rw [if_pos e];simp
  ·rw [if_neg e];exact hl
theorem laid_bare {m:ImgD}{k:Nat}{es:List Int}(h:shapeE m=0)(hb:bareL es=true):Laid m { m with root:=m.root.set k 0 } k es:=by
 refine⟨reroot_shape h (guestOK_guest h) (rootFit_zero (rootFit_root h) k),rfl,rfl,List.length_set,fun q hq=>?_,fun _ _ _ _=>rfl,fun _ _=>rfl⟩
 have hg:=getD_setI m.root k (q / 4) 0
 by_cases e:q / 4=k
 ·rw [if_pos (⟨e.symm,hq⟩:k=q / 4∧q / 4<m.root.length)] at hg
  rw [if_pos e]
  unfold lookV
  show (if (m.root.set k 0).getD (q / 4) 0=0 then 0 else _)=_
  rw [hg,if_pos rfl]
  unfold bareL at hb
  by_cases hi:q % 4<es.length
  ·have:=List.all_eq_true.1 hb _ (List.getElem_mem hi)
   have e0:es[q % 4]=0:=by simpa using this
   rw [getD_at hi,e0]
  ·simp [List.getD,hi]
 ·rw [if_neg (fun x=>e x.1.symm)] at hg
  rw [if_neg e]
  unfold lookV
  show (if (m.root.set k 0).getD (q / 4) 0=0 then 0 else (tabOf m.slots ((m.root.set k 0).getD (q / 4) 0)).getD (q % 4) 0)=_
  rw [hg]
theorem tabled_laid {m:ImgD}(hC:checkE m=0){k:Nat}(hk:k<m.root.length){es:List Int}(hes:ckE es=0)(hents:∀e ∈ es,tabE m.slots e=true)(hz:TailZ m k es){M:ImgD}(hM:tabledD m k es=some M):Laid m M k es∧M.slots.length≤m.slots.length+1:=by
 obtain⟨h,_,_⟩:=checkE_zero hC
 unfold tabledD at hM
 split at hM
 ·rename_i hb
  simp at hM
  subst hM
  exact⟨laid_bare h hb,Nat.le_succ _⟩
 ·rename_i hb
  have hb:bareL es=false:=by simpa using hb
  split at hM
  ·cases hM
  ·rename_i h40
   simp at hM
   subst hM
   obtain⟨t1,tl,t40,tk,hl⟩:=tabN_spec hC hk h40
   refine⟨laid_ext h hk (ext_lay (shapeE_zero h).2.1 tl t1 t40 tk hes hb hents) hl (by simp [rfZ,tabL]) hz,?_⟩
   show (layS _ _ _).length≤_
   rw [layS_length];split <;> omega
theorem snap_fit {m:ImgD}(h:shapeE m=0){s:SnapD}(hs:s ∈ rootsOf m):0≤s.2.1∧s.2.1≤16∧(s.2.2.length:Int)=(s.2.1+3) / 4∧s.2.2.all (rootE m.slots)=true:=by
 have hf:=List.all_eq_true.1 (shapeE_zero h).2.2.2.2.2.2 s hs
 have hg:=List.all_eq_true.1 (shapeE_zero h).2.2.2.2.1 s hs
 unfold rootFit at hf
 unfold guestOK at hg
 simp only [Bool.and_eq_true,decide_eq_true_eq] at hf hg
 exact⟨hg.1,hg.2,hf.1,hf.2.1⟩
theorem Laid.past_all {m M:ImgD}{k:Nat}{es:List Int}(hL:Laid m M k es)(h:shapeE m=0){s:SnapD}(hs:s ∈ m.snaps):allP (countedD M) s.2.2 s.2.1.toNat=allP m s.2.2 s.2.1.toNat:=by
 have hsM:s ∈ rootsOf M:=List.mem_cons_of_mem _ (by rw [hL.snaps];exact hs)
 rw [allP_counted hL.shape hsM]
 obtain⟨a,b,c,d⟩:=snap_fit h (List.mem_cons_of_mem _ hs:s ∈ rootsOf m)
 unfold allP
 refine List.map_congr_left fun q hq=>?_
 have hq:=List.mem_range.1 hq
 rw [hL.past s hs q (by omega)]
 exact hL.page _ (lookV_ent h d q (by omega))
theorem snapIx_get {S:List SnapD}{nm:ByteArray}{j:Nat}(h:snapIx S nm=some j):S.getD j default ∈ S:=by
 have hj:=snapIx_some h
 have:S.getD j default=S[j]:=by simp [List.getD,hj]
 rw [this];exact List.getElem_mem hj
theorem Laid.pastV {m M:ImgD}{k:Nat}{es:List Int}(hL:Laid m M k es)(hC:checkE m=0)(nm:ByteArray):Go.Proofs.YtehleeibgkpjmafGreat.pastV (countedD M) nm=Go.Proofs.YtehleeibgkpjmafGreat.pastV m nm∧pastE (countedD M) nm=pastE m nm:=by
 have h:=checkE_shape hC
 have hsn:(countedD M).snaps=m.snaps:=hL.snaps
 unfold Go.Proofs.YtehleeibgkpjmafGreat.pastV pastE
 rw [if_neg (by rw [counted_right hL.shape];simp),if_neg (by rw [hC];simp),if_neg (by rw [counted_right hL.shape];simp),if_neg (by rw [hC];simp),hsn]
 cases hsi:snapIx m.snaps nm with
 | none=>exact⟨rfl,rfl⟩
 | some j=>exact⟨hL.past_all h (snapIx_get hsi),rfl⟩
theorem Laid.allV {m M:ImgD}{k:Nat}{es:List Int}(hL:Laid m M k es):Go.Proofs.YtehleeibgkpjmafGreat.allV (countedD M)=allP M M.root m.guest.toNat:=by
 unfold Go.Proofs.YtehleeibgkpjmafGreat.allV
 rw [if_pos (counted_right hL.shape)]
 have:=allP_counted hL.shape (s:=(⟨#[]⟩,M.guest,M.root)) List.mem_cons_self
 show allP (countedD M) M.root M.guest.toNat=_
 rw [this,hL.guest]
theorem Laid.put {m M:ImgD}{n:Nat}{x:Int}(hC:checkE m=0)(hn:(n:Int)<m.guest)(hL:Laid m M (n / 4) ((tableO m (n / 4)).set (n % 4) x)):Go.Proofs.YtehleeibgkpjmafGreat.allV (countedD M)=(Go.Proofs.YtehleeibgkpjmafGreat.allV m).set n (pageV M.slots x):=by
 have h:=checkE_shape hC
 have hr:=root_ok h
 have hg:=guest_ok h
 rw [hL.allV]
 unfold Go.Proofs.YtehleeibgkpjmafGreat.allV
 rw [if_pos hC]
 unfold allP
 apply List.ext_getElem
 ·simp
 ·intro q h1 h2
  have hq:q<m.guest.toNat:=by simpa using h1
  rw [List.getElem_set,List.getElem_map,List.getElem_range]
  rw [hL.look q (by omega)]
  have hlen:(tableO m (n / 4)).length=4:=ckE_len (tableO_ok h (by omega)).1
  by_cases e:n=q
  ·subst e
   rw [if_pos rfl,if_pos rfl,set_get (by rw [hlen];omega)]
  ·rw [if_neg e]
   simp only [List.getElem_map,List.getElem_range]
   by_cases e4:q / 4=n / 4
   ·rw [if_pos e4,getD_setI,if_neg (fun z=>e (by omega)),← e4,← lookV_tableO]
    exact hL.page _ (lookV_ent h hr.2 q (by omega))
   ·rw [if_neg e4]
    exact hL.page _ (lookV_ent h hr.2 q (by omega))
theorem write_laid {m:ImgD}(hC:checkE m=0){n:Nat}(hn:(n:Int)<m.guest)(h40:tabN m (n / 4)≠40)(hd40:wD m n≠40){page:ByteArray}(hp:page.size=4) :
  Laid m (tabSet m (n / 4) (tabN m (n / 4)) (wL m n page) (rfZ (wL m n page))) (n / 4) (wEs m n)∧pageV (wL m n page) (wD m n)=page∧(wL m n page).length≤m.slots.length+2:=by
 obtain⟨hx,hl,hz,hk,d1,d40,hkd,hdt⟩:=write_ext hC hn h40 hd40 hp
 refine⟨laid_ext (checkE_shape hC) hk hx hl (by simp [rfZ]) hz,?_,?_⟩
 ·unfold pageV
  rw [if_neg (by omega),Int.toNat_natCast]
  have hdl:wD m n≤(tabL m (n / 4) (wEs m n)).length:=by
   obtain⟨t1,tl,t40,tk,_⟩:=tabN_spec hC hk h40
   have hle:=layS_le (s:=((2,⟨#[]⟩,tableO m (n / 4)):SlotD)) tl (slotsE_parts (shapeE_zero (checkE_shape hC)).2.1).2 t40
   have:=(grabN_spec (L:=tabL m (n / 4) (tableO m (n / 4))) (by unfold tabL;omega)).2.1
   unfold tabL at this ⊢
   rw [layS_length] at this ⊢
   exact this
  unfold wL
  rw [layS_get hdl,if_pos rfl]
 ·unfold wL tabL
  rw [layS_length,layS_length]
  split <;> split <;> omega
theorem kd_setP {L:List SlotD}{e:Nat}{page:ByteArray}(hk:kd L e=1)(j:Nat):kd (L.set e (1,page,[])) j=kd L j:=by
 by_cases h:e=j
 ·subst h
  have:=kd_lt (L:=L) (j:=e) (by rw [hk];decide)
  rw [hk];unfold kd;simp [List.getD,this]
 ·unfold kd;simp [List.getD,h]
theorem tab_page {L:List SlotD}(hs:slotsE L=0){e:Nat}(hk:kd L e=1):(L.getD e default).2.2=[]:=by
 have he:=kd_lt (L:=L) (j:=e) (by rw [hk];decide)
 have ok:=slotsE_all hs he
 rw [getElem_getD he] at ok
 unfold kd at hk
 unfold okD at ok
 rw [hk,slotOK_1] at ok
 simpa using (of_decide_eq_true ok).2
theorem tab_setP {L:List SlotD}(hs:slotsE L=0){e:Nat}{page:ByteArray}(hk:kd L e=1)(x:Int):tabOf (L.set e (1,page,[])) x=tabOf L x:=by
 unfold tabOf
 by_cases h:e=x.toNat
 ·have:=kd_lt (L:=L) (j:=e) (by rw [hk];decide)
  rw [←h,tab_page hs hk];simp [List.getD,this]
 ·simp [List.getD,h]
theorem setP_same {m:ImgD}{e:Nat}{page:ByteArray}(hC:checkE m=0)(hk:kd m.slots e=1)(hp:page.size=4):checkE { m with slots:=m.slots.set e (1,page,[]) } = 0∧∀r q,lookV { m with slots:=m.slots.set e (1,page,[]) } r q=lookV m r q:=by
 obtain⟨h,hcnt,hfree⟩:=checkE_zero hC
 obtain⟨z1,z2,z3,z4,z5,z6,z7⟩:=shapeE_zero h
 have he:=kd_lt (L:=m.slots) (j:=e) (by rw [hk];decide)
 have hkd:=fun j=>kd_setP (page:=page) hk j
 have htab:=fun x=>tab_setP (page:=page) z2 hk x
 have hisKd:∀x kind,isKd (m.slots.set e (1,page,[])) x kind=isKd m.slots x kind:=fun x kind=>by
  have:=hkd x.toNat
  unfold kd at this
  unfold isKd
  rw [List.length_set,this]
 have htE:∀x,tabE (m.slots.set e (1,page,[])) x=tabE m.slots x:=fun x=>by unfold tabE;rw [hisKd]
 have hrE:∀x,rootE (m.slots.set e (1,page,[])) x=rootE m.slots x:=fun x=>by unfold rootE;rw [hisKd]
 have hs:slotsE (m.slots.set e (1,page,[]))=0:=by
  refine slotsE_ok (by rw [List.length_set];exact (slotsE_parts z2).1) (by rw [List.length_set];exact (slotsE_parts z2).2) (fun j hj=>?_) ?_
  ·rw [List.length_set] at hj
   rw [List.getElem_set]
   split
   ·exact ok_page hp
   ·exact slotsE_all z2 hj
  ·rw [kd_getElem (by rw [List.length_set];exact (slotsE_parts z2).1),hkd];exact slot0 z2
 have hfit:tabFit (m.slots.set e (1,page,[]))=true:=by
  unfold tabFit
  rw [List.all_eq_true]
  intro s hsm
  obtain⟨j,hj,rfl⟩:=List.getElem_of_mem hsm
  rw [List.length_set] at hj
  rw [List.all_eq_true]
  intro x hx
  rw [htE]
  have e1:=htab (j:Int)
  unfold tabOf at e1
  rw [Int.toNat_natCast] at e1
  rw [getElem_getD (by rw [List.length_set];exact hj),e1] at hx
  exact List.all_eq_true.1 (tab_all z6 (j:Int)) x (by unfold tabOf;rw [Int.toNat_natCast];exact hx)
 have hrf:∀g r,rootFit (m.slots.set e (1,page,[])) g r=rootFit m.slots g r:=fun g r=>by
  unfold rootFit lastFit
  rw [show rootE (m.slots.set e (1,page,[]))=rootE m.slots from funext hrE]
  simp only [htab]
 have hsh:shapeE { m with slots:=m.slots.set e (1,page,[]) } = 0:=by
  unfold shapeE
  rw [if_neg (by show ¬3<m.snaps.length;omega),if_neg (by show ¬slotsE _≠0;simpa using hs),if_neg,if_neg (by show ¬(rootsOf m).all _=false;rw [z5];decide),if_neg (by show ¬tabFit _=false;rw [hfit];decide),if_neg]
  ·show ¬((rootsOf m).all fun s=>rootFit (m.slots.set e (1,page,[])) s.2.1 s.2.2)=false
   simp only [hrf]
   rw [z7];decide
  ·rintro (x | x)
   ·apply x;show m.refs.length=(m.slots.set e _).length;rw [List.length_set];exact z3
   ·have:namesOK m.snaps=false:=x
    rw [z4] at this;cases this
 have hcl:cntL { m with slots:=m.slots.set e (1,page,[]) } = cntL m:=by
  rw [rl_of (cntL_length _),rl_of (cntL_length m)]
  show rl (m.slots.set e _).length _=_
  rw [List.length_set]
  refine rl_congr fun j hj=>?_
  rw [cntL_get hsh j (by show j<(m.slots.set e _).length;rw [List.length_set];exact hj),cntL_get h j hj]
  show cntI (m.slots.set e (1,page,[])) (flatR m) j=cntI m.slots (flatR m) j
  unfold cntI
  have:sumT (m.slots.set e (1,page,[])) (flatR m) j=sumT m.slots (flatR m) j:=by
   unfold sumT
   rw [List.length_set]
   refine sum_same _ fun q _=>?_
   unfold toldT
   rw [hkd,htab]
  rw [this]
 refine⟨?_,fun r q=>?_⟩
 ·unfold checkE
  rw [if_neg (by simpa using hsh),hcl]
  show (if cntL m≠m.refs then (9:Int) else _)=0
  rw [if_neg (by rw [hcnt];simp),if_pos]
  rw [List.all_eq_true]
  intro j hj
  have hj:j<m.slots.length:=by
   have:j<(m.slots.set e (1,page,[])).length:=by simpa using hj
   rwa [List.length_set] at this
  have:=hfree j hj
  unfold freeAt at this ⊢
  rw [hcl]
  have e1:=hkd j
  unfold kd at e1
  show (((m.slots.set e (1,page,[])).getD j default).1 == 0) == _
  rw [e1];exact this
 ·unfold lookV
  show (if r.getD (q / 4) 0=0 then (0:Int) else (tabOf (m.slots.set e (1,page,[])) (r.getD (q / 4) 0)).getD (q % 4) 0)=_
  rw [htab]
set_option linter.unusedVariables false
set_option linter.unusedSimpArgs false
def kept (L:List SlotD) (k:Nat):Bool:=k == 0 || kd L k != 0
def keptI (L:List SlotD):List Nat:=(List.range L.length).filter (kept L)
def rnk (L:List SlotD) (k:Nat):Nat:=((List.range k).filter (kept L)).length
def ren (L:List SlotD) (e:Int):Int:=if 0≤e∧e.toNat<L.length∧kept L e.toNat=true then (rnk L e.toNat:Int) else e
def packS (L:List SlotD) (s:SlotD):SlotD:=(s.1,s.2.1,s.2.2.map (ren L))
def packL (L:List SlotD):List SlotD:=(keptI L).map (fun k=>packS L (L.getD k default))
def packN (L:List SlotD) (s:SnapD):SnapD:=(s.1,s.2.1,s.2.2.map (ren L))
def packD (m:ImgD):ImgD:=⟨m.guest,m.root.map (ren m.slots),packL m.slots,(keptI m.slots).map (fun k=>m.refs.getD k 0),m.snaps.map (packN m.slots)⟩
theorem range_parts {n k:Nat}(h:k<n):List.range n=List.range k ++ k :: (List.range n).drop (k+1):=by
 have e1:(List.range n).take k=List.range k:=by rw [List.take_range];congr 1;omega
 have e2:(List.range n)[k]'(by simpa using h)=k:=by simp
 have:=List.take_append_drop k (List.range n)
 rw [e1,List.drop_eq_getElem_cons (by simpa using h),e2] at this
 exact this.symm
theorem keptI_at {L:List SlotD}{k:Nat}(hk:k<L.length)(h:kept L k=true):(keptI L)[rnk L k]? = some k:=by
 unfold keptI rnk
 rw [range_parts hk,List.filter_append,List.filter_cons,if_pos h,List.getElem?_append_right (Nat.le_refl _),Nat.sub_self]
 rfl
theorem keptI_mem {L:List SlotD}{k:Nat} : k ∈ keptI L↔k<L.length∧kept L k=true:=by
 unfold keptI;rw [List.mem_filter,List.mem_range]
theorem keptI_nodup (L:List SlotD):(keptI L).Nodup:=List.Pairwise.filter _ List.nodup_range
theorem rnk_lt {L:List SlotD}{k:Nat}(hk:k<L.length)(h:kept L k=true):rnk L k<(keptI L).length:=(List.getElem?_eq_some_iff.1 (keptI_at hk h)).1
theorem nodup_inj {l:List Nat}(h:l.Nodup){i j:Nat}(hi:i<l.length)(hj:j<l.length)(e:l[i]=l[j]):i=j:=by
 have hp:=List.pairwise_iff_getElem.1 h
 rcases Nat.lt_trichotomy i j with x | x | x
 ·exact absurd e (hp i j hi hj x)
 ·exact x
 ·exact absurd e.symm (hp j i hj hi x)
theorem keptI_get {L:List SlotD}{i:Nat}(hi:i<(keptI L).length):(keptI L)[i]<L.length∧kept L (keptI L)[i]=true∧rnk L (keptI L)[i]=i:=by
 obtain⟨h1,h2⟩:=keptI_mem.1 (List.getElem_mem hi)
 refine⟨h1,h2,?_⟩
 have e:=keptI_at h1 h2
 have hl:=rnk_lt h1 h2
 rw [List.getElem?_eq_getElem hl] at e
 exact nodup_inj (keptI_nodup L) hl hi (Option.some.inj e)
theorem rnk_inj {L:List SlotD}{k j:Nat}(hk:k<L.length)(h:kept L k=true)(hj:j<L.length)(h':kept L j=true)(e:rnk L k=rnk L j):k=j:=by
 have a:=keptI_at hk h
 rw [e,keptI_at hj h'] at a
 exact (Option.some.inj a).symm
theorem kept_0 (L:List SlotD):kept L 0=true:=rfl
theorem rnk_0 (L:List SlotD):rnk L 0=0:=rfl
theorem rnk_pos {L:List SlotD}{k:Nat}(h:1≤k):1≤rnk L k:=by
 unfold rnk
 obtain⟨d,rfl⟩:∃d,k=d+1:=⟨k - 1,by omega⟩
 rw [List.range_succ_eq_map,List.filter_cons,if_pos (kept_0 L)]
 simp
theorem kept_of {L:List SlotD}{k:Nat}(h:kd L k≠0):kept L k=true:=by unfold kept;simp [h]
theorem kept_kd {L:List SlotD}{k:Nat}(h1:1≤k)(h:kept L k=true):kd L k≠0:=by
 unfold kept at h
 have:(k == 0)=false:=by simp;omega
 rw [this] at h
 simpa using h
theorem ren_0 {L:List SlotD} : ren L 0=0:=by
 unfold ren
 split
 ·rw [show (0:Int).toNat=0 from rfl,rnk_0];rfl
 ·rfl
theorem ren_neg {L:List SlotD} : ren L (-1) = -1:=by unfold ren;rw [if_neg (by omega)]
theorem ren_at {L:List SlotD}{k:Nat}(hk:k<L.length)(h:kept L k=true):ren L (k:Int)=(rnk L k:Int):=by
 unfold ren;rw [if_pos ⟨Int.natCast_nonneg _,by rw [Int.toNat_natCast];exact hk,by rw [Int.toNat_natCast];exact h⟩,Int.toNat_natCast]
theorem packL_length (L:List SlotD):(packL L).length=(keptI L).length:=by unfold packL;rw [List.length_map]
theorem keptI_le (L:List SlotD):(keptI L).length≤L.length:=by
 unfold keptI;have:=List.length_filter_le (kept L) (List.range L.length);rwa [List.length_range] at this
theorem packL_get {L:List SlotD}{k:Nat}(hk:k<L.length)(h:kept L k=true):(packL L).getD (rnk L k) default=packS L (L.getD k default):=by
 unfold packL
 rw [List.getD_eq_getElem?_getD,List.getElem?_map,keptI_at hk h]
 rfl
theorem packL_kd {L:List SlotD}{k:Nat}(hk:k<L.length)(h:kept L k=true):kd (packL L) (rnk L k)=kd L k:=by
 show ((packL L).getD (rnk L k) default).1=_;rw [packL_get hk h];rfl
theorem packL_tab {L:List SlotD}{k:Nat}(hk:k<L.length)(h:kept L k=true):tabOf (packL L) (rnk L k:Int)=(tabOf L (k:Int)).map (ren L):=by
 unfold tabOf;rw [Int.toNat_natCast,Int.toNat_natCast,packL_get hk h];rfl
def EntP (L:List SlotD) (e:Int):Prop:=e=0∨e = -1∨∃j:Nat,e=j∧1≤j∧j<L.length∧kept L j=true
theorem ren_ent {L:List SlotD}{e:Int}(h:EntP L e):EntP (packL L) (ren L e):=by
 rcases h with rfl | rfl | ⟨j,rfl,j1,jl,hk⟩
 ·exact .inl ren_0
 ·exact .inr (.inl ren_neg)
 ·refine .inr (.inr ⟨rnk L j,ren_at jl hk,rnk_pos j1,by rw [packL_length];exact rnk_lt jl hk,kept_of ?_⟩)
  rw [packL_kd jl hk];exact kept_kd j1 hk
theorem ren_inj {L:List SlotD}(h1:1≤L.length){a b:Int}(ha:EntP L a)(hb:EntP L b)(e:ren L a=ren L b):a=b:=by
 rcases ha with rfl | rfl | ⟨j,rfl,j1,jl,hj⟩ <;> rcases hb with rfl | rfl | ⟨k,rfl,k1,kl,hk⟩
 ·rfl
 ·rw [ren_0,ren_neg] at e;omega
 ·rw [ren_0,ren_at kl hk] at e;have:=rnk_pos (L:=L) k1;omega
 ·rw [ren_0,ren_neg] at e;omega
 ·rfl
 ·rw [ren_neg,ren_at kl hk] at e;omega
 ·rw [ren_0,ren_at jl hj] at e;have:=rnk_pos (L:=L) j1;omega
 ·rw [ren_neg,ren_at jl hj] at e;omega
 ·rw [ren_at jl hj,ren_at kl hk] at e
  rw [rnk_inj jl hj kl hk (by omega)]
theorem tabE_ent {L:List SlotD}{e:Int}(h:tabE L e=true):e=0∨e = -1∨∃j:Nat,e=j∧1≤j∧j<L.length∧kd L j=1:=by
 unfold tabE isKd at h
 by_cases h0:e=0
 ·exact .inl h0
 ·by_cases h1:e = -1
  ·exact .inr (.inl h1)
  ·simp [h0,h1] at h
   obtain⟨⟨a,b⟩,c⟩:=h
   obtain⟨j,rfl⟩:=Int.eq_ofNat_of_zero_le a
   rw [Int.toNat_natCast] at c
   exact .inr (.inr ⟨j,rfl,by omega,by omega,c⟩)
theorem tabE_of {L:List SlotD}{e:Int}(h:e=0∨e = -1∨∃j:Nat,e=j∧1≤j∧j<L.length∧kd L j=1):tabE L e=true:=by
 unfold tabE isKd
 rcases h with rfl | rfl | ⟨j,rfl,j1,jl,hk⟩
 ·rfl
 ·rfl
 ·have e1:(L.getD (Int.toNat (j:Int)) default).1=1:=by rw [Int.toNat_natCast];exact hk
  have e2:decide (0≤(j:Int)∧(j:Int)<(L.length:Int))=true:=by rw [decide_eq_true_eq];omega
  rw [e1,e2];simp
theorem rootE_ent {L:List SlotD}{e:Int}(h:rootE L e=true):e=0∨∃j:Nat,e=j∧1≤j∧j<L.length∧kd L j=2:=by
 unfold rootE isKd at h
 by_cases h0:e=0
 ·exact .inl h0
 ·simp [h0] at h
  obtain⟨⟨a,b⟩,c⟩:=h
  obtain⟨j,rfl⟩:=Int.eq_ofNat_of_zero_le a
  rw [Int.toNat_natCast] at c
  exact .inr ⟨j,rfl,by omega,by omega,c⟩
theorem rootE_of {L:List SlotD}{e:Int}(h:e=0∨∃j:Nat,e=j∧1≤j∧j<L.length∧kd L j=2):rootE L e=true:=by
 unfold rootE isKd
 rcases h with rfl | ⟨j,rfl,j1,jl,hk⟩
 ·rfl
 ·have e1:(L.getD (Int.toNat (j:Int)) default).1=2:=by rw [Int.toNat_natCast];exact hk
  have e2:decide (0≤(j:Int)∧(j:Int)<(L.length:Int))=true:=by rw [decide_eq_true_eq];omega
  rw [e1,e2];simp
theorem rootE_ren {L:List SlotD}{e:Int}(h:rootE L e=true):rootE (packL L) (ren L e)=true:=by
 rcases rootE_ent h with rfl | ⟨j,rfl,j1,jl,hk⟩
 ·rw [ren_0];exact rootE_of (.inl rfl)
 ·have hp:kept L j=true:=kept_of (by rw [hk];decide)
  exact rootE_of (.inr ⟨rnk L j,ren_at jl hp,rnk_pos j1,by rw [packL_length];exact rnk_lt jl hp,by rw [packL_kd jl hp];exact hk⟩)
theorem tabE_ren {L:List SlotD}{e:Int}(h:tabE L e=true):tabE (packL L) (ren L e)=true:=by
 rcases tabE_ent h with rfl | rfl | ⟨j,rfl,j1,jl,hk⟩
 ·rw [ren_0];exact tabE_of (.inl rfl)
 ·rw [ren_neg];exact tabE_of (.inr (.inl rfl))
 ·have hp:kept L j=true:=kept_of (by rw [hk];decide)
  exact tabE_of (.inr (.inr ⟨rnk L j,ren_at jl hp,rnk_pos j1,by rw [packL_length];exact rnk_lt jl hp,by rw [packL_kd jl hp];exact hk⟩))
theorem rootE_EntP {L:List SlotD}{e:Int}(h:rootE L e=true):EntP L e:=by
 rcases rootE_ent h with rfl | ⟨j,rfl,j1,jl,hk⟩
 ·exact .inl rfl
 ·exact .inr (.inr ⟨j,rfl,j1,jl,kept_of (by rw [hk];decide)⟩)
theorem tabE_EntP {L:List SlotD}{e:Int}(h:tabE L e=true):EntP L e:=by
 rcases tabE_ent h with rfl | rfl | ⟨j,rfl,j1,jl,hk⟩
 ·exact .inl rfl
 ·exact .inr (.inl rfl)
 ·exact .inr (.inr ⟨j,rfl,j1,jl,kept_of (by rw [hk];decide)⟩)
def entK (L:List SlotD) (l:List Nat):List MapEntry:=l.map (fun (k:Nat)=>{ key:=.int .i64 (k:Int),val:=.int .i64 (rnk L k:Int),born:=rnk L k })
theorem find_no {L:List SlotD} : ∀ {l:List Nat} {k:Int},(∀j ∈ l,(j:Int)≠k)→∀i,Instr.findNow (.int .i64) (.int .i64 k) (entK L l) i=some none
 | [],_,_,_=>rfl
 | a :: l,k,h,i=>by
  have e:(k == (a:Int))=false:=by have:=h a List.mem_cons_self;simp;omega
  show (match Instr.sameNow (.int .i64) (.int .i64 k) (.int .i64 (a:Int)) with | some true=>_ | some false=>Instr.findNow (.int .i64) (.int .i64 k) (entK L l) (i+1) | none=>none)=_
  simp only [Instr.sameNow,if_true,e]
  exact find_no (fun j hj=>h j (List.mem_cons_of_mem _ hj)) (i+1)
theorem find_at {L:List SlotD} : ∀ {l:List Nat} {k:Nat},k ∈ l→∀i,∃p,Instr.findNow (.int .i64) (.int .i64 (k:Int)) (entK L l) i=some (some (p,.int .i64 (rnk L k:Int)))
 | [],_,h,_=>by cases h
 | a :: l,k,h,i=>by
  by_cases e:k=a
  ·subst e
   refine⟨i,?_⟩
   show (match Instr.sameNow (.int .i64) (.int .i64 (k:Int)) (.int .i64 (k:Int)) with | some true=>some (some (i,Value.int .i64 (rnk L k:Int))) | some false=>_ | none=>none)=_
   simp [Instr.sameNow]
  ·have e1:((k:Int) == (a:Int))=false:=by simp;omega
   rcases List.mem_cons.1 h with x | x
   ·exact absurd x e
   ·obtain⟨p,hp⟩:=find_at (L:=L) x (i+1)
    refine⟨p,?_⟩
    show (match Instr.sameNow (.int .i64) (.int .i64 (k:Int)) (.int .i64 (a:Int)) with | some true=>_ | some false=>Instr.findNow (.int .i64) (.int .i64 (k:Int)) (entK L l) (i+1) | none=>none)=_
    simp only [Instr.sameNow,if_true,e1]
    exact hp
theorem entK_size {L:List SlotD}{k:Nat} : ((entK L ((List.range k).filter (kept L))).toArray).size=rnk L k:=by unfold entK rnk;simp
theorem entK_succ {L:List SlotD}{k:Nat}(h:kept L k=true):(entK L ((List.range (k+1)).filter (kept L))).toArray=((entK L ((List.range k).filter (kept L))).toArray).push { key:=.int .i64 (k:Int),val:=.int .i64 (rnk L k:Int),born:=rnk L k }:=by
 rw [List.range_succ,List.filter_append]
 unfold entK
 simp [h]
theorem entK_same {L:List SlotD}{k:Nat}(h:kept L k=false):(entK L ((List.range (k+1)).filter (kept L))).toArray=(entK L ((List.range k).filter (kept L))).toArray:=by
 rw [List.range_succ,List.filter_append]
 simp [h]
theorem rnk_succ {L:List SlotD}{k:Nat}(h:kept L k=true):rnk L (k+1)=rnk L k+1:=by
 unfold rnk;rw [List.range_succ,List.filter_append];simp [h]
theorem rnk_same {L:List SlotD}{k:Nat}(h:kept L k=false):rnk L (k+1)=rnk L k:=by
 unfold rnk;rw [List.range_succ,List.filter_append];simp [h]
theorem map_alloc {W:World}{r c:Nat}{es:Array MapEntry}(h:W.heap[r]? = some (.map es c))(o:Obj):(W.alloc o).heap[r]? = some (.map es c):=
 (Below.heap_alloc W o r (szH h)).trans h
set_option maxHeartbeats 4000000 in
theorem numbers_at (b off cap:Nat)(L:List SlotD)(w:World)(h40:L.length≤40)(hlt:b<w.heap.size)(HC:Hid (∀j,(h:j<L.length)→SlAt w b (off+j*3) L[j])) :
  Calls Tryz.prog 41 #[.slice (some ⟨b,off,none⟩) L.length cap] w fun r w'=>r=.returned (.map (some w.heap.size))∧w'.heap[w.heap.size]? = some (.map ((entK L ((List.range L.length).filter (kept L))).toArray) (rnk L L.length))∧Below w.heap.size w w':=by
 have hmm:=@run_makeMap Tryz.prog
 have g0:=heap_alloc_new w (.map #[] 0)
 have HM0:Hid ((w.alloc (.map #[] 0)).heap[w.heap.size]? = some (.map ((entK L ((List.range 0).filter (kept L))).toArray) (rnk L 0))∧Below w.heap.size w (w.alloc (.map #[] 0))):=⟨g0,(Below.refl _ _).alloc (Nat.le_refl _) _⟩
 clear g0
 go_enter Tryz.func41,Tryz.ntmps41
 go_wp2_with fail
 go_loopw [10] (fun i wr=>∃k:Nat,k≤L.length∧i=.int .i64 k∧Hid (wr.heap[w.heap.size]? = some (.map ((entK L ((List.range k).filter (kept L))).toArray) (rnk L k))∧Below w.heap.size w wr)) (fun i _=>L.length - (intOf i).toNat)
 case atStart=>exact⟨0,Nat.zero_le _,rfl,HM0⟩
 case round=>
  obtain⟨k,hk,rfl,HM⟩:=hrel
  by_cases hkl:k<L.length
  ·have hki:(k:Int)<(L.length:Int):=by omega
   obtain⟨tv,q0,q1,q2,qs⟩:=HC.out k hkl
   obtain⟨⟨kk,dd,es⟩,hsk⟩:∃s,L[k]=s:=⟨_,rfl⟩
   have HS:Hid (kd L k=kk):=by show kd L k=kk;rw [←kd_getElem hkl,hsk]
   rw [hsk] at q0 q1 qs
   obtain⟨ta,tc,rfl⟩:=qs.form
   obtain⟨tn,htn⟩:∃n,n=es.length:=⟨_,rfl⟩
   have v0:wr.cell? ⟨b,off+k*3,none⟩=some (.int .i64 kk):=(HM.out.2.cell (p:=⟨b,off+k*3,none⟩) hlt).trans q0
   have v1:wr.cell? ⟨b,off+k*3+1,none⟩=some (.string dd):=(HM.out.2.cell (p:=⟨b,off+k*3+1,none⟩) hlt).trans q1
   have v2:wr.cell? ⟨b,off+k*3+1+1,none⟩=some (.slice ta tn tc):=by rw [htn];exact (HM.out.2.cell (p:=⟨b,off+k*3+1+1,none⟩) hlt).trans q2
   clear hsk htn q0 q1 q2 qs
   by_cases k0:k=0
   ·have hkp:kept L k=true:=by rw [k0];rfl
    have c0:((k:Int) == 0)=true:=by simp;omega
    clear k0
    skip
    obtain⟨W1,u1,g1,b1,z1⟩:=upd_ex (P:=Tryz.prog) (w:=wr.alloc (.cells #[.int .i64 kk,.string dd,.slice ta tn tc] 61)) 67 3 3 w.heap.size (rnk L k) ((entK L ((List.range k).filter (kept L))).toArray) (k:Int) (.int .i64 (rnk L k:Int)) Tryz.underlying67 Tryz.underlying3 (map_alloc HM.out.1 _) (find_no (L:=L) (l:=(List.range k).filter (kept L)) (k:=(k:Int)) (fun j hj=>by have:=List.mem_range.1 (List.mem_filter.1 hj).1;omega) 0) (Nat.le_refl _) (HM.out.2.alloc HM.out.2.size _)
    have hlen:∀ty,(Builtin.len_ #[67] ty #[.map (some w.heap.size)]).run Tryz.prog (wr.alloc (.cells #[.int .i64 kk,.string dd,.slice ta tn tc] 61))=.ok (.int .i64 (rnk L k:Int)) (wr.alloc (.cells #[.int .i64 kk,.string dd,.slice ta tn tc] 61)):=fun ty=>by
     have:=run_len_map (P:=Tryz.prog) (w:=wr.alloc (.cells #[.int .i64 kk,.string dd,.slice ta tn tc] 61)) 67 ty w.heap.size ((entK L ((List.range k).filter (kept L))).toArray) (rnk L k) (by kernel_rfl) (map_alloc HM.out.1 _)
     rw [this];unfold goInt;rw [entK_size]
    have G1:Hid (W1.heap[w.heap.size]? = some (.map ((entK L ((List.range (k+1)).filter (kept L))).toArray) (rnk L (k+1)))∧Below w.heap.size w W1):=⟨by rw [g1,entK_succ hkp,rnk_succ hkp],b1⟩
    clear g1 b1 z1
    go_wp2_with fail
    go_roundw
    case rel=>exact⟨k+1,by omega,by go_num,G1⟩
    case measure=>first | (simp [intOf];done) | (simp [intOf];omega)
   ·have c0:((k:Int) == 0)=false:=by simp;omega
    have k0i:¬(k:Int)=0:=by omega
    by_cases hz:kk=0
    ·have hkp:kept L k=false:=by unfold kept;rw [HS.out,hz];simp;omega
     have c1:(kk != 0)=false:=by simp [hz]
     have GN:Hid ((wr.alloc (.cells #[.int .i64 kk,.string dd,.slice ta tn tc] 61)).heap[w.heap.size]? = some (.map ((entK L ((List.range (k+1)).filter (kept L))).toArray) (rnk L (k+1)))∧Below w.heap.size w (wr.alloc (.cells #[.int .i64 kk,.string dd,.slice ta tn tc] 61))):=⟨by rw [entK_same hkp,rnk_same hkp];exact map_alloc HM.out.1 _,HM.out.2.alloc HM.out.2.size _⟩
     subst hz
     skip
     go_wp2_with fail
     go_roundw
     case rel=>exact⟨k+1,by omega,by go_num,GN⟩
     case measure=>first | (simp [intOf];done) | (simp [intOf];omega)
    ·have hkp:kept L k=true:=kept_of (by rw [HS.out];exact hz)
     have c1:(kk != 0)=true:=by simp [hz]
     skip
     obtain⟨W1,u1,g1,b1,z1⟩:=upd_ex (P:=Tryz.prog) (w:=wr.alloc (.cells #[.int .i64 kk,.string dd,.slice ta tn tc] 61)) 67 3 3 w.heap.size (rnk L k) ((entK L ((List.range k).filter (kept L))).toArray) (k:Int) (.int .i64 (rnk L k:Int)) Tryz.underlying67 Tryz.underlying3 (map_alloc HM.out.1 _) (find_no (L:=L) (l:=(List.range k).filter (kept L)) (k:=(k:Int)) (fun j hj=>by have:=List.mem_range.1 (List.mem_filter.1 hj).1;omega) 0) (Nat.le_refl _) (HM.out.2.alloc HM.out.2.size _)
     have hlen:∀ty,(Builtin.len_ #[67] ty #[.map (some w.heap.size)]).run Tryz.prog (wr.alloc (.cells #[.int .i64 kk,.string dd,.slice ta tn tc] 61))=.ok (.int .i64 (rnk L k:Int)) (wr.alloc (.cells #[.int .i64 kk,.string dd,.slice ta tn tc] 61)):=fun ty=>by
      have:=run_len_map (P:=Tryz.prog) (w:=wr.alloc (.cells #[.int .i64 kk,.string dd,.slice ta tn tc] 61)) 67 ty w.heap.size ((entK L ((List.range k).filter (kept L))).toArray) (rnk L k) (by kernel_rfl) (map_alloc HM.out.1 _)
      rw [this];unfold goInt;rw [entK_size]
     have G1:Hid (W1.heap[w.heap.size]? = some (.map ((entK L ((List.range (k+1)).filter (kept L))).toArray) (rnk L (k+1)))∧Below w.heap.size w W1):=⟨by rw [g1,entK_succ hkp,rnk_succ hkp],b1⟩
     clear g1 b1 z1
     go_wp2_with fail
     go_roundw
     case rel=>exact⟨k+1,by omega,by go_num,G1⟩
     case measure=>first | (simp [intOf];done) | (simp [intOf];omega)
  ·have e:k=L.length:=by omega
   subst e
   go_wp2_with fail
   go_ret
   exact⟨rfl,HM.out.1,HM.out.2⟩
theorem numbers_is {w:World}{v:Value}{L:List SlotD}(h:Slots w v L)(hE:slotsE L=0) :
  Calls Tryz.prog 41 #[v] w fun r w'=>r=.returned (.map (some w.heap.size))∧w'.heap[w.heap.size]? = some (.map ((entK L ((List.range L.length).filter (kept L))).toArray) (rnk L L.length))∧Below w.heap.size w w':=by
 obtain⟨b,off,cap,rfl,_,hlt,hc⟩:=h.open (slotsE_parts hE).1
 exact numbers_at b off cap L w (slotsE_parts hE).2 hlt hc
end Go.Proofs.YtehleeibgkpjmafGreat
