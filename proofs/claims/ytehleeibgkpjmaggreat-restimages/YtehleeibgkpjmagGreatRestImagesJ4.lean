/- Texts joined: RefD, RefE, TChk2, TLook, Z4, RtI, Cted, ExtP, Grab. -/
import Derived.Test.YtehleeibgkpjmagGreatRestImagesJ3
import Derived.Test.YtehleeibgkpjmagGreatRestImagesJ1
import Derived.Deep.QuietTactic
import Derived.BigQuiet
import Derived.WalkKit
set_option linter.unusedVariables false
set_option linter.unusedSimpArgs false
set_option maxHeartbeats 200000000
set_option maxRecDepth 20000
namespace Go.Proofs.YtehleeibgkpjmagGreat
open Go.RowKit Go.Shelf
theorem Qhq (gm:Int)(ra:Option Addr)(rn rc:Nat)(sa:Option Addr)(sn sc:Nat)(fa:Option Addr)(fn fc:Nat)(na:Option Addr)(nn nc:Nat)(w:World)(hn:decide ((1:Int)≤(sn:Int)∧(sn:Int)≤40)=false∨3<nn)(_h:nn≤9223372036854775807) :
  Calls Tryz.prog 16 #[.agg (bI gm ra rn rc sa sn sc fa fn fc na nn nc)] w fun r w'=>r=.returned (.int .i64 2)∧Below w.heap.size w w':=by
 have b0:Below w.heap.size w (w.alloc (.cells (bI gm ra rn rc sa sn sc fa fn fc na nn nc) 26)):=bA
 cases hd:decide ((1:Int)≤(sn:Int)∧(sn:Int)≤40) with
 | false=>
  have HD:Hid (decide ((1:Int)≤(sn:Int)∧(sn:Int)≤40)=false):=hd;clear hn hd
  go_enter Tryz.func16,Tryz.ntmps16
  go_wp2_with (go_at_call 50;refine (QaN _ _ _ _).mono ?_;rintro e w' ⟨rfl,hw⟩;subst hw;rw [HD.out]);go_ret;exact⟨rfl,b0⟩
 | true=>
  have hn3:(3:Int)<(nn:Int):=by
   rcases hn with h | h
   ·rw [hd] at h;cases h
   ·omega
  have HD:Hid (decide ((1:Int)≤(sn:Int)∧(sn:Int)≤40)=true):=hd;clear hn hd
  go_enter Tryz.func16,Tryz.ntmps16
  go_wp2_with (go_at_call 50;refine (QaN _ _ _ _).mono ?_;rintro e w' ⟨rfl,hw⟩;subst hw;rw [HD.out]);go_ret;exact⟨rfl,b0⟩
theorem Qg6 (gm:Int)(ra:Option Addr)(rn rc:Nat)(sa:Option Addr)(sn sc:Nat)(fa:Option Addr)(fn fc:Nat)(na:Option Addr)(nn nc:Nat)(L:List Qag)(E:Int)(w:World)(hd:decide ((1:Int)≤(sn:Int)∧(sn:Int)≤40)=true)(hn:nn≤3)(hs:QaQ w (.slice sa sn sc) L)(hE:Qap L=E)(_hf:fn≤9223372036854775807)(hor:E≠0∨fn≠sn) :
  Calls Tryz.prog 16 #[.agg (bI gm ra rn rc sa sn sc fa fn fc na nn nc)] w fun r w'=>r=.returned (.int .i64 1)∧Below w.heap.size w w':=by
 have b0:Below w.heap.size w (w.alloc (.cells (bI gm ra rn rc sa sn sc fa fn fc na nn nc) 26)):=bA;have m0:(w.alloc (.cells (bI gm ra rn rc sa sn sc fa fn fc na nn nc) 26)).heap[w.heap.size]? = some (.cells (bI gm ra rn rc sa sn sc fa fn fc na nn nc) 26):=zHn _ _;have HD:Hid (decide ((1:Int)≤(sn:Int)∧(sn:Int)≤40)=true):=hd;have hcall:=QdW (hs.below b0) hE;have hn3:¬(3:Int)<(nn:Int):=by omega
 clear hd hs hE
 by_cases h0:E=0
 ·have hfn:((fn:Int) != (sn:Int))=true:=by
   rcases hor with h | h
   ·exact absurd h0 h
   ·simp;omega
  subst h0;clear hor
  go_enter Tryz.func16,Tryz.ntmps16
  go_wp2_with (first | (go_at_call 50;refine (QaN _ _ _ _).mono ?_;rintro e w' ⟨rfl,hw⟩;subst hw;rw [HD.out]) | (go_at_call 51;refine hcall.mono ?_;rintro e w1 ⟨rfl,b1⟩;have m1:=Qab m0 b1 (by simp);obtain⟨c0,c1,c2,c3,c4⟩:=five m1));go_ret;exact⟨rfl,Below.on b0 b1⟩
 ·have hb:(E != 0)=true:=by simp [h0]
  clear hor h0
  go_enter Tryz.func16,Tryz.ntmps16
  go_wp2_with (first | (go_at_call 50;refine (QaN _ _ _ _).mono ?_;rintro e w' ⟨rfl,hw⟩;subst hw;rw [HD.out]) | (go_at_call 51;refine hcall.mono ?_;rintro e w1 ⟨rfl,b1⟩;have m1:=Qab m0 b1 (by simp);obtain⟨c0,c1,c2,c3,c4⟩:=five m1));go_ret;exact⟨rfl,Below.on b0 b1⟩
theorem Qa6 {s:ByteArray}(w:World){B:Bool}(hB:isNm s=B):Calls Tryz.prog 47 #[.string s] w fun r w'=>r=.returned (.bool B)∧w'=w:=by subst hB;exact Qg8 s w
set_option linter.unusedSimpArgs false in
theorem QkA (gm:Int)(ra:Option Addr)(rn rc:Nat)(sb so:Nat)(sn sc:Nat)(fa:Option Addr)(fn fc:Nat)(na:Option Addr)(nn nc:Nat)(m:ImgD)(E:Int)(w:World)
  (h:Img w (.agg #[.int .i64 gm,.slice ra rn rc,.slice (some ⟨sb,so,none⟩) sn sc,.slice fa fn fc,.slice na nn nc]) m) (hsn:m.slots.length=sn) (hnn:m.snaps.length=nn) (hgm:m.guest=gm) (hn3:nn≤3) (hfs:fn=sn) (hsb:sb<w.heap.size) (hcl:∀j,(h:j<m.slots.length)→SlAt w sb (so+j*3) m.slots[j]) (hs:Qap m.slots=0)
  (hr:Sl w (.slice ra rn rc) m.root) (hna:∀j,(h:j<m.snaps.length)→∃b off,na=some ⟨b,off,none⟩∧b<w.heap.size∧SnAt w b (off+j*3) m.snaps[j])
  (hE:Qao m=E) (hrf:m.refs.length=m.slots.length) :
  Calls Tryz.prog 16 #[.agg #[.int .i64 gm,.slice ra rn rc,.slice (some ⟨sb,so,none⟩) sn sc,.slice fa fn fc,.slice na nn nc]] w fun r w'=>r=.returned (.int .i64 E)∧Below w.heap.size w w':=by
 have b0:Below w.heap.size w (w.alloc (.cells #[.int .i64 gm,.slice ra rn rc,.slice (some ⟨sb,so,none⟩) sn sc,.slice fa fn fc,.slice na nn nc] 26)):=bA;have m0:(w.alloc (.cells #[.int .i64 gm,.slice ra rn rc,.slice (some ⟨sb,so,none⟩) sn sc,.slice fa fn fc,.slice na nn nc] 26)).heap[w.heap.size]? = some (.cells #[.int .i64 gm,.slice ra rn rc,.slice (some ⟨sb,so,none⟩) sn sc,.slice fa fn fc,.slice na nn nc] 26):=zHn _ _;have hsl:QaQ w (.slice (some ⟨sb,so,none⟩) sn sc) m.slots:=by
  obtain⟨_,_,_,_,e,_,h2,_⟩:=h;simp at e
  obtain⟨_,_,e2,_⟩:=e;rw [←e2] at h2;exact h2
 have h40:sn≤40:=by rw [←hsn];exact (Qah hs).2
 have h1s:1≤sn:=by rw [←hsn];exact (Qah hs).1
 have HD:Hid (decide ((1:Int)≤(sn:Int)∧(sn:Int)≤40)=true):=decide_eq_true (by omega);have hse:=QdW (hsl.below b0) hs;have hn3i:¬(3:Int)<(nn:Int):=by omega
 subst hfs;have HT:Hid (E=if QaJ m.snaps=false then 1 else QdE m.slots (Qax m)):=by
  show _=_
  rw [←hE];unfold Qao QdE;rw [if_neg (by rw [hnn];omega),if_neg (by simpa using hs)]
  by_cases hN:QaJ m.snaps=false
  ·rw [if_pos (.inr hN),if_pos hN]
  ·rw [if_neg (fun h=>h.elim (fun h=>h hrf) hN),if_neg hN]
 have F1:Hid (∀k,k<nn→nmAt m.snaps k=false→E=1):=fun k hk hb=>by
  rw [HT.out,if_pos (Qfp (by rw [hnn];exact hk) hb)]
 have F2:Hid (QaJ m.snaps=true→∀s ∈ Qax m,Qay s.2.1=false→E=3):=fun hN s hm hg=>by
  rw [HT.out,if_neg (by rw [hN];decide)];unfold QdE;rw [if_pos];rw [←Bool.not_eq_true,List.all_eq_true];intro hall;have:=hall s hm;rw [hg] at this;cases this
 have F3:Hid (QaJ m.snaps=true→(Qax m).all (fun s=>Qay s.2.1)=true→∀n,(hn:n<m.slots.length)→∀i,i<m.slots[n].2.2.length→entP m.slots (m.slots[n].2.2.getD i 0)=false→E=1):=fun hN hG n hn i hi hb=>by
  rw [HT.out,if_neg (by rw [hN];decide)];unfold QdE;rw [if_neg (by rw [hG];decide),if_pos];rw [←Bool.not_eq_true,← Qjt hs,List.all_eq_true];intro hall;have:=Qci (hall _ (List.getElem_mem hn)) hi;rw [hb] at this;cases this
 have F4:Hid (QaJ m.snaps=true→(Qax m).all (fun s=>Qay s.2.1)=true→QaW m.slots=true→∀s ∈ Qax m,Qas m.slots s.2.1 s.2.2=false→E=1):=fun hN hG hT s hm hb=>by
  rw [HT.out,if_neg (by rw [hN];decide)];unfold QdE;rw [if_neg (by rw [hG];decide),if_neg (by rw [hT];decide),if_pos];rw [←Bool.not_eq_true,List.all_eq_true];intro hall;have:=hall s hm;rw [hb] at this;cases this
 have F5:Hid (QaJ m.snaps=true→(Qax m).all (fun s=>Qay s.2.1)=true→QaW m.slots=true→(Qax m).all (fun s=>Qas m.slots s.2.1 s.2.2)=true→E=0):=fun hN hG hT hR=>by
  rw [HT.out,if_neg (by rw [hN];decide)];unfold QdE;rw [if_neg (by rw [hG];decide),if_neg (by rw [hT];decide),if_neg (by rw [hR];decide)]
 have H1:Hid (m.slots.length=fn∧m.snaps.length=nn∧m.guest=gm):=⟨hsn,hnn,hgm⟩;have H2:Hid (∀j,(h:j<m.slots.length)→SlAt w sb (so+j*3) m.slots[j]):=hcl;have H3:Hid (∀j,(h:j<m.snaps.length)→∃b off,na=some ⟨b,off,none⟩∧b<w.heap.size∧SnAt w b (off+j*3) m.snaps[j]):=hna;have H4:Hid (Qap m.slots=0):=hs;have H6:Hid (Img w (.agg #[.int .i64 gm,.slice ra rn rc,.slice (some ⟨sb,so,none⟩) fn sc,.slice fa fn fc,.slice na nn nc]) m):=h;have H7:Hid (Sl w (.slice ra rn rc) m.root):=hr;have hfn0:((fn:Int) != (fn:Int))=false:=by simp
 clear hsn hnn hgm hcl hna hs h hr HT hE hrf hsl
 go_enter Tryz.func16,Tryz.ntmps16
 go_wp2_with (first | (go_at_call 50;refine (QaN _ _ _ _).mono ?_;rintro e w' ⟨rfl,hw⟩;subst hw;rw [HD.out]) | (go_at_call 51;refine hse.mono ?_;rintro e w1 ⟨rfl,b1⟩;have m1:=Qab m0 b1 (by simp);obtain⟨c0,c1,c2,c3,c4⟩:=five m1));clear hse HD
 go_loopw [3] (fun i wr=>∃k:Nat,k≤nn∧i=.int .i64 k∧Hid (∀j,j<k→nmAt m.snaps j=true)∧Below w1.heap.size w1 wr) (fun i _=>nn - (intOf i).toNat)
 case atStart=>exact⟨0,Nat.zero_le _,rfl,fun j hj=>absurd hj (by omega),Below.refl _ _⟩
 case round=>
  obtain⟨k,hk,rfl,HA,hbel⟩:=hrel;have hszw1:w.heap.size<w1.heap.size:=(szH m1);have mr:=Qab m1 hbel hszw1;have hbw:=Below.on (Below.on b0 b1) hbel;clear c0 c1 c2 c3 c4;obtain⟨c0,c1,c2,c3,c4⟩:=five mr
  by_cases hlk:k<nn
  ·obtain⟨b,off,rfl,hlt,hS⟩:=H3.out k (by rw [H1.out.2.1];exact hlk);obtain⟨s,hs⟩:∃s,s=m.snaps[k]'(by rw [H1.out.2.1];exact hlk):=⟨_,rfl⟩;obtain⟨nm,gg,rr⟩:=s;rw [←hs] at hS;obtain⟨rv,s1,s2,s3,hsl⟩:=hS;have s1:wr.cell? ⟨b,off+k*3,none⟩=some (.string nm):=(hbw.cell (p:=⟨b,off+k*3,none⟩) hlt).trans s1;have HE:Hid (∀hk0:k=0,nmAt m.snaps k=isNm nm):=fun hk0=>by
    have:=Qlm (L:=m.snaps) (by rw [H1.out.2.1];omega);have e:m.snaps[0]'(by rw [H1.out.2.1];omega)=(nm,gg,rr):=by rw [hs];simp [hk0]
    rw [hk0,this,e]
   have HP:Hid (∀hk0:1≤k,∃pn,wr.cell? ⟨b,off+(k - 1)*3,none⟩=some (.string pn)∧nmAt m.snaps k=(isNm nm && Op.bytesLess pn.toList nm.toList)):=fun hk0=>by
    obtain⟨b',off',e,_,hS'⟩:=H3.out (k - 1) (by rw [H1.out.2.1];omega);simp at e
    obtain⟨rfl,rfl⟩:=e;obtain⟨_,d1,_⟩:=hS';refine⟨_,(hbw.cell (p:=⟨b,off+(k - 1)*3,none⟩) hlt).trans d1,?_⟩;rw [QgY (L:=m.snaps) (by rw [H1.out.2.1];exact hlk) hk0,← hs]
   have HGo:Hid (nmAt m.snaps k=true→∀j,j<k+1→nmAt m.snaps j=true):=fun h j hj=>by
    by_cases e:j=k
    ·subst e;exact h
    ·exact HA.out j (by omega)
   have HBad:Hid (nmAt m.snaps k=false→E=1):=F1.out k hlk;have h3:k=0∨k=1∨k=2:=by omega
   clear hs hsl HA s2 s3 b1 m1;rcases h3 with rfl | h3
   ·have hki:(0:Int)<(nn:Int):=by omega
    clear hlk;have s1:wr.cell? ⟨b,off,none⟩=some (.string nm):=s1;simp only [Int.cast_ofNat_Int];have HK:Hid (nmAt m.snaps 0=isNm nm):=HE.out rfl;clear HE HP
    cases hq:isNm nm with
    | true=>
     go_wp2_with fail
     go_quiet ((go_at_call 47;exact Calls.quiet_of_same (Qa6 _ hq)))
     go_wp2_with fail;go_roundw
     case rel=>exact⟨1,by omega,by rfl,HGo.out (by rw [HK.out];exact hq),⟨hbel.os,hbel.tape,hbel.output,hbel.size,hbel.block⟩⟩
     case measure=>simp [intOf];omega
    | false=>
     have HB1:Hid (E=1):=HBad.out (by rw [HK.out];exact hq);go_wp2_with fail
     go_quiet ((go_at_call 47;exact Calls.quiet_of_same (Qa6 _ hq)))
     go_wp2_with fail;go_ret;exact⟨QaI HB1.out.symm,⟨hbw.os,hbw.tape,hbw.output,hbw.size,hbw.block⟩⟩
   rcases h3 with rfl | rfl
   ·have hki:(1:Int)<(nn:Int):=by omega
    clear hlk;have s1:wr.cell? ⟨b,off+3,none⟩=some (.string nm):=s1;simp only [Int.cast_ofNat_Int];obtain⟨pn,d1,hK⟩:=HP.out (by omega);have d1:wr.cell? ⟨b,off,none⟩=some (.string pn):=d1;have HK:Hid (nmAt m.snaps 1=(isNm nm && Op.bytesLess pn.toList nm.toList)):=hK;have hnl:(0:Int)<(nn:Int):=by omega
    have hnn:0<nn:=by omega
    clear HE HP hK
    cases hq:isNm nm with
    | true=>
     cases hla:Op.bytesLess pn.toList nm.toList with
     | true=>
      go_wp2_with fail
      go_quiet ((go_at_call 47;exact Calls.quiet_of_same (Qa6 _ hq)))
      go_wp2_with fail;go_roundw
      case rel=>exact⟨2,by omega,by rfl,HGo.out (by rw [HK.out,hq,hla];rfl),⟨hbel.os,hbel.tape,hbel.output,hbel.size,hbel.block⟩⟩
      case measure=>simp [intOf];omega
     | false=>
      have HB1:Hid (E=1):=HBad.out (by rw [HK.out,hq,hla];rfl);go_wp2_with fail
      go_quiet ((go_at_call 47;exact Calls.quiet_of_same (Qa6 _ hq)))
      go_wp2_with fail;go_ret;exact⟨QaI HB1.out.symm,⟨hbw.os,hbw.tape,hbw.output,hbw.size,hbw.block⟩⟩
    | false=>
     have HB1:Hid (E=1):=HBad.out (by rw [HK.out,hq];rfl);go_wp2_with fail
     go_quiet ((go_at_call 47;exact Calls.quiet_of_same (Qa6 _ hq)))
     go_wp2_with fail;go_ret;exact⟨QaI HB1.out.symm,⟨hbw.os,hbw.tape,hbw.output,hbw.size,hbw.block⟩⟩
   ·have hki:(2:Int)<(nn:Int):=by omega
    clear hlk;have s1:wr.cell? ⟨b,off+6,none⟩=some (.string nm):=s1;simp only [Int.cast_ofNat_Int];obtain⟨pn,d1,hK⟩:=HP.out (by omega);have d1:wr.cell? ⟨b,off+3,none⟩=some (.string pn):=d1;have HK:Hid (nmAt m.snaps 2=(isNm nm && Op.bytesLess pn.toList nm.toList)):=hK;have hnl:(1:Int)<(nn:Int):=by omega
    have hnn:1<nn:=by omega
    clear HE HP hK
    cases hq:isNm nm with
    | true=>
     cases hla:Op.bytesLess pn.toList nm.toList with
     | true=>
      go_wp2_with fail
      go_quiet ((go_at_call 47;exact Calls.quiet_of_same (Qa6 _ hq)))
      go_wp2_with fail;go_roundw
      case rel=>exact⟨3,by omega,by rfl,HGo.out (by rw [HK.out,hq,hla];rfl),⟨hbel.os,hbel.tape,hbel.output,hbel.size,hbel.block⟩⟩
      case measure=>simp [intOf];omega
     | false=>
      have HB1:Hid (E=1):=HBad.out (by rw [HK.out,hq,hla];rfl);go_wp2_with fail
      go_quiet ((go_at_call 47;exact Calls.quiet_of_same (Qa6 _ hq)))
      go_wp2_with fail;go_ret;exact⟨QaI HB1.out.symm,⟨hbw.os,hbw.tape,hbw.output,hbw.size,hbw.block⟩⟩
    | false=>
     have HB1:Hid (E=1):=HBad.out (by rw [HK.out,hq];rfl);go_wp2_with fail
     go_quiet ((go_at_call 47;exact Calls.quiet_of_same (Qa6 _ hq)))
     go_wp2_with fail;go_ret;exact⟨QaI HB1.out.symm,⟨hbw.os,hbw.tape,hbw.output,hbw.size,hbw.block⟩⟩
  ·have e4:k=nn:=by omega
   subst e4;have HP1:Hid (QaJ m.snaps=true):=Qeu (fun j hj=>HA.out j (by rw [H1.out.2.1] at hj;exact hj));clear HA F1;have HG0:Hid (Qay gm=decide ((0:Int)≤gm∧gm≤16)):=rfl
   cases hg:Qay gm with
   | false=>
    have HW:Hid (decide ((0:Int)≤gm∧gm≤16)=false):=hg;have HB1:Hid (E=3):=F2.out HP1.out (⟨#[]⟩,m.guest,m.root) List.mem_cons_self (by rw [H1.out.2.2];exact hg);clear hg;go_wp2_with (go_at_call 50;refine (QaN _ _ _ _).mono ?_;rintro e w' ⟨rfl,hw⟩;rw [hw];clear hw;rw [HW.out]);go_ret;exact⟨QaI HB1.out.symm,hbw⟩
   | true=>
    have HW:Hid (decide ((0:Int)≤gm∧gm≤16)=true):=hg;have HGm:Hid (Qay gm=true):=hg;clear hg;go_wp2_with (go_at_call 50;refine (QaN _ _ _ _).mono ?_;rintro e w' ⟨rfl,hw⟩;rw [hw];clear hw;rw [HW.out])
    go_loopw [4] (fun i wq=>∃q:Nat,q≤k∧i=.int .i64 q∧Hid (∀j,(h:j<m.snaps.length)→j<q→Qay m.snaps[j].2.1=true)∧wq=wr) (fun i _=>k - (intOf i).toNat)
    case atStart=>exact⟨0,Nat.zero_le _,rfl,fun j _ hj=>absurd hj (by omega),rfl⟩
    case round=>
     obtain⟨q,hq,rfl,HA,hw⟩:=hrel;subst hw
     by_cases hlk:q<k
     ·have hqm:q<m.snaps.length:=by rw [H1.out.2.1];exact hlk
      obtain⟨b,off,rfl,hlt,hS⟩:=H3.out q hqm;obtain⟨s,hs⟩:∃s,s=m.snaps[q]:=⟨_,rfl⟩;obtain⟨nm,gg,rr⟩:=s;rw [←hs] at hS;obtain⟨rv,s1,s2,s3,hsl⟩:=hS;have s2:wr.cell? ⟨b,off+q*3+1,none⟩=some (.int .i64 gg):=(hbw.cell (p:=⟨b,off+q*3+1,none⟩) hlt).trans s2;have hqi:(q:Int)<(k:Int):=by omega
      have HS:Hid (m.snaps[q]=(nm,gg,rr)):=hs.symm;clear hs hsl s1 s3
      cases hg:Qay gg with
      | false=>
       have HV:Hid (decide ((0:Int)≤gg∧gg≤16)=false):=hg;have HB1:Hid (E=3):=F2.out HP1.out (nm,gg,rr) (List.mem_cons_of_mem _ (by rw [←HS.out];exact List.getElem_mem hqm)) hg;clear hg;go_wp2_with (go_at_call 50;refine (QaN _ _ _ _).mono ?_;rintro e w' ⟨rfl,hw⟩;rw [hw];clear hw;rw [HV.out]);go_ret;exact⟨QaI HB1.out.symm,hbw⟩
      | true=>
       have HV:Hid (decide ((0:Int)≤gg∧gg≤16)=true):=hg;have HG1:Hid (Qay gg=true):=hg;clear hg;go_wp2_with (go_at_call 50;refine (QaN _ _ _ _).mono ?_;rintro e w' ⟨rfl,hw⟩;rw [hw];clear hw;rw [HV.out]);go_roundw
       case rel=>exact⟨q+1,by omega,by go_num,fun j hj hj1=>by
        by_cases e:j=q
        ·subst e;rw [HS.out];exact HG1.out
        ·exact HA.out j hj (by omega),trivial⟩
       case measure=>simp [intOf];omega
     ·have HG:Hid ((Qax m).all (fun s=>Qay s.2.1)=true):=by
       show _=_
       unfold Qax;rw [List.all_cons,H1.out.2.2,HGm.out,Bool.true_and,List.all_eq_true];intro s hs;obtain⟨j,hj,rfl⟩:=List.getElem_of_mem hs;exact HA.out j hj (by rw [H1.out.2.1] at hj;omega)
      have e4:q=k:=by omega
      subst e4;clear HA F2 HG0;go_wp2_with fail;obtain⟨wa,hrn⟩:∃X,X=wr:=⟨_,rfl⟩;subst hrn
      go_loopw [5,6,7] (fun i _ _ wq=>∃n:Nat,n≤fn∧i=.int .i64 n∧Hid (∀j,(h:j<m.slots.length)→j<n→m.slots[j].2.2.all (entP m.slots)=true)∧Below wa.heap.size wa wq) (fun i _ _ _=>fn - (intOf i).toNat)
      case atStart=>exact⟨0,Nat.zero_le _,rfl,fun j _ hj=>absurd hj (by omega),Below.refl _ _⟩
      case round=>
       obtain⟨n,hn,rfl,HA,hbq⟩:=hrel;obtain⟨wq,hrn⟩:∃X,X=wr:=⟨_,rfl⟩;subst hrn;have hszr:w.heap.size<wa.heap.size:=(szH mr);have mq:=Qab mr hbq hszr;have hbwq:=Below.on hbw hbq;clear c0 c1 c2 c3 c4;obtain⟨c0,c1,c2,c3,c4⟩:=five mq
       by_cases hln:n<fn
       ·have hnm:n<m.slots.length:=by rw [H1.out.1];exact hln
        have hni:(n:Int)<(fn:Int):=by omega
        obtain⟨s,hs⟩:∃s,s=m.slots[n]:=⟨_,rfl⟩;obtain⟨kk,dd,tt⟩:=s;have hS:=H2.out n hnm;rw [←hs] at hS;obtain⟨tv,s1,s2,s3,hsl⟩:=hS;obtain⟨ta,tc,rfl⟩:=hsl.form;have ht4:tt.length≤4:=by
         have:=tab4 H4.out n;unfold Qaz at this
         simpa [List.getD,hnm,← hs] using this
        have s3:wq.cell? ⟨sb,so+n*3+2,none⟩=some (.slice ta tt.length tc):=(hbwq.cell (p:=⟨sb,so+n*3+2,none⟩) hsb).trans s3;have HS:Hid (m.slots[n]=(kk,dd,tt)):=hs.symm;have HTc:Hid (∀j,j<tt.length→∃b off,ta=some ⟨b,off,none⟩∧b<w.heap.size∧w.cell? ⟨b,off+j,none⟩=some (.int .i64 (tt.getD j 0))):=hsl.cells.2.2.2;have F3n:Hid (∀i,i<tt.length→entP m.slots (tt.getD i 0)=false→E=1):=fun i hi he=>F3.out HP1.out HG.out n hnm i (by rw [HS.out];exact hi) (by rw [HS.out];exact he)
        obtain⟨tn,htn⟩:∃tn,tt.length=tn:=⟨_,rfl⟩;have HTn:Hid (tt.length=tn):=htn;rw [htn] at s3 ht4 HTc F3n;clear hs hsl s1 s2 htn;go_wp2_with fail
        go_loopw [7] (fun i wp=>∃u:Nat,u≤tn∧i=.int .i64 u∧Hid (∀j,j<u→entP m.slots (tt.getD j 0)=true)∧Below wq.heap.size wq wp) (fun i _=>tn - (intOf i).toNat)
        case atStart=>exact⟨0,Nat.zero_le _,rfl,fun j hj=>absurd hj (by omega),Below.refl _ _⟩
        case round=>
         obtain⟨u,hu,rfl,HI,hbp⟩:=hrel;obtain⟨wp,hrn⟩:∃X,X=wr:=⟨_,rfl⟩;subst hrn;have hszq:w.heap.size<wq.heap.size:=(szH mq);have mp:=Qab mq hbp hszq;have hbwp:=Below.on hbwq hbp;clear c0 c1 c2 c3 c4;obtain⟨c0,c1,c2,c3,c4⟩:=five mp
         by_cases hun:u<tn
         ·obtain⟨b,off,rfl,hlt,hcx⟩:=HTc.out u hun;have hui:(u:Int)<(tn:Int):=by omega
          obtain⟨x,hx⟩:∃x,tt.getD u 0=x:=⟨_,rfl⟩;rw [hx] at hcx;have HX:Hid (tt.getD u 0=x):=hx;have cx:wp.cell? ⟨b,off+u,none⟩=some (.int .i64 x):=(hbwp.cell (p:=⟨b,off+u,none⟩) hlt).trans hcx;have hbwr:b<wp.heap.size:=Nat.lt_of_lt_of_le hlt hbwp.size;have hszp:w.heap.size<wp.heap.size:=(szH mp);clear hx hcx
          by_cases hx0:0<x
          ·obtain⟨K,hK⟩:∃K,Qfg m.slots x=K:=⟨_,rfl⟩;have hcall:=fun W (hW:Below w.heap.size w W)=>Qhf (H6.out.below hW) (by rw [H1.out.1];omega) x hK
           have HK:Hid (Qfg m.slots x=K):=hK;clear hK
           cases hK1:K != 1 with
           | true=>
            have HB1:Hid (E=1):=F3n.out u hun (by rw [HX.out];unfold entP;rw [HK.out,hK1,decide_eq_true hx0];rfl);go_wp2_with fail
            go_region_held3 (fun w'=>w'.cell? ⟨w.heap.size,0,none⟩=some (.int .i64 gm)∧w'.cell? ⟨w.heap.size,0+1,none⟩=some (.slice ra rn rc)∧w'.cell? ⟨w.heap.size,0+1+1,none⟩=some (.slice (some ⟨sb,so,none⟩) fn sc)∧w'.cell? ⟨w.heap.size,0+1+1+1,none⟩=some (.slice fa fn fc)∧w'.cell? ⟨w.heap.size,0+1+1+1+1,none⟩=some (.slice na q nc)∧w'.cell? ⟨b,off+u,none⟩=some (.int .i64 x)) (first | exact⟨c0,c1,c2,c3,c4,cx⟩ | exact⟨d0,d1,d2,d3,d4,e1⟩)
             (first | (go_at_call 52;refine (hcall _ (Qaw hbwp)).mono ?_;rintro e w2 ⟨rfl,b2⟩;have b2:=Qat b2;have m2:=Qab mp b2 hszp;obtain⟨d0,d1,d2,d3,d4⟩:=five m2;have e1:=(b2.cell (p:=⟨b,off+u,none⟩) hbwr).trans cx))
            go_wp2_with fail;go_ret;exact⟨QaI HB1.out.symm,Below.on hbwp b2⟩
           | false=>
            have HOK:Hid (entP m.slots x=true):=by show _=_;unfold entP;rw [HK.out,hK1];simp
            go_wp2_with fail
            go_region_held3 (fun w'=>w'.cell? ⟨w.heap.size,0,none⟩=some (.int .i64 gm)∧w'.cell? ⟨w.heap.size,0+1,none⟩=some (.slice ra rn rc)∧w'.cell? ⟨w.heap.size,0+1+1,none⟩=some (.slice (some ⟨sb,so,none⟩) fn sc)∧w'.cell? ⟨w.heap.size,0+1+1+1,none⟩=some (.slice fa fn fc)∧w'.cell? ⟨w.heap.size,0+1+1+1+1,none⟩=some (.slice na q nc)∧w'.cell? ⟨b,off+u,none⟩=some (.int .i64 x)) (first | exact⟨c0,c1,c2,c3,c4,cx⟩ | exact⟨d0,d1,d2,d3,d4,e1⟩)
             (first | (go_at_call 52;refine (hcall _ (Qaw hbwp)).mono ?_;rintro e w2 ⟨rfl,b2⟩;have b2:=Qat b2;have m2:=Qab mp b2 hszp;obtain⟨d0,d1,d2,d3,d4⟩:=five m2;have e1:=(b2.cell (p:=⟨b,off+u,none⟩) hbwr).trans cx))
            go_wp2_with fail;go_roundw
            case rel=>exact⟨u+1,by omega,by go_num,fun j hj=>by
             by_cases e:j=u
             ·subst e;rw [HX.out];exact HOK.out
             ·exact HI.out j (by omega),Below.on hbp b2⟩
            case measure=>simp [intOf];omega
          ·have hx1:x≤0:=by omega
           have hxd:decide (0<x)=false:=decide_eq_false hx0;have HOK:Hid (entP m.slots x=true):=by show _=_;unfold entP;rw [decide_eq_false hx0];rfl
           go_wp2_with fail
           go_quiet (fail)
           go_wp2_with fail;go_roundw
           case rel=>exact⟨u+1,by omega,by go_num,fun j hj=>by
            by_cases e:j=u
            ·subst e;rw [HX.out];exact HOK.out
            ·exact HI.out j (by omega),⟨hbp.os,hbp.tape,hbp.output,hbp.size,hbp.block⟩⟩
           case measure=>simp [intOf];omega
         ·have e5:u=tn:=by omega
          subst e5;go_wp2_with fail;go_roundw
          case rel=>exact⟨n+1,by omega,by go_num,fun j hj hj1=>by
           by_cases e:j=n
           ·subst e;rw [HS.out,List.all_eq_true];intro y hy;obtain⟨i,hi,rfl⟩:=List.getElem_of_mem hy;have:=HI.out i (by rw [←HTn.out];exact hi)
            simpa [List.getD,hi] using this
           ·exact HA.out j hj (by omega),Below.on hbq hbp⟩
          case measure=>simp [intOf];omega
       ·have HT:Hid (QaW m.slots=true):=by
         show _=_
         rw [←Qjt H4.out,List.all_eq_true];intro s hs;obtain⟨j,hj,rfl⟩:=List.getElem_of_mem hs;exact HA.out j hj (by rw [H1.out.1] at hj;omega)
        have e5:n=fn:=by omega
        clear HA F3;have hcall:=Qfq (H6.out.below hbwq) H4.out HGm.out (H7.out.below hbwq) (rfl:Qas m.slots gm m.root=_)
        cases hrt:Qas m.slots gm m.root with
        | false=>
         rw [hrt] at hcall;have HB1:Hid (E=1):=F4.out HP1.out HG.out HT.out (⟨#[]⟩,m.guest,m.root) List.mem_cons_self (by rw [H1.out.2.2];exact hrt);clear hrt;subst e5;go_wp2_with (go_at_call 53;refine hcall.mono ?_;rintro e w2 ⟨rfl,b2⟩);go_ret;exact⟨QaI HB1.out.symm,Below.on hbwq b2⟩
        | true=>
         rw [hrt] at hcall;have HR0:Hid (Qas m.slots gm m.root=true):=hrt;clear hrt;subst e5;go_wp2_with (go_at_call 53;refine hcall.mono ?_;rintro e w2 ⟨rfl,b2⟩);have hszq:w.heap.size<wq.heap.size:=(szH mq);have m2:=Qab mq b2 hszq;have hbw2:=Below.on hbwq b2;clear hcall
         go_loopw [8] (fun i wp=>∃u:Nat,u≤q∧i=.int .i64 u∧Hid (∀j,(h:j<m.snaps.length)→j<u→Qas m.slots m.snaps[j].2.1 m.snaps[j].2.2=true)∧Below w2.heap.size w2 wp) (fun i _=>q - (intOf i).toNat)
         case atStart=>exact⟨0,Nat.zero_le _,rfl,fun j _ hj=>absurd hj (by omega),Below.refl _ _⟩
         case round=>
          obtain⟨u,hu,rfl,HA,hbp⟩:=hrel;obtain⟨wp,hrn⟩:∃X,X=wr:=⟨_,rfl⟩;subst hrn;have hsz2:w.heap.size<w2.heap.size:=(szH m2);have mp:=Qab m2 hbp hsz2;have hbwp:=Below.on hbw2 hbp;clear c0 c1 c2 c3 c4;obtain⟨c0,c1,c2,c3,c4⟩:=five mp;have hszp:w.heap.size<wp.heap.size:=(szH mp)
          by_cases hlu:u<q
          ·have hum:u<m.snaps.length:=by rw [H1.out.2.1];exact hlu
           obtain⟨b,off,rfl,hlt,hS⟩:=H3.out u hum;obtain⟨s,hs⟩:∃s,s=m.snaps[u]:=⟨_,rfl⟩;obtain⟨nm,gg,rr⟩:=s;rw [←hs] at hS;obtain⟨rv,s1,s2,s3,hsl⟩:=hS;have hmem:(nm,gg,rr) ∈ Qax m:=List.mem_cons_of_mem _ (by rw [hs];exact List.getElem_mem hum);have hgg:Qay gg=true:=List.all_eq_true.1 HG.out _ hmem;have hbwr:b<wp.heap.size:=Nat.lt_of_lt_of_le hlt hbwp.size;have s2:wp.cell? ⟨b,off+u*3+1,none⟩=some (.int .i64 gg):=(hbwp.cell (p:=⟨b,off+u*3+1,none⟩) hlt).trans s2;have s3:wp.cell? ⟨b,off+u*3+2,none⟩=some rv:=(hbwp.cell (p:=⟨b,off+u*3+2,none⟩) hlt).trans s3;obtain⟨va,vc,rfl⟩:=hsl.form;have hui:(u:Int)<(q:Int):=by omega
           obtain⟨B,hB⟩:∃B,Qas m.slots gg rr=B:=⟨_,rfl⟩;have hcall:=fun W (hW:Below w.heap.size w W)=>Qfq (H6.out.below hW) H4.out hgg (hsl.below hW) hB
           have HS:Hid (m.snaps[u]=(nm,gg,rr)∧Qas m.slots gg rr=B∧(nm,gg,rr) ∈ Qax m):=⟨hs.symm,hB,hmem⟩;clear hs hsl s1 hB hgg hmem;go_wp2_with fail
           go_region_held3 (fun w'=>w'.cell? ⟨w.heap.size,0,none⟩=some (.int .i64 gm)∧w'.cell? ⟨w.heap.size,0+1,none⟩=some (.slice ra rn rc)∧w'.cell? ⟨w.heap.size,0+1+1,none⟩=some (.slice (some ⟨sb,so,none⟩) n sc)∧w'.cell? ⟨w.heap.size,0+1+1+1,none⟩=some (.slice fa n fc)∧w'.cell? ⟨w.heap.size,0+1+1+1+1,none⟩=some (.slice (some ⟨b,off,none⟩) q nc)∧w'.cell? ⟨b,off+u*3+1,none⟩=some (.int .i64 gg)∧w'.cell? ⟨b,off+u*3+2,none⟩=some (.slice va rr.length vc)) (first | exact⟨c0,c1,c2,c3,c4,s2,s3⟩ | exact⟨d0,d1,d2,d3,d4,e1,e2⟩)
            (first | (go_at_call 53;refine (hcall _ (Qaw hbwp)).mono ?_;rintro e w3 ⟨rfl,b3⟩;have b3:=Qat b3;have m3:=Qab mp b3 hszp;obtain⟨d0,d1,d2,d3,d4⟩:=five m3;have e1:=(b3.cell (p:=⟨b,off+u*3+1,none⟩) hbwr).trans s2;have e2:=(b3.cell (p:=⟨b,off+u*3+2,none⟩) hbwr).trans s3))
           cases B with
           | false=>
            have HB1:Hid (E=1):=F4.out HP1.out HG.out HT.out _ HS.out.2.2 HS.out.2.1;go_wp2_with fail;go_ret;exact⟨QaI HB1.out.symm,Below.on hbwp b3⟩
           | true=>
            go_wp2_with fail;go_roundw
            case rel=>exact⟨u+1,by omega,by go_num,fun j hj hj1=>by
             by_cases e:j=u
             ·subst e;rw [HS.out.1];exact HS.out.2.1
             ·exact HA.out j hj (by omega),Below.on hbp b3⟩
            case measure=>simp [intOf];omega
          ·have HR:Hid ((Qax m).all (fun s=>Qas m.slots s.2.1 s.2.2)=true):=by
            show _=_
            unfold Qax;rw [List.all_cons,H1.out.2.2,HR0.out,Bool.true_and,List.all_eq_true];intro s hs;obtain⟨j,hj,rfl⟩:=List.getElem_of_mem hs;exact HA.out j hj (by rw [H1.out.2.1] at hj;omega)
           have HB1:Hid (E=0):=F5.out HP1.out HG.out HT.out HR.out;have e6:u=q:=by omega
           subst e6;go_wp2_with fail;go_ret;exact⟨QaI HB1.out.symm,hbwp⟩
theorem QbL.at {w:World}{sa:Option Addr}{n sc:Nat}{L:List Qav}(h:QbL w (.slice sa n sc) L):∀j,(h:j<L.length)→∃sb so,sa=some ⟨sb,so,none⟩∧sb<w.heap.size∧SnAt w sb (so+j*3) L[j]:=by
 intro j hj;obtain⟨sb,so,sc',e,_,hsb,hcl⟩:=h.open (by omega);simp at e
 exact⟨sb,so,e.1,hsb,hcl j hj⟩
theorem Qf2 {w:World}{v:Value}{m:ImgD}(h:Img w v m){E:Int}(hE:Qao m=E) :
  Calls Tryz.prog 16 #[v] w fun r w'=>r=.returned (.int .i64 E)∧Below w.heap.size w w':=by
 have h':=h;obtain⟨ra,rc,sa,sc,fa,fc,na,nc,rfl,h1,h2,h3,h4⟩:=h.parts
 by_cases hm:decide ((1:Int)≤(m.slots.length:Int)∧(m.slots.length:Int)≤40)=false∨3<m.snaps.length
 ·have e2:E=2:=by
   rw [←hE];unfold Qao
   by_cases h3:3<m.snaps.length
   ·rw [if_pos h3]
   ·have hd:=hm.resolve_right h3;have:Qap m.slots=2:=by
     unfold Qap;rw [if_neg];intro hh;rw [decide_eq_true (by omega)] at hd;cases hd
    rw [if_neg h3,this,if_pos (by decide)]
  subst e2;exact Qhq m.guest ra _ rc sa _ sc fa _ fc na _ nc w hm h4.small
 ·have hd:decide ((1:Int)≤(m.slots.length:Int)∧(m.slots.length:Int)≤40)=true:=by
   cases e:decide ((1:Int)≤(m.slots.length:Int)∧(m.slots.length:Int)≤40) with
   | true=>rfl
   | false=>exact absurd (.inl e) hm
  have h3':m.snaps.length≤3:=by
   rcases Nat.lt_or_ge 3 m.snaps.length with h | h
   ·exact absurd (.inr h) hm
   ·exact h
  by_cases hor:Qap m.slots≠0∨m.refs.length≠m.slots.length
  ·have e1:E=1:=by
    rw [←hE];unfold Qao;rw [if_neg (by omega)]
    by_cases hs:Qap m.slots=0
    ·rw [if_neg (by simpa using hs),if_pos (.inl (hor.resolve_left (by simpa using hs)))]
    ·rw [if_pos hs];rcases QjW m.slots with h | h | h
     ·exact absurd h hs
     ·exact h
     ·exfalso
      unfold Qap at h;simp only [decide_eq_true_eq] at hd;rw [if_pos (by omega)] at h
      split at h <;> simp at h
   subst e1;exact Qg6 m.guest ra _ rc sa _ sc fa _ fc na _ nc m.slots _ w hd h3' h2 rfl h3.small hor
  ·have hs:Qap m.slots=0:=Classical.byContradiction fun e=>hor (.inl e)
   have hr:m.refs.length=m.slots.length:=Classical.byContradiction fun e=>hor (.inr e)
   have hp:=Qah hs;obtain⟨sb,so,sc',e,hcp,hlt,hcell⟩:=h2.open hp.1;simp at e
   obtain⟨rfl,rfl⟩:=e;exact QkA m.guest ra _ rc sb so _ sc fa _ fc na _ nc m E w h' rfl rfl rfl h3' hr hlt hcell hs h1 h4.at hE hr

def rl (n:Nat) (f:Nat→Int):List Int:=(List.range n).map f
theorem QeW (n:Nat)(f:Nat→Int):(rl n f).length=n:=by simp [rl]
theorem Qn4 {n:Nat}{f:Nat→Int}{j:Nat}(h:j<n):(rl n f).getD j 0=f j:=by simp [rl,List.getD,h]
theorem Qn7 {n k:Nat}{f g:Nat→Int}{x:Int}(hx:g k=x)(h:∀j,j<n→j≠k→g j=f j):(rl n f).set k x=rl n g:=by
 subst hx
 apply List.ext_getElem
 ·simp [rl]
 ·intro j h1 h2;have hj:j<n:=by simpa [rl] using h2
  rw [List.getElem_set]
  by_cases e:k=j
  ·subst e;simp [rl]
  ·rw [if_neg e];simp [rl];exact (h j hj (fun x=>e x.symm)).symm
theorem Qca {n:Nat}{f g:Nat→Int}(h:∀j,j<n→f j=g j):rl n f=rl n g:=List.map_congr_left fun j hj=>h j (List.mem_range.1 hj)
theorem QkG {l:List Int}{n:Nat}(h:l.length=n):l=rl n (fun j=>l.getD j 0):=by
 subst h
 apply List.ext_getElem
 ·simp [rl]
 ·intro j h1 h2;simp [rl,List.getD,h1]
def f1 (P:List Int) (k j:Nat):Int:=if 1≤j∧j<k then ((P.count (j:Int):Nat):Int) else 0
def g1 (P:List Int) (j:Nat):Int:=if 1≤j then ((P.count (j:Int):Nat):Int) else 0
def g2 (L:List Qag) (P:List Int) (n j:Nat):Int:=if 1≤j∧j<n∧kd L j=1 then ((sumT L P j:Nat):Int) else 0
def f2 (L:List Qag) (P:List Int) (n j:Nat):Int:=g1 P j+g2 L P n j
theorem QjD {P:List Int}{j:Nat}(h:1≤j):g1 P j=((P.count (j:Int):Nat):Int):=by unfold g1;rw [if_pos h]
theorem Qjf {L:List Qag}{P:List Int}{n j:Nat}(h:1≤j∧j<n∧kd L j=1):g2 L P n j=((sumT L P j:Nat):Int):=by unfold g2;rw [if_pos h]
theorem QiO {L:List Qag}{P:List Int}{n j:Nat}(h:¬(1≤j∧j<n∧kd L j=1)):g2 L P n j=0:=by unfold g2;rw [if_neg h]
theorem Qmv {L:List Qag}{P:List Int}{n j:Nat}(h:j≠n∨kd L n≠1):g2 L P n j=g2 L P (n+1) j:=by
 by_cases c:1≤j∧j<n∧kd L j=1
 ·rw [Qjf c,Qjf ⟨c.1,by omega,c.2.2⟩]
 ·rw [QiO c,QiO];rintro ⟨d1,d2,d3⟩;refine c ⟨d1,?_,d3⟩;rcases Nat.lt_or_ge j n with h' | h'
  ·exact h'
  ·have:j=n:=by omega
   subst this;rcases h with h | h
   ·exact absurd rfl h
   ·exact absurd d3 h
def sT (L:List Qag) (P:List Int) (n k:Nat):Nat:=((List.range k).map (QbI L P n)).sum
def f3 (L:List Qag) (P:List Int) (n k j:Nat):Int:=if j=n then ((P.count (n:Int)+sT L P n k:Nat):Int) else f2 L P n j
theorem QgU (L:List Qag)(P:List Int)(n k:Nat):sT L P n (k+1)=sT L P n k+QbI L P n k:=by
 unfold sT;rw [List.range_succ,List.map_append,List.sum_append];simp
theorem Qpx {L:List Qag}(hs:Qap L=0)(P:List Int)(n:Nat):sT L P n 1=0:=by
 rw [QgU];unfold sT QbI;rw [if_neg (by rw [Qcs hs];simp)];rfl
theorem QpE {L:List Qag}(h:Qap L=0)(P:List Int)(n:Nat):∀k,sT L P n k≤4*k
 | 0=>Nat.le_refl _
 | k+1=>by
  rw [QgU];have:=QpE h P n k;have:QbI L P n k≤4:=by
   unfold QbI
   split
   ·exact Nat.le_trans List.count_le_length (tab4 h k)
   ·omega
  omega
theorem Qmg {L:List Qag}{P:List Int}{n q:Nat}(sn:Nat)(h:QbI L P n q=0):rl sn (f3 L P n q)=rl sn (f3 L P n (q+1)):=Qca fun j _=>by
 unfold f3;rw [QgU,h];rfl
theorem QmH {g:Nat}{A B:World}(h:Only g A B):Only g A B.drew:=⟨h.os,h.tape,h.output,h.size,h.block⟩
theorem f12 (L:List Qag)(P:List Int)(sn:Nat):rl sn (f1 P sn)=rl sn (f2 L P 1):=Qca fun j hj=>by
 unfold f1 f2;rw [QiO (by omega)];unfold g1
 by_cases h:1≤j
 ·rw [if_pos ⟨h,hj⟩,if_pos h];simp
 ·rw [if_neg (by omega),if_neg h];rfl
theorem f23 {L:List Qag}(hs:Qap L=0)(P:List Int)(sn n:Nat)(hn:1≤n):rl sn (f2 L P n)=rl sn (f3 L P n 1):=Qca fun j _=>by
 unfold f3
 by_cases e:j=n
 ·subst e;rw [if_pos rfl,Qpx hs];unfold f2;rw [QjD hn,QiO (by omega)];simp
 ·rw [if_neg e]
theorem f32 {L:List Qag}(P:List Int)(n:Nat)(hn:1≤n)(hk:kd L n=1):rl L.length (f3 L P n L.length)=rl L.length (f2 L P (n+1)):=Qca fun j _=>by
 unfold f3
 by_cases e:j=n
 ·subst e;rw [if_pos rfl];unfold f2;rw [QjD hn,Qjf ⟨hn,by omega,hk⟩];unfold sT sumT;omega
 ·rw [if_neg e];unfold f2;rw [Qmv (.inl e)]
theorem f22 {L:List Qag}(P:List Int)(sn n:Nat)(hk:kd L n≠1):rl sn (f2 L P n)=rl sn (f2 L P (n+1)):=Qca fun j _=>by
 unfold f2;rw [Qmv (.inr hk)]
theorem QpH {m:ImgD}(h:Qao m=0):rl m.slots.length (f2 m.slots (QaC m) m.slots.length)=cntL m:=by
 rw [QkG (QaU m)];refine Qca fun j hj=>?_
 rw [Qbr h j hj];obtain⟨z1,z2,z3,z4,z5,z6,z7⟩:=Qad h;unfold f2 cntI
 by_cases h1:1≤j
 ·rw [QjD h1,if_neg (by omega)]
  by_cases hk:kd m.slots j=1
  ·rw [Qjf ⟨h1,hj,hk⟩];omega
  ·rw [QiO (fun d=>hk d.2.2),QgE z6 _ h1 hk];omega
 ·rw [QiO (by omega),if_pos (by omega)];unfold g1;rw [if_neg h1];rfl
theorem QkW (m:ImgD)(q:Nat)(hq:q<m.snaps.length):(m.root ++ (m.snaps.take (q+1)).flatMap (fun s=>s.2.2))=(m.root ++ (m.snaps.take q).flatMap (fun s=>s.2.2)) ++ m.snaps[q].2.2:=by
 rw [List.take_add_one,List.getElem?_eq_getElem hq,Option.toList_some,List.flatMap_append,List.append_assoc];simp
theorem QmL (m:ImgD):m.root ++ (m.snaps.take m.snaps.length).flatMap (fun s=>s.2.2)=QaC m:=by
 rw [List.take_length];rfl
theorem Qpl {m:ImgD}(h:Qao m=0):∀s ∈ Qax m,s.2.2.length≤4:=fun s hs=>by
 obtain⟨z1,z2,z3,z4,z5,z6,z7⟩:=Qad h;have h1:=List.all_eq_true.1 z7 s hs;have h2:=List.all_eq_true.1 z5 s hs;unfold Qas at h1;unfold Qay at h2;simp only [Bool.and_eq_true,decide_eq_true_eq] at h1 h2;omega
set_option linter.unusedSimpArgs false in
theorem QiG (gm:Int)(ra:Option Addr)(rn rc:Nat)(sb so:Nat)(sn sc:Nat)(fa:Option Addr)(fn fc:Nat)(na:Option Addr)(nn nc:Nat)(m:ImgD)(w:World)
  (hsn:m.slots.length=sn) (hnn:m.snaps.length=nn) (hsb:sb<w.heap.size) (hcl:∀j,(h:j<m.slots.length)→SlAt w sb (so+j*3) m.slots[j])
  (hr:Sl w (.slice ra rn rc) m.root) (hna:∀j,(h:j<m.snaps.length)→∃b off,na=some ⟨b,off,none⟩∧b<w.heap.size∧SnAt w b (off+j*3) m.snaps[j])
  (hE:Qao m=0) :
  Calls Tryz.prog 17 #[.agg #[.int .i64 gm,.slice ra rn rc,.slice (some ⟨sb,so,none⟩) sn sc,.slice fa fn fc,.slice na nn nc]] w fun r w'=>(r=.returned (.slice (some ⟨w.heap.size+1,0,none⟩) sn sn)∧LAt w' (w.heap.size+1) (cntL m))∧Below w.heap.size w w':=by
 have b0:Below w.heap.size w (w.alloc (.cells #[.int .i64 gm,.slice ra rn rc,.slice (some ⟨sb,so,none⟩) sn sc,.slice fa fn fc,.slice na nn nc] 26)):=bA;have m0:(w.alloc (.cells #[.int .i64 gm,.slice ra rn rc,.slice (some ⟨sb,so,none⟩) sn sc,.slice fa fn fc,.slice na nn nc] 26)).heap[w.heap.size]? = some (.cells #[.int .i64 gm,.slice ra rn rc,.slice (some ⟨sb,so,none⟩) sn sc,.slice fa fn fc,.slice na nn nc] 26):=zHn _ _;obtain⟨z1,z2,z3,z4,z5,z6,z7⟩:=Qad hE;have h40:sn≤40:=by rw [←hsn];exact (Qah z2).2
 have h1s:1≤sn:=by rw [←hsn];exact (Qah z2).1
 have hn3:nn≤3:=by rw [←hnn];exact z1
 have hmk:=Qe6 sn h40;have m1:=Qac m0 (.cells (Array.replicate sn (.int .i64 0)) 3);have b1:Below w.heap.size w ((w.alloc (.cells #[.int .i64 gm,.slice ra rn rc,.slice (some ⟨sb,so,none⟩) sn sc,.slice fa fn fc,.slice na nn nc] 26)).alloc (.cells (Array.replicate sn (.int .i64 0)) 3)):=b0.alloc b0.size _;have l1:LAt ((w.alloc (.cells #[.int .i64 gm,.slice ra rn rc,.slice (some ⟨sb,so,none⟩) sn sc,.slice fa fn fc,.slice na nn nc] 26)).alloc (.cells (Array.replicate sn (.int .i64 0)) 3)) (w.heap.size+1) (rl sn (f1 (QaC m) 1)):=by
  have:=World.alloc_heap_new (w.alloc (.cells #[.int .i64 gm,.slice ra rn rc,.slice (some ⟨sb,so,none⟩) sn sc,.slice fa fn fc,.slice na nn nc] 26)) (.cells (Array.replicate sn (.int .i64 0)) 3)
  show _=_
  have e:rl sn (f1 (QaC m) 1)=List.replicate sn 0:=by
   rw [QkG (l:=List.replicate sn 0) (n:=sn) (by simp)];exact Qca fun j hj=>by unfold f1;rw [if_neg (by omega)];simp [List.getD,hj]
  rw [e]
  simpa using this
 have H1:Hid (m.slots.length=sn∧m.snaps.length=nn):=⟨hsn,hnn⟩;have H2:Hid (∀j,(h:j<m.slots.length)→SlAt w sb (so+j*3) m.slots[j]):=hcl;have H3:Hid (∀j,(h:j<m.snaps.length)→∃b off,na=some ⟨b,off,none⟩∧b<w.heap.size∧SnAt w b (off+j*3) m.snaps[j]):=hna;have H4:Hid (Qap m.slots=0∧QaW m.slots=true):=⟨z2,z6⟩;have H5:Hid (∀s ∈ Qax m,s.2.2.length≤4):=Qpl hE;have H6:Hid (Qao m=0):=hE;have H7:Hid (Sl w (.slice ra rn rc) m.root):=hr;clear z1 z2 z3 z4 z5 z6 z7 hsn hnn hcl hna hE hr
 go_enter Tryz.func17,Tryz.ntmps17
 go_wp2_with fail;obtain⟨W1,hW1⟩:∃W1,(w.alloc (.cells #[.int .i64 gm,.slice ra rn rc,.slice (some ⟨sb,so,none⟩) sn sc,.slice fa fn fc,.slice na nn nc] 26)).alloc (.cells (Array.replicate sn (.int .i64 0)) 3)=W1:=⟨_,rfl⟩;have hg0:(w.alloc (.cells #[.int .i64 gm,.slice ra rn rc,.slice (some ⟨sb,so,none⟩) sn sc,.slice fa fn fc,.slice na nn nc] 26)).heap.size=w.heap.size+1:=by simp
 have hzW:W1.heap.size=w.heap.size+1+1:=by rw [←hW1];simp
 have hz1:w.heap.size+1<W1.heap.size:=by omega
 rw [hW1] at m1 b1 l1 ⊢;clear hmk hzW hW1 m0 b0 hg0
 go_loopw [4,5,6] (fun i _ _ wq=>∃k:Nat,1≤k∧k≤sn∧i=.int .i64 k∧LAt wq (w.heap.size+1) (rl sn (f1 (QaC m) k))∧Only (w.heap.size+1) W1 wq) (fun i _ _ _=>sn - (intOf i).toNat)
 case atStart=>exact⟨1,by omega,by omega,rfl,l1,Only.refl _ _⟩
 case round=>
  obtain⟨k,hk1,hk,rfl,hL,hO⟩:=hrel;obtain⟨wa,hrn⟩:∃X,X=wr:=⟨_,rfl⟩;subst hrn;have mr:=hO.cellsAt (by omega) m1;obtain⟨c0,c1,c2,c3,c4⟩:=five mr;have hbw:Below w.heap.size w wa:=b1.trans (hO.below (by omega))
  by_cases hlk:k<sn
  ·have hki:(k:Int)<(sn:Int):=by omega
   have hrt:=H7.out.below hbw;have hcall:=Qiu hrt (by have:=H5.out (⟨#[]⟩,m.guest,m.root) List.mem_cons_self;simp at this;omega) (k:Int) (rfl:((m.root.count (k:Int):Nat):Int)=_);have hc4:m.root.count (k:Int)≤4:=by
    have h1:=H5.out (⟨#[]⟩,m.guest,m.root) List.mem_cons_self;have h2:m.root.count (k:Int)≤m.root.length:=List.count_le_length;simp at h1;omega
   obtain⟨u0,hu0⟩:∃u,m.root.count (k:Int)=u:=⟨_,rfl⟩;have HU0:Hid (m.root.count (k:Int)=u0):=hu0;rw [hu0] at hcall hc4;clear hrt hu0;go_wp2_with (go_at_call 54;refine hcall.mono ?_;rintro e w' ⟨rfl,hw⟩;rw [hw];clear hw)
   go_loopw [5,6] (fun c i wq=>∃q u:Nat,q≤nn∧u≤4+4*q∧i=.int .i64 q∧c=.int .i64 u∧Hid (u=(m.root ++ (m.snaps.take q).flatMap (fun s=>s.2.2)).count (k:Int))∧wq=wa) (fun _ i _=>nn - (intOf i).toNat)
   case atStart=>exact⟨0,u0,Nat.zero_le _,by omega,rfl,rfl,by show _=_;rw [←HU0.out];simp,rfl⟩
   case round=>
    obtain⟨q,u,hq,hu,rfl,rfl,HU,hw⟩:=hrel;subst hw;obtain⟨wb,hrn⟩:∃X,X=wr:=⟨_,rfl⟩;subst hrn
    by_cases hlq:q<nn
    ·have hqm:q<m.snaps.length:=by rw [H1.out.2];exact hlq
     obtain⟨b,off,rfl,hlt,hS⟩:=H3.out q hqm;obtain⟨s,hs⟩:∃s,s=m.snaps[q]:=⟨_,rfl⟩;obtain⟨nm,gg,rr⟩:=s;rw [←hs] at hS;obtain⟨rv,s1,s2,s3,hsl⟩:=hS;have hqi:(q:Int)<(nn:Int):=by omega
     have s3:wb.cell? ⟨b,off+q*3+2,none⟩=some rv:=(hbw.cell (p:=⟨b,off+q*3+2,none⟩) hlt).trans s3;obtain⟨va,vc,rfl⟩:=hsl.form;have hr4:rr.length≤4:=H5.out (nm,gg,rr) (List.mem_cons_of_mem _ (by rw [hs];exact List.getElem_mem hqm));have hslr:Sl w (.slice va rr.length vc) rr:=hsl;have hcall2:=Qiu (hslr.below hbw) (show rr.length≤1000000 by omega) (k:Int) (rfl:((rr.count (k:Int):Nat):Int)=_);have hv4:rr.count (k:Int)≤4:=Nat.le_trans List.count_le_length hr4;have HT:Hid ((m.root ++ (m.snaps.take (q+1)).flatMap (fun s=>s.2.2)).count (k:Int)=u+rr.count (k:Int)):=by
      show _=_
      rw [QkW m q hqm,List.count_append,← HU.out,← hs]
     obtain⟨v,hv⟩:∃v,rr.count (k:Int)=v:=⟨_,rfl⟩;rw [hv] at hcall2 hv4 HT;clear hs hsl hslr s1 s2 hv hcall;go_wp2_with (go_at_call 54;refine hcall2.mono ?_;rintro e w' ⟨rfl,hw⟩;rw [hw];clear hw);go_roundw
     case rel=>exact⟨q+1,u+v,by omega,by omega,by go_num,by go_num,by show _=_;rw [HT.out],trivial⟩
     case measure=>simp [intOf];omega
    ·have HE:Hid (u=(QaC m).count (k:Int)):=by
      show _=_
      rw [HU.out,← QmL,H1.out.2];have e:q=nn:=by omega
      rw [e]
     have e5:q=nn:=by omega
     subst e5;have hcx:wb.cell? ⟨w.heap.size+1,k,none⟩=some (.int .i64 ((rl sn (f1 (QaC m) k)).getD k 0)):=hL.cell (by rw [QeW];exact hlk);have hfx:=hL.frozen k;clear hcall;go_wp2_with fail;go_roundw
     case rel=>exact⟨k+1,by omega,by omega,by go_num,by
      have:=hL.set k (u:Int)
      rwa [Qn7 (g:=f1 (QaC m) (k+1)) (by unfold f1;rw [if_pos ⟨hk1,by omega⟩,← HE.out]) (fun j _ hj=>by
       unfold f1
       by_cases c:1≤j∧j<k
       ·rw [if_pos ⟨c.1,by omega⟩,if_pos c]
       ·rw [if_neg (fun d=>c ⟨d.1,by omega⟩),if_neg c])] at this,hO.trans (Only.set _ _ _ _)⟩
     case measure=>simp [intOf];omega
  ·have e5:k=sn:=by omega
   subst e5;rw [f12 m.slots] at hL;go_wp2_with fail
   go_loopw [7,8] (fun i _ wq=>∃n:Nat,1≤n∧n≤k∧i=.int .i64 n∧LAt wq (w.heap.size+1) (rl k (f2 m.slots (QaC m) n))∧Only (w.heap.size+1) W1 wq) (fun i _ _=>k - (intOf i).toNat)
   case atStart=>exact⟨1,by omega,by omega,rfl,hL,hO⟩
   case round=>
    clear hL hO mr c0 c1 c2 c3 c4 hbw;obtain⟨n,hn1,hn,rfl,hL,hO⟩:=hrel;obtain⟨wc,hrn⟩:∃X,X=wr:=⟨_,rfl⟩;subst hrn;have mr:=hO.cellsAt (by omega) m1;obtain⟨c0,c1,c2,c3,c4⟩:=five mr;have hbw:Below w.heap.size w wc:=b1.trans (hO.below (by omega))
    by_cases hln:n<k
    ·have hni:(n:Int)<(k:Int):=by omega
     have hnm:n<m.slots.length:=by rw [H1.out.1];exact hln
     obtain⟨tv,s1,_,_,_⟩:=H2.out n hnm;have ekd:m.slots[n].1=kd m.slots n:=by unfold kd;simp [List.getD,hnm]
     rw [ekd] at s1;obtain⟨K,hK⟩:∃K,kd m.slots n=K:=⟨_,rfl⟩;rw [hK] at s1;have s1:wc.cell? ⟨sb,so+n*3,none⟩=some (.int .i64 K):=(hbw.cell (p:=⟨sb,so+n*3,none⟩) hsb).trans s1;have HK:Hid (kd m.slots n=K):=hK;clear hK ekd
     by_cases hK1:K=1
     ·have hKb:(K != 1)=false:=by simp [hK1]
      have HK1:Hid (K=1):=hK1;clear hK1;rw [f23 H4.out.1 _ _ _ hn1] at hL;go_wp2_with fail
      go_loopw [8] (fun i wq=>∃q:Nat,1≤q∧q≤k∧i=.int .i64 q∧LAt wq (w.heap.size+1) (rl k (f3 m.slots (QaC m) n q))∧Only (w.heap.size+1) W1 wq) (fun i _=>k - (intOf i).toNat)
      case atStart=>exact⟨1,by omega,by omega,rfl,hL,hO⟩
      case round=>
       clear hL hO mr c0 c1 c2 c3 c4 hbw;obtain⟨q,hq1,hq,rfl,hL,hO⟩:=hrel;obtain⟨wd,hrn⟩:∃X,X=wr:=⟨_,rfl⟩;subst hrn;have mr:=hO.cellsAt (by omega) m1;obtain⟨c0,c1,c2,c3,c4⟩:=five mr;have hbw:Below w.heap.size w wd:=b1.trans (hO.below (by omega));clear s1
       by_cases hlq:q<k
       ·have hqi:(q:Int)<(k:Int):=by omega
        have hqm:q<m.slots.length:=by rw [H1.out.1];exact hlq
        obtain⟨tv,t1,_,t3,hsl⟩:=H2.out q hqm;have ekd:m.slots[q].1=kd m.slots q:=by unfold kd;simp [List.getD,hqm]
        rw [ekd] at t1;obtain⟨Q,hQ⟩:∃Q,kd m.slots q=Q:=⟨_,rfl⟩;rw [hQ] at t1;have t1:wd.cell? ⟨sb,so+q*3,none⟩=some (.int .i64 Q):=(hbw.cell (p:=⟨sb,so+q*3,none⟩) hsb).trans t1;have t3:wd.cell? ⟨sb,so+q*3+2,none⟩=some tv:=(hbw.cell (p:=⟨sb,so+q*3+2,none⟩) hsb).trans t3;have HQ:Hid (kd m.slots q=Q):=hQ;clear hQ ekd
        by_cases hQ2:Q=2
        ·have hQb:(Q == 2)=true:=by simp [hQ2]
         have hnq:q≠n:=fun e=>by
          subst e;have:=HQ.out;rw [HK.out,HK1.out,hQ2] at this;cases this
         have hcq:wd.cell? ⟨w.heap.size+1,q,none⟩=some (.int .i64 (((QaC m).count (q:Int):Nat):Int)):=by
          rw [hL.cell (by rw [QeW];exact hlq),Qn4 hlq];unfold f3 f2;rw [if_neg hnq,QjD hq1,QiO (fun d=>by have:=d.2.2;rw [HQ.out,hQ2] at this;cases this)];simp
         obtain⟨cq,hcq'⟩:∃c,(QaC m).count (q:Int)=c:=⟨_,rfl⟩;rw [hcq'] at hcq;have HCQ:Hid ((QaC m).count (q:Int)=cq):=hcq';have HQ2:Hid (Q=2):=hQ2;clear hcq' hQ2
         by_cases hpos:0<cq
         ·have hposi:(0:Int)<(cq:Int):=by omega
          have etab:m.slots[q].2.2=Qaz m.slots q:=by unfold Qaz;simp [List.getD,hqm]
          rw [etab] at hsl;have ht4:=tab4 H4.out.1 (q:Int);obtain⟨va,vc,rfl⟩:=hsl.form;obtain⟨tl,htl⟩:∃tl,Qaz m.slots q=tl:=⟨_,rfl⟩;have HTL:Hid (Qaz m.slots q=tl):=htl;rw [htl] at t3 hsl ht4;have hcall:=fun W (hW:Below w.heap.size w W)=>Qiu (hsl.below hW) (by omega) (n:Int) (rfl:((tl.count (n:Int):Nat):Int)=_)
          have hv4:tl.count (n:Int)≤4:=Nat.le_trans List.count_le_length ht4;obtain⟨v,hv⟩:∃v,tl.count (n:Int)=v:=⟨_,rfl⟩;rw [hv] at hcall hv4;have HT:Hid (sT m.slots (QaC m) n (q+1)=sT m.slots (QaC m) n q+v):=by
           show _=_
           rw [QgU];unfold QbI;rw [if_pos ⟨by rw [HQ.out,HQ2.out],by rw [←List.count_pos_iff,HCQ.out];exact hpos⟩,HTL.out,hv]
          have hcn:wd.cell? ⟨w.heap.size+1,n,none⟩=some (.int .i64 (((QaC m).count (n:Int)+sT m.slots (QaC m) n q:Nat):Int)):=by
           rw [hL.cell (by rw [QeW];exact hln),Qn4 hln];unfold f3;rw [if_pos rfl]
          have hle:(QaC m).count (n:Int)+sT m.slots (QaC m) n q≤0+160:=by
           rw [QoM (Qel H6.out) hn1 (by rw [HK.out,HK1.out];decide)];have:=QpE H4.out.1 (QaC m) n q;omega
          obtain⟨x,hx⟩:∃x,(QaC m).count (n:Int)+sT m.slots (QaC m) n q=x:=⟨_,rfl⟩;rw [hx] at hcn hle;have HX:Hid ((QaC m).count (n:Int)+sT m.slots (QaC m) n q=x):=hx;have hfx:=hL.frozen n;clear hsl htl hv hx etab;go_wp2_with fail
          go_region_with (go_at_call 54;refine (hcall _ (Qaw hbw)).mono ?_;rintro e w' ⟨rfl,hw⟩;rw [hw];clear hw)
          all_goals
           go_wp2_with fail;go_roundw
           case rel=>exact⟨q+1,by omega,by omega,by go_num,by
            have hL':LAt wd.drew (w.heap.size+1) (rl k (f3 m.slots (QaC m) n q)):=hL;have:=hL'.set n ((x:Int)+(v:Int))
            rwa [Qn7 (g:=f3 m.slots (QaC m) n (q+1)) (by unfold f3;rw [if_pos rfl,HT.out,← Nat.add_assoc,HX.out];omega) (fun j _ hj=>by unfold f3;rw [if_neg hj,if_neg hj])] at this,(QmH hO).trans (Only.set _ _ _ _)⟩
           case measure=>simp [intOf];omega
         ·have hposi:¬(0:Int)<(cq:Int):=by omega
          have HZ:Hid (QbI m.slots (QaC m) n q=0):=by
           show _=_
           unfold QbI;rw [if_neg];intro d;have:=List.count_pos_iff.2 d.2;rw [HCQ.out] at this;exact hpos this
          go_wp2_with fail;go_roundw
          case rel=>exact⟨q+1,by omega,by omega,by go_num,by rw [←Qmg _ HZ.out];exact hL,hO⟩
          case measure=>simp [intOf];omega
        ·have hQb:(Q == 2)=false:=by simp [hQ2]
         have HZ:Hid (QbI m.slots (QaC m) n q=0):=by
          show _=_
          unfold QbI;rw [if_neg];intro d;exact hQ2 (by rw [←HQ.out];exact d.1)
         clear hQ2;go_wp2_with fail;go_roundw
         case rel=>exact⟨q+1,by omega,by omega,by go_num,by rw [←Qmg _ HZ.out];exact hL,hO⟩
         case measure=>simp [intOf];omega
       ·have e6:q=k:=by omega
        subst e6;have hL2:LAt wd (w.heap.size+1) (rl q (f2 m.slots (QaC m) (n+1))):=by
         have:=f32 (QaC m) n hn1 (by rw [HK.out,HK1.out]);rw [H1.out.1] at this;rw [←this];exact hL
        go_wp2_with fail;go_roundw
        case rel=>exact⟨n+1,by omega,by omega,by go_num,hL2,hO⟩
        case measure=>simp [intOf];omega
     ·have hKb:(K != 1)=true:=by simp [hK1]
      have HK1:Hid (kd m.slots n≠1):=by show _≠_;rw [HK.out];exact hK1
      clear hK1;go_wp2_with fail;go_roundw
      case rel=>exact⟨n+1,by omega,by omega,by go_num,by rw [←f22 _ _ _ HK1.out];exact hL,hO⟩
      case measure=>simp [intOf];omega
    ·have e6:n=k:=by omega
     subst e6;have hL2:LAt wc (w.heap.size+1) (cntL m):=by
      rw [←QpH H6.out,H1.out.1];exact hL
     go_wp2_with fail;go_ret;exact⟨⟨rfl,hL2⟩,hbw⟩
theorem Qff {w:World}{v:Value}{m:ImgD}(h:Img w v m)(hE:Qao m=0) :
  Calls Tryz.prog 17 #[v] w fun r w'=>(r=.returned (.slice (some ⟨w.heap.size+1,0,none⟩) m.slots.length m.slots.length)∧LAt w' (w.heap.size+1) (cntL m))∧Below w.heap.size w w':=by
 obtain⟨ra,rc,sa,sc,fa,fc,na,nc,rfl,h1,h2,_,h4⟩:=h.parts;have hp:=Qah (Qad hE).2.1;obtain⟨sb,so,sc',e,hcp,hlt,hcell⟩:=h2.open hp.1;simp at e
 obtain⟨rfl,rfl⟩:=e;exact QiG m.guest ra _ rc sb so _ sc fa _ fc na _ nc m w rfl rfl hlt hcell h1 h4.at hE

def Qb5 (m:ImgD) (i:Nat):Bool:=((m.slots.getD i default).1 == 0) == ((cntL m).getD i 0 == 0)
def Qaq (m:ImgD):Int:=if Qao m≠0 then Qao m else if cntL m≠m.refs then 9 else if (List.range m.slots.length).all (Qb5 m)=true then 0 else 9
theorem QkH (gm:Int)(ra:Option Addr)(rn rc:Nat)(sa:Option Addr)(sn sc:Nat)(fa:Option Addr)(fn fc:Nat)(na:Option Addr)(nn nc:Nat)(m:ImgD)(E:Int)(w:World)(h:Img w (.agg (bI gm ra rn rc sa sn sc fa fn fc na nn nc)) m)(hE:Qao m=E)(hne:(E != 0)=true) :
  Calls Tryz.prog 29 #[.agg (bI gm ra rn rc sa sn sc fa fn fc na nn nc)] w fun r w'=>r=.returned (.int .i64 E)∧Below w.heap.size w w':=by
 have b0:Below w.heap.size w (w.alloc (.cells (bI gm ra rn rc sa sn sc fa fn fc na nn nc) 26)):=bA;have hcall:=QfX (h.below b0) hE hne;clear h hE
 go_enter Tryz.func29,Tryz.ntmps29
 go_wp2_with (go_at_call 67;refine hcall.mono ?_;rintro e w1 ⟨rfl,b1⟩);go_ret;exact⟨rfl,Below.on b0 b1⟩
theorem QeH {w:World}{u v:Value}{xs ys:List Int}(h:Sl w u xs)(k:Sl w v ys)(hl:xs.length=ys.length){B:Bool}(hB:(xs == ys)=B) :
  Calls Tryz.prog 68 #[u,v] w fun r w'=>r=.returned (.bool B)∧Below w.heap.size w w':=by
 subst hB;obtain⟨ao,cap,rfl⟩:=h.form;obtain⟨bo,cap',rfl⟩:=k.form;obtain⟨_,hm,_,hc⟩:=h.cells;obtain⟨_,_,_,hd⟩:=k.cells;rw [←hl] at hd ⊢;refine Qnm ao bo _ cap cap' xs ys w rfl hl.symm hm (fun j hj=>?_) (fun j hj=>?_)
 ·obtain⟨b,off,e,_,c⟩:=hc j hj;exact⟨b,off,e,c⟩
 ·obtain⟨b,off,e,_,c⟩:=hd j hj;exact⟨b,off,e,c⟩
theorem QmF (gm:Int)(ra:Option Addr)(rn rc:Nat)(sb so:Nat)(sn sc:Nat)(fa:Option Addr)(fn fc:Nat)(na:Option Addr)(nn nc:Nat)(m:ImgD)(E:Int)(w:World)(h:Img w (.agg #[.int .i64 gm,.slice ra rn rc,.slice (some ⟨sb,so,none⟩) sn sc,.slice fa fn fc,.slice na nn nc]) m)
  (hf:Sl w (.slice fa fn fc) m.refs) (hsn:m.slots.length=sn) (hsb:sb<w.heap.size) (h40:sn≤40) (hcl:∀j,(h:j<m.slots.length)→SlAt w sb (so+j*3) m.slots[j]) (hE:Qao m=0) (hc:Qaq m=E) :
  Calls Tryz.prog 29 #[.agg #[.int .i64 gm,.slice ra rn rc,.slice (some ⟨sb,so,none⟩) sn sc,.slice fa fn fc,.slice na nn nc]] w fun r w'=>r=.returned (.int .i64 E)∧Below w.heap.size w w':=by
 have b0:Below w.heap.size w (w.alloc (.cells #[.int .i64 gm,.slice ra rn rc,.slice (some ⟨sb,so,none⟩) sn sc,.slice fa fn fc,.slice na nn nc] 26)):=bA;have m0:(w.alloc (.cells #[.int .i64 gm,.slice ra rn rc,.slice (some ⟨sb,so,none⟩) sn sc,.slice fa fn fc,.slice na nn nc] 26)).heap[w.heap.size]? = some (.cells #[.int .i64 gm,.slice ra rn rc,.slice (some ⟨sb,so,none⟩) sn sc,.slice fa fn fc,.slice na nn nc] 26):=zHn _ _;have hcall:=Qmx (h.below b0) hE;have hz:=(Qad hE).2.2.1;have HLr:Hid ((cntL m).length=m.refs.length):=by show _=_;rw [QaU,hz]
 have HN:Hid (m.slots.length=sn):=hsn;have HCl:Hid (∀j,(h:j<m.slots.length)→SlAt w sb (so+j*3) m.slots[j]):=hcl;have HE:Hid (Qaq m=if cntL m≠m.refs then 9 else if (List.range m.slots.length).all (Qb5 m)=true then 0 else 9):=by
  show _=_
  unfold Qaq;rw [if_neg (by simpa using hE)]
 have Hc:Hid (Qaq m=E):=hc;clear h hE hz hsn hcl hc
 cases hq:cntL m == m.refs with
 | false=>
  have H9:Hid (E=9):=by
   show _=_
   rw [←Hc.out,HE.out,if_pos (by simpa using hq)]
  go_enter Tryz.func29,Tryz.ntmps29
  go_wp2_with fail;refine hcall.mono ?_;rintro e w1 ⟨⟨lv,rfl,hlv⟩,b1⟩;have m1:=Qab m0 b1 (by simp);obtain⟨c0,c1,c2,c3,c4⟩:=five m1;have hf1:=hf.below (Below.on b0 b1);have hcall2:=QeH hlv hf1 HLr.out hq;obtain⟨la,lc,rfl⟩:=hlv.form;clear hcall hlv hf1;go_wp2_with fail;refine hcall2.mono ?_;rintro e w2 ⟨rfl,b2⟩;go_wp2_with fail;go_ret;exact⟨by rw [H9.out];rfl,Below.on' b0 b1 b2⟩
 | true=>
  have H9:Hid (E=if (List.range m.slots.length).all (Qb5 m)=true then 0 else 9):=by
   show _=_
   rw [←Hc.out,HE.out,if_neg (by simpa using hq)]
  go_enter Tryz.func29,Tryz.ntmps29
  go_wp2_with fail;refine hcall.mono ?_;rintro e w1 ⟨⟨lv,rfl,hlv⟩,b1⟩;have m1:=Qab m0 b1 (by simp);obtain⟨c0,c1,c2,c3,c4⟩:=five m1;have hf1:=hf.below (Below.on b0 b1);have hcall2:=QeH hlv hf1 HLr.out hq;obtain⟨la,lc,rfl⟩:=hlv.form;clear hcall hf1;go_wp2_with fail;refine hcall2.mono ?_;rintro e w2 ⟨rfl,b2⟩;have m2:=Qab m1 b2 (szH m1);obtain⟨d0,d1,d2,d3,d4⟩:=five m2;have hlv2:=hlv.below b2;have hbw:=Below.on' b0 b1 b2;obtain⟨_,hlm,_,hlc⟩:=hlv2.cells;have HLc:Hid (∀j,j<(cntL m).length→∃b off,la=some ⟨b,off,none⟩∧b<w2.heap.size∧w2.cell? ⟨b,off+j,none⟩=some (.int .i64 ((cntL m).getD j 0))):=hlc;have hle:(cntL m).length=sn:=by rw [QaU,HN.out]
  have HLe:Hid ((cntL m).length=sn):=hle;rw [hle] at HLc ⊢;clear hcall2 hlv hlv2 hlc c0 c1 c2 c3 c4 hle hlm hf;go_wp2_with fail
  go_loopw [5,6,23] (fun _ _ i wr=>∃k:Nat,k≤sn∧i=.int .i64 k∧Hid (∀j,j<k→Qb5 m j=true)∧Below w2.heap.size w2 wr) (fun _ _ i _=>sn - (intOf i).toNat)
  case atStart=>exact⟨0,Nat.zero_le _,rfl,fun j hj=>absurd hj (by omega),Below.refl _ _⟩
  case round=>
   obtain⟨k,hk,rfl,HA,hbel⟩:=hrel
   by_cases hlk:k<sn
   ·have hki:(k:Int)<(sn:Int):=by omega
    have hkm:k<m.slots.length:=by rw [HN.out];exact hlk
    obtain⟨lb,lo,rfl,hlb,hlc⟩:=HLc.out k hlk;obtain⟨s,hs⟩:∃s,s=m.slots[k]'hkm:=⟨_,rfl⟩;obtain⟨kk,dd,tt⟩:=s;have hS:SlAt w sb (so+k*3) (kk,dd,tt):=by rw [hs];exact HCl.out k _
    obtain⟨tv,e1,e2,e3,hsl⟩:=hS;obtain⟨ta,tc,rfl⟩:=hsl.form;have hbr:=Below.on hbw hbel;obtain⟨c,hc⟩:∃c,(cntL m).getD k 0=c:=⟨_,rfl⟩;rw [hc] at hlc;have e1:wr.cell? ⟨sb,so+k*3,none⟩=some (.int .i64 kk):=(hbr.cell (p:=⟨sb,so+k*3,none⟩) hsb).trans e1;have e2:wr.cell? ⟨sb,so+k*3+1,none⟩=some (.string dd):=(hbr.cell (p:=⟨sb,so+k*3+1,none⟩) hsb).trans e2;have e3:wr.cell? ⟨sb,so+k*3+1+1,none⟩=some (.slice ta tt.length tc):=(hbr.cell (p:=⟨sb,so+k*3+1+1,none⟩) hsb).trans e3;have el:(wr.alloc (.cells #[.int .i64 kk,.string dd,.slice ta tt.length tc] 37)).cell? ⟨lb,lo+k,none⟩=some (.int .i64 c):=((hbel.alloc hbel.size _).cell (p:=⟨lb,lo+k,none⟩) hlb).trans hlc;have HF:Hid (Qb5 m k=((kk == 0) == (c == 0))):=by
     show _=_
     unfold Qb5;rw [hc];simp [List.getD,hkm,← hs]
    have hba:Below w2.heap.size w2 (wr.alloc (.cells #[.int .i64 kk,.string dd,.slice ta tt.length tc] 37)):=hbel.alloc hbel.size _;clear hs hlc hc hsl
    cases hx:kk == 0 with
    | true=>
     cases hy:c == 0 with
     | true=>
      go_wp2_with fail
      go_region
      go_wp2_with fail;go_roundw
      case rel=>exact⟨k+1,by omega,by go_num,fun j hj=>by
       by_cases e:j=k
       ·subst e;rw [HF.out,hx,hy];rfl
       ·exact HA.out j (by omega),⟨hba.os,hba.tape,hba.output,hba.size,hba.block⟩⟩
      case measure=>simp [intOf];omega
     | false=>
      have HB:Hid (E=9):=by
       show _=_
       rw [H9.out,if_neg];intro e;rw [List.all_eq_true] at e;have:=e k (by simpa using hkm);rw [HF.out,hx,hy] at this
       cases this
      go_wp2_with fail
      go_region
      go_wp2_with fail;go_ret;exact⟨QaI HB.out.symm,Below.on hbw ⟨hba.os,hba.tape,hba.output,hba.size,hba.block⟩⟩
    | false=>
     cases hy:c == 0 with
     | true=>
      have HB:Hid (E=9):=by
       show _=_
       rw [H9.out,if_neg];intro e;rw [List.all_eq_true] at e;have:=e k (by simpa using hkm);rw [HF.out,hx,hy] at this
       cases this
      go_wp2_with fail
      go_region
      go_wp2_with fail;go_ret;exact⟨QaI HB.out.symm,Below.on hbw ⟨hba.os,hba.tape,hba.output,hba.size,hba.block⟩⟩
     | false=>
      go_wp2_with fail
      go_region
      go_wp2_with fail;go_roundw
      case rel=>exact⟨k+1,by omega,by go_num,fun j hj=>by
       by_cases e:j=k
       ·subst e;rw [HF.out,hx,hy];rfl
       ·exact HA.out j (by omega),⟨hba.os,hba.tape,hba.output,hba.size,hba.block⟩⟩
      case measure=>simp [intOf];omega
   ·have e4:k=sn:=by omega
    subst e4;go_wp2_with fail;go_ret;refine⟨QaI ?_,Below.on hbw hbel⟩;rw [H9.out,if_pos];rw [List.all_eq_true];intro j hj;exact HA.out j (by rw [←HN.out];simpa using hj)
theorem Qbc {w:World}{v:Value}{m:ImgD}(h:Img w v m){E:Int}(hE:Qaq m=E) :
  Calls Tryz.prog 29 #[v] w fun r w'=>r=.returned (.int .i64 E)∧Below w.heap.size w w':=by
 have h':=h;obtain⟨ra,rc,sa,sc,fa,fc,na,nc,rfl,h1,h2,h3,h4⟩:=h.parts
 by_cases h0:Qao m=0
 ·have z2:=(Qad h0).2.1;have hp:=Qah z2;obtain⟨sb,so,sc',e,hcp,hlt,hcell⟩:=h2.open hp.1;simp at e
  obtain⟨rfl,rfl⟩:=e;exact QmF m.guest ra _ rc sb so _ sc fa _ fc na _ nc m E w h' h3 rfl hlt hp.2 hcell h0 hE
 ·have e:Qao m=E:=by rw [←hE];unfold Qaq;rw [if_pos h0]
  exact QkH m.guest ra _ rc sa _ sc fa _ fc na _ nc m E w h' e (by rw [←e];simpa using h0)

def QaT (m:ImgD) (root:List Int) (n:Nat):Int:=if root.getD (n / 4) 0=0 then 0 else (Qaz m.slots (root.getD (n / 4) 0)).getD (n % 4) 0
def Qbk (m:ImgD) (n:Int):Int:=if Qaq m≠0 then Qaq m else if 0≤n∧n<m.guest then 0 else 3
theorem QnI (gm:Int)(ra:Option Addr)(rn rc:Nat)(sa:Option Addr)(sn sc:Nat)(fa:Option Addr)(fn fc:Nat)(na:Option Addr)(nn nc:Nat)(m:ImgD)(E n:Int)(w:World)(h:Img w (.agg (bI gm ra rn rc sa sn sc fa fn fc na nn nc)) m)(hE:Qaq m=E)(hne:(E != 0)=true) :
  Calls Tryz.prog 23 #[.agg (bI gm ra rn rc sa sn sc fa fn fc na nn nc),.int .i64 n] w fun r w'=>r=.returned (.tuple #[.int .i64 0,.int .i64 E])∧Below w.heap.size w w':=by
 have b0:Below w.heap.size w (w.alloc (.cells (bI gm ra rn rc sa sn sc fa fn fc na nn nc) 26)):=bA;have hcall:=Qbc (h.below b0) hE;clear h hE
 go_enter Tryz.func23,Tryz.ntmps23
 go_wp2_with (go_at_call 29;refine hcall.mono ?_;rintro e w1 ⟨rfl,b1⟩)
 go_ret2
 exact⟨rfl,Below.on b0 b1⟩
theorem QkX (gm:Int)(ra:Option Addr)(rn rc:Nat)(sa:Option Addr)(sn sc:Nat)(fa:Option Addr)(fn fc:Nat)(na:Option Addr)(nn nc:Nat)(m:ImgD)(n:Int)(w:World)(h:Img w (.agg (bI gm ra rn rc sa sn sc fa fn fc na nn nc)) m)(hE:Qaq m=0)(hn:n<0∨gm≤n) :
  Calls Tryz.prog 23 #[.agg (bI gm ra rn rc sa sn sc fa fn fc na nn nc),.int .i64 n] w fun r w'=>r=.returned (.tuple #[.int .i64 0,.int .i64 3])∧Below w.heap.size w w':=by
 have b0:Below w.heap.size w (w.alloc (.cells (bI gm ra rn rc sa sn sc fa fn fc na nn nc) 26)):=bA;have m0:(w.alloc (.cells (bI gm ra rn rc sa sn sc fa fn fc na nn nc) 26)).heap[w.heap.size]? = some (.cells (bI gm ra rn rc sa sn sc fa fn fc na nn nc) 26):=zHn _ _;have hcall:=Qbc (h.below b0) hE;clear h hE
 by_cases h0:n<0
 ·clear hn
  go_enter Tryz.func23,Tryz.ntmps23
  go_wp2_with (go_at_call 29;refine hcall.mono ?_;rintro e w1 ⟨rfl,b1⟩)
  go_ret2
  exact⟨rfl,Below.on b0 b1⟩
 ·have h1:gm≤n:=by omega
  clear hn
  go_enter Tryz.func23,Tryz.ntmps23
  go_wp2_with (go_at_call 29;refine hcall.mono ?_;rintro e w1 ⟨rfl,b1⟩;have m1:=Qab m0 b1 (by simp);obtain⟨c0,c1,c2,c3,c4⟩:=five m1)
  go_ret2
  exact⟨rfl,Below.on b0 b1⟩
theorem Qmf (gm:Int)(rb ro:Nat)(rn rc:Nat)(sa:Option Addr)(sn sc:Nat)(fa:Option Addr)(fn fc:Nat)(na:Option Addr)(nn nc:Nat)(m:ImgD)(n:Nat)(w:World)(h:Img w (.agg #[.int .i64 gm,.slice (some ⟨rb,ro,none⟩) rn rc,.slice sa sn sc,.slice fa fn fc,.slice na nn nc]) m)(hE:Qaq m=0)(hn:(n:Int)<gm)(hrn:n / 4<rn)(hn16:n<16)(hrb:rb<w.heap.size)(hc:w.cell? ⟨rb,ro+n / 4,none⟩=some (.int .i64 0)) :
  Calls Tryz.prog 23 #[.agg #[.int .i64 gm,.slice (some ⟨rb,ro,none⟩) rn rc,.slice sa sn sc,.slice fa fn fc,.slice na nn nc],.int .i64 n] w fun r w'=>r=.returned (.tuple #[.int .i64 0,.int .i64 0])∧Below w.heap.size w w':=by
 have b0:Below w.heap.size w (w.alloc (.cells #[.int .i64 gm,.slice (some ⟨rb,ro,none⟩) rn rc,.slice sa sn sc,.slice fa fn fc,.slice na nn nc] 26)):=bA;have m0:(w.alloc (.cells #[.int .i64 gm,.slice (some ⟨rb,ro,none⟩) rn rc,.slice sa sn sc,.slice fa fn fc,.slice na nn nc] 26)).heap[w.heap.size]? = some (.cells #[.int .i64 gm,.slice (some ⟨rb,ro,none⟩) rn rc,.slice sa sn sc,.slice fa fn fc,.slice na nn nc] 26):=zHn _ _;have hcall:=Qbc (h.below b0) hE;have hq:((n:Int) / 4).toNat=n / 4:=by omega
 clear h hE
 go_enter Tryz.func23,Tryz.ntmps23
 go_wp2_with (go_at_call 29;refine hcall.mono ?_;rintro e w1 ⟨rfl,b1⟩;have m1:=Qab m0 b1 (by simp);obtain⟨c0,c1,c2,c3,c4⟩:=five m1;have cr:w1.cell? ⟨rb,ro+n / 4,none⟩=some (.int .i64 0):=((Below.on b0 b1).cell (p:=⟨rb,ro+n / 4,none⟩) hrb).trans hc)
 go_ret2
 exact⟨rfl,Below.on b0 b1⟩
theorem QnK (gm:Int)(rb ro:Nat)(rn rc:Nat)(sb so:Nat)(sn sc:Nat)(fa:Option Addr)(fn fc:Nat)(na:Option Addr)(nn nc:Nat)(m:ImgD)(n t:Nat)(w:World)(h:Img w (.agg #[.int .i64 gm,.slice (some ⟨rb,ro,none⟩) rn rc,.slice (some ⟨sb,so,none⟩) sn sc,.slice fa fn fc,.slice na nn nc]) m)(hE:Qaq m=0)(hn:(n:Int)<gm)(hrn:n / 4<rn)(hn16:n<16)(hrb:rb<w.heap.size)(hc:w.cell? ⟨rb,ro+n / 4,none⟩=some (.int .i64 t))
  (ht0:0<t) (ht:t<sn) (hsb:sb<w.heap.size) (tb tw tc:Nat) (hct:w.cell? ⟨sb,so+t*3+2,none⟩=some (.slice (some ⟨tb,tw,none⟩) 4 tc)) (htb:tb<w.heap.size) (x:Int) (hx:w.cell? ⟨tb,tw+n % 4,none⟩=some (.int .i64 x)) :
  Calls Tryz.prog 23 #[.agg #[.int .i64 gm,.slice (some ⟨rb,ro,none⟩) rn rc,.slice (some ⟨sb,so,none⟩) sn sc,.slice fa fn fc,.slice na nn nc],.int .i64 n] w fun r w'=>r=.returned (.tuple #[.int .i64 x,.int .i64 0])∧Below w.heap.size w w':=by
 have b0:Below w.heap.size w (w.alloc (.cells #[.int .i64 gm,.slice (some ⟨rb,ro,none⟩) rn rc,.slice (some ⟨sb,so,none⟩) sn sc,.slice fa fn fc,.slice na nn nc] 26)):=bA;have m0:(w.alloc (.cells #[.int .i64 gm,.slice (some ⟨rb,ro,none⟩) rn rc,.slice (some ⟨sb,so,none⟩) sn sc,.slice fa fn fc,.slice na nn nc] 26)).heap[w.heap.size]? = some (.cells #[.int .i64 gm,.slice (some ⟨rb,ro,none⟩) rn rc,.slice (some ⟨sb,so,none⟩) sn sc,.slice fa fn fc,.slice na nn nc] 26):=zHn _ _;have hcall:=Qbc (h.below b0) hE;have hq:((n:Int) / 4).toNat=n / 4:=by omega
 have hq2:((n:Int) % 4).toNat=n % 4:=by omega
 have hne:((t:Int) == 0)=false:=by simp;omega
 have h4:n % 4<4:=by omega
 clear h hE
 go_enter Tryz.func23,Tryz.ntmps23
 go_wp2_with (go_at_call 29;refine hcall.mono ?_;rintro e w1 ⟨rfl,b1⟩;have m1:=Qab m0 b1 (by simp);obtain⟨c0,c1,c2,c3,c4⟩:=five m1;have cr:w1.cell? ⟨rb,ro+n / 4,none⟩=some (.int .i64 t):=((Below.on b0 b1).cell (p:=⟨rb,ro+n / 4,none⟩) hrb).trans hc;have ct:w1.cell? ⟨sb,so+t*3+2,none⟩=some (.slice (some ⟨tb,tw,none⟩) 4 tc):=((Below.on b0 b1).cell (p:=⟨sb,so+t*3+2,none⟩) hsb).trans hct;have cx:w1.cell? ⟨tb,tw+n % 4,none⟩=some (.int .i64 x):=((Below.on b0 b1).cell (p:=⟨tb,tw+n % 4,none⟩) htb).trans hx)
 go_ret2
 exact⟨rfl,Below.on b0 b1⟩
theorem Qal {m:ImgD}(h:Qaq m=0):Qao m=0:=by
 unfold Qaq at h
 split at h
 ·rename_i h1;exact absurd h h1
 ·rename_i h1;simpa using h1
theorem Qfr {w:World}{v:Value}{m:ImgD}(h:Img w v m)(n:Int){E c:Int}(hE:Qbk m n=E)(hc:(if E=0 then QaT m m.root n.toNat else 0)=c) :
  Calls Tryz.prog 23 #[v,.int .i64 n] w fun r w'=>r=.returned (.tuple #[.int .i64 c,.int .i64 E])∧Below w.heap.size w w':=by
 have h':=h;obtain⟨ra,rc,sa,sc,fa,fc,na,nc,rfl,h1,h2,h3,h4⟩:=h.parts;unfold Qbk at hE
 by_cases h0:Qaq m=0
 ·rw [if_neg (by simpa using h0)] at hE
  by_cases hn:0≤n∧n<m.guest
  ·rw [if_pos hn] at hE;subst hE;rw [if_pos rfl] at hc;obtain⟨k,rfl⟩:∃k:Nat,n=k:=⟨n.toNat,by omega⟩;rw [Int.toNat_natCast] at hc;obtain⟨z1,z2,z3,z4,z5,z6,z7⟩:=Qad (Qal h0);have hg:Qay m.guest=true:=List.all_eq_true.1 z5 (⟨#[]⟩,m.guest,m.root) List.mem_cons_self;have hrf:Qas m.slots m.guest m.root=true:=List.all_eq_true.1 z7 (⟨#[]⟩,m.guest,m.root) List.mem_cons_self;unfold Qay at hg;simp only [decide_eq_true_eq] at hg;unfold Qas at hrf;simp only [Bool.and_eq_true,decide_eq_true_eq] at hrf;have hkl:k / 4<m.root.length:=by omega
   have hE2:=Qci hrf.2.1 hkl;obtain⟨rb,ro,rc',e,_,hrb,hcell⟩:=h1.open (by omega);simp at e
   obtain⟨rfl,rfl⟩:=e;have hcr:=hcell (k / 4) hkl;unfold QaT at hc
   by_cases hz:m.root.getD (k / 4) 0=0
   ·rw [if_pos hz] at hc;subst hc;rw [hz] at hcr;exact Qmf m.guest rb ro _ rc sa _ sc fa _ fc na _ nc m k w h' h0 hn.2 hkl (by omega) hrb hcr
   ·rw [if_neg hz] at hc;rw [QbH hz] at hE2;obtain⟨t,ht,htl,hkd⟩:=Qbu hE2;have hok:=Qdu (QaG z2 htl) hkd;obtain⟨sb,so,sc',e,_,hsb,hcl⟩:=h2.open (by omega);simp at e
    obtain⟨rfl,rfl⟩:=e;obtain⟨tv,_,_,c3,hsl⟩:=hcl t htl;obtain⟨tb,tw,tc,rfl,_,htb,htc⟩:=hsl.four hok.1;rw [ht] at hcr hc hz;have e4:Qaz m.slots (t:Int)=m.slots[t].2.2:=by unfold Qaz;simp [List.getD,htl]
    rw [e4] at hc;have hx:=htc (k % 4) (by omega);rw [hc] at hx;exact QnK m.guest rb ro _ rc sb so _ sc fa _ fc na _ nc m k t w h' h0 hn.2 hkl (by omega) hrb hcr (by omega) htl hsb tb tw tc c3 htb c hx
  ·rw [if_neg hn] at hE;subst hE;rw [if_neg (by decide)] at hc;subst hc;exact QkX m.guest ra _ rc sa _ sc fa _ fc na _ nc m n w h' h0 (by omega)
 ·rw [if_pos h0] at hE;rw [if_neg (by rw [←hE];exact h0)] at hc;subst hc;exact QnI m.guest ra _ rc sa _ sc fa _ fc na _ nc m E n w h' hE (by rw [←hE];simpa using h0)
def Z4:ByteArray:=⟨#[0,0,0,0]⟩
theorem Qbs {m:ImgD}(h:Qaq m=0):Qao m=0∧cntL m=m.refs∧∀j,j<m.slots.length→Qb5 m j=true:=by
 have hs:=Qal h;unfold Qaq at h;rw [if_neg (by simpa using hs)] at h
 split at h
 ·simp at h
 ·rename_i hc
  split at h
  ·rename_i ha
   exact⟨hs,Classical.not_not.1 hc,fun j hj=>List.all_eq_true.1 ha j (by simpa using hj)⟩
  ·simp at h
theorem Qbz {l:List Int}{j:Nat}(h:j<l.length):l.getD j 0=l[j]:=by simp [List.getD,h]
theorem Qa4 {m:ImgD}(h:Qao m=0):0≤m.guest∧m.guest≤16:=by
 have:=List.all_eq_true.1 (Qad h).2.2.2.2.1 (⟨#[]⟩,m.guest,m.root) List.mem_cons_self;unfold Qay at this
 simpa using this
theorem Qa3 {m:ImgD}(h:Qao m=0):(m.root.length:Int)=(m.guest+3) / 4∧m.root.all (Qbf m.slots)=true:=by
 have:=List.all_eq_true.1 (Qad h).2.2.2.2.2.2 (⟨#[]⟩,m.guest,m.root) List.mem_cons_self;unfold Qas at this;simp only [Bool.and_eq_true,decide_eq_true_eq] at this;exact⟨this.1,this.2.1⟩
theorem Qfc {m:ImgD}(h:Qao m=0){root:List Int}(hall:root.all (Qbf m.slots)=true)(n:Nat)(hl:n / 4<root.length):QaT m root n=0∨QaT m root n = -1∨∃j:Nat,QaT m root n=j∧1≤j∧j<m.slots.length∧kd m.slots j=1:=by
 obtain⟨z1,z2,z3,z4,z5,z6,z7⟩:=Qad h;unfold QaT
 by_cases hz:root.getD (n / 4) 0=0
 ·rw [if_pos hz];exact .inl rfl
 rw [if_neg hz];have hE2:=Qci hall hl;rw [QbH hz] at hE2;have h4:=QgT z2 hE2;have hm:n % 4<(Qaz m.slots (root.getD (n / 4) 0)).length:=by omega
 have e:(Qaz m.slots (root.getD (n / 4) 0)).getD (n % 4) 0=(Qaz m.slots (root.getD (n / 4) 0))[n % 4]:=Qbz hm;rw [e];rcases Qe0 z6 _ (List.getElem_mem hm) with g | g | ⟨j,g1,g2,g3⟩
 ·exact .inl g
 ·exact .inr (.inl g)
 ·refine .inr (.inr ⟨j,g1,?_,g2,g3⟩);rcases Nat.eq_zero_or_pos j with e | e
  ·subst e;rw [Qcs z2] at g3;simp at g3
  ·exact e
theorem QbF {m:ImgD}(hC:Qaq m=0){k:Nat}(hk:(k:Int)<m.guest):Qbk m k=0:=by
 unfold Qbk;rw [if_neg (by simpa using hC),if_pos ⟨by omega,hk⟩]
def QiV (L:List Qag) (e:Int):ByteArray:=if e≤0 then Z4 else (L.getD e.toNat default).2.1
def ixOf (o:Option Nat):Int:=match o with | some k=>(k:Int) | none=>-1
def Qbj (S:List Qav) (nm:ByteArray):Option Nat:=S.findIdx? (fun s=>s.1.toList == nm.toList)
theorem Qft {S:List Qav}{nm:ByteArray}{k:Nat}(h:Qbj S nm=some k):k<S.length:=by
 unfold Qbj at h;rw [List.findIdx?_eq_some_iff_getElem] at h;exact h.1

def QbY:Qag:=(0,⟨#[]⟩,[])
def Qck (L:List Qag) (c:List Int):List Qag:=(List.range L.length).map (fun j=>if c.getD j 0=0 then QbY else L.getD j default)
def Qai (m:ImgD):ImgD:={ m with refs:=cntL m,slots:=Qck m.slots (cntL m) }
theorem Qbt (L:List Qag)(c:List Int):(Qck L c).length=L.length:=by simp [Qck]
theorem QbW {L:List Qag}{c:List Int}{j:Nat}(hj:j<L.length):(Qck L c).getD j default=if c.getD j 0=0 then QbY else L.getD j default:=by
 unfold Qck;simp only [List.getD,List.getElem?_map,List.getElem?_range hj,Option.map_some,Option.getD_some]
theorem QdC {L:List Qag}{c:List Int}{j:Nat}(hj:j<L.length)(hc:c.getD j 0≠0):(Qck L c).getD j default=L.getD j default:=by
 rw [QbW hj,if_neg hc]
theorem Qdx {L:List Qag}{c:List Int}{j:Nat}(hj:j<L.length)(hc:c.getD j 0=0):(Qck L c).getD j default=QbY:=by
 rw [QbW hj,if_pos hc]
theorem QnW {f:Nat→Nat} : ∀ {n k:Nat},k<n→f k≤((List.range n).map f).sum
 | 0,_,h=>absurd h (by omega)
 | n+1,k,h=>by
  rw [List.range_succ,List.map_append,List.sum_append]
  by_cases e:k=n
  ·subst e;simp
  ·have:=QnW (f:=f) (n:=n) (k:=k) (by omega);simp;omega
theorem QlL {f:Nat→Nat} : ∀ {n:Nat},0<((List.range n).map f).sum→∃k,k<n∧0<f k
 | 0,h=>absurd h (by simp)
 | n+1,h=>by
  rw [List.range_succ,List.map_append,List.sum_append] at h
  by_cases e:0<f n
  ·exact⟨n,by omega,e⟩
  ·obtain⟨k,hk,hf⟩:=QlL (f:=f) (n:=n) (by simp at h;omega);exact⟨k,by omega,hf⟩
theorem QbC {m:ImgD}(h:Qao m=0){j:Nat}(hj:(j:Int) ∈ QaC m)(h1:1≤j):j<m.slots.length∧kd m.slots j=2∧(cntL m).getD j 0≠0:=by
 rcases QbG (Qel h _ hj) with e | ⟨i,e,hi,hk⟩
 ·omega
 ·have:j=i:=by omega
  subst this;refine⟨hi,hk,?_⟩;rw [Qbr h j hi];unfold cntI;have:=List.count_pos_iff.2 hj;rw [if_neg (by omega)];omega
theorem Qgx {m:ImgD}(h:Qao m=0){j:Nat}(hj:(j:Int) ∈ QaC m)(h1:1≤j){i:Nat}(hi:(i:Int) ∈ Qaz m.slots j)(hi1:1≤i):i<m.slots.length∧kd m.slots i=1∧(cntL m).getD i 0≠0:=by
 obtain⟨hjl,hk,_⟩:=QbC h hj h1;rcases Qe0 (Qad h).2.2.2.2.2.1 _ hi with e | e | ⟨q,e,hq,hk1⟩
 ·omega
 ·omega
 ·have:i=q:=by omega
  subst this;refine⟨hq,hk1,?_⟩;rw [Qbr h i hq];unfold cntI;rw [if_neg (by omega)];have h2:QbI m.slots (QaC m) i j≤sumT m.slots (QaC m) i:=QnW hjl;have h3:QbI m.slots (QaC m) i j=(Qaz m.slots j).count (i:Int):=by unfold QbI;rw [if_pos ⟨hk,hj⟩]
  have:=List.count_pos_iff.2 hi;omega
theorem Qgy {m:ImgD}(h:Qao m=0){j:Nat}(hj:j<m.slots.length)(hc:(cntL m).getD j 0≠0):1≤j∧((kd m.slots j=2∧(j:Int) ∈ QaC m)∨(kd m.slots j=1∧∃k:Nat,1≤k∧(k:Int) ∈ QaC m∧kd m.slots k=2∧(j:Int) ∈ Qaz m.slots k)):=by
 obtain⟨z1,z2,z3,z4,z5,z6,z7⟩:=Qad h;rw [Qbr h j hj] at hc;unfold cntI at hc
 by_cases h0:j=0
 ·rw [if_pos h0] at hc;exact absurd rfl hc
 rw [if_neg h0] at hc;refine⟨by omega,?_⟩
 by_cases hp:0<(QaC m).count (j:Int)
 ·have hm:=List.count_pos_iff.1 hp;exact .inl ⟨(QbC h hm (by omega)).2.1,hm⟩
 ·obtain⟨k,hk,hf⟩:=QlL (f:=QbI m.slots (QaC m) j) (n:=m.slots.length) (by
   have:0<sumT m.slots (QaC m) j:=by omega
   exact this)
  unfold QbI at hf
  split at hf
  ·rename_i hc2
   have hm:=List.count_pos_iff.1 hf;have k1:1≤k:=by
    rcases Nat.eq_zero_or_pos k with e | e
    ·subst e;rw [Qcs z2] at hc2;simp at hc2
    ·exact e
   exact .inr ⟨(Qgx h hc2.2 k1 hm (by omega)).2.1,k,k1,hc2.2,hc2.1,hm⟩
  ·omega
theorem Qgj {m:ImgD}{j:Nat}(hj:j<m.slots.length)(hc:(cntL m).getD j 0≠0):kd (Qai m).slots j=kd m.slots j:=by
 unfold kd Qai;dsimp only;rw [QdC hj hc]
theorem QjF {m:ImgD}{j:Nat}(hj:j<m.slots.length)(hc:(cntL m).getD j 0≠0):Qaz (Qai m).slots j=Qaz m.slots j:=by
 unfold Qaz Qai;dsimp only;rw [Int.toNat_natCast,QdC hj hc]
theorem Qdd {L:List Qag}{j:Nat}(hj:j<L.length){k:Int}(hk:kd L j=k):isKd L j k=true:=by
 rw [QiX hj];unfold kd at hk;simp [List.getD,hj] at hk
 simp [hk]
theorem Qc4 (m:ImgD):Qax (Qai m)=Qax m:=rfl
theorem Qg2 (m:ImgD):QaC (Qai m)=QaC m:=rfl
theorem Qp4:okD QbY=true:=by decide
theorem QaB {L:List Qag}{j:Nat}(hj:j<L.length):L[j]=L.getD j default:=by simp [List.getD,hj]
theorem QcS {m:ImgD}(h:Qao m=0):Qao (Qai m)=0:=by
 obtain⟨z1,z2,z3,z4,z5,z6,z7⟩:=Qad h;have hp:=Qah z2;have hlen:(Qai m).slots.length=m.slots.length:=Qbt _ _;have hs:Qap (Qai m).slots=0:=by
  refine Qdb (by rw [hlen];exact hp.1) (by rw [hlen];exact hp.2) (fun j hj=>?_) ?_
  ·rw [hlen] at hj;rw [QaB (by rw [hlen];exact hj)]
   show okD ((Qck m.slots (cntL m)).getD j default)=true
   rw [QbW hj]
   split
   ·exact Qp4
   ·rw [←QaB hj];exact QaG z2 hj
  ·rw [QaB (by rw [hlen];exact hp.1)]
   show ((Qck m.slots (cntL m)).getD 0 default).1=0
   rw [QbW hp.1]
   split
   ·rfl
   ·exact Qcs z2
 have ht:QaW (Qai m).slots=true:=by
  unfold QaW;rw [List.all_eq_true];intro s hsm;obtain⟨j,hj,rfl⟩:=List.getElem_of_mem hsm;rw [hlen] at hj;rw [QaB (by rw [hlen];exact hj),List.all_eq_true]
  show ∀e ∈ ((Qck m.slots (cntL m)).getD j default).2.2,tabE (Qai m).slots e=true
  intro e he
  by_cases hc:(cntL m).getD j 0=0
  ·rw [Qdx hj hc] at he;cases he
  ·rw [QdC hj hc] at he;have he':e ∈ Qaz m.slots (j:Int):=by unfold Qaz;rw [Int.toNat_natCast];exact he
   obtain⟨j1,hcase⟩:=Qgy h hj hc;rcases hcase with ⟨hk,hjm⟩ | ⟨hk,_⟩
   ·rcases Qe0 z6 _ he' with e0 | e1 | ⟨i,rfl,hi,hk1⟩
    ·rw [e0];rfl
    ·rw [e1];rfl
    ·have i1:1≤i:=by
      rcases Nat.eq_zero_or_pos i with e | e
      ·subst e;rw [Qcs z2] at hk1;simp at hk1
      ·exact e
     obtain⟨_,_,hci⟩:=Qgx h hjm j1 he' i1;rw [QdR (by omega) (by omega)];exact Qdd (by rw [hlen];exact hi) (by rw [Qgj hi hci];exact hk1)
   · -- a page has no table
    exfalso
    have ok:=QaG z2 hj;rw [QaB hj] at ok;unfold kd at hk;unfold okD QaZ at ok;rw [if_neg (by rw [hk];decide),if_pos hk] at ok
    generalize m.slots.getD j default=s at hk ok he
    simp at ok
    rw [ok.2] at he;cases he
 have hr:(Qax (Qai m)).all (fun s=>Qas (Qai m).slots s.2.1 s.2.2)=true:=by
  rw [Qc4,List.all_eq_true];intro s hsm;have hf:=List.all_eq_true.1 z7 s hsm;have hmem:∀k ∈ s.2.2,k ∈ QaC m:=fun k hk=>by unfold QaC;rw [List.mem_flatMap];exact⟨s,hsm,hk⟩
  unfold Qas at hf ⊢;simp only [Bool.and_eq_true] at hf ⊢;refine⟨hf.1,?_,?_⟩
  ·rw [List.all_eq_true];intro k hk;rcases QbG (List.all_eq_true.1 hf.2.1 k hk) with e | ⟨j,rfl,hj,hk2⟩
   ·rw [e];rfl
   ·have j1:1≤j:=by
     rcases Nat.eq_zero_or_pos j with e | e
     ·subst e;rw [Qcs z2] at hk2;simp at hk2
     ·exact e
    rw [QbH (by omega)];obtain⟨_,_,hc⟩:=QbC h (hmem _ hk) j1;exact Qdd (by rw [hlen];exact hj) (by rw [Qgj hj hc];exact hk2)
  ·have hl:=hf.2.2;unfold QbX at hl ⊢
   by_cases hg:s.2.1 % 4=0
   ·simp [hg]
   ·have hg':(s.2.1 % 4 == 0)=false:=by simpa using hg
    rw [hg',Bool.false_or] at hl ⊢
    by_cases hx:s.2.2.getD (s.2.2.length - 1) 0=0
    ·rw [hx];rfl
    ·have hx':(s.2.2.getD (s.2.2.length - 1) 0 == 0)=false:=by simpa using hx
     rw [hx',Bool.false_or] at hl ⊢;have hne:s.2.2.length - 1<s.2.2.length:=by
      rcases Nat.eq_zero_or_pos s.2.2.length with e | e
      ·exfalso;apply hx;rw [List.length_eq_zero_iff.1 e];rfl
      ·omega
     have hE:=Qci hf.2.1 hne;have hm2:s.2.2.getD (s.2.2.length - 1) 0 ∈ QaC m:=hmem _ (by rw [Qbz hne];exact List.getElem_mem hne)
     generalize s.2.2.getD (s.2.2.length - 1) 0=x at hE hm2 hl hx ⊢
     rcases QbG hE with e | ⟨j,rfl,hj,hk2⟩
     ·exact absurd e hx
     ·obtain⟨_,_,hc⟩:=QbC h hm2 (by omega);rw [QjF hj hc];exact hl
 unfold Qao;rw [if_neg (by show ¬3<m.snaps.length;omega),if_neg (by simpa using hs),if_neg,if_neg (by rw [Qc4,z5];decide),if_neg (by rw [ht];decide),if_neg (by rw [hr];decide)];rintro (e | e)
 ·exact e (by rw [hlen];exact QaU m)
 ·have:QaJ m.snaps=false:=e;rw [z4] at this;cases this
theorem QfA {m:ImgD}(h:Qao m=0):cntL (Qai m)=cntL m:=by
 have hlen:(Qai m).slots.length=m.slots.length:=Qbt _ _;rw [QkG (QaU (Qai m)),QkG (QaU m),hlen];refine Qca fun j hj=>?_
 rw [Qbr (QcS h) j (by rw [hlen];exact hj),Qbr h j hj,Qg2];unfold cntI
 by_cases h0:j=0
 ·rw [if_pos h0,if_pos h0]
 rw [if_neg h0,if_neg h0];have e:sumT (Qai m).slots (QaC m) j=sumT m.slots (QaC m) j:=by
  unfold sumT;rw [hlen];refine QdU _ fun k hk=>?_
  unfold QbI
  by_cases hm:(k:Int) ∈ QaC m
  ·by_cases k0:k=0
   ·subst k0;rw [if_neg (by rw [Qcs (Qad (QcS h)).2.1];simp),if_neg (by rw [Qcs (Qad h).2.1];simp)]
   ·obtain⟨_,_,hc⟩:=QbC h hm (by omega);rw [Qgj hk hc,QjF hk hc]
  ·rw [if_neg (fun x=>hm x.2),if_neg (fun x=>hm x.2)]
 rw [e]
theorem Qgr {m:ImgD}(h:Qao m=0):Qaq (Qai m)=0:=by
 have hlen:(Qai m).slots.length=m.slots.length:=Qbt _ _;unfold Qaq;rw [if_neg (by simpa using QcS h),QfA h];have e:(Qai m).refs=cntL m:=rfl;rw [e,if_neg (by simp),if_pos];rw [List.all_eq_true];intro j hj;have hj:j<m.slots.length:=by rw [←hlen];simpa using hj
 unfold Qb5;rw [QfA h]
 by_cases hc:(cntL m).getD j 0=0
 ·have:((Qai m).slots.getD j default).1=0:=by show ((Qck m.slots (cntL m)).getD j default).1=0;rw [Qdx hj hc];rfl
  rw [this,hc];rfl
 ·obtain⟨_,hk⟩:=Qgy h hj hc;have hne:kd m.slots j≠0:=by
   rcases hk with ⟨e,_⟩ | ⟨e,_⟩
   ·rw [e];decide
   ·rw [e];decide
  have e1:((Qai m).slots.getD j default).1=kd m.slots j:=Qgj hj hc;have e2:(((Qai m).slots.getD j default).1 == 0)=false:=by rw [e1];simpa using hne
  have e3:((cntL m).getD j 0 == 0)=false:=by simpa using hc
  rw [e2,e3];rfl
theorem Qcn {m:ImgD}(h:Qaq m=0):Qai m=m:=by
 obtain⟨hs,hc,hf⟩:=Qbs h;unfold Qai;have e:Qck m.slots (cntL m)=m.slots:=by
  apply List.ext_getElem
  ·exact Qbt _ _
  ·intro j h1 h2;rw [QaB h1,QaB h2,QbW h2]
   split
   ·rename_i hz
    have hfj:=hf j h2;unfold Qb5 at hfj;rw [hz] at hfj;have hk:(m.slots.getD j default).1=0:=by simpa using hfj
    have ok:=QaG (Qad hs).2.1 h2;rw [QaB h2] at ok;unfold okD QaZ at ok;rw [if_pos hk] at ok
    generalize m.slots.getD j default=s at hk ok
    obtain⟨a,b,c⟩:=s;simp at hk ok
    subst hk;rw [ok.1,ok.2];rfl
   ·rfl
 rw [e,hc]

theorem QeB {L:List Qag}{j:Nat}(h:kd L j≠0):j<L.length:=by
 rcases Nat.lt_or_ge j L.length with h' | h'
 ·exact h'
 ·exfalso;apply h;unfold kd;rw [show L.getD j default=default by simp [List.getD,Nat.not_lt.2 h']];rfl
theorem QnR {L L':List Qag}{j:Nat}(h:L'.getD j default=L.getD j default):Qaz L' j=Qaz L j:=by
 unfold Qaz;rw [Int.toNat_natCast,h]
theorem Qpt {L L':List Qag}{j:Nat}(h:L'.getD j default=L.getD j default):kd L' j=kd L j:=by
 unfold kd;rw [h]
structure Ext (L L':List Qag) (t:Nat) (es:List Int):Prop where
 len:L'.length≤40
 keep:∀j,j≠t→kd L j≠0→L'.getD j default=L.getD j default
 tab:L'.getD t default=(2,⟨#[]⟩,es)
 page:kd L t≠1
 ok:∀j,j<L'.length→okD (L'.getD j default)=true
 head:kd L' 0=0
 tabs:∀j,j≠t→kd L' j=2→kd L j=2
 ents:∀e ∈ es,tabE L' e=true
theorem Ext.kdt {L L':List Qag}{t:Nat}{es:List Int}(h:Ext L L' t es):kd L' t=2:=by unfold kd;rw [h.tab]
theorem Ext.tlt {L L':List Qag}{t:Nat}{es:List Int}(h:Ext L L' t es):t<L'.length:=QeB (by rw [h.kdt];decide)
theorem Ext.t1 {L L':List Qag}{t:Nat}{es:List Int}(h:Ext L L' t es):1≤t:=by
 rcases Nat.eq_zero_or_pos t with e | e
 ·have:=h.kdt;rw [e,h.head] at this;simp at this
 ·exact e
theorem Ext.tabt {L L':List Qag}{t:Nat}{es:List Int}(h:Ext L L' t es):Qaz L' t=es:=by unfold Qaz;rw [Int.toNat_natCast,h.tab]
theorem Ext.data {L L':List Qag}{t:Nat}{es:List Int}(h:Ext L L' t es){j:Nat}(hj:kd L j=1):L'.getD j default=L.getD j default:=
 h.keep j (fun e=>h.page (by rw [←e];exact hj)) (by rw [hj];decide)
theorem Ext.slots {L L':List Qag}{t:Nat}{es:List Int}(h:Ext L L' t es):Qap L'=0:=by
 refine Qdb (by have:=h.tlt;omega) h.len (fun j hj=>?_) ?_
 ·rw [QaB hj];exact h.ok j hj
 ·rw [QaB];exact h.head
theorem Ext.tabE {L L':List Qag}{t:Nat}{es:List Int}(h:Ext L L' t es)(h0:Qap L=0){e:Int}(he:tabE L e=true):Go.Proofs.YtehleeibgkpjmagGreat.tabE L' e=true:=by
 rcases Qcw he with e0 | e1 | ⟨j,rfl,hj,hk⟩
 ·rw [e0];rfl
 ·rw [e1];rfl
 ·have j1:1≤j:=by
   rcases Nat.eq_zero_or_pos j with e | e
   ·subst e;rw [Qcs h0] at hk;simp at hk
   ·exact e
  rw [QdR (by omega) (by omega)];have hd:=h.data hk;have hk':kd L' j=1:=by rw [Qpt hd];exact hk
  exact Qdd (QeB (by rw [hk'];decide)) hk'
theorem Ext.fit {L L':List Qag}{t:Nat}{es:List Int}(h:Ext L L' t es)(h0:Qap L=0)(hf:QaW L=true):QaW L'=true:=by
 unfold QaW;rw [List.all_eq_true];intro s hs;obtain⟨j,hj,rfl⟩:=List.getElem_of_mem hs;rw [QaB hj,List.all_eq_true];intro e he
 by_cases hjt:j=t
 ·subst hjt;rw [h.tab] at he;exact h.ents e he
 ·by_cases hk:kd L' j=2
  ·have hk0:=h.tabs j hjt hk;have hkeep:=h.keep j hjt (by rw [hk0];decide);rw [hkeep] at he;have he':e ∈ Qaz L (j:Int):=by unfold Qaz;rw [Int.toNat_natCast];exact he
   exact h.tabE h0 (List.all_eq_true.1 (QgD hf j) e he')
  ·exfalso
   have ok:=h.ok j hj;unfold kd at hk;unfold okD QaZ at ok
   generalize L'.getD j default=s at ok hk he
   rw [if_neg (c:=s.1=2) hk] at ok
   split at ok
   ·simp at ok;rw [ok.2] at he;cases he
   split at ok
   ·simp at ok;rw [ok.2] at he;cases he
   ·cases ok
structure Lone (m:ImgD) (k t:Nat):Prop where
 root:∀i,i<m.root.length→i≠k→m.root.getD i 0≠(t:Int)
 snap:∀s ∈ m.snaps,(t:Int) ∉ s.2.2
def QcU (m:ImgD) (k t:Nat) (L':List Qag) (rf:List Int):ImgD:={ m with root:=m.root.set k (t:Int),slots:=L',refs:=rf }
theorem QbD (l:List Int)(i j:Nat)(x:Int):(l.set i x).getD j 0=if i=j∧j<l.length then x else l.getD j 0:=Qdk l i j x
theorem Qcu {L L':List Qag}{t:Nat}{es:List Int}(h:Ext L L' t es)(h0:Qap L=0){x:Int}(hx:Qbf L x=true)(hne:x≠(t:Int)):Qbf L' x=true∧Qaz L' x=Qaz L x:=by
 rcases QbG hx with e | ⟨j,rfl,hj,hk⟩
 ·subst e;refine⟨rfl,?_⟩;have a:Qaz L 0=[]:=by
   have ok:=QaG h0 (Qah h0).1;rw [QaB (Qah h0).1] at ok;have hk:=Qcs h0;unfold kd at hk;unfold okD QaZ at ok;rw [if_pos hk] at ok;simp at ok
   unfold Qaz
   simpa using ok.2
  have hs:=h.slots;have b:Qaz L' 0=[]:=by
   have ok:=QaG hs (Qah hs).1;rw [QaB (Qah hs).1] at ok;have hk:=h.head;unfold kd at hk;unfold okD QaZ at ok;rw [if_pos hk] at ok;simp at ok
   unfold Qaz
   simpa using ok.2
  rw [a,b]
 ·have hjt:j≠t:=fun e=>hne (by rw [e])
  have hkeep:=h.keep j hjt (by rw [hk];decide);have hk':kd L' j=2:=by rw [Qpt hkeep];exact hk
  have j1:1≤j:=by
   rcases Nat.eq_zero_or_pos j with e | e
   ·subst e;rw [Qcs h0] at hk;simp at hk
   ·exact e
  refine⟨?_,QnR hkeep⟩;rw [QbH (by omega)];exact Qdd (QeB (by rw [hk'];decide)) hk'
theorem Qib {L L':List Qag}{t:Nat}{es:List Int}(h:Ext L L' t es)(h0:Qap L=0){g:Int}{r:List Int}(hf:Qas L g r=true)(hne:(t:Int) ∉ r):Qas L' g r=true:=by
 unfold Qas at hf ⊢;simp only [Bool.and_eq_true,decide_eq_true_eq] at hf ⊢;refine⟨hf.1,?_,?_⟩
 ·rw [List.all_eq_true];intro x hx;exact (Qcu h h0 (List.all_eq_true.1 hf.2.1 x hx) (fun e=>hne (e ▸ hx))).1
 ·have hl:=hf.2.2;unfold QbX at hl ⊢
  by_cases hr:r.length=0
  ·rw [List.length_eq_zero_iff.1 hr];simp
  ·have hlt:r.length - 1<r.length:=by omega
   have hmem:r.getD (r.length - 1) 0 ∈ r:=by rw [Qbz hlt];exact List.getElem_mem hlt
   rw [(Qcu h h0 (Qci hf.2.1 hlt) (fun e=>hne (e ▸ hmem))).2];exact hl
theorem QhH {m:ImgD}{k t:Nat}{L':List Qag}{es rf:List Int}(h:Qao m=0)(hk:k<m.root.length)(hx:Ext m.slots L' t es)(hl:Lone m k t)(hrf:rf.length=L'.length)
  (hlast:k=m.root.length - 1→m.guest % 4≠0→(es.drop (m.guest % 4).toNat).all (fun e=>e == 0)=true):Qao (QcU m k t L' rf)=0:=by
 obtain⟨z1,z2,z3,z4,z5,z6,z7⟩:=Qad h;have hs:=hx.slots;have ht:=hx.fit z2 z6;have hroot:=List.all_eq_true.1 z7 (⟨#[]⟩,m.guest,m.root) List.mem_cons_self;dsimp only at hroot;have hr:Qas L' m.guest (m.root.set k (t:Int))=true:=by
  unfold Qas at hroot ⊢;simp only [Bool.and_eq_true,decide_eq_true_eq] at hroot ⊢;refine⟨by rw [List.length_set];exact hroot.1,?_,?_⟩
  ·rw [List.all_eq_true];intro x hx';obtain⟨j,hj,rfl⟩:=List.getElem_of_mem hx';rw [List.length_set] at hj;rw [List.getElem_set]
   by_cases e:k=j
   ·rw [if_pos e,QbH (by have:=hx.t1;omega)];exact Qdd hx.tlt hx.kdt
   ·rw [if_neg e];have hE:=Qci hroot.2.1 hj;have hn:=hl.root j hj (fun x=>e x.symm);rw [Qbz hj] at hE hn;exact (Qcu hx z2 hE hn).1
  ·unfold QbX;rw [List.length_set,QbD]
   by_cases hg:m.guest % 4=0
   ·simp [hg]
   have hg':(m.guest % 4 == 0)=false:=by simpa using hg
   rw [hg',Bool.false_or];have hlt:m.root.length - 1<m.root.length:=by omega
   by_cases e:k=m.root.length - 1
   ·rw [if_pos ⟨e,hlt⟩,hx.tabt];have:=hlast e hg;rw [this];simp
   ·rw [if_neg (fun x=>e x.1)];have hold:=hroot.2.2;unfold QbX at hold;rw [hg',Bool.false_or] at hold;rw [(Qcu hx z2 (Qci hroot.2.1 hlt) (hl.root _ hlt (fun x=>e x.symm))).2];exact hold
 have hall:(Qax (QcU m k t L' rf)).all (fun s=>Qas L' s.2.1 s.2.2)=true:=by
  show (((⟨#[]⟩,m.guest,m.root.set k (t:Int)):Qav) :: m.snaps).all _=true
  rw [List.all_cons,hr,Bool.true_and,List.all_eq_true];intro s hsm;exact Qib hx z2 (List.all_eq_true.1 z7 s (List.mem_cons_of_mem _ hsm)) (hl.snap s hsm)
 have hgall:(Qax (QcU m k t L' rf)).all (fun s=>Qay s.2.1)=true:=by
  show (((⟨#[]⟩,m.guest,m.root.set k (t:Int)):Qav) :: m.snaps).all _=true
  have:=z5;unfold Qax at this;rw [List.all_cons] at this ⊢;exact this
 unfold Qao;rw [if_neg (by show ¬3<m.snaps.length;omega),if_neg (by show ¬Qap L'≠0;simpa using hs),if_neg,if_neg (by rw [hgall];decide),if_neg (by show ¬QaW L'=false;rw [ht];decide),if_neg (by have e:=hall;show ¬((Qax (QcU m k t L' rf)).all fun s=>Qas L' s.2.1 s.2.2)=false;rw [e];decide)];rintro (e | e)
 ·exact e hrf
 ·have:QaJ m.snaps=false:=e;rw [z4] at this;cases this
theorem Qiz {m:ImgD}{k t:Nat}{L':List Qag}{es rf:List Int}(hx:Ext m.slots L' t es)(h0:Qap m.slots=0)(hl:Lone m k t)(hall:m.root.all (Qbf m.slots)=true)(n:Nat)(hn:n / 4<m.root.length) :
  QaT (QcU m k t L' rf) (m.root.set k (t:Int)) n=if n / 4=k then es.getD (n % 4) 0 else QaT m m.root n:=by
 have hg:=QbD m.root k (n / 4) (t:Int)
 by_cases e:n / 4=k
 ·rw [if_pos (⟨e.symm,hn⟩:k=n / 4∧n / 4<m.root.length)] at hg;unfold QaT;rw [hg,if_pos e,if_neg (by have:=hx.t1;omega)]
  show (Qaz L' (t:Int)).getD (n % 4) 0=_
  rw [hx.tabt]
 ·rw [if_neg (fun x=>e x.1.symm)] at hg;rw [if_neg e];unfold QaT;rw [hg]
  by_cases hz:m.root.getD (n / 4) 0=0
  ·rw [if_pos hz,if_pos hz]
  ·rw [if_neg hz,if_neg hz]
   show (Qaz L' _).getD (n % 4) 0=_
   rw [(Qcu hx h0 (Qci hall hn) (hl.root _ hn e)).2]
theorem QmB {m:ImgD}{k t:Nat}{L':List Qag}{es rf:List Int}(hx:Ext m.slots L' t es)(h0:Qap m.slots=0){r:List Int}(hall:r.all (Qbf m.slots)=true)(hne:(t:Int) ∉ r)(n:Nat)(hn:n / 4<r.length) :
  QaT (QcU m k t L' rf) r n=QaT m r n:=by
 unfold QaT
 by_cases hz:r.getD (n / 4) 0=0
 ·rw [if_pos hz,if_pos hz]
 ·rw [if_neg hz,if_neg hz]
  show (Qaz L' _).getD (n % 4) 0=_
  rw [(Qcu hx h0 (Qci hall hn) (fun e=>hne (by rw [←e,Qbz hn];exact List.getElem_mem hn))).2]
theorem Qnp {L L':List Qag}{t:Nat}{es:List Int}(hx:Ext L L' t es){e:Int}(he:e=0∨e = -1∨∃j:Nat,e=j∧1≤j∧j<L.length∧kd L j=1):QiV L' e=QiV L e:=by
 unfold QiV;rcases he with rfl | rfl | ⟨j,rfl,j1,hj,hk⟩
 ·rfl
 ·rfl
 ·rw [if_neg (by omega),if_neg (by omega),Int.toNat_natCast,hx.data hk]
def Qb7 (L:List Qag) (g:Nat):Prop:=1≤g∧g≤L.length∧(∀j,(h:j<L.length)→1≤j→j<g→(L[j]).1≠0)∧∀h:g<L.length,(L[g]).1=0
theorem Qb7.unique {L:List Qag}{g g':Nat}(h:Qb7 L g)(k:Qb7 L g'):g=g':=by
 obtain⟨h1,h2,h3,h4⟩:=h;obtain⟨k1,k2,k3,k4⟩:=k;rcases Nat.lt_trichotomy g g' with e | e | e
 ·exact absurd (h4 (by omega)) (k3 g (by omega) h1 e)
 ·exact e
 ·exact absurd (k4 (by omega)) (h3 g' (by omega) k1 e)
theorem Qpe (b off cap n:Nat)(L:List Qag)(w:World)(hn:L.length=n)(h1:1≤n)(h40:n≤40)(hlt:b<w.heap.size)(hc:∀j,(h:j<L.length)→SlAt w b (off+j*3) L[j])(hs:QaQ w (.slice (some ⟨b,off,none⟩) n cap) L)(hE:Qap L=0) :
  Calls Tryz.prog 66 #[.slice (some ⟨b,off,none⟩) n cap] w fun r w'=>((Qb7 L 40∧r=.returned (.tuple #[.int .i64 0,.int .i64 7]))∨∃g:Nat,g<40∧Qb7 L g∧r=.returned (.tuple #[.int .i64 g,.int .i64 0]))∧Below w.heap.size w w':=by
 have HC:Hid (∀j,(h:j<L.length)→SlAt w b (off+j*3) L[j]):=hc;have HN:Hid (L.length=n):=hn;have HE:Hid (Qap L=0):=hE;clear hc hn hE
 go_enter Tryz.func66,Tryz.ntmps66
 go_wp2_with (go_at_call 92;refine (Qc1 _ L _ hs).mono ?_;rintro e w1 ⟨he,b1⟩;rw [HE.out] at he;subst he)
 go_loop [5] (fun i=>∃k:Nat,1≤k∧k≤n∧i=.int .i64 k∧∀j,(h:j<L.length)→1≤j→j<k→(L[j]).1≠0) (fun i=>n - (intOf i).toNat)
 case atStart=>exact⟨1,Nat.le_refl _,h1,rfl,fun j h hj hj'=>absurd hj' (by omega)⟩
 case round=>
  obtain⟨k,hk1,hk,rfl,hall⟩:=hrel;have HA:Hid (∀j,(h:j<L.length)→1≤j→j<k→(L[j]).1≠0):=hall;clear hall;have fin:∀g:Nat,Qb7 L g→g=k→((Qb7 L 40∧(k:Int)=40)∨(k:Int)≠40):=fun g hg e=>by
   subst e
   by_cases e:(g:Int)=40
   ·have:g=40:=by omega
    subst this;exact .inl ⟨hg,rfl⟩
   ·exact .inr e
  have HF:Hid (∀g:Nat,Qb7 L g→g=k→((Qb7 L 40∧(k:Int)=40)∨(k:Int)≠40)):=fin;clear fin
  by_cases hlk:k<n
  ·obtain⟨s,hs'⟩:∃s,s=L[k]'(by rw [HN.out];exact hlk):=⟨_,rfl⟩;obtain⟨kk,dd,tt⟩:=s;have hS:SlAt w b (off+k*3) (kk,dd,tt):=by rw [hs'];exact HC.out k _
   obtain⟨tv,c1,_,_,_⟩:=hS;have c1:w1.cell? ⟨b,off+k*3,none⟩=some (.int .i64 kk):=(b1.cell (p:=⟨b,off+k*3,none⟩) hlt).trans c1;have HS:Hid ((kk,dd,tt)=L[k]'(by rw [HN.out];exact hlk)):=hs';clear hs';have hki:(k:Int)<(n:Int):=by omega
   by_cases h0:kk=0
   ·have h0':(kk != 0)=false:=by simp [h0]
    have H0:Hid (kk=0):=h0;clear h0;have hne:((k:Int) == 40)=false:=by simp;omega
    have HG:Hid (Qb7 L k):=⟨hk1,by rw [HN.out];exact hk,HA.out,fun h=>by rw [←HS.out];exact H0.out⟩
    go_wp2
    go_ret2
    exact⟨.inr ⟨k,by omega,HG.out,rfl⟩,b1⟩
   ·have h0':(kk != 0)=true:=by simp [h0]
    go_wp2
    go_round
    case rel=>exact⟨k+1,by omega,by omega,by go_num,fun j h hj hj'=>by
     by_cases e:j=k
     ·subst e;rw [←HS.out];exact h0
     ·exact HA.out j h hj (by omega)⟩
    case measure=>simp [intOf];omega
  ·have e4:k=n:=by omega
   subst e4;have HG:Hid (Qb7 L k):=⟨hk1,by rw [HN.out];exact hk,HA.out,fun h=>absurd h (by rw [HN.out];omega)⟩
   by_cases e40:k=40
   ·subst e40
    go_wp2
    go_ret2
    exact⟨.inl ⟨HG.out,rfl⟩,b1⟩
   ·have hne:((k:Int) == 40)=false:=by simp;omega
    go_wp2
    go_ret2
    exact⟨.inr ⟨k,by omega,HG.out,rfl⟩,b1⟩
theorem QoV (v:Value)(L:List Qag)(w:World)(h:QaQ w v L)(hE:Qap L=0) :
  Calls Tryz.prog 66 #[v] w fun r w'=>((Qb7 L 40∧r=.returned (.tuple #[.int .i64 0,.int .i64 7]))∨∃g:Nat,g<40∧Qb7 L g∧r=.returned (.tuple #[.int .i64 g,.int .i64 0]))∧Below w.heap.size w w':=by
 have hs:=h;obtain⟨b,off,cap,rfl,hcp,hlt,hcell⟩:=h.open (Qah hE).1;exact Qpe b off cap _ L w rfl (Qah hE).1 (Qah hE).2 hlt hcell hs hE
end Go.Proofs.YtehleeibgkpjmagGreat
