/- Texts joined: Ali, Plain, LayS, LayU, LayV, LayR, DkN, Within, Leaf, Chk, Bare, Slot, Slots, Used, Img, LayT, Roots, Idx, SIdx, Kind, Fit, RFit, RFit2, Nm, Rise, Shape, Shape2, CntP. -/
import Derived.WalkKit
import Derived.Below
import Derived.Deep.RegionHeld
import Derived.RangeFuncRecord
import Derived.Test.YtfciijncfbepjaaGreatDoorProg
import Derived.Lib.AtoiAll
import Derived.Lib.ItoaMem
import Derived.Lib.IndexMore
import Derived.Test.YtfciijncfbepjaaGreatDoorRows
import Derived.WalkLawsBesides
import Derived.Deep.QuietTactic
import Derived.BigQuiet
import Derived.MapKept
import Derived.RangeFuncNested
import Derived.RangeFuncBound
import Derived.RangeFuncCalls
import Derived.RangeFuncLeaves
import Derived.Shelf.Abstract
import Derived.Shelf.RegionOpen
import Derived.OwnWalkIn
import Derived.TacticsInMore
import Derived.LoopNIn
import Derived.LoopIn
import Derived.Lib.OthersKept
import Derived.Laws.RangeAny
import Derived.Deep.RegionWith
import Derived.Deep.RegionHeld3
set_option linter.unusedVariables false
set_option linter.unusedSimpArgs false
set_option maxHeartbeats 200000000
set_option maxRecDepth 20000
namespace Go.Proofs.YtfciijncfbepjaaGreatDoor
open Go.Proofs.Tryz
open Go.RowKit
theorem oM {p:Prop}(h:p:=by omega):p:=h
def Hd (p:Prop):Prop:=p
theorem Hd.o {p:Prop}(h:Hd p):p:=h
theorem hM {p:Prop}(h:p):Hd p:=h
theorem AR {V:World}{o:Obj}{n:Nat}(h:V.heap.size=n):(V.alloc o).heap[n]?=some o:=h ▸ World.alloc_heap_new V o
abbrev Aa:=@if_neg
abbrev Ab:=@if_pos
abbrev C2:=@World.alloc_heap_new
abbrev Ax:=@List.all_eq_true
abbrev AN:=@Below.heap_setCell
abbrev AO:=@Nat.lt_of_lt_of_le
abbrev A5:=@Int.toNat_natCast
abbrev Bl:=@List.length_append
abbrev B6:=@Array.getElem?_eq_some_iff
abbrev Bi:=@List.length_set
abbrev AY:=@bodyPost_ret
abbrev AG:=@Below.refl
abbrev BT:=@wp_region_held_drew
abbrev Co:=@List.getElem?_eq_getElem
abbrev BF:=@List.length_cons
abbrev BP:=@Value.slice.injEq
abbrev Bg:=@Nat.le_trans
abbrev BI:=@List.length_take
abbrev A7:=@Nat.zero_le
abbrev Bc:=@Nat.le_refl
abbrev BH:=@List.length_map
abbrev BS:=@List.getElem_mem
abbrev BJ:=@Option.some.inj
abbrev AW:=@And.intro
abbrev B5:=@Bool.and_eq_true
abbrev CA:=@List.mem_cons_of_mem
abbrev Ct:=@Option.some.injEq
abbrev Ch:=@Below.heap_alloc
abbrev CD:=@List.mem_cons_self
abbrev DR:=@List.setIfInBounds_toArray
abbrev Ds:=@ownsRow_setCell_other
abbrev BQ:=@wpAnyH_done
abbrev DF:=@List.take_of_length_le
abbrev Es:=@List.getD_eq_getElem?_getD
abbrev C4:=@decide_eq_true_eq
abbrev CZ:=@List.length_drop
abbrev Dm:=@List.getElem?_map
abbrev EW:=@Classical.byContradiction
abbrev C1:=@List.length_nil
abbrev Ed:=@List.getElem?_eq_none
abbrev CR:=@List.mem_range
abbrev DY:=@List.getElem?_append
abbrev DE:=@List.set_cons_zero
abbrev C3:=@decide_eq_true
abbrev DG:=@World.ownsRow_nil
abbrev Dn:=@decide_eq_false
abbrev Ef:=@List.map_congr_left
abbrev Ee:=@List.getElem_of_mem
abbrev DZ:=@List.set_cons_succ
abbrev Dr:=@Nat.not_lt_zero
abbrev Cw:=@Nat.le_succ
abbrev Eg:=@Nat.eq_zero_or_pos
abbrev Dc:=@List.map_cons
abbrev DD:=@List.range_succ
abbrev DQ:=@List.map_append
abbrev FV:=@Int.eq_ofNat_of_zero_le
abbrev EG:=@List.size_toArray
abbrev Er:=@List.cons_append
abbrev Dq:=@Nat.lt_or_ge
abbrev Fg:=@List.getElem?_take
abbrev FA:=@beq_eq_false_iff_ne
abbrev FX:=@List.getElem?_set_ne
abbrev FU:=@Array.replicate_zero
abbrev FT:=@Array.replicate_succ
abbrev EX:=@List.ext_getElem
abbrev Fy:=@List.count_pos_iff
abbrev FW:=@List.append_toArray
abbrev Hg:=@List.take_append_getElem
abbrev IZ:=@List.eq_nil_of_length_eq_zero
abbrev EY:=@List.nil_append
abbrev Gp:=@Array.length_toList
abbrev D0:=@callsIn_wide
abbrev BM:=@Or.inr
abbrev GT:=@World.cell?_alloc_at
abbrev Fz:=@List.take_length
abbrev FY:=@List.push_toArray
abbrev Gq:=@List.getElem?_drop
abbrev Eh:=@Nat.zero_add
abbrev Hf:=@List.length_singleton
abbrev He:=@List.length_replicate
abbrev Iq:=@List.length_eq_zero_iff
abbrev EF:=@Bool.false_or
abbrev IU:=@Array.getElem?_eq_getElem
abbrev B3:=@Or.inl
abbrev DH:=@beq_iff_eq
abbrev Hb:=@List.flatMap_append
abbrev GS:=@Result.andThen_ok
abbrev Ff:=@Bool.true_and
abbrev I5:=@World.cell?_alloc_past
abbrev Ha:=@List.filter_append
abbrev GQ:=@List.map_toArray
abbrev Fi:=@Nat.add_zero
abbrev Fh:=@List.mem_map
abbrev GR:=@List.mem_append
abbrev FR:=@Addr.mk.injEq
abbrev G9:=@IntKind.wrap_i64
abbrev IX:=@ByteArray.toList_eq
abbrev Ip:=@List.append_assoc
abbrev JH:=@UInt8.lt_iff_toNat_lt
abbrev JC:=@List.mem_append_left
abbrev GP:=@List.all_cons
abbrev Fj:=@info_parts
abbrev Gr:=@List.map_nil
abbrev IY:=@List.count_append
abbrev It:=@Option.map_some
abbrev Lt:=@List.drop_eq_getElem_cons
abbrev I4:=@Option.bind_some
abbrev JD:=@List.mem_singleton
abbrev I3:=@List.mem_flatMap
abbrev Kh:=@List.mem_of_mem_take
abbrev Io:=@AllReadyH.cons
abbrev JK:=@of_decide_eq_true
abbrev LF:=@World.cell?_setCell_far
abbrev JB:=@List.ext_getElem?
abbrev IW:=@Bool.eq_iff_iff
abbrev Kl:=@callsIn_of_wp_marks
abbrev Ki:=@List.takeWhile_cons
abbrev Ir:=@List.mem_cons
abbrev Kf:=@List.count_eq_zero
abbrev Lz:=@List.mem_append_right
abbrev OH:=@List.findIdx?_eq_some_iff_getElem
abbrev MQ:=@List.pairwise_iff_getElem
abbrev MK:=@List.getElem?_eq_some_iff
abbrev JI:=@UInt8.toNat_inj
abbrev JE:=@List.sum_append
abbrev JA:=@List.append_nil
abbrev Is:=@Nat.sub_self
abbrev OQ:=@List.takeWhile_append_dropWhile
abbrev LB:=@List.toList_toArray
abbrev Km:=@run_takeDeferred
abbrev ML:=@List.getElem?_set_self
abbrev MI:=@List.drop_of_length_le
abbrev Ls:=@Int.cast_ofNat_Int
abbrev ME:=@Array.getElem?_eq_none
abbrev IR:=@Addr.add_lit
abbrev Kg:=@List.mem_filter
abbrev Kd:=@Bool.or_eq_true
abbrev JG:=@Nat.lt_irrefl
abbrev MF:=@List.countP_le_length
abbrev LA:=@List.take_add_one
abbrev Ly:=@List.length_range
abbrev Lr:=@Classical.not_not
abbrev Ja:=@setRow_heap
abbrev Kn:=@run_underlying
abbrev Iu:=@bne_iff_ne
abbrev MO:=@List.length_eraseIdx
abbrev MN:=@List.getLast?_concat
abbrev OJ:=@List.getElem?_append_right
abbrev IV:=@Below.grown
abbrev JN:=@wpList_plain
abbrev JL:=@setRow_other
abbrev JF:=@Nat.le_of_eq
abbrev Lx:=@List.getElem_map
abbrev Lw:=@List.filter_cons
abbrev Lu:=@List.drop_length
abbrev Lq:=@Bool.not_eq_true
abbrev Ox:=@Array.getElem_modify_self
abbrev Kj:=@Nat.add_assoc
abbrev OB:=@Bool.eq_false_or_eq_true
abbrev JM:=@wpAny_ready
abbrev JJ:=@leaves_cons
abbrev O1:=@World.putObj_heap_other
abbrev OK:=@List.getElem?_replicate
abbrev Hh:=@and_true
abbrev Kk:=@Nat.ne_of_gt
abbrev MM:=@List.getElem_set
abbrev LD:=@Prod.mk.injEq
abbrev OO:=@List.mem_of_mem_drop
abbrev OG:=@List.count_singleton
abbrev OE:=@List.count_le_length
abbrev MH:=@List.count_cons
abbrev LG:=@results_none
abbrev Jb:=@true_and
abbrev O0:=@World.ownsRow_made
abbrev OZ:=@Option.toList_some
abbrev OS:=@Nat.lt_trichotomy
abbrev OL:=@List.getElem_drop
abbrev Oy:=@Array.size_modify
abbrev MS:=@callsD_of_wpS
abbrev Oz:=@Array.toList_inj
abbrev RA:=@run_convert_bytes_back
abbrev MT:=@ints_oneCell
abbrev LC:=@Nat.mod_lt
abbrev OY:=@Oper.semAt_some
abbrev OU:=@Nat.min_eq_left
abbrev Rw:=@List.take_append_drop
abbrev Ru:=@List.length_filter_le
abbrev MU:=@wpAnyH_take
abbrev O2:=@heap_alloc_new
abbrev Rz:=@World.cell?_of_block
abbrev Rv:=@List.mem_iff_getElem
abbrev OC:=@Bool.false_and
abbrev Rq:=@Int.toNat_of_nonneg
abbrev O4:=@wp_region_any
abbrev OP:=@List.sum_cons
abbrev OD:=@ByteArray.ext
abbrev OA:=@Bool.and_true
abbrev Ow:=@AllReadyH.nil
abbrev MW:=@wpS_region
abbrev Ry:=@UInt8.toNat_ofNat'
abbrev Rp:=@Array.size_extract
abbrev RC:=@wpList_append_own
abbrev O3:=@wpAnyH_ready
abbrev RB:=@run_storeCells_at
abbrev OW:=@Nat.ne_of_lt
abbrev OR:=@Nat.le_of_lt
abbrev ON:=@List.map_set
abbrev OM:=@List.map_map
abbrev Rs:=@List.foldl_append
abbrev Rr:=@List.flatMap_cons
abbrev Ke:=@Iff.rfl
abbrev MV:=@wpS_of_wp
abbrev Rx:=@Option.getD_some
abbrev Vx:=@Array.eq_empty_of_size_eq_zero
abbrev OV:=@Nat.mul_one
abbrev OT:=@Nat.min_def
abbrev Vz:=@List.take_append_of_le_length
abbrev Vy:=@List.drop_append_of_le_length
variable {A W W' w w1:World}{v:Value}{l r xs:List Int}{p:Int->Bool}{B Bm b base cap fuel g j k n₀ off:Nat}{a:Act}{P:Program}{ops:Array Oper}{Q:Exit->Act->World->Prop}{S:World->Prop}{listed:Array Bool}{o0 o1 oi:Oper}{s:ByteArray}{kind:Int}{t:TypeId}{fr:Nat × Nat}
def Cf (e:Int):Bool:=e == 0 || (e == -1 || (decide (1<=e) && decide (e<40)))
def Bp (xs:List Int):Int:=if xs.length=4/\xs.all Cf=true then 0 else 1
def BE (xs:List Int):Bool:=xs.all (fun x=>x == 0)
def EJ (xs:List Int):Bool:=if Bp xs=0 then BE xs else false
def AU (xs:List Int) (n:Nat):List Int:=xs.take n++List.replicate (4-n) 0
def Sl (w:World) (v:Value) (xs:List Int):Prop:=
 ∃ao cap,v=.slice ao xs.length cap/\xs.length<=maxLen/\xs.length<=cap/\(xs≠[]->∃b off,ao=some ⟨b,off,none⟩/\b<w.heap.size/\∀j,j<xs.length->w.cell? ⟨b,off+j,none⟩=some (.int .i64 (xs.getD j 0)))

theorem Sl.below (h:Sl w v xs)(hb:Below w.heap.size w w1):Sl w1 v xs:=by
 obtain⟨ao,cap,hv,hm,ab,hc⟩:=h;refine⟨ao,cap,hv,hm,ab,fun hne=>?_⟩;obtain⟨b,off,ha,hlt,aa⟩:=hc hne;exact⟨b,off,ha,AO hlt hb.size,fun j hj=>(hb.cell (p:=⟨b,off+j,none⟩) hlt).trans (aa j hj)⟩

theorem Below.on {w2:World}(h:Below w.heap.size w w1)(k:Below w1.heap.size w1 w2):Below w.heap.size w w2:=h.trans (k.mono h.size)

theorem Sl.nil (w:World):Sl w (.slice none 0 0) []:=⟨none,0,rfl,A7 _,A7 _,fun h=>absurd rfl h⟩

theorem LM (h4:xs.length=4)(h:xs.all Cf=true):Bp xs=0:=by unfold Bp;rw[Ab ⟨h4,h⟩]
theorem Nh (h:¬(xs.length=4/\xs.all Cf=true)):Bp xs=1:=by unfold Bp;rw[Aa h]
theorem Dv (h:Bp xs=0):xs.length=4:=by
 unfold Bp at h;split at h
 ·rename_i g;exact g.1
 ·simp at h
theorem Pk (h:Bp xs=0):xs.all Cf=true:=by
 unfold Bp at h;split at h
 ·rename_i g;exact g.2
 ·simp at h
theorem RW (xs:List Int):Bp xs=0\/Bp xs=1:=by unfold Bp;split<;>simp

theorem M9 (h:∀j,j<xs.length->p (xs.getD j 0)=true):xs.all p=true:=by
 rw[Ax];intro x hx;obtain⟨j,hj,rfl⟩:=Ee hx;have:=h j hj
 simpa[List.getD,hj] using this
theorem L9 (hj:j<xs.length)(h:p (xs.getD j 0)=false):xs.all p=false:=by
 cases e:xs.all p with
 | false=>rfl
 | true=>
  rw[Ax]at e;have:=e _ (BS hj);simp[List.getD,hj]at h
  rw[h]at this;cases this
theorem Ol {x:Int}(h:∀j,j<k->p (xs.getD j 0)=true)(hx:xs.getD k 0=x)(hp:p x=true):∀j,j<k+1->p (xs.getD j 0)=true:=by
 intro j hj
 by_cases e:j=k
 ·subst e;rw[hx];exact hp
 ·exact h j oM
theorem Cj {k:IntKind}{a b:Int}(h:a=b):Ending.returned (.int k a)=.returned (.int k b):=by rw[h]
theorem Fs {a b:Bool}(h:a=true↔b=true):Ending.returned (.bool a)=.returned (.bool b):=by rw[IW.2 h]
theorem D8 {a b:Bool}(h:a=b):Ending.returned (.bool a)=.returned (.bool b):=by rw[h]

theorem EI (b off j:Nat):(⟨b,off,none⟩:Addr).add j=⟨b,off+j,none⟩:=by
 unfold Addr.add;split
 ·rename_i h;subst h;rfl
 ·rfl

theorem Sl.cells {ao:Option Addr}{n:Nat}(h:Sl w (.slice ao n cap) xs):xs.length=n/\n<=9223372036854775807/\n<=cap/\∀j,j<n->∃b off,ao=some ⟨b,off,none⟩/\b<w.heap.size/\w.cell? ⟨b,off+j,none⟩=some (.int .i64 (xs.getD j 0)):=by
 obtain⟨ac,cap',hv,hm,ab,hc⟩:=h;simp only[BP]at hv;obtain⟨rfl,rfl,rfl⟩:=hv;unfold maxLen at hm;refine⟨rfl,oM,ab,fun j hj=>?_⟩;obtain⟨b,off,rfl,hlt,aa⟩:=hc (by intro e;rw[e]at hj;simp at hj);exact⟨b,off,rfl,hlt,aa j hj⟩

theorem Sl.form (h:Sl w v xs):∃ao cap,v=.slice ao xs.length cap:=by
 obtain⟨ao,cap,hv,_⟩:=h;exact⟨ao,cap,hv⟩

theorem VK {n:Nat}(h:w.ownsRow base 3 1 (.slice (some ⟨g,0,none⟩) n cap) n (xs.map (.int .i64))):Sl w (.slice (some ⟨g,0,none⟩) n cap) xs:=by
 have hl:xs.length=n:=by have:=h.1;simpa using this
 have hc:=fun j=>h.cellAt j
 obtain⟨_,h2⟩:=h;rcases h2 with⟨h',_⟩|⟨g',cap',cur,h',_,hg,hnc,hcm,_,_⟩
 ·simp at h'
 ·simp only[BP,Ct,FR,Hh,Jb]at h';obtain⟨rfl,rfl⟩:=h';refine⟨_,cap,by rw[hl],by rw[hl];exact Bg hnc hcm,by rw[hl];exact hnc,fun _=>⟨g,0,rfl,(B6.1 hg).1,fun j hj=>?_⟩⟩;rw[Eh,hc j oM];simp[List.getD,hj]

theorem Sl.four (h:Sl w v xs)(h4:xs.length=4):∃b off cap,v=.slice (some ⟨b,off,none⟩) 4 cap/\4<=cap/\b<w.heap.size/\∀j,j<4->w.cell? ⟨b,off+j,none⟩=some (.int .i64 (xs.getD j 0)):=by
 obtain⟨ao,cap,rfl,hm,ab,hc⟩:=h;obtain⟨b,off,rfl,hlt,aa⟩:=hc (by intro e;rw[e]at h4;simp at h4);rw[h4]at aa ab ⊢;exact⟨b,off,cap,rfl,ab,hlt,aa⟩

theorem TH {n:Nat}(h:w.ownsRow base 3 1 (.slice (some ⟨g,0,none⟩) n cap) n (xs.map (.int .i64)))(k:Nat)(hk:k<n):∃u,w.cell? ⟨g,k,none⟩=some u:=by
 rw[h.cellAt k oM];have hl:xs.length=n:=by have:=h.1;simpa using this
 exact⟨.int .i64 (xs[k]),by simp[show k<xs.length by omega]⟩
theorem TJ {n:Nat}(h:w.ownsRow base 3 1 (.slice (some ⟨g,0,none⟩) n cap) n (xs.map (.int .i64)))(k:Nat)(e:Int):(w.setCell ⟨g,k,none⟩ (.int .i64 e)).ownsRow base 3 1 (.slice (some ⟨g,0,none⟩) n cap) n ((xs.set k e).map (.int .i64)):=by
 have:=(h.stored k (.int .i64 e)).1;rw[ON];exact this
theorem TI {n:Nat}{xs:List Value}(h:w.ownsRow base 3 1 (.slice (some ⟨g,0,none⟩) n cap) n xs):base<=g:=(h.lt g rfl).1

theorem VI (w:World)(xs:List Int)(n:Nat)(hn:xs.length=n)(hm:n<=maxLen):Sl (w.alloc (.cells (xs.map (Value.int .i64)).toArray 3)) (.slice (some ⟨w.heap.size,0,none⟩) n n) xs:=by
 subst hn;refine⟨_,_,rfl,hm,Bc _,fun _=>⟨w.heap.size,0,rfl,by simp,fun j hj=>?_⟩⟩;rw[Eh,GT _ _ _ _ rfl];simp[List.getD,hj]
theorem VJ (w:World)(g:Nat)(hg:g=w.heap.size)(a b c d:Int):Sl (w.alloc (.cells #[.int .i64 a,.int .i64 b,.int .i64 c,.int .i64 d] 3)) (.slice (some ⟨g,0,none⟩) 4 4) [a,b,c,d]:=by subst hg;exact VI w [a,b,c,d] 4 rfl (by decide)
theorem Sl.past (h:Sl w v xs)(o:Obj):Sl (w.alloc o) v xs:=h.below ((AG _ _).alloc (Bc _) o)

theorem Below.on' {w2 w3:World}(h:Below w.heap.size w w1)(k:Below w1.heap.size w1 w2)(l:Below w2.heap.size w2 w3):Below w.heap.size w w3:=Below.on (Below.on h k) l


abbrev nl:Value:=Value.slice (none) 0 0
abbrev zI:Obj:=Obj.cells #[Value.int .i64 0,nl,nl,nl,nl] 33
abbrev bI (g:Int) (ra:Option Addr) (rn rc:Nat) (sa:Option Addr) (sn sc:Nat) (fa:Option Addr) (fn fc:Nat) (na:Option Addr) (nn nc:Nat):Array Value:=#[Value.int .i64 g,Value.slice ra rn rc,Value.slice sa sn sc,Value.slice fa fn fc,Value.slice na nn nc]
theorem lays:(∀ (a:Act) (d:Tmp) (v:Value),a.put (some d) v = {a with tmps:=a.tmps.setIfInBounds d v})/\(∀ (a:Act) (v:Value),a.put none v=a)/\(∀ (l:List Value) (i:Nat) (x:Value),l.toArray.setIfInBounds i x=(l.set i x).toArray)/\(∀ (a x:Value) (l:List Value),(a::l).set 0 x=x::l)/\(∀ (a:Value) (l:List Value) (i:Nat) (x:Value),(a::l).set (i+1) x=a::l.set i x)
  /\(∀ (l:List Oper) (i:Nat) (h:i<l.toArray.size),l.toArray[i]=l[i]'(by simpa using h))/\(∀ (a:Oper) (l:List Oper) (h:0<(a::l).length),(a::l)[0]=a)/\(∀ (a:Oper) (l:List Oper) (i:Nat) (h:i+1<(a::l).length),(a::l)[i+1]=l[i]'(by simpa using h)):=
 ⟨fun _ _ _=>rfl,fun _ _=>rfl,fun _ _ _=>by simp,fun _ _ _=>rfl,fun _ _ _ _=>rfl,fun _ _ _=>by simp,fun _ _ _=>rfl,fun _ _ _ _=>rfl⟩
theorem Fe {md:Region.Mode}(i:Nat)(v:Value)(hi:ops[i]?=some oi)(hy:YieldsIf P ops S oi v a)(hS:S w)(h:wpAnyH P md ops Q S fuel (listed.setIfInBounds i true) (a.put oi.dst v) w)(hs:Region.noSelect ops=true:=by kernel_rfl)(hf:Region.free md ops listed i=true:=by kernel_rfl)(hr:(Region.ready md ops listed).contains i=true:=by kernel_rfl)(hQ:∀c a w,Q (.panic c) (a.put oi.dst v) w->Q (.panic c) a w:=by exact fun _ _ _ h=>h):wpAnyH P md ops Q S (fuel+1) listed a w:=MU hi hs hf hr hQ hy hS h
theorem AC {md:Region.Mode}(i0:Nat)(e0:ops[i0]?=some o0)(h0:(∀K':Act->World->Prop,Shut (∀a w,S w->(S w->wpAnyH P md ops Q S fuel (listed.setIfInBounds i0 true) a w)->K' a w)->if Region.wanted o0 (yielded ops a.tmps)=true then Oper.wp P o0 a w K' Q else K' (a.put o0.dst undef) w))(hr:Region.ready md ops listed=[i0]:=by kernel_rfl):wpAnyH P md ops Q S (fuel+1) listed a w:=O3 hr (by simp) (Io e0 h0 Ow)
theorem Jo {md:Region.Mode}(i0 i1:Nat)(e0:ops[i0]?=some o0)(e1:ops[i1]?=some o1)(h0:(∀K':Act->World->Prop,Shut (∀a w,S w->(S w->wpAnyH P md ops Q S fuel (listed.setIfInBounds i0 true) a w)->K' a w)->if Region.wanted o0 (yielded ops a.tmps)=true then Oper.wp P o0 a w K' Q else K' (a.put o0.dst undef) w))(h1:(∀K':Act->World->Prop,Shut (∀a w,S w->(S w->wpAnyH P md ops Q S fuel (listed.setIfInBounds i1 true) a w)->K' a w)->if Region.wanted o1 (yielded ops a.tmps)=true then Oper.wp P o1 a w K' Q else K' (a.put o1.dst undef) w))(hr:Region.ready md ops listed=[i0,i1]:=by kernel_rfl):wpAnyH P md ops Q S (fuel+1) listed a w:=O3 hr (by simp) (Io e0 h0 (Io e1 h1 Ow))
theorem kJ {md:Region.Mode}(i0 i1 i2:Nat){o2:Oper}(e0:ops[i0]?=some o0)(e1:ops[i1]?=some o1)(e2:ops[i2]?=some o2)(h0:(∀K':Act->World->Prop,Shut (∀a w,S w->(S w->wpAnyH P md ops Q S fuel (listed.setIfInBounds i0 true) a w)->K' a w)->if Region.wanted o0 (yielded ops a.tmps)=true then Oper.wp P o0 a w K' Q else K' (a.put o0.dst undef) w))(h1:(∀K':Act->World->Prop,Shut (∀a w,S w->(S w->wpAnyH P md ops Q S fuel (listed.setIfInBounds i1 true) a w)->K' a w)->if Region.wanted o1 (yielded ops a.tmps)=true then Oper.wp P o1 a w K' Q else K' (a.put o1.dst undef) w))(h2:(∀K':Act->World->Prop,Shut (∀a w,S w->(S w->wpAnyH P md ops Q S fuel (listed.setIfInBounds i2 true) a w)->K' a w)->if Region.wanted o2 (yielded ops a.tmps)=true then Oper.wp P o2 a w K' Q else K' (a.put o2.dst undef) w))(hr:Region.ready md ops listed=[i0,i1,i2]:=by kernel_rfl):wpAnyH P md ops Q S (fuel+1) listed a w:=O3 hr (by simp) (Io e0 h0 (Io e1 h1 (Io e2 h2 Ow)))
theorem kK {md:Region.Mode}(i0 i1 i2 i3:Nat){o2 o3:Oper}(e0:ops[i0]?=some o0)(e1:ops[i1]?=some o1)(e2:ops[i2]?=some o2)(e3:ops[i3]?=some o3)(h0:(∀K':Act->World->Prop,Shut (∀a w,S w->(S w->wpAnyH P md ops Q S fuel (listed.setIfInBounds i0 true) a w)->K' a w)->if Region.wanted o0 (yielded ops a.tmps)=true then Oper.wp P o0 a w K' Q else K' (a.put o0.dst undef) w))(h1:(∀K':Act->World->Prop,Shut (∀a w,S w->(S w->wpAnyH P md ops Q S fuel (listed.setIfInBounds i1 true) a w)->K' a w)->if Region.wanted o1 (yielded ops a.tmps)=true then Oper.wp P o1 a w K' Q else K' (a.put o1.dst undef) w))(h2:(∀K':Act->World->Prop,Shut (∀a w,S w->(S w->wpAnyH P md ops Q S fuel (listed.setIfInBounds i2 true) a w)->K' a w)->if Region.wanted o2 (yielded ops a.tmps)=true then Oper.wp P o2 a w K' Q else K' (a.put o2.dst undef) w))(h3:(∀K':Act->World->Prop,Shut (∀a w,S w->(S w->wpAnyH P md ops Q S fuel (listed.setIfInBounds i3 true) a w)->K' a w)->if Region.wanted o3 (yielded ops a.tmps)=true then Oper.wp P o3 a w K' Q else K' (a.put o3.dst undef) w))(hr:Region.ready md ops listed=[i0,i1,i2,i3]:=by kernel_rfl):wpAnyH P md ops Q S (fuel+1) listed a w:=O3 hr (by simp) (Io e0 h0 (Io e1 h1 (Io e2 h2 (Io e3 h3 Ow))))
theorem Av {o:Obj}:Below W.heap.size W (W.alloc o):=(AG W.heap.size W).alloc (Bc W.heap.size) o
theorem Aw (W:World)(o:Obj):(W.alloc o).heap[W.heap.size]?=some o:=C2 W o
theorem AA {o:Obj}(h:W.heap[b]?=some o):b<W.heap.size:=(B6.1 h).1
theorem kR {p:Prop}(h:p:=by kernel_rfl):p:=h
theorem dE {p:Prop}(h:p:=by decide):p:=h
theorem lE {n:Nat}:n<=n:=Bc n
theorem Eu:Below B w w:=AG B w
theorem nM {α:Type}(e:α):∃x,e=x:=⟨e,rfl⟩
abbrev Bw (w w':World):Prop:=Below w.heap.size w w'
abbrev Cl:=Calls prog
abbrev aD (b o:Nat):Addr:=⟨b,o,none⟩
abbrev aZ (b:Nat):Addr:=⟨b,0,none⟩
abbrev sD (b o:Nat):Option Addr:=some ⟨b,o,none⟩
abbrev sZ (b:Nat):Option Addr:=some ⟨b,0,none⟩
abbrev pQ (b o:Nat):Value:=.pointer (some ⟨b,o,none⟩)
abbrev pZ (b:Nat):Value:=.pointer (some ⟨b,0,none⟩)
abbrev lD (b o n c:Nat):Value:=.slice (some ⟨b,o,none⟩) n c
abbrev lZ (b n c:Nat):Value:=.slice (some ⟨b,0,none⟩) n c
abbrev iI (n:Int):Value:=.int .i64 n
abbrev zS:Obj:=.cells #[.int .i64 0,.string ⟨#[]⟩,.slice (none) 0 0] 85
abbrev zP:Obj:=.cells #[.string ⟨#[]⟩,.int .i64 0,.slice (none) 0 0] 87
abbrev oS (k:Int) (d:ByteArray) (a:Option Addr) (n c:Nat):Obj:=.cells #[.int .i64 k,.string d,.slice a n c] 85
abbrev oN (d:ByteArray) (k:Int) (a:Option Addr) (n c:Nat):Obj:=.cells #[.string d,.int .i64 k,.slice a n c] 87
abbrev oI (k:Int):Obj:=.cells #[.int .i64 k] 3
abbrev cB (g:Int) (ra:Option Addr) (rn rc:Nat) (sa:Option Addr) (sn sc:Nat) (fa:Option Addr) (fn fc:Nat) (na:Option Addr) (nn nc:Nat):Obj:=.cells #[.int .i64 g,.slice ra rn rc,.slice sa sn sc,.slice fa fn fc,.slice na nn nc] 33
theorem Ar {md:Region.Mode}(i:Nat)(v:Value)(h:wpAnyH P md ops Q S fuel (listed.setIfInBounds i true) (a.put oi.dst v) w)(hi:ops[i]?=some oi:=by exact rfl)(hw:Region.wanted oi (yielded ops a.tmps)=true:=by rfl)(hy:∀w',S w'->(execOp a.eval oi).run P w'=.ok (.value v) w':=by intro w' aa;go_simp)(hS:S w:=by assumption)(hs:Region.noSelect ops=true:=by kernel_rfl)(hf:Region.free md ops listed i=true:=by kernel_rfl)(hr:(Region.ready md ops listed).contains i=true:=by kernel_rfl)(hQ:∀c a w,Q (.panic c) (a.put oi.dst v) w->Q (.panic c) a w:=by exact fun _ _ _ h=>h):wpAnyH P md ops Q S (fuel+1) listed a w:=MU hi hs hf hr hQ (.inl ⟨hw,hy⟩) hS h
theorem Cs {md:Region.Mode}(i:Nat)(v:Value)(h:wpAnyH P md ops Q S fuel (listed.setIfInBounds i true) (a.put oi.dst v) w)(hi:ops[i]?=some oi:=by exact rfl)(hw:Region.wanted oi (yielded ops a.tmps)=true:=by rfl)(hy:∀w',S w'->(execOp a.eval oi).run P w'=.ok (.value v) w':=by intro w' aa;have j:=five aa;go_simp)(hS:S w:=by assumption)(hs:Region.noSelect ops=true:=by kernel_rfl)(hf:Region.free md ops listed i=true:=by kernel_rfl)(hr:(Region.ready md ops listed).contains i=true:=by kernel_rfl)(hQ:∀c a w,Q (.panic c) (a.put oi.dst v) w->Q (.panic c) a w:=by exact fun _ _ _ h=>h):wpAnyH P md ops Q S (fuel+1) listed a w:=MU hi hs hf hr hQ (.inl ⟨hw,hy⟩) hS h
theorem BD {md:Region.Mode}(i:Nat)(v:Value)(h:wpAnyH P md ops Q S fuel (listed.setIfInBounds i true) (a.put oi.dst v) w)(hi:ops[i]?=some oi:=by exact rfl)(hw:Region.wanted oi (yielded ops a.tmps)=true:=by rfl)(hy:∀w',S w'->(execOp a.eval oi).run P w'=.ok (.value v) w':=by intro w' aa;obtain⟨qa,qb⟩:=aa;have j:=five qa;go_simp)(hS:S w:=by assumption)(hs:Region.noSelect ops=true:=by kernel_rfl)(hf:Region.free md ops listed i=true:=by kernel_rfl)(hr:(Region.ready md ops listed).contains i=true:=by kernel_rfl)(hQ:∀c a w,Q (.panic c) (a.put oi.dst v) w->Q (.panic c) a w:=by exact fun _ _ _ h=>h):wpAnyH P md ops Q S (fuel+1) listed a w:=MU hi hs hf hr hQ (.inl ⟨hw,hy⟩) hS h
theorem Cz {md:Region.Mode}(i:Nat)(v:Value)(h:wpAnyH P md ops Q S fuel (listed.setIfInBounds i true) (a.put oi.dst v) w)(hi:ops[i]?=some oi:=by exact rfl)(hw:Region.wanted oi (yielded ops a.tmps)=true:=by rfl)(hy:∀w',S w'->(execOp a.eval oi).run P w'=.ok (.value v) w':=by intro w' aa;have j:=aa;go_simp)(hS:S w:=by assumption)(hs:Region.noSelect ops=true:=by kernel_rfl)(hf:Region.free md ops listed i=true:=by kernel_rfl)(hr:(Region.ready md ops listed).contains i=true:=by kernel_rfl)(hQ:∀c a w,Q (.panic c) (a.put oi.dst v) w->Q (.panic c) a w:=by exact fun _ _ _ h=>h):wpAnyH P md ops Q S (fuel+1) listed a w:=MU hi hs hf hr hQ (.inl ⟨hw,hy⟩) hS h
theorem Eb {md:Region.Mode}(i:Nat)(v:Value)(h:wpAny P md ops Q fuel (listed.setIfInBounds i true) (a.put oi.dst v) w)(hi:ops[i]?=some oi:=by exact rfl)(hw:Region.wanted oi (yielded ops a.tmps)=true:=by rfl)(hy:∀w',(execOp a.eval oi).run P w'=.ok (.value v) w':=by intro w;go_simp)(hs:Region.noSelect ops=true:=by kernel_rfl)(hf:Region.free md ops listed i=true:=by kernel_rfl)(hr:(Region.ready md ops listed).contains i=true:=by kernel_rfl)(hQ:∀c a w,Q (.panic c) (a.put oi.dst v) w->Q (.panic c) a w:=by exact fun _ _ _ h=>h):wpAny P md ops Q (fuel+1) listed a w:=wpAny_take hi hs hf hr hQ (.inl ⟨hw,hy⟩) h
theorem BV {md:Region.Mode}(i:Nat)(h:wpAny P md ops Q fuel (listed.setIfInBounds i true) (a.put oi.dst undef) w)(hi:ops[i]?=some oi:=by exact rfl)(hw:Region.wanted oi (yielded ops a.tmps)=false:=by rfl)(hs:Region.noSelect ops=true:=by kernel_rfl)(hf:Region.free md ops listed i=true:=by kernel_rfl)(hr:(Region.ready md ops listed).contains i=true:=by kernel_rfl)(hQ:∀c a w,Q (.panic c) (a.put oi.dst undef) w->Q (.panic c) a w:=by exact fun _ _ _ h=>h):wpAny P md ops Q (fuel+1) listed a w:=wpAny_take hi hs hf hr hQ (.inr ⟨hw,rfl⟩) h

structure Tg (n:Nat):Prop where
 ok:True
/-- Of the operations 'is' whichever may come up. -/
def Kq (P:Program) (md:Region.Mode) (ops:Array Oper) (Q:Exit->Act->World->Prop) (S:World->Prop) (fuel:Nat) (listed:Array Bool) (a:Act) (w:World) (js:List Nat):Prop:=
 ∀i∈js,(Region.ready md ops listed).contains i=true->wpOp P ops Q i (fun a' w'=>S w'/\wpAnyH P md ops Q S fuel (listed.setIfInBounds i true) a' w') a w
theorem Kq.n {md:Region.Mode}:Kq P md ops Q S fuel listed a w []:=fun _ h=>by cases h
theorem Kq.c {md:Region.Mode}{i:Nat}{o:Oper}{js:List Nat}(ho:ops[i]?=some o)(h:Tg i->(Region.ready md ops listed).contains i=true->∀K':Act->World->Prop,Shut (∀a w,S w->(S w->wpAnyH P md ops Q S fuel (listed.setIfInBounds i true) a w)->K' a w)->if Region.wanted o (yielded ops a.tmps)=true then Oper.wp P o a w K' Q else K' (a.put o.dst undef) w)(hs:Kq P md ops Q S fuel listed a w js):Kq P md ops Q S fuel listed a w (i::js):=fun j hj hc=>by
 rcases Ir.1 hj with rfl|hj
 ·exact wpOp_step ho (fun K' hK=>h ⟨trivial⟩ hc K' (fun a w hS hW=>hK a w ⟨hS,hW hS⟩))
 ·exact hs j hj hc
theorem Ig {md:Region.Mode}(js:List Nat)(h:Kq P md ops Q S fuel listed a w js)(hr:((Region.ready md ops listed).all (fun i=>js.contains i) && !(Region.ready md ops listed).isEmpty)=true:=by decide +kernel):wpAnyH P md ops Q S (fuel+1) listed a w:=by
 rw[B5]at hr;refine⟨fun e=>?_,fun i hi=>?_⟩
 ·rw[e]at hr;exact absurd hr.2 (by decide)
 ·have:=Ax.1 hr.1 i hi;exact h i (by simpa using this) (by simpa using hi)
theorem Ah {p:Prop}(h:p):Hd p:=h
def LO:Nat->Nat->List UInt8
 | 0,u=>[UInt8.ofNat (48+u)]
 | f+1,u=>if u<10 then [UInt8.ofNat (48+u)] else LO f (u/10)++[UInt8.ofNat (48+u%10)]
def dg (u:Nat):List UInt8:=LO 19 u
theorem Sf:∀ (f u:Nat),u<10 ^ (f+1)->LO f u=Lib.decDigits u
 | 0,u,h=>by rw[Lib.decDigits,dif_pos oM];rfl
 | f+1,u,h=>by
  rw[Lib.decDigits];unfold LO;rw[Nat.pow_succ]at h
  split
  ·rfl
  ·rw[Sf f (u/10) oM]
theorem EN {u:Nat}(h:u<100000000000000000000):dg u=Lib.decDigits u:=Sf 19 u (by simpa using h)
def vl (l:List UInt8):Nat:=l.foldl (fun a c=>10*a+(c.toNat-48)) 0
theorem Rg (l:List UInt8)(c:UInt8):vl (l++[c])=10*vl l+(c.toNat-48):=by simp[vl]
theorem KF {d:Nat}(h:d<10):(UInt8.ofNat (48+d)).toNat=48+d:=by simp;omega
theorem MD (n:Nat):vl (Lib.decDigits n)=n:=by
 induction n using Nat.strongRecOn with
 | _ n ih=>
  rw[Lib.decDigits]
  split
  ·simp[vl];omega
  ·rw[Rg,ih (n/10) oM,KF oM];omega
theorem Sc (n:Nat):∀c∈Lib.decDigits n,48<=c.toNat/\c.toNat<=57:=by
 induction n using Nat.strongRecOn with
 | _ n ih=>
  rw[Lib.decDigits];intro c hc
  split at hc
  ·simp only[JD]at hc;rw[hc,KF oM];omega
  ·rcases GR.1 hc with h|h
   ·exact ih (n/10) oM c h
   ·simp only[JD]at h;rw[h,KF oM];omega
theorem Sd (n:Nat):1<=(Lib.decDigits n).length:=by rw[Lib.decDigits_length];exact Lib.nDigits_pos n
theorem Ga (n:Nat):(Lib.decDigits n).length<=n+1:=by
 induction n using Nat.strongRecOn with
 | _ n ih=>
  rw[Lib.decDigits];split
  ·simp
  ·have:=ih (n/10) oM;rw[Bl];simp only[Hf];omega
theorem Uc:∀ (a b:List UInt8) (k:Nat),Lib.parseUint10 k (a++b)=(match Lib.parseUint10 k a with | .ok x=>Lib.parseUint10 x b|e=>e)
 | [],b,k=>rfl
 | c::a,b,k=>by
  simp only[Er,Lib.parseUint10]
  split
  ·split
   ·rfl
   ·split
    ·rfl
    ·exact Uc a b _
  ·rfl
theorem eh (n:Nat)(h:n<9223372036854775808):Lib.parseUint10 0 (Lib.decDigits n)=.ok n:=by
 induction n using Nat.strongRecOn with
 | _ n ih=>
  rw[Lib.decDigits]
  split
  ·simp only[Lib.parseUint10];rw[KF oM,Ab oM,Aa oM,Aa oM];congr 1;omega
  ·rw[Uc,ih (n/10) oM oM];simp only[Lib.parseUint10];rw[KF oM,Ab oM,Aa oM,Aa oM];congr 1;omega
theorem RJ (n:Nat)(h:n<9223372036854775808):Lib.atoiAll (Lib.decDigits n)=.ok (n:Int):=by
 have hp:=eh n h;have hd:=Sc n;have h1:=Sd n
 revert hp hd h1;generalize Lib.decDigits n=l;intro hp hd h1
 match l,h1 with
 | c::r,_=>
  have:=hd c (CD ..);simp only[Lib.atoiAll];rw[Aa oM,Lib.parseMag,Aa (by simp),hp];simp only[];rw[Aa oM,Aa oM,Aa oM]
def DJ (l:List UInt8):Option Nat:=if l.length<=6/\dg (vl l)=l then some (vl l) else none
theorem jD:∀ (l:List UInt8),vl l<300 ^ l.length:=by
 intro l;have:∀ (l:List UInt8) (a:Nat),l.foldl (fun a c=>10*a+(c.toNat-48)) a<(a+1)*300 ^ l.length:=by
  intro l
  induction l with
  | nil=>intro a;simp
  | cons c l ih=>
   intro a;have:=ih (10*a+(c.toNat-48));have hc:=c.toNat_lt;refine AO this ?_;rw[BF,Nat.pow_succ,Nat.mul_comm (300 ^ _) 300,<-Nat.mul_assoc];exact Nat.mul_le_mul_right _ oM
 exact by simpa[vl] using this l 0
theorem MC {l:List UInt8}(h:l.length<=6):vl l<1000000000000000:=AO (jD l) (by have:=Nat.pow_le_pow_right (n:=300) oM h;omega)
theorem Qh (l:List UInt8)(n:Nat):DJ l=some n↔l.length<=6/\Lib.decDigits n=l:=by
 unfold DJ;constructor
 ·intro h;split at h
  ·rename_i h1;injection h with h;subst h;rw[EN (Nat.lt_trans (MC h1.1) oM)]at h1;exact h1
  ·cases h
 ·rintro⟨h1,rfl⟩;rw[MD,EN (by have:=MC h1;rw[MD]at this;omega),Ab ⟨h1,rfl⟩]
theorem Qi (l:List UInt8)(h:∀n:Nat,l.length<=6->Lib.decDigits n=l->False):DJ l=none:=by
 cases e:DJ l with
 | none=>rfl
 | some n=>rw[Qh]at e;exact(h n e.1 e.2).elim
theorem cL {l:List UInt8}{v:Int}(h:Lib.atoiAll l=.ok v):DJ l=if v<0\/6<l.length\/Lib.itoa v≠l then none else some v.toNat:=by
 split
 ·rename_i hb
  refine Qi l fun n h1 h2=>?_
  subst h2;have:=MC h1;rw[MD]at this;rw[RJ n oM]at h;injection h with h;subst h
  rcases hb with hb|hb|hb
  ·omega
  ·omega
  ·exact hb (Lib.itoa_nonneg n)
 ·rename_i hb
  have h3:Lib.itoa v=l:=EW fun e=>hb (BM (BM e))
  obtain⟨n,rfl⟩:∃n:Nat,v=n:=⟨v.toNat,oM⟩;rw[Lib.itoa_nonneg]at h3;rw[Qh];exact⟨oM,by simpa using h3⟩
theorem cJ {l:List UInt8}(h:∀v,Lib.atoiAll l≠.ok v):DJ l=none:=Qi l fun n h1 h2=>by
 subst h2;have:=MC h1;rw[MD]at this;exact h _ (RJ n oM)
theorem Ty (l:List UInt8):DJ l=if 1<=l.length/\l.length<=6/\(∀c∈l,48<=c.toNat/\c.toNat<=57)/\Lib.decDigits (vl l)=l then some (vl l) else none:=by
 split
 ·rename_i h;rw[Qh];exact⟨h.2.1,h.2.2.2⟩
 ·rename_i hb;refine Qi l fun n h1 h2=>hb ?_
  subst h2;rw[MD];exact⟨Sd n,h1,Sc n,rfl⟩
theorem SP {c:UInt8}:∀ {l:List UInt8},c ∉ l->Lib.index l [c] = -1
 | [],_=>rfl
 | b::l,h=>by
  have hb:(c == b)=false:=FA.2 fun e=>h (e ▸ CD ..)
  rw[Lib.index,SP fun e=>h (CA _ e)];simp[List.isPrefixOf,hb]
theorem P2 {c:UInt8}{b:List UInt8}:∀ {a:List UInt8},c ∉ a->Lib.index (a++c::b) [c]=a.length
 | [],_=>by simp[Lib.index,List.isPrefixOf]
 | d::a,h=>by
  have hb:(c == d)=false:=FA.2 fun e=>h (e ▸ CD ..)
  rw[Er,Lib.index,P2 fun e=>h (CA _ e)];have:((a.length:Int) == -1)=false:=FA.2 oM;simp[List.isPrefixOf,hb,this]
theorem Pw {c:UInt8}{l:List UInt8}(h:c ∉ l):Lib.cut l [c]=(l,[],false):=by rw[Lib.cut,SP h,Aa oM]
theorem Pv {c:UInt8}{a b:List UInt8}(h:c ∉ a):Lib.cut (a++c::b) [c]=(a,b,true):=by
 rw[Lib.cut,P2 h,Ab oM];simp[<-List.drop_drop]
theorem Nq {c:UInt8}:∀ {l:List UInt8},c∈l->∃a b,l=a++c::b/\c ∉ a
 | d::l,h=>by
  by_cases e:c=d
  ·exact⟨[],l,by rw[e];rfl,by simp⟩
  ·obtain⟨a,b,h1,h2⟩:=Nq ((Ir.1 h).resolve_left e);exact⟨d::a,b,by rw[h1];rfl,by simp[e,h2]⟩
theorem KE (c:UInt8)(l:List UInt8):(c ∉ l/\Lib.cut l [c]=(l,[],false))\/∃a b,l=a++c::b/\c ∉ a/\Lib.cut l [c]=(a,b,true):=by
 by_cases h:c∈l
 ·obtain⟨a,b,rfl,ha⟩:=Nq h;exact BM ⟨a,b,rfl,ha,Pv ha⟩
 ·exact B3 ⟨h,Pw h⟩
def ED (e:Int):List UInt8:=if e=0 then [46] else if e = -1 then [48] else dg e.toNat
def Ml:Value->Nat | .string s=>s.size|_=>0
theorem Dy (n lo hi:Int)(w:World):Calls prog 65 #[iI n,iI lo,iI hi] w fun r w'=>r=.returned (.bool (decide (lo<=n/\n<=hi)))/\w'=w:=by
 go_enter func65,ntmps65
 go_wp2
 all_goals (go_ret;exact⟨Fs (by simp<;>omega),rfl⟩)
theorem NC (e:Int):Cf e=true↔(e=0\/e = -1\/(1<=e/\e<40)):=by simp[Cf]
theorem PZ (e:Int)(w:World):Calls prog 183 #[iI e] w fun r w'=>r=.returned (.bool (Cf e))/\w'=w:=by
 go_enter func183,ntmps183
 go_wp2
 all_goals (go_ret;exact⟨Fs (by rw[NC];simp<;>omega),rfl⟩)
theorem So (e:Int)(w:World):Calls prog 209 #[iI e] w fun r w'=>r=.returned (.bool (Cf e))/\w'=w:=by
 go_enter func209,ntmps209
 go_wp2_with(go_at_call 65;refine(Dy _ _ _ _).mono ?_;rintro e w' ⟨rfl,rfl⟩)
 all_goals (go_ret;exact⟨Fs (by rw[NC];simp<;>omega),rfl⟩)
theorem Wq (ao:Option Addr)(n cap:Nat)(w:World)(hn:((n:Int) != 4)=true):Calls prog 142 #[.slice ao n cap] w fun r w'=>r=.returned (iI 1)/\w'=w:=by
 go_enter func142,ntmps142
 go_wp2
 go_ret;exact⟨rfl,rfl⟩
theorem Wp (b off cap:Nat)(xs:List Int)(w:World)(h4:xs.length=4)(hc:∀j,j<4->w.cell? (aD b (off+j))=some (iI (xs.getD j 0))):Calls prog 142 #[lD b off 4 cap] w fun r w'=>r=.returned (iI (Bp xs))/\w'=w:=by
 have HC:Hd (∀j,j<4->w.cell? (aD b (off+j))=some (iI (xs.getD j 0))):=hc;clear hc
 go_enter func142,ntmps142
 go_wp2
 go_loop [10] (fun i=>∃k:Nat,k<=4/\i=iI k/\∀j,j<k->Cf (xs.getD j 0)=true) (fun i=>4-(intOf i).toNat)
 case atStart=>exact⟨0,oM,rfl,fun j hj=>absurd hj oM⟩
 case round=>
  obtain⟨k,hk,rfl,hall⟩:=hrel;have HA:Hd (∀j,j<k->Cf (xs.getD j 0)=true):=hall;clear hall
  by_cases hlt:k<4
  ·obtain⟨x,hx⟩:=nM (xs.getD k 0);have aa:=HC.o k hlt;rw[hx]at aa;have HX:Hd (xs.getD k 0=x):=hx;clear hx
   cases hE:Cf x with
   | true=>
    go_wp2_with(go_at_call 183;refine(PZ _ _).mono ?_;rintro e w' ⟨rfl,rfl⟩)
    go_round
    case rel=>exact⟨k+1,oM,by go_num,Ol HA.o HX.o hE⟩
    case measure=>simp[intOf];omega
   | false=>
    go_wp2_with(go_at_call 183;refine(PZ _ _).mono ?_;rintro e w' ⟨rfl,rfl⟩);go_ret;exact⟨Cj (by rw[Nh];intro h;rw[L9 (j:=k) oM (by rw[HX.o];exact hE)]at h;simp at h),rfl⟩
  ·have e4:k=4:=oM;subst e4
   go_wp2
   go_ret;exact⟨Cj (LM h4 (M9 (by rw[h4];exact HA.o))).symm,rfl⟩
theorem Ng (v:Value)(xs:List Int)(w:World)(h:Sl w v xs):Calls prog 142 #[v] w fun r w'=>r=.returned (iI (Bp xs))/\w'=w:=by
 obtain⟨ao,cap,rfl,hm,ab,hc⟩:=h
 by_cases h4:xs.length=4
 ·obtain⟨b,off,rfl,hlt,aa⟩:=hc (by intro e;rw[e]at h4;simp at h4);rw[h4]at aa ⊢;exact Wp b off cap xs w h4 aa
 ·rw[Nh (fun e=>h4 e.1)];exact Wq ao _ cap w (by rw[Iu];omega)
theorem Wo (ao:Option Addr)(n cap:Nat)(w:World)(hn:((n:Int) != 4)=true):Calls prog 177 #[.slice ao n cap] w fun r w'=>r=.returned (iI 1)/\w'=w:=by
 go_enter func177,ntmps177
 go_wp2
 go_ret;exact⟨rfl,rfl⟩
theorem Wn (b off cap:Nat)(xs:List Int)(w:World)(h4:xs.length=4)(hc:∀j,j<4->w.cell? (aD b (off+j))=some (iI (xs.getD j 0))):Calls prog 177 #[lD b off 4 cap] w fun r w'=>r=.returned (iI (Bp xs))/\w'=w:=by
 have HC:Hd (∀j,j<4->w.cell? (aD b (off+j))=some (iI (xs.getD j 0))):=hc;clear hc
 go_enter func177,ntmps177
 go_wp2
 go_loop [3] (fun i=>∃k:Nat,k<=4/\i=iI k/\∀j,j<k->Cf (xs.getD j 0)=true) (fun i=>4-(intOf i).toNat)
 case atStart=>exact⟨0,oM,rfl,fun j hj=>absurd hj oM⟩
 case round=>
  obtain⟨k,hk,rfl,hall⟩:=hrel;have HA:Hd (∀j,j<k->Cf (xs.getD j 0)=true):=hall;clear hall
  by_cases hlt:k<4
  ·obtain⟨x,hx⟩:=nM (xs.getD k 0);have aa:=HC.o k hlt;rw[hx]at aa;have HX:Hd (xs.getD k 0=x):=hx;clear hx
   cases hE:Cf x with
   | true=>
    go_wp2_with(go_at_call 209;refine(So _ _).mono ?_;rintro e w' ⟨rfl,rfl⟩)
    go_round
    case rel=>exact⟨k+1,oM,by go_num,Ol HA.o HX.o hE⟩
    case measure=>simp[intOf];omega
   | false=>
    go_wp2_with(go_at_call 209;refine(So _ _).mono ?_;rintro e w' ⟨rfl,rfl⟩);go_ret;exact⟨Cj (by rw[Nh];intro h;rw[L9 (j:=k) oM (by rw[HX.o];exact hE)]at h;simp at h),rfl⟩
  ·have e4:k=4:=oM;subst e4
   go_wp2
   go_ret;exact⟨Cj (LM h4 (M9 (by rw[h4];exact HA.o))).symm,rfl⟩
theorem Ph (v:Value)(xs:List Int)(w:World)(h:Sl w v xs):Calls prog 177 #[v] w fun r w'=>r=.returned (iI (Bp xs))/\w'=w:=by
 obtain⟨ao,cap,rfl,hm,ab,hc⟩:=h
 by_cases h4:xs.length=4
 ·obtain⟨b,off,rfl,hlt,aa⟩:=hc (by intro e;rw[e]at h4;simp at h4);rw[h4]at aa ⊢;exact Wn b off cap xs w h4 aa
 ·rw[Nh (fun e=>h4 e.1)];exact Wo ao _ cap w (by rw[Iu];omega)
theorem V4 (b off cap:Nat)(xs:List Int)(w:World)(hck0:Bp xs=0)(hc:∀j,j<4->w.cell? (aD b (off+j))=some (iI (xs.getD j 0)))(hs:Sl w (lD b off 4 cap) xs):Calls prog 144 #[lD b off 4 cap] w fun r w'=>r=.returned (.tuple #[.bool (EJ xs),iI 0])/\w'=w:=by
 have HC:Hd (∀j,j<4->w.cell? (aD b (off+j))=some (iI (xs.getD j 0))):=hc;clear hc;have h4:=Dv hck0;have HE:Hd (EJ xs=BE xs):=by show _=_;unfold EJ;rw[Ab hck0]
 go_enter func144,ntmps144
 go_wp2_with(go_at_call 142;refine(Ng _ xs _ hs).mono ?_;rintro e w' ⟨rfl,rfl⟩)
 go_loop [14] (fun i=>∃k:Nat,k<=4/\i=iI k/\∀j,j<k->((xs.getD j 0) == 0)=true) (fun i=>4-(intOf i).toNat)
 case atStart=>exact⟨0,oM,rfl,fun j hj=>absurd hj oM⟩
 case round=>
  obtain⟨k,hk,rfl,hall⟩:=hrel;have HA:Hd (∀j,j<k->((xs.getD j 0) == 0)=true):=hall;clear hall
  by_cases hlt:k<4
  ·obtain⟨x,hx⟩:=nM (xs.getD k 0);have ac:=HC.o k hlt;rw[hx]at ac;have HX:Hd (xs.getD k 0=x):=hx;clear hx
   by_cases hE:x=0
   ·have ab:(x != 0)=false:=by simp[hE]
    have aa:Hd (x=0):=hE;clear hE
    go_wp2
    go_round
    case rel=>exact⟨k+1,oM,by go_num,Ol (p:=fun x=>x == 0) HA.o HX.o (by simp[aa.o])⟩
    case measure=>simp[intOf];omega
   ·have ab:(x != 0)=true:=by simp[hE]
    go_wp2
    go_ret2
    refine⟨?_,rfl⟩;rw[HE.o,show BE xs=false from L9 (j:=k) oM (by rw[HX.o];simp[hE])];rfl
  ·have e4:k=4:=oM;subst e4
   go_wp2
   go_ret2
   refine⟨?_,rfl⟩;rw[HE.o,show BE xs=true from M9 (by rw[h4];exact HA.o)];rfl
theorem V5 (v:Value)(xs:List Int)(w:World)(h:Sl w v xs)(hck0:Bp xs=1):Calls prog 144 #[v] w fun r w'=>r=.returned (.tuple #[.bool (EJ xs),iI 1])/\w'=w:=by
 have HE:Hd (EJ xs=false):=by show _=_;unfold EJ;rw[Aa oM]
 go_enter func144,ntmps144
 go_wp2_with(go_at_call 142;refine(Ng _ xs _ h).mono ?_;rintro e w' ⟨rfl,rfl⟩)
 go_ret2
 exact⟨by rw[HE.o];rfl,rfl⟩
theorem RL (v:Value)(xs:List Int)(w:World)(h:Sl w v xs):Calls prog 144 #[v] w fun r w'=>r=.returned (.tuple #[.bool (EJ xs),iI (Bp xs)])/\w'=w:=by
 rcases RW xs with h0|h1
 ·rw[h0];have hs:=h;have h4:=Dv h0;obtain⟨ao,cap,rfl,hm,ab,hc⟩:=h;obtain⟨b,off,rfl,hlt,aa⟩:=hc (by intro e;rw[e]at h4;simp at h4);rw[h4]at aa hs ⊢;exact V4 b off cap xs w h0 aa hs
 ·rw[h1];exact V5 v xs w h h1
theorem Kv (h:Sl w v xs){b:Bool}{c:Int}(hb:EJ xs=b)(hc:Bp xs=c):Calls prog 144 #[v] w fun r w'=>r=.returned (.tuple #[.bool b,iI c])/\w'=w:=by subst hb;subst hc;exact RL v xs w h
def Cb (k:Int) (d:ByteArray) (xs:List Int):Bool:=
 if k=0 then decide (d.size=0/\xs.length=0)
 else if k=1 then decide (d.size=4/\xs.length=0)
 else if k=2 then decide (Bp xs=0/\EJ xs=false/\d.size=0)
 else false
theorem Pc (d:ByteArray):d.toList=[]↔d.size=0:=by
 rw[IX,ByteArray.size_eq_zero_iff]
 constructor
 ·intro h;exact OD (Oz.1 h)
 ·rintro rfl;rfl
theorem Jd (d:ByteArray):d.toList.isEmpty=decide (d.size=0):=by
 rw[IW,List.isEmpty_iff,Pc];simp
theorem Mz {w0:World}(mty kt et:TypeId)(r clock:Nat)(es:Array MapEntry)(k:Int)(val:Value)(hm:P.underlying mty=some (.map kt et))(hk:P.underlying kt=some (.int .i64))(hb:w.heap[r]?=some (.map es clock))(hf:Instr.findNow (.int .i64) (iI k) es.toList 0=some none)(hB:B<=r)(hbel:Below B w0 w):∃W,(Instr.mapUpdate mty (.map (some r)) (iI k) val).run P w=.ok () W/\W.heap[r]?=some (.map (es.push {key:=iI k,val:=val,born:=clock}) (clock+1))/\Below B w0 W/\W.heap.size=w.heap.size:=by
 have hc:(Instr.checkKey false 10000 kt (iI k)).run P w=.ok () w:=MapKept.run_checkKey (k:=iI k) hk (by simp[MapKept.IsKey]) false 9999;refine⟨{w with heap:=w.heap.setIfInBounds r (.map (es.push {key:=iI k,val:=val,born:=clock}) (clock+1))},?_,?_,?_,by simp⟩
 ·simp[Instr.mapUpdate,Kn hm,MapKept.run_getObj_map hb,hc,MapKept.run_findKey hk hf,MapKept.run_setObj_map _ hb,Result.andThen]
 ·have hlt:r<w.heap.size:=(AA hb);simp[hlt]
 ·refine hbel.trans ⟨rfl,rfl,rfl,by simp,fun j hj=>?_⟩
  show (w.heap.setIfInBounds r _)[j]?=_
  rw[Array.getElem?_setIfInBounds_ne oM]
theorem L7 (mty kt et:TypeId)(r clock:Nat)(es:Array MapEntry)(k:Int)(v:Value)(i:Nat)(hm:P.underlying mty=some (.map kt et))(hk:P.underlying kt=some (.int .i64))(hb:w.heap[r]?=some (.map es clock))(hf:Instr.findNow (.int .i64) (iI k) es.toList 0=some (some (i,v))):(Instr.lookup mty (.map (some r)) (iI k) true).run P w=.ok (.tuple #[v,.bool true]) w:=by
 have hc:(Instr.checkKey es.isEmpty 10000 kt (iI k)).run P w=.ok () w:=MapKept.run_checkKey (k:=iI k) hk (by simp[MapKept.IsKey]) _ 9999;simp[Instr.lookup,Kn hm,MapKept.run_getObj_map hb,hc,MapKept.run_findKey hk hf,Result.andThen]
theorem Qb (mty kt et:TypeId)(r clock:Nat)(es:Array MapEntry)(k:Int)(z:Value)(hm:P.underlying mty=some (.map kt et))(hk:P.underlying kt=some (.int .i64))(hb:w.heap[r]?=some (.map es clock))(hf:Instr.findNow (.int .i64) (iI k) es.toList 0=some none)(hz:(zeroValue et).run P w=.ok z w):(Instr.lookup mty (.map (some r)) (iI k) true).run P w=.ok (.tuple #[z,.bool false]) w:=by
 have hc:(Instr.checkKey es.isEmpty 10000 kt (iI k)).run P w=.ok () w:=MapKept.run_checkKey (k:=iI k) hk (by simp[MapKept.IsKey]) _ 9999;simp[Instr.lookup,Kn hm,MapKept.run_getObj_map hb,hc,MapKept.run_findKey hk hf,hz,Result.andThen]
def Et:Array MapEntry:=#[{key:=iI 0,val:=.func (.func 198) #[] #[],born:=0},{key:=iI 1,val:=.func (.func 199) #[] #[],born:=1},{key:=iI 2,val:=.func (.func 200) #[] #[],born:=2}]
theorem UG (w:World):Calls prog 158 #[] w fun r w'=>r=.returned (.map (some w.heap.size))/\w'.heap[w.heap.size]?=some (.map Et 3)/\Bw w w'/\w'.heap.size=w.heap.size+1:=by
 have aa:=@run_makeMap prog;have g0:=O2 w (.map #[] 0);obtain⟨W1,u1,g1,b1,z1⟩:=Mz (P:=prog) (w:=w.alloc (.map #[] 0)) 166 3 202 w.heap.size 0 #[] 0 (.func (.func 198) #[] #[]) underlying166 underlying3 g0 rfl lE ((AG _ w).alloc lE _);obtain⟨W2,u2,g2,b2,z2⟩:=Mz (P:=prog) (w:=W1) 166 3 202 w.heap.size 1 _ 1 (.func (.func 199) #[] #[]) underlying166 underlying3 g1 rfl lE b1;obtain⟨W3,u3,g3,b3,z3⟩:=Mz (P:=prog) (w:=W2) 166 3 202 w.heap.size 2 _ 2 (.func (.func 200) #[] #[]) underlying166 underlying3 g2 rfl lE b2;have HZ:Hd (W3.heap.size=w.heap.size+1):=by show _=_;rw[z3,z2,z1];simp
 have HG:Hd (W3.heap[w.heap.size]?=some (.map Et 3)):=g3;clear g0 g1 g2 g3 b1 b2 z1 z2 z3
 go_enter func158,ntmps158
 go_wp2
 go_ret;exact⟨rfl,HG.o,b3,HZ.o⟩
theorem gz (k:Int)(d:ByteArray)(ao:Option Addr)(n cap:Nat)(w:World):Calls prog 198 #[.agg #[iI k,.string d,.slice ao n cap]] w fun r w'=>r=.returned (.bool (decide (d.size=0/\n=0)))/\Bw w w':=by
 by_cases hd:d.size=0
 ·have h1:d.toList.isEmpty=true:=by rw[Jd];simp[hd]
  have HD:Hd (d.size=0):=hd;clear hd
  go_enter func198,ntmps198
  go_wp2
  go_ret;exact⟨Fs (by simp[HD.o]),Av⟩
 ·have h1:d.toList.isEmpty=false:=by rw[Jd];simp[hd]
  go_enter func198,ntmps198
  go_wp2
  go_ret;exact⟨Fs (by simp[hd]),Av⟩
theorem gB (k:Int)(d:ByteArray)(ao:Option Addr)(n cap:Nat)(w:World):Calls prog 199 #[.agg #[iI k,.string d,.slice ao n cap]] w fun r w'=>r=.returned (.bool (decide (d.size=4/\n=0)))/\Bw w w':=by
 go_enter func199,ntmps199
 go_wp2
 all_goals
  go_ret;exact⟨Fs (by simp<;>omega),Av⟩
theorem gD (k:Int)(d:ByteArray)(tv:Value)(xs:List Int)(w:World)(h:Sl w tv xs):Calls prog 200 #[.agg #[iI k,.string d,tv]] w fun r w'=>r=.returned (.bool (decide (Bp xs=0/\EJ xs=false/\d.size=0)))/\Bw w w':=by
 have h1:=h.past (.cells #[iI k,.string d,tv] 85)
 go_enter func200,ntmps200
 go_wp2_with(go_at_call 144;refine(RL _ xs _ h1).mono ?_;rintro e w' ⟨rfl,rfl⟩)
 all_goals
  go_ret;exact⟨Fs (by simp_all[Pc]),Av⟩
theorem XK:Instr.findNow (.int .i64) (iI 0) Et.toList 0=some (some (0,.func (.func 198) #[] #[])):=rfl
theorem XL:Instr.findNow (.int .i64) (iI 1) Et.toList 0=some (some (1,.func (.func 199) #[] #[])):=rfl
theorem XM:Instr.findNow (.int .i64) (iI 2) Et.toList 0=some (some (2,.func (.func 200) #[] #[])):=rfl
theorem XN (k:Int)(h0:k≠0)(h1:k≠1)(h2:k≠2):Instr.findNow (.int .i64) (iI k) Et.toList 0=some none:=by
 have e0:(k == 0)=false:=by simpa using h0
 have e1:(k == 1)=false:=by simpa using h1
 have e2:(k == 2)=false:=by simpa using h2
 simp[Et,Instr.findNow,Instr.sameNow,e0,e1,e2]
theorem gA (k:Int)(d:ByteArray)(tv:Value)(xs:List Int)(w:World)(h:Sl w tv xs):Calls prog 198 #[.agg #[iI k,.string d,tv]] w fun r w'=>r=.returned (.bool (Cb 0 d xs))/\Bw w w':=by
 obtain⟨ao,cap,rfl⟩:=h.form;exact gz k d ao xs.length cap w
theorem gC (k:Int)(d:ByteArray)(tv:Value)(xs:List Int)(w:World)(h:Sl w tv xs):Calls prog 199 #[.agg #[iI k,.string d,tv]] w fun r w'=>r=.returned (.bool (Cb 1 d xs))/\Bw w w':=by
 obtain⟨ao,cap,rfl⟩:=h.form;exact gB k d ao xs.length cap w
theorem gE (k:Int)(d:ByteArray)(tv:Value)(xs:List Int)(w:World)(h:Sl w tv xs):Calls prog 200 #[.agg #[iI k,.string d,tv]] w fun r w'=>r=.returned (.bool (Cb 2 d xs))/\Bw w w':=gD k d tv xs w h
theorem ND (r clock:Nat)(k:Int)(d:ByteArray)(tv:Value)(xs:List Int)(w:World)(hr:w.heap[r]?=some (.map Et clock))(h:Sl w tv xs):Calls prog 157 #[.map (some r),.agg #[iI k,.string d,tv]] w fun e w'=>e=.returned (.bool (Cb k d xs))/\Bw w w':=by
 have hlt:r<w.heap.size:=(AA hr);have HR:Hd ((w.alloc (.cells #[iI k,.string d,tv] 85)).heap[r]?=some (.map Et clock)):=(Ch w _ r hlt).trans hr;have hs:=h.past (.cells #[iI k,.string d,tv] 85);clear hr;have b0:Bw w (w.alloc (.cells #[iI k,.string d,tv] 85)):=Av
 by_cases h0:k=0
 ·subst h0;have hl:=L7 (P:=prog) 166 3 202 r clock Et 0 _ _ underlying166 underlying3 HR.o XK
  go_enter func157,ntmps157
  go_wp2_with(go_at_call 198;refine(gA 0 d tv xs _ hs).mono ?_;rintro e w1 ⟨rfl,b1⟩);go_ret;exact⟨rfl,Below.on b0 b1⟩
 by_cases h1:k=1
 ·subst h1;clear h0;have hl:=L7 (P:=prog) 166 3 202 r clock Et 1 _ _ underlying166 underlying3 HR.o XL
  go_enter func157,ntmps157
  go_wp2_with(go_at_call 199;refine(gC 1 d tv xs _ hs).mono ?_;rintro e w1 ⟨rfl,b1⟩);go_ret;exact⟨rfl,Below.on b0 b1⟩
 by_cases h2:k=2
 ·subst h2;clear h0 h1;have hl:=L7 (P:=prog) 166 3 202 r clock Et 2 _ _ underlying166 underlying3 HR.o XM
  go_enter func157,ntmps157
  go_wp2_with(go_at_call 200;refine(gE 2 d tv xs _ hs).mono ?_;rintro e w1 ⟨rfl,b1⟩);go_ret;exact⟨rfl,Below.on b0 b1⟩
 ·have hl:=Qb (P:=prog) 166 3 202 r clock Et k .nilFunc underlying166 underlying3 HR.o (XN k h0 h1 h2) kR;have HF:Hd (Cb k d xs=false):=by show _=_;unfold Cb;rw[Aa h0,Aa h1,Aa h2]
  go_enter func157,ntmps157
  go_wp2
  go_ret;exact⟨by rw[HF.o];rfl,b0⟩
abbrev An:Type:=Int × ByteArray × List Int
variable {L:List An}
def B1 (s:An):Bool:=Cb s.1 s.2.1 s.2.2
def B7 (w:World) (b off:Nat) (s:An):Prop:=
 ∃tv,w.cell? (aD b off)=some (iI s.1)/\w.cell? (aD b (off+1))=some (.string s.2.1)/\w.cell? (aD b (off+1+1))=some tv/\Sl w tv s.2.2
def BA (w:World) (v:Value) (L:List An):Prop:=
 ∃ao cap,v=.slice ao L.length cap/\L.length<=maxLen/\L.length<=cap/\(L≠[]->∃b off,ao=some (aD b off)/\b<w.heap.size/\∀j,(h:j<L.length)->B7 w b (off+j*3) L[j])
theorem B7.below {s:An}(h:B7 w b off s)(hlt:b<w.heap.size)(hb:Bw w w1):B7 w1 b off s:=by
 obtain⟨tv,h1,h2,h3,h4⟩:=h;exact⟨tv,(hb.cell (p:=(aD b off)) hlt).trans h1,(hb.cell (p:=(aD b (off+1))) hlt).trans h2,(hb.cell (p:=(aD b (off+1+1))) hlt).trans h3,h4.below hb⟩
theorem BA.below (h:BA w v L)(hb:Bw w w1):BA w1 v L:=by
 obtain⟨ao,cap,hv,hm,ab,hc⟩:=h;refine⟨ao,cap,hv,hm,ab,fun hne=>?_⟩;obtain⟨b,off,ha,hlt,aa⟩:=hc hne;exact⟨b,off,ha,AO hlt hb.size,fun j hj=>(aa j hj).below hlt hb⟩
def AD (L:List An):Int:=if 1<=L.length/\L.length<=40 then (if L.all B1=true/\(L.headD default).1=0 then 0 else 1) else 2
theorem U0 (h1:1<=L.length)(h40:L.length<=40)(hj:j<L.length)(h:B1 L[j]=false):AD L=1:=by
 unfold AD;rw[Ab ⟨h1,h40⟩,Aa];rintro⟨ha,_⟩;rw[Ax]at ha;have:=ha _ (BS hj);rw[h]at this;cases this
theorem SJ (h:0<L.length):L.headD default=L[0]:=by
 cases L with
 | nil=>simp at h
 | cons a r=>rfl
theorem Mm (h1:1<=L.length)(h40:L.length<=40)(h:∀j,(hj:j<L.length)->B1 L[j]=true)(h0:(L[0]'h1).1=0):AD L=0:=by
 unfold AD;rw[Ab ⟨h1,h40⟩,Ab];refine⟨?_,by rw[SJ h1];exact h0⟩;rw[Ax];intro x hx;obtain⟨j,hj,rfl⟩:=Ee hx;exact h j hj
theorem U1 (h1:1<=L.length)(h40:L.length<=40)(h0:(L[0]'h1).1≠0):AD L=1:=by
 unfold AD;rw[Ab ⟨h1,h40⟩,Aa];rintro⟨_,hh⟩;rw[SJ h1]at hh;exact h0 hh
theorem Wi (b off cap n:Nat)(L:List An)(w:World)(hn:L.length=n)(h1:1<=n)(h40:n<=40)(hlt:b<w.heap.size)(hc:∀j,(h:j<L.length)->B7 w b (off+j*3) L[j]):Calls prog 113 #[lD b off n cap] w fun r w'=>r=.returned (iI (AD L))/\Bw w w':=by
 have HC:Hd (∀j,(h:j<L.length)->B7 w b (off+j*3) L[j]):=hc;have HN:Hd (L.length=n):=hn;clear hc hn;have g1:¬(n:Int)<1:=oM;have g2:¬(40:Int)<(n:Int):=oM
 go_enter func113,ntmps113
 go_wp2_with(go_at_call 158;refine(UG _).mono ?_;rintro e w1 ⟨rfl,hr,b1,z1⟩;have HR:Hd (w1.heap[w.heap.size]?=some (.map Et 3)):=hr;clear hr)
 go_loopw [17] (fun i wr=>∃k:Nat,k<=n/\i=iI k/\(∀j,(h:j<L.length)->j<k->B1 L[j]=true)/\Hd (wr.heap[w.heap.size]?=some (.map Et 3))/\Bw w wr/\w.heap.size<wr.heap.size) (fun i _=>n-(intOf i).toNat)
 case atStart=>exact⟨0,A7 _,rfl,fun j h hj=>absurd hj oM,HR,b1,oM⟩
 case round=>
  obtain⟨k,hk,rfl,hall,ae,aa,hsz⟩:=hrel;have HA:Hd (∀j,(h:j<L.length)->j<k->B1 L[j]=true):=hall;clear hall
  by_cases hlk:k<n
  ·obtain⟨s,hs⟩:∃s,s=L[k]'(by rw[HN.o];exact hlk):=⟨_,rfl⟩;obtain⟨kk,dd,tt⟩:=s;have hS:B7 w b (off+k*3) (kk,dd,tt):=by rw[hs];exact HC.o k _
   obtain⟨tv,c1,c2,c3,hsl⟩:=hS;obtain⟨ta,tc,ag⟩:=hsl.form;subst ag;have HS:Hd ((kk,dd,tt)=L[k]'(by rw[HN.o];exact hlk)):=hs;have c1:wr.cell? (aD b (off+k*3))=some (iI kk):=(aa.cell (p:=(aD b (off+k*3))) hlt).trans c1;have c2:wr.cell? (aD b (off+k*3+1))=some (.string dd):=(aa.cell (p:=(aD b (off+k*3+1))) hlt).trans c2;have c3:wr.cell? (aD b (off+k*3+1+1))=some (.slice ta tt.length tc):=(aa.cell (p:=(aD b (off+k*3+1+1))) hlt).trans c3;have ab:Sl wr (.slice ta tt.length tc) tt:=hsl.below aa;clear hs hsl;have ad:(wr.alloc (oS kk dd ta tt.length tc)).heap[w.heap.size]?=some (.map Et 3):=(Ch wr _ _ hsz).trans ae.o;have ac:Hd ((wr.alloc (oS kk dd ta tt.length tc)).heap[w.heap.size]?=some (.map Et 3)):=ad;clear ad
   cases hE:Cb kk dd tt with
   | true=>
    go_wp2_with fail;refine(ND _ 3 kk dd _ tt _ ac.o (ab.past _)).mono ?_;rintro e w2 ⟨rfl,b2⟩;go_wp2_with fail;go_roundw
    case rel=>exact⟨k+1,oM,by go_num,fun j h hj=>by
     by_cases e:j=k
     ·subst e;rw[<-HS.o];exact hE
     ·exact HA.o j h oM,(b2.block _ (by simp;omega)).trans ac.o,Below.on' aa (Av) b2,by have:=b2.size;simp at this;omega⟩
    case measure=>simp[intOf];omega
   | false=>
    go_wp2_with fail;refine(ND _ 3 kk dd _ tt _ ac.o (ab.past _)).mono ?_;rintro e w2 ⟨rfl,b2⟩;go_wp2_with fail;go_ret;exact⟨Cj (U0 (by rw[HN.o];exact h1) (by rw[HN.o];exact h40) (by rw[HN.o];exact hlk) (by rw[<-HS.o];exact hE)).symm,Below.on' aa (Av) b2⟩
  ·have e4:k=n:=oM;subst e4;obtain⟨s,hs⟩:∃s,s=L[0]'(by rw[HN.o];exact h1):=⟨_,rfl⟩;obtain⟨kk,dd,tt⟩:=s;have hS:B7 w b (off+0*3) (kk,dd,tt):=by rw[hs];exact HC.o 0 _
   obtain⟨tv,c1,_,_,_⟩:=hS;have c1:wr.cell? (aD b off)=some (iI kk):=(aa.cell (p:=(aD b off)) hlt).trans (by simpa using c1);have HS:Hd ((kk,dd,tt)=L[0]'(by rw[HN.o];exact h1)):=hs;clear hs
   by_cases h0:kk=0
   ·have af:(kk != 0)=false:=by simp[h0]
    have H0:Hd (kk=0):=h0;clear h0;go_wp2_with fail;go_ret;exact⟨Cj (Mm (by rw[HN.o];exact h1) (by rw[HN.o];exact h40) (fun j h=>HA.o j h (by rw[HN.o]at h;exact h)) (by rw[<-HS.o];exact H0.o)).symm,aa⟩
   ·have af:(kk != 0)=true:=by simp[h0]
    go_wp2_with fail;go_ret;exact⟨Cj (U1 (by rw[HN.o];exact h1) (by rw[HN.o];exact h40) (by rw[<-HS.o];exact h0)).symm,aa⟩
theorem Wj (ao:Option Addr)(n cap:Nat)(w:World)(h:n<1\/40<n)(hm:n<=9223372036854775807):Calls prog 113 #[.slice ao n cap] w fun r w'=>r=.returned (iI 2)/\Bw w w':=by
 rcases h with h|h
 ·have g:(n:Int)<1:=oM
  go_enter func113,ntmps113
  go_wp2
  go_ret;exact⟨rfl,AG _ _⟩
 ·have g:¬(n:Int)<1:=oM;have g':(40:Int)<(n:Int):=oM
  go_enter func113,ntmps113
  go_wp2
  go_ret;exact⟨rfl,AG _ _⟩
theorem Pg (v:Value)(L:List An)(w:World)(h:BA w v L):Calls prog 113 #[v] w fun r w'=>r=.returned (iI (AD L))/\Bw w w':=by
 obtain⟨ao,cap,rfl,hm,ab,hc⟩:=h;unfold maxLen at hm
 by_cases hn:1<=L.length/\L.length<=40
 ·obtain⟨b,off,rfl,hlt,aa⟩:=hc (by intro e;rw[e]at hn;simp at hn);exact Wi b off cap _ L w rfl hn.1 hn.2 hlt aa
 ·have e:AD L=2:=by unfold AD;rw[Aa hn]
  rw[e];exact Wj ao _ cap w oM oM
theorem A4 (h:AD L=0):1<=L.length/\L.length<=40:=by
 unfold AD at h
 split at h
 ·assumption
 ·simp at h
theorem iB (L:List An):AD L=0\/AD L=1\/AD L=2:=by
 unfold AD
 split
 ·split<;>simp
 ·simp
theorem BA.open (h:BA w v L)(h1:1<=L.length):∃b off cap,v=lD b off L.length cap/\L.length<=cap/\b<w.heap.size/\∀j,(h:j<L.length)->B7 w b (off+j*3) L[j]:=by
 obtain⟨ao,cap,rfl,hm,ab,hc⟩:=h;obtain⟨b,off,rfl,hlt,aa⟩:=hc (by intro e;rw[e]at h1;simp at h1);exact⟨b,off,cap,rfl,ab,hlt,aa⟩
theorem jx (v:Value)(L:List An)(E:Int)(w:World)(h:BA w v L)(hE:AD L=E)(hne:(E != 0)=true):Calls prog 59 #[v] w fun r w'=>r=.returned (.tuple #[iI 0,iI E])/\Bw w w':=by
 have HE:Hd (AD L=E):=hE;clear hE
 go_enter func59,ntmps59
 go_wp2_with(go_at_call 113;refine(Pg _ L _ h).mono ?_;rintro e w1 ⟨he,b1⟩;rw[HE.o]at he;subst he)
 go_ret2
 exact⟨rfl,b1⟩
def Cc (L:List An):Nat:=L.countP (fun s=>s.1 != 0)
theorem Vl (h:k<L.length):Cc (L.take (k+1))=Cc (L.take k)+if (L[k].1 != 0)=true then 1 else 0:=by
 unfold Cc;rw[List.take_succ_eq_append_getElem h,List.countP_append];simp[List.countP_cons]
theorem jw (b off cap n:Nat)(L:List An)(w:World)(hn:L.length=n)(h1:1<=n)(h40:n<=40)(hlt:b<w.heap.size)(hc:∀j,(h:j<L.length)->B7 w b (off+j*3) L[j])(hs:BA w (lD b off n cap) L)(hE:AD L=0):Calls prog 59 #[lD b off n cap] w fun r w'=>r=.returned (.tuple #[iI (Cc L),iI 0])/\Bw w w':=by
 have HC:Hd (∀j,(h:j<L.length)->B7 w b (off+j*3) L[j]):=hc;have HN:Hd (L.length=n):=hn;have HE:Hd (AD L=0):=hE;clear hc hn hE
 go_enter func59,ntmps59
 go_wp2_with(go_at_call 113;refine(Pg _ L _ hs).mono ?_;rintro e w1 ⟨he,b1⟩;rw[HE.o]at he;subst he)
 go_loopw [5,15] (fun m i wr=>∃k u:Nat,k<=n/\u<=k/\i=iI k/\m=iI u/\Hd (u=Cc (L.take k))/\Bw w wr) (fun _ i _=>n-(intOf i).toNat)
 case atStart=>exact⟨0,0,oM,oM,rfl,rfl,rfl,b1⟩
 case round=>
  obtain⟨k,u,hk,hu,rfl,rfl,HU,aa⟩:=hrel
  by_cases hlk:k<n
  ·obtain⟨s,ac⟩:∃s,s=L[k]'(by rw[HN.o];exact hlk):=⟨_,rfl⟩;obtain⟨kk,dd,tt⟩:=s;have hS:B7 w b (off+k*3) (kk,dd,tt):=by rw[ac];exact HC.o k _
   obtain⟨tv,c1,c2,c3,hsl⟩:=hS;obtain⟨ta,tc,af⟩:=hsl.form;subst af;have c1:wr.cell? (aD b (off+k*3))=some (iI kk):=(aa.cell (p:=(aD b (off+k*3))) hlt).trans c1;have c2:wr.cell? (aD b (off+k*3+1))=some (.string dd):=(aa.cell (p:=(aD b (off+k*3+1))) hlt).trans c2;have c3:wr.cell? (aD b (off+k*3+1+1))=some (.slice ta tt.length tc):=(aa.cell (p:=(aD b (off+k*3+1+1))) hlt).trans c3;have HS:Hd ((kk,dd,tt)=L[k]'(by rw[HN.o];exact hlk)):=ac;have ab:=Vl (L:=L) (k:=k) (by rw[HN.o];exact hlk);rw[<-ac]at ab;have HT:Hd (Cc (L.take (k+1))=Cc (L.take k)+if (kk != 0)=true then 1 else 0):=ab;clear ac hsl ab
   by_cases h0:kk=0
   ·have ad:(kk != 0)=false:=by simp[h0]
    have H0:Hd (kk=0):=h0;clear h0
    go_wp2
    go_roundw
    case rel=>exact⟨k+1,u,oM,oM,by go_num,rfl,by show _=_;rw[HT.o,<-HU.o,H0.o];rfl,aa.alloc aa.size _⟩
    case measure=>simp[intOf];omega
   ·have ad:(kk != 0)=true:=by simp[h0]
    go_wp2
    go_roundw
    case rel=>exact⟨k+1,u+1,oM,oM,by go_num,by go_num,by show _=_;rw[HT.o,<-HU.o,ad,Ab rfl],aa.alloc aa.size _⟩
    case measure=>simp[intOf];omega
  ·have e4:k=n:=oM;subst e4;have ae:Hd (u=Cc L):=by show _=_;rw[HU.o,DF (by rw[HN.o];exact Bc _)]
   clear HU
   go_wp2
   go_ret2
   exact⟨by rw[<-ae.o];rfl,aa⟩
theorem jy (v:Value)(L:List An)(w:World)(h:BA w v L)(hE:AD L=0):Calls prog 59 #[v] w fun r w'=>r=.returned (.tuple #[iI (Cc L),iI 0])/\Bw w w':=by
 have hs:=h;obtain⟨b,off,cap,rfl,ab,hlt,aa⟩:=h.open (A4 hE).1;exact jw b off cap _ L w rfl (A4 hE).1 (A4 hE).2 hlt aa hs hE
theorem Vn (h:BA w v L)(hE:AD L=0){u:Nat}(hu:Cc L=u):Calls prog 59 #[v] w fun r w'=>r=.returned (.tuple #[iI u,iI 0])/\Bw w w':=by subst hu;exact jy v L w h hE
abbrev AE:Type:=ByteArray × Int × List Int
structure Ac where
 g:Int
 r:List Int
 s:List An
 f:List Int
 p:List AE
variable {m:Ac}
def FH (w:World) (b off:Nat) (s:AE):Prop:=
 ∃rv,w.cell? (aD b off)=some (.string s.1)/\w.cell? (aD b (off+1))=some (iI s.2.1)/\w.cell? (aD b (off+1+1))=some rv/\Sl w rv s.2.2
def Do (w:World) (v:Value) (L:List AE):Prop:=
 ∃ao cap,v=.slice ao L.length cap/\L.length<=maxLen/\L.length<=cap/\(L≠[]->∃b off,ao=some (aD b off)/\b<w.heap.size/\∀j,(h:j<L.length)->FH w b (off+j*3) L[j])
def Al (w:World) (v:Value) (m:Ac):Prop:=
 ∃rv sv fv nv,v=.agg #[iI m.g,rv,sv,fv,nv]/\Sl w rv m.r/\BA w sv m.s/\Sl w fv m.f/\Do w nv m.p
theorem FH.below {s:AE}(h:FH w b off s)(hlt:b<w.heap.size)(hb:Bw w w1):FH w1 b off s:=by
 obtain⟨tv,h1,h2,h3,h4⟩:=h;exact⟨tv,(hb.cell (p:=(aD b off)) hlt).trans h1,(hb.cell (p:=(aD b (off+1))) hlt).trans h2,(hb.cell (p:=(aD b (off+1+1))) hlt).trans h3,h4.below hb⟩
theorem Do.below {L:List AE}(h:Do w v L)(hb:Bw w w1):Do w1 v L:=by
 obtain⟨ao,cap,hv,hm,ab,hc⟩:=h;refine⟨ao,cap,hv,hm,ab,fun hne=>?_⟩;obtain⟨b,off,ha,hlt,aa⟩:=hc hne;exact⟨b,off,ha,AO hlt hb.size,fun j hj=>(aa j hj).below hlt hb⟩
theorem Al.below (h:Al w v m)(hb:Bw w w1):Al w1 v m:=by
 obtain⟨rv,sv,fv,nv,hv,h1,h2,h3,h4⟩:=h;exact⟨rv,sv,fv,nv,hv,h1.below hb,h2.below hb,h3.below hb,h4.below hb⟩
theorem BA.form (h:BA w v L):∃ao cap,v=.slice ao L.length cap:=by
 obtain⟨ao,cap,hv,_⟩:=h;exact⟨ao,cap,hv⟩
theorem Do.form {L:List AE}(h:Do w v L):∃ao cap,v=.slice ao L.length cap:=by
 obtain⟨ao,cap,hv,_⟩:=h;exact⟨ao,cap,hv⟩
theorem Do.small {L:List AE}(h:Do w v L):L.length<=9223372036854775807:=by
 obtain⟨ao,cap,hv,hm,_⟩:=h;unfold maxLen at hm;omega
theorem BA.small (h:BA w v L):L.length<=9223372036854775807:=by
 obtain⟨ao,cap,hv,hm,_⟩:=h;unfold maxLen at hm;omega
theorem Sl.small (h:Sl w v xs):xs.length<=9223372036854775807:=by
 obtain⟨ao,cap,hv,hm,_⟩:=h;unfold maxLen at hm;omega
theorem Do.open {L:List AE}(h:Do w v L)(h1:1<=L.length):∃b off cap,v=lD b off L.length cap/\L.length<=cap/\b<w.heap.size/\∀j,(h:j<L.length)->FH w b (off+j*3) L[j]:=by
 obtain⟨ao,cap,rfl,hm,ab,hc⟩:=h;obtain⟨b,off,rfl,hlt,aa⟩:=hc (by intro e;rw[e]at h1;simp at h1);exact⟨b,off,cap,rfl,ab,hlt,aa⟩
theorem Sl.open (h:Sl w v xs)(h1:1<=xs.length):∃b off cap,v=lD b off xs.length cap/\xs.length<=cap/\b<w.heap.size/\∀j,j<xs.length->w.cell? (aD b (off+j))=some (iI (xs.getD j 0)):=by
 obtain⟨ao,cap,rfl,hm,ab,hc⟩:=h;obtain⟨b,off,rfl,hlt,aa⟩:=hc (by intro e;rw[e]at h1;simp at h1);exact⟨b,off,cap,rfl,ab,hlt,aa⟩
def Dw (b:UInt8):Bool:=decide (97<=b.toNat/\b.toNat<=122)
def BG (s:ByteArray):Bool:=decide (1<=s.size/\s.size<=8) && s.data.toList.all Dw
def CJ (L:List AE) (k:Nat):Bool:=BG (L.getD k default).1 && (k == 0 || Op.bytesLess (L.getD (k-1) default).1.toList (L.getD k default).1.toList)
def Cr (L:List AE):Bool:=(List.range L.length).all (CJ L)
def C6 (L:List An) (k kind:Int):Bool:=decide (0<=k/\k<L.length) && ((L.getD k.toNat default).1 == kind)
def tabE (L:List An) (e:Int):Bool:=!(e != 0 && e != -1 && !C6 L e 1)
def Cm (L:List An):Bool:=L.all (fun s=>s.2.2.all (tabE L))
def BZ (L:List An) (k:Int):Bool:=!(k != 0 && !C6 L k 2)
def AH (L:List An) (k:Int):List Int:=(L.getD k.toNat default).2.2
def Gd (L:List An) (g:Int) (r:List Int):Bool:=
 g%4 == 0 || (r.getD (r.length-1) 0 == 0 || ((AH L (r.getD (r.length-1) 0)).drop (g%4).toNat).all (fun k=>k == 0))
def Bk (L:List An) (g:Int) (r:List Int):Bool:=decide ((r.length:Int)=(g+3)/4) && (r.all (BZ L) && Gd L g r)
def BN (m:Ac):List AE:=(⟨#[]⟩,m.g,m.r)::m.p
def BK (g:Int):Bool:=decide (0<=g/\g<=16)
def As (m:Ac):Int:=
 if 3<m.p.length then 2 else if AD m.s≠0 then AD m.s else if m.f.length≠m.s.length\/Cr m.p=false then 1
 else if (BN m).all (fun s=>BK s.2.1)=false then 3 else if Cm m.s=false then 1 else if (BN m).all (fun s=>Bk m.s s.2.1 s.2.2)=false then 1 else 0

abbrev aI (m:Ac) (ra:Option Addr) (rc:Nat) (sa:Option Addr) (sc:Nat) (fa:Option Addr) (fc:Nat) (na:Option Addr) (nc:Nat):Array Value:=#[Value.int .i64 m.g,Value.slice ra m.r.length rc,Value.slice sa m.s.length sc,Value.slice fa m.f.length fc,Value.slice na m.p.length nc]
abbrev cA (m:Ac) (ra:Option Addr) (rc:Nat) (sa:Option Addr) (sc:Nat) (fa:Option Addr) (fc:Nat) (na:Option Addr) (nc:Nat):Obj:=.cells #[.int .i64 m.g,.slice ra m.r.length rc,.slice sa m.s.length sc,.slice fa m.f.length fc,.slice na m.p.length nc] 33
open Go.Shelf
section
attribute [local go_sem] OY
structure Hj where
 nm:ByteArray
 g:Int
 a:Option Addr
 n:Nat
 c:Nat
def JT (x:Hj):Array Value:=#[.agg #[.string x.nm,iI x.g,.slice x.a x.n x.c]]
structure Ks (n₀:Nat) (W:World) (Bm:Nat) (xs:List Hj):Prop where
 ex:∃ (g:Int) (ra:Option Addr) (rn rc:Nat) (sv fv:Value) (ao:Option Addr) (n cap:Nat) (ys:List Hj),xs=⟨⟨#[]⟩,g,ra,rn,rc⟩::ys/\ys.length=n/\n<=3/\
  W.cell? (aZ Bm)=some (iI g)/\W.cell? (aD Bm 1)=some (.slice ra rn rc)/\W.cell? (aD Bm 2)=some sv/\W.cell? (aD Bm 3)=some fv/\W.cell? (aD Bm 4)=some (.slice ao n cap)/\
  (0<n->∃b off,ao=some (aD b off)/\b<n₀/\∀j,(h:j<ys.length)->W.cell? (aD b (off+j*3))=some (.string ys[j].nm)/\W.cell? (aD b (off+j*3+1))=some (iI ys[j].g)/\W.cell? (aD b (off+j*3+1+1))=some (.slice ys[j].a ys[j].n ys[j].c))
def CV (n₀ Bm:Nat) (W W':World):Prop:=Below n₀ W W'/\W'.heap[Bm]?=W.heap[Bm]?
theorem CV.trans {B C:World}(h:CV n₀ Bm A B)(k:CV n₀ Bm B C):CV n₀ Bm A C:=⟨h.1.trans k.1,k.2.trans h.2⟩
theorem CV.put (hn:n₀<=w.heap.size)(hB:Bm<w.heap.size)(W:World)(l:Nat)(o o':Obj)(hl:w.heap.size<=l)(h:W.heap[l]?=some o)(h1:o.isCells=false)(h2:o.isWalk=false):CV n₀ Bm W (W.putObj l o'):=
 ⟨belowK_b hn W l o o' hl h h1 h2,O1 oM⟩
theorem CV.refl (n₀ Bm:Nat)(W:World):CV n₀ Bm W W:=⟨AG _ _,rfl⟩
theorem CV.of_below (h:Bw W W')(hn:n₀<=W.heap.size)(hB:Bm<W.heap.size):CV n₀ Bm W W':=⟨h.mono hn,h.block _ hB⟩
theorem CV.alloc (hn:n₀<=W.heap.size)(hB:Bm<W.heap.size)(o:Obj):CV n₀ Bm W (W.alloc o):=CV.of_below ((AG _ W).alloc lE o) hn hB
theorem KA {B:World}(h:B.heap[b]?=A.heap[b]?)(o:Nat):B.cell? (aD b o)=A.cell? (aD b o):=by simp[World.cell?,h]
theorem Ks.kept {B:World}{xs:List Hj}(h:Ks n₀ A Bm xs)(hk:CV n₀ Bm A B):Ks n₀ B Bm xs:=by
 obtain⟨g,ra,rn,rc,sv,fv,ao,n,cap,ys,h1,h2,h3,c0,c1,c2,c3,c4,h5⟩:=h.ex;refine⟨g,ra,rn,rc,sv,fv,ao,n,cap,ys,h1,h2,h3,(KA hk.2 _).trans c0,(KA hk.2 _).trans c1,(KA hk.2 _).trans c2,(KA hk.2 _).trans c3,(KA hk.2 _).trans c4,fun h0=>?_⟩;obtain⟨b,off,e,hlt,hc⟩:=h5 h0;exact⟨b,off,e,hlt,fun j hj=>⟨(hk.1.cell (p:=(aD b (off+j*3))) hlt).trans (hc j hj).1,(hk.1.cell (p:=(aD b (off+j*3+1))) hlt).trans (hc j hj).2.1,(hk.1.cell (p:=(aD b (off+j*3+1+1))) hlt).trans (hc j hj).2.2⟩⟩
theorem QI (F:Fence)(n:Nat)(h1:F.fn 138)(hro:F.round=none)(a0 a1 a2 a3 a4:Value)(w:World):CallsIn F n prog 138 #[.agg #[a0,a1,a2,a3,a4]] w fun e w'=>e=.returned (.func (.func 182) #[] #[pZ w.heap.size])/\w'=w.alloc (.cells #[a0,a1,a2,a3,a4] 33):=by
 refine callsIn_of_wp func138 rfl h1 ?_ hro;simp only[ntmps138,EG,BF,C1,Nat.reduceAdd,Nat.reduceSub,FT,FU,FY,FW,EY,Er]
 gi_wp2
 go_ret;exact⟨rfl,rfl⟩
set_option maxRecDepth 100000 in
theorem fY {α:Type}(val:α->Hj)(F:Fence)(n:Nat)(h6:F.fn 182)(hro:F.round=none)(hn:1<=n)(l Bm n₀:Nat)(xs:List α)(J Jx:List α->World->Prop)(hY:∀pre x W,J pre W->pre.length<xs.length->YieldAt F (n-1) prog l (JT (val x)) W fun e W'=>
   (e=.returned (.bool true)/\J (pre++[x]) W'/\CV n₀ Bm W W')\/(e=.returned (.bool false)/\Jx (pre++[x]) W'))(hJa:∀s W o,J s W->J s (W.alloc o))(W:World)(hL:Ks n₀ W Bm (xs.map val))(hn₀:n₀<=W.heap.size)(hBm:Bm<W.heap.size)(h0:J [] W):CallsIn F n prog 182 #[.func (.yield l) #[] #[],pZ Bm] W fun e W'=>(∃v,e=.returned v)/\
   ((∃ys,ys=xs/\J ys W')\/(∃pre,pre <+: xs/\Jx pre W')):=by
 obtain⟨g,ra,rn,rc,sv,fv,ao,m,cap,vs,hx,hz,au,c0,c1,c2,c3,c4,hc⟩:=hL.ex;obtain⟨x0,zs,rfl,hx0,aq⟩:=List.map_eq_cons_iff.1 hx;subst aq;have HZ:Hd (zs.length=m):=by show _=_;simpa using hz
 have HC:Hd (0<m->∃b off,ao=some (aD b off)/\b<n₀/\∀j,(h:j<zs.length)->W.cell? (aD b (off+j*3))=some (.string (val zs[j]).nm)/\W.cell? (aD b (off+j*3+1))=some (iI (val zs[j]).g)/\W.cell? (aD b (off+j*3+1+1))=some (.slice (val zs[j]).a (val zs[j]).n (val zs[j]).c)):=fun h0=>by
  obtain⟨b,off,e,hb,h⟩:=hc h0;exact⟨b,off,e,hb,fun j hj=>by have:=h j (by simpa using hj);rw[Lx]at this;exact this⟩
 obtain⟨fn,tmps,assign,body,hy,hR⟩:=hY [] x0 W h0 (by simp);rw[hx0]at hy;unfold JT at hy;dsimp only at hy;clear hx hz hc hL hx0;refine callsIn_of_wp func182 rfl h6 ?_ hro;simp only[ntmps182,EG,BF,C1,Nat.reduceAdd,Nat.reduceSub,FT,FU,FY,FW,EY,Er]
 gi_wp2
 refine hR.mono ?_;rintro e W1 (⟨rfl,ak,ac⟩|⟨rfl,ad⟩)
 ·have c4:W1.cell? (aD Bm 4)=some (.slice ao m cap):=(KA ac.2 _).trans c4;have am:n₀<=W1.heap.size:=Bg hn₀ ac.1.size;have an:Bm<W1.heap.size:=AO hBm ac.1.size
  gi_wp2
  gi_loopw [4,16] (fun _ i wr=>∃k:Nat,k<=m/\i=iI k/\J (x0::zs.take k) wr/\Below n₀ W wr/\n₀<=wr.heap.size/\Bm<wr.heap.size) (fun _ i _=>m-(intOf i).toNat)
  case atStart=>exact⟨0,A7 _,rfl,ak,ac.1,am,an⟩
  case round=>
   obtain⟨k,hk,rfl,aj,aa,hsz,ap⟩:=hrel
   by_cases hlk:k<m
   ·obtain⟨b,off,rfl,hlt,ab⟩:=HC.o oM;have ar:(k:Int)<(m:Int):=oM;obtain⟨y,ai⟩:∃y,y=zs[k]'(by rw[HZ.o];exact hlk):=⟨_,rfl⟩;have hcc:=ab k (by rw[HZ.o];exact hlk);rw[<-ai]at hcc;have HT:Hd (zs.take (k+1)=zs.take k++[y]):=by show _=_;rw[LA,ai];simp[show k<zs.length by rw[HZ.o];exact hlk]
    have af:=hY (x0::zs.take k) y;obtain⟨s,hs⟩:∃s,s=val y:=⟨_,rfl⟩;rw[<-hs]at hcc af;obtain⟨nm,gg,sa,sn,sc⟩:=s;obtain⟨d1,d2,d3⟩:=hcc;have d1:wr.cell? (aD b (off+k*3))=some (.string nm):=(aa.cell (p:=(aD b (off+k*3))) hlt).trans d1;have d2:wr.cell? (aD b (off+k*3+1))=some (iI gg):=(aa.cell (p:=(aD b (off+k*3+1))) hlt).trans d2;have d3:wr.cell? (aD b (off+k*3+1+1))=some (.slice sa sn sc):=(aa.cell (p:=(aD b (off+k*3+1+1))) hlt).trans d3;have ag:Below n₀ wr (wr.alloc (oN nm gg sa sn sc)):=(AG _ _).alloc hsz _;obtain⟨fn,tmps,assign,body,hy,hR⟩:=af (wr.alloc (oN nm gg sa sn sc)) (hJa _ _ _ aj) (by have:=HZ.o;simp;omega);unfold JT at hy;dsimp only at hy;clear hs ab ai af
    gi_wp2
    refine hR.mono ?_;rintro e W3 (⟨rfl,al,ah⟩|⟨rfl,ae⟩)
    ·gi_wp2
     go_roundw
     case rel=>exact⟨k+1,oM,by go_num,by rw[HT.o];exact al,(aa.trans ag).trans ah.1,Bg (Bg hsz ag.size) ah.1.size,AO (AO ap ag.size) ah.1.size⟩
     case measure=>simp[intOf];omega
    ·gi_wp2
     refine AY (LG rfl _ _ _) rfl ?_;refine⟨⟨_,rfl⟩,.inr ⟨_,?_,ae⟩⟩;rw[Er,<-HT.o];exact List.cons_prefix_cons.2 ⟨rfl,List.take_prefix _ _⟩
   ·have e4:k=m:=oM;subst e4
    gi_wp2
    go_end0
    refine⟨⟨_,rfl⟩,.inl ⟨_,?_,aj⟩⟩;rw[DF (by rw[HZ.o];exact Bc _)]
 ·gi_wp2
  refine AY (LG rfl _ _ _) rfl ?_;refine⟨⟨_,rfl⟩,.inr ⟨_,?_,ad⟩⟩;exact⟨zs,rfl⟩
theorem QJ {α:Type}(val:α->Hj)(F:Fence)(n:Nat)(h6:F.fn 182)(hro:F.round=none)(hn:1<=n)(Bm n₀:Nat)(xs:List α)(w:World)(hL:Ks n₀ w Bm (xs.map val))(hn₀:n₀<=w.heap.size)(hBm:Bm<w.heap.size):SeqStopsK F n prog 182 #[pZ Bm] (fun x=>JT (val x)) (CV n₀ Bm) (fun ys=>ys=xs) (fun pre=>pre <+: xs) xs.length w:=fun l J Jx W hW hJ _ hY h0=>
 fY val F n h6 hro hn l Bm n₀ xs J Jx hY (fun s A o h=>hJ s A _ none h (World.grownBy_alloc A o none) (by simp)) W (hL.kept (CV.of_below hW hn₀ hBm)) (Bg hn₀ hW.size) (AO hBm hW.size) h0
def Rt (w:World) (x:Hj) (s:AE):Prop:=x.nm=s.1/\x.g=s.2.1/\Sl w (.slice x.a x.n x.c) s.2.2
abbrev Ix (w:World):Type:={p:Hj × AE // Rt w p.1 p.2}
end
def O9 (g:Nat) (lb:Array Value) (p:Int->Bool) (w:World):Prop:=
 ∀ (W:World) (x:Int),Bw w W->Calls prog g (#[iI x]++lb) W fun e w'=>e=.returned (.bool (p x))/\Bw W w'
theorem VW (hk:k<xs.length)(h:p (xs.getD k 0)=true):xs.any p=true:=by
 rw[List.any_eq_true];exact⟨xs[k],BS hk,by simpa[List.getD,hk] using h⟩
theorem VX (h:∀j,j<xs.length->p (xs.getD j 0)=false):xs.any p=false:=by
 rw[List.any_eq_false];intro x hx;obtain⟨j,hj,rfl⟩:=Ee hx;have:=h j hj
 simpa[List.getD,hj] using this
theorem YW (g:Nat)(lb:Array Value)(eg:∀args w,(callFunc g args).run prog w=.ok (.enter g args) w)(p:Int->Bool)(ao:Option Addr)(n cap:Nat)(xs:List Int)(w:World)(hn:xs.length=n)(hm:n<=9223372036854775807)(hc:0<n->∃b off,ao=some (aD b off)/\b<w.heap.size/\∀j,j<n->w.cell? (aD b (off+j))=some (iI (xs.getD j 0)))(hp:O9 g lb p w):Calls prog 231 #[.slice ao n cap,.func (.func g) #[] lb] w fun r w'=>(∃i:Int,r=.returned (iI i)/\(decide (0<=i))=xs.any p)/\Bw w w':=by
 have HN:Hd (xs.length=n):=hn;have HP:Hd (O9 g lb p w):=hp;have HC:Hd (0<n->∃b off,ao=some (aD b off)/\b<w.heap.size/\∀j,j<n->w.cell? (aD b (off+j))=some (iI (xs.getD j 0))):=hc;clear hn hp hc
 go_enter func231,ntmps231
 go_wp2
 go_loopw [5,8] (fun _ i wr=>∃k:Nat,k<=n/\i=iI k/\Hd (∀j,j<k->p (xs.getD j 0)=false)/\Bw w wr) (fun _ i _=>n-(intOf i).toNat)
 case atStart=>exact⟨0,A7 _,rfl,fun j hj=>absurd hj oM,AG _ _⟩
 case round=>
  obtain⟨k,hk,rfl,HA,ab⟩:=hrel
  by_cases hlk:k<n
  ·obtain⟨b,off,rfl,hlt,ac⟩:=HC.o oM;have ad:(k:Int)<(n:Int):=oM;obtain⟨x,hx⟩:∃x,x=xs.getD k 0:=⟨_,rfl⟩;have c1:wr.cell? (aD b (off+k))=some (iI x):=by rw[hx];exact(ab.cell (p:=(aD b (off+k))) hlt).trans (ac k hlk)
   have HX:Hd (x=xs.getD k 0):=hx;have aa:=HP.o wr x ab;clear hx ac
   cases hq:p x with
   | true=>
    rw[hq]at aa;go_wp2_with(go_at_fn g;refine aa.mono ?_;rintro e w1 ⟨rfl,b1⟩);go_ret;exact⟨⟨k,rfl,by rw[VW (p:=p) (xs:=xs) (k:=k) (by rw[HN.o];exact hlk) (by rw[<-HX.o];exact hq)];simp⟩,Below.on ab b1⟩
   | false=>
    rw[hq]at aa;go_wp2_with(go_at_fn g;refine aa.mono ?_;rintro e w1 ⟨rfl,b1⟩);go_roundw
    case rel=>exact⟨k+1,oM,by go_num,fun j hj=>by
     by_cases e:j=k
     ·subst e;rw[<-HX.o];exact hq
     ·exact HA.o j oM,Below.on ab b1⟩
    case measure=>simp[intOf];omega
  ·have e4:k=n:=oM;subst e4
   go_wp2
   go_ret;exact⟨⟨-1,rfl,by rw[VX (p:=p) (xs:=xs) (fun j hj=>HA.o j (by rw[HN.o]at hj;exact hj))];simp⟩,ab⟩
theorem Pm {lb:Array Value}(eg:∀args w,(callFunc g args).run prog w=.ok (.enter g args) w)(h:Sl w v xs)(hp:O9 g lb p w){B:Bool}(hB:xs.any p=B):Calls prog 212 #[v,.func (.func g) #[] lb] w fun r w'=>r=.returned (.bool B)/\Bw w w':=by
 have hI:Calls prog 231 #[v,.func (.func g) #[] lb] w fun r w'=>(∃i:Int,r=.returned (iI i)/\(decide (0<=i))=B)/\Bw w w':=by
  subst hB;obtain⟨ao,cap,rfl⟩:=h.form;obtain⟨_,hm,_,hc⟩:=h.cells;refine YW g lb eg p ao _ cap xs w rfl hm (fun h0=>?_) hp;obtain⟨b,off,rfl,hlt,_⟩:=hc 0 h0;refine⟨b,off,rfl,hlt,fun j hj=>?_⟩;obtain⟨b',ab,e,_,aa⟩:=hc j hj;simp at e
  obtain⟨rfl,rfl⟩:=e;exact aa
 clear h hp
 go_enter func212,ntmps212
 go_wp2_with(go_at_call 231;refine hI.mono ?_;rintro e w1 ⟨⟨i,rfl,hi⟩,b1⟩);go_ret;exact⟨D8 (by rw[<-hi]),b1⟩
def Pa (g:Nat) (lb:Array Value) (p:An->Bool) (w:World):Prop:=
 ∀ (W:World) (s:An) (tv:Value),Bw w W->Sl W tv s.2.2->Calls prog g (#[.agg #[iI s.1,.string s.2.1,tv]]++lb) W fun e w'=>e=.returned (.bool (p s))/\Bw W w'
theorem VU {p:An->Bool}{xs:List An}(hk:k<xs.length)(h:p xs[k]=true):xs.any p=true:=by
 rw[List.any_eq_true];exact⟨xs[k],BS hk,h⟩
theorem VV {p:An->Bool}{xs:List An}(h:∀j,(hj:j<xs.length)->p xs[j]=false):xs.any p=false:=by
 rw[List.any_eq_false];intro x hx;obtain⟨j,hj,rfl⟩:=Ee hx;simp[h j hj]
theorem YY (g:Nat)(lb:Array Value)(eg:∀args w,(callFunc g args).run prog w=.ok (.enter g args) w)(p:An->Bool)(ao:Option Addr)(n cap:Nat)(L:List An)(w:World)(hn:L.length=n)(hm:n<=9223372036854775807)(hc:0<n->∃b off,ao=some (aD b off)/\b<w.heap.size/\∀j,(h:j<L.length)->B7 w b (off+j*3) L[j])(hp:Pa g lb p w):Calls prog 230 #[.slice ao n cap,.func (.func g) #[] lb] w fun r w'=>(∃i:Int,r=.returned (iI i)/\(decide (0<=i))=L.any p)/\Bw w w':=by
 have HN:Hd (L.length=n):=hn;have HP:Hd (Pa g lb p w):=hp;have HC:Hd (0<n->∃b off,ao=some (aD b off)/\b<w.heap.size/\∀j,(h:j<L.length)->B7 w b (off+j*3) L[j]):=hc;clear hn hp hc
 go_enter func230,ntmps230
 go_wp2
 go_loopw [5,8] (fun _ i wr=>∃k:Nat,k<=n/\i=iI k/\Hd (∀j,(h:j<L.length)->j<k->p L[j]=false)/\Bw w wr) (fun _ i _=>n-(intOf i).toNat)
 case atStart=>exact⟨0,A7 _,rfl,fun j h hj=>absurd hj oM,AG _ _⟩
 case round=>
  obtain⟨k,hk,rfl,HA,aa⟩:=hrel
  by_cases hlk:k<n
  ·obtain⟨b,off,rfl,hlt,ac⟩:=HC.o oM;have ad:(k:Int)<(n:Int):=oM;obtain⟨s,hs⟩:∃s,s=L[k]'(by rw[HN.o];exact hlk):=⟨_,rfl⟩;obtain⟨kk,dd,tt⟩:=s;have hS:B7 w b (off+k*3) (kk,dd,tt):=by rw[hs];exact ac k _
   obtain⟨tv,c1,c2,c3,hsl⟩:=hS;have HX:Hd ((kk,dd,tt)=L[k]'(by rw[HN.o];exact hlk)):=hs;have c1:wr.cell? (aD b (off+k*3))=some (iI kk):=(aa.cell (p:=(aD b (off+k*3))) hlt).trans c1;have c2:wr.cell? (aD b (off+k*3+1))=some (.string dd):=(aa.cell (p:=(aD b (off+k*3+1))) hlt).trans c2;have c3:wr.cell? (aD b (off+k*3+1+1))=some tv:=(aa.cell (p:=(aD b (off+k*3+1+1))) hlt).trans c3;have ab:=HP.o wr (kk,dd,tt) tv aa (hsl.below aa);dsimp only at ab;clear hs ac hsl
   cases hq:p (kk,dd,tt) with
   | true=>
    rw[hq]at ab;go_wp2_with(go_at_fn g;refine ab.mono ?_;rintro e w1 ⟨rfl,b1⟩);go_ret;exact⟨⟨k,rfl,by rw[VU (p:=p) (xs:=L) (k:=k) (by rw[HN.o];exact hlk) (by rw[<-HX.o];exact hq)];simp⟩,Below.on aa b1⟩
   | false=>
    rw[hq]at ab;go_wp2_with(go_at_fn g;refine ab.mono ?_;rintro e w1 ⟨rfl,b1⟩);go_roundw
    case rel=>exact⟨k+1,oM,by go_num,fun j h hj=>by
     by_cases e:j=k
     ·subst e;rw[<-HX.o];exact hq
     ·exact HA.o j h oM,Below.on aa b1⟩
    case measure=>simp[intOf];omega
  ·have e4:k=n:=oM;subst e4
   go_wp2
   go_ret;exact⟨⟨-1,rfl,by rw[VV (p:=p) (xs:=L) (fun j hj=>HA.o j hj (by rw[HN.o]at hj;exact hj))];simp⟩,aa⟩
theorem WF {lb:Array Value}(eg:∀args w,(callFunc g args).run prog w=.ok (.enter g args) w){p:An->Bool}(h:BA w v L)(hp:Pa g lb p w){B:Bool}(hB:L.any p=B):Calls prog 210 #[v,.func (.func g) #[] lb] w fun r w'=>r=.returned (.bool B)/\Bw w w':=by
 have hI:Calls prog 230 #[v,.func (.func g) #[] lb] w fun r w'=>(∃i:Int,r=.returned (iI i)/\(decide (0<=i))=B)/\Bw w w':=by
  subst hB;have hm:=h.small;obtain⟨ao,cap,rfl,_,_,hc⟩:=h;exact YY g lb eg p ao _ cap L w rfl hm (fun h0=>hc (by intro e;rw[e]at h0;simp at h0)) hp
 clear h hp
 go_enter func210,ntmps210
 go_wp2_with(go_at_call 230;refine hI.mono ?_;rintro e w1 ⟨⟨i,rfl,hi⟩,b1⟩);go_ret;exact⟨D8 (by rw[<-hi]),b1⟩
theorem SN {k:Int}(h:¬(0<=k/\k<L.length)):C6 L k kind=false:=by
 unfold C6;rw[Dn h];rfl
theorem P0 (h:k<L.length):C6 L (k:Int) kind=(L[k].1 == kind):=by
 unfold C6;rw[C3 oM];simp[List.getD,h]
theorem Zg (ao:Option Addr)(n cap:Nat)(k kind:Int)(w:World)(h:¬(0<=k/\k<(n:Int)))(_hm:n<=9223372036854775807):Calls prog 214 #[.slice ao n cap,iI k,iI kind] w fun r w'=>r=.returned (.bool false)/\w'=w:=by
 by_cases h0:0<=k
 ·have h1:¬k<(n:Int):=fun h1=>h ⟨h0,h1⟩
  clear h
  go_enter func214,ntmps214
  go_wp2
  go_ret;exact⟨rfl,rfl⟩
 ·clear h
  go_enter func214,ntmps214
  go_wp2
  go_ret;exact⟨rfl,rfl⟩
theorem Zf (b off n cap k:Nat)(x kind:Int)(w:World)(h:k<n)(_hm:n<=9223372036854775807)(hc:w.cell? (aD b (off+k*3))=some (iI x)):Calls prog 214 #[lD b off n cap,iI k,iI kind] w fun r w'=>r=.returned (.bool (x == kind))/\w'=w:=by
 have h0:(0:Int)<=(k:Int):=oM;have h1:(k:Int)<(n:Int):=oM
 go_enter func214,ntmps214
 go_wp2
 go_ret;exact⟨rfl,rfl⟩
theorem SO (h:BA w v L)(k kind:Int){B:Bool}(hB:C6 L k kind=B):Calls prog 214 #[v,iI k,iI kind] w fun r w'=>r=.returned (.bool B)/\w'=w:=by
 subst hB;have hm:=h.small
 by_cases hk:0<=k/\k<L.length
 ·obtain⟨b,off,cap,rfl,ab,hlt,aa⟩:=h.open oM;obtain⟨j,rfl⟩:∃j:Nat,k=j:=⟨k.toNat,oM⟩;have hj:j<L.length:=oM;obtain⟨tv,c1,_⟩:=aa j hj;rw[P0 hj];exact Zf b off _ cap j _ kind w hj hm c1
 ·rw[SN hk];obtain⟨ao,cap,rfl⟩:=h.form;exact Zg ao _ cap k kind w hk hm
section
theorem IP {e:Int}(h0:e≠0)(h1:e≠-1):tabE L e=C6 L e 1:=by
 have a:(e != 0)=true:=by simpa using h0
 have b:(e != -1)=true:=by simpa using h1
 unfold tabE;rw[a,b];simp
theorem E9 {e:Int}(h0:e≠0):BZ L e=C6 L e 2:=by
 have a:(e != 0)=true:=by simpa using h0
 unfold BZ;rw[a];simp
theorem Xz (B:Nat)(v:Value)(L:List An)(x:Int)(w:World)(hc:w.cell? (aZ B)=some v)(h:BA w v L):Calls prog 213 #[iI x,pZ B] w fun r w'=>r=.returned (.bool (!tabE L x))/\w'=w:=by
 obtain⟨ao,cap,rfl⟩:=h.form
 by_cases h0:x=0
 ·subst h0
  go_enter func213,ntmps213
  go_wp2
  go_ret;exact⟨rfl,rfl⟩
 by_cases h1:x = -1
 ·subst h1;clear h0
  go_enter func213,ntmps213
  go_wp2
  go_ret;exact⟨rfl,rfl⟩
 rw[IP h0 h1];have g0:(x != 0)=true:=by simpa using h0
 have g1:(x != -1)=true:=by simpa using h1
 clear h0 h1
 go_enter func213,ntmps213
 go_wp2_with(go_at_call 214;refine(SO h x 1 rfl).mono ?_;rintro e w1 ⟨rfl,hw⟩;subst hw);go_ret;exact⟨rfl,rfl⟩
theorem fW (B:Nat)(v:Value)(L:List An)(x:Int)(w:World)(hc:w.cell? (aZ B)=some v)(h:BA w v L):Calls prog 215 #[iI x,pZ B] w fun r w'=>r=.returned (.bool (!BZ L x))/\w'=w:=by
 obtain⟨ao,cap,rfl⟩:=h.form
 by_cases h0:x=0
 ·subst h0
  go_enter func215,ntmps215
  go_wp2
  go_ret;exact⟨rfl,rfl⟩
 rw[E9 h0];have g0:(x != 0)=true:=by simpa using h0
 clear h0
 go_enter func215,ntmps215
 go_wp2_with(go_at_call 214;refine(SO h x 2 rfl).mono ?_;rintro e w1 ⟨rfl,hw⟩;subst hw);go_ret;exact⟨rfl,rfl⟩
theorem YN (x:Int)(w:World):Calls prog 216 #[iI x] w fun r w'=>r=.returned (.bool (!(x == 0)))/\w'=w:=by
 go_enter func216,ntmps216
 go_wp2
 go_ret;exact⟨rfl,rfl⟩
theorem Na {α:Type}(p:α->Bool)(xs:List α):xs.any (fun x=>!p x) = !xs.all p:=by
 induction xs with
 | nil=>rfl
 | cons a r ih=>simp only[List.any_cons,GP,ih];cases p a<;>simp
theorem iX (B:Nat)(v:Value)(L:List An)(s:An)(tv:Value)(w:World)(hB:B<w.heap.size)(hc:w.cell? (aZ B)=some v)(h:BA w v L)(ht:Sl w tv s.2.2):Calls prog 211 #[.agg #[iI s.1,.string s.2.1,tv],pZ B] w fun r w'=>r=.returned (.bool (!s.2.2.all (tabE L)))/\Bw w w':=by
 obtain⟨k,d,xs⟩:=s;dsimp only at ht ⊢;have b0:Bw w (w.alloc (.cells #[iI k,.string d,tv] 85)):=Av;have ht1:=ht.below b0;have hc1:=(b0.cell (p:=(aZ B)) hB).trans hc;have h1:=h.below b0;have aa:=Pm (g:=213) (lb:=#[pZ B]) (enters_of func213 kR rfl) ht1 (p:=fun x=>!tabE L x)
  (fun W x hb=>(Xz B v L x W ((hb.cell (p:=(aZ B)) (by simp;omega)).trans hc1) (h1.below hb)).mono fun e w' hr=>⟨hr.1,hr.2 ▸ AG _ _⟩) (Na (tabE L) xs)
 clear hc hc1 h h1 ht1 ht
 go_enter func211,ntmps211
 go_wp2_with(go_at_call 212;refine aa.mono ?_;rintro e w1 ⟨rfl,b1⟩);go_ret;exact⟨rfl,Below.on b0 b1⟩
theorem Vf (v:Value)(L:List An)(w:World)(h:BA w v L):Calls prog 180 #[v] w fun r w'=>r=.returned (.bool (Cm L))/\Bw w w':=by
 have b0:Bw w (w.alloc (.cells #[v] 30)):=Av;have hc1:(w.alloc (.cells #[v] 30)).cell? (aZ w.heap.size)=some v:=by rw[GT _ _ _ _ rfl];rfl
 have h1:=h.below b0;have aa:=WF (g:=211) (lb:=#[pZ w.heap.size]) (enters_of func211 kR rfl) h1 (p:=fun s=>!s.2.2.all (tabE L))
  (fun W s tv hb ht=>iX w.heap.size v L s tv W (by have:=hb.size;simp at this;omega) ((hb.cell (p:=(aZ w.heap.size)) (by simp)).trans hc1) (h1.below hb) ht) (Na (fun s=>s.2.2.all (tabE L)) L)
 obtain⟨ao,cap,rfl⟩:=h.form;clear h h1
 go_enter func180,ntmps180
 go_wp2_with(go_at_call 210;refine aa.mono ?_;rintro e w1 ⟨rfl,b1⟩);go_ret;exact⟨rfl,Below.on b0 b1⟩

theorem fU (la:Option Addr)(ln lc:Nat)(nm:ByteArray)(g:Nat)(ra:Option Addr)(rn rc:Nat)(w:World)(hg:g<=16)(_hr:rn<=9223372036854775807)(hne:rn≠(g+3)/4):Calls prog 181 #[.slice la ln lc,.agg #[.string nm,iI g,.slice ra rn rc]] w fun r w'=>r=.returned (.bool false)/\Bw w w':=by
 have b0:Bw w ((w.alloc (.cells #[.slice la ln lc] 30)).alloc (oN nm g ra rn rc)):=(Av).alloc (by simp) _
 go_enter func181,ntmps181
 go_wp2
 go_ret;exact⟨rfl,b0⟩
theorem Sl.drop {n:Nat}(h:Sl w (lD b off n cap) xs)(hk:k<n):Sl w (lD b (off+k) (n-k) (cap-k)) (xs.drop k):=by
 obtain⟨ao,cap',hv,hm,ac,hc⟩:=h;simp only[BP]at hv;obtain⟨ha,rfl,rfl⟩:=hv;refine⟨some (aD b (off+k)),cap-k,by simp,by simp;omega,by simp;omega,fun _=>?_⟩;obtain⟨b',ab,e,hlt,aa⟩:=hc (by intro e;rw[e]at hk;simp at hk);rw[<-ha]at e;simp at e
 obtain⟨rfl,rfl⟩:=e;refine⟨b,off+k,rfl,hlt,fun j hj=>?_⟩;have ad:j<xs.length-k:=by simpa using hj
 have:=aa (k+j) oM;rw[show off+k+j=off+(k+j) by omega,this];simp[List.getD]
theorem Nd (w:World)(x y1 y2 y3:Value)(T1 T2:TypeId):((w.alloc (.cells #[x] T1)).alloc (.cells #[y1,y2,y3] T2)).cell? (aZ w.heap.size)=some x/\((w.alloc (.cells #[x] T1)).alloc (.cells #[y1,y2,y3] T2)).cell? (aZ (w.heap.size+1))=some y1/\
  ((w.alloc (.cells #[x] T1)).alloc (.cells #[y1,y2,y3] T2)).cell? (aD (w.heap.size+1) 1)=some y2/\((w.alloc (.cells #[x] T1)).alloc (.cells #[y1,y2,y3] T2)).cell? (aD (w.heap.size+1) 2)=some y3:=by
 refine⟨?_,?_,?_,?_⟩
 ·have b:Below (w.alloc (.cells #[x] T1)).heap.size (w.alloc (.cells #[x] T1)) ((w.alloc (.cells #[x] T1)).alloc (.cells #[y1,y2,y3] T2)):=Av;rw[b.cell (p:=(aZ w.heap.size)) (by simp),GT _ _ _ _ rfl];rfl
 ·rw[GT _ _ _ _ (by simp)];rfl
 ·rw[GT _ _ _ _ (by simp)];rfl
 ·rw[GT _ _ _ _ (by simp)];rfl
abbrev NX (w:World) (lv:Value) (nm:ByteArray) (g:Nat) (rv:Value):World:=(w.alloc (.cells #[lv] 30)).alloc (.cells #[.string nm,iI g,rv] 87)
theorem Mf (w:World)(lv:Value)(nm:ByteArray)(g:Nat)(rv:Value):Bw w (NX w lv nm g rv):=(Av).alloc (by simp) _
theorem N2 (w:World)(lv:Value)(L:List An)(nm:ByteArray)(g:Nat)(rv:Value)(r:List Int)(h:BA w lv L)(hr:Sl w rv r){B:Bool}(hB:(!r.all (BZ L))=B):Calls prog 212 #[rv,.func (.func 215) #[] #[pZ w.heap.size]] (NX w lv nm g rv) fun e w'=>e=.returned (.bool B)/\Below (NX w lv nm g rv).heap.size (NX w lv nm g rv) w':=by
 have b0:=Mf w lv nm g rv;obtain⟨c0,_⟩:=Nd w lv (.string nm) (iI g) rv 30 87;exact Pm (g:=215) (lb:=#[pZ w.heap.size]) (enters_of func215 kR rfl) (hr.below b0) (p:=fun x=>!BZ L x)
  (fun W x hb=>(fW w.heap.size lv L x W ((hb.cell (p:=(aZ w.heap.size)) (by simp;omega)).trans c0) ((h.below b0).below hb)).mono fun e w' hr=>⟨hr.1,hr.2 ▸ AG _ _⟩) ((Na (BZ L) r).trans hB)
theorem fQ (la:Option Addr)(ln lc:Nat)(L:List An)(nm:ByteArray)(g:Nat)(ra:Option Addr)(rn rc:Nat)(r:List Int)(w:World)(hg:g<=16)(hq1:4*rn<=g+3)(hq2:g+3<4*rn+4)(h:BA w (.slice la ln lc) L)(hr:Sl w (.slice ra rn rc) r)(hB:(!r.all (BZ L))=true):Calls prog 181 #[.slice la ln lc,.agg #[.string nm,iI g,.slice ra rn rc]] w fun r w'=>r=.returned (.bool false)/\Bw w w':=by
 have b0:=Mf w (.slice la ln lc) nm g (.slice ra rn rc);have aa:=N2 w (.slice la ln lc) L nm g (.slice ra rn rc) r h hr hB;clear h hr hB
 go_enter func181,ntmps181
 go_wp2_with fail;refine aa.mono ?_;rintro e w1 ⟨rfl,b1⟩;go_wp2_with fail;go_ret;exact⟨rfl,Below.on b0 b1⟩
theorem fS (la:Option Addr)(ln lc:Nat)(L:List An)(nm:ByteArray)(g:Nat)(ra:Option Addr)(rn rc:Nat)(r:List Int)(w:World)(hg:g<=16)(hq1:4*rn<=g+3)(hq2:g+3<4*rn+4)(h0:g%4=0)(h:BA w (.slice la ln lc) L)(hr:Sl w (.slice ra rn rc) r)(hB:(!r.all (BZ L))=false):Calls prog 181 #[.slice la ln lc,.agg #[.string nm,iI g,.slice ra rn rc]] w fun r w'=>r=.returned (.bool true)/\Bw w w':=by
 have b0:=Mf w (.slice la ln lc) nm g (.slice ra rn rc);have aa:=N2 w (.slice la ln lc) L nm g (.slice ra rn rc) r h hr hB;obtain⟨_,c1,c2,c3⟩:=Nd w (.slice la ln lc) (.string nm) (iI g) (.slice ra rn rc) 30 87;clear h hr hB
 go_enter func181,ntmps181
 go_wp2_with fail;refine aa.mono ?_;rintro e w1 ⟨rfl,b1⟩;replace c2:=(b1.cell (p:=(aD (w.heap.size+1) 1)) (by simp)).trans c2;go_wp2_with fail;go_ret;exact⟨rfl,Below.on b0 b1⟩
theorem fT (la:Option Addr)(ln lc:Nat)(L:List An)(nm:ByteArray)(g:Nat)(rb ro:Nat)(rn rc:Nat)(r:List Int)(w:World)(hg:g<=16)(hq1:4*rn<=g+3)(hq2:g+3<4*rn+4)(h0:0<g%4)(h:BA w (.slice la ln lc) L)(hr:Sl w (lD rb ro rn rc) r)(hB:(!r.all (BZ L))=false)(hb:rb<w.heap.size)(hlast:w.cell? (aD rb (ro+(rn-1)))=some (iI 0)):Calls prog 181 #[.slice la ln lc,.agg #[.string nm,iI g,lD rb ro rn rc]] w fun r w'=>r=.returned (.bool true)/\Bw w w':=by
 have b0:=Mf w (.slice la ln lc) nm g (lD rb ro rn rc);have aa:=N2 w (.slice la ln lc) L nm g (lD rb ro rn rc) r h hr hB;obtain⟨_,c1,c2,c3⟩:=Nd w (.slice la ln lc) (.string nm) (iI g) (lD rb ro rn rc) 30 87;have hl:=(b0.cell (p:=(aD rb (ro+(rn-1)))) hb).trans hlast;clear h hr hB hlast
 go_enter func181,ntmps181
 go_wp2_with fail;refine aa.mono ?_;rintro e w1 ⟨rfl,b1⟩;replace c2:=(b1.cell (p:=(aD (w.heap.size+1) 1)) (by simp)).trans c2;replace c3:=(b1.cell (p:=(aD (w.heap.size+1) 2)) (by simp)).trans c3;replace hl:=(b1.cell (p:=(aD rb (ro+(rn-1)))) (by simp;omega)).trans hl;go_wp2_with fail;go_ret;exact⟨rfl,Below.on b0 b1⟩

theorem fV (lb lo:Nat)(ln lc:Nat)(L:List An)(nm:ByteArray)(g:Nat)(rb ro:Nat)(rn rc:Nat)(r:List Int)(w:World)(hg:g<=16)(hq1:4*rn<=g+3)(hq2:g+3<4*rn+4)(h0:0<g%4)(h:BA w (lD lb lo ln lc) L)(hr:Sl w (lD rb ro rn rc) r)(hB:(!r.all (BZ L))=false)(hb:rb<w.heap.size)(hbl:lb<w.heap.size)(t:Nat)(ht0:0<t)(ht:t<ln)(hlast:w.cell? (aD rb (ro+(rn-1)))=some (iI t))(tb tw tc:Nat)(hcell:w.cell? (aD lb (lo+t*3+2))=some (lD tb tw 4 tc))(htc:4<=tc)(xs:List Int)(hs:Sl w (lD tb tw 4 tc) xs)(B:Bool)(hxs:(xs.drop (g%4)).all (fun k=>k == 0)=B):Calls prog 181 #[lD lb lo ln lc,.agg #[.string nm,iI g,lD rb ro rn rc]] w fun r w'=>r=.returned (.bool B)/\Bw w w':=by
 have b0:=Mf w (lD lb lo ln lc) nm g (lD rb ro rn rc);have ab:=N2 w (lD lb lo ln lc) L nm g (lD rb ro rn rc) r h hr hB;obtain⟨c0,c1,c2,c3⟩:=Nd w (lD lb lo ln lc) (.string nm) (iI g) (lD rb ro rn rc) 30 87;have hl:=(b0.cell (p:=(aD rb (ro+(rn-1)))) hb).trans hlast;have hd:=(hs.drop (k:=g%4) oM).below b0;have hcell:=(b0.cell (p:=(aD lb (lo+t*3+2))) hbl).trans hcell;have hne:((t:Int) == 0)=false:=by simp;omega
 have ac:((g:Int)%4).toNat=g%4:=oM;have HX:Hd ((xs.drop (g%4)).all (fun k=>k == 0)=B):=hxs;have h4:g%4<=4:=oM;clear h hr hB hlast hs hxs
 go_enter func181,ntmps181
 go_wp2_with fail;refine ab.mono ?_;rintro e w1 ⟨rfl,b1⟩;replace c0:=(b1.cell (p:=(aZ w.heap.size)) (by simp;omega)).trans c0;replace c2:=(b1.cell (p:=(aD (w.heap.size+1) 1)) (by simp)).trans c2;replace c3:=(b1.cell (p:=(aD (w.heap.size+1) 2)) (by simp)).trans c3;replace hl:=(b1.cell (p:=(aD rb (ro+(rn-1)))) (by simp;omega)).trans hl;replace hcell:=(b1.cell (p:=(aD lb (lo+t*3+2))) (by simp;omega)).trans hcell;replace hd:=hd.below b1;have aa:=Pm (g:=216) (lb:=#[]) (enters_of func216 kR rfl) hd (p:=fun x=>!(x == 0))
  (fun W x hb=>(YN x W).mono fun e w' hr=>⟨hr.1,hr.2 ▸ AG _ _⟩) (Na (fun x=>x == 0) _)
 rw[HX.o]at aa;clear ab hd;go_wp2_with fail;refine aa.mono ?_;rintro e w2 ⟨rfl,b2⟩;go_wp2_with fail;go_ret;exact⟨by simp,Below.on' b0 b1 b2⟩
theorem DO (h:AD L=0)(hj:j<L.length):B1 L[j]=true:=by
 have hp:=A4 h;unfold AD at h;rw[Ab hp]at h
 split at h
 ·rename_i g
  have:=g.1;rw[Ax]at this;exact this _ (BS hj)
 ·simp at h
theorem J5 {s:An}(h:B1 s=true)(hk:s.1=2):s.2.2.length=4/\Bp s.2.2=0:=by
 unfold B1 Cb at h;rw[hk]at h;simp at h
 exact⟨Dv h.1,h.1⟩
theorem Gz {k:Int}(h:C6 L k kind=true):∃j:Nat,k=j/\∃hj:j<L.length,L[j].1=kind:=by
 by_cases hk:0<=k/\k<L.length
 ·obtain⟨j,rfl⟩:∃j:Nat,k=j:=⟨k.toNat,oM⟩;have hj:j<L.length:=oM;rw[P0 hj]at h;exact⟨j,rfl,hj,by simpa using h⟩
 ·rw[SN hk]at h;cases h
theorem E2 (h:r.all p=true)(hj:j<r.length):p (r.getD j 0)=true:=by
 rw[Ax]at h;have:=h _ (BS hj)
 simpa[List.getD,hj] using this
theorem Uw {lv:Value}{nm:ByteArray}{g:Int}{rv:Value}(h:BA w lv L)(hL:AD L=0)(hg:0<=g/\g<=16)(hr:Sl w rv r){B:Bool}(hB:Bk L g r=B):Calls prog 181 #[lv,.agg #[.string nm,iI g,rv]] w fun r w'=>r=.returned (.bool B)/\Bw w w':=by
 subst hB;obtain⟨g,rfl⟩:∃k:Nat,g=k:=⟨g.toNat,oM⟩;have hs:=hr.small;have hm:=h.small
 by_cases hlen:r.length=(g+3)/4
 ·have e1:decide ((r.length:Int)=((g:Int)+3)/4)=true:=by simp;omega
  unfold Bk;rw[e1,Ff]
  cases hall:r.all (BZ L) with
  | false=>
   rw[OC];obtain⟨la,lc,rfl⟩:=h.form;obtain⟨ra,rc,rfl⟩:=hr.form;exact fQ la _ lc L nm g ra _ rc r w oM oM oM h hr (by rw[hall];rfl)
  | true=>
   rw[Ff];unfold Gd
   by_cases h0:g%4=0
   ·have e2:((g:Int)%4 == 0)=true:=by simp;omega
    rw[e2,Bool.true_or];obtain⟨la,lc,rfl⟩:=h.form;obtain⟨ra,rc,rfl⟩:=hr.form;exact fS la _ lc L nm g ra _ rc r w oM oM oM h0 h hr (by rw[hall];rfl)
   ·have e2:((g:Int)%4 == 0)=false:=by simp;omega
    rw[e2,EF];have hrl:1<=r.length:=oM;have ac:=hr;obtain⟨rb,ro,rc,rfl,hrc,ad,aa⟩:=hr.open hrl;have hlast:=aa (r.length-1) oM
    by_cases hz:r.getD (r.length-1) 0=0
    ·have e3:(r.getD (r.length-1) 0 == 0)=true:=by simpa using hz
     rw[e3,Bool.true_or];rw[hz]at hlast;obtain⟨la,lc,rfl⟩:=h.form;exact fT la _ lc L nm g rb ro _ rc r w oM oM oM oM h ac (by rw[hall];rfl) ad hlast
    ·have e3:(r.getD (r.length-1) 0 == 0)=false:=by simpa using hz
     rw[e3,EF];have hk:=E2 hall (j:=r.length-1) oM;rw[E9 hz]at hk;obtain⟨t,ht,ab,hkd⟩:=Gz hk;have hok:=J5 (DO hL ab) hkd;have h':=h;obtain⟨lb,lo,lc,rfl,ag,hlb,ae⟩:=h.open oM;obtain⟨tv,_,_,c3,hsl⟩:=ae t ab;obtain⟨tb,tw,tc,rfl,af,ah,_⟩:=hsl.four hok.1;rw[ht]at hlast ⊢;have e4:AH L (t:Int)=L[t].2.2:=by unfold AH;simp[List.getD,ab]
     rw[e4,show ((g:Int)%4).toNat=g%4 by omega];refine fV lb lo _ lc L nm g rb ro _ rc r w oM oM oM oM h' ac (by rw[hall];rfl) ad hlb t (by rw[ht]at hz;omega) ab hlast tb tw tc c3 af L[t].2.2 hsl _ rfl
 ·have e1:decide ((r.length:Int)=((g:Int)+3)/4)=false:=by simp;omega
  unfold Bk;rw[e1,OC];obtain⟨la,lc,rfl⟩:=h.form;obtain⟨ra,rc,rfl⟩:=hr.form;exact fU la _ lc nm g ra _ rc w oM hs hlen

theorem Xj (s:ByteArray)(i:Nat)(h:i<s.size)(ha:128<=(s[i]'h).toNat):128<=(Utf8.decode s i).1:=by
 have e:s.get! (i+0)=s[i]'h:=by
  show s.get! i=_
  simp[ByteArray.get!,getElem!_pos,h]
  rfl
 have hr:128<=Utf8.runeError:=by decide
 unfold Utf8.decode;simp only[e];rw[Aa oM]
 split
 ·split
  ·assumption
  ·exact hr
 ·split
  ·split
   ·rename_i hh
    simp at hh
    show 128<=_
    omega
   ·exact hr
  ·split
   ·split
    ·rename_i hh
     simp at hh
     show 128<=_
     omega
    ·exact hr
   ·exact hr
theorem ZC (x:Int)(w:World):Calls prog 162 #[.int .i32 x] w fun r w'=>r=.returned (.bool (!decide (97<=x/\x<=122)))/\w'=w:=by
 go_enter func162,ntmps162
 go_wp2
 all_goals (go_ret;exact⟨Fs (by simp<;>omega),rfl⟩)
theorem Tc {x:Int}(w:World){B:Bool}(hB:(!decide (97<=x/\x<=122))=B):Calls prog 162 #[.int .i32 x] w fun r w'=>r=.returned (.bool B)/\w'=w:=by
 subst hB;exact ZC x w
theorem P7 (h:k<s.size)(hb:Dw s[k]=false):s.data.toList.all Dw=false:=by
 cases e:s.data.toList.all Dw with
 | false=>rfl
 | true=>
  rw[Ax]at e;have:=e s[k] (by
   show s.data[k]∈s.data.toList
   exact Array.getElem_mem_toList _)
  rw[hb]at this;cases this
theorem Td (h:∀k,(hk:k<s.size)->Dw s[k]=true):s.data.toList.all Dw=true:=by
 rw[Ax];intro x hx;obtain⟨j,hj,rfl⟩:=Ee hx;exact h j (by simpa using hj)
theorem YX (s:ByteArray)(w:World):Calls prog 225 #[.string s,.func (.func 162) #[] #[],.bool true] w fun r w'=>(∃i:Int,r=.returned (iI i)/\(decide (0<=i)) = !s.data.toList.all Dw)/\Bw w w':=by
 go_enter func225,ntmps225
 go_wp2
 go_loopw [] (fun wr=>∃k:Nat,k<=s.size/\Hd (∀j,(h:j<s.size)->j<k->Dw s[j]=true)/\wr=w.iter s k) (fun wr=>s.size-wr.iterPos w.heap.size)
 case atStart=>exact⟨0,A7 _,fun j h hj=>absurd hj oM,rfl⟩
 case round=>
  obtain⟨k,hk,HA,rfl⟩:=hrel
  by_cases hlk:k<s.size
  ·by_cases hL:Dw s[k]=true
   ·have hl:=hL;unfold Dw at hl;simp at hl
    have aa:=fun ty=>run_next_ascii (P:=prog) w s k ty hlk oM
    have hq:(!decide ((97:Int)<=((s[k]'hlk).toNat:Int)/\((s[k]'hlk).toNat:Int)<=122))=false:=by simp;omega
    have HL:Hd (Dw s[k]=true):=hL;obtain⟨R,hR⟩:∃R:Nat,(s[k]'hlk).toNat=R:=⟨_,rfl⟩;rw[hR]at aa hq;clear hL hl hR;go_wp2_with(go_at_call 162;refine(Tc _ hq).mono ?_;rintro e w1 ⟨rfl,hw⟩;subst hw);go_roundw
    case rel=>exact⟨k+1,oM,fun j h hj=>by
     by_cases e:j=k
     ·subst e;exact HL.o
     ·exact HA.o j h oM,rfl⟩
    case measure=>simp;omega
   ·have ab:Dw s[k]=false:=by simpa using hL
    have hl:=ab;unfold Dw at hl;simp only[decide_eq_false_iff_not]at hl;have hq:(!decide ((97:Int)<=((Utf8.decode s k).1:Int)/\((Utf8.decode s k).1:Int)<=122))=true:=by
     by_cases ha:(s[k]'hlk).toNat<128
     ·rw[decode_ascii s k hlk ha];simp;omega
     ·have:=Xj s k hlk oM;simp;omega
    have aa:=fun ty=>run_next_any (P:=prog) w s k ty hlk
    have HL:Hd (Dw s[k]=false):=ab;obtain⟨R,hR⟩:∃R:Nat,(Utf8.decode s k).1=R:=⟨_,rfl⟩;obtain⟨K,hK⟩:∃K:Nat,(Utf8.decode s k).2=K:=⟨_,rfl⟩;rw[hR]at aa hq;rw[hK]at aa;clear hL hl ab hR hK;go_wp2_with(go_at_call 162;refine(Tc _ hq).mono ?_;rintro e w1 ⟨rfl,hw⟩;subst hw);go_ret;exact⟨⟨k,rfl,by rw[P7 hlk HL.o];simp⟩,Av⟩
  ·have aa:=fun ty=>run_next_end (P:=prog) w s k ty hlk
   go_wp2
   go_ret;exact⟨⟨-1,rfl,by rw[Td (fun j hj=>HA.o j hj oM)];simp⟩,Av⟩
theorem WE (s:ByteArray)(w:World){B:Bool}(hB:s.data.toList.all Dw=B):Calls prog 161 #[.string s,.func (.func 162) #[] #[]] w fun r w'=>r=.returned (.bool (!B))/\Bw w w':=by
 have hI:=YX s w;rw[hB]at hI;clear hB;have hJ:Calls prog 201 #[.string s,.func (.func 162) #[] #[]] w fun r w'=>(∃i:Int,r=.returned (iI i)/\(decide (0<=i)) = !B)/\Bw w w':=by
  go_enter func201,ntmps201
  go_wp2_with(go_at_call 225;refine hI.mono ?_;rintro e w1 ⟨⟨i,rfl,hi⟩,b1⟩);go_ret;exact⟨⟨i,rfl,hi⟩,b1⟩
 clear hI
 go_enter func161,ntmps161
 go_wp2_with(go_at_call 201;refine hJ.mono ?_;rintro e w1 ⟨⟨i,rfl,hi⟩,b1⟩);go_ret;exact⟨D8 (by rw[<-hi]),b1⟩
theorem Zi (s:ByteArray)(w:World):Calls prog 97 #[.string s] w fun r w'=>r=.returned (.bool (BG s))/\Bw w w':=by
 by_cases h0:s.size=0
 ·have h1:s.toList.isEmpty=true:=by rw[Jd];simp[h0]
  have HS:Hd (BG s=false):=by show _=_;unfold BG;rw[h0];rfl
  clear h0
  go_enter func97,ntmps97
  go_wp2
  go_ret;exact⟨by rw[HS.o];rfl,AG _ _⟩
 ·have h1:s.toList.isEmpty=false:=by rw[Jd];simp[h0]
  by_cases h8:s.size<=8
  ·have ab:(s.size:Int)<=8:=oM;have HS:Hd (BG s=s.data.toList.all Dw):=by
    show _=_
    unfold BG;rw[C3 oM];rfl
   have aa:=WE s w rfl
   go_enter func97,ntmps97
   go_wp2_with(go_at_call 161;refine aa.mono ?_;rintro e w1 ⟨rfl,b1⟩);go_ret;exact⟨D8 (by rw[HS.o];simp),b1⟩
  ·have ab:¬(s.size:Int)<=8:=oM;have HS:Hd (BG s=false):=by
    show _=_
    unfold BG;rw[Dn oM];rfl
   go_enter func97,ntmps97
   go_wp2
   go_ret;exact⟨by rw[HS.o];rfl,AG _ _⟩

theorem Tq {L:List AE}(hk:k<L.length)(h:CJ L k=false):Cr L=false:=by
 cases e:Cr L with
 | false=>rfl
 | true=>
  unfold Cr at e;rw[Ax]at e;have:=e k (by simpa using hk);rw[h]at this;cases this
theorem Tr {L:List AE}(h:∀k,k<L.length->CJ L k=true):Cr L=true:=by
 unfold Cr;rw[Ax];intro k hk;exact h k (by simpa using hk)
theorem NQ {L:List AE}(hk:k<L.length)(h1:1<=k):CJ L k=(BG L[k].1 && Op.bytesLess (L[k-1]'oM).1.toList L[k].1.toList):=by
 unfold CJ;have e:(k == 0)=false:=by simp;omega
 rw[e,EF];simp[List.getD,hk,show k-1<L.length by omega]
theorem Qf {L:List AE}(hk:0<L.length):CJ L 0=BG L[0].1:=by
 unfold CJ;simp[List.getD,hk]
theorem LK:∀x y:List UInt8,(Op.bytesLess x y || x == y) = !Op.bytesLess y x
 | [],[]=>rfl
 | [],_::_=>rfl
 | _::_,[]=>rfl
 | a::x,b::y=>by
  have ih:=LK x y;rcases OS a.toNat b.toNat with h|h|h
  ·have h1:a<b:=JH.2 h;have h2:¬b<a:=fun h'=>by have:=JH.1 h';omega
   have h3:(b == a)=false:=by simp;intro e;rw[e]at h;omega
   simp[Op.bytesLess,h1,h2,h3]
  ·have e:a=b:=JI.1 h;subst e;simp only[Op.bytesLess,UInt8.lt_irrefl,decide_false,EF,BEq.rfl,Ff,List.cons_beq_cons];exact ih
  ·have h1:b<a:=JH.2 h;have h2:¬a<b:=fun h'=>by have:=JH.1 h';omega
   have h3:(a == b)=false:=by simp;intro e;rw[e]at h;omega
   simp[Op.bytesLess,h1,h2,h3]
theorem BR (h:Below w.drew.heap.size w.drew w1):Bw w w1:=⟨h.os,h.tape,h.output,h.size,h.block⟩
theorem FL (w:World){B:Bool}(hB:BG s=B):Calls prog 97 #[.string s] w fun r w'=>r=.returned (.bool B)/\Bw w w':=by subst hB;exact Zi s w
set_option linter.unusedSimpArgs false in
theorem Z1 (ao:Option Addr)(n cap:Nat)(L:List AE)(w:World)(hn:L.length=n)(hm:n<=3)(hc:0<n->∃b off,ao=some (aD b off)/\b<w.heap.size/\∀j,(h:j<L.length)->FH w b (off+j*3) L[j]):Calls prog 179 #[.slice ao n cap] w fun r w'=>r=.returned (.bool (Cr L))/\Bw w w':=by
 have HN:Hd (L.length=n):=hn;have HC:Hd (0<n->∃b off,ao=some (aD b off)/\b<w.heap.size/\∀j,(h:j<L.length)->FH w b (off+j*3) L[j]):=hc;clear hn hc
 go_enter func179,ntmps179
 go_wp2
 go_loopw [3,4,7] (fun _ _ i wr=>∃k:Nat,k<=n/\i=iI k/\Hd (∀j,j<k->CJ L j=true)/\Bw w wr) (fun _ _ i _=>n-(intOf i).toNat)
 case atStart=>exact⟨0,A7 _,rfl,fun j hj=>absurd hj oM,AG _ _⟩
 case round=>
  obtain⟨k,hk,rfl,HA,aa⟩:=hrel
  by_cases hlk:k<n
  ·have h3:k=0\/k=1\/k=2:=oM;have HL:Hd (k<n):=hlk;obtain⟨b,off,rfl,hlt,ae⟩:=HC.o oM;obtain⟨s,hs⟩:∃s,s=L[k]'(by rw[HN.o];exact hlk):=⟨_,rfl⟩;obtain⟨nm,gg,rr⟩:=s;have hS:FH w b (off+k*3) (nm,gg,rr):=by rw[hs];exact ae k _
   obtain⟨rv,c1,c2,c3,hsl⟩:=hS;obtain⟨af,ag,hrf⟩:=hsl.form;subst hrf;have c1:wr.cell? (aD b (off+k*3))=some (.string nm):=(aa.cell (p:=(aD b (off+k*3))) hlt).trans c1;have c2:wr.cell? (aD b (off+k*3+1))=some (iI gg):=(aa.cell (p:=(aD b (off+k*3+1))) hlt).trans c2;have c3:wr.cell? (aD b (off+k*3+1+1))=some (.slice af rr.length ag):=(aa.cell (p:=(aD b (off+k*3+1+1))) hlt).trans c3;have b1:Bw w (wr.alloc (oN nm gg af rr.length ag)):=aa.alloc aa.size _;have cN:(wr.alloc (oN nm gg af rr.length ag)).cell? (aZ wr.heap.size)=some (.string nm):=by rw[GT _ _ _ _ rfl];rfl
   have zN:wr.heap.size<(wr.alloc (oN nm gg af rr.length ag)).heap.size:=by simp
   have HE:Hd (∀hk0:k=0,CJ L k=BG nm):=fun hk0=>by
    have:=Qf (L:=L) (by rw[HN.o];omega);have e:L[0]'(by rw[HN.o];omega)=(nm,gg,rr):=by rw[hs];simp[hk0]
    rw[hk0,this,e]
   have HP:Hd (∀hk0:1<=k,∃pn,wr.cell? (aD b (off+(k-1)*3))=some (.string pn)/\CJ L k=(BG nm && Op.bytesLess pn.toList nm.toList)):=fun hk0=>by
    have al:FH w b (off+(k-1)*3) (L[k-1]'(by rw[HN.o];omega)):=ae (k-1) _;obtain⟨_,d1,_⟩:=al;refine⟨_,(aa.cell (p:=(aD b (off+(k-1)*3))) hlt).trans d1,?_⟩;rw[NQ (L:=L) (by rw[HN.o];exact hlk) hk0,<-hs]
   have aj:Hd (CJ L k=true->∀j,j<k+1->CJ L j=true):=fun h j hj=>by
    by_cases e:j=k
    ·subst e;exact h
    ·exact HA.o j oM
   have ab:Hd (CJ L k=false->Cr L=false):=fun h=>Tq (k:=k) (by rw[HN.o];exact hlk) h
   have ah:b<(wr.alloc (oN nm gg af rr.length ag)).heap.size:=by have:=aa.size;simp;omega
   have ai:b<wr.heap.size:=AO hlt aa.size;clear hs ae hsl HA;rcases h3 with rfl|h3
   ·have ak:(0:Int)<(n:Int):=oM;clear hlk;have c1:wr.cell? (aD b off)=some (.string nm):=c1;have c2:wr.cell? (aD b (off+1))=some (iI gg):=c2;have c3:wr.cell? (aD b (off+1+1))=some (.slice af rr.length ag):=c3;simp only[Ls];have HK:Hd (CJ L 0=BG nm):=HE.o rfl;clear HE HP
    cases hq:BG nm with
    | true=>
     go_wp2_with fail;refine O4 kR ?_;try(change wpAny _ _ _ _ _ _ _ (World.drew _))
     refine Eb 0 (pZ wr.heap.size) ?_;simp only[lays];refine JM (rs:=[1]) kR (by simp) ?_;refine AllReady.cons rfl (fun K hK=>?_) AllReady.nil;go_simp;refine hK _ _ ?_;clear hK K;try simp only[lays]
     refine JM (rs:=[2]) kR (by simp) ?_;refine AllReady.cons rfl (fun K hK=>?_) AllReady.nil;go_wp2_with(go_at_call 97;refine(FL _ hq).mono ?_;rintro e w1 ⟨rfl,b2⟩;have b2:=BR b2);try simp only[lays]
     refine Eb 3 (.bool false) ?_;simp only[lays];refine Eb 4 (.bool false) ?_;simp only[lays];refine Eb 5 (iI 0) ?_;simp only[lays];refine Eb 6 (.bool false) ?_;simp only[lays];refine Eb 7 (.bool false) ?_;simp only[lays];refine BV 8 ?_;simp only[lays];refine BV 9 ?_;simp only[lays];refine BV 10 ?_;simp only[lays];refine BV 11 ?_;simp only[lays];refine BV 12 ?_;simp only[lays];refine BV 13 ?_;simp only[lays];refine BV 14 ?_;simp only[lays];refine BV 15 ?_;simp only[lays];refine BV 16 ?_;simp only[lays];refine Eb 17 (.bool false) ?_;simp only[lays];refine Eb 18 (.bool false) ?_;simp only[lays];refine wpAny_done kR ?_ _;go_wp2_with fail;go_roundw
     case rel=>exact⟨1,oM,by rfl,aj.o (by rw[HK.o];exact hq),b1.trans (b2.mono b1.size)⟩
     case measure=>simp[intOf];omega
    | false=>
     go_wp2_with fail;refine O4 kR ?_;try(change wpAny _ _ _ _ _ _ _ (World.drew _))
     refine Eb 0 (pZ wr.heap.size) ?_;simp only[lays];refine JM (rs:=[1]) kR (by simp) ?_;refine AllReady.cons rfl (fun K hK=>?_) AllReady.nil;go_simp;refine hK _ _ ?_;clear hK K;try simp only[lays]
     refine JM (rs:=[2]) kR (by simp) ?_;refine AllReady.cons rfl (fun K hK=>?_) AllReady.nil;go_wp2_with(go_at_call 97;refine(FL _ hq).mono ?_;rintro e w1 ⟨rfl,b2⟩;have b2:=BR b2);try simp only[lays]
     refine Eb 3 (.bool true) ?_;simp only[lays];refine Eb 4 (.bool true) ?_;simp only[lays];refine BV 5 ?_;simp only[lays];refine BV 6 ?_;simp only[lays];refine BV 7 ?_;simp only[lays];refine BV 8 ?_;simp only[lays];refine BV 9 ?_;simp only[lays];refine BV 10 ?_;simp only[lays];refine BV 11 ?_;simp only[lays];refine BV 12 ?_;simp only[lays];refine BV 13 ?_;simp only[lays];refine BV 14 ?_;simp only[lays];refine BV 15 ?_;simp only[lays];refine BV 16 ?_;simp only[lays];refine BV 17 ?_;simp only[lays];refine Eb 18 (.bool true) ?_;simp only[lays];refine wpAny_done kR ?_ _;go_wp2_with fail;go_ret;exact⟨D8 (ab.o (by rw[HK.o];exact hq)).symm,b1.trans (b2.mono b1.size)⟩
   rcases h3 with rfl|rfl
   ·have ak:(1:Int)<(n:Int):=oM;clear hlk;have c1:wr.cell? (aD b (off+3))=some (.string nm):=c1;have c2:wr.cell? (aD b (off+3+1))=some (iI gg):=c2;have c3:wr.cell? (aD b (off+3+1+1))=some (.slice af rr.length ag):=c3;simp only[Ls];obtain⟨pn,d1,hK⟩:=HP.o oM;have d1:wr.cell? (aD b off)=some (.string pn):=d1;have HK:Hd (CJ L 1=(BG nm && !(Op.bytesLess nm.toList pn.toList || nm.toList == pn.toList))):=hK.trans (by rw[LK,Bool.not_not]);have cP:(wr.alloc (oN nm gg af rr.length ag)).cell? (aD b off)=some (.string pn):=(((AG _ wr).alloc lE _).cell (p:=(aD b off)) ai).trans d1;clear HE HP hK d1;have am:(0:Int)<(n:Int):=oM;have an:0<n:=oM;have hw:IntKind.i64.wrap 0=0:=by rfl
    cases hq:BG nm with
    | true=>
     cases hla:Op.bytesLess nm.toList pn.toList with
     | true=>
      go_wp2_with fail
      go_region_held3 (fun w'=>w'.cell? (aZ wr.heap.size)=some (.string nm)/\w'.cell? (aD b off)=some (.string pn)) (first|exact⟨cN,cP⟩|exact⟨ac,ad⟩)
       (first|(go_at_call 97;refine(FL _ hq).mono ?_;rintro e w1 ⟨rfl,b2⟩;have b2:=BR b2;have ac:=(b2.cell (p:=(aZ wr.heap.size)) zN).trans cN;have ad:=(b2.cell (p:=(aD b off)) ah).trans cP))
      go_wp2_with fail;go_ret;exact⟨D8 (ab.o (by rw[HK.o,hq,hla];rfl)).symm,b1.trans (b2.mono b1.size)⟩
     | false=>
      cases hlb:nm.toList == pn.toList with
      | true=>
       go_wp2_with fail
       go_region_held3 (fun w'=>w'.cell? (aZ wr.heap.size)=some (.string nm)/\w'.cell? (aD b off)=some (.string pn)) (first|exact⟨cN,cP⟩|exact⟨ac,ad⟩)
        (first|(go_at_call 97;refine(FL _ hq).mono ?_;rintro e w1 ⟨rfl,b2⟩;have b2:=BR b2;have ac:=(b2.cell (p:=(aZ wr.heap.size)) zN).trans cN;have ad:=(b2.cell (p:=(aD b off)) ah).trans cP))
       go_wp2_with fail;go_ret;exact⟨D8 (ab.o (by rw[HK.o,hq,hla,hlb];rfl)).symm,b1.trans (b2.mono b1.size)⟩
      | false=>
       go_wp2_with fail
       go_region_held3 (fun w'=>w'.cell? (aZ wr.heap.size)=some (.string nm)/\w'.cell? (aD b off)=some (.string pn)) (first|exact⟨cN,cP⟩|exact⟨ac,ad⟩)
        (first|(go_at_call 97;refine(FL _ hq).mono ?_;rintro e w1 ⟨rfl,b2⟩;have b2:=BR b2;have ac:=(b2.cell (p:=(aZ wr.heap.size)) zN).trans cN;have ad:=(b2.cell (p:=(aD b off)) ah).trans cP))
       go_wp2_with fail;go_roundw
       case rel=>exact⟨2,oM,by rfl,aj.o (by rw[HK.o,hq,hla,hlb];rfl),b1.trans (b2.mono b1.size)⟩
       case measure=>simp[intOf];omega
    | false=>
     go_wp2_with fail;refine O4 kR ?_;try(change wpAny _ _ _ _ _ _ _ (World.drew _))
     refine Eb 0 (pZ wr.heap.size) ?_;simp only[lays];refine JM (rs:=[1]) kR (by simp) ?_;refine AllReady.cons rfl (fun K hK=>?_) AllReady.nil;go_simp;refine hK _ _ ?_;clear hK K;try simp only[lays]
     refine JM (rs:=[2]) kR (by simp) ?_;refine AllReady.cons rfl (fun K hK=>?_) AllReady.nil;go_wp2_with(go_at_call 97;refine(FL _ hq).mono ?_;rintro e w1 ⟨rfl,b2⟩;have b2:=BR b2);try simp only[lays]
     refine Eb 3 (.bool true) ?_;simp only[lays];refine Eb 4 (.bool true) ?_;simp only[lays];refine BV 5 ?_;simp only[lays];refine BV 6 ?_;simp only[lays];refine BV 7 ?_;simp only[lays];refine BV 8 ?_;simp only[lays];refine BV 9 ?_;simp only[lays];refine BV 10 ?_;simp only[lays];refine BV 11 ?_;simp only[lays];refine BV 12 ?_;simp only[lays];refine BV 13 ?_;simp only[lays];refine BV 14 ?_;simp only[lays];refine BV 15 ?_;simp only[lays];refine BV 16 ?_;simp only[lays];refine BV 17 ?_;simp only[lays];refine Eb 18 (.bool true) ?_;simp only[lays];refine wpAny_done kR ?_ _;go_wp2_with fail;go_ret;exact⟨D8 (ab.o (by rw[HK.o,hq];rfl)).symm,b1.trans (b2.mono b1.size)⟩
   ·have ak:(2:Int)<(n:Int):=oM;clear hlk;have c1:wr.cell? (aD b (off+6))=some (.string nm):=c1;have c2:wr.cell? (aD b (off+6+1))=some (iI gg):=c2;have c3:wr.cell? (aD b (off+6+1+1))=some (.slice af rr.length ag):=c3;simp only[Ls];obtain⟨pn,d1,hK⟩:=HP.o oM;have d1:wr.cell? (aD b (off+3))=some (.string pn):=d1;have HK:Hd (CJ L 2=(BG nm && !(Op.bytesLess nm.toList pn.toList || nm.toList == pn.toList))):=hK.trans (by rw[LK,Bool.not_not]);have cP:(wr.alloc (oN nm gg af rr.length ag)).cell? (aD b (off+3))=some (.string pn):=(((AG _ wr).alloc lE _).cell (p:=(aD b (off+3))) ai).trans d1;clear HE HP hK d1;have am:(1:Int)<(n:Int):=oM;have an:1<n:=oM;have hw:IntKind.i64.wrap 1=1:=by rfl
    cases hq:BG nm with
    | true=>
     cases hla:Op.bytesLess nm.toList pn.toList with
     | true=>
      go_wp2_with fail
      go_region_held3 (fun w'=>w'.cell? (aZ wr.heap.size)=some (.string nm)/\w'.cell? (aD b (off+3))=some (.string pn)) (first|exact⟨cN,cP⟩|exact⟨ac,ad⟩)
       (first|(go_at_call 97;refine(FL _ hq).mono ?_;rintro e w1 ⟨rfl,b2⟩;have b2:=BR b2;have ac:=(b2.cell (p:=(aZ wr.heap.size)) zN).trans cN;have ad:=(b2.cell (p:=(aD b (off+3))) ah).trans cP))
      go_wp2_with fail;go_ret;exact⟨D8 (ab.o (by rw[HK.o,hq,hla];rfl)).symm,b1.trans (b2.mono b1.size)⟩
     | false=>
      cases hlb:nm.toList == pn.toList with
      | true=>
       go_wp2_with fail
       go_region_held3 (fun w'=>w'.cell? (aZ wr.heap.size)=some (.string nm)/\w'.cell? (aD b (off+3))=some (.string pn)) (first|exact⟨cN,cP⟩|exact⟨ac,ad⟩)
        (first|(go_at_call 97;refine(FL _ hq).mono ?_;rintro e w1 ⟨rfl,b2⟩;have b2:=BR b2;have ac:=(b2.cell (p:=(aZ wr.heap.size)) zN).trans cN;have ad:=(b2.cell (p:=(aD b (off+3))) ah).trans cP))
       go_wp2_with fail;go_ret;exact⟨D8 (ab.o (by rw[HK.o,hq,hla,hlb];rfl)).symm,b1.trans (b2.mono b1.size)⟩
      | false=>
       go_wp2_with fail
       go_region_held3 (fun w'=>w'.cell? (aZ wr.heap.size)=some (.string nm)/\w'.cell? (aD b (off+3))=some (.string pn)) (first|exact⟨cN,cP⟩|exact⟨ac,ad⟩)
        (first|(go_at_call 97;refine(FL _ hq).mono ?_;rintro e w1 ⟨rfl,b2⟩;have b2:=BR b2;have ac:=(b2.cell (p:=(aZ wr.heap.size)) zN).trans cN;have ad:=(b2.cell (p:=(aD b (off+3))) ah).trans cP))
       go_wp2_with fail;go_roundw
       case rel=>exact⟨3,oM,by rfl,aj.o (by rw[HK.o,hq,hla,hlb];rfl),b1.trans (b2.mono b1.size)⟩
       case measure=>simp[intOf];omega
    | false=>
     go_wp2_with fail;refine O4 kR ?_;try(change wpAny _ _ _ _ _ _ _ (World.drew _))
     refine Eb 0 (pZ wr.heap.size) ?_;simp only[lays];refine JM (rs:=[1]) kR (by simp) ?_;refine AllReady.cons rfl (fun K hK=>?_) AllReady.nil;go_simp;refine hK _ _ ?_;clear hK K;try simp only[lays]
     refine JM (rs:=[2]) kR (by simp) ?_;refine AllReady.cons rfl (fun K hK=>?_) AllReady.nil;go_wp2_with(go_at_call 97;refine(FL _ hq).mono ?_;rintro e w1 ⟨rfl,b2⟩;have b2:=BR b2);try simp only[lays]
     refine Eb 3 (.bool true) ?_;simp only[lays];refine Eb 4 (.bool true) ?_;simp only[lays];refine BV 5 ?_;simp only[lays];refine BV 6 ?_;simp only[lays];refine BV 7 ?_;simp only[lays];refine BV 8 ?_;simp only[lays];refine BV 9 ?_;simp only[lays];refine BV 10 ?_;simp only[lays];refine BV 11 ?_;simp only[lays];refine BV 12 ?_;simp only[lays];refine BV 13 ?_;simp only[lays];refine BV 14 ?_;simp only[lays];refine BV 15 ?_;simp only[lays];refine BV 16 ?_;simp only[lays];refine BV 17 ?_;simp only[lays];refine Eb 18 (.bool true) ?_;simp only[lays];refine wpAny_done kR ?_ _;go_wp2_with fail;go_ret;exact⟨D8 (ab.o (by rw[HK.o,hq];rfl)).symm,b1.trans (b2.mono b1.size)⟩
  ·have e4:k=n:=oM;subst e4
   go_wp2
   go_ret;exact⟨D8 (Tr (fun j hj=>HA.o j (by rw[HN.o]at hj;exact hj))).symm,aa⟩
theorem Ts {L:List AE}(h:Do w v L)(h3:L.length<=3){B:Bool}(hB:Cr L=B):Calls prog 179 #[v] w fun r w'=>r=.returned (.bool B)/\Bw w w':=by
 subst hB;obtain⟨ao,cap,rfl,_,_,hc⟩:=h;exact Z1 ao _ cap L w rfl h3 (fun h0=>hc (by intro e;rw[e]at h0;simp at h0))

attribute [local go_sem] OY
theorem Om (h:BA w v L){E:Int}(hE:AD L=E):Calls prog 59 #[v] w fun r w'=>(∃u:Int,r=.returned (.tuple #[iI u,iI E]))/\Bw w w':=by
 subst hE
 by_cases h0:AD L=0
 ·rw[h0];exact(Vn h h0 rfl).mono fun e w' hr=>⟨⟨_,hr.1⟩,hr.2⟩
 ·exact(jx v L _ w h rfl (by simpa using h0)).mono fun e w' hr=>⟨⟨_,hr.1⟩,hr.2⟩
theorem LL {row:Option Nat}{A:Array Value}(h:W.heap[B]?=some (.cells A t fr))(hg:W.grownBy W' row)(hr:∀r,row=some r->∃o:Obj,W.heap[r]?=some o/\o.isCells=false):W'.heap[B]?=some (.cells A t fr):=by
 refine(hg.block B (AA h) (fun e=>?_)).trans h;obtain⟨o,ho,hc⟩:=hr B e.symm;rw[h]at ho
 cases ho
 cases hc
theorem Aj {A:Array Value}(h:W.heap[B]?=some (.cells A t fr))(o:Obj):(W.alloc o).heap[B]?=some (.cells A t fr):=
 (Ch W _ _ (AA h)).trans h
theorem Ag {n:Nat}{A:Array Value}(h:W.heap[B]?=some (.cells A t fr))(hb:Below n W W')(hlt:B<n):W'.heap[B]?=some (.cells A t fr):=(hb.block _ hlt).trans h
theorem five {a0 a1 a2 a3 a4:Value}(h:W.heap[B]?=some (.cells #[a0,a1,a2,a3,a4] t)):W.cell? (aZ B)=some a0/\W.cell? (aD B 1)=some a1/\W.cell? (aD B 2)=some a2/\W.cell? (aD B 3)=some a3/\W.cell? (aD B 4)=some a4:=by
 simp[World.cell?,h]
theorem BO {a0 a1 a2:Value}(h:W.heap[B]?=some (.cells #[a0,a1,a2] t)):W.cell? (aZ B)=some a0/\W.cell? (aD B 1)=some a1/\W.cell? (aD B 2)=some a2:=by
 simp[World.cell?,h]
abbrev QQ (w:World) (gm:Int) (rv sv fv nv:Value):World:=(w.alloc (.cells #[iI gm,rv,sv,fv,nv] 33)).alloc (.cells #[iI 0] 22)
theorem N8 (w:World)(gm:Int)(rv sv fv nv:Value):Bw w (QQ w gm rv sv fv nv):=(Av).alloc (by simp) _
theorem QR (w:World)(gm:Int)(rv sv fv nv:Value):(QQ w gm rv sv fv nv).heap[w.heap.size]?=some (.cells #[iI gm,rv,sv,fv,nv] 33):=Aj (C2 w _) _
theorem N9 (w:World)(gm:Int)(rv sv fv nv:Value):Boxed (QQ w gm rv sv fv nv) (w.heap.size+1) 22 (iI 0):=by
 have:=Boxed.new (w.alloc (.cells #[iI gm,rv,sv,fv,nv] 33)) 22 (iI 0)
 simpa using this
theorem ik (gm:Int)(ra:Option Addr)(rn rc:Nat)(sa:Option Addr)(sn sc:Nat)(fa:Option Addr)(fn fc:Nat)(na:Option Addr)(nn nc:Nat)(w:World)(hn:3<nn):Calls prog 137 #[.agg (bI gm ra rn rc sa sn sc fa fn fc na nn nc)] w fun r w'=>r=.returned (iI 2)/\Bw w w':=by
 have g:(3:Int)<(nn:Int):=oM;refine(D0 (n:=6)).1 ?_;refine Kl func137 rfl trivial ?_ rfl;simp only[ntmps137,EG,BF,C1,Nat.reduceAdd,Nat.reduceSub,FT,FU,FY,FW,EY,Er]
 gi_wp2
 refine⟨iI 2,?_,rfl,(Av).alloc (by simp) _⟩;simp[results,f137,go_sem]
set_option maxRecDepth 100000 in
theorem ip (gm:Int)(ra:Option Addr)(rn rc:Nat)(sa:Option Addr)(sn sc:Nat)(fa:Option Addr)(fn fc:Nat)(na:Option Addr)(nn nc:Nat)(L:List An)(E:Int)(w:World)(hn:nn<=3)(hs:BA w (.slice sa sn sc) L)(hE:AD L=E)(hne:(E != 0)=true):Calls prog 137 #[.agg (bI gm ra rn rc sa sn sc fa fn fc na nn nc)] w fun r w'=>r=.returned (iI E)/\Bw w w':=by
 have g:¬(3:Int)<(nn:Int):=oM;have b0:=N8 w gm (.slice ra rn rc) (.slice sa sn sc) (.slice fa fn fc) (.slice na nn nc);have r0:=N9 w gm (.slice ra rn rc) (.slice sa sn sc) (.slice fa fn fc) (.slice na nn nc);have aa:=Om (hs.below b0) hE;clear hs hE;refine(D0 (n:=6)).1 ?_;refine Kl func137 rfl trivial ?_ rfl;simp only[ntmps137,EG,BF,C1,Nat.reduceAdd,Nat.reduceSub,FT,FU,FY,FW,EY,Er]
 gi_wp2_with (refine⟨trivial,?_⟩;gi_at_call 59;refine(D0.2 aa).mono ?_;rintro e w1 ⟨⟨u,rfl⟩,b1⟩;have r1:Boxed w1 (w.heap.size+1) 22 (iI 0):=Ag r0 b1 (by simp);have cR:=r1.cell;have fR:=r1.frozen)
 refine⟨iI E,?_,rfl,(Below.on b0 b1).setCell (p:=(aZ (w.heap.size+1))) (by simp) _⟩;have ab:=(r1.set (iI E)).cell;simp[results,f137,go_sem,ab]
set_option maxRecDepth 100000 in
theorem im (gm:Int)(ra:Option Addr)(rn rc:Nat)(sa:Option Addr)(sn sc:Nat)(fa:Option Addr)(fn fc:Nat)(na:Option Addr)(nn nc:Nat)(L:List An)(w:World)(hn:nn<=3)(hs:BA w (.slice sa sn sc) L)(hE:AD L=0)(hne:¬fn=sn):Calls prog 137 #[.agg (bI gm ra rn rc sa sn sc fa fn fc na nn nc)] w fun r w'=>r=.returned (iI 1)/\Bw w w':=by
 have ac:((fn:Int) != (sn:Int))=true:=by simp;omega
 have ad:(fn == sn)=false:=by simpa using hne
 have ae:((fn:Int) == (sn:Int))=false:=by simp;omega
 have g:¬(3:Int)<(nn:Int):=oM;have b0:=N8 w gm (.slice ra rn rc) (.slice sa sn sc) (.slice fa fn fc) (.slice na nn nc);have r0:=N9 w gm (.slice ra rn rc) (.slice sa sn sc) (.slice fa fn fc) (.slice na nn nc);have m0:=QR w gm (.slice ra rn rc) (.slice sa sn sc) (.slice fa fn fc) (.slice na nn nc);have aa:=Om (hs.below b0) hE;clear hs hE;refine(D0 (n:=6)).1 ?_;refine Kl func137 rfl trivial ?_ rfl;simp only[ntmps137,EG,BF,C1,Nat.reduceAdd,Nat.reduceSub,FT,FU,FY,FW,EY,Er]
 gi_wp2_with (refine⟨trivial,?_⟩;gi_at_call 59;refine(D0.2 aa).mono ?_;rintro e w1 ⟨⟨u,rfl⟩,b1⟩;have r1:Boxed w1 (w.heap.size+1) 22 (iI 0):=Ag r0 b1 (by simp);have cR:=r1.cell;have fR:=r1.frozen;have m1:=Ag m0 b1 (by simp;omega);have c0:=five m1)
 refine⟨trivial,?_⟩
 gi_wp2
 refine⟨iI 1,?_,rfl,(Below.on b0 b1).setCell (p:=(aZ (w.heap.size+1))) (by simp) _⟩;have ab:=(r1.set (iI 1)).cell;simp[results,f137,go_sem,ab]
set_option maxRecDepth 100000 in
theorem il (gm:Int)(ra:Option Addr)(rn rc:Nat)(sa:Option Addr)(sn sc:Nat)(fa:Option Addr)(fc:Nat)(na:Option Addr)(nn nc:Nat)(L:List An)(S:List AE)(w:World)(hn:nn<=3)(hs:BA w (.slice sa sn sc) L)(hE:AD L=0)(hS:Do w (.slice na nn nc) S)(hS3:S.length<=3)(hB:Cr S=false):Calls prog 137 #[.agg (bI gm ra rn rc sa sn sc fa sn fc na nn nc)] w fun r w'=>r=.returned (iI 1)/\Bw w w':=by
 have g:¬(3:Int)<(nn:Int):=oM;have b0:=N8 w gm (.slice ra rn rc) (.slice sa sn sc) (.slice fa sn fc) (.slice na nn nc);have r0:=N9 w gm (.slice ra rn rc) (.slice sa sn sc) (.slice fa sn fc) (.slice na nn nc);have m0:=QR w gm (.slice ra rn rc) (.slice sa sn sc) (.slice fa sn fc) (.slice na nn nc);have aa:=Om (hs.below b0) hE;have ab:=hS.below b0;clear hs hE hS;refine(D0 (n:=6)).1 ?_;refine Kl func137 rfl trivial ?_ rfl;simp only[ntmps137,EG,BF,C1,Nat.reduceAdd,Nat.reduceSub,FT,FU,FY,FW,EY,Er]
 gi_wp2_with (first
  | (refine⟨trivial,?_⟩;gi_at_call 59;refine(D0.2 aa).mono ?_;rintro e w1 ⟨⟨u,rfl⟩,b1⟩;have ac:=ab.below b1;have r1:Boxed w1 (w.heap.size+1) 22 (iI 0):=Ag r0 b1 (by simp);have m1:=Ag m0 b1 (by simp;omega);have c0:=five m1)
  | (refine⟨trivial,?_⟩;gi_at_call 179;refine(D0.2 (Ts ac hS3 hB)).mono ?_;rintro e w2 ⟨rfl,b2⟩;have r2:Boxed w2 (w.heap.size+1) 22 (iI 0):=Ag r1 b2 r1.lt;have cR:=r2.cell;have fR:=r2.frozen))
 refine⟨iI 1,?_,rfl,(Below.on' b0 b1 b2).setCell (p:=(aZ (w.heap.size+1))) (by simp) _⟩;have ad:=(r2.set (iI 1)).cell;simp[results,f137,go_sem,ad]
theorem QH {gm:Int}{ra:Option Addr}{rn rc:Nat}{sv fv:Value}{na:Option Addr}{nn nc:Nat}{S:List AE}(hr:Sl w (.slice ra rn rc) r)(hS:Do w (.slice na nn nc) S)(h3:S.length<=3)(hb:Bw w W)(hm:W.heap[Bm]?=some (.cells #[iI gm,.slice ra rn rc,sv,fv,.slice na nn nc] 33)):∃xs:List (Ix w),Ks w.heap.size W Bm (xs.map (fun x=>x.1.1))/\xs.map (fun x=>x.1.2)=(⟨#[]⟩,gm,r)::S:=by
 obtain⟨c0,c1,c2,c3,c4⟩:=five hm;have hlen:S.length=nn:=by
  obtain⟨ao,cap,e,_⟩:=hS;simp at e
  exact e.2.1.symm
 have ab:∀j:Fin S.length,∃y:Ix w,y.1.2=S[j]/\
   ∀b off,na=some (aD b off)->W.cell? (aD b (off+j.1*3))=some (.string y.1.1.nm)/\W.cell? (aD b (off+j.1*3+1))=some (iI y.1.1.g)/\W.cell? (aD b (off+j.1*3+1+1))=some (.slice y.1.1.a y.1.1.n y.1.1.c):=by
  intro ⟨j,hj⟩;obtain⟨b,off,cap,e,_,hlt,aa⟩:=hS.open oM;obtain⟨rv,d1,d2,d3,hsl⟩:=aa j hj;obtain⟨ya,yc,rfl⟩:=hsl.form;refine⟨⟨(⟨S[j].1,S[j].2.1,ya,S[j].2.2.length,yc⟩,S[j]),rfl,rfl,hsl⟩,rfl,fun b' off' e'=>?_⟩;simp at e
  rw[e.1]at e';simp at e'
  obtain⟨rfl,rfl⟩:=e';exact⟨(hb.cell (p:=(aD b (off+j*3))) hlt).trans d1,(hb.cell (p:=(aD b (off+j*3+1))) hlt).trans d2,(hb.cell (p:=(aD b (off+j*3+1+1))) hlt).trans d3⟩
 obtain⟨f,hf⟩:=Classical.axiomOfChoice ab;refine⟨⟨(⟨⟨#[]⟩,gm,ra,rn,rc⟩,(⟨#[]⟩,gm,r)),rfl,rfl,hr⟩::List.ofFn f,⟨⟨gm,ra,rn,rc,sv,fv,na,nn,nc,(List.ofFn f).map (fun x=>x.1.1),rfl,by simp[hlen],oM,c0,c1,c2,c3,c4,fun h0=>?_⟩⟩,?_⟩
 ·obtain⟨b,off,cap,e,_,hlt,_⟩:=hS.open oM;simp at e
  refine⟨b,off,e.1,hlt,fun j hj=>?_⟩;have ac:j<S.length:=by simpa using hj
  have:=(hf ⟨j,ac⟩).2 b off e.1;rw[Lx,List.getElem_ofFn];exact this
 ·simp only[Dc,List.cons.injEq,Jb]
  apply EX
  ·simp
  ·intro j h1 h2;have:=(hf ⟨j,h2⟩).1
   simpa using this
theorem SV (h:Bw W W'):KeepsFrom B W W':=⟨h.size,fun k _ _ hk _=>(h.block k (AA hk)).trans hk⟩
end
section
attribute [local go_sem] OY
def Fu (L:List An) (R:List AE):Int:=if R.all (fun s=>BK s.2.1)=false then 3 else if Cm L=false then 1 else if R.all (fun s=>Bk L s.2.1 s.2.2)=false then 1 else 0
def M5 {w:World} (pre:List (Ix w)):Prop:=∀x∈pre,BK x.1.2.2.1=true
def VF {w:World} (pre:List (Ix w)):Prop:=∃x∈pre,BK x.1.2.2.1=false
abbrev Kr (w:World):Type:={p:Hj × AE // Rt w p.1 p.2/\BK p.2.2.1=true}
theorem Uz {w:World}:∀ (zs:List (Ix w)),(∀x∈zs,BK x.1.2.2.1=true)->∃ys:List (Kr w),ys.map (fun x=>x.1.1)=zs.map (fun x=>x.1.1)/\ys.map (fun x=>x.1.2)=zs.map (fun x=>x.1.2)
 | [],_=>⟨[],rfl,rfl⟩
 | x::zs,h=>by
  obtain⟨ys,h1,h2⟩:=Uz zs (fun y hy=>h y (CA _ hy));exact⟨⟨x.1,x.2,h x CD⟩::ys,by rw[Dc,Dc,h1],by rw[Dc,Dc,h2]⟩
def M4 {w:World} (L:List An) (pre:List (Kr w)):Prop:=∀x∈pre,Bk L x.1.2.2.1 x.1.2.2.2=true
def VE {w:World} (L:List An) (pre:List (Kr w)):Prop:=∃x∈pre,Bk L x.1.2.2.1 x.1.2.2.2=false
theorem M5.snoc {w:World}{pre:List (Ix w)}{x:Ix w}(h:M5 pre)(hx:BK x.1.2.2.1=true):M5 (pre++[x]):=fun z hz=>(GR.1 hz).elim (h z) (fun e=>by rw[JD]at e;subst e;exact hx)
theorem M4.snoc {w:World}{pre:List (Kr w)}{x:Kr w}(h:M4 L pre)(hx:Bk L x.1.2.2.1 x.1.2.2.2=true):M4 L (pre++[x]):=fun z hz=>(GR.1 hz).elim (h z) (fun e=>by rw[JD]at e;subst e;exact hx)
theorem P4 {α:Type}(pre:List α)(x:α):x∈pre++[x]:=GR.2 (.inr (JD.2 rfl))
theorem JQ {D:Nat}(hB:Bw w W)(hD:w.heap.size<=D)(o:Obj):Bw w (W.putObj D o):=hB.grown (grownBy_putObj' W D o) hB.size (fun k e=>by cases e;exact hD)
theorem Kw {t:Nat}{D:Nat}(h:Boxed W B t v)(hne:B≠D)(o:Obj):Boxed (W.putObj D o) B t v:=h.kept (grownBy_putObj' W D o) (fun e=>hne (by cases e;rfl))
set_option maxRecDepth 100000 in
theorem io (gm:Int)(ra:Option Addr)(rn rc:Nat)(sa:Option Addr)(sn sc:Nat)(fa:Option Addr)(fc:Nat)(na:Option Addr)(nn nc:Nat)(r:List Int)(L:List An)(S:List AE)(w:World)(hn:nn<=3)(hr:Sl w (.slice ra rn rc) r)(hs:BA w (.slice sa sn sc) L)(hE:AD L=0)(hS:Do w (.slice na nn nc) S)(hS3:S.length<=3)(hB:Cr S=true):Calls prog 137 #[.agg #[iI gm,.slice ra rn rc,.slice sa sn sc,.slice fa sn fc,.slice na nn nc]] w fun e w'=>e=.returned (iI (Fu L ((⟨#[]⟩,gm,r)::S)))/\Bw w w':=by
 have g:¬(3:Int)<(nn:Int):=oM;have b0:=N8 w gm (.slice ra rn rc) (.slice sa sn sc) (.slice fa sn fc) (.slice na nn nc);have r0:=N9 w gm (.slice ra rn rc) (.slice sa sn sc) (.slice fa sn fc) (.slice na nn nc);have m0:=QR w gm (.slice ra rn rc) (.slice sa sn sc) (.slice fa sn fc) (.slice na nn nc);have aa:=Om (hs.below b0) hE;have aF:=hS.below b0;refine(D0 (n:=9)).1 ?_;refine Kl func137 rfl trivial ?_ rfl;simp only[ntmps137,EG,BF,C1,Nat.reduceAdd,Nat.reduceSub,FT,FU,FY,FW,EY,Er]
 gi_wp2_with (first
  | (refine⟨trivial,?_⟩;gi_at_call 59;refine(D0.2 aa).mono ?_;rintro e w1 ⟨⟨u,rfl⟩,b1⟩;have aG:=aF.below b1;have r1:Boxed w1 (w.heap.size+1) 22 (iI 0):=Ag r0 b1 (by simp);have m1:=Ag m0 b1 (by simp;omega);have c0:=five m1)
  | (refine⟨trivial,?_⟩;gi_at_call 179;refine(D0.2 (Ts aG hS3 hB)).mono ?_;rintro e w2 ⟨rfl,b2⟩;have r2:Boxed w2 (w.heap.size+1) 22 (iI 0):=Ag r1 b2 r1.lt;have m2:=Ag m1 b2 (Nat.lt_of_succ_lt r1.lt);have d0:=five m2)
  | (refine⟨trivial,?_⟩;gi_at_call 138;refine(QI Fence.wide _ trivial rfl _ _ _ _ _ _).mono ?_;rintro e w3 ⟨rfl,rfl⟩))
 have aK:=Below.on' b0 b1 b2;have bc:w.heap.size+1<w2.heap.size:=r2.lt;have m3:(w2.alloc (.cells #[iI gm,.slice ra rn rc,.slice sa sn sc,.slice fa sn fc,.slice na nn nc] 33)).heap[w2.heap.size]?=some (.cells #[iI gm,.slice ra rn rc,.slice sa sn sc,.slice fa sn fc,.slice na nn nc] 33):=Aw _ _;have aT:=Aj m2 (.cells #[iI gm,.slice ra rn rc,.slice sa sn sc,.slice fa sn fc,.slice na nn nc] 33);have r3:=r2.alloc (.cells #[iI gm,.slice ra rn rc,.slice sa sn sc,.slice fa sn fc,.slice na nn nc] 33);have ad:Bw w (w2.alloc (.cells #[iI gm,.slice ra rn rc,.slice sa sn sc,.slice fa sn fc,.slice na nn nc] 33)):=aK.alloc aK.size _;have hsz:(w2.alloc (.cells #[iI gm,.slice ra rn rc,.slice sa sn sc,.slice fa sn fc,.slice na nn nc] 33)).heap.size=w2.heap.size+1:=by simp
 have a7:=JF hsz;have a8:=JF hsz.symm;clear hsz;obtain⟨xs,hL,aP⟩:=QH hr hS hS3 ad m3;obtain⟨W0,aH⟩:=nM (w2.alloc (.cells #[iI gm,.slice ra rn rc,.slice sa sn sc,.slice fa sn fc,.slice na nn nc] 33));rw[aH]at m3 aT r3 ad a7 a8 hL ⊢;have aA:Hd (xs.map (fun x=>x.1.2)=(⟨#[]⟩,gm,r)::S):=aP;clear aH aa aF aG c0 d0 m0 m1 m2 r0 r1 r2 b0 b1 b2 aP;refine wpIn_rangeFunc_ownH rfl oM (gf:=182) (lb:=#[pZ w2.heap.size]) rfl trivial (enters_of func182 kR rfl)
  (QJ (fun x:Ix w=>x.1.1) Fence.wide 8 trivial rfl oM w2.heap.size w.heap.size xs W0 hL oM oM) CV.trans (CV.put oM oM) Eu (fun _=>rfl)
  (fun ac W=>M5 ac/\Bw W0 W)
  (fun c ac W=>((c=.ret/\VF ac)/\Boxed W (w.heap.size+1) 22 (iI 3))/\Bw w W)
  (OwnFrom.and (ownFrom_pure _ _) (ownFrom_below lE lE))
  (fun c=>OwnFrom.and (OwnFrom.and (ownFrom_pure _ _) (Own.from (boxed_own _ _ _) _)) (ownFrom_below lE oM))
  ⟨(fun x hx=>by cases hx),AG _ _⟩
  (fun x a' W=>∃Bx,W.heap[Bx]?=some (.cells #[.string x.1.1.nm,iI x.1.1.g,.slice x.1.1.a x.1.1.n x.1.1.c] 87)/\a' = {tmps:=#[Value.agg #[iI gm,.slice ra rn rc,.slice sa sn sc,.slice fa sn fc,.slice na nn nc],pZ w.heap.size,pZ (w.heap.size+1),iI u,iI 0,pZ Bx,undef,pQ w.heap.size 4,.slice na nn nc,iI nn,.bool false,.tuple #[iI u,iI 0],pQ w.heap.size 2,.slice sa sn sc,.tuple #[iI u,iI 0],iI u,iI 0,iI 0,.bool false,undef,pQ w.heap.size 3,.slice fa sn fc,iI sn,pQ w.heap.size 2,.slice sa sn sc,iI sn,.bool false,.bool false,pQ w.heap.size 4,.slice na nn nc,.bool true,.bool false,.bool false,Value.agg #[iI gm,.slice ra rn rc,.slice sa sn sc,.slice fa sn fc,.slice na nn nc],.func (.func 182) #[] #[pZ w2.heap.size],.agg #[.string x.1.1.nm,iI x.1.1.g,.slice x.1.1.a x.1.1.n x.1.1.c],undef,undef,undef,undef,undef,undef,undef,undef,undef,undef,undef,undef,undef,undef,undef,undef,undef,undef,undef,undef],defers:=[]})
  (fun x a' _ X Y row hs hg hr=>by obtain⟨Bx,e1,e2⟩:=hs;exact⟨Bx,LL e1 hg (fun r e=>(hr r e).2),e2⟩)
  ?assign ?body ?done ?stop
 case assign=>
  rintro l ac x W K ⟨hp,ab⟩ hK;unfold JT
  gi_wp2
  exact hK _ _ ((KeepsOthers.alloc _ _).from _) (CV.alloc (by have:=ab.size;omega) (by have:=ab.size;omega) _) ⟨hp,ab.alloc ab.size _⟩ ⟨W.heap.size,Aw _ _,rfl⟩
 case body=>
  rintro l ac x a' W hl ⟨rr,aY⟩ ⟨hp,ab⟩ ⟨Bx,au,rfl⟩ hlt;obtain⟨e0,e1,e2⟩:=BO au;have rW:Boxed W (w.heap.size+1) 22 (iI 0):=Ag r3 ab oM;have cR:=rW.cell;have fR:=rW.frozen;have ah:x.1.1.g=x.1.2.2.1:=x.2.2.1;have HG:Hd (BK x.1.2.2.1=BK x.1.1.g):=by show _=_;rw[ah]
  clear ah
  by_cases h0:x.1.1.g<0
  ·gi_wp2
   exact⟨(KeepsOthers.setCell _ _ _).from _,⟨⟨rfl,x,P4 _ _,by rw[HG.o];unfold BK;exact Dn oM⟩,rW.set _⟩,(ad.trans (ab.mono ad.size)).setCell (p:=(aZ (w.heap.size+1))) (by simp) _⟩
  ·by_cases h1:16<x.1.1.g
   ·gi_wp2
    exact⟨(KeepsOthers.setCell _ _ _).from _,⟨⟨rfl,x,P4 _ _,by rw[HG.o];unfold BK;exact Dn oM⟩,rW.set _⟩,(ad.trans (ab.mono ad.size)).setCell (p:=(aZ (w.heap.size+1))) (by simp) _⟩
   ·gi_wp2
    exact⟨KeepsFrom.refl _ _,CV.refl _ _ _,⟨hp.snoc (by rw[HG.o];unfold BK;exact C3 oM),ab⟩⟩
 case stop=>
  rintro D c ac W hD ai ⟨⟨⟨rfl,x,hx,hy⟩,ar⟩,ab⟩ hK;have HE:Hd (Fu L ((⟨#[]⟩,gm,r)::S)=3):=by
   show _=_
   unfold Fu;rw[Ab];rw[<-aA.o,<-Lq,Ax];intro hall;have:=hall x.1.2 (Fh.2 ⟨x,ai.subset hx,rfl⟩);rw[hy]at this
   cases this
  gi_wp2
  refine⟨by simp,.inl ⟨_,_,rfl,Km hK,?_⟩⟩;have ag:=(Kw ar (D:=D) oM (.deferred none)).cell;refine⟨iI 3,?_,by rw[HE.o],JQ ab oM _⟩;simp[results,f137,go_sem,ag]
 case done=>
  rintro D ys W hD rfl ⟨hp,ab⟩ hK;have rW:Boxed W (w.heap.size+1) 22 (iI 0):=Ag r3 ab oM;have mW:=Ag aT ab oM;have c0:=five mW;have az:=ad.trans (ab.mono ad.size);have aN:=hs.below az;have av:D<W.heap.size:=(AA hK);have HA:Hd (((⟨#[]⟩,gm,r)::S).all (fun s=>BK s.2.1)=true):=by
   show _=_
   rw[<-aA.o,Ax];intro s hs;obtain⟨x,hx,rfl⟩:=Fh.1 hs;exact hp x hx
  have ax:∀ {W':World},Bw W W'->W'.heap[D]?=some (.deferred (some [])):=fun h=>(h.block D av).trans hK
  cases hT:Cm L with
  | false=>
   have HE:Hd (Fu L ((⟨#[]⟩,gm,r)::S)=1):=by
    show _=_
    unfold Fu;rw[Aa (by rw[HA.o];simp),Ab hT]
   have aa:=Vf _ L W aN;rw[hT]at aa
   gi_wp2_with (refine⟨trivial,?_⟩;gi_at_call 180;refine(D0.2 aa).mono ?_;rintro e w4 ⟨rfl,b4⟩;have r4:Boxed w4 (w.heap.size+1) 22 (iI 0):=Ag rW b4 rW.lt;have cR:=r4.cell;have fR:=r4.frozen)
   have hK':=(KeepsOthers.setCell w4 (aZ (w.heap.size+1)) (iI 1)).same D _ (ax b4) rfl;refine⟨by simp,.inl ⟨_,_,rfl,Km hK',?_⟩⟩;have ag:=(Kw (r4.set (iI 1)) (D:=D) oM (.deferred none)).cell;refine⟨iI 1,?_,by rw[HE.o],JQ ((Below.on az b4).setCell (p:=(aZ (w.heap.size+1))) (by simp) _) oM _⟩;simp[results,f137,go_sem,ag]
  | true=>
   have aa:=Vf _ L W aN;rw[hT]at aa
   gi_wp2_with (first
    | (refine⟨trivial,?_⟩;gi_at_call 180;refine(D0.2 aa).mono ?_;rintro e w4 ⟨rfl,b4⟩;have r4:Boxed w4 (w.heap.size+1) 22 (iI 0):=Ag rW b4 rW.lt;have m4:=Ag mW b4 (Nat.lt_of_succ_lt rW.lt);have d0:=five m4)
    | (refine⟨trivial,?_⟩;gi_at_call 138;refine(QI Fence.wide _ trivial rfl _ _ _ _ _ _).mono ?_;rintro e w3 ⟨rfl,rfl⟩))
   have aL:=Below.on az b4;have aV:w.heap.size+1<w4.heap.size:=r4.lt;have m5:(w4.alloc (.cells #[iI gm,.slice ra rn rc,.slice sa sn sc,.slice fa sn fc,.slice na nn nc] 33)).heap[w4.heap.size]?=some (.cells #[iI gm,.slice ra rn rc,.slice sa sn sc,.slice fa sn fc,.slice na nn nc] 33):=Aw _ _;have aU:=Aj m4 (.cells #[iI gm,.slice ra rn rc,.slice sa sn sc,.slice fa sn fc,.slice na nn nc] 33);have r5:=r4.alloc (.cells #[iI gm,.slice ra rn rc,.slice sa sn sc,.slice fa sn fc,.slice na nn nc] 33);have al:Bw w (w4.alloc (.cells #[iI gm,.slice ra rn rc,.slice sa sn sc,.slice fa sn fc,.slice na nn nc] 33)):=aL.alloc aL.size _;have aq:(w4.alloc (.cells #[iI gm,.slice ra rn rc,.slice sa sn sc,.slice fa sn fc,.slice na nn nc] 33)).heap[D]?=some (.deferred (some [])):=ax (b4.alloc b4.size _);have aj:(w4.alloc (.cells #[iI gm,.slice ra rn rc,.slice sa sn sc,.slice fa sn fc,.slice na nn nc] 33)).heap.size=w4.heap.size+1:=by simp
   have ao:=JF aj;have ap:=JF aj.symm;clear aj;obtain⟨ba,ay,ak⟩:=QH hr hS hS3 al m5;obtain⟨zs,aQ,aR⟩:=Uz ba (fun x hx=>by
    have:=HA.o;rw[<-ak,Ax]at this;exact this x.1.2 (Fh.2 ⟨x,hx,rfl⟩))
   have aS:=aR.trans ak;rw[<-aQ]at ay;obtain⟨W5,aJ⟩:=nM (w4.alloc (.cells #[iI gm,.slice ra rn rc,.slice sa sn sc,.slice fa sn fc,.slice na nn nc] 33));rw[aJ]at m5 aU r5 al ao ap ay aq ⊢;have aB:Hd (zs.map (fun x=>x.1.2)=(⟨#[]⟩,gm,r)::S):=aS;have aC:D<W5.heap.size:=(AA aq);clear aQ aR ak aJ aa c0 d0 m4 r4 aS ax;refine wpIn_rangeFunc_ownH rfl oM (gf:=182) (lb:=#[pZ w4.heap.size]) rfl trivial (enters_of func182 kR rfl)
    (QJ (fun x:Kr w=>x.1.1) Fence.wide 8 trivial rfl oM w4.heap.size w.heap.size zs W5 ay oM oM) CV.trans (CV.put oM oM) Eu (fun _=>rfl)
    (fun ac W=>M4 L ac/\Bw W5 W)
    (fun c ac W=>((c=.ret/\VE L ac)/\Boxed W (w.heap.size+1) 22 (iI 1))/\(W.heap[D]?=some (.deferred (some []))/\Bw w W))
    (OwnFrom.and (ownFrom_pure _ _) (ownFrom_below lE lE))
    (fun c=>OwnFrom.and (OwnFrom.and (ownFrom_pure _ _) (Own.from (boxed_own _ _ _) _)) (OwnFrom.and (fun _ X Y row hs hg hr=>(hg.block D (AA hs) (fun e=>by have:=(hr D e.symm).1;omega)).trans hs) (ownFrom_below lE oM)))
    ⟨(fun x hx=>by cases hx),AG _ _⟩
    (fun x a' W=>∃Bx,W.heap[Bx]?=some (.cells #[.string x.1.1.nm,iI x.1.1.g,.slice x.1.1.a x.1.1.n x.1.1.c] 87)/\a' = {tmps:=#[Value.agg #[iI gm,.slice ra rn rc,.slice sa sn sc,.slice fa sn fc,.slice na nn nc],pZ w.heap.size,pZ (w.heap.size+1),iI u,iI 0,undef,pZ Bx,pQ w.heap.size 4,.slice na nn nc,iI nn,.bool false,.tuple #[iI u,iI 0],pQ w.heap.size 2,.slice sa sn sc,.tuple #[iI u,iI 0],iI u,iI 0,iI 0,.bool false,undef,pQ w.heap.size 3,.slice fa sn fc,iI sn,pQ w.heap.size 2,.slice sa sn sc,iI sn,.bool false,.bool false,pQ w.heap.size 4,.slice na nn nc,.bool true,.bool false,.bool false,Value.agg #[iI gm,.slice ra rn rc,.slice sa sn sc,.slice fa sn fc,.slice na nn nc],.func (.func 182) #[] #[pZ w2.heap.size],undef,undef,undef,undef,undef,undef,undef,undef,undef,pQ w.heap.size 2,.slice sa sn sc,.bool true,.bool false,Value.agg #[iI gm,.slice ra rn rc,.slice sa sn sc,.slice fa sn fc,.slice na nn nc],.func (.func 182) #[] #[pZ w4.heap.size],.agg #[.string x.1.1.nm,iI x.1.1.g,.slice x.1.1.a x.1.1.n x.1.1.c],undef,undef,undef,undef,undef],defers:=[]})
    (fun x a' _ X Y row hs hg hr=>by obtain⟨Bx,e1,e2⟩:=hs;exact⟨Bx,LL e1 hg (fun r e=>(hr r e).2),e2⟩)
    ?assign2 ?body2 ?done2 ?stop2
   case assign2=>
    rintro l ac x W K ⟨hp,ab⟩ hK;unfold JT
    gi_wp2
    exact hK _ _ ((KeepsOthers.alloc _ _).from _) (CV.alloc (by have:=ab.size;omega) (by have:=ab.size;omega) _) ⟨hp,ab.alloc ab.size _⟩ ⟨W.heap.size,Aw _ _,rfl⟩
   case body2=>
    rintro l ac x a' W hl ⟨rr,aY⟩ ⟨hp,ab⟩ ⟨Bx,au,rfl⟩ hlt;obtain⟨e0,e1,e2⟩:=BO au;have rW:Boxed W (w.heap.size+1) 22 (iI 0):=Ag r5 ab oM;have mW:=Ag aU ab oM;have c0:=five mW;have af:=al.trans (ab.mono al.size);have aO:=hs.below af;have aM:=x.2.1.2.2.below af;have aE:W.heap[D]?=some (.deferred (some [])):=(ab.block D aC).trans aq;have bb:1<=9-1-1:=oM;have hok:=x.2.2
    ·have hg:0<=x.1.2.2.1/\x.1.2.2.1<=16:=by unfold BK at hok;simpa using hok
     have ah:x.1.1.g=x.1.2.2.1:=x.2.1.2.1
     cases hF:Bk L x.1.2.2.1 x.1.2.2.2 with
     | true=>
      have aa:=Uw (nm:=x.1.1.nm) aO hE hg aM hF;rw[<-ah]at aa;clear ah
      gi_wp2_with (refine⟨trivial,?_⟩;gi_at_call 181;refine(CallsIn.inRound l (D0.2 aa)).mono ?_;rintro e w6 ⟨rfl,b6⟩)
      exact⟨SV b6,CV.of_below b6 (by have:=ab.size;omega) (by have:=ab.size;omega),⟨hp.snoc hF,ab.trans (b6.mono ab.size)⟩⟩
     | false=>
      have aa:=Uw (nm:=x.1.1.nm) aO hE hg aM hF;rw[<-ah]at aa;clear ah
      gi_wp2_with (refine⟨trivial,?_⟩;gi_at_call 181;refine(CallsIn.inRound l (D0.2 aa)).mono ?_;rintro e w6 ⟨rfl,b6⟩;have r6:Boxed w6 (w.heap.size+1) 22 (iI 0):=Ag rW b6 rW.lt;have cR:=r6.cell;have fR:=r6.frozen)
      exact⟨(SV b6).trans ((KeepsOthers.setCell _ _ _).from _),⟨⟨rfl,x,P4 _ _,hF⟩,r6.set _⟩,(KeepsOthers.setCell _ _ _).same D _ ((b6.block D (AA aE)).trans aE) rfl,(Below.on af b6).setCell (p:=(aZ (w.heap.size+1))) (by simp) _⟩
   case stop2=>
    rintro D2 c ac W aW ai ⟨⟨⟨rfl,x,hx,hy⟩,ar⟩,hK1,am⟩ hK2;have HE:Hd (Fu L ((⟨#[]⟩,gm,r)::S)=1):=by
     show _=_
     unfold Fu;rw[Aa (by rw[HA.o];simp),Aa (by rw[hT];simp),Ab];rw[<-aB.o,<-Lq,Ax];intro hall;have:=hall x.1.2 (Fh.2 ⟨x,ai.subset hx,rfl⟩);rw[hy]at this
     cases this
    have hne:D≠D2:=oM
    gi_wp2
    refine⟨by simp,.inl ⟨_,_,rfl,Km hK2,?_⟩⟩;have ae:(W.putObj D2 (.deferred none)).heap[D]?=some (.deferred (some [])):=(O1 hne).trans hK1;refine⟨by simp,.inl ⟨_,_,rfl,Km ae,?_⟩⟩;have ag:=(Kw (Kw ar (D:=D2) oM (.deferred none)) (D:=D) oM (.deferred none)).cell;refine⟨iI 1,?_,by rw[HE.o],JQ (JQ am oM _) oM _⟩;simp[results,f137,go_sem,ag]
   case done2=>
    rintro D2 ys W aW rfl ⟨aX,am⟩ hK2;have HE:Hd (Fu L ((⟨#[]⟩,gm,r)::S)=0):=by
     show _=_
     unfold Fu;rw[Aa (by rw[HA.o];simp),Aa (by rw[hT];simp),Aa];rw[Bool.not_eq_false,Ax];intro s hs;rw[<-aB.o]at hs;obtain⟨x,hx,rfl⟩:=Fh.1 hs;exact aX x hx
    have rW:Boxed W (w.heap.size+1) 22 (iI 0):=Ag r5 am oM;have cR:=rW.cell;have fR:=rW.frozen;have a6:=al.trans (am.mono al.size);have hK1:W.heap[D]?=some (.deferred (some [])):=(am.block D aC).trans aq;have hne:D≠D2:=oM
    gi_wp2
    have aw:=(KeepsOthers.setCell W (aZ (w.heap.size+1)) (iI 0)).same D2 _ hK2 rfl;have ae:=(KeepsOthers.setCell W (aZ (w.heap.size+1)) (iI 0)).same D _ hK1 rfl;refine⟨by simp,.inl ⟨_,_,rfl,Km aw,?_⟩⟩;have an:=(O1 (o:=.deferred none) hne).trans ae;refine⟨by simp,.inl ⟨_,_,rfl,Km an,?_⟩⟩;have ag:=(Kw (Kw (rW.set (iI 0)) (D:=D2) oM (.deferred none)) (D:=D) oM (.deferred none)).cell;refine⟨iI 0,?_,by rw[HE.o],JQ (JQ (a6.setCell (p:=(aZ (w.heap.size+1))) (by simp) _) oM _) oM _⟩;simp[results,f137,go_sem,ag]
theorem Al.parts (h:Al w v m):∃ra rc sa sc fa fc na nc,v=.agg #[iI m.g,.slice ra m.r.length rc,.slice sa m.s.length sc,.slice fa m.f.length fc,.slice na m.p.length nc]/\
  Sl w (.slice ra m.r.length rc) m.r/\BA w (.slice sa m.s.length sc) m.s/\Sl w (.slice fa m.f.length fc) m.f/\Do w (.slice na m.p.length nc) m.p:=by
 obtain⟨rv,sv,fv,nv,rfl,h1,h2,h3,h4⟩:=h;obtain⟨ra,rc,rfl⟩:=h1.form;obtain⟨sa,sc,rfl⟩:=h2.form;obtain⟨fa,fc,rfl⟩:=h3.form;obtain⟨na,nc,rfl⟩:=h4.form;exact⟨ra,rc,sa,sc,fa,fc,na,nc,rfl,h1,h2,h3,h4⟩
theorem UU (h:Al w v m){E:Int}(hE:As m=E):Calls prog 137 #[v] w fun r w'=>r=.returned (iI E)/\Bw w w':=by
 subst hE;obtain⟨ra,rc,sa,sc,fa,fc,na,nc,rfl,h1,h2,h3,h4⟩:=h.parts;unfold As
 by_cases hm:3<m.p.length
 ·rw[Ab hm];exact ik _ _ _ _ _ _ _ _ _ _ _ _ _ w hm
 rw[Aa hm]
 by_cases hs:AD m.s=0
 ·rw[Aa (by simpa using hs)]
  by_cases hr:m.f.length=m.s.length
  ·cases hn:Cr m.p with
   | false=>
    rw[Ab (.inr rfl)];rw[hr];exact il _ _ _ _ _ _ _ _ _ _ _ _ m.s m.p w oM h2 hs h4 oM hn
   | true=>
    rw[Aa (by rintro(h|h);exact h hr;cases h)];rw[hr];exact io _ _ _ _ _ _ _ _ _ _ _ _ m.r m.s m.p w oM h1 h2 hs h4 oM hn
  ·rw[Ab (.inl hr)];exact im _ _ _ _ _ _ _ _ _ _ _ _ _ m.s w oM h2 hs hr
 ·rw[Ab hs];exact ip _ _ _ _ _ _ _ _ _ _ _ _ _ m.s _ w oM h2 rfl (by simpa using hs)
end
def inc (l:List Int) (k:Int):List Int:=l.set k.toNat (l.getD k.toNat 0+1)
def incE (l:List Int) (e:Int):List Int:=if e=0\/e = -1 then l else inc l e
def pagesC (l t:List Int):List Int:=t.foldl incE l
def stepC (L:List An) (l:List Int) (k:Int):List Int:=if k=0 then l else if (inc l k).getD k.toNat 0=1 then pagesC (inc l k) (AH L k) else inc l k
def CO (l:List Int) (B:Nat):Prop:=∀j,0<=l.getD j 0/\l.getD j 0<=(B:Int)
theorem KP (l:List Int)(k:Int):(inc l k).length=l.length:=by simp[inc]
theorem SM (l:List Int)(k:Int):(incE l k).length=l.length:=by unfold incE;split;rfl;exact KP l k
theorem TY (t:List Int):∀l:List Int,(pagesC l t).length=l.length:=by
 induction t with
 | nil=>exact fun l=>rfl
 | cons e r ih=>exact fun l=>by show (pagesC (incE l e) r).length=_;rw[ih,SM]
theorem U4 (L:List An)(l:List Int)(k:Int):(stepC L l k).length=l.length:=by
 unfold stepC
 split
 ·rfl
 ·split
  ·rw[TY,KP]
  ·exact KP l k
theorem Fm (l:List Int)(i j:Nat)(x:Int):(l.set i x).getD j 0=if i=j/\j<l.length then x else l.getD j 0:=by
 by_cases h:i=j
 ·subst h
  by_cases hj:i<l.length
  ·simp[List.getD,hj]
  ·simp[List.getD,hj]
 ·simp[List.getD,FX h,h]
theorem CO.inc (h:CO l B)(k:Int):CO (inc l k) (B+1):=fun j=>by
 unfold Go.Proofs.YtfciijncfbepjaaGreatDoor.inc;rw[Fm];have h1:=h j;have h2:=h k.toNat
 split<;>omega
theorem CO.mono {B':Nat}(h:CO l B)(hB:B<=B'):CO l B':=fun j=>by have:=h j;omega
theorem CO.incE (h:CO l B)(k:Int):CO (incE l k) (B+1):=by
 unfold Go.Proofs.YtfciijncfbepjaaGreatDoor.incE
 split
 ·exact h.mono oM
 ·exact h.inc k
theorem CO.pagesC:∀ {t l:List Int} {B:Nat},CO l B->CO (pagesC l t) (B+t.length)
 | [],_,_,h=>h
 | e::r,l,B,h=>by
  have:=CO.pagesC (t:=r) (h.incE e);exact this.mono (by simp;omega)
theorem CO.zero (n:Nat):CO (List.replicate n 0) 0:=fun j=>by
 by_cases h:j<n<;>simp[List.getD,h]
def Bz (W:World) (g:Nat) (l:List Int):Prop:=W.heap[g]?=some (.cells (l.map (Value.int .i64)).toArray 3)
theorem Bz.cell (h:Bz W g l)(hj:j<l.length):W.cell? (aD g j)=some (iI (l.getD j 0)):=by
 have h':W.heap[g]?=some (.cells (l.map (Value.int .i64)).toArray 3):=h;simp[World.cell?,h',List.getD,hj]
theorem Bz.frozen (h:Bz W g l)(j:Nat):W.frozen? (aD g j)=false:=by
 have h':W.heap[g]?=some (.cells (l.map (Value.int .i64)).toArray 3):=h;simp[World.frozen?,h']
theorem Bz.lt (h:Bz W g l):g<W.heap.size:=(AA h)
theorem Bz.set (h:Bz W g l)(j:Nat)(x:Int):Bz (W.setCell (aD g j) (iI x)) g (l.set j x):=by
 obtain⟨hlt,hk⟩:=B6.1 h
 show (W.heap.modify g _)[g]?=_
 rw[IU (by rw[Oy];exact hlt),Ox,hk];simp[ON]
structure CE (g:Nat) (W W':World):Prop where
 os:W'.os=W.os
 tape:W'.tape=W.tape
 output:W'.output=W.output
 size:W'.heap.size=W.heap.size
 block:∀k,k≠g->W'.heap[k]?=W.heap[k]?
theorem CE.refl (g:Nat)(W:World):CE g W W:=⟨rfl,rfl,rfl,rfl,fun _ _=>rfl⟩
theorem CE.trans {B C:World}(h:CE g A B)(k:CE g B C):CE g A C:=⟨k.os.trans h.os,k.tape.trans h.tape,k.output.trans h.output,k.size.trans h.size,fun j hj=>(k.block j hj).trans (h.block j hj)⟩
theorem CE.set (g:Nat)(W:World)(j:Nat)(v:Value):CE g W (W.setCell (aD g j) v):=by
 have hb:=fun n (h:n<=g)=>(AG n W).setCell (p:=(aD g j)) h v
 refine⟨(hb 0 (A7 _)).os,(hb 0 (A7 _)).tape,(hb 0 (A7 _)).output,by show (W.heap.modify g _).size=_;simp,fun k hk=>?_⟩
 show (W.heap.modify g _)[k]?=_
 rw[Array.getElem?_modify,Aa (fun e=>hk e.symm)]
theorem CE.below {n:Nat}(h:CE g W W')(hn:n<=g):Below n W W':=⟨h.os,h.tape,h.output,JF h.size.symm,fun k hk=>h.block k oM⟩
theorem WK (g n:Nat)(l:List Int)(ta:Option Addr)(tn tc:Nat)(xs:List Int)(B:Nat)(w w0:World)(hl:l.length=n)(_hn:n<=40)(hxn:xs.length=tn)(htn:tn<=4)(hB:B<=1000000)(hL:Bz w g l)(hbd:CO l B)(hb:Bw w0 w)(hg:w0.heap.size<=g)(ht:Sl w0 (.slice ta tn tc) xs)(hx:∀e∈xs,e=0\/e = -1\/(1<=e/\e<(n:Int))):Calls prog 139 #[lZ g n n,.slice ta tn tc] w fun r w'=>(∃v,r=.returned v)/\Bz w' g (pagesC l xs)/\CE g w w':=by
 have al:=ht.cells;obtain⟨_,_,_,hcc⟩:=al;have HC:Hd (∀j,j<tn->∃b off,ta=some (aD b off)/\b<w0.heap.size/\w0.cell? (aD b (off+j))=some (iI (xs.getD j 0))):=hcc;have HX:Hd (∀e∈xs,e=0\/e = -1\/(1<=e/\e<(n:Int))):=hx;have HT:Hd (xs.length=tn):=hxn;have aj:Hd (l.length=n):=hl;have HB:Hd (CO l B):=hbd;have HL:Hd (Bz w g l):=hL;clear hcc hx hxn hl hbd hL ht
 go_enter func139,ntmps139
 go_wp2
 go_loopw [5,8] (fun _ i wr=>∃k:Nat,k<=tn/\i=iI k/\Hd (Bz wr g (pagesC l (xs.take k)))/\CE g w wr) (fun _ i _=>tn-(intOf i).toNat)
 case atStart=>exact⟨0,A7 _,rfl,HL,CE.refl _ _⟩
 case round=>
  obtain⟨k,hk,rfl,ac,ad⟩:=hrel
  by_cases hlk:k<tn
  ·obtain⟨b,off,rfl,hlt,ab⟩:=HC.o k hlk;have ao:(k:Int)<(tn:Int):=oM;obtain⟨x,af⟩:∃x,x=xs.getD k 0:=⟨_,rfl⟩;rw[<-af]at ab;have c1:wr.cell? (aD b (off+k))=some (iI x):=((ad.below hg).cell (p:=(aD b (off+k))) hlt).trans ((hb.cell (p:=(aD b (off+k))) hlt).trans ab);have ae:k<xs.length:=by rw[HT.o];exact hlk
   have ai:x∈xs:=by rw[af];simp[List.getD,ae]
   have HS:Hd (pagesC l (xs.take (k+1))=incE (pagesC l (xs.take k)) x):=by
    show _=_
    have e:xs.getD k 0=xs[k]:=by simp[List.getD,ae]
    unfold pagesC;rw[LA,Co ae,OZ,Rs,af,e]
    rfl
   have aa:=HX.o x ai;clear af ab ae ai
   by_cases h0:x=0
   ·have ah:(x != 0)=false:=by simp[h0]
    have H0:Hd (x=0):=h0;clear h0 aa
    go_wp2
    go_roundw
    case rel=>exact⟨k+1,oM,by go_num,by show Bz _ _ _;rw[HS.o];unfold incE;rw[Ab (.inl H0.o)];exact ac.o,ad⟩
    case measure=>simp[intOf];omega
   by_cases h1:x = -1
   ·have ah:(x != 0)=true:=by simp[h0]
    have ak:(x != -1)=false:=by simp[h1]
    have H0:Hd (x = -1):=h1;clear h0 h1 aa
    go_wp2
    go_roundw
    case rel=>exact⟨k+1,oM,by go_num,by show Bz _ _ _;rw[HS.o];unfold incE;rw[Ab (.inr H0.o)];exact ac.o,ad⟩
    case measure=>simp[intOf];omega
   ·have ah:(x != 0)=true:=by simp[h0]
    have ak:(x != -1)=true:=by simp[h1]
    obtain⟨j,rfl⟩:∃j:Nat,x=j:=⟨x.toNat,oM⟩;have am:j<n:=oM;obtain⟨q,hq⟩:∃q,q=(pagesC l (xs.take k)).getD j 0:=⟨_,rfl⟩;have hlen:(pagesC l (xs.take k)).length=n:=by rw[TY,aj.o]
    have cq:wr.cell? (aD g j)=some (iI q):=by rw[hq];exact ac.o.cell (by rw[hlen];exact am)
    have fq:wr.frozen? (aD g j)=false:=ac.o.frozen j;have ag:0<=q/\q<=1000004:=by
     have:=(HB.o.pagesC (t:=xs.take k)) j;have h4:(xs.take k).length<=4:=by have:=HT.o;simp;omega
     rw[<-hq]at this;omega
    have HQ:Hd (Bz (wr.setCell (aD g j) (iI (q+1))) g (pagesC l (xs.take (k+1)))):=by
     show Bz _ _ _
     rw[HS.o];unfold incE;rw[Aa (by rintro(h|h);exact h0 h;exact h1 h)];have:=ac.o.set j (q+1);unfold inc;rw[A5,<-hq];exact this
    have an:(j:Int)<(n:Int):=oM;have ap:=ag.1;have aq:=ag.2;clear h0 h1 aa hq ag hlen
    go_wp2
    go_roundw
    case rel=>exact⟨k+1,oM,by go_num,HQ,ad.trans (CE.set g wr j _)⟩
    case measure=>simp[intOf];omega
  ·have e4:k=tn:=oM;subst e4;have HE:Hd (Bz wr g (pagesC l xs)):=by
    show Bz _ _ _
    have:=ac.o
    rwa [DF (by rw[HT.o];exact Bc _)]at this
   go_wp2
   go_end0
   exact⟨⟨_,rfl⟩,HE.o,ad⟩
end Go.Proofs.YtfciijncfbepjaaGreatDoor
