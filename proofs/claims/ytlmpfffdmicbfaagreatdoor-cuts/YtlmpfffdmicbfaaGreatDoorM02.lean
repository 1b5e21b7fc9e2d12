import Derived.RangeFuncNested
import Derived.RangeFuncBound
import Derived.RangeFuncLeaves
import Derived.Shelf.Abstract
import Derived.Shelf.RegionOpen
import Derived.WalkKit
import Derived.OwnWalkIn
import Derived.TacticsInMore
import Derived.LoopNIn
import Derived.LoopIn
import Derived.Test.YtlmpfffdmicbfaaGreatDoorRows
import Derived.ProofKit
import Derived.RegionTactic
import Derived.OrdersHeld
import Derived.OpenShut
import Derived.WalkSpells
import Derived.Deep.OwnRows
import Derived.Deep.Slices
import Derived.Deep.Matrix
import Derived.Deep.MidRow
import Derived.Test.YtlmpfffdmicbfaaGreatDoorM01
import Derived.Laws.BitsLemmas
import Derived.Deep.QuietTactic
import Derived.BigQuiet
import Derived.Maps.AppendAt
import Derived.Laws.Bits64b
import Derived.Laws.CopyOwn
import Derived.Deep.RegionWith
import Derived.Lib.TrailingZeros
import Derived.Laws.BitsAllLaws
import Derived.Laws.Tables
import Derived.Deep.WholeRow
import Derived.BigRegion
import Derived.WalkMore
import Derived.Deep.AppendLies
import Derived.Lib.SliceRun
set_option maxRecDepth 100000
set_option linter.all false
set_option maxHeartbeats 8000000
open Go.IntKind renaming i64 -> O, u64 -> Z8
open Go.Value renaming int -> I, pointer -> Z6, slice -> Z5, bool -> Z1, tuple -> ZZ
open Go.Obj renaming cells -> Z4
open Go.Ending renaming returned -> Z3
open Go.Operand renaming tmp -> Z0
open Go renaming undef -> ZY, World -> ZT, Value -> ZS, Calls -> ZQ, Addr -> ZP, Ending -> ZO, Exit -> ZN, Oper -> ZM, Act -> ZL, TypeId -> ZK, Operand -> ZJ
open Option renaming none -> U, some -> J
open Bool renaming true -> ZV, false -> ZU
open Go.RowKit renaming Below -> ZR
open List renaming range -> YE, replicate -> YF, getElem_set -> YG, length -> YJ, set_append_right -> YN, countP_append -> YR, append_eq_nil_iff -> YW, getElem?_append -> Y4, range_add -> Y5, countP_map -> Y6, countP_eq_length_filter -> Y7, take_set -> Y8, append_inj -> Y9
open Array renaming replicate -> YH, getD_eq_getD_getElem? -> YI, mem_toList_iff -> YS, setIfInBounds_comm -> YV
open BitVec renaming ofInt_natCast -> YK, toNat_xor -> YL, toNat_ofNat -> YM
open Nat renaming testBit_two_pow_mul_add -> YO, reduceAdd -> YP, reduceSub -> YQ, lt_of_not_le -> YT, div_div_eq_div_mul -> YX, div_mul_le_self -> YZ
open Bool renaming false_or -> YU, and_eq_true_iff -> Y3
open Int renaming natCast_nonneg -> YY
open Go.Proofs.Tryz renaming prog -> ZI
open Go.Proofs.Tryz
namespace Go.Proofs.YtlmpfffdmicbfaaGreatDoor
variable {p q:Prop}
def ee(h:p:=by kernel_rfl):p:=h
def eT(h:p:=by go_num):p:=h
def oB(h:p:=by go_simp):p:=h
def Lx(h:p:=by go_simp;exact⟨rfl,rfl⟩):p:=h
def Za(h:p:=by simp[results,results152,go_sem,n0,n1]):p:=h
end Go.Proofs.YtlmpfffdmicbfaaGreatDoor
namespace Go.Proofs.YtlmpfffdmicbfaaGreatDoor
def TW:=@Go.RowKit.Below.refl
def V8:=@Go.RowKit.Below.heap_setCell
def Xd:=@Go.grownBy_putObj'
def UI:=@Go.World.putObj_heap_other
def TX:=@Array.getElem?_eq_some_iff
def Vo:=@Go.callsIn_wide
def Yq:=@Go.fenced_calm
def WA:=@Go.StepsIn.trans
def Xe:=@Go.World.alloc_heap_new
def Um:=@Go.World.size_alloc
def VS:=@Go.RowKit.Below.heap_alloc
def Yr:=@Go.World.putObj_heap_same
def T9:=@List.mem_map
def Ys:=@Nat.lt_or_ge
def XU:=@List.all_eq_true
def Vk:=@decide_eq_false
def V9:=@Bool.and_eq_true
def VM:=@decide_eq_true_eq
def Yt:=@Bool.not_eq_true'
def Xf:=@Bool.or_eq_true
def Yu:=@Go.Region.noSelect_spec
def Wg:=@Go.Oper.semAt_plain
def Xg:=@Go.Act.put_comm
def TZ:=@List.setIfInBounds_toArray
def T5:=@List.set_cons_succ
def T6:=@List.set_cons_zero
def VT:=@Nat.mod_lt
def XV:=@Nat.pow_succ
def VU:=@Nat.div_le_self
def Xu:=@Nat.div_eq_of_lt
def Xh:=@List.not_mem_nil
def VG:=@List.eq_of_mem_replicate
def Ua:=@List.length_append
def UC:=@List.length_cons
def U0:=@List.length_nil
def U1:=@List.cons_append
def Ut:=@List.nil_append
def Yv:=@List.drop_zero
def VV:=@List.take_append_of_le_length
def UM:=@List.take_of_length_le
def Xj:=@List.drop_append_of_le_length
def WT:=@List.drop_of_length_le
def VH:=@List.drop_drop
def VW:=@Nat.mod_eq_of_lt
def XW:=@List.length_replicate
def Wc:=@Go.World.rowIs.of_block
def ac4:=@Go.World.rowIs.cell
def VY:=@List.length_set
def Ub:=@List.getD_eq_getElem?_getD
def Xv:=@Go.World.rowIs_made
def UQ:=@Go.World.ownsRow_nil
def Uz:=@List.map_append
def U2:=@List.eq_nil_of_length_eq_zero
def VZ:=@Go.wpList_plain
def XX:=@Go.run_make_row'
def Ur:=@Go.Proofs.Tryz.underlying36
def Uh:=@Go.Deep.nblk_alloc
def Uc:=@Go.Deep.blk_setCell_other
def Vb:=@Array.getElem?_modify
def UJ:=@List.getElem?_map
def Vd:=@List.getElem?_eq_some_iff
def ac5:=@Array.getElem?_setIfInBounds
def Uf:=@List.length_map
def Ud:=@List.getElem?_eq_getElem
def Uw:=@Go.info_parts
def UH:=@Go.Sem.run_bind
def Ug:=@Go.Deep.blk_alloc_new
def Vw:=@Go.setRow_heap
def VN:=@Go.Sem.run_pure
def UV:=@Go.Result.andThen_ok
def Xk:=@Go.run_loadVar_row
def Xw:=@Go.Proofs.Tryz.underlying119
def XY:=@Go.run_storeVar_row
def ac6:=@Go.wpList_load_mid
def Ux:=@Go.IntKind.wrap_i64
def WU:=@Nat.lt_trans
def Yw:=@Bool.eq_iff_iff
def U4:=@decide_eq_true
def Ue:=@Go.block_lt_of_cell
def Uq:=@List.length_take
def US:=@List.mem_of_mem_take
def Uj:=@Nat.zero_add
def VD:=@Go.wp_loop_rounds
def Vx:=@Go.rounds_succ
def Yx:=@Nat.sub_zero
def Yy:=@Go.wpList_append_own_at
def U7:=@Go.IntKind.wrap_u64
def Yz:=@Go.bits_or_u64_nat
def Xx:=@Nat.testBit_two_pow_sub_succ
def Xy:=@Nat.testBit_two_pow_sub_one
def Ww:=@Nat.testBit_lt_two_pow
def ac7:=@Nat.and_two_pow_sub_one_eq_mod
def Vl:=@List.take_add_one
def VE:=@List.take_length
def YA:=@Go.Deep.nblk_setCell
def Ve:=@List.ext_getElem
def Xz:=@List.mem_iff_getElem
def V0:=@List.pairwise_iff_getElem
def YB:=@Nat.lt_or_gt_of_ne
def YC:=@Go.cell_one_new
def V3:=@Array.getElem?_eq_getElem
def ac8:=@Go.wpList_copy_splice
def Vp:=@Go.Addr.add_mid
def XZ:=@List.drop_replicate
def WB:=@Nat.add_sub_cancel_left
def Wx:=@Go.World.grownBy.refl
def Wd:=@Nat.mul_one
def XA:=@Nat.testBit_and
def XB:=@Nat.testBit_two_pow
def WV:=@Nat.lt_of_le_of_lt
def Wh:=@Nat.testBit_eq_decide_div_mod_eq
def Vs:=@List.range_succ
def YD:=@List.sum_append
def U5:=@List.map_cons
def Wi:=@List.map_nil
def XC:=@List.sum_cons
def WW:=@Int.natCast_pow
def WC:=@Nat.and_le_left
def X1:=@Int.natCast_ediv
def VO:=@Nat.add_zero
def X2:=@Go.u64_andNot_nat
def adD:=@Nat.testBit_mul_two_pow
def adE:=@Nat.testBit_div_two_pow
def Xl:=@Go.callsIn_of_wp
def UK:=@List.size_toArray
def Vf:=@Array.replicate_succ
def Vg:=@Array.replicate_zero
def Vh:=@List.push_toArray
def Vi:=@List.append_toArray
def Wj:=@List.append_nil
def Uv:=@Go.bodyPost_ret
def XD:=@Go.results_none
def Uk:=@Go.World.cell?_of_block
def WD:=@List.flatMap_append
def VJ:=@List.flatMap_cons
def X3:=@List.drop_eq_getElem_cons
def Wk:=@List.take_append_drop
def ac9:=@List.prefix_append_right_inj
def Vy:=@Go.Value.slice.injEq
def ada:=@List.length_singleton
def WX:=@Go.fenced_wide
def adb:=@Go.leaves_stepsInM
def ade:=@Go.ComesIn.of_steps
def adf:=@Go.World.rowIs_alloc
def X4:=@Array.all_eq_true
def acG:=@Go.wpList_load_row
def X5:=@Go.Proofs.Tryz.underlying265
def Wy:=@Go.wpList_store_row
def Wl:=@Go.results_cell_row
def Vj:=@List.length_range
def XE:=@List.getElem?_toArray
def WE:=@List.getElem?_range
def X6:=@Option.map_some
def UD:=@Go.heap_alloc_last
def UE:=@Go.Deep.blk_alloc_lt
def adg:=@Go.World.cell?_setCell_other
def Xm:=@Nat.mul_le_mul
def WG:=@Nat.eq_zero_or_pos
def WY:=@Nat.mul_le_mul_right
def adh:=@Nat.dvd_of_mod_eq_zero
def XF:=@Int.natCast_mul
def X7:=@List.mem_or_eq_of_mem_set
def adi:=@Go.wpList_make_own
def VP:=@Go.Proofs.Tryz.underlying84
def WH:=@Go.wpList_append_own
def acH:=@List.range_zero
def WJ:=@List.getElem?_replicate
def Vt:=@Nat.add_assoc
def X8:=@List.nodup_range
def UN:=@Option.some.inj
def Xn:=@List.getElem?_set
def adj:=@Array.toList_setIfInBounds
def UR:=@List.getElem_map
def Vz:=@List.getElem?_append_left
def U8:=@List.getElem?_append_right
def WK:=@Nat.not_lt_zero
def acI:=@List.take_succ_eq_append_getElem
def UF:=@Option.some.injEq
def Xo:=@Prod.mk.injEq
def WZ:=@Go.wpAny_take
def X9:=@Go.wpAny_ready
def XG:=@Go.AllReady.cons
def Ya:=@Go.AllReady.nil
def acJ:=@Go.wp_load_mid
def Yb:=@Go.Proofs.Tryz.underlying118
def acK:=@Nat.zero_mul
def adk:=@List.getElem_cons_zero
def Yc:=@List.getElem_cons_succ
def adl:=@Option.toList_some
def V4:=@Nat.testBit_or
def VF:=@Int.toNat_natCast
def XH:=@Go.Lib.run_eql_slice_nil
def acL:=@Go.growslice_fits
def acM:=@Go.grownCap_ge
def acN:=@Go.grownCap_le_maxLen
def Yd:=@Iff.rfl
def acO:=@List.getElem?_set_self
def VQ:=@List.mem_append_right
def UW:=@List.mem_of_mem_drop
end Go.Proofs.YtlmpfffdmicbfaaGreatDoor
namespace Go.Proofs.YtlmpfffdmicbfaaGreatDoor
def nM{α:Type _}(a:α):∃x,a=x:=⟨a,rfl⟩
def lR{n:Nat}:n<=n:=TV n
def bA(w:Go.World)(o:Go.Obj):Go.RowKit.Below w.heap.size w (w.alloc o):=(TW _ w).alloc (TV _) o
abbrev bW(w v:Go.World):Prop:=Go.RowKit.Below w.heap.size w v
def cL(p:Prop):Prop:=p
def cL.out{p:Prop}(h:cL p):p:=h
def cL.o{p:Prop}(h:cL p):p:=h
open Go.RowKit Go.Shelf Go.Deep Gf
variable {ops:Array ZM}{args cs tmps:Array ZS}{assign:Code}{R R':ZO->ZT->Prop}{F:Fence}{fn:Func}{f:FuncId}{y:Int}{kk:IntKind}{O':List (Int×Nat×Nat×a7)}{D M:List a7}{L T T':List (Nat×Nat×a7)}{l l' lp:a7}{rest:List ZM}{B b c B' n m k x i p z r base base' j q g cap W s gone:Nat}{S K:Nat->Prop}{o:ZM}{P:Program}{α:Type}{e t:ZK}{v v' u:ZS}{a w w' w'' w0 w1 w2 wc wr wr':ZT}
structure bg(B:Nat)(w w':ZT):Prop where
 os:w'.os=w.os
 tape:w'.tape=w.tape
 output:w'.output=w.output
 size:w.heap.size<=w'.heap.size
 block:∀k,B<=k->k<w.heap.size->w'.heap[k]?=w.heap[k]?
def bg.refl(B:Nat)(w:ZT):bg B w w:=⟨rfl,rfl,rfl,TV _,λ_ _ _=>rfl⟩
def bg.trans{b c:ZT}(h:bg B a b)(k:bg B b c):bg B a c:=⟨k.os.trans h.os,k.tape.trans h.tape,k.output.trans h.output,TU h.size k.size,λi d e=>(k.block i d (ia h.size)).trans (h.block i d e)⟩
def bg.mono(h:bg B w w')(c:B<=B'):bg B' w w':=⟨h.os,h.tape,h.output,h.size,λk b a=>h.block k V a⟩
def bg.RM(h:ZR w.heap.size w w'):bg B w w':=⟨h.os,h.tape,h.output,h.size,λk _ a=>h.block k a⟩
def bg.setCell(h:bg B a w){p:ZP}(d:p.block<B\/a.heap.size<=p.block)(u:ZS):bg B a (w.setCell p u):=⟨h.os,h.tape,h.output,by have:=h.size;simpa[World.setCell]using this,λk b c=>(V8 _ _ _ _ V).trans (h.block k b c)⟩
def bg.putObj(h:bg B a w){l:Nat}(d:l<B\/a.heap.size<=l)(o:Obj):bg B a (w.putObj l o):=⟨h.os,h.tape,h.output,by have:=h.size;have:=(Xd w l o).size;omega,λk b c=>(UI V).trans (h.block k b c)⟩
def Below.RO(h:ZR B a w){l:Nat}(b:B<=l)(hl:l<w.heap.size)(o:Obj):ZR B a (w.putObj l o):=h.grown (Xd w l o) V (λk e=>by cases e;exact b)
def bg.keeps{C:Nat}(h:bg B w w')(c:B<=C):KeepsFrom C w w':=⟨h.size,λk o b a _=>(h.block k V (TX.1 a).1).trans a⟩
def cM(h:ZQ P f args w R)(k:∀e w',R e w'->R' e w'):Fence.wide.fn f/\(Fence.wide.depth.isSome=ZV->1<=n)/\CallsIn Fence.wide m P f args w R':=⟨trivial,λh=>Bf,Vo.2 (h.mono k)⟩
def dJ{l:Nat}(h:ZQ P f args w R)(k:∀e w',R e w'->R' e w'):(Fence.wide.inRound l).fn f/\((Fence.wide.inRound l).depth.isSome=ZV->1<=n)/\CallsIn (Fence.wide.inRound l) m P f args w R':=⟨trivial,λh=>Bf,CallsIn.inRound l (Vo.2 (h.mono k))⟩
def Rz(Q:ZN->ZL->ZT->Prop):ZN->ZL->ZT->Prop|.goto _,_,_=>False|.exit _,_,_=>False|e,a,w=>Q e a w
def iM{b:Frame}{a:ZL}{k:List Item}{cs:List Frame}{c:Code}:step P (lone (b.atR a (.code (.scope c)::k)) cs w)=.next (lone (b.atR a (.code c::.inScope c::k)) cs w):=step_lone_go (by simp[stepG,stepG.exec,Frame.atR])
def uv{b:Frame}{a:ZL}{k:List Item}{cs:List Frame}{c:Code}:step P (lone (b.atR a (.inScope c::k)) cs w)=.next (lone (b.atR a k) cs w):=step_lone_go (by simp[stepG,stepG.exec,Frame.atR])
def Ls{c:Code}{Q:ZN->ZL->ZT->Prop}{a:ZL}(h:c.wpIn F n P (Rz Q) a w):(Code.scope c).wpIn F n P Q a w:=by intro b k cs o j m;have g:(lone (b.atR a (.code (.scope c)::k)) cs w).fenced P F:=Yq j m rfl;obtain⟨e,f,w₁,d,i⟩:=h b (.inScope c::k) cs o j m;cases e with|normal=>exact⟨.normal,f,w₁,d,.head g iM (WA i (.one (Yq j m rfl) uv))⟩|exit id=>exact d.elim|goto l=>exact d.elim|ret=>exact⟨_,f,w₁,d,.of_steps (.one g iM) i⟩|panic p=>exact⟨_,f,w₁,d,.of_steps (.one g iM) i⟩|outgrown=>exact⟨_,f,w₁,d,.of_steps (.one g iM) i⟩
def RA{σ:Type}(B:Nat)(d:σ->ZT->Prop)(s:σ)(W:ZT):ZN->ZL->ZT->Prop|.normal,_,W'=>d s W'/\bg B W W'|_,_,_=>False
def I5(k:Nat):Fence.wide.room k:=λd h=>Bf
def qT{m':Nat}{l:Nat}{body:Code}(h:RoundIn Fence.wide m P l f tmps assign body w R):RoundIn Fence.wide m' P l f tmps assign body w R:=⟨h.1,λc cs _=>h.2 c cs (I5 _)⟩
theorem Lt(m:Nat){α σ:Type}{g:ZJ}{ps:Array Tmp}{assign body:Code}{Q:ZN->ZL->ZT->Prop}{a:ZL}{w:ZT}{gf:Nat}{lb:Array ZS}(hg:a.eval g=.func (.func gf) #[] lb)(eg:∀args w,(callFunc gf args).run P w=.ok (.enter gf args) w){encs:α->Array ZS}(k9:∀x,(encs x).size=ps.size)(step:σ->α->σ)(G:α->Prop)(I':σ->ZT->Prop)(k:∀s A B,I' s A->ZR w.heap.size A B->I' s B)(S:σ->Prop)(s0:σ)(h6:∀(l:Nat)(J':σ->ZT->Prop)(W:ZT),ZR w.heap.size w W->W.heap.size=w.heap.size+2->(∀s A B,J' s A->ZR (w.heap.size+2) A B->J' s B)->(∀s A,J' s A->I' s A/\w.heap.size+2<=A.heap.size)->(∀m s x b,J' s b->G x->YieldAt Fence.wide m P l (encs x) b λe d=>e=Z3 (Z1 ZV)/\J' (step s x) d/\bg (w.heap.size+2) b d)->J' s0 W->CallsIn Fence.wide (n-1) P gf (#[.func (.yield l) #[] #[]]++lb) W λe d=>(∃v,e=Z3 v)/\∃s,S s/\J' s d)(h0:I' s0 w)(E:Nat->α->ZL->ZT->Prop)(hs:∀B x c A O',E B x c A->bg B A O'->E B x c O')(h1:∀(l:Nat)(s:σ)(x:α)(W:ZT)(K:ZL->ZT->Prop),I' s W->G x->(∀c d,ZR W.heap.size W d->E W.heap.size x c d->K c d)->assign.wpIn (Fence.wide.inRound l) m P (Exit.then K (λ_ _ _=>False)) {tmps:=(ps.zip (encs x)).foldl (λt(p,v)=>t.setIfInBounds p v) a.tmps,defers:=[]} W)(h5:∀(l B:Nat)(s:σ)(x:α)(c:ZL)(W:ZT),w.heap.size<=l->l<B->B<=W.heap.size->(∃r,W.heap[l]?=J (.loop r))->I' s W->G x->E B x c W->body.wpIn (Fence.wide.inRound l) m P (RA w.heap.size I' (step s x) W) c W)(h7:∀(D:Nat)(s:σ)(W:ZT),w.heap.size<=D->S s->I' s W->W.heap[D]?=J (.deferred (J []))->Q .normal {a with defers:={target:=.collected D,args:=#[]}::a.defers} W):(Code.rangeFunc g ps assign body).wpIn Fence.wide n P Q a w:=by
 refine wpIn_rangeFunc λfn k7=>?_;obtain⟨rc,i⟩:∃rc:LoopState->Loop,rc=λst=>{state:=st,pending:=U,fn,tmps:=a.tmps,params:=ps,assign,body,defers:=w.heap.size}:=⟨_,rfl⟩;obtain⟨b,y⟩:=nM ((w.alloc (.deferred (J []))).alloc (.loop (rc .ready)));have V':ZR w.heap.size w b:=by rw[<-y];exact(bA w _).alloc ej _
 have ka:b.heap.size=w.heap.size+2:=by rw[<-y];simp
 have hx:b.heap[w.heap.size+1]?=J (.loop (rc .ready)):=by rw[<-y];have:=Xe (w.alloc (.deferred (J []))) (.loop (rc .ready));rwa[Um]at this
 have hv:b.heap[w.heap.size]?=J (.deferred (J [])):=by rw[<-y];exact(VS _ _ _ ej).trans (Xe w _)
 refine⟨w.heap.size+1,[{target:=.collected w.heap.size,args:=#[]}],b,{target:=.fn (.func gf) lb,args:=#[.func (.yield (w.heap.size+1)) #[] #[]]},b,gf,#[.func (.yield (w.heap.size+1)) #[] #[]]++lb,b,?_,?_,λ_ _=>trivial,?_,λh=>Bf,?_⟩;.rw[<-y,i];exact run_enterLoop_outer _ _ _ _ _
 .simp only[resolve,hg];simp[go_sem]
 .simp[invoke,go_sem,eg]
 refine(h6 (w.heap.size+1) (λs W=>I' s W/\W.heap[w.heap.size+1]?=J (.loop (rc .ready))/\W.heap[w.heap.size]?=J (.deferred (J []))) b V' ka ?_ ?_ ?_ ⟨k _ _ _ h0 V',hx,hv⟩).mono ?_;.rintro s A B⟨f,hl,C⟩H;exact⟨k _ _ _ f (H.mono V),(H.block _ V).trans hl,(H.block _ V).trans C⟩
 .rintro s A⟨f,hl,_⟩;exact⟨f,(TX.1 hl).1⟩
 ·rintro m' s x W⟨f,hl,C⟩hq;have z:w.heap.size+1<W.heap.size:=(TX.1 hl).1;have N:=run_yield (P:=P) (args:=encs x) hl (by rw[i];exact k9 x);rw[i]at N;refine⟨fn,_,assign,body,N,qT (roundIn_of_wpIn (n:=m) k7 (h1 _ s x W _ f hq ?_))⟩;clear N;intro c q F hz;have Z:=(F.block _ z).trans hl;have k6:=(F.block _ V).trans C;have T:w.heap.size+1<q.heap.size:=(TX.1 Z).1;refine⟨_,run_beginRound Z (by rw[i]),?_⟩;obtain⟨u,j⟩:=nM (q.putObj (w.heap.size+1) (.loop {rc .ready with state:=.busy}));have k0:ZR w.heap.size q u:=by rw[<-j];exact Below.RO (TW _ _) V T _
  have U':bg (w.heap.size+2) W u:=by rw[<-j];exact((bg.RM F).trans ((bg.refl _ q).putObj (.inl V) _))
  have M:u.heap[w.heap.size+1]?=J (.loop {rc .ready with state:=.busy}):=by rw[<-j];exact Yr T
  have X:u.heap[w.heap.size]?=J (.deferred (J [])):=by rw[<-j];exact(UI V).trans k6
  rw[j];refine wpIn_mono (h5 _ W.heap.size s x c u V z U'.size ⟨_,M⟩ (k _ _ _ (k _ _ _ f (F.mono V)) k0) hq (hs _ _ _ _ _ hz (by rw[<-j];exact(bg.refl _ q).putObj (.inl z) _))) ?_;rintro e a3 W3 o;cases e with
  |normal=>
   obtain⟨k8,L⟩:=o;have Y:=(L.block _ V (TX.1 M).1).trans M;have k5:=(L.block _ lR (TX.1 X).1).trans X;have R:=(TX.1 Y).1;have hr:=run_endRound (P:=P) U Y;refine⟨_,_,hr,rfl,⟨k _ _ _ k8 (Below.RO (TW _ _) V R _),?_,(UI V).trans k5⟩,?_⟩;.rw[Yr R,i];rfl
   .exact(U'.trans (L.mono V)).putObj (.inl V) _|ret=>exact o.elim|exit id=>exact o.elim|goto t=>exact o.elim|panic ch=>exact o.elim|outgrown=>exact o.elim
 ·rintro e W2⟨⟨v,rfl⟩,s,hS,f,hl,C⟩;have z:=(TX.1 hl).1;refine⟨U,_,by have:=run_endLoop (P:=P) hl (by rw[i];simp);rw[i]at this;exact this,?_⟩;exact h7 _ s _ lR hS (k _ _ _ f (Below.RO (TW _ _) V z _)) ((UI V).trans C)
section
def uw(ops:Array ZM)(i:Nat):a7:=match ops[i]? with|some o=>(o.after.toList.filter (λe=>Region.binds .any e)).map (λe=>e.on)|none=>[]
def Lu(ops:Array ZM):Nat->Nat->Nat->Bool|0,_,_=>ZU|f+1,j,k=>(uw ops j).any λm=>m==k||Lu ops f m k
def Fh(ops:Array ZM)(z:Nat):Bool:=(YE ops.size).all λj=>decide (j<z)||(YE ops.size).all λk=>decide (z<=k)||Lu ops ops.size j k
def yN(ops:Array ZM)(x:Array Bool):Prop:=∀j,x.getD j ZU=ZV->∀k∈uw ops j,x.getD k ZU=ZV
def Cu{ops:Array ZM}{x:Array Bool}(h:yN ops x):∀(f j k:Nat),Lu ops f j k=ZV->(∀m∈uw ops j,x.getD m ZU=ZV)->x.getD k ZU=ZV
 |0,_,_,h0,_=>by cases h0|f+1,j,k,h0,hj=>by
  obtain⟨m,a,q⟩:=List.any_eq_true.1 h0;rcases Bool.or_eq_true_iff.1 q with q|q;.rw[<-eq_of_beq q];exact hj m a
  .exact Cu h f m k q (h m (hj m a))
def AI{ops:Array ZM}{x:Array Bool}{i:Nat}(h:i∈Region.ready .any ops x):i<ops.size/\∀m∈uw ops i,x.getD m ZU=ZV:=by obtain⟨_,o,ho,b⟩:=mem_ready.1 h;refine⟨(TX.1 ho).1,λm a=>?_⟩;unfold uw at a;rw[ho]at a;obtain⟨e,c,rfl⟩:=T9.1 a;obtain⟨d,f⟩:=Vr.1 c;exact b e (YS.1 d) f
def yN.set{ops:Array ZM}{x:Array Bool}{i:Nat}(h:yN ops x)(d:i∈Region.ready .any ops x):yN ops (x.setIfInBounds i ZV):=λj a k b=>by
 have key:∀k,x.getD k ZU=ZV->(x.setIfInBounds i ZV).getD k ZU=ZV:=λk q=>by
  by_cases e:i=k
  . subst e;have:i<x.size:=by
     by_cases c:i<x.size;.exact c
     .simp[YI,c]at q
    simp[YI,this]
  .rw[getD_set_ne ZU e];exact q
 by_cases e:i=j;.subst e;exact key k ((AI d).2 k b)
 .rw[getD_set_ne ZU e]at a;exact key k (h j a k b)
def ir(U':ZN->ZL->ZT->Prop):ZN->ZL->ZT->Prop|.normal,a,w=>U' .normal a w|.panic ch,a,w=>∀a':ZL,a'.defers=a.defers->U' (.panic ch) a' w|_,_,_=>False
def ir.out{U':ZN->ZL->ZT->Prop}:∀e a w,ir U' e a w->U' e a w|.normal,_,_,h=>h|.panic _,a,_,h=>h a rfl|.exit _,_,_,h=>h.elim|.goto _,_,_,h=>h.elim|.ret,_,_,h=>h.elim|.outgrown,_,_,h=>h.elim
def AJ(a:ZL)(d:Option Tmp)(v:ZS):(a.put d v).defers=a.defers:=by cases d<;>rfl
def Xp(P:Program)(ops:Array ZM)(U':ZN->ZL->ZT->Prop)(i:Nat)(a:ZL)(w:ZT)(K:ZL->ZT->Prop):Prop:=wpOp P ops (ir U') i K a w
def Xi(Fc:Fence)(n:Nat)(P:Program)(ops:Array ZM)(U':ZN->ZL->ZT->Prop)(i:Nat)(a:ZL)(w:ZT)(K:ZL->ZT->Prop):Prop:=wpOpIn Fc n P ops (ir U') i K a w
section
variable {P:Program}{ops:Array ZM}{S:ZT->Prop}{Q:ZL->ZT->Prop}{X:Nat->ZL->ZT->(ZL->ZT->Prop)->Prop}{z:Nat}
structure Lv(P:Program)(ops:Array ZM)(X:Nat->ZL->ZT->(ZL->ZT->Prop)->Prop):Prop where
 mono:∀{i:Nat}{a:ZL}{w:ZT}{K K':ZL->ZT->Prop},(∀a w,K a w->K' a w)->X i a w K->X i a w K'
 yes:∀{S:ZT->Prop}{i:Nat}{o:ZM}{v:ZS}{a:ZL}{w:ZT}{K:ZL->ZT->Prop},ops[i]?=J o->YieldsIf P ops S o v a->S w->K (a.put o.dst v) w->X i a w K
 put:∀{S:ZT->Prop}{i j:Nat}{oi oj:ZM}{v:ZS}{a:ZL}{w:ZT}{K:ZL->ZT->Prop},ops[i]?=J oi->ops[j]?=J oj->oi.apart ops oj=ZV->YieldsIf P ops S oi v a->X j (a.put oi.dst v) w K->X j a w λa' w'=>YieldsIf P ops S oi v a'/\K (a'.put oi.dst v) w'
def xQ(ops:Array ZM)(S:ZT->Prop)(Q:ZL->ZT->Prop)(X:Nat->ZL->ZT->(ZL->ZT->Prop)->Prop)(z:Nat):Nat->Array Bool->ZL->ZT->Prop|0,x,a,w=>Region.ready .any ops x=[]/\Q a w|f+1,x,a,w=>(Region.ready .any ops x=[]->Q a w)/\∀i∈Region.ready .any ops x,X i a w λa' w'=>(i<z->S w')/\xQ ops S Q X z f (x.setIfInBounds i ZV) a' w'
def Fi(n:Lv P ops X)(W:Fh ops z=ZV){i:Nat}{oi:ZM}{v:ZS}(s:ops[i]?=J oi)(N:i<z):∀(f:Nat)(x:Array Bool)(a:ZL)(w:ZT),yN ops x->(∀j g,ops[j]?=J g->j≠i->x.getD j ZV=ZU->(∀e∈g.after,Region.binds .any e=ZV->e.on≠i)->oi.apart ops g=ZV)->i∈Region.ready .any ops x->YieldsIf P ops S oi v a->S w->xQ ops S Q X z f (x.setIfInBounds i ZV) (a.put oi.dst v) w->xQ ops S Q X z (f+1) x a w:=by
 intro f;induction f with|zero=>
  intro x a w _ _ c o l H;refine⟨λh=>(by rw[h]at c;cases c),λj d=>?_⟩;by_cases b:j=i;.subst b;exact n.yes s o l ⟨λ_=>l,H⟩
  .have:=ready_mono d b;rw[H.1]at this;cases this|succ f ih=>
  intro x a w A u c o l H;refine⟨λh=>(by rw[h]at c;cases c),λj d=>?_⟩;by_cases b:j=i;.subst b;exact n.yes s o l ⟨λ_=>l,H⟩
  . obtain⟨y,g,C,G⟩:=mem_ready.1 d;have F:=(mem_ready.1 c).1;have r:x.getD i ZU=ZU:=by
     rcases Ys i x.size with p|p;.simpa[YI,p]using F
     .simp[YI,p]
    have Z:∀e∈g.after,Region.binds .any e=ZV->e.on≠i:=λe L J' M=>by have t:=G e L J';rw[M,r]at t;cases t
    have T:j<z:=YT λe=>by obtain⟨R,K⟩:=AI d;have q:=XU.1 W j (Ul.2 R);rw[Vk (Wz.2 e),YU]at q;have q:=XU.1 q i (Ul.2 (AI c).1);rw[Vk (Nat.not_le.2 N),YU]at q;rw[Cu A _ _ _ q K]at r;cases r
    refine n.mono (λE w' m=>⟨m.2.1,ih (x.setIfInBounds j ZV) E w' (A.set d) (λk ok O' U' D V'=>u k ok O' U' ?_ V') (ready_mono c (Vc b)) m.1 (m.2.1 T) ?_⟩) (n.put s C (u j g C b y Z) o (H.2 j (ready_mono d b)))
    . by_cases B:j=k;.subst B;exact y
      .rw[getD_set_ne ZV B]at D;exact D
    .rw[YV _ _ b];exact m.2.2
inductive Wt|en|on(i:Nat)(b:Bool)(t:Wt)|fk(t1 t2:Wt)
@[reducible] def wl:List (Nat×Bool)->Wt->Wt|[],t=>t|(i,b)::l,t=>.on i b (wl l t)
def LW(P:Program)(ops:Array ZM)(Q:ZL->ZT->Prop)(S:ZT->Prop)(X:Nat->ZL->ZT->(ZL->ZT->Prop)->Prop)(z:Nat):Wt->ZL->ZT->Prop|.en,a,w=>Q a w|.on i ZV t,a,w=>∃o v,ops[i]?=J o/\YieldsIf P ops S o v a/\LW P ops Q S X z t (a.put o.dst v) w|.on i ZU t,a,w=>X i a w λa' w'=>(i<z->S w')/\LW P ops Q S X z t a' w'|.fk t1 t2,a,w=>LW P ops Q S X z t1 a w/\LW P ops Q S X z t2 a w
def QW:Wt->a7|.on i _ _=>[i]|.fk a b=>QW a++QW b|.en=>[]
def Fj(z:Nat):Wt->Bool|.en=>ZU|.on i _ t=>decide (i<z)||Fj z t|.fk a b=>Fj z a||Fj z b
def ou(ops:Array ZM)(z:Nat):Bool->Wt->Array Bool->Nat->Bool|k,.en,x,n=>!k&&(Region.ready .any ops x).isEmpty&&n==0|k,.on i ZV t,x,n=>!k&&(Region.free .any ops x i&&(Region.ready .any ops x).contains i)&&decide (i<z)&&decide (0<n)&&ou ops z ZU t (x.setIfInBounds i ZV) (n-1)|k,.on i ZU t,x,n=>(k||Region.ready .any ops x==[i])&&(decide (i<z)||! Fj z t)&&decide (0<n)&&ou ops z ZU t (x.setIfInBounds i ZV) (n-1)|k,.fk a b,x,n=>(k||Region.ready .any ops x==QW a++QW b)&&ou ops z ZV a x n&&ou ops z ZV b x n
def He:∀(t:Wt)(x:Array Bool)(n:Nat),ou ops z ZV t x n=ZV->QW t≠[]/\0<n|.en,_,_,h=>by simp[ou]at h|.on i ZV t,_,_,h=>by simp[ou]at h|.on i ZU t,_,_,h=>by simp only[ou,V9,VM]at h;exact⟨nofun,h.1.2⟩|.fk a b,x,n,h=>by simp only[ou,V9]at h;obtain⟨q,c⟩:=He a x n h.1.2;exact⟨λe=>q (YW.1 e).1,c⟩
def ux(g:Lv P ops X)(r:Fh ops z=ZV):∀(t:Wt)(k:Bool)(x:Array Bool)(n:Nat)(a:ZL)(w:ZT),yN ops x->ou ops z k t x n=ZV->(Fj z t=ZV->S w)->LW P ops Q S X z t a w->(k=ZU->xQ ops S Q X z n x a w)/\(k=ZV->∀i∈QW t,i∈Region.ready .any ops x->X i a w λf w'=>(i<z->S w')/\xQ ops S Q X z (n-1) (x.setIfInBounds i ZV) f w')|.en,k,x,n,a,w,_,hk,_,h=>by simp only[ou,V9,beq_iff_eq,Yt]at hk;obtain⟨⟨rfl,q⟩,rfl⟩:=hk;exact⟨λ_=>⟨ua q,h⟩,nofun⟩|.on i ZV t,k,x,n,a,w,hc,hk,d,h=>by simp only[ou,V9,VM,Yt]at hk;obtain⟨⟨⟨⟨rfl,b,l⟩,s⟩,y⟩,F⟩:=hk;obtain⟨o,v,A,D,E⟩:=h;have c:i∈Region.ready .any ops x:=ua l;have d:=d (by simp[Fj,s]);refine⟨λ_=>?_,nofun⟩;have:=Fi g r A s _ _ _ _ hc (Region.free_spec A b) c D d ((ux g r t ZU _ (n-1) _ _ (hc.set c) F (λ_=>d) E).1 rfl);rwa[Nat.sub_add_cancel y]at this|.on i ZU t,k,x,n,a,w,hc,hk,d,h=>by simp only[ou,V9,beq_iff_eq,Xf,VM,Yt]at hk;obtain⟨⟨⟨b,l⟩,s⟩,y⟩:=hk;have core:i∈Region.ready .any ops x->X i a w λf w'=>(i<z->S w')/\xQ ops S Q X z (n-1) (x.setIfInBounds i ZV) f w':=λc=>g.mono (λf w' q=>⟨q.1,(ux g r t ZU _ (n-1) _ _ (hc.set c) y (λe=>q.1 (l.resolve_right (by rw[e];decide))) q.2).1 rfl⟩) h;refine⟨λe=>?_,λ_ j p c=>by rw[Va.1 p]at c⊢;exact core c⟩;have b:=b.resolve_left (by rw[e];decide);obtain⟨m,rfl⟩:∃m,n=m+1:=⟨n-1,V⟩;exact⟨λq=>absurd (b▸q) ej,λj p=>by have c:=p;rw[b]at p;rw[Va.1 p]at c⊢;exact core c⟩|.fk t1 B,k,x,n,a,w,hc,hk,d,h=>by simp only[ou,V9,beq_iff_eq,Xf]at hk;obtain⟨⟨b,l⟩,s⟩:=hk;have G:=(ux g r t1 ZV x n a w hc l (λe=>d (by simp[Fj,e])) h.1).2 rfl;have H:=(ux g r B ZV x n a w hc s (λe=>d (by simp[Fj,e])) h.2).2 rfl;have core:∀i∈QW t1++QW B,i∈Region.ready .any ops x->X i a w λf w'=>(i<z->S w')/\xQ ops S Q X z (n-1) (x.setIfInBounds i ZV) f w':=λi u=>(Ui.1 u).elim (G i) (H i);refine⟨λe=>?_,λ_=>core⟩;have b:=b.resolve_left (by rw[e];decide);obtain⟨C,N⟩:=He t1 x n l;obtain⟨m,rfl⟩:∃m,n=m+1:=⟨n-1,V⟩;exact⟨λq=>absurd (YW.1 (b▸q)).1 C,λi u=>core i (b▸u) u⟩
def sD(ops:Array ZM)(z:Nat)(t:Wt):Bool:=Region.noSelect ops&&ou ops z ZU t (YH ops.size ZU) ops.size&&Fh ops z
theorem yO(e:Lv P ops X){t:Wt}(c:sD ops z t=ZV){a:ZL}{w:ZT}(d:S w)(h:LW P ops Q S X z t a w):xQ ops S Q X z ops.size (YH ops.size ZU) a w:=by simp only[sD,V9]at c;exact(ux e c.2 t ZU _ _ a w (λj b=>by simp only[YI,Array.getElem?_replicate]at b;split at b<;>cases b) c.1.2 (λ_=>d) h).1 rfl
def xJ{p:Prop}{n:Nat}(h:n<n):p:=absurd h (Nat.lt_irrefl n)
def bI{a:ZL}{w:ZT}(h:Q a w):LW P ops Q S X z .en a w:=h
def cZ{i:Nat}{l:Wt}{a:ZL}{w:ZT}{o:ZM}(ho:ops.toList[i]?=J o)(b:Region.wanted o (yielded ops a.tmps)=ZV)(h:∃v,(∀w,S w->(execOp a.eval o).run P w=.ok (.value v) w)/\LW P ops Q S X z l (a.put o.dst v) w):LW P ops Q S X z (.on i ZV l) a w:=h.elim λv h=>⟨o,v,ua ho,.inl ⟨b,h.1⟩,h.2⟩
end
section
variable {P:Program}{ops:Array ZM}{S:ZT->Prop}{U':ZN->ZL->ZT->Prop}{z i:Nat}{l:Wt}{a:ZL}{w w1:ZT}{o:ZM}
def ack(c:Region.noSelect ops=ZV):Lv P ops (Xp P ops U')where mono h:=wpOp_mono h;yes hi hy hS h:=hy.wpOp hi hS h;put hi hj h0 hy h:=wpOp_putIf hj h0 (λcs b=>Yu c _ _ cs b hi) (λcs b=>Yu c _ _ cs b hj) (λ_ a _ q d e=>q d (e.trans (AJ a _ _).symm)) hy h
def Hf:∀(f:Nat)(x:Array Bool)(a:ZL)(w:ZT),xQ ops S (U' .normal) (Xp P ops U') z f x a w->wpAny P .any ops (ir U') f x a w|0,_,_,_,h=>⟨h.1,h.2⟩|f+1,_,_,_,h=>⟨h.1,λi c=>wpOp_mono (λb w' q=>Hf f _ b w' q.2) (h.2 i c)⟩
def mq(z:Nat)(t:Wt)(S:ZT->Prop)(d:P.follows .mixedOrders=ZV)(b:sD ops z t=ZV)(c:S w.drew)(h:LW P ops (U' .normal) S (Xp P ops U') z t a w.drew):(Code.region m ops ZV).wp P U' a w:=Code.wp_mono (Q:=ir U') ir.out (wp_region_any d (Hf _ _ _ _ (yO (ack (by simp only[sD,V9]at b;exact b.1.1)) b c h)))
def bw(z:Nat)(l:List (Nat×Bool))(S:ZT->Prop)(d:P.follows .mixedOrders=ZV)(c:sD ops z (wl l .en)=ZV)(b:S w.drew)(h:LW P ops (U' .normal) S (Xp P ops U') z (wl l .en) a w.drew):(Code.region m ops ZV).wp P U' a w:=mq z _ S d c b h
def uy(ho:ops.toList[i]?=J o)(c:Region.wanted o (yielded ops a.tmps)=ZV)(h:∀K:ZL->ZT->Prop,(∀b w',(i<z->S w')->LW P ops (U' .normal) S (Xp P ops U') z l b w'->K b w')->o.wp P a w K (ir U')):LW P ops (U' .normal) S (Xp P ops U') z (.on i ZU l) a w:=by show Xp P ops U' i a w _;unfold Xp wpOp;rw[(ua ho:ops[i]?=J o)];show if _ then _ else _;rw[TT c];exact .inl (h _ λ_ _ d e=>⟨d,e⟩)
def dV(ho:ops.toList[i]?=J o)(d:Region.wanted o (yielded ops a.tmps)=ZV)(c:(execOp a.eval o).run P w=.ok (.value v) w1)(b:i<z->S w1)(h:LW P ops (U' .normal) S (Xp P ops U') z l (a.put o.dst v) w1):LW P ops (U' .normal) S (Xp P ops U') z (.on i ZU l) a w:=uy ho d λK hK=>by unfold Oper.wp;rw[c];exact hK _ _ b h
def lj(ho:ops.toList[i]?=J o)(d:Region.wanted o (yielded ops a.tmps)=ZV)(c:(execOp a.eval o).run P w=.ok .skip w1)(b:i<z->S w1)(h:LW P ops (U' .normal) S (Xp P ops U') z l (a.put o.dst ZY) w1):LW P ops (U' .normal) S (Xp P ops U') z (.on i ZU l) a w:=uy ho d λK hK=>by unfold Oper.wp;rw[c];exact hK _ _ b h
def db(b:ZQ P f args w1 R)(ho:ops.toList[i]?=J o)(d:Region.wanted o (yielded ops a.tmps)=ZV)(c:(execOp a.eval o).run P w=.ok (.enter f args) w1)(h:∀e w',R e w'->∃v,e=Z3 v/\(i<z->S w')/\LW P ops (U' .normal) S (Xp P ops U') z l (a.put o.dst v) w'):LW P ops (U' .normal) S (Xp P ops U') z (.on i ZU l) a w:=uy ho d λK hK=>by unfold Oper.wp;rw[c];refine b.mono λe w' q=>?_;obtain⟨v,rfl,g,j⟩:=h e w' q;exact hK _ _ g j
end
structure O7(Fc:Fence):Prop where
 fn:∀f,Fc.fn f
 dp:Fc.depth.isSome=ZV->False
 cl:∀{n:Nat}{P:Program}{f:FuncId}{args:Array ZS}{w:ZT}{R:ZO->ZT->Prop},ZQ P f args w R->CallsIn Fc n P f args w R
def iD:O7 Fence.wide:=⟨λ_=>trivial,λh=>Bf,λh=>Vo.2 h⟩
def dK(l:Nat):O7 (Fence.wide.inRound l):=⟨λ_=>trivial,λh=>Bf,λh=>CallsIn.inRound l (Vo.2 h)⟩
def tE(ops:Array ZM):Bool:=ops.toList.all λo=>match o.op with|.defer _=>ZU|_=>ZV
def uz{ops:Array ZM}(h:tE ops=ZV){i:Nat}{o:ZM}(ho:ops[i]?=J o)(c:Call):o.op≠.defer c:=λe=>by have:=XU.1 h o (YS.2 (Array.mem_of_getElem? ho));rw[e]at this;cases this
section
variable {Fc:Fence}{n:Nat}{P:Program}{ops:Array ZM}{S:ZT->Prop}{U':ZN->ZL->ZT->Prop}{z i:Nat}{l:Wt}{a:ZL}{w w1:ZT}{o:ZM}
theorem abI(s:O7 Fc)(B:Region.noSelect ops=ZV)(A:tE ops=ZV):Lv P ops (Xi Fc n P ops U')where
 mono h:=wpOpIn_mono h;yes{_ i o v a w K}hi hy hS h:=by
  unfold Xi wpOpIn;simp only[hi];rcases hy with⟨m,D⟩|⟨m,rfl⟩;.simp only[m,if_true,Oper.wpIn,Wg _ _ _ (uz A hi),D w hS,Oper.uponIn];exact⟨λf _=>s.fn f,h⟩
  .simp only[m,Bool.false_eq_true,if_false];exact⟨λf _=>s.fn f,h⟩
 put{S i j oi oj v a w K}hi hj h5 hy h:=by
  have z:=λcs b=>Yu B _ _ cs b hi;have C:=λcs b=>Yu B _ _ cs b hj;have t:=uz A hj;obtain⟨y,k,q⟩:=Oper.apart_spec h5;have keep:∀u,YieldsIf P ops S oi v (a.put oj.dst u):=λu=>hy.of_same (execOp_put oi z a oj.dst u q) (wanted_put oi a oj.dst u q);unfold Xi wpOpIn at*;simp only[hj]at*;rw[wanted_put oj a oi.dst v y]at h;split;. rename_i m;simp only[m,if_true]at h;refine⟨λf _=>s.fn f,?_⟩;have h:=h.2;rw[Wg _ _ _ t,execOp_put oj C a oi.dst v y]at h;rw[Wg _ _ _ t];generalize(execOp a.eval oj).run P w=r at*;cases r with
    |ok x w'=>
     cases x<;>simp only[Oper.uponIn]at h⊢;case value u=>exact⟨keep u,by rw[<-Xg a v u k];exact h⟩
     case skip=>exact⟨keep _,by rw[<-Xg a v ZY k];exact h⟩
     case defer d=>exact⟨(hy.of_same rfl rfl:YieldsIf P ops S oi v {a with defers:=d::a.defers}).of_same (execOp_put oi z _ oj.dst _ q) (wanted_put oi _ oj.dst _ q),by rw[<-Xg _ v ZY k,<-Act.put_defers];exact h⟩
     case enter f args=>refine⟨h.1,CallsIn.mono h.2 λe w'' g=>?_⟩;cases e with|returned u=>exact⟨keep u,ZD⟩|panicked c=>exactλp e=>g p (e.trans (AJ a _ _).symm)|outgrown=>exact g
     case row row args=>exact⟨h.1,RowsIn.mono h.2 λu w'' g=>⟨keep u,ZD⟩⟩
     case round l f tmps assign body=>refine⟨h.1,RoundIn.mono h.2 λe w'' g=>?_⟩;cases e with|returned u=>exact⟨keep u,ZD⟩|panicked c=>exactλp e=>g p (e.trans (AJ a _ _).symm)|outgrown=>exact g
    |_=>rename_i x _;cases x<;>simp only[Oper.uponIn]at h⊢;case panic u=>exactλp e=>h p (e.trans (AJ a _ _).symm)
  . rename_i m;simp only[m]at h;exact⟨λf _=>s.fn f,keep _,by rw[<-Xg a v ZY k];exact h.2⟩
def yP:∀(f:Nat)(x:Array Bool)(a:ZL)(w:ZT),xQ ops S (U' .normal) (Xi Fc n P ops U') z f x a w->wpAnyIn Fc n P .any ops (ir U') f x a w|0,_,_,_,h=>⟨h.1,h.2⟩|f+1,_,_,_,h=>⟨h.1,λi c=>wpOpIn_mono (λb w' q=>yP f _ b w' q.2) (h.2 i c)⟩
def oW(c:O7 Fc){m:Nat}(z:Nat)(t:Wt)(S:ZT->Prop)(e:P.follows .mixedOrders=ZV)(b:(sD ops z t&&tE ops)=ZV)(d:S w.drew)(h:LW P ops (U' .normal) S (Xi Fc n P ops U') z t a w.drew):(Code.region m ops ZV).wpIn Fc n P U' a w:=by
 rw[V9]at b;have f:Region.noSelect ops=ZV:=by have:=b.1;simp only[sD,V9]at this;exact this.1.1
 exact Code.wpIn_mono (Q:=ir U') ir.out (wpIn_region_any e (yP _ _ _ _ (yO (abI c f b.2) b.1 d h)))
def bM(b:O7 Fc){m:Nat}(z:Nat)(l:List (Nat×Bool))(S:ZT->Prop)(e:P.follows .mixedOrders=ZV)(d:(sD ops z (wl l .en)&&tE ops)=ZV)(c:S w.drew)(h:LW P ops (U' .normal) S (Xi Fc n P ops U') z (wl l .en) a w.drew):(Code.region m ops ZV).wpIn Fc n P U' a w:=oW b z _ S e d c h
def Fk(ho:ops.toList[i]?=J o)(c:Region.wanted o (yielded ops a.tmps)=ZV)(h:∀K:ZL->ZT->Prop,(∀b w',(i<z->S w')->LW P ops (U' .normal) S (Xi Fc n P ops U') z l b w'->K b w')->o.wpIn Fc n P a w K (ir U')):LW P ops (U' .normal) S (Xi Fc n P ops U') z (.on i ZU l) a w:=by show Xi Fc n P ops U' i a w _;unfold Xi wpOpIn;rw[(ua ho:ops[i]?=J o)];show if _ then _ else _;rw[TT c];exact h _ λ_ _ d e=>⟨d,e⟩
def m8(d:O7 Fc){v:ZS}(ho:ops.toList[i]?=J o)(j:Region.wanted o (yielded ops a.tmps)=ZV)(b:∀c,o.op≠.defer c)(g:(execOp a.eval o).run P w=.ok (.value v) w1)(e:i<z->S w1)(h:LW P ops (U' .normal) S (Xi Fc n P ops U') z l (a.put o.dst v) w1):LW P ops (U' .normal) S (Xi Fc n P ops U') z (.on i ZU l) a w:=Fk ho j λK hK=>⟨λf _=>d.fn f,by rw[Wg _ _ _ b,g];exact hK _ _ e h⟩
def eC(d:O7 Fc)(ho:ops.toList[i]?=J o)(j:Region.wanted o (yielded ops a.tmps)=ZV)(b:∀c,o.op≠.defer c)(g:(execOp a.eval o).run P w=.ok .skip w1)(e:i<z->S w1)(h:LW P ops (U' .normal) S (Xi Fc n P ops U') z l (a.put o.dst ZY) w1):LW P ops (U' .normal) S (Xi Fc n P ops U') z (.on i ZU l) a w:=Fk ho j λK hK=>⟨λf _=>d.fn f,by rw[Wg _ _ _ b,g];exact hK _ _ e h⟩
def j9(d:O7 Fc){f:FuncId}{args:Array ZS}{R:ZO->ZT->Prop}(m:ZQ P f args w1 R)(ho:ops.toList[i]?=J o)(r:Region.wanted o (yielded ops a.tmps)=ZV)(k:∀c,o.op≠.defer c)(p:(execOp a.eval o).run P w=.ok (.enter f args) w1)(h:∀e w',R e w'->(∃v,e=Z3 v/\(i<z->S w')/\LW P ops (U' .normal) S (Xi Fc n P ops U') z l (a.put o.dst v) w')\/∃b,e=.panicked b/\∀j:ZL,j.defers=a.defers->U' (.panic b) j w'):LW P ops (U' .normal) S (Xi Fc n P ops U') z (.on i ZU l) a w:=Fk ho r λK hK=>⟨λf _=>d.fn f,by
 rw[Wg _ _ _ k,p];refine⟨λh=>(d.dp h).elim,d.cl (m.mono λe w' q=>?_)⟩;rcases h e w' q with⟨v,rfl,g,s⟩|⟨b,rfl,g⟩;.exact hK _ _ g s
 .exact g⟩
def fU(d:O7 Fc){f:FuncId}{args:Array ZS}{R:ZO->ZT->Prop}(g:ZQ P f args w1 R)(ho:ops.toList[i]?=J o)(k:Region.wanted o (yielded ops a.tmps)=ZV)(b:∀c,o.op≠.defer c)(j:(execOp a.eval o).run P w=.ok (.enter f args) w1)(h:∀e w',R e w'->∃v,e=Z3 v/\(i<z->S w')/\LW P ops (U' .normal) S (Xi Fc n P ops U') z l (a.put o.dst v) w'):LW P ops (U' .normal) S (Xi Fc n P ops U') z (.on i ZU l) a w:=j9 d g ho k b j λe w' q=>.inl (h e w' q)
end
end
theorem bE{Q:ZL->ZT->Prop}{S:ZT->Prop}{X:Nat->ZL->ZT->(ZL->ZT->Prop)->Prop}{l:Wt}{a a':ZL}(h:LW P ops Q S X z l a' w)(ho:ops.toList[i]?=J o:=by rfl)(hw:Region.wanted o (yielded ops a.tmps)=ZV:=by rfl)(hr:∀w,S w->(execOp a.eval o).run P w=.ok (.value v) w:=by intro w' b;first|(go_simp;done)|(go_simp;exact rfl))(ha:a.put o.dst v=a':=by simp only[Act.put,TZ,T5,T6];exact rfl):LW P ops Q S X z (.on i ZV l) a w:=cZ ho hw ⟨v,hr,ha▸h⟩
def be(n:Nat):Nat->a7|0=>[]|s+1=>n/256^s%256::be n s
def aG(n s:Nat):(be n s).length=s:=by induction s with|zero=>rfl|succ s ih=>simp[be,ih]
def sE(n s:Nat):∀x∈be n s,x<256:=by induction s with|zero=>intro x a;simp[be]at a|succ s ih=>
  intro x a;simp only[be,Uu]at a;rcases a with rfl|a;.exact VT _ ec
  .exact ih x a
def gx(l:a7):Nat:=l.foldl (λn x=>(n*256+x)%18446744073709551616) 0
def uA(l:a7)(x:Nat):gx (l++[x])=(gx l*256+x)%18446744073709551616:=by simp[gx]
def RB(l:a7):gx l<18446744073709551616:=by
 rcases List.eq_nil_or_concat l with rfl|⟨l',x,rfl⟩;.decide
 .rw[List.concat_eq_append,uA];exact VT _ ec
theorem O8(n:Nat)(e:n<18446744073709551616):∀(s a:Nat),s<=8->a=n/256^s->(be n s).foldl (λn x=>(n*256+x)%18446744073709551616) a=n:=by intro s;induction s with|zero=>intro a _ b;simpa[be]using b|succ s ih=>
  intro a f b;simp only[be,Xc];refine ih _ V ?_;subst b;have c:n/256^(s+1)=n/256^s/256:=by rw[XV,YX]
  rw[c];have:n/256^s<=n:=VU _ _;generalize n/256^s=q at*;omega
def mr(n s:Nat)(a:s<=8)(h:n<256^s):gx (be n s)=n:=by have:(256:Nat)^s<=256^8:=UY ec a;exact O8 n V s 0 a (Xu h).symm
def de:a7:=[0x00000000,0x1db71064,0x3b6e20c8,0x26d930ac,0x76dc4190,0x6b6b51f4,0x4db26158,0x5005713c,0xedb88320,0xf00f9344,0xd6d6a3e8,0xcb61b38c,0x9b64c2b0,0x86d3d2d4,0xa00ae278,0xbdbdf21c]
def dL(r:Nat):Nat:=(r/16)^^^de.getD (r%16) 0
def dR(r b:Nat):Nat:=dL (dL (r^^^b))
def dD(l:a7):Nat:=l.foldl dR 4294967295
def oX(l:a7):Nat:=4294967295-dD l
def qU:∀i,de.getD i 0<4294967296:=by
 intro i;by_cases h:i<16
 . have:∀j:Fin 16,de.getD j.1 0<4294967296:=by decide
   exact this ⟨i,h⟩
 . have:de.getD i 0=0:=by simp[de,Vn (ek:([0x00000000,0x1db71064,0x3b6e20c8,0x26d930ac,0x76dc4190,0x6b6b51f4,0x4db26158,0x5005713c,0xedb88320,0xf00f9344,0xd6d6a3e8,0xcb61b38c,0x9b64c2b0,0x86d3d2d4,0xa00ae278,0xbdbdf21c]:a7).length<=i)]
   omega
def gV(h:r<4294967296):dL r<4294967296:=by unfold dL;exact V7 (n:=32) V (qU _)
def fM(h:r<4294967296)(a:b<256):dR r b<4294967296:=gV (gV (V7 (n:=32) h V))
def AK:∀(l:a7)(r:Nat),r<4294967296->(∀x∈l,x<256)->l.foldl dR r<4294967296:=by intro l;induction l with|nil=>intro r h _;exact h|cons b l ih=>intro r h hl;exact ih _ (fM h (hl b ej)) (λx a=>hl x Zl)
def ox(h:∀x∈l,x<256):dD l<4294967296:=AK l _ ec h
def AL(l:a7):oX l<4294967296:=by unfold oX;omega
inductive bF where|blank|root(D L G turn first len:Nat)|filled|shard(l:a7)
deriving DecidableEq
def bF.body:bF->a7|.blank=>[]|.root D L G t f n=>[1,D%256,L%256,G%256]++(be t 8++(be f 4++be n 4))|.filled=>[2]|.shard l=>3::(YF 15 0++l)
def ft(body:a7):a7:=be (oX (body++YF (60-body.length) 0)) 4++(body++YF (60-body.length) 0)
def bF.blk(r:bF):a7:=if r.body.length=0 then YF 64 0 else ft r.body
def bF.ok:bF->Prop|.blank=>True|.root D L G t f n=>D<256/\L<256/\G<256/\t<18446744073709551616/\f<4294967296/\n<4294967296|.filled=>True|.shard l=>l.length=44/\∀x∈l,x<256
def tg(b:a7):bF:=if b.getD 4 0=1 then .root (gx [b.getD 5 0]) (gx [b.getD 6 0]) (gx [b.getD 7 0]) (gx ((b.drop 8).take 8)) (gx ((b.drop 16).take 4)) (gx ((b.drop 20).take 4))else if b.getD 4 0=2 then .filled else if b.getD 4 0=3 then .shard (b.drop 20)else .blank
def oY{r:bF}(h:r.ok):r.body.length<=60:=by cases r with|blank=>simp[bF.body]|root D L G t f n=>simp[bF.body,aG]|filled=>simp[bF.body]|shard l=>simp[bF.body,h.1]
theorem Hg{r:bF}(h:r.ok):r.blk.length=64:=by
 have:=oY h;unfold bF.blk ft;split;.simp
 .simp[aG];omega
def tF{r:bF}(h:r.ok):∀x∈r.body,x<256:=by
 cases r with|blank=>intro x a;simp[bF.body]at a|root D L G t f n=>
  intro x a;simp only[bF.body,Ui,Uu,Xh,or_false]at a;rcases a with(rfl|rfl|rfl|rfl)|a|a|a;.omega
  .omega
  .omega
  .omega
  all_goals exact sE _ _ x a|filled=>intro x a;simp only[bF.body,Uu,Xh,or_false]at a;omega|shard l=>
  intro x a;simp only[bF.body,Ui,Uu]at a;rcases a with rfl|a|a;.decide
  .have:=VG a;omega
  .exact h.2 x a
def I6(h:∀x∈l,x<256):∀x∈ft l,x<256:=by
 intro x a;unfold ft at a;simp only[Ui]at a;rcases a with a|a|a;.exact sE _ _ x a
 .exact h x a
 .have:=VG a;omega
theorem RD{r:bF}(h:r.ok):∀x∈r.blk,x<256:=by
 unfold bF.blk;split;.intro x a;have:=VG a;omega
 .exact I6 (tF h)
def RE(n:Nat):be n 4=[n/256^3%256,n/256^2%256,n/256^1%256,n/256^0%256]:=rfl
def tG(x:Nat)(h:x<256):gx [x]=x:=by simp[gx];omega
theorem O9{r:bF}(h:r.ok):tg r.blk=r:=by cases r with|blank=>rfl|root D L G t f n=>
  obtain⟨d,g,i,j,k,o⟩:=h;have e:bF.blk (.root D L G t f n)=ft (bF.body (.root D L G t f n)):=by unfold bF.blk;rw[TS Zp]
  rw[e];unfold ft;generalize oX _=c;simp only[bF.body,RE c,Ua,UC,U0,aG];unfold tg;simp only[U1,Ut,List.getD_cons_succ,List.getD_cons_zero,if_true,List.drop_succ_cons,Yv,UA];have t8:∀R:a7,(be t 8++R).take 8=be t 8:=λR=>by rw[VV Zv];exact UM Zv
  have a:∀R:a7,(be t 8++R).drop 8=R:=λR=>by rw[Xj Zv,WT Zv];rfl
  have b:∀(m:Nat)(R:a7),(be m 4++R).take 4=be m 4:=λm R=>by rw[VV Zv];exact UM Zv
  have d12:∀R:a7,(be t 8++(be f 4++R)).drop 12=R:=λR=>by rw[show(12:Nat)=8+4 from rfl,<-VH,a,Xj Zv,WT Zv];rfl
  rw[t8,a,b,d12,b,mr t 8 ec j,mr f 4 ec k,mr n 4 ec o];rw[tG _ V,tG _ V,tG _ V,VW d,VW g,VW i]|filled=>
  have e:bF.blk .filled=ft (bF.body .filled):=by unfold bF.blk;rw[TS Zp]
  rw[e];unfold ft;generalize oX _=c;simp only[bF.body,RE c,UC,U0];unfold tg;simp|shard l=>
  have e:bF.blk (.shard l)=ft (bF.body (.shard l)):=by unfold bF.blk;rw[TS Zp]
  rw[e];unfold ft;generalize oX _=c;have hl:=h.1;simp only[bF.body,RE c,Ua,UC,XW,hl];unfold tg;simp[YF]
def K8(l:a7):Option bF:=if(tg l).blk=l then J (tg l)else U
def AM{r:bF}(h:r.ok):K8 r.blk=J r:=by unfold K8;rw[O9 h,TT rfl]
def ja(h:n<=1000000000000):wrap64 (n:Int)=(n:Int):=D2
def vb(l:a7)(i:Nat):ZS:=I .u8 ((l.getD i 0:Nat):Int)
def aM(w:ZT)(b:Nat)(l:a7):Prop:=w.rowIs b 5 l.length (vb l)
def fV(p:Nat×Nat×a7):ZS:=Z5 (J ⟨p.1,0,U⟩) p.2.1 p.2.2.length
structure eS(w:ZT)(base:Nat)(v:ZS)(L:List (Nat×Nat×a7)):Prop where own:w.ownsRow base 36 1 v L.length (L.map fV)row:∀p∈L,base<=p.1/\aM w p.1 p.2.2/\p.2.1<=p.2.2.length/\(p.2.1<=140737488355328/\p.2.2.length<=9223372036854775807)/\∀x∈p.2.2,x<256nodup:(L.map (λp=>p.1)).Nodup
def dM(h:∀x∈l,x<256)(i:Nat):l.getD i 0<256:=by
 by_cases a:i<l.length;.have e:l.getD i 0=l[i]:=Zl;rw[e];exact h _ (T7 a)
 .have e:l.getD i 0=0:=(by simp[Vn (V:l.length<=i)]);rw[e];decide
def aM.below(h:aM w b l)(a:ZR w.heap.size w w'):aM w' b l:=Wc h (a.block b h.lt)
def aM.cell(h:aM w b l)(i:Nat)(a:i<l.length):w.cell? ⟨b,i,U⟩=J (I .u8 ((l.getD i 0:Nat):Int)):=ac4 h a
def aM.frozen(h:aM w b l)(i:Nat):w.frozen? ⟨b,i,U⟩=ZU:=World.rowIs.frozen h i
theorem aM.set(h:aM w b l)(i x:Nat):aM (w.setCell ⟨b,i,U⟩ (I .u8 (x:Int))) b (l.set i x):=by
 have a:=World.rowIs.set h i (I .u8 (x:Int));unfold aM;rw[VY];refine a.congr λj c=>?_;unfold vb;by_cases e:j=i;.subst e;simp[c]
 .simp only[TS e];rw[Ub,Ub,List.getElem?_set_ne (λh=>e h.symm)]
def aM.other(h:aM w b l){a:ZP}(c:b≠a.block)(v:ZS):aM (w.setCell a v) b l:=World.rowIs.setOther h c v
def aM.alloc(h:aM w b l)(o:Obj):aM (w.alloc o) b l:=World.rowIs.alloc h o
def aM.lt(h:aM w b l):b<w.heap.size:=World.rowIs.lt h
def aM.grown{row:Option Nat}(h:aM w b l)(c:w.grownBy w' row)(a:J b≠row):aM w' b l:=Wc h (c.block b h.lt a)
theorem aM.made(w:ZT)(n:Nat):aM (w.alloc (Z4 (madeCells #[I .u8 0] n) 5)) w.heap.size (YF n 0):=by have h:=Xv w (I .u8 0) n 5;unfold aM;rw[XW];refine h.congr λi a=>?_;simp[vb,a]
def az{size:Nat}{xs:List ZS}(h:w.ownsRow base e size v n xs)(j:ZR w.heap.size w w'):w'.ownsRow base e size v n xs:=by
 refine⟨h.1,?_⟩;rcases h.2 with f|⟨g,cap,cur,b,c,a,d⟩;.exact .inl f
 .refine .inr ⟨g,cap,cur,b,c,?_,d⟩;obtain⟨i,_⟩:=TX.1 a;rw[j.block g i];exact a
def dz{size:Nat}{xs:List ZS}(h:w.ownsRow base e size v n xs)(f:base'<=base):w.ownsRow base' e size v n xs:=by
 refine⟨h.1,?_⟩;rcases h.2 with c|⟨g,cap,cur,a,d,b⟩;.exact .inl c
 .exact .inr ⟨g,cap,cur,a,V,b⟩
def qV{xs:List ZS}(h:w.ownsRow base 36 1 v n xs){b:Nat}{l:a7}(i:aM w b l):v.ownBlock≠J b:=by
 intro e;rcases h.2 with⟨f,_⟩|⟨g,cap,cur,d,k,a,m⟩;.rw[f]at e;simp[Value.ownBlock]at e
 .rw[d]at e;simp[Value.ownBlock]at e;subst e;obtain⟨c,j,_⟩:=i;rw[j]at a;simp at a
def eS.weaken(h:eS w base v L)(c:base'<=base):eS w base' v L:=⟨dz h.own c,λp d=>by obtain⟨a,b⟩:=h.row p d;exact⟨V,b⟩,h.nodup⟩
def eS.nil(w:ZT)(base:Nat):eS w base (Z5 U 0 0) []:=⟨UQ _ _ _ _,λp a=>Zu,ej⟩
def eS.below(h:eS w base v L)(d:ZR w.heap.size w w'):eS w' base v L:=⟨az h.own d,λp e=>by obtain⟨a,b,c⟩:=h.row p e;exact⟨a,b.below d,c⟩,h.nodup⟩
def eS.alloc(h:eS w base v L)(o:Obj):eS (w.alloc o) base v L:=h.below (bA _ _)
def eS.push{p:Nat×Nat×a7}(h:eS w base v L)(i:w.grownBy w' v.ownBlock)(j:w'.ownsRow base 36 1 v' (L.length+1) (L.map fV++[fV p]))(f:base<=p.1/\aM w p.1 p.2.2/\p.2.1<=p.2.2.length/\(p.2.1<=140737488355328/\p.2.2.length<=9223372036854775807)/\∀x∈p.2.2,x<256)(k:∀q∈L,q.1≠p.1):eS w' base v' (L++[p]):=by
 refine⟨ua j,λq d=>?_,?_⟩
 . rcases Ui.1 d with d|d;.obtain⟨a,b,c⟩:=h.row q d;exact⟨a,b.grown i (λe=>qV h.own b e.symm),c⟩
   .simp at d;subst d;exact⟨f.1,f.2.1.grown i (λe=>qV h.own f.2.1 e.symm),f.2.2⟩
 .rw[Uz,U3];refine⟨h.nodup,ej,?_⟩;intro a l b g;obtain⟨q,d,rfl⟩:=T9.1 l;simp at g;subst g;exact k q d
theorem kl(g i:Nat):(⟨g,0,U⟩:ZP).add i=⟨g,i,U⟩:=by
 unfold Addr.add;split;.rename_i h;simp_all
 .simp
def eS.shape(h:eS w base v L):(v=Z5 U 0 0/\L=[])\/∃g cap,v=Z5 (J ⟨g,0,U⟩) L.length cap/\base<=g/\L.length<=cap/\cap<=maxLen/\g<w.heap.size/\(∀i(c:i<L.length),w.cell? ⟨g,i,U⟩=J (fV L[i]))/\(∀i,w.frozen? ⟨g,i,U⟩=ZU)/\∀p∈L,p.1≠g:=by
 rcases h.own.2 with⟨k,l⟩|⟨g,cap,cur,a,d,b,f,j,o,q⟩;.exact .inl ⟨k,U2 l⟩
 . obtain⟨m,_⟩:=TX.1 b;refine .inr ⟨g,cap,a,d,f,j,m,λi c=>?_,λi=>?_,λp n e=>?_⟩;.have:=h.own.cells (g:=g) T2 i (fV L[i]) ZA;rw[kl]at this;exact this
   .simp[World.frozen?,b]
   .have:=qV h.own (h.row p n).2.1;rw[a]at this;exact this (by rw[e];rfl)
def Tryz.R5:(ZI.info? 5).map (λi=>(i.zero,i.size,i.bytes))=J (J (I .u8 0),1,1):=ee
def Tryz.RX:(ZI.info? 36).map (λi=>(i.zero,i.size,i.bytes))=J (J (Z5 U 0 0),1,24):=ee
def dq(w:ZT){ops:Array ZM}{rest:List ZM}{o:ZM}{a:ZL}{Q:ZN->ZL->ZT->Prop}(h:o.guard=U)(l c:ZJ)(e:o.op=Op.makeSlice 36 l c)(C:Int)(n:Nat)(hl:a.eval l=I O C)(g:a.eval c=I O C)(f:C=(n:Int))(i:n<=140737488355328)(hK:∀w',aM w' w.heap.size (YF n 0)->ZR w.heap.size w w'->w'.heap.size=w.heap.size+1->wpList ZI ops Q rest (a.put o.dst (Z5 (J ⟨w.heap.size,0,U⟩) n n)) w'):wpList ZI ops Q (o::rest) a w:=by refine VZ h λK d=>?_;have b:=XX (P:=ZI) 36 5 (I .u8 0) 1 Ur Tryz.R5 rfl .i64 .i64 n V V w;subst f;unfold Oper.wp;simp[execOp,e,hl,g,b,Result.andThen];exact d _ _ (hK _ (aM.made w n) (bA _ _) (Uh _ _))
section
structure aa(S:Nat->Prop)(w w':ZT):Prop where
 os:w'.os=w.os
 tape:w'.tape=w.tape
 output:w'.output=w.output
 size:w.heap.size<=w'.heap.size
 block:∀k,k<w.heap.size->¬S k->w'.heap[k]?=w.heap[k]?
def aa.refl(S:Nat->Prop)(w:ZT):aa S w w:=⟨rfl,rfl,rfl,TV _,λ_ _ _=>rfl⟩
def aa.mono{T:Nat->Prop}{w w':ZT}(h:aa S w w')(b:∀k,k<w.heap.size->S k->T k):aa T w w':=⟨h.os,h.tape,h.output,h.size,λk a c=>h.block k a (λs=>c (b k a s))⟩
def aa.trans{w w' w'':ZT}(h:aa S w w')(a:aa S w' w''):aa S w w'':=⟨a.os.trans h.os,a.tape.trans h.tape,a.output.trans h.output,TU h.size a.size,λk b c=>(a.block k (TY b h.size) c).trans (h.block k b c)⟩
def aa.later{T:Nat->Prop}{w w' w'':ZT}(h:aa S w w')(a:aa T w' w'')(d:∀k,k<w.heap.size->T k->S k):aa S w w'':=⟨a.os.trans h.os,a.tape.trans h.tape,a.output.trans h.output,TU h.size a.size,λk b c=>(a.block k (TY b h.size) (λt=>c (d k b t))).trans (h.block k b c)⟩
def aa.RM{w w':ZT}(h:ZR B w w')(S:Nat->Prop)(a:∀k,k<w.heap.size->¬S k->k<B):aa S w w':=⟨h.os,h.tape,h.output,h.size,λk b c=>h.block k (a k b c)⟩
def aa.RK{w w':ZT}(h:ZR w.heap.size w w')(S:Nat->Prop):aa S w w':=.RM h S λ_ a _=>a
def aa.below{w w':ZT}(h:aa S w w'){B:Nat}(a:∀k,k<B->k<w.heap.size/\¬S k):ZR B w w':=⟨h.os,h.tape,h.output,h.size,λk b=>h.block k (a k b).1 (a k b).2⟩
def aa.setCell(w:ZT)(a:ZP)(v:ZS)(h:S a.block):aa S w (w.setCell a v):=⟨rfl,rfl,rfl,oD,λk _ b=>Uc _ _ _ _ (λe=>b (e▸h))⟩
def aa.alloc(w:ZT)(o:Obj):aa S w (w.alloc o):=.RK (bA _ _) S
def aa.drew(w:ZT):aa S w w.drew:=⟨rfl,rfl,rfl,TV _,λ_ _ _=>rfl⟩
def aU(b:Nat):∀(a:List ZS)(o:Nat)(w:ZT)(k:Nat),k≠b->(w.setCells b o a).heap[k]?=w.heap[k]?|[],_,_,_,_=>rfl|v::r,o,w,k,h=>by show((w.setCell ⟨b,o,U⟩ v).setCells b (o+1) r).heap[k]?=_;rw[aU b r _ _ k h];exact Uc _ _ _ _ (by exact h)
def jM(b:Nat):∀(a:List ZS)(o:Nat)(w:ZT),(w.setCells b o a).heap.size=w.heap.size|[],_,_=>rfl|v::r,o,w=>by show((w.setCell ⟨b,o,U⟩ v).setCells b (o+1) r).heap.size=_;rw[jM b r];simp[World.setCell]
def jN(b:Nat):∀(a:List ZS)(o:Nat)(w:ZT),(w.setCells b o a).os=w.os/\(w.setCells b o a).tape=w.tape/\(w.setCells b o a).output=w.output|[],_,_=>⟨rfl,rfl,rfl⟩|v::r,o,w=>jN b r (o+1) (w.setCell ⟨b,o,U⟩ v)
def aa.setCells(w:ZT)(b o:Nat)(a:List ZS)(h:S b):aa S w (w.setCells b o a):=by obtain⟨c,d,f⟩:=jN b a o w;exact⟨c,d,f,by rw[jM];exact TV _,λk _ g=>aU b a o w k (λe=>g (e▸h))⟩
theorem fW{t n:Nat}:∀(a:List ZS)(o:Nat)(w:ZT)(f:Nat->ZS),w.rowIs b t n f->(w.setCells b o a).rowIs b t n (λk=>if o<=k/\k<o+a.length then a.getD (k-o) ZY else f k)
 |[],o,w,f,h=>h.congr λi g=>by show f i=if o<=i/\i<o+0 then _ else f i;rw[TS V]|v::r,o,w,f,h=>by
  have d:=fW r (o+1) _ _ (h.set o v);refine World.rowIs.congr d λk j=>?_;simp only[UC];by_cases e:k=o;.subst e;rw[TS V,TT rfl,TT V,Xb];rfl
  . by_cases c:o+1<=k/\k<o+1+r.length;.rw[TT c,TT V,(V:k-o=(k-(o+1))+1)];rfl
    .rw[TS c,TS e,TS V]
structure eR where
 n:Nat
 nb:Nat
 lost:Nat->Bool
 bad:Nat->Nat->Bool
 blk:Nat->Nat->a7
structure aC where
 g:Nat
 cap:Nat
 bb:Nat->Nat
 bd:Nat->Nat
 S:Nat->Prop
 pw:Bool
def Pa(f:Nat->a7)(k:Nat):ZS:=I .u8 (((f (k/64)).getD (k%64) 0:Nat):Int)
def RF(R:eR)(F:aC)(cs:Array ZS)(i:Nat):Prop:=cs[i*4]?=J (Z1 (R.lost i))/\cs[i*4+1]?=J (Z5 (J ⟨F.bb i,0,U⟩) R.nb R.nb)/\cs[i*4+2]?=J (Z5 (J ⟨F.bd i,0,U⟩) R.nb R.nb)/\∃r,cs[i*4+3]?=J (I O r)
def Top(X:ZT)(p n:Nat)(F:aC):Prop:=∃wt:Int,X.heap[p]?=J (Z4 #[Z5 (J ⟨F.g,0,U⟩) n F.cap,I O wt] 109 (0,0))/\(-1<=wt/\wt<=1000)/\wt≠0/\(F.pw=ZV->wt=-1)
def Top.keep{X Y:ZT}{p n:Nat}{F:aC}(h:Top X p n F)(e:Y.heap[p]?=X.heap[p]?):Top Y p n F:=h.imp λ_ q=>⟨e.trans q.1,q.2⟩
structure aj(X:ZT)(p:Nat)(R:eR)(F:aC):Prop where
 top:Top X p R.n F
 drv:∃cs,X.heap[F.g]?=J (Z4 cs 113 (0,0))/\∀i,i<R.n->RF R F cs i
 blk:∀i,i<R.n->X.rowIs (F.bb i) 119 (64*R.nb) (Pa (R.blk i))bad:∀i,i<R.n->X.rowIs (F.bd i) 4 R.nb (λj=>Z1 (R.bad i j))inj:∀i j,i<R.n->j<R.n->(F.bb i=F.bb j->i=j)/\(F.bd i=F.bd j->i=j)S:∀k,F.S k↔k=p\/k=F.g\/∃i,i<R.n/\(k=F.bb i\/k=F.bd i)n:R.n<=1000nb:R.nb<=1000000len:∀i j,(R.blk i j).length=64/\∀x∈R.blk i j,x<256
variable {X Y:ZT}{p:Nat}{R:eR}{F:aC}
def aj.sp(h:aj X p R F):F.S p:=(h.S p).2 (.inl rfl)
def aj.sg(h:aj X p R F):F.S F.g:=(h.S _).2 (.inr (.inl rfl))
def aj.sb(h:aj X p R F){i:Nat}(a:i<R.n):F.S (F.bb i):=(h.S _).2 (.inr (.inr ⟨i,a,.inl rfl⟩))
def aj.sd(h:aj X p R F){i:Nat}(a:i<R.n):F.S (F.bd i):=(h.S _).2 (.inr (.inr ⟨i,a,.inr rfl⟩))
def aj.RL(h:aj X p R F){k:Nat}(c:F.S k):k<X.heap.size:=by
 rcases(h.S k).1 c with rfl|rfl|⟨i,a,rfl|rfl⟩;.obtain⟨_,q,_⟩:=h.top;exact(TX.1 q).1
 .obtain⟨cs,b,_⟩:=h.drv;exact(TX.1 b).1
 .exact(h.blk i a).lt
 .exact(h.bad i a).lt
def aj.keep(h:aj X p R F)(b:∀k,F.S k->Y.heap[k]?=X.heap[k]?):aj Y p R F:=by obtain⟨cs,c,d⟩:=h.drv;exact⟨h.top.keep (b _ h.sp),⟨cs,(b _ h.sg).trans c,d⟩,λi a=>(h.blk i a).of_block (b _ (h.sb a)),λi a=>(h.bad i a).of_block (b _ (h.sd a)),h.inj,h.S,h.n,h.nb,h.len⟩
def aj.below(h:aj X p R F){B:Nat}(b:ZR B X Y)(a:X.heap.size<=B):aj Y p R F:=h.keep λk c=>b.block k (TY (h.RL c) a)
def aj.alloc(h:aj X p R F)(o:Obj):aj (X.alloc o) p R F:=h.below (bA _ _) lR
def aj.apart(h:aj X p R F):p≠F.g/\(∀i,i<R.n->F.bb i≠p/\F.bb i≠F.g/\F.bd i≠p/\F.bd i≠F.g)/\∀i j,i<R.n->j<R.n->F.bb i≠F.bd j:=by
 obtain⟨cs,l,_⟩:=h.drv;obtain⟨o,k,_⟩:=h.top;refine⟨λe=>?_,λi f=>?_,λi j f m e=>?_⟩;.rw[e,l]at k;simp at k
 . obtain⟨c,a,_⟩:=h.blk i f;obtain⟨d,b,_⟩:=h.bad i f;refine⟨λe=>?_,λe=>?_,λe=>?_,λe=>?_⟩;.rw[e,k]at a;simp at a
   .rw[e,l]at a;simp at a
   .rw[e,k]at b;simp at b
   .rw[e,l]at b;simp at b
 .obtain⟨c,a,_⟩:=h.blk i f;obtain⟨d,b,_⟩:=h.bad j m;rw[e,b]at a;simp at a
def aj.R4(h:aj X p R F)(i:Nat)(c:i<R.n):X.cell? ⟨F.g,i*4,U⟩=J (Z1 (R.lost i))/\X.cell? ⟨F.g,i*4+1,U⟩=J (Z5 (J ⟨F.bb i,0,U⟩) R.nb R.nb)/\X.cell? ⟨F.g,i*4+2,U⟩=J (Z5 (J ⟨F.bd i,0,U⟩) R.nb R.nb)/\∃r,X.cell? ⟨F.g,i*4+3,U⟩=J (I O r):=by obtain⟨cs,a,b⟩:=h.drv;obtain⟨d,e,f,r,j⟩:=b i c;simp only[World.cell?,a];exact⟨d,e,f,r,j⟩
def aj.R6(h:aj X p R F)(k:Nat):X.frozen? ⟨F.g,k,U⟩=ZU:=by obtain⟨cs,a,_⟩:=h.drv;simp[World.frozen?,a]
def aj.RN(h:aj X p R F):X.cell? ⟨p,0,U⟩=J (Z5 (J ⟨F.g,0,U⟩) R.n F.cap)/\∃a:Int,X.cell? ⟨p,1,U⟩=J (I O a)/\(-1<=a/\a<=1000)/\a≠0/\(F.pw=ZV->a=-1):=by obtain⟨a,b,c,d,e⟩:=h.top;exact⟨by simp[World.cell?,b],a,by simp[World.cell?,b],c,d,e⟩
def aj.wait(h:aj X p R F){x:Int}(f:-1<=x/\x<=1000)(g:x≠0){t:Bool}(k:t=ZV->x=-1):aj (X.setCell ⟨p,1,U⟩ (I O x)) p R {F with pw:=t}:=by obtain⟨d,c,o⟩:=h.apart;have b:∀j,j≠p->(X.setCell ⟨p,1,U⟩ (I O x)).heap[j]?=X.heap[j]?:=λj l=>Uc _ _ _ _ l;obtain⟨q,m,_⟩:=h.top;obtain⟨cs,c1,e⟩:=h.drv;exact⟨⟨x,by simp[World.setCell,Vb,m],f,g,k⟩,⟨cs,(b _ d.symm).trans c1,e⟩,λi a=>(h.blk i a).of_block (b _ (c i a).1),λi a=>(h.bad i a).of_block (b _ (c i a).2.2.1),h.inj,h.S,h.n,h.nb,h.len⟩
def Dead(X:ZT)(p:Nat)(R:eR)(F:aC):Prop:=X.cell? ⟨p,1,U⟩=J (I O 0)/\aj (X.setCell ⟨p,1,U⟩ (I O (-1))) p R {F with pw:=ZV}
def aL(l:a7):List ZS:=l.map λ(x:Nat)=>Value.int .u8 (x:Int)
def aj.range(h:aj X p R F){i j:Nat}(c:i<R.n)(f:j<R.nb):X.rangeAt (F.bb i) (j*64) (aL (R.blk i j)):=by intro k v a;unfold aL at a;rw[UJ,Wu]at a;obtain⟨x,b,rfl⟩:=a;obtain⟨d,e⟩:=Vd.1 b;rw[(h.len i j).1]at d;rw[(h.blk i c).cell (i:=j*64+k) V];unfold Pa;rw[(V:(j*64+k)/64=j),(V:(j*64+k)%64=k),Ub,b];rfl
def aj.there(h:aj X p R F){i j:Nat}(a:i<R.n)(b:j<R.nb):X.there (F.bb i) (j*64) 64:=λk c=>by rw[(h.blk i a).cell (i:=j*64+k) V];exact⟨rfl,(h.blk i a).frozen _⟩
def bP{k:Nat}(h:cs[j]?=J u)(v:ZS):(cs.setIfInBounds k v)[j]?=J (if j=k then v else u):=by
 rw[ac5];obtain⟨q,_⟩:=TX.1 h;by_cases e:k=j;.subst e;simp[q]
 .rw[TS e,TS (λq=>e q.symm),h]
def aj.TQ(h:aj X p R F)(k:Nat)(v:ZS)(l:Nat->Bool)(o:∀cs i,i<R.n->RF R F cs i->RF {R with lost:=l} F (cs.setIfInBounds k v) i):aj (X.setCell ⟨F.g,k,U⟩ v) p {R with lost:=l} F:=by obtain⟨d,c,q⟩:=h.apart;have b:∀j,j≠F.g->(X.setCell ⟨F.g,k,U⟩ v).heap[j]?=X.heap[j]?:=λj m=>Uc _ _ _ _ m;obtain⟨cs,e,f⟩:=h.drv;exact⟨h.top.keep (b _ d),⟨cs.setIfInBounds k v,by simp[World.setCell,Vb,e],λi a=>o cs i a (f i a)⟩,λi a=>(h.blk i a).of_block (b _ (c i a).2.1),λi a=>(h.bad i a).of_block (b _ (c i a).2.2.2),h.inj,h.S,h.n,h.nb,h.len⟩
def aj.count(h:aj X p R F)(d:Nat)(x:Int):aj (X.setCell ⟨F.g,d*4+3,U⟩ (I O x)) p R F:=h.TQ _ _ R.lost λcs i _ q=>by
  obtain⟨a,b,c,r,f⟩:=q;refine⟨(bP a _).trans (by rw[TS V]),(bP b _).trans (by rw[TS V]),(bP c _).trans (by rw[TS V]),if i=d then x else r,(bP f _).trans ?_⟩;by_cases e:i=d;.rw[TT V,TT e]
  .rw[TS V,TS e]
def aj.SJ(h:aj X p R F)(d:Nat)(t:Bool):aj (X.setCell ⟨F.g,d*4,U⟩ (Z1 t)) p {R with lost:=λk=>if k=d then t else R.lost k} F:=h.TQ _ _ _ λcs i _ q=>by
  obtain⟨a,b,c,r,f⟩:=q;refine⟨(bP a _).trans ?_,(bP b _).trans (by rw[TS V]),(bP c _).trans (by rw[TS V]),r,(bP f _).trans (by rw[TS V])⟩;show _=J (Value.bool (if i=d then t else R.lost i));by_cases e:i=d;.rw[TT V,TT e]
  .rw[TS V,TS e]
def eR.RT(R:eR)(d:Nat)(f:Nat->a7):eR:={R with blk:=λi=>if i=d then f else R.blk i}
def eR.RU(R:eR)(d:Nat)(f:Nat->Bool):eR:={R with bad:=λi=>if i=d then f else R.bad i}
theorem aj.RT(h:aj X p R F){d:Nat}(c:d<R.n){f:Nat->a7}(r:Y.rowIs (F.bb d) 119 (64*R.nb) (Pa f))(b:∀k,k≠F.bb d->Y.heap[k]?=X.heap[k]?)(hl:∀j,(f j).length=64/\∀x∈f j,x<256):aj Y p (R.RT d f) F:=by
 obtain⟨s,g,i⟩:=h.apart;obtain⟨cs,l,o⟩:=h.drv;refine⟨h.top.keep (b _ (g d c).1.symm),⟨cs,(b _ (g d c).2.1.symm).trans l,o⟩,λk a=>?_,λk a=>(h.bad k a).of_block (b _ (i d k c a).symm),h.inj,h.S,h.n,h.nb,λk m=>?_⟩
 . show Y.rowIs _ _ _ (Pa (if k=d then f else R.blk k));by_cases e:k=d;.rw[TT e,e];exact r
   .rw[TS e];exact(h.blk k a).of_block (b _ λq=>e ((h.inj k d a c).1 q))
 . show((if k=d then f else R.blk k) m).length=64/\∀x∈(if k=d then f else R.blk k) m,x<256;split;.exact hl m
   .exact h.len k m
def aj.RU(h:aj X p R F){d:Nat}(c:d<R.n){f:Nat->Bool}(o:Y.rowIs (F.bd d) 4 R.nb (λj=>Z1 (f j)))(b:∀k,k≠F.bd d->Y.heap[k]?=X.heap[k]?):aj Y p (R.RU d f) F:=by
 obtain⟨r,g,i⟩:=h.apart;obtain⟨cs,l,m⟩:=h.drv;refine⟨h.top.keep (b _ (g d c).2.2.1.symm),⟨cs,(b _ (g d c).2.2.2.symm).trans l,m⟩,λk a=>(h.blk k a).of_block (b _ (i k d a c)),λk a=>?_,h.inj,h.S,h.n,h.nb,h.len⟩;show Y.rowIs _ _ _ (λj=>Z1 ((if k=d then f else R.bad k) j));by_cases e:k=d;.rw[TT e,e];exact o
 .rw[TS e];exact(h.bad k a).of_block (b _ λq=>e ((h.inj k d a c).2 q))
theorem aj.setBlk(h:aj X p R F){d:Nat}(a:d<R.n)(b:Nat){l:a7}(hl:l.length=64)(g:∀x∈l,x<256):aj (X.setCells (F.bb d) (b*64) (aL l)) p (R.RT d λm=>if m=b then l else R.blk d m) F:=by
 refine h.RT a ((fW (aL l) (b*64) X _ (h.blk d a)).congr λm _=>?_) (λk f=>aU _ _ _ _ _ f) λj=>?_
 . have c:(aL l).length=64:=(by unfold aL;rw[Uf,hl]);rw[c];unfold Pa;show _=Value.int .u8 (((if m/64=b then l else R.blk d (m/64)).getD (m%64) 0:Nat):Int);by_cases e:m/64=b;.rw[TT V,TT e,(V:m-b*64=m%64)];unfold aL;rw[Ub,UJ,Ub,Ud (V:m%64<l.length)];rfl
   .rw[TS V,TS e]
 . split;.exact⟨hl,g⟩
   .exact h.len d j
theorem aj.Ta(h:aj X p R F){d:Nat}(a:d<R.n)(b:Nat)(t:Bool):aj (X.setCell ⟨F.bd d,b,U⟩ (Z1 t)) p (R.RU d λm=>if m=b then t else R.bad d m) F:=h.RU a (((h.bad d a).set b (Z1 t)).congr λm _=>by split<;>rfl) λk c=>Uc _ _ _ _ c
structure an where
 n:Nat
 nb:Nat
 tn:Nat->Nat->Bool
 lost:Nat->Bool
 bad:Nat->Nat->Bool
 bl:Nat->Nat->Bool
 rc:Nat->Nat->bF
 sv:Nat
def eR.rd(R:eR)(i b:Nat):Option bF:=if R.bad i b=ZV then U else K8 (R.blk i b)
def an.rd(A:an)(i b:Nat):Option bF:=if A.bad i b=ZV then U else J (if A.bl i b=ZV then .blank else A.rc i b)
structure gA(R:eR)(A:an):Prop where
 n:R.n=A.n
 nb:R.nb=A.nb
 lost:∀i,i<A.n->R.lost i=A.lost i
 rd:∀i b,i<A.n->A.lost i=ZU->R.rd i b=A.rd i b
 tn:∀i b,i<A.n->A.lost i=ZU->A.bad i b=ZV->A.tn i b=ZU->R.bad i b=ZV
def ay(X:ZT)(p:Nat)(A:an)(F:aC):Prop:=∃R,aj X p R F/\gA R A
variable {A:an}
def ay.RL(h:ay X p A F){k:Nat}(b:F.S k):k<X.heap.size:=by obtain⟨R,a,_⟩:=h;exact a.RL b
def ay.keep(h:ay X p A F)(c:∀k,F.S k->Y.heap[k]?=X.heap[k]?):ay Y p A F:=by obtain⟨R,a,b⟩:=h;exact⟨R,a.keep c,b⟩
def ay.below(h:ay X p A F){B:Nat}(b:ZR B X Y)(a:X.heap.size<=B):ay Y p A F:=h.keep λk c=>b.block k (TY (h.RL c) a)
def ay.outside(h:ay X p A F)(c:aa S X Y)(b:∀k,F.S k->¬S k):ay Y p A F:=h.keep λk a=>c.block k (h.RL a) (b k a)
def ay.Sy(h:ay X p A F):A.n<=1000/\A.nb<=1000000:=by obtain⟨R,a,b⟩:=h;rw[<-b.n,<-b.nb];exact⟨a.n,a.nb⟩
def gnB(A:an)(b i:Nat):Bool:=A.lost i||A.bad i b||A.bl i b
def an.putAt(A:an)(ds:a7)(b:Nat)(f:Nat->bF):an:={A with bad:=λi m=>if m=b/\i∈ds then ZU else A.bad i m,bl:=λi m=>if m=b/\i∈ds then ZU else A.bl i m,rc:=λi m=>if m=b/\i∈ds then f i else A.rc i m}
def yQ(A:an)(b:Nat)(f:Nat->bF):A.putAt [] b f=A:=by simp[an.putAt]
theorem uB(A:an)(ds:a7)(d b:Nat)(f:Nat->bF):(A.putAt ds b f).putAt [d] b (λ_=>f d)=A.putAt (ds++[d]) b f:=by
 unfold an.putAt;simp only[an.mk.injEq,true_and,and_true,Ui,Va];refine⟨funext λi=>funext λm=>?_,funext λi=>funext λm=>?_,funext λi=>funext λm=>?_⟩;.by_cases a:m=b<;>by_cases c:i=d<;>by_cases e:i∈ds<;>simp[a,c,e]
 .by_cases a:m=b<;>by_cases c:i=d<;>by_cases e:i∈ds<;>simp[a,c,e]
 .by_cases a:m=b<;>by_cases c:i=d<;>by_cases e:i∈ds<;>simp_all
def gA.put(h:gA R A)(d b:Nat){r:bF}(f:r.ok):gA ((R.RT d λm=>if m=b then r.blk else R.blk d m).RU d λm=>if m=b then ZU else R.bad d m) (A.putAt [d] b λ_=>r):=by
 refine⟨h.n,h.nb,h.lost,λi m c hl=>?_,λi m c hl=>?_⟩
 . have q:=h.rd i m c hl;unfold eR.rd an.rd at q;unfold eR.rd an.rd an.putAt eR.RU eR.RT;by_cases e:i=d
   . subst e;by_cases a:m=b;.subst a;simp[AM f]
     .simpa[a]using q
   .simpa[e]using q
 . have q:=h.tn i m c hl;unfold an.putAt eR.RU eR.RT;by_cases e:i=d
   . subst e;by_cases a:m=b;.subst a;simp
     .simpa[a]using q
   .simpa[e]using q
def gA.lostPut(h:gA R A){d:Nat}(hl:A.lost d=ZV)(b:Nat)(r:bF):gA R (A.putAt [d] b λ_=>r):=by
 have f:∀i,A.lost i=ZU->i≠d:=λi h e=>by rw[e,hl]at h;cases h
 refine⟨h.n,h.nb,h.lost,λi m c a=>?_,λi m c a=>?_⟩;.rw[h.rd i m c a];unfold an.rd an.putAt;simp[f i a]
 .have q:=h.tn i m c a;unfold an.putAt;simpa[f i a]using q
variable {w w' w'':ZT}{n:Nat}{k k':Nat->Nat}
end
def aK(l:a7):Array ZS:=(aL l).toArray
def iR(l:a7):(aK l).size=l.length:=by unfold aK aL;simp
def yR(l:a7):(aK l).toList=aL l:=by unfold aK;rfl
def aY(l:a7):(aL l).length=l.length:=by unfold aL;simp
def Cv(l:a7):(aK l).all (λv=>v.oneCell')=ZV:=all_oneCell_toArray λv a=>by unfold aL at a;rw[T9]at a;obtain⟨x,_,rfl⟩:=a;rfl
def Tryz.Tg:(ZI.info? 119).map (λi=>i.size)=J 64:=ee
def iS(h:l.length=64):(ZI.info? 119).map (λi=>i.size)=J (aK l).size:=by rw[iR,h];exact Tryz.Tg
def zb:a7:=YF 64 0
def dW:zb.length=64:=by simp[zb]
def Tryz.zeroBlk:(ZI.info? 119).map (λi=>(i.zero,i.size,i.bytes))=J (J (.agg (aK zb)),64,64):=ee
def zeroBlk(w:ZT):(zeroValue 119).run ZI w=.ok (.agg (aK zb)) w:=by obtain⟨c,a,b,_,_⟩:=Uw Tryz.zeroBlk;simp[zeroValue,typeInfo,UH,a,b]
def cO(w:ZT)(b:Nat)(l:a7):Prop:=w.heap[b]?=J (Z4 (aK l) 119 (0,0))
def cO.lt(h:cO w b l):b<w.heap.size:=(TX.1 h).1
def cO.new(w:ZT)(l:a7):cO (w.alloc (Z4 (aK l) 119)) w.heap.size l:=Ug _ _
def cO.keep(h:cO w b l)(e:w'.heap[b]?=w.heap[b]?):cO w' b l:=e.trans h
def cO.setRow(l:a7)(h:cO w b l'):cO (w.setRow b (aK l)) b l:=Vw w b (aK l') (aK l) _ _ h
def aZ(w:ZT)(b:Nat)(cs:Array ZS):w.grownBy (w.setRow b cs) (J b):=⟨rfl,rfl,rfl,ej,λk _ a=>by have:b≠k:=λe=>a V2;simp[World.setRow,Vb,this]⟩
def aa.setRow(w:ZT)(b:Nat)(cs:Array ZS)(h:S b):aa S w (w.setRow b cs):=have g:=aZ w b cs;⟨g.os,g.tape,g.output,g.size,λk a c=>g.block k a (λe=>c (by cases e;exact h))⟩
def jy(w:ZT)(b:Nat)(cs:Array ZS):(w.setRow b cs).heap.size=w.heap.size:=Ze
def oy(h:cO w b l)(hl:l.length=64):(Instr.loadAt 119 (Z6 (J ⟨b,0,U⟩))).run ZI w=.ok (.agg (aK l)) w:=by simp only[Instr.loadAt,Instr.sureAddr,UH,VN,UV,Xk w b 119 119 (aK l) (0,0) _ h Xw rfl (iS hl)]
def mu(h:cO w b l)(hl:l.length=64):(loadVar 119 ⟨b,0,U⟩).run ZI w=.ok (.agg (aK l)) w:=Xk w b 119 119 (aK l) (0,0) _ h Xw rfl (iS hl)
def Cw(l:a7)(h:cO w b l')(a:l'.length=64)(hl:l.length=64):(Instr.storeAt 119 (Z6 (J ⟨b,0,U⟩)) (.agg (aK l))).run ZI w=.ok () (w.setRow b (aK l)):=by simp only[Instr.storeAt,Instr.sureAddr,UH,VN,UV,XY w b 119 119 (aK l') (aK l) h (iS hl) (by rw[iR,iR,hl,a]) (Cv l)]
def tH{a:ZL}{Q:ZN->ZL->ZT->Prop}(d:o.guard=U)(x:ZJ)(ho:o.op=.load 119 x)(b:Nat)(l:a7)(e:a.eval x=Z6 (J ⟨b,0,U⟩))(c:cO w b l)(hl:l.length=64)(h:wpList ZI ops Q rest (a.put o.dst (.agg (aK l))) w):wpList ZI ops Q (o::rest) a w:=by refine VZ d λK hK=>?_;unfold Oper.wp;simp[execOp,ho,e,oy c hl,Result.andThen];exact hK _ _ h
def jb{a:ZL}{Q:ZN->ZL->ZT->Prop}(e:o.guard=U)(x y:ZJ)(ho:o.op=.store 119 x y)(b:Nat)(l l':a7)(f:a.eval x=Z6 (J ⟨b,0,U⟩))(g:a.eval y=.agg (aK l))(d:cO w b l')(c:l'.length=64)(hl:l.length=64)(h:wpList ZI ops Q rest (a.put o.dst ZY) (w.setRow b (aK l))):wpList ZI ops Q (o::rest) a w:=by refine VZ e λK hK=>?_;unfold Oper.wp;simp[execOp,ho,f,g,Cw l d c hl,Result.andThen];exact hK _ _ h
def Fl{a:ZL}{Q:ZN->ZL->ZT->Prop}(d:o.guard=U)(x:ZJ)(ho:o.op=.load 119 x)(b k:Nat)(l:a7)(e:a.eval x=Z6 (J ⟨b,k,U⟩))(c:w.rangeAt b k (aL l))(hl:l.length=64)(h:wpList ZI ops Q rest (a.put o.dst (.agg (aK l))) w):wpList ZI ops Q (o::rest) a w:=ac6 d 119 x ho b k e (aL l) _ c Xw rfl (by rw[aY,hl];exact Tryz.Tg) h
def fX{p q:Tmp}{ty:ZK}(h:fn.results=#[.cell p ty,.tmp q])(tmps:Array ZS)(w:ZT)(a:ZP)(v u:ZS)(d:tmps.getD p ZY=Z6 (J a))(e:tmps.getD q ZY=u)(hl:(loadVar ty a).run P w=.ok v w):(results fn tmps).run P w=.ok (ZZ #[v,u]) w:=by have b:tmps[p]?.getD ZY=Z6 (J a):=ua d;have c:tmps[q]?.getD ZY=u:=ua e;simp[results,h,b,c,asAddr,hl]
theorem ak{p:Prop}(h:p):cL p:=h
theorem al{p0 p1:Prop}(a:p0)(b:p1):cL (p0/\p1):=ak ⟨a,b⟩
theorem au{p0 p1 p2:Prop}(a:p0)(b:p1)(c:p2):cL (p0/\p1/\p2):=ak ⟨a,b,c⟩
theorem aE{p0 p1 p2 p3:Prop}(a:p0)(b:p1)(c:p2)(d:p3):cL (p0/\p1/\p2/\p3):=ak ⟨a,b,c,d⟩
theorem a5{p0 p1 p2 p3 p4:Prop}(a:p0)(b:p1)(c:p2)(d:p3)(e:p4):cL (p0/\p1/\p2/\p3/\p4):=ak ⟨a,b,c,d,e⟩
theorem a6{p0 p1 p2 p3 p4 p5:Prop}(a:p0)(b:p1)(c:p2)(d:p3)(e:p4)(f:p5):cL (p0/\p1/\p2/\p3/\p4/\p5):=ak ⟨a,b,c,d,e,f⟩
theorem hide7{p0 p1 p2 p3 p4 p5 p6:Prop}(a:p0)(b:p1)(c:p2)(d:p3)(e:p4)(f:p5)(g:p6):cL (p0/\p1/\p2/\p3/\p4/\p5/\p6):=ak ⟨a,b,c,d,e,f,g⟩
theorem hide8{p0 p1 p2 p3 p4 p5 p6 p7:Prop}(a:p0)(b:p1)(c:p2)(d:p3)(e:p4)(f:p5)(g:p6)(h:p7):cL (p0/\p1/\p2/\p3/\p4/\p5/\p6/\p7):=ak ⟨a,b,c,d,e,f,g,h⟩
theorem hide9{p0 p1 p2 p3 p4 p5 p6 p7 p8:Prop}(a:p0)(b:p1)(c:p2)(d:p3)(e:p4)(f:p5)(g:p6)(h:p7)(i:p8):cL (p0/\p1/\p2/\p3/\p4/\p5/\p6/\p7/\p8):=ak ⟨a,b,c,d,e,f,g,h,i⟩
theorem hide10{p0 p1 p2 p3 p4 p5 p6 p7 p8 p9:Prop}(a:p0)(b:p1)(c:p2)(d:p3)(e:p4)(f:p5)(g:p6)(h:p7)(i:p8)(j:p9):cL (p0/\p1/\p2/\p3/\p4/\p5/\p6/\p7/\p8/\p9):=ak ⟨a,b,c,d,e,f,g,h,i,j⟩
theorem hide11{p0 p1 p2 p3 p4 p5 p6 p7 p8 p9 p10:Prop}(b:p0)(c:p1)(d:p2)(e:p3)(f:p4)(g:p5)(h:p6)(i:p7)(j:p8)(k:p9)(a:p10):cL (p0/\p1/\p2/\p3/\p4/\p5/\p6/\p7/\p8/\p9/\p10):=ak ⟨b,c,d,e,f,g,h,i,j,k,a⟩
theorem hide12{p0 p1 p2 p3 p4 p5 p6 p7 p8 p9 p10 p11:Prop}(c:p0)(d:p1)(e:p2)(f:p3)(g:p4)(h:p5)(i:p6)(j:p7)(k:p8)(l:p9)(a:p10)(b:p11):cL (p0/\p1/\p2/\p3/\p4/\p5/\p6/\p7/\p8/\p9/\p10/\p11):=ak ⟨c,d,e,f,g,h,i,j,k,l,a,b⟩
theorem hide13{p0 p1 p2 p3 p4 p5 p6 p7 p8 p9 p10 p11 p12:Prop}(d:p0)(e:p1)(f:p2)(g:p3)(h:p4)(i:p5)(j:p6)(k:p7)(l:p8)(m:p9)(a:p10)(b:p11)(c:p12):cL (p0/\p1/\p2/\p3/\p4/\p5/\p6/\p7/\p8/\p9/\p10/\p11/\p12):=ak ⟨d,e,f,g,h,i,j,k,l,m,a,b,c⟩
theorem hide15{p0 p1 p2 p3 p4 p5 p6 p7 p8 p9 p10 p11 p12 p13 p14:Prop}(f:p0)(g:p1)(h:p2)(i:p3)(j:p4)(k:p5)(l:p6)(m:p7)(n:p8)(o:p9)(a:p10)(b:p11)(c:p12)(d:p13)(e:p14):cL (p0/\p1/\p2/\p3/\p4/\p5/\p6/\p7/\p8/\p9/\p10/\p11/\p12/\p13/\p14):=ak ⟨f,g,h,i,j,k,l,m,n,o,a,b,c,d,e⟩
def ll{k:IntKind}{a b:Int}(h:a=b):Ending.returned (.int k a)=Z3 (.int k b):=by rw[h]
def Lw(a b:Nat)(c:a<256)(d:b<256):bits .and .u8 (a:Int) (b:Int)=((a&&&b:Nat):Int):=(bits_nat .u8 8 ec wraps_u8 a b c d).1
def mv(a b:Nat)(c:a<256)(d:b<256):bits .xor .u8 (a:Int) (b:Int)=((a^^^b:Nat):Int):=by have e:a%2^IntKind.u8.bits=a:=VW c;have f:b%2^IntKind.u8.bits=b:=VW d;simp only[bits,YK,YL,YM,e,f];have:=ld c d;exact wraps_u8 _ (YY _) V
def yS(n:Int)(a:0<=n)(b:n<2^62):IntKind.i64.wrap n=n:=l7
def Hh(a b:Nat)(c:a<2^62)(d:b<2^62):bits .and .i64 (a:Int) (b:Int)=((a&&&b:Nat):Int):=(bits_nat .i64 62 ec yS a b c d).1
def AN(a b:Nat)(c:a<2^62)(d:b<2^62):bits .xor .i64 (a:Int) (b:Int)=((a^^^b:Nat):Int):=by have e:(2:Nat)^62<2^IntKind.i64.bits:=ec;have f:a%2^IntKind.i64.bits=a:=VW (WU c e);have g:b%2^IntKind.i64.bits=b:=VW (WU d e);simp only[bits,YK,YL,YM,f,g];have:=V7 (n:=62) c d;exact yS _ (YY _) (by exact_mod_cast this)
def RG:∀a,a<256->((a&&&128=0)↔a<128):=Ax
def Pb(a:Nat)(h:a<256):(bits .and .u8 (a:Int) 128 !=0)=decide (128<=a):=by have e:=Lw a 128 h ec;rw[show((128:Nat):Int)=128 from rfl]at e;rw[e];have:=RG a h;rw[Yw];simp;omega
def RH(a:Nat):a&&&1=a%2:=Nat.and_one_is_mod a
def abJ(a:Nat)(h:a<256):(bits .and .u8 (a:Int) 1 !=0)=decide (a%2=1):=by have e:=Lw a 1 h ec;rw[show((1:Nat):Int)=1 from rfl]at e;rw[e,RH];rw[Yw];simp;omega
def abK{a:Nat}(h:a<256)(b:128<=a):bits .xor .u8 ((a:Int)*2%256) 29=(tx a:Int):=by have e:((a:Int)*2%256)=((2*a-256:Nat):Int):=V;rw[e,show(29:Int)=((29:Nat):Int)from rfl,mv _ _ V ec];unfold tx;rw[TS V]
def abL{a:Nat}(b:a<128):(a:Int)*2=(tx a:Int):=by unfold tx;rw[TT b];omega
theorem oz(a:Nat)(h:a<256)(w:ZT):ZQ ZI 213 #[I .u8 a] w λe w'=>e=Z3 (I .u8 (tx a))/\w'=w:=by
 have c:=Pb a h;by_cases b:128<=a;.rw[U4 b]at c;go_enter func213,ntmps213;go_wp2;go_ret;exact⟨ll (abK h b),rfl⟩
 .rw[Vk b]at c;go_enter func213,ntmps213;go_wp2;go_ret;exact⟨ll (abL V),rfl⟩
def Ly(n:Nat):∀a p,AA n a 0 p=p:=by induction n with|zero=>intro a p;rfl|succ n ih=>intro a p;simp only[AA];exact ih _ _
theorem m9(a b:Nat)(o:a<256)(j:b<256)(w:ZT):ZQ ZI 200 #[I .u8 a,I .u8 b] w λe w'=>e=Z3 (I .u8 (gm a b))/\w'=w:=by
 go_enter func200,ntmps200;go_wp2;go_loop[0,1,5](λs t u=>∃n x y z:Nat,x<256/\y<256/\z<256/\y<2^n/\cL (AA n x y z=gm a b)/\s=I .u8 x/\t=I .u8 y/\u=I .u8 z)(λ_ t _=>(intOf t).toNat);case atStart=>exact⟨8,a,b,0,o,j,ec,j,rfl,rfl,rfl,rfl⟩
 case round=>
  obtain⟨n,x,y,z,c,p,h,k,g,rfl,rfl,rfl⟩:=hrel;by_cases m:y=0;.subst m;go_wp2;go_ret;exact⟨ll (by rw[<-g.out,Ly]),rfl⟩
  .have r:((y:Int)!=0)=ZV:=Zs;have l:=abJ y p;cases n with|zero=>exact absurd k ek|succ n=>
    have i:y/2<2^n:=(by rw[XV]at k;omega);by_cases d:y%2=1
    . rw[U4 d]at l;have f:cL (AA n (tx x) (y/2) (z^^^x)=gm a b):=(by have:=g.out;simp only[AA]at this;rw[TT d]at this;exact this);have q:=mv z x h c;go_wp2_with(go_at_call 213;refine(oz _ c _).mono ?_;rintro e w'⟨rfl,rfl⟩);go_round;case rel=>exact⟨n,tx x,y/2,z^^^x,Ci c,V,ld h c,i,f,rfl,eT,rfl⟩
      case measure=>simp[intOf];omega
    . rw[Vk d]at l;have f:cL (AA n (tx x) (y/2) z=gm a b):=(by have:=g.out;simp only[AA]at this;rw[TS d]at this;exact this);go_wp2_with(go_at_call 213;refine(oz _ c _).mono ?_;rintro e w'⟨rfl,rfl⟩);go_round;case rel=>exact⟨n,tx x,y/2,z,Ci c,V,h,i,f,rfl,eT,rfl⟩
      case measure=>simp[intOf];omega
def Lz(n p v:Nat):QU (n+1) p v=QU n (gm p p) (gm v (gm p p)):=rfl
theorem tI(a:Nat)(h:a<256)(w:ZT):ZQ ZI 199 #[I .u8 a] w λe w'=>e=Z3 (I .u8 (gi a))/\w'=w:=by
 go_enter func199,ntmps199;go_wp2;go_loop[3,4,6](λs t u=>∃k p v:Nat,k<=7/\p<256/\v<256/\cL (QU (7-k) p v=gi a)/\s=I .u8 v/\t=I .u8 p/\u=I O k)(λ_ _ u=>7-(intOf u).toNat);case atStart=>exact⟨0,a,1,ec,h,ec,rfl,rfl,rfl,rfl⟩
 case round=>
  obtain⟨k,p,v,j,b,d,c,rfl,rfl,rfl⟩:=hrel;by_cases i:k<7
  . have f:cL (QU (7-(k+1)) (gm p p) (gm v (gm p p))=gi a):=by have:=c.out;rw[(V:7-k=(7-(k+1))+1),Lz]at this;exact this
    go_wp2_with fail;refine(m9 p p b b _).mono ?_;rintro e w'⟨rfl,rfl⟩;go_wp2_with fail;refine(m9 v (gm p p) d (aV _ b) _).mono ?_;rintro e w'⟨rfl,rfl⟩;go_wp2_with fail;go_round;case rel=>exact⟨k+1,gm p p,gm v (gm p p),V,aV _ b,aV _ d,f,rfl,rfl,eT⟩
    case measure=>simp[intOf];omega
  .have g:k=7:=V;subst g;go_wp2;go_ret;exact⟨ll (by rw[<-c.out];rfl),rfl⟩
def Bs(w:ZT)(v:ZS)(l:a7):Prop:=∃ao c,v=.slice ao l.length c/\l.length<=c/\l.length<=140737488355328/\(∀x∈l,x<256)/\(l≠[]->∃b off,ao=J ⟨b,off,U⟩/\∀k,k<l.length->w.cell? ⟨b,off+k,U⟩=J (I .u8 ((l.getD k 0:Nat):Int)))
def Bs.mono(h:Bs w v l)(j:ZR w.heap.size w w'):Bs w' v l:=by obtain⟨ao,c,a,d,f,g,i⟩:=h;refine⟨ao,c,a,d,f,g,λhl=>?_⟩;obtain⟨b,off,e,m⟩:=i hl;refine⟨b,off,e,λk n=>?_⟩;have:=m k n;rw[j.cell (Ue this)];exact this
def Bs.Sq(h:aM w b l)(e:n<=l.length)(d:n<=140737488355328)(c:∀x∈l,x<256):Bs w (Z5 (J ⟨b,0,U⟩) n l.length) (l.take n):=by have hl:(l.take n).length=n:=K0;refine⟨J ⟨b,0,U⟩,l.length,by rw[hl],V,V,λx h=>c x (US h),λ_=>⟨b,0,rfl,λk a=>?_⟩⟩;rw[hl]at a;have:=h.cell k V;rw[Uj,this];simp[a]
def abM(w:ZT)(n:Nat)(i:ZS)(wr:ZT):Prop:=∃k m:Nat,k<=n/\i=I O k/\wr=w.drewN m
theorem Hi(d vb:ZS)(l:a7)(w:ZT)(p:Bs w d l)(q:Bs w vb l):ZQ ZI 24 #[d,vb] w λe w'=>e=Z3 (Z1 ZV)/\∃m,w'=w.drewN m:=by
 obtain⟨ao,t,rfl,v,z,C,n⟩:=p;obtain⟨s,cb,rfl,y,A,_,o⟩:=q;have u:l.length<=140737488355328:=V;by_cases hl:l=[];.subst hl;go_enter func24,ntmps24;go_wp2;refine VD 1 ?_;rw[Vx];go_wp2;go_ret;exact⟨rfl,0,rfl⟩
 . obtain⟨b,off,rfl,g⟩:=n hl;obtain⟨r,c,rfl,h⟩:=o hl;go_enter func24,ntmps24;go_wp2;go_loopw[5](λi wr=>abM w l.length i wr)(λi _=>l.length-(intOf i).toNat);case atStart=>exact⟨0,0,T8 _,rfl,rfl⟩
   case round=>
    obtain⟨k,m,B,rfl,rfl⟩:=hrel;by_cases a:k<l.length
    . have c1:=g k a;have f:=h k a;have j:(((l.getD k 0:Nat):Int)!=((l.getD k 0:Nat):Int))=ZU:=ej;generalize l.getD k 0=x at c1 f j;go_wp2;go_quiet(fail);go_wp2;go_roundw;case rel=>exact⟨k+1,_,V,eT,rfl⟩
      case measure=>simp[intOf];omega
    .go_wp2;go_ret;exact⟨rfl,_,rfl⟩
def bT(a b:a7):aL (a++b)=aL a++aL b:=by simp[aL]
def Hk(n:Nat):∀(s k:Nat),k<s->(be n s).take (s-k)=(be n s).take (s-(k+1))++[n/256^k%256]
 |0,k,h=>absurd h V|s+1,k,h=>by
  by_cases e:k=s;.subst e;rw[(V:k+1-k=1),Xb];simp[be]
  .have ih:=Hk n s k V;rw[(V:s+1-k=(s-k)+1),(V:s+1-(k+1)=(s-(k+1))+1)];simp only[be,List.take_succ_cons,U1,ih]
def Pc(n k:Nat):((n:Int)/2^(8*k)%256)=((n/256^k%256:Nat):Int):=by
 have e:(2:Nat)^(8*k)=256^k:=by rw[Nat.pow_mul]
 have a:((2:Int)^(8*k))=((256^k:Nat):Int):=by rw[<-e];norm_cast
 rw[a];omega
def oZ(w:ZT)(x:ZS)(t:ZK):∀j u,[x][j]?=J u->(w.alloc (Z4 #[x] t)).cell? ((⟨w.heap.size,0,U⟩:ZP).add j)=J u:=by intro j u h;rw[kl];match j,h with|0,h=>simp at h;subst h;simp only[World.cell?,Ug w (Z4 #[x] t)];rfl|j+1,h=>simp at h
def acm(w:ZT)(base:Nat)(n s k0:Nat)(xs:List ZS)(v0:ZS)(b i:ZS)(wr:ZT):Prop:=∃(k:Nat)(v:ZS),k<=s/\i=I O ((k:Int)-1)/\b=v/\wr.ownsRow base 5 1 v (k0+(s-k)) (xs++aL ((be n s).take (s-k)))/\aa (λj=>v0.ownBlock=J j) w wr/\(∀j,v.ownBlock=J j->v0.ownBlock=J j\/w.heap.size<=j)
theorem gD(base:Nat)(d:ZS)(c:Nat)(xs:List ZS)(n s:Nat)(w:ZT)(z:w.ownsRow base 5 1 d c xs)(x:base<=w.heap.size)(q:s<=8)(Z:c<=1000000000):ZQ ZI 165 #[d,I Z8 n,I O s] w λe w'=>∃v',e=Z3 v'/\w'.ownsRow base 5 1 v' (c+s) (xs++aL (be n s))/\aa (λj=>d.ownBlock=J j) w w'/\(∀j,v'.ownBlock=J j->d.ownBlock=J j\/w.heap.size<=j):=by
 obtain⟨G,B,D,E,F⟩:=Uw Tryz.R5;go_enter func165,ntmps165;go_wp2;go_loopw[0,7](λb i wr=>acm w base n s c xs d b i wr)(λ_ i _=>(intOf i+1).toNat);case atStart=>exact⟨s,d,TV _,eT,rfl,by rw[Xb];simpa[aL]using z,aa.refl _ _,λj h=>.inl h⟩
 case round=>obtain⟨k,v,K,rfl,rfl,l,a,f⟩:=hrel;cases k with|zero=>have p:((0:Nat):Int)-1=-1:=V;rw[p];have t:=au l a f;clear l a f;go_wp2;go_ret;obtain⟨l,a,f⟩:=t.o;refine⟨_,rfl,?_,a,f⟩;rwa[Yx,UM D0]at l|succ k=>
   have p:((k+1:Nat):Int)-1=(k:Int):=V;rw[p];have N:=TU x a.size;go_wp2_with(at_builtin;refine Yy _ rfl (Z0 14) (Z0 20) 36 rfl base 5 G (I .u8 0) 1 1 Ur B D E F rfl ec u0 (c+(s-(k+1))) _ rfl (l.alloc _) ⟨wr.heap.size,0,U⟩ 1 1 _ rfl rfl (oZ wr _ _) (by intro u r;simp at r;subst r;rfl) eD V ek ?_;intro v' w' ho m H A);have C:(wr.alloc (Z4 #[I .u8 ((n:Int)/2^(8*k)%256)] 5)).heap.size=wr.heap.size+1:=ej;have L:=a.size;have y:∀j,v'.ownBlock=J j->d.ownBlock=J j\/w.heap.size<=j:=λj g=>by
    rcases A with e|e;.exact f j (e▸g)
    .rw[e]at g;cases g;rw[C];exact .inr V
   refine⟨⟨k,v',V,eT,rfl,?_,?_,y⟩,by simp[intOf]⟩;.rw[Pc]at ho;rw[Hk n s k V,bT,<-UA,(V:c+(s-k)=c+(s-(k+1))+1)];exact ho
   .exact(a.later (aa.alloc (S:=λ_=>False) _ _) (λ_ _ h=>h.elim)).later (T:=λj=>u0.ownBlock=J j) ⟨m.os,m.tape,m.output,m.size,λj g q=>m.block j g (λe=>q e.symm)⟩ (λj g h=>by
      rcases f j h with e|e;.exact e
      .omega)
theorem aaa(n x:Nat)(c:x<256):bits .or .u64 (IntKind.u64.wrap ((n:Int)*256)) (x:Int)=(((n*256+x)%18446744073709551616:Nat):Int):=by have a:IntKind.u64.wrap ((n:Int)*256)=((n*256%18446744073709551616:Nat):Int):=K1;rw[a,Yz _ _ (VT _ ec) V];congr 1;have b:n*256%18446744073709551616=2^8*(n%72057594037927936):=V;rw[b,<-Nat.two_pow_add_eq_or_of_lt (i:=8) V];omega
def Hl(a b:Nat)(c:a<4294967296)(d:b<4294967296):bits .xor .u32 (a:Int) (b:Int)=((a^^^b:Nat):Int):=by have e:a%2^IntKind.u32.bits=a:=VW c;have f:b%2^IntKind.u32.bits=b:=VW d;have:a^^^b<2^32:=V7 c d;simp only[bits,YK,YL,YM,e,f];rw[IntKind.wrap_u32];omega
theorem aab(r:Nat)(a:r<4294967296):bits .xor .u32 IntKind.u32.max (r:Int)=((4294967295-r:Nat):Int):=by
 have e:IntKind.u32.max=((4294967295:Nat):Int):=rfl;rw[e,Hl _ _ ec a];congr 1;refine XQ λi=>?_;have c:=Xx (n:=32) (x:=r) a i;have d:=Xy 32 i;rw[ac2,(V:(4294967295:Nat)-r=2^32-(r+1)),c,show(4294967295:Nat)=2^32-1 from rfl,d];by_cases b:i<32;.simp[b]
 .have:r.testBit i=ZU:=Ww (TY a (by have:=UY (n:=2) ec (V:32<=i);omega));simp[b,this]
def QX(a b:Nat)(c:a<4294967296)(d:b<4294967296):bits .and .u32 (a:Int) (b:Int)=((a&&&b:Nat):Int):=(bits_nat .u32 32 ec (λn e f=>by rw[IntKind.wrap_u32];omega) a b c d).1
def abN(a:Nat):a&&&15=a%16:=ac7 a 4
def I7(l:a7)(k:Nat)(h:k<l.length):dD (l.take (k+1))=dR (dD (l.take k)) (l.getD k 0):=by rw[Vl,Ud h];unfold dD;rw[Ws,Ub,Ud h];rfl
def LA(l:a7)(k:Nat)(h:k<l.length):gx (l.take (k+1))=(gx (l.take k)*256+l.getD k 0)%18446744073709551616:=by rw[Vl,Ud h,Ub,Ud h];exact uA _ _
def abO(w:ZT)(l:a7)(n i _x:ZS)(wr:ZT):Prop:=∃k:Nat,k<=l.length/\n=I Z8 (gx (l.take k):Nat)/\i=I O k/\wr=w
theorem AO(v:ZS)(l:a7)(w:ZT)(h:Bs w v l):ZQ ZI 196 #[v] w λe w'=>e=Z3 (I Z8 (gx l:Nat))/\w'=w:=by
 obtain⟨ao,c,rfl,r,t,q,d⟩:=h;go_enter func196,ntmps196;go_wp2;go_loopw[3,8,5](λn i x wr=>abO w l n i x wr)(λ_ i _ _=>l.length-(intOf i).toNat);case atStart=>exact⟨0,T8 _,rfl,rfl,rfl⟩
 case round=>
  obtain⟨k,s,rfl,rfl,rfl⟩:=hrel;by_cases a:k<l.length;.obtain⟨b,off,rfl,f⟩:=d Zr;have c1:=f k a;have ho:abO wr l (I Z8 (((gx (l.take k)*256+l.getD k 0)%18446744073709551616:Nat):Int)) (I O ((k:Int)+1)) (I .u8 (l.getD k 0:Nat)) wr:=⟨k+1,V,by rw[LA l k a],rfl,rfl⟩;have p:l.getD k 0<256:=dM q k;have g:=aaa (gx (l.take k)) (l.getD k 0) p;rw[<-g]at ho;have j:=ak ho;clear ho g d f;generalize l.getD k 0=x at*;generalize gx (l.take k)=n at*;go_wp2;exact⟨j.o,iE⟩
  .have m:k=l.length:=V;subst m;rw[VE];clear d;go_wp2;go_ret;exact⟨rfl,rfl⟩
def cJ(w:ZT):Prop:=∀j,j<16->w.cell? ⟨2,j,U⟩=J (I .u32 ((de.getD j 0:Nat):Int))
def SmR(w:ZT)(l:a7)(n i _x:ZS)(wr:ZT):Prop:=∃k:Nat,k<=l.length/\n=I .u32 (dD (l.take k):Nat)/\i=I O k/\wr=w
theorem Pd(v:ZS)(l:a7)(w:ZT)(h:Bs w v l)(z:cJ w):ZQ ZI 189 #[v] w λe w'=>e=Z3 (I .u32 (oX l:Nat))/\w'=w:=by
 obtain⟨ao,c,rfl,O',Q,q,p⟩:=h;go_enter func189,ntmps189;go_wp2;go_loopw[3,8,5](λn i x wr=>SmR w l n i x wr)(λ_ i _ _=>l.length-(intOf i).toNat);case atStart=>exact⟨0,T8 _,rfl,rfl,rfl⟩
 case round=>
  obtain⟨k,P,rfl,rfl,rfl⟩:=hrel;by_cases g:k<l.length;.obtain⟨b,off,rfl,s⟩:=p (by intro e;rw[e]at g;simp at g);have c1:=s k g;have ho:SmR wr l (I .u32 ((dR (dD (l.take k)) (l.getD k 0):Nat):Int)) (I O ((k:Int)+1)) (I .u8 (l.getD k 0:Nat)) wr:=⟨k+1,V,by rw[I7 l k g],rfl,rfl⟩;have N:l.getD k 0<256:=dM q k;have j:dD (l.take k)<4294967296:=ox (λx h=>q x (US h));unfold dR at ho;clear p s;generalize l.getD k 0=x at*;generalize dD (l.take k)=r at*;have A:(x:Int)%4294967296=(x:Int):=V;have U':=Hl r x j V;have m:r^^^x<4294967296:=V7 (n:=32) j V;generalize r^^^x=a at*;have V':bits .and .u32 (a:Int) 15=((a%16:Nat):Int):=(by have:=QX a 15 m ec;rw[abN]at this;exact this);have W:(a:Int)/16=((a/16:Nat):Int):=V;have G:=z (a%16) (VT _ ec);have t:=qU (a%16);have J':=Hl (a/16) (de.getD (a%16) 0) V t;have y:dL a<4294967296:=gV m;have f:a/16^^^de.getD (a%16) 0=dL a:=rfl;rw[f]at J';have R:a%16<16:=VT _ ec;clear f;generalize dL a=d at*;generalize de.getD (a%16) 0=L at*;generalize a%16=C at*;generalize a/16=b1 at*;have X:bits .and .u32 (d:Int) 15=((d%16:Nat):Int):=(by have:=QX d 15 y ec;rw[abN]at this;exact this);have Y:(d:Int)/16=((d/16:Nat):Int):=V;have H:=z (d%16) (VT _ ec);have u:=qU (d%16);have K:=Hl (d/16) (de.getD (d%16) 0) V u;have f:d/16^^^de.getD (d%16) 0=dL d:=rfl;rw[f]at K;have S:d%16<16:=VT _ ec;clear f;generalize dL d=T at*;generalize de.getD (d%16) 0=M at*;generalize d%16=E at*;generalize d/16=b2 at*;have B:=ak ho;have D:(C:Int)<16:=V;have F:(E:Int)<16:=V;clear ho m y t u;go_wp2;exact⟨B.o,iE⟩
  .have Z:k=l.length:=V;subst Z;rw[VE];have j:dD l<4294967296:=ox q;clear p;have A:=aab (dD l) j;rw[show 4294967295-dD l=oX l from rfl]at A;generalize dD l=r at*;go_wp2;go_ret;exact⟨rfl,rfl⟩
def fq(h:w.grownBy w' (J b))(i:Nat)(v:ZS):w.grownBy (w'.setCell ⟨b,i,U⟩ v) (J b):=⟨h.os,h.tape,h.output,by rw[YA];exact h.size,λk c a=>by rw[Uc _ _ _ _ (by intro e;exact a V2)];exact h.block k c a⟩
def uC{r:Option Nat}(h:w.grownBy w' r)(n:Nat):w.grownBy (w'.drewN n) r:=⟨h.os,h.tape,h.output,h.size,h.block⟩
def gW{r:Option Nat}(h:w.grownBy w' r)(k:w'.grownBy w'' r):w.grownBy w'' r:=⟨k.os.trans h.os,k.tape.trans h.tape,k.output.trans h.output,TU h.size k.size,λj b a=>(k.block j (TY b h.size) a).trans (h.block j b a)⟩
def gX(h:ZR B w0 w)(c:w.grownBy w' (J b))(a:B<=w.heap.size)(e:B<=b):ZR B w0 w':=h.grown c a (λk d=>by simp at d;omega)
def Fm{xs:List ZS}(h:w.ownsRow base 36 1 v n xs)(c:w.grownBy w' (J b))(a:v.ownBlock≠J b):w'.ownsRow base 36 1 v n xs:=h.kept c (.inr a)
theorem eS.wrote(h:eS w base v L){i:Nat}(d:i<L.length){l':a7}(f:w.grownBy w' (J L[i].1))(t:aM w' L[i].1 l')(r:l'.length=L[i].2.2.length)(u:∀x∈l',x<256):eS w' base v (L.set i (L[i].1,L[i].2.1,l')):=by
 have s:=T7 d;obtain⟨g,k,y,z,A⟩:=h.row _ s;have o:(L.set i (L[i].1,L[i].2.1,l')).map fV=L.map fV:=by
  apply Ve;.simp
  . intro j m n;simp[YG];by_cases e:i=j;.subst e;simp[fV,r]
    .simp[e]
 have l:(L.set i (L[i].1,L[i].2.1,l')).map (λp=>p.1)=L.map (λp=>p.1):=by
  apply Ve;.simp
  . intro j m n;simp[YG];by_cases e:i=j;.subst e;simp
    .simp[e]
 refine⟨?_,λp b=>?_,by rw[l];exact h.nodup⟩;.rw[o,VY];exact Fm h.own f (qV h.own k)
 . obtain⟨j,a,rfl⟩:=Xz.1 b;rw[VY]at a;rw[YG];by_cases e:i=j;.rw[TT e];exact⟨g,t,by show L[i].2.1<=l'.length;omega,⟨by show L[i].2.1<=140737488355328;omega,by show l'.length<=9223372036854775807;omega⟩,u⟩
   . rw[TS e];obtain⟨b1,b2,b3⟩:=h.row _ (T7 a);refine⟨b1,b2.grown f ?_,b3⟩;intro q;simp at q;have b:=V0.1 h.nodup;rcases YB e with c|c;.exact b i j (ua d) (ua a) c (by simp[q])
     .exact b j i (ua a) (ua d) c (by simp[q])
def eS.S7(h:eS w base v L){i:Nat}(e:i<L.length):Bs w (fV L[i]) (L[i].2.2.take L[i].2.1):=by obtain⟨f,a,b,c,d⟩:=h.row _ (T7 e);exact Bs.Sq a b c.1 d
def nh(w:ZT)(n:Nat)(a:n=w.heap.size)(x:ZS)(t:ZK):∀j u,[x][j]?=J u->(w.alloc (Z4 #[x] t)).cell? ((⟨n,0,U⟩:ZP).add j)=J u:=by subst a;exact YC _ _ _
def eS.append2{o:Obj}(h:eS w base v T)(e:ZR w.heap.size w w1)(r:base<=w.heap.size)(s:w.heap.size<=b)(d:aM w1 b l)(g:m=l.length)(i:n<=l.length)(hl:l.length<=140737488355328)(k:∀x∈l,x<256)(f:(w1.alloc o).grownBy w2 v.ownBlock)(a:w2.ownsRow base 36 1 v' (T.length+1) (T.map fV++[Z5 (J ⟨b,0,U⟩) n m])):eS w2 base v' (T++[(b,n,l)]):=by subst g;have c:=(h.below e).alloc o;refine c.push f (p:=(b,n,l)) a ⟨by show base<=b;omega,d.alloc o,i,⟨Zx,by show l.length<=9223372036854775807;omega⟩,k⟩ ?_;intro q j;have:=(h.row q j).2.1.lt;show q.1≠b;omega
def ez{o:Obj}(h:eS w B v T)(b:ZR B w0 w)(a:ZR w.heap.size w w1)(d:B<=w.heap.size)(e:(w1.alloc o).grownBy w2 v.ownBlock):ZR B w0 w2:=by have c:=b.trans (a.mono d);have:=a.size;refine(c.alloc V o).grown e G0 ?_;intro k f;exact(h.own.lt k f).1
def xr(c:Nat)(l:a7):a7:=l.map (λx=>x^^^c)
def th(c k:Nat)(l:a7):a7:=(YE l.length).map λj=>if j<k then l.getD j 0^^^c else l.getD j 0
theorem I8(c:Nat)(l:a7):th c 0 l=l:=by
 unfold th;apply Ve;.simp
 .intro j b a;simp[a]
theorem LB(c:Nat)(l:a7):th c l.length l=xr c l:=by
 unfold th xr;apply Ve;.simp
 .intro j a b;simp at a;simp[a]
def LC(c k:Nat)(l:a7):(th c k l).length=l.length:=by simp[th]
def LD(c k:Nat)(l:a7)(a:k<l.length):(th c k l).getD k 0=l.getD k 0:=by simp[th,a]
theorem I9(c k:Nat)(l:a7):(th c k l).set k (l.getD k 0^^^c)=th c (k+1) l:=by
 unfold th;apply Ve;.simp
 . intro j b d;simp[YG];by_cases e:k=j;.subst e;simp
   . simp only[TS e];by_cases a:j<k;.rw[TT a,TT V]
     .rw[TS a,TS V]
def SA2(wo:ZT)(b c:Nat)(l:a7)(i:ZS)(wr:ZT):Prop:=∃k:Nat,k<=l.length/\i=I O k/\wo.grownBy wr (J b)/\aM wr b (th c k l)
def Rd(w:ZT)(v:ZS)(D:List a7):Prop:=∃ao c,v=.slice ao D.length c/\D.length<=5864062014805/\(D≠[]->∃b off,ao=J ⟨b,off,U⟩/\∀i(hi:i<D.length),∃u,w.cell? ⟨b,off+i,U⟩=J u/\Bs w u D[i])
def Bs.lt(h:Bs w v l):∀x∈l,x<256:=by obtain⟨_,_,_,_,_,a,_⟩:=h;exact a
def Rd.mono(h:Rd w v D)(a:ZR w.heap.size w w'):Rd w' v D:=by obtain⟨ao,c,f,g,j⟩:=h;refine⟨ao,c,f,g,λl=>?_⟩;obtain⟨b,off,e,m⟩:=j l;refine⟨b,off,e,λi n=>?_⟩;obtain⟨u,d,k⟩:=m i n;exact⟨u,by rw[a.cell (Ue d)];exact d,k.mono a⟩
def Rd.cases(h:Rd w v D):(D=[]/\∃ao c,v=.slice ao 0 c)\/∃b off c,v=Z5 (J ⟨b,off,U⟩) D.length c/\D.length<=5864062014805/\∀i(j:i<D.length),∃u,w.cell? ⟨b,off+i,U⟩=J u/\Bs w u D[i]:=by
 obtain⟨ao,c,a,e,f⟩:=h;by_cases d:D=[];.subst d;exact .inl ⟨rfl,ao,c,a⟩
 .obtain⟨b,off,rfl,g⟩:=f d;exact .inr ⟨b,off,c,a,e,g⟩
theorem aM.heap(h:aM w b l):w.heap[b]?=J (Z4 (l.map (λx=>Value.int .u8 ((x:Nat):Int))).toArray 5 (0,0)):=by
 obtain⟨c,d,g,e⟩:=h;have:c=(l.map (λx=>Value.int .u8 ((x:Nat):Int))).toArray:=by
  apply Array.ext;.simp[g]
  .intro i a j;have:=e i V;rw[V3 a]at this;simp[vb]at this;have f:i<l.length:=V;simp[this,f]
 rw[<-this];exact d
def aM.of_heap(h:w.heap[b]?=J (Z4 (l.map (λx=>Value.int .u8 ((x:Nat):Int))).toArray 5 (0,0))):aM w b l:=⟨_,h,ej,λi a=>by simp[vb,a]⟩
def yT{a:ZL}{Q:ZN->ZL->ZT->Prop}(r:o.guard=U)(d s:ZJ)(ho:o.op=.call {callee:=.builtin .copy,args:=#[d,s],argTypes:=#[36,36]})(g n cap:Nat)(v:ZS)(hd:a.eval d=Z5 (J ⟨g,0,U⟩) n cap)(hs:a.eval s=v)(old src:a7)(hB:aM w g old)(hS:Bs w v src)(h9:src.length<=n)(hn:n<=old.length)(B:Nat)(w0:ZT)(hb:ZR B w0 w)(h5:B<=g)(h:∀w',aM w' g (src++old.drop src.length)->ZR B w0 w'->wpList ZI ops Q rest (a.put o.dst (goInt src.length)) w'):wpList ZI ops Q (o::rest) a w:=by
 obtain⟨ao,c,rfl,A,C,D,m⟩:=hS;refine ac8 r d s 36 36 ho 5 Ur ee (J ⟨g,0,U⟩) ao n cap src.length c hd hs g 0 _ 5 hB.heap (src.map (λx=>Value.int .u8 ((x:Nat):Int))) ?_ ?_ ?_ ?_ B w0 hb h5 ?_;.rw[Uf];show src.length=min src.length n;omega
 . intro k;rw[Uf]at k;obtain⟨b,off,rfl,y⟩:=m (by intro e;rw[e]at k;simp at k);refine⟨rfl,_,rfl,λj u i=>?_⟩;have f:j<src.length:=by have:=Vd.1 i;obtain⟨q,_⟩:=this;simpa using q
   rw[Vp,y j f];simp[f]at i;simp[f,i]
 .simp;omega
 .intro u z;obtain⟨x,_,rfl⟩:=T9.1 z;rfl
 . intro w' t p;have e:(splice (old.map (λx=>Value.int .u8 ((x:Nat):Int))) 0 (src.map (λx=>Value.int .u8 ((x:Nat):Int))))=(src++old.drop src.length).map (λx=>Value.int .u8 ((x:Nat):Int)):=by simp[splice]
   have l:=t.out;rw[e]at l;rw[Uf];exact h w' (aM.of_heap l) p
def Fo(l:a7):l++(YF (l.length+2) 0).drop l.length=l++[0,0]:=by rw[XZ,WB];rfl
def LF(l:a7):((l++[0,0]).set l.length 71).set (l.length+1) 72=l++[71,72]:=by rw[YN _ _ lR,YN _ _ V];simp
theorem Ja(v:ZS)(l:a7)(w:ZT)(h:Bs w v l)(hl:l.length<=1000000):ZQ ZI 46 #[v] w λe w'=>∃b,e=Z3 (Z5 (J ⟨b,0,U⟩) l.length (l.length+2))/\w.heap.size<=b/\aM w' b (l++[71,72])/\ZR w.heap.size w w':=by
 have i:=h;obtain⟨ao,c,rfl,o,p,q,r⟩:=h;go_enter func46,ntmps46;go_wp2_with(first|(at_make;refine dq _ rfl (Z0 8) (Z0 8) rfl _ (l.length+2) rfl rfl V V ?_;intro w1 g d j;clear j)|(refine yT rfl (Z0 10) (Z0 11) rfl w.heap.size (l.length+2) (l.length+2) _ rfl rfl _ l g (i.mono d) V ej w.heap.size w d lR ?_;intro w2 a f;rw[Fo]at a;have c1:=a.cell l.length ej;have k:=a.cell (l.length+1) ej;have m:=a.frozen l.length;have n:=a.frozen (l.length+1)));go_ret;refine⟨w.heap.size,rfl,TV _,?_,?_⟩;.have:=(a.set l.length 71).set (l.length+1) 72;rw[LF]at this;exact this
 .exact(f.setCell ej _).setCell ej _
theorem Jb(a:Nat)(vb:ZS)(l:a7)(w:ZT)(g:aM w a (l++[71,72]))(h:Bs w vb l)(hl:l.length<=1000000):ZQ ZI 47 #[Z5 (J ⟨a,0,U⟩) l.length (l.length+2),vb] w λe w'=>e=Z3 (Z1 ZV)/\w.grownBy w' (J a)/\aM w' a (xr 85 (l++[71,72])):=by
 have r:=h.lt;have k:(l++[71,72]).length=l.length+2:=ej;have v:Bs w (Z5 (J ⟨a,0,U⟩) l.length (l.length+2)) l:=by have:=Bs.Sq (n:=l.length) g ej V (by intro x d;rcases Ui.1 d with q|q;exact r x q;simp at q;omega);rw[k,List.take_left']at this;exact this;rfl
 have c1:=g.cell l.length ej;have s:=g.cell (l.length+1) ej;have t:(l++[71,72]).getD l.length 0=71:=ej;have u:(l++[71,72]).getD (l.length+1) 0=72:=ej;rw[t]at c1;rw[u]at s;have y:=h;have d:∀x∈l++[71,72],x<256:=by intro x d;rcases Ui.1 d with q|q;exact r x q;simp at q;omega
 obtain⟨ao,c,rfl,E,F,G,H⟩:=h;generalize hL:l++[71,72]=L at*;go_enter func47,ntmps47;go_wp2_with fail;refine(Hi _ _ l _ v y).mono ?_;rintro e w1⟨rfl,m,rfl⟩;have i:=ak k;go_wp2;go_loopw[8](λj wr=>SA2 w a 85 L j wr)(λj _=>L.length-(intOf j).toNat);case atStart=>exact⟨0,T8 _,rfl,uC (Wx _ _) _,by rw[I8];exact g⟩
 case round=>
  obtain⟨j,Z,rfl,o,b⟩:=hrel;by_cases B:j<l.length+2
  . have p:j<L.length:=(by rw[i.out];exact B);have d1:=b.cell j (by rw[LC];exact p);have D:=b.frozen j;rw[LD 85 j L p]at d1;have C:=dM d j;have f:=b.set j (L.getD j 0^^^85);rw[I9]at f;have z:=fq o j (I .u8 ((L.getD j 0^^^85:Nat):Int));have N:bits .xor .u8 ((L.getD j 0:Nat):Int) 85=((L.getD j 0^^^85:Nat):Int):=mv (L.getD j 0) 85 C ec;generalize L.getD j 0=x at*;go_wp2;go_roundw;case rel=>exact⟨j+1,V,eT,z,f⟩
    case measure=>simp[intOf];omega
  .have A:j=L.length:=(by rw[i.out];omega);have f:aM wr a (xr 85 L):=(by rw[A,LB]at b;exact b);go_wp2;go_ret;exact⟨rfl,o,f⟩
def eS.So(h:eS w base (Z5 (J ⟨g,0,U⟩) n cap) L){i:Nat}(a:i<L.length):w.cell? ⟨g,i,U⟩=J (fV L[i]):=by have:=h.own.cells (g:=g) rfl i (fV L[i]) Zl;rw[kl]at this;exact this
def eS.slice(h:eS w base v L):∃ao cap,v=.slice ao L.length cap/\(L≠[]->∃g,ao=J ⟨g,0,U⟩):=by
 rcases h.shape with⟨rfl,rfl⟩|⟨g,cap,rfl,_⟩;.exact⟨U,0,rfl,λh=>absurd rfl h⟩
 .exact⟨_,cap,rfl,λ_=>⟨g,rfl⟩⟩
theorem lT{Q:ZL->ZT->Prop}{S:ZT->Prop}{X:Nat->ZL->ZT->(ZL->ZT->Prop)->Prop}{l:Wt}{a:ZL}(h:LW P ops Q S X z l (a.put o.dst v) w)(ho:ops.toList[i]?=J o:=by rfl)(hw:Region.wanted o (yielded ops a.tmps)=ZV:=by rfl)(hr:∀w,S w->(execOp a.eval o).run P w=.ok (.value v) w:=by intro w' b;first|(go_simp;done)|(go_simp;exact rfl)):LW P ops Q S X z (.on i ZV l) a w:=cZ ho hw ⟨v,hr,h⟩
def aI(w:ZT):Prop:=∀j,j<64->w.cell? ⟨1,j,U⟩=J (I .u8 ((Lib.deBruijn64tab.getD j 0:Nat):Int))
def aI.mono(h:aI w)(a:1<B)(b:ZR B w w'):aI w':=λj c=>(b.cell (p:=⟨1,j,U⟩) a).trans (h j c)
def aac(x a:Nat)(d:x<18446744073709551616)(e:x≠0)(c:x&&&(18446744073709551616-x)=a):IntKind.u64.wrap (bits BinOp.and IntKind.u64 (x:Int) (IntKind.u64.wrap (-(x:Int)))*285870213051353865)/288230376151711744=((a*285870213051353865%18446744073709551616/288230376151711744:Nat):Int):=by have b:IntKind.u64.wrap (-(x:Int))=((18446744073709551616-x:Nat):Int):=K1;rw[b,bits_and_u64_nat x _ d V,c,U7];omega
def pd(x:Nat):Nat:=Lib.ctzFrom 64 x
def uD(a:x≠0)(b:x<65536):∃m,x=2^pd x*(2*m+1)/\pd x<64:=Lib.ctzFrom_spec 64 x V V
theorem Pe(x k idx:Nat)(w:ZT)(b:((x:Int)==0)=ZU)(key:IntKind.u64.wrap (bits BinOp.and IntKind.u64 (x:Int) (IntKind.u64.wrap (-(x:Int)))*285870213051353865)/288230376151711744=(idx:Int))(c:idx<64)(d:k<64)(a:w.cell? ⟨1,idx,U⟩=J (I .u8 k)):ZQ ZI 155 #[I Z8 x] w λe w'=>e=Z3 (I O k)/\w'=w:=by go_enter func155,ntmps155;go_wp2_with(simp only[key]);go_ret;exact⟨rfl,rfl⟩
def LG(x:Nat)(a:x≠0)(j:x<65536)(w:ZT)(i:aI w):ZQ ZI 155 #[I Z8 x] w λe w'=>e=Z3 (I O (pd x))/\w'=w:=by
 obtain⟨m,f,d⟩:=uD a j;have g:x&&&(18446744073709551616-x)=2^pd x:=by have:=Lib.and_neg 64 (pd x) m (by rw[<-f];omega);rw[<-f]at this;exact this
 obtain⟨c,h⟩:=Lib.deBruijn64_at _ d;have b:=i _ c;rw[h]at b;exact Pe x _ _ w ek (aac x _ V a g) c d b
theorem Hm(n:x≠0)(p:x<65536):x&&&(x-1)=dI x (pd x):=by
 obtain⟨m,d,_⟩:=uD n p;generalize pd x=k at d;have:0<2^k:=VL k;have o:2^(k+1)=2*2^k:=by rw[XV];omega
 have f:x=2^(k+1)*m+2^k:=by rw[d,o,Nat.mul_add,Wd,Wf 2 (2^k),Nat.mul_assoc]
 have g:x-1=2^(k+1)*m+(2^k-1):=V;apply XQ;intro j;rw[XA,g,mn];have h:=YO m (i:=k+1) (b:=2^k) V j;have l:=YO m (i:=k+1) (b:=2^k-1) V j;rw[l,f,h];by_cases a:j<k+1
 . rw[TT a,TT a,XB,Xy];have c:decide (k<j)=ZU:=ek;rw[c,Bool.false_and];by_cases e:k=j;.simp[e]
   .simp[e]
 .rw[TS a,TS a];have c:decide (k<j)=ZV:=ek;rw[c,Bool.true_and,Bool.and_self]
theorem tJ(e:x≠0)(g:x<65536):x.testBit (pd x)=ZV/\∀j,j<pd x->x.testBit j=ZU:=by
 obtain⟨m,d,_⟩:=uD e g;generalize pd x=k at d;have:0<2^k:=VL k;have f:2^(k+1)=2*2^k:=by rw[XV];omega
 have a:x=2^(k+1)*m+2^k:=by rw[d,f,Nat.mul_add,Wd,Wf 2 (2^k),Nat.mul_assoc]
 have c:=λj=>YO m (i:=k+1) (b:=2^k) V j;constructor;.rw[a,c,TT V,Nat.testBit_two_pow_self]
 .intro j h;rw[a,c,TT V,XB];simp;omega
def LH(b:x≠0)(a:x<65536):pd x<16:=by refine YT λh=>?_;have:=Ww (x:=x) (i:=pd x) (TY a (UY (n:=2) ec h));rw[(tJ b a).1]at this;cases this
def jc(b:x≠0)(c:x<65536):ae x=pd x::ae (dI x (pd x)):=by have h:pd x∈ae x:=bL.2 ⟨LH b c,(tJ b c).1⟩;obtain⟨pre,R,e⟩:=List.append_of_mem h;rw[Cp e];have f:=sC x;rw[e]at f;cases pre with|nil=>exact e|cons a pre=>have g:=(ac3.1 f).2.2 a ej (pd x) ej;have d:=(bL.1 (show a∈ae x by rw[e];simp)).2;rw[(tJ b c).2 a g]at d;cases d
def qW(x k:Nat)(a:x<65536):dI x k<65536:=by unfold dI;exact WV (YZ _ _) a
def yU:ae 0=[]:=ec
def sw1(x:Nat):Nat:=(x/2&&&6148914691236517205)+(x&&&6148914691236517205)
def sw2(x:Nat):Nat:=(x/4&&&3689348814741910323)+(x&&&3689348814741910323)
def sw3(x:Nat):Nat:=(x/16+x)&&&1085102592571150095
def sw(x:Nat):Nat:=sw3 (sw2 (sw1 x))
def pb(b:Nat):Nat:=b%2+b/2%2+b/4%2+b/8%2+b/16%2+b/32%2+b/64%2+b/128%2
def tst(n:Nat):Nat->Bool|0=>ZV|k+1=>(sw (n*256+k)==pb n*256+pb k)&&tst n k
def aad:Nat->Bool|0=>ZV|n+1=>tst n 256&&aad n
def acn:aad 256=ZV:=Ax
def LI:∀{k},tst n k=ZV->∀j,j<k->sw (n*256+j)=pb n*256+pb j
 |0,_,j,h=>absurd h V|k+1,h,j,hj=>by
  obtain⟨a,b⟩:=Y3.1 h;by_cases e:j=k;.rw[e];exact eq_of_beq a
  .exact LI b j V
def Hn:∀{n},aad n=ZV->∀i,i<n->tst i 256=ZV
 |0,_,i,h=>absurd h V|n+1,h,i,hi=>by
  obtain⟨a,b⟩:=Y3.1 h;by_cases e:i=n;.rw[e];exact a
  .exact Hn b i V
def abP(a:x<65536):sw x=pb (x/256)*256+pb (x%256):=by have:=LI (Hn acn (x/256) V) (x%256) V;rwa[(V:x/256*256+x%256=x)]at this
def aae(x i:Nat):(if x.testBit i=ZV then 1 else 0)=x/2^i%2:=by
 rw[Wh];by_cases h:x/2^i%2=1;.simp[h]
 .have:=Vv (x/2^i);simp[h];omega
def QY(b:Nat):pb b<=8:=by unfold pb;omega
theorem LJ(x:Nat):(ae x).length=pb (x/256)+pb (x%256):=by
 have h:∀n,((YE n).filter (λi=>x.testBit i)).length=((YE n).map (λi=>x/2^i%2)).sum:=by intro n;induction n with|zero=>rfl|succ n ih=>
   rw[Vs,Wv,Ua,ih,Uz,YD];have e:=aae x n;have m:([n].map (λi=>x/2^i%2)).sum=x/2^n%2:=ej;rw[m,<-e];by_cases e:x.testBit n=ZV;.simp[e]
   .simp[e]
 unfold ae pb;rw[h];have a:YE 16=[0,1,2,3,4,5,6,7,8,9,10,11,12,13,14,15]:=ec;rw[a];simp only[U5,Wi,XC,List.sum_nil,Nat.reducePow,Nat.div_one];have b:x%256%2=x%2:=V;have c:x%256/2%2=x/2%2:=V;have d:x%256/4%2=x/4%2:=V;have f:x%256/8%2=x/8%2:=V;have g:x%256/16%2=x/16%2:=V;have j:x%256/32%2=x/32%2:=V;have k:x%256/64%2=x/64%2:=V;have l:x%256/128%2=x/128%2:=V;rw[b,c,d,f,g,j,k,l];clear b c d f g j k l h a;simp only[YX,Nat.reduceMul];generalize x%2=o;generalize x/2%2=p;generalize x/4%2=q;generalize x/8%2=r;generalize x/16%2=s;generalize x/32%2=t;generalize x/64%2=u;generalize x/128%2=v;generalize x/256%2=b0;generalize x/512%2=b1;generalize x/1024%2=b2;generalize x/2048%2=b3;generalize x/4096%2=b4;generalize x/8192%2=b5;generalize x/16384%2=b6;generalize x/32768%2=b7;omega
def Cx(h:k<64):2^k<18446744073709551616:=TY (VC ec h) lR
def Jc(k:Nat)(h:k<=16):IntKind.u64.wrap (IntKind.u64.wrap (2^k)-1)=((2^k-1:Nat):Int):=by
 have:=Cx (k:=k) V;have:0<2^k:=VL k;have e:((2:Int)^k)=((2^k:Nat):Int):=by rw[WW];rfl
 rw[e,U7,U7];omega
theorem ni(k:Nat)(a:k<=16)(w:ZT):ZQ ZI 132 #[I O k] w λe w'=>e=Z3 (I Z8 ((2^k-1:Nat):Int))/\w'=w:=by have key:=Jc k a;go_enter func132,ntmps132;go_wp2;go_ret;exact⟨rfl,rfl⟩
def fY(a b:Nat)(c:a<18446744073709551616)(d:b<18446744073709551616):bits .and .u64 (a:Int) (b:Int)=((a&&&b:Nat):Int):=bits_and_u64_nat a b c d
theorem k1(x:Nat)(h:x<65536):IntKind.u64.wrap (bits .and .u64 ((x:Int)/2) 6148914691236517205+bits .and .u64 (x:Int) 6148914691236517205)=((sw1 x:Nat):Int)/\sw1 x<131072:=by have e:(x:Int)/2=((x/2:Nat):Int):=V;have d:=fY (x/2) 6148914691236517205 V ec;have f:=fY x 6148914691236517205 V ec;have:=WC (n:=x/2) (m:=6148914691236517205);have:=WC (n:=x) (m:=6148914691236517205);unfold sw1;rw[e];refine⟨?_,V⟩;have c:bits .and .u64 ((x/2:Nat):Int) 6148914691236517205=((x/2&&&6148914691236517205:Nat):Int):=d;have g:bits .and .u64 (x:Int) 6148914691236517205=((x&&&6148914691236517205:Nat):Int):=f;rw[c,g,U7];generalize(x/2&&&6148914691236517205)=a at*;generalize(x&&&6148914691236517205)=b at*;omega
theorem k2(x:Nat)(h:x<131072):IntKind.u64.wrap (bits .and .u64 ((x:Int)/4) 3689348814741910323+bits .and .u64 (x:Int) 3689348814741910323)=((sw2 x:Nat):Int)/\sw2 x<262144:=by have e:(x:Int)/4=((x/4:Nat):Int):=V;have d:=fY (x/4) 3689348814741910323 V ec;have f:=fY x 3689348814741910323 V ec;have:=WC (n:=x/4) (m:=3689348814741910323);have:=WC (n:=x) (m:=3689348814741910323);unfold sw2;rw[e];refine⟨?_,V⟩;have c:bits .and .u64 ((x/4:Nat):Int) 3689348814741910323=((x/4&&&3689348814741910323:Nat):Int):=d;have g:bits .and .u64 (x:Int) 3689348814741910323=((x&&&3689348814741910323:Nat):Int):=f;rw[c,g,U7];generalize(x/4&&&3689348814741910323)=a at*;generalize(x&&&3689348814741910323)=b at*;omega
def k3(x:Nat)(a:x<262144):bits .and .u64 (IntKind.u64.wrap ((x:Int)/16+(x:Int))) 1085102592571150095=((sw3 x:Nat):Int):=by have e:IntKind.u64.wrap ((x:Int)/16+(x:Int))=((x/16+x:Nat):Int):=K1;rw[e];exact fY (x/16+x) 1085102592571150095 V ec
theorem k4(x c:Nat)(a:x<1048576):IntKind.u64.wrap ((x:Int)+(x:Int)/(c:Int))=((x+x/c:Nat):Int):=by have:=VU x c;have e:(x:Int)/(c:Int)=((x/c:Nat):Int):=(X1 x c).symm;rw[U7,e];generalize x/c=d at*;omega
def aaf(x:Nat):x&&&127=x%128:=ac7 x 7
theorem LK(x:Nat)(v:x<65536)(w:ZT):ZQ ZI 230 #[I Z8 x] w λe w'=>e=Z3 (I O ((ae x).length:Nat))/\w'=w:=by
 obtain⟨g,b1⟩:=k1 x v;obtain⟨h,b2⟩:=k2 _ b1;have a:=k3 _ b2;have u:=abP v;have y:=QY (x/256);have z:=QY (x%256);have t:=LJ x;have e:sw3 (sw2 (sw1 x))=pb (x/256)*256+pb (x%256):=u;generalize pb (x/256)=p at*;generalize pb (x%256)=q at*;have b:=k4 (p*256+q) 256 V;have n:p*256+q+(p*256+q)/256=p*257+q:=V;have c:=k4 (p*257+q) 65536 V;have r:p*257+q+(p*257+q)/65536=p*257+q:=by rw[Xu V,VO]
 have d:=k4 (p*257+q) 4294967296 V;have s:p*257+q+(p*257+q)/4294967296=p*257+q:=by rw[Xu V,VO]
 rw[n]at b;rw[r]at c;rw[s]at d;have f:=Hh (p*257+q) 127 V ec;rw[aaf,(V:(p*257+q)%128=p+q),<-t]at f;have i:wrap64 ((p*257+q:Nat):Int)=((p*257+q:Nat):Int):=D2;rw[e]at a;clear e u t n r s;have H:=hide8 g h a b c d f i;clear g h a b c d f i;go_enter func230,ntmps230;go_wp2;obtain⟨g,h,a,b,c,d,f,i⟩:=H.o;simp only[g];simp only[h];simp only[a];have j:IntKind.u64.wrap (((p*256+q:Nat):Int)+((p*256+q:Nat):Int)/256)=((p*257+q:Nat):Int):=b;have k:IntKind.u64.wrap (((p*257+q:Nat):Int)+((p*257+q:Nat):Int)/65536)=((p*257+q:Nat):Int):=c;have l:IntKind.u64.wrap (((p*257+q:Nat):Int)+((p*257+q:Nat):Int)/4294967296)=((p*257+q:Nat):Int):=d;have m:bits .and .i64 ((p*257+q:Nat):Int) 127=(((ae x).length:Nat):Int):=f;simp only[j,k,l,i,m];go_ret;exact⟨rfl,rfl⟩
theorem Cy(x:Nat)(a:x<65536)(w:ZT):ZQ ZI 226 #[I Z8 x] w λe w'=>e=Z3 (I O ((ae x).length:Nat))/\w'=w:=by go_enter func226,ntmps226;go_wp2_with fail;refine(LK x a _).mono ?_;rintro e w'⟨rfl,rfl⟩;go_wp2;go_ret;exact⟨rfl,rfl⟩
theorem Fp(x k:Nat)(c:x<65536)(f:k<=16):bits .andNot .u64 (x:Int) ((2^k-1:Nat):Int)=((x/2^k*2^k:Nat):Int):=by
 have d:=Cx (k:=k) V;have e:0<2^k:=VL k;have h:=X2 x (2^k-1) V V;rw[h];congr 1;apply XQ;intro j;rw[XA,adD,(V:18446744073709551615-(2^k-1)=2^64-(2^k-1+1)),Xx V,Xy,adE];by_cases a:k<=j
 . rw[(V:j-k+k=j)];by_cases b:j<64;.simp[a,b,(V:¬j<k)]
   .have:x.testBit j=ZU:=Ww (TY c (UY (n:=2) (i:=16) ec V));simp[this]
 .simp[a,(V:j<k)]
theorem Fs(x k:Nat)(a:x<65536)(c:k<16)(w:ZT):ZQ ZI 234 #[I Z8 x,I O k] w λe w'=>e=Z3 (I Z8 (dI x k:Nat))/\w'=w:=by have key:=Fp x (k+1) a V;have d:wrap64 ((k:Int)+1)=((k+1:Nat):Int):=D2;have b:IntKind.i64.wrap ((k:Int)+1)=((k+1:Nat):Int):=l7;have H:=ak key;clear key;go_enter func234,ntmps234;go_wp2_with fail;refine(ni (k+1) V _).mono ?_;rintro e w'⟨rfl,rfl⟩;go_wp2;rw[H.o];go_ret;exact⟨rfl,rfl⟩
section
attribute [local go_sem] Oper.semAt_some
def pe(b:q≠0)(c:q<65536):dI q (pd q)<q:=by refine Nat.lt_of_le_of_ne (YZ _ _) λe=>?_;have a:=mn q (pd q) (pd q);rw[e,(tJ b c).1]at a;simp at a
abbrev Sh:={x:Nat//x<16}
def sF(x:Sh):Array ZS:=#[I O (x.1:Int)]
def shs(s:Nat):List Sh:=(ae s).filterMap (λi=>if h:i<16 then J ⟨i,h⟩else U)
def Pf(s:Nat):(shs s).map (·.1)=ae s:=by
 unfold shs;have h:∀L:a7,(∀i∈L,i<16)->(L.filterMap (λi=>if h:i<16 then J (⟨i,h⟩:Sh)else U)).map (·.1)=L:=by intro L;induction L with|nil=>intro _;rfl|cons a L ih=>intro d;have e:=d a UG;rw[List.filterMap_cons_some (b:=(⟨a,e⟩:Sh)) (by simp[e]),U5,ih (λi c=>d i (Uo _ c))]
 exact h _ (λi c=>(bL.1 c).1)
theorem eo(s:Nat)(w:ZT):ZQ ZI 124 #[I Z8 s] w λe w'=>e=Z3 (.func (.func 154) #[] #[Z6 (J ⟨w.heap.size,0,U⟩)])/\w'=w.alloc (Z4 #[I Z8 s] 123):=by go_enter func124,ntmps124;go_wp2;go_ret;exact⟨rfl,rfl⟩
theorem Cz(n:Nat)(l Bs s:Nat)(A:s<65536)(G g:List Sh->ZT->Prop)(y:∀pre x W,G pre W->pre.length<(ae s).length->YieldAt Fence.wide (n-1) ZI l (sF x) W λe c=>(e=Z3 (Z1 ZV)/\G (pre++[x]) c/\(aI W->aI c))\/(e=Z3 (Z1 ZU)/\g (pre++[x]) c))(W:ZT)(E:W.cell? ⟨Bs,0,U⟩=J (I Z8 s))(w:aI W)(m:G [] W):CallsIn Fence.wide n ZI 154 #[.func (.yield l) #[] #[],Z6 (J ⟨Bs,0,U⟩)] W λe c=>(∃v,e=Z3 v)/\((∃k,k.map (·.1)=ae s/\G k c)\/(∃pre,pre.map (·.1)<+:ae s/\g pre c)):=by
 refine Xl func154 rfl trivial ?_ rfl;simp only[ntmps154,UK,UC,U0,YP,YQ,Vf,Vg,Vh,Vi,Ut,U1];gi_wp2;gi_loopw[3](λp wr=>∃(pre:List Sh)(q:Nat),p=I Z8 q/\q<65536/\ae s=pre.map (·.1)++ae q/\G pre wr/\aI wr)(λp _=>(intOf p).toNat);case atStart=>exact⟨[],s,rfl,A,rfl,m,w⟩
 case round=>
  obtain⟨pre,q,rfl,b,d,i,j⟩:=hrel;by_cases a:q=0;. subst a;gi_wp2;go_end0;exact⟨⟨_,rfl⟩,.inl ⟨pre,by rw[d,yU,Wj],i⟩⟩
  . have D:((q:Int)!=0)=ZV:=ek;have f:=LH a b;obtain⟨fn,tmps,assign,body,B,u⟩:=y pre ⟨pd q,f⟩ wr i (by rw[d,jc a b];simp);unfold sF at B;gi_wp2;refine cM (LG q a b wr j) ?_;rintro e w'⟨rfl,rfl⟩;gi_wp2;refine⟨λh=>Bf,u.mono ?_⟩;rintro e C(⟨rfl,r,t⟩|⟨rfl,o⟩)
    . have F:IntKind.u64.wrap ((q:Int)-1)=((q-1:Nat):Int):=K1;have z:=fY q (q-1) V V;rw[Hm a b]at z;gi_wp2;go_roundw;case rel=>exact⟨pre++[⟨pd q,f⟩],dI q (pd q),rfl,qW _ _ b,by rw[d,jc a b];simp,r,t j⟩
      case measure=>have:=pe a b;simp only[intOf];omega
    .gi_wp2;refine Uv (XD rfl _ _ _) rfl ?_;exact⟨⟨_,rfl⟩,.inr ⟨pre++[⟨pd q,f⟩],by rw[d,jc a b];simp,o⟩⟩
def Ho(W W':ZT):Prop:=aI W->aI W'
def yV{A B C:ZT}(h:Ho A B)(k:Ho B C):Ho A C:=λx=>k (h x)
def yW(c:3<=w.heap.size)(W:ZT)(l:Nat)(o b:Obj)(hl:w.heap.size<=l)(h:W.heap[l]?=J o)(_:o.isCells=ZU)(_:o.isWalk=ZU):Ho W (W.putObj l b):=λa=>a.mono (B:=3) ec (Below.RO (TW _ W) V (TX.1 h).1 _)
def Ho.RM{W W':ZT}(b:3<=B)(h:ZR B W W'):Ho W W':=λa=>a.mono V h
def Ho.refl(W:ZT):Ho W W:=λh=>h
def fD(n Bs s:Nat)(h:s<65536)(w:ZT)(d:Bs<w.heap.size)(g:w.cell? ⟨Bs,0,U⟩=J (I Z8 s))(j:3<=w.heap.size)(e:aI w):SeqStopsK Fence.wide n ZI 154 #[Z6 (J ⟨Bs,0,U⟩)] sF Ho (λi=>i.map (·.1)=ae s) (λpre=>pre.map (·.1)<+:ae s) (ae s).length w:=λl C b W a _ _ f c=>Cz n l Bs s h C b f W ((a.cell (p:=⟨Bs,0,U⟩) d).trans g) (e.mono V a) c
end
section
attribute [local go_sem] Oper.semAt_some
def Nm(w:ZT)(b:Nat):Prop:=∃cs T z,w.heap[b]?=J (Z4 cs T z)/\(T≠93/\T≠56)
def Nm.lt(h:Nm w b):b<w.heap.size:=by obtain⟨cs,T,z,h,_⟩:=h;exact(TX.1 h).1
def Nm.keep(h:Nm w b)(c:w'.heap[b]?=w.heap[b]?):Nm w' b:=by obtain⟨cs,T,z,h,a⟩:=h;exact⟨cs,T,z,c.trans h,a⟩
def bt(K:Nat->Prop)(w:ZT)(v:ZS)(l:a7):Prop:=∃ao c,v=.slice ao l.length c/\l.length<=1000000/\(l≠[]->∃b off,ao=J ⟨b,off,U⟩/\K b/\Nm w b/\∀i(hi:i<l.length),w.cell? ⟨b,off+i,U⟩=J (I O ((l[i]:Nat):Int)))
structure Ob where
 name:ByteArray
 size:Nat
 RI:a7
def fA(K:Nat->Prop)(w:ZT)(v:ZS)(os:List Ob):Prop:=∃ao c,v=.slice ao os.length c/\os.length<=1000000/\(os≠[]->∃b off,ao=J ⟨b,off,U⟩/\K b/\Nm w b/\∀i(hi:i<os.length),∃sv,w.cell? ⟨b,off+i*3,U⟩=J (.string os[i].name)/\w.cell? ⟨b,off+i*3+1,U⟩=J (I O (os[i].size:Nat))/\w.cell? ⟨b,off+i*3+2,U⟩=J sv/\bt K w sv os[i].RI)
def eW(K:Nat->Prop)(w w':ZT):Prop:=w.heap.size<=w'.heap.size/\∀k,k<w.heap.size->K k->w'.heap[k]?=w.heap[k]?
def eW.refl(K:Nat->Prop)(w:ZT):eW K w w:=⟨TV _,λ_ _ _=>rfl⟩
def eW.trans{b c:ZT}(h:eW K a b)(k:eW K b c):eW K a c:=⟨TU h.1 k.1,λi d e=>(k.2 i (TY d h.1) e).trans (h.2 i d e)⟩
def eW.RM(h:ZR w.heap.size w w'):eW K w w':=⟨h.size,λk a _=>h.block k a⟩
def bt.Sl(h:bt K w v l)(e:∀k,Nm w k->K k->w'.heap[k]?=w.heap[k]?):bt K w' v l:=by obtain⟨ao,c,f,g,j⟩:=h;refine⟨ao,c,f,g,λhl=>?_⟩;obtain⟨b,off,n,a,d,o⟩:=j hl;exact⟨b,off,n,a,d.keep (e b d a),λi m=>(Uk (e b d a)).trans (o i m)⟩
def fA.Sl{os:List Ob}(h:fA K w v os)(d:∀k,Nm w k->K k->w'.heap[k]?=w.heap[k]?):fA K w' v os:=by obtain⟨ao,c,g,j,l⟩:=h;refine⟨ao,c,g,j,λhl=>?_⟩;obtain⟨b,off,n,e,f,o⟩:=l hl;refine⟨b,off,n,e,f.keep (d b f e),λi m=>?_⟩;obtain⟨sv,p,q,r,s⟩:=o i m;have a:=d b f e;exact⟨sv,(Uk a).trans p,(Uk a).trans q,(Uk a).trans r,s.Sl d⟩
def bt.keep(h:bt K w v l)(a:eW K w w'):bt K w' v l:=h.Sl λk q=>a.2 k q.lt
def fA.keep{os:List Ob}(h:fA K w v os)(a:eW K w w'):fA K w' v os:=h.Sl λk q=>a.2 k q.lt
def bt.nil(K:Nat->Prop)(w:ZT):bt K w (Z5 U 0 0) []:=⟨U,0,rfl,ec,λh=>absurd rfl h⟩
def fA.nil(K:Nat->Prop)(w:ZT):fA K w (Z5 U 0 0) []:=⟨U,0,rfl,ec,λh=>absurd rfl h⟩
def ah(os:List Ob):a7:=os.flatMap (·.RI)
def Ft(os:List Ob)(k:Nat)(a:k<os.length):ah (os.take (k+1))=ah (os.take k)++os[k].RI:=by
 have e:os.take (k+1)=os.take k++[os[k]]:=by rw[Vl,Ud a];rfl
 rw[e];unfold ah;rw[WD];simp
def oA(x:Nat):Array ZS:=#[I O (x:Int)]
def CA{os:List Ob}(m:Nat)(b:k<os.length):ah (os.take k)++(os[k].RI).take m<+:ah os:=by
 have a:ah os=ah (os.take k)++(os[k].RI++ah (os.drop (k+1))):=by
  have e:ah (os.take k++os[k]::os.drop (k+1))=ah (os.take k)++(os[k].RI++ah (os.drop (k+1))):=by unfold ah;rw[WD,VJ]
  rwa[<-X3 b,Wk]at e
 rw[a];refine(ac9 _).2 ?_;exact(List.take_prefix m _).trans (XT _ _)
theorem mw(K:Nat->Prop)(n l b1:Nat)(v:ZS)(os:List Ob)(J' Z:a7->ZT->Prop)(Y:List PanicEntry->ZT->Prop)(k6:∀pre A B,J' pre A->ZR A.heap.size A B->J' pre B)(L:a7)(hY:∀pre x W,J' pre W->pre++[x]<+:L->YieldAt Fence.wide (n-1) ZI l (oA x) W λe d=>(e=Z3 (Z1 ZV)/\J' (pre++[x]) d/\eW K W d)\/(e=Z3 (Z1 ZU)/\Z (pre++[x]) d)\/∃g,e=.panicked g/\Y g d)(a:a7)(k7:a++ah os<+:L)(W:ZT)(N:W.cell? ⟨b1,0,U⟩=J v)(P:fA K W v os)(h0:J' a W):CallsIn Fence.wide n ZI 151 #[.func (.yield l) #[] #[],Z6 (J ⟨b1,0,U⟩)] W λe d=>((∃v,e=Z3 v)/\((J' (a++ah os) d)\/(∃pre,pre<+:ah os/\Z (a++pre) d)))\/∃g,e=.panicked g/\Y g d:=by
 obtain⟨ao,c,rfl,ka,w⟩:=id P;refine Xl func151 rfl trivial ?_ rfl;simp only[ntmps151,UK,UC,U0,YP,YQ,Vf,Vg,Vh,Vi,Ut,U1];have X:=al P h0;clear P h0 w;gi_wp2;gi_loopw[9](λp wr=>∃k:Nat,p=I O (k:Nat)/\k<=os.length/\J' (a++ah (os.take k)) wr/\fA K wr (.slice ao os.length c) os)(λp _=>os.length-(intOf p).toNat);case atStart=>exact⟨0,rfl,T8 _,by simpa[ah]using X.o.2,X.o.1⟩
 case round=>
  obtain⟨k,rfl,hk,t,D⟩:=hrel;by_cases j:k<os.length
  . obtain⟨hd,c',r,_,w⟩:=id D;obtain⟨b,off,M,kh,ki,hx⟩:=w (λe=>by rw[e]at j;simp at j);simp only[Vy]at r;obtain⟨rfl,_,rfl⟩:=r;subst M;obtain⟨sv,r1,r2,r3,I'⟩:=hx k j;obtain⟨so,sc,rfl,ke,u⟩:=id I';obtain⟨st,T⟩:=nM (os[k].RI);obtain⟨NN,hN⟩:=nM (os.length);obtain⟨nm,hz⟩:=nM (os[k].name);obtain⟨sz,k5⟩:=nM (((os[k].size:Nat):Int));rw[T]at r3 I' ke u;rw[hz]at r1;rw[k5]at r2;have H:=a5 t D I' T hN;clear t D w hx I' u T hN hz k5;gi_wp2;obtain⟨wx,U'⟩:=nM (wr.alloc (Z4 #[.string nm,I O sz,.slice so st.length sc] 150));have F:ZR wr.heap.size wr wx:=(by rw[<-U'];exact bA wr _);rw[U'];clear U';have hv:=k6 _ _ _ H.o.1 F;have hr:=H.o.2.1.keep (eW.RM F);have hs:=H.o.2.2.1.keep (eW.RM F);gi_loopw[16](λp V'=>∃m:Nat,p=I O (m:Nat)/\m<=st.length/\J' (a++(ah (os.take k)++st.take m)) V'/\fA K V' (Z5 (J ⟨b,off,U⟩) os.length c) os/\bt K V' (.slice so st.length sc) st)(λp _=>st.length-(intOf p).toNat);case atStart=>exact⟨0,rfl,T8 _,ua hv,hr,hs⟩
    case round=>
     clear hv hr hs F;obtain⟨m,rfl,hm,i,C,E⟩:=hrel;by_cases s:m<st.length
     . obtain⟨kk,kj,r,_,u⟩:=id E;obtain⟨b2,hb,M,kg,k8,h8⟩:=u (λe=>by rw[e]at s;simp at s);simp only[Vy]at r;obtain⟨rfl,_,rfl⟩:=r;subst M;have g1:=h8 m s;obtain⟨y,G⟩:=nM (st[m]);rw[G]at g1;have k0:(a++(ah (os.take k)++st.take m))++[y]<+:L:=by have N:=CA (os:=os) (m+1) j;rw[H.o.2.2.2.1,Vl,Ud s,G]at N;have h2:=((ac9 a).2 N).trans k7;simpa using h2
       obtain⟨fn,tmps,assign,body,kf,hR⟩:=hY _ y _ i k0;clear k0;unfold oA at kf;have f:=a5 i C E hR G;clear i C E hR u h8 G;gi_wp2;refine⟨λh=>Bf,f.o.2.2.2.1.mono ?_⟩;have z:a++(ah (os.take k)++st.take m)++[y]=a++(ah (os.take k)++st.take (m+1)):=by have e:st.take (m+1)=st.take m++[y]:=(by rw[Vl,Ud s,f.o.2.2.2.2];rfl);rw[e];simp
       rintro e W3(⟨rfl,R,S⟩|⟨rfl,O'⟩|⟨g,rfl,kc⟩)
       . rw[z]at R;have q:=au R (f.o.2.1.keep S) (f.o.2.2.1.keep S);clear R S z;gi_wp2;go_roundw;case rel=>exact⟨m+1,eT,V,q.o.1,q.o.2.1,q.o.2.2⟩
         case measure=>simp only[intOf];omega
       .rw[z]at O';have q:=ak O';clear O' z;gi_wp2;refine Uv (XD rfl _ _ _) rfl ?_;have hp:=CA (os:=os) (m+1) j;rw[H.o.2.2.2.1]at hp;exact .inl ⟨⟨_,rfl⟩,.inr ⟨_,hp,q.o⟩⟩
       .exact⟨rfl,.inr ⟨g,rfl,kc⟩⟩
     . have kb:m=st.length:=V;subst kb;rw[VE]at i;have Q:=Ft os k j;rw[H.o.2.2.2.1]at Q;rw[<-Q]at i;have f:=al i C;clear i C E Q;gi_wp2;go_roundw;case rel=>exact⟨k+1,eT,V,f.o.1,f.o.2⟩
       case measure=>simp only[intOf];omega
  . have k9:k=os.length:=V;subst k9;rw[VE]at t;have HJ:=ak t;clear t D;gi_wp2;go_end0;exact .inl ⟨⟨_,rfl⟩,.inl HJ.o⟩
def QZ{pre l:List α}{x:α}(h:pre++[x]<+:l):pre.length<l.length:=by have:=h.length_le;rw[Ua,ada]at this;omega
def uE(K:Nat->Prop)(n l b1:Nat)(v:ZS)(os:List Ob)(C c:a7->ZT->Prop)(g:∀pre A B,C pre A->ZR A.heap.size A B->C pre B)(N:Nat)(j:∀pre x W,C pre W->pre.length<N->YieldAt Fence.wide (n-1) ZI l (oA x) W λe b=>(e=Z3 (Z1 ZV)/\C (pre++[x]) b/\eW K W b)\/(e=Z3 (Z1 ZU)/\c (pre++[x]) b))(a:a7)(m:a.length+(ah os).length<=N)(W:ZT)(f:W.cell? ⟨b1,0,U⟩=J v)(i:fA K W v os)(d:C a W):CallsIn Fence.wide n ZI 151 #[.func (.yield l) #[] #[],Z6 (J ⟨b1,0,U⟩)] W λe b=>(∃v,e=Z3 v)/\((C (a++ah os) b)\/(∃pre,pre<+:ah os/\c (a++pre) b)):=(mw K n l b1 v os C c (λ_ _=>False) g (a++ah os) (λpre x W h k=>(j pre x W h (by have:=QZ k;rw[Ua]at this;omega)).mono λe b q=>q.imp_right .inl) a (List.prefix_refl _) W f i d).mono λe b q=>q.elim id λq=>q.elim λ_ q=>q.2.elim
end
def dA(D L G:Int):Bool:=decide (1<=D/\D<=12/\1<=L/\L<=4/\0<=G/\G<=4/\D%L=0/\D+L+G<=16)
def pf{a b:Bool}(h:a=b):Ending.returned (Z1 a)=Z3 (Z1 b):=by rw[h]
theorem cU(D L G:Int)(w:ZT)(a:0<=D/\D<=100)(b:0<=L/\L<=100)(c:0<=G/\G<=100):ZQ ZI 10 #[.agg #[I O D,I O L,I O G]] w λe w'=>e=Z3 (I O (D+L+G))/\ZR w.heap.size w w':=by obtain⟨d,f⟩:=a;obtain⟨b1,b2⟩:=b;obtain⟨c1,g⟩:=c;go_enter func10,ntmps10;go_wp2;go_ret;exact⟨rfl,bA _ _⟩
theorem qX(D L G:Int)(w:ZT):ZQ ZI 76 #[.agg #[I O D,I O L,I O G]] w λe w'=>e=Z3 (Z1 (dA D L G))/\ZR w.heap.size w w':=by
 go_enter func76,ntmps76;go_wp2_with(go_at_call 10;refine(cU D L G _ V V V).mono ?_;rintro e w'⟨rfl,a⟩);all_goals go_ret
 . refine⟨pf (b:=dA D L G) ?_,(bA _ _).trans (a.mono ej)⟩;unfold dA;rw[decide_eq_decide];constructor;.intro h;exact⟨V,V,V,V,V,V,by assumption,h⟩
   .intro h;exact h.2.2.2.2.2.2.2
 all_goals refine⟨pf (b:=dA D L G) ?_,bA _ _⟩;unfold dA;symm;rw[decide_eq_false_iff_not];intro h;omega
theorem Fu(D L G:Int)(w:ZT):ZQ ZI 53 #[.agg #[I O D,I O L,I O G]] w λe w'=>e=Z3 (Z1 (dA D L G))/\ZR w.heap.size w w':=by
 go_enter func53,ntmps53;go_wp2;all_goals go_ret
 rotate_left
 . refine⟨pf (b:=dA D L G) ?_,bA _ _⟩;unfold dA;rw[decide_eq_decide];constructor;.intro h;exact⟨V,V,V,V,V,V,by assumption,h⟩
   .intro h;exact h.2.2.2.2.2.2.2
 all_goals refine⟨pf (b:=dA D L G) ?_,bA _ _⟩;unfold dA;symm;rw[decide_eq_false_iff_not];intro h;omega
theorem uF(D L G:Int)(w:ZT):ZQ ZI 7 #[.agg #[I O D,I O L,I O G]] w λe w'=>e=Z3 (.agg #[I O D,I O L,I O G])/\ZR w.heap.size w w':=by go_enter func7,ntmps7;go_wp2;exact Uv (v:=.agg #[I O D,I O L,I O G]) (by simp[results,results7,go_sem]) rfl ⟨rfl,(bA _ _).alloc ej _⟩
section
def LL(P:Program)(f l:Nat)(R:ZO->ZT->Prop):ZN->ZL->ZT->Prop|.normal,_,w=>∃v w',(Instr.endRound l U).run P w=.ok v w'/\R (Z3 v) w'|.panic ch,a,w=>a.defers=[]/\(∃fn,P.funcs[f]?=J fn)/\R (.panicked ch) w|_,_,_=>False
def CB{n:Nat}{P:Program}{l:Nat}{f:FuncId}{body:Code}{w:ZT}(r:F.fn f)(h:assign.wpIn (F.inRound l) n P (Exit.then (λg w₁=>∃w₂,(Instr.beginRound l).run P w₁=.ok () w₂/\body.wpIn (F.inRound l) n P (LL P f l R) g w₂) (λ_ _ _=>False)) {tmps:=tmps,defers:=[]} w):RoundIn F n P l f tmps assign body w R:=by
 refine⟨r,λc cs E=>?_⟩;obtain⟨b,k⟩:∃b:Frame,{(default:Frame)with fn:=f,kind:=.normal,roundOf:=J l}=b:=⟨_,rfl⟩;have A:Frame.round l f tmps assign body .normal=b.atR {tmps:=tmps,defers:=[]} [.code assign,.beginRound,.code body]:=by rw[<-k];simp[Frame.round,Frame.atR]
 have b1:b.fn=f:=by rw[<-k]
 have b2:b.roundOf=J l:=by rw[<-k]
 have b3:b.kind=.normal:=by rw[<-k]
 have j:(F.inRound l).room ((c::cs).length+1+n):=E;have i:(F.inRound l).fn b.fn:=b1▸r;obtain⟨e,g,w₁,s,o⟩:=h b [.beginRound,.code body] (c::cs) b2 i j;rw[<-A]at o;cases e with
 |normal=>obtain⟨w₂,B,y⟩:=s;have t:StepsIn (Machine.fenced P (F.inRound l)) P (lone (b.atR g [.beginRound,.code body]) (c::cs) w₁) (lone (b.atR g [.code body]) (c::cs) w₂):=.one (Yq (fr:=b.atR g [.beginRound,.code body]) i j rfl) (stepR_beginRound b2 B);obtain⟨x,q,u,d,a⟩:=y b [] (c::cs) b2 i j;cases x with|normal=>obtain⟨v,H,z,p⟩:=d;exact⟨Z3 v,H,p,(WA o t).trans (WA a (.one (Yq (fr:=b.atR q []) i j rfl) (stepR_round_end b2 b3 z)))⟩|panic m=>obtain⟨D,⟨fn,C⟩,p⟩:=d;obtain⟨todo,G⟩:=a;have hl:({b.atR q todo with mode:=.panicking m}:Frame).leaving P u (.panicked m):=⟨rfl,D,fn,by rw[<-C,<-b1];rfl⟩;exact⟨.panicked m,u,p,(WA o t).trans (WA G (.one (fenced_leaving (n:=n) i j hl) (step_leave_panicked hl)))⟩|_=>exact d.elim
 |_=>exact s.elim
section
variable {f:FuncId}{n:Nat}{P:Program}{c x y:Code}{Q:ZN->ZL->ZT->Prop}{a:ZL}{w:ZT}
def Pg(f:FuncId)(P:Program)(c:Code)(Q:ZN->ZL->ZT->Prop)(a:ZL)(w:ZT):Prop:=∀(b:Frame)(k:List Item)(cs:List Frame),b.roundOf=U->b.fn=f->∃e a' w',Q e a' w'/\ArrivesIn (Machine.fenced P Fence.wide) P (lone (b.atR a (.code c::k)) cs w) b k cs e a' w'
def jO(h:c.wpIn Fence.wide n P Q a w):Pg f P c Q a w:=λb k cs d _=>h b k cs d trivial (room_wide _)
def abQ(K:ZL->ZT->Prop)(Q:ZN->ZL->ZT->Prop):ZN->ZL->ZT->Prop|.normal,a,w=>K a w|.panic ch,a,w=>Q (.panic ch) a w|_,_,_=>False
def gS(h:Pg f P x (abQ (Pg f P y Q) Q) a w):Pg f P (.seq x y) Q a w:=λb k cs l m=>by have i:=WX P (lone (b.atR a (.code (.seq x y)::k)) cs w);obtain⟨e,n,w₁,d,j⟩:=h b (.code y::k) cs l m;cases e with|normal=>obtain⟨p,o,w₂,g,c⟩:=d b k cs l m;exact⟨p,o,w₂,g,.of_steps (.head i stepR_seq j) c⟩|panic q=>exact⟨_,n,w₁,d,.of_steps (.one i stepR_seq) (.pass (x:=.code y) rfl (λ_ _=>.inl ej) j)⟩|_=>exact d.elim
def qY{id:Nat}(h:Pg f P c (abQ (Q .normal) Q) a w):Pg f P (.block id c) Q a w:=λb k cs l m=>by have i:=WX P (lone (b.atR a (.code (.block id c)::k)) cs w);obtain⟨e,g,w₁,d,j⟩:=h b (.inBlock id::k) cs l m;cases e with|normal=>exact⟨.normal,g,w₁,d,.head i stepR_block (WA j (.one (WX P _) stepR_inBlock))⟩|panic n=>exact⟨_,g,w₁,d,.of_steps (.one i stepR_block) j⟩|_=>exact d.elim
def ln(t:P.funcs[f]?=J fn)(v:fn.body=J c)(h:Pg f P c (bodyPostM Fence.wide 0 P fn R) {tmps:=args++YH (fn.ntmps-args.size) ZY,defers:=[]} w):ZQ P f args w R:=by
 refine(Vo (n:=0)).1 ⟨trivial,λcs s=>?_⟩;obtain⟨b,q⟩:∃b:Frame,{(default:Frame)with fn:=f,kind:=.normal,roundOf:=U}=b:=⟨_,rfl⟩;have b1:b.fn=f:=by rw[<-q]
 have b2:b.roundOf=U:=by rw[<-q]
 have b3:b.kind=.normal:=by rw[<-q]
 have u:Frame.enter P f args .normal=b.atR {tmps:=args++YH (fn.ntmps-args.size) ZY,defers:=[]} [.code c]:=by rw[<-q];simp[Frame.enter,Frame.atR,t,v]
 have r:P.funcs[b.fn]?=J fn:=by rw[b1];exact t
 obtain⟨e,g,w',i,k⟩:=h b [] cs b2 b1;rw[<-u]at k;cases e with|normal=>obtain⟨j,w'',a,o,p,m,hl⟩:=adb g.defers .returning w' {b.atR g []with mode:=.returning} cs rfl rfl rfl r b3 trivial s i;exact⟨j,w'',a,o,ade (WA k (.one (WX P _) (stepR_end b2))) p,m.trans b1,hl⟩|ret=>obtain⟨todo,d⟩:=k.1 b2;obtain⟨j,w'',a,o,p,m,hl⟩:=adb g.defers .returning w' {b.atR g todo with mode:=.returning} cs rfl rfl rfl r b3 trivial s i;exact⟨j,w'',a,o,ade d p,m.trans b1,hl⟩|panic chain=>obtain⟨todo,d⟩:=k;obtain⟨j,w'',a,o,p,m,hl⟩:=adb g.defers (.panicking chain) w' {b.atR g todo with mode:=.panicking chain} cs rfl rfl rfl r b3 trivial s i;exact⟨j,w'',a,o,ade d p,m.trans b1,hl⟩|exit id=>exact i.elim|goto l=>exact i.elim|outgrown=>exact⟨.outgrown,w',b,i,k.resolve_left (by rw[b3];simp),b1,trivial⟩
def xR{g:ZJ}{ps:Array Tmp}{body:Code}{l:Nat}{mark:List Deferred}{w₁ w₁' w₂:ZT}{d:Deferred}{f':FuncId}(A:(Instr.enterLoop f a.tmps ps assign body U).run P w=.ok (l,mark) w₁)(u:(resolve a.eval (rangeCall g l) 0).run P w₁=.ok d w₁')(t:(invoke d.target d.args).run P w₁'=.ok (.enter f' args) w₂)(r:ZQ P f' args w₂ λe h=>(∃v i,e=Z3 v/\(Instr.endLoop l).run P h=.ok U i/\Q .normal {a with defers:=mark++a.defers} i)\/∃c,e=.panicked c/\Q (.panic c) {a with defers:=mark++a.defers} h):Pg f P (.rangeFunc g ps assign body) Q a w:=λb k cs x z=>by
 have m:=WX P (lone (b.atR a (.code (.rangeFunc g ps assign body)::k)) cs w);have o:=stepR_rangeFunc (P:=P) (b:=b) (a:=a) (k:=k) (cs:=cs) (w:=w) (by rw[x,z];exact A) u t;obtain⟨e,h,fr,y,q,B,p⟩:=(Vo (n:=0).2 r).2 (b.atR {a with defers:=mark++a.defers} (.inRangeFunc l::k)::cs) (room_wide _);rcases y with⟨v,i,rfl,s,j⟩|⟨c,rfl,j⟩;.refine⟨.normal,_,i,j,?_⟩;refine .head m o (WA q (.head (WX P _) ?_ (.one (WX P _) (stepR_endRangeFunc s))));rw[<-finish_atR_inRangeFunc l v];exact step_leave_returned p
 .refine⟨.panic c,_,h,j,.inRangeFunc l::k,.head m o (WA q (.one (WX P _) ?_))⟩;rw[<-Frame.raise_atR];exact step_leave_panicked p
def CC(B:Nat)(W W':ZT):Prop:=W.heap.size<=W'.heap.size/\∀k o,B<=k->W.heap[k]?=J o->o.isCells=ZU->W'.heap[k]?=J o
def CC.trans{a b c:ZT}(h:CC B a b)(k:CC B b c):CC B a c:=⟨TU h.1 k.1,λi o d f e=>k.2 i o d (h.2 i o d f e) e⟩
def CC.mono{a b:ZT}(h:CC B a b)(c:B<=B'):CC B' a b:=⟨h.1,λi o d e f=>h.2 i o (TU c d) e f⟩
def CC.SO{a b:ZT}(h:bg B a b):CC B a b:=⟨h.size,λk o d c _=>(h.block k d (TX.1 c).1).trans c⟩
def LM{σ:Type}(B:Nat)(d:σ->ZT->Prop)(Ip:List PanicEntry->ZT->Prop)(s:σ)(W:ZT):ZN->ZL->ZT->Prop|.normal,_,W'=>d s W'/\CC B W W'|.panic ch,a,W'=>a.defers=[]/\Ip ch W'/\CC B W W'|_,_,_=>False
theorem uG(m:Nat){α σ:Type}{fn:Func}(k8:P.funcs[f]?=J fn){g:ZJ}{ps:Array Tmp}{assign body:Code}{gf:Nat}{lb:Array ZS}(hg:a.eval g=.func (.func gf) #[] lb)(eg:∀args w,(callFunc gf args).run P w=.ok (.enter gf args) w){encs:α->Array ZS}(ka:∀x,(encs x).size=ps.size)(step:σ->α->σ)(R:α->Prop)(I':σ->ZT->Prop)(M:OwnFrom w.heap.size I')(O':List PanicEntry->ZT->Prop)(S:σ->Prop)(s0:σ)(h8:∀(l:Nat)(J':σ->ZT->Prop)(Jp:List PanicEntry->ZT->Prop)(W:ZT),ZR w.heap.size w W->W.heap.size=w.heap.size+2->(∀s A B,J' s A->ZR A.heap.size A B->J' s B)->(∀s A,J' s A->I' s A/\w.heap.size+2<=A.heap.size)->(∀s x c,J' s c->R x->YieldAt Fence.wide m P l (encs x) c λe i=>(e=Z3 (Z1 ZV)/\J' (step s x) i/\CC (w.heap.size+2) c i)\/∃b,e=.panicked b/\Jp b i)->J' s0 W->CallsIn Fence.wide n P gf (#[.func (.yield l) #[] #[]]++lb) W λe i=>((∃v,e=Z3 v)/\∃s,S s/\J' s i)\/∃b,e=.panicked b/\Jp b i)(h0:I' s0 w)(G:Nat->α->ZL->ZT->Prop)(hx:∀B x j A A',G B x j A->bg B A A'->G B x j A')(h1:∀(l:Nat)(s:σ)(x:α)(W:ZT)(K:ZL->ZT->Prop),I' s W->R x->(∀j i,ZR W.heap.size W i->G W.heap.size x j i->K j i)->assign.wpIn (Fence.wide.inRound l) m P (Exit.then K (λ_ _ _=>False)) {tmps:=(ps.zip (encs x)).foldl (λt(p,v)=>t.setIfInBounds p v) a.tmps,defers:=[]} W)(h7:∀(l B:Nat)(s:σ)(x:α)(j:ZL)(W:ZT),w.heap.size<=l->l<B->B<=W.heap.size->(∃r,W.heap[l]?=J (.loop r))->I' s W->R x->G B x j W->body.wpIn (Fence.wide.inRound l) m P (LM w.heap.size I' O' (step s x) W) j W)(h9:∀(D:Nat)(s:σ)(W:ZT),w.heap.size<=D->S s->I' s W->W.heap[D]?=J (.deferred (J []))->Q .normal {a with defers:={target:=.collected D,args:=#[]}::a.defers} W)(hm:∀(D:Nat)b(W:ZT),w.heap.size<=D->O' b W->W.heap[D]?=J (.deferred (J []))->Q (.panic b) {a with defers:={target:=.collected D,args:=#[]}::a.defers} W):Pg f P (.rangeFunc g ps assign body) Q a w:=by
 obtain⟨rc,u⟩:∃rc:LoopState->Loop,rc=λst=>{state:=st,pending:=U,fn:=f,tmps:=a.tmps,params:=ps,assign,body,defers:=w.heap.size}:=⟨_,rfl⟩;have T:∀s A B,I' s A->ZR A.heap.size A B->I' s B:=λs A B h o=>M s A B U h ⟨o.os,o.tape,o.output,o.size,λk hk _=>o.block k hk⟩ (λ_ e=>W8);obtain⟨c,C⟩:=nM ((w.alloc (.deferred (J []))).alloc (.loop (rc .ready)));have hq:ZR w.heap.size w c:=by rw[<-C];exact(bA w _).alloc ej _
 have kb:c.heap.size=w.heap.size+2:=by rw[<-C];simp
 have k0:c.heap[w.heap.size+1]?=J (.loop (rc .ready)):=by rw[<-C];have:=Xe (w.alloc (.deferred (J []))) (.loop (rc .ready));rwa[Um]at this
 have hz:c.heap[w.heap.size]?=J (.deferred (J [])):=by rw[<-C];exact(VS _ _ _ ej).trans (Xe w _)
 refine xR (l:=w.heap.size+1) (mark:=[{target:=.collected w.heap.size,args:=#[]}]) (w₁:=c) (d:={target:=.fn (.func gf) lb,args:=#[.func (.yield (w.heap.size+1)) #[] #[]]}) (w₁':=c) (f':=gf) (args:=#[.func (.yield (w.heap.size+1)) #[] #[]]++lb) (w₂:=c) (by rw[<-C,u];exact run_enterLoop_outer _ _ _ _ _) (by simp only[resolve,hg];simp[go_sem]) (by simp[invoke,go_sem,eg]) ((Vo (n:=n)).1 ?_);refine(h8 (w.heap.size+1) (λs W=>I' s W/\W.heap[w.heap.size+1]?=J (.loop (rc .ready))/\W.heap[w.heap.size]?=J (.deferred (J []))) (λb W=>O' b W/\W.heap[w.heap.size]?=J (.deferred (J []))) c hq kb ?_ ?_ ?_ ⟨T _ _ _ h0 hq,k0,hz⟩).mono ?_;.rintro s A B⟨q,hl,F⟩o;have z:=(TX.1 hl).1;exact⟨T _ _ _ q o,(o.block _ z).trans hl,(o.block _ V).trans F⟩
 .rintro s A⟨q,hl,_⟩;exact⟨q,(TX.1 hl).1⟩
 . rintro s x W⟨q,hl,F⟩hv;have z:w.heap.size+1<W.heap.size:=(TX.1 hl).1;have Y:=run_yield (P:=P) (args:=encs x) hl (by rw[u];exact ka x);rw[u]at Y;refine⟨f,_,assign,body,Y,CB trivial (h1 _ s x W _ q hv ?_)⟩;clear Y;intro j H N k5;have V':=(N.block _ z).trans hl;have k7:=(N.block _ V).trans F;have hj:w.heap.size+1<H.heap.size:=(TX.1 V').1;refine⟨_,run_beginRound V' (by rw[u]),?_⟩;obtain⟨L,y⟩:=nM (H.putObj (w.heap.size+1) (.loop {rc .ready with state:=.busy}));have hn:bg (w.heap.size+2) W L:=by rw[<-y];exact((bg.RM N).trans ((bg.refl _ H).putObj (.inl V) _))
   have hs:L.heap[w.heap.size+1]?=J (.loop {rc .ready with state:=.busy}):=(by rw[<-y];exact Yr hj);have hr:L.heap[w.heap.size]?=J (.deferred (J [])):=(by rw[<-y];exact(UI V).trans k7);rw[y];refine wpIn_mono (h7 _ W.heap.size s x j L V z hn.size ⟨_,hs⟩ (by rw[<-y];exact M.putObj _ (T _ _ _ q N) V V' rfl) hv (hx _ _ _ _ _ k5 (by rw[<-y];exact(bg.refl _ H).putObj (.inl z) _))) ?_;rintro e a3 W3 X;cases e with
   |normal=>
    obtain⟨k9,E⟩:=X;have U':=E.2 _ _ V hs rfl;have k6:=E.2 _ _ lR hr rfl;have hh:=(TX.1 U').1;refine⟨_,_,run_endRound (P:=P) U U',.inl ⟨rfl,⟨M.putObj _ k9 V U' rfl,?_,(UI V).trans k6⟩,?_⟩⟩;.rw[Yr hh,u];rfl
    .exact((CC.SO hn).trans (E.mono V)).trans (CC.SO ((bg.refl _ W3).putObj (.inl V) _))|panic b=>obtain⟨Z,q2,E⟩:=X;exact⟨Z,⟨fn,k8⟩,.inr ⟨b,rfl,q2,E.2 _ _ lR hr rfl⟩⟩|_=>exact X.elim
 . rintro e W2(⟨⟨v,rfl⟩,s,hS,q,hl,F⟩|⟨b,rfl,Z,q2⟩);.have z:=(TX.1 hl).1;exact .inl ⟨v,_,rfl,by have:=run_endLoop (P:=P) hl (by rw[u];simp);rw[u]at this;exact this,h9 _ s _ lR hS (M.putObj _ q V hl rfl) ((UI V).trans F)⟩
   .exact .inr ⟨b,rfl,hm _ b _ lR Z q2⟩
end
end
def gdz(a:α)(l:List α)(d:α):(a::l).getD 0 d=a:=rfl
def gds(a:α)(l:List α)(n:Nat)(d:α):(a::l).getD (n+1) d=l.getD n d:=rfl
theorem aag{a:ZL}{x:ZJ}{ad:ZP}(ho:o.op=.nilCheck x)(b:a.eval x=Z6 (J ad))(w:ZT):(execOp a.eval o).run P w=.ok (.value (Z6 (J ad))) w:=by simp only[execOp,ho,b];go_simp
def kq{D:Nat->Bool}{d:Nat->ZS->Prop}:∀j u,D j=ZV->d j u->d j u:=λ_ _ _ q=>q
def mx(a:Array ZK)(b:ZK)(x y:Int)(w:ZT):(Builtin.max_ a b #[I O x,I O y]).run P w=.ok (I O (if y>x then y else x)) w:=by simp[Builtin.max_,Builtin.max2]
def jz(a:Array ZK)(b:ZK)(x y:Int)(w:ZT):(Builtin.min_ a b #[I O x,I O y]).run P w=.ok (I O (if y<x then y else x)) w:=by simp[Builtin.min_,Builtin.min2]
section
attribute [local go_sem] Oper.semAt_some
abbrev Mb(s:Nat):={x:Nat//x<16/\s.testBit x=ZV}
def ph{s:Nat}(x:Mb s):Array ZS:=#[I O (x.1:Int)]
def dF{s:Nat}(pre:List (Mb s)):a7:=pre.map (·.1)
def fR(pre:List (Mb s))(x:Mb s):dF (pre++[x])=dF pre++[x.1]:=by unfold dF;simp
def pj(h:n<=16):ae (2^n-1)=YE n:=by have:∀k:Fin 17,ae (2^k.1-1)=YE k.1:=ec;exact this ⟨n,V⟩
theorem pr(n:Nat){m:Nat}(l Bs s:Nat)(E:s<65536)(Z j:List (Mb s)->ZT->Prop)(i:List PanicEntry->ZT->Prop)(C:∀pre x W,Z pre W->pre.length<(ae s).length->YieldAt Fence.wide m ZI l (ph x) W λe a=>(e=Z3 (Z1 ZV)/\Z (pre++[x]) a/\(aI W->aI a))\/(e=Z3 (Z1 ZU)/\j (pre++[x]) a)\/∃d,e=.panicked d/\i d a)(W:ZT)(N:W.cell? ⟨Bs,0,U⟩=J (I Z8 s))(B:aI W)(t:Z [] W):CallsIn Fence.wide n ZI 154 #[.func (.yield l) #[] #[],Z6 (J ⟨Bs,0,U⟩)] W λe a=>((∃v,e=Z3 v)/\((∃r,r.map (·.1)=ae s/\Z r a)\/(∃pre,pre.map (·.1)<+:ae s/\j pre a)))\/∃d,e=.panicked d/\i d a:=by
 refine Xl func154 rfl trivial ?_ rfl;simp only[ntmps154,UK,UC,U0,YP,YQ,Vf,Vg,Vh,Vi,Ut,U1];gi_wp2;gi_loopw[3](λp wr=>∃(pre:List (Mb s))(q:Nat),p=I Z8 q/\q<65536/\ae s=pre.map (·.1)++ae q/\Z pre wr/\aI wr)(λp _=>(intOf p).toNat);case atStart=>exact⟨[],s,rfl,E,rfl,t,B⟩
 case round=>
  obtain⟨pre,q,rfl,c,f,k,o⟩:=hrel;by_cases b:q=0;. subst b;gi_wp2;go_end0;exact .inl ⟨⟨_,rfl⟩,.inl ⟨pre,by rw[f,yU,Wj],k⟩⟩
  . have H:((q:Int)!=0)=ZV:=ek;have g:pd q<16/\s.testBit (pd q)=ZV:=bL.1 ZF;obtain⟨fn,tmps,assign,body,F,A⟩:=C pre ⟨pd q,g⟩ wr k ZF;unfold ph at F;gi_wp2;refine cM (LG q b c wr o) ?_;rintro e w'⟨rfl,rfl⟩;gi_wp2;refine⟨λh=>Bf,(qT A).mono ?_⟩;rintro e G(⟨rfl,w,y⟩|⟨rfl,u⟩|⟨d,rfl,z⟩)
    . have K:IntKind.u64.wrap ((q:Int)-1)=((q-1:Nat):Int):=K1;have D:=fY q (q-1) V V;rw[Hm b c]at D;gi_wp2;go_roundw;case rel=>exact⟨pre++[⟨pd q,g⟩],dI q (pd q),rfl,qW _ _ c,ZF,w,y o⟩
      case measure=>have:=pe b c;simp only[intOf];omega
    .gi_wp2;refine Uv (XD rfl _ _ _) rfl ?_;exact .inl ⟨⟨_,rfl⟩,.inr ⟨pre++[⟨pd q,g⟩],ZF,u⟩⟩
    .exact⟨rfl,.inr ⟨d,rfl,z⟩⟩
def Fv(n Bs s:Nat)(j:s<65536)(w:ZT)(f:Bs<w.heap.size)(i:w.cell? ⟨Bs,0,U⟩=J (I Z8 s))(r:3<=w.heap.size)(g:aI w):SeqStopsK Fence.wide n ZI 154 #[Z6 (J ⟨Bs,0,U⟩)] (ph (s:=s)) Ho (λo=>o.map (·.1)=ae s) (λpre=>pre.map (·.1)<+:ae s) (ae s).length w:=λl C b W a _ _ h d=>(pr n l Bs s j C b (λ_ _=>False) (λpre x W k m=>(h pre x W k m).mono λe c q=>q.imp_right .inl) W ((a.cell (p:=⟨Bs,0,U⟩) f).trans i) (g.mono V a) d).mono λe c q=>q.elim id λq=>q.elim λ_ q=>q.2.elim
end
def CD(h:k<64):2^k<18446744073709551616:=TY (VC ec h) lR
theorem fE(x k:Nat)(c:x<18446744073709551616)(d:k<=60)(w:ZT):ZQ ZI 106 #[I Z8 x,I O k] w λe w'=>e=Z3 (I Z8 ((x|||2^k:Nat):Int))/\w'=w:=by
 have key:bits .or .u64 (x:Int) (IntKind.u64.wrap (2^k))=((x|||2^k:Nat):Int):=by
  have b:=CD (k:=k) V;have e:((2:Int)^k)=((2^k:Nat):Int):=by rw[WW];rfl
  have a:IntKind.u64.wrap (2^k)=((2^k:Nat):Int):=by rw[e,U7];generalize 2^k=q at*;omega
  rw[a];exact Yz x (2^k) c b
 go_enter func106,ntmps106;go_wp2;go_ret;exact⟨rfl,rfl⟩
def ti(c j:Nat):Nat:=if j<16 then gm c j else gm c ((j-16)*16)
def tv(f:Nat->Nat)(j:Nat):ZS:=I .u8 ((f j:Nat):Int)
def aah{x:Int}(a b:Nat)(f:x=(a:Int))(g:y=(b:Int))(c:a<256)(d:b<256)(w:ZT):ZQ ZI 200 #[I .u8 x,I .u8 y] w λe w'=>e=Z3 (I .u8 ((gm a b:Nat):Int))/\w'=w:=by subst f g;exact m9 a b c d w
def gB(c n j:Nat):Nat:=if j<n then gm c j else 0
def OZ(q:Nat):Prop:=q=1\/q=2\/q=4\/q=8\/q=16
def aco(w:ZT)(B c:Nat)(i d:ZS)(wr:ZT):Prop:=∃q:Nat,OZ q/\i=I O q/\d=I .u8 ((gm c q:Nat):Int)/\wr.rowIs (B+1) 265 16 (tv (gB c q))/\wr.rowIs B 265 16 (λ_=>I .u8 0)/\ZR B w wr
def Q0(w:ZT)(B c q:Nat)(i:ZS)(wr:ZT):Prop:=∃k:Nat,k<=q/\i=I O k/\wr.rowIs (B+1) 265 16 (tv (gB c (q+k)))/\wr.rowIs B 265 16 (λ_=>I .u8 0)/\ZR B w wr
def LN(w:ZT):(w.alloc (Z4 (YH 16 (I .u8 0)) 265)).rowIs w.heap.size 265 16 (λ_=>I .u8 0):=by have h:=adf w (YH 16 (I .u8 0)) 265 (λ_=>I .u8 0) (λi a=>by simp at a;simp[a]);simpa using h
def aai(w:ZT):(w.alloc (Z4 (YH 32 (I .u8 0)) 326)).rowIs w.heap.size 326 32 (λ_=>I .u8 0):=by have h:=adf w (YH 32 (I .u8 0)) 326 (λ_=>I .u8 0) (λi a=>by simp at a;simp[a]);simpa using h
def LO:∀i,i<1->i^^^1=1+i:=ec
def LP:∀i,i<2->i^^^2=2+i:=ec
def LQ:∀i,i<4->i^^^4=4+i:=ec
def LR:∀i,i<8->i^^^8=8+i:=ec
def Ph(a:OZ q)(b:q<16)(h:i<q):i^^^q=q+i:=by
 rcases a with rfl|rfl|rfl|rfl|rfl;.exact LO i h
 .exact LP i h
 .exact LQ i h
 .exact LR i h
 .omega
def aaj:∀c,c<256->tx (gm c 1)=gm c 2:=Ax
def aak:∀c,c<256->tx (gm c 2)=gm c 4:=Ax
def aal:∀c,c<256->tx (gm c 4)=gm c 8:=Ax
def aam:∀c,c<256->tx (gm c 8)=gm c 16:=Ax
def abR(b:OZ q)(d:q<16)(a:c<256):tx (gm c q)=gm c (q*2):=by
 rcases b with rfl|rfl|rfl|rfl|rfl;.exact aaj c a
 .exact aak c a
 .exact aal c a
 .exact aam c a
 .omega
def LS(b:OZ q)(a:q<16):OZ (q*2):=by unfold OZ at*;omega
def Fw(f:OZ q)(d:q<16)(e:k<q)(j:Nat):tv (gB c (q+(k+1))) j=if j=q+k then I .u8 ((gB c (q+k) k^^^gm c q:Nat):Int)else tv (gB c (q+k)) j:=by
 unfold tv gB;by_cases a:j=q+k;.rw[TT a,TT V,TT V,<-eU,Ph f d e,a]
 . rw[TS a];by_cases b:j<q+k;.rw[TT b,TT V]
   .rw[TS b,TS V]
def qZ{f:Nat->Nat}(b:cs.size=n)(h:∀j,j<n->cs[j]?=J (tv f j)):cs.all (λv=>v.oneCell')=ZV:=by rw[X4];intro i a;have:=h i V;rw[V3 a]at this;simp at this;rw[this];rfl
def Jd{x:Int}(a:Nat)(b:x=(a:Int))(h:a<256)(w:ZT):ZQ ZI 213 #[I .u8 x] w λe w'=>e=Z3 (I .u8 (tx a:Int))/\w'=w:=by subst b;exact oz a h w
theorem LU(c n j:Nat)(a:c<256):gB c n j<256:=by
 unfold gB;split;.exact aV _ a
 .decide
def Tryz.SD:(ZI.info? 265).map (λi=>i.size)=J 16:=ee
theorem nS(c:Nat)(m:c<256)(w:ZT):ZQ ZI 220 #[I .u8 c] w λe w'=>∃cs:Array ZS,e=Z3 (.agg cs)/\cs.size=16/\(∀j,j<16->cs[j]?=J (tv (gB c 16) j))/\ZR w.heap.size w w':=by
 go_enter func220,ntmps220;go_wp2;go_loopw[4,0](λi d wr=>aco w w.heap.size c i d wr)(λi _ _=>16-(intOf i).toNat);case atStart=>
  refine⟨1,.inl rfl,rfl,by rw[cT c m],?_,?_,?_⟩
  . have h:=LN (w.alloc (Z4 (YH 16 (I .u8 0)) 265));rw[Uh]at h;refine h.congr λj R=>?_;unfold tv gB;by_cases e:j<1;.rw[TT e,(V:j=0),bm];rfl
    .rw[TS e];rfl
  .exact(LN w).alloc _
  .exact(bA _ _).alloc G0 _
 case round=>
  obtain⟨q,x,rfl,rfl,b,f,g⟩:=hrel;have A:q<=16:=by unfold OZ at x;omega
  have B:gm c q<256:=aV _ m;by_cases t:q<16
  . have X:q<=8:=(by unfold OZ at x;omega);have l:=ak x;have D:=ak (show Q0 w w.heap.size c q (I O (0:Nat)) wr from⟨0,T8 _,rfl,b,f,g⟩);have Y:(q:Int)<16:=V;rename ZT=>wo;go_wp2;go_loopw[11](λi wr=>Q0 w w.heap.size c q i wr)(λi _=>q-(intOf i).toNat);case atStart=>exact D.o
    case round=>
     obtain⟨k,W,rfl,b,f,g⟩:=hrel;by_cases O':k<q
     . have c1:=b.cell (i:=k) V;have G:=b.cell (i:=q+k) V;have U':=b.frozen (q+k);have S:=LU c (q+k) k m;have hy:=mv _ _ S B;have I':=(b.set (q+k) (I .u8 ((gB c (q+k) k^^^gm c q:Nat):Int))).congr (λj R=>(Fw l.o t O' j).symm);have J':=f.setOther (a:=⟨w.heap.size+1,q+k,U⟩) ej (I .u8 ((gB c (q+k) k^^^gm c q:Nat):Int));have K:=g.setCell (p:=⟨w.heap.size+1,q+k,U⟩) ej (I .u8 ((gB c (q+k) k^^^gm c q:Nat):Int));have n:=au I' J' K;unfold tv at c1 G;have M:(k:Int)<q:=V;have V':(k:Int)<16:=V;have Z:(q:Int)+(k:Int)<16:=V;have hx:IntKind.i64.wrap ((q:Int)+(k:Int))=((q+k:Nat):Int):=l7;have hv:wrap64 ((q:Int)+(k:Int))=((q+k:Nat):Int):=D2;go_wp2;go_roundw;case rel=>exact⟨k+1,V,eT,n.o.1,n.o.2.1,n.o.2.2⟩
       case measure=>simp[intOf];omega
     . have N:k=q:=V;have s:=au b f g;have M:¬((k:Int)<q):=V;go_wp2_with fail;refine(Jd (gm c q) rfl B _).mono ?_;rintro e w'⟨rfl,rfl⟩;go_wp2;go_roundw;case rel=>exact⟨q*2,LS l.o t,eT,by rw[abR l.o t m],by have:=s.o.1;rwa[N,(V:q+q=q*2)]at this,s.o.2.1,s.o.2.2⟩
       case measure=>have P:=l.o;unfold OZ at P;simp only[intOf];omega
  . have A:q=16:=V;subst A;obtain⟨cs,L,u,z⟩:=b;obtain⟨C,T,hz,_⟩:=f;have H:=qZ u z;have F:=ak z;have Q:(ZI.info? 265).map (λi=>i.size)=J cs.size:=(by rw[Tryz.SD,u]);have r:=ak Q;have E:=ak L;have y:=ak T;go_wp2_with(first|refine acG rfl 265 (Z0 3) rfl (w.heap.size+1) rfl 265 cs (0,0) _ E.o X5 rfl r.o ?_|refine Wy rfl 265 (Z0 2) (Z0 26) rfl w.heap.size cs rfl rfl 265 C y.o r.o V H ?_);exact Uv (v:=.agg cs) (Wl results220 _ _ w.heap.size 265 cs (0,0) _ rfl (Vw _ _ C cs _ _ y.o) X5 rfl r.o) rfl ⟨cs,rfl,u,F.o,below_setRow g lR cs⟩
def Tryz.Sz:(ZI.info? 326).map (λi=>i.size)=J 32:=ee
theorem Je(c j:Nat)(a:c<256)(b:j<32):(if j<16 then gB c 16 j else gB (gm c 16) 16 (j-16))=ti c j:=by
 unfold gB ti;by_cases h:j<16;.rw[TT h,TT h,TT h]
 . rw[TS h,TS h,TT V,bj a ec V];congr 1;have:∀x,x<16->gm 16 x=x*16:=by decide+kernel
   exact this _ V
def sG(c:Nat):Array ZS:=((YE 32).map (λj=>Value.int .u8 ((if j<16 then gB c 16 j else gB (gm c 16) 16 (j-16):Nat):Int))).toArray
def lu(c:Nat):(sG c).size=32:=by unfold sG;rw[UK,Uf,Vj]
def yX(c j:Nat)(b:c<256)(a:j<32):(sG c)[j]?=J (tv (ti c) j):=by unfold sG tv;simp only[XE,UJ,WE a,X6,Je c j b a]
def Fx(c:Nat):(ZI.info? 326).map (λi=>i.size)=J (sG c).size:=by rw[lu,Tryz.Sz]
def CE{f:Nat->Nat}(b:cs.size=16)(h:∀j,j<16->cs[j]?=J (tv f j)):cs=#[tv f 0,tv f 1,tv f 2,tv f 3,tv f 4,tv f 5,tv f 6,tv f 7,tv f 8,tv f 9,tv f 10,tv f 11,tv f 12,tv f 13,tv f 14,tv f 15]:=by
 have e:cs=((YE 16).map (tv f)).toArray:=by refine Array.ext adV λi a c=>?_;have:=h i V;rw[V3 a]at this;simp at this⊢;exact this
 exact e
theorem my(c:Nat)(a:c<256)(w:ZT):ZQ ZI 207 #[I .u8 c] w λe w'=>∃cs:Array ZS,e=Z3 (.agg cs)/\cs.size=32/\(∀j,j<32->cs[j]?=J (tv (ti c) j))/\ZR w.heap.size w w':=by have C:=aai w;have E:gm c 16<256:=aV _ a;go_enter func207,ntmps207;go_wp2_with fail;refine(nS c a _).mono ?_;rintro e w1⟨s,rfl,y,u,b⟩;obtain rfl:=CE y u;simp only[tv];go_wp2_with fail;refine(aah c 16 rfl rfl a ec _).mono ?_;rintro e w'⟨rfl,rfl⟩;go_wp2_with fail;refine(nS (gm c 16) E _).mono ?_;rintro e w2⟨t,rfl,z,x,n⟩;obtain rfl:=CE z x;simp only[tv];obtain⟨d,B,D,_⟩:=C;have A:w2.heap[w.heap.size]?=J (Z4 d 326 (0,0)):=(n.block _ (by have:=b.size;rw[Uh]at this;omega)).trans ((b.block _ G0).trans B);have l:=ak A;have q:cL (ZR w.heap.size w w2):=ak (((bA w _).trans (b.mono G0)).trans (n.mono (by have:=b.size;rw[Uh]at this;omega)));have f:=ak (Fx c);have k:cL (d.size=(sG c).size):=ak (by rw[D,lu]);have h:=ak (qZ (lu c) (λj g=>yX c j a g));have i:cL (∀j,j<32->(sG c)[j]?=J (tv (ti c) j)):=ak (λj g=>yX c j a g);have m:=ak (lu c);obtain⟨cs,p⟩:=nM (sG c);rw[p]at f k h i m;have r:=ak p;go_wp2_with(refine Wy rfl 326 (Z0 2) (Z0 8) rfl w.heap.size cs rfl (by rw[<-r.o];rfl) 326 d l.o f.o k.o h.o ?_);refine Uv (v:=.agg cs) (Wl results207 _ _ w.heap.size 326 cs (0,0) _ rfl (Vw _ _ d cs _ _ l.o) underlying326 rfl f.o) rfl ?_;exact⟨cs,rfl,m.out,i.o,below_setRow q.o lR _⟩
def nj(w:ZT)(t c:Nat):Prop:=∀j,j<32->w.cell? ⟨t,j,U⟩=J (tv (ti c) j)
def Pi:∀b,b<256->b=(b%16)^^^(b/16*16):=Ax
def LV(c b:Nat)(a:b<256):ti c (b%16)^^^ti c (16+b/16)=gm c b:=by unfold ti;rw[TT V,TS V,WB,<-eU,<-Pi b a]
theorem Hp(c j:Nat)(a:c<256):ti c j<256:=by unfold ti;split<;>exact aV _ a
def abS(b:Nat)(a:b<256):bits .and .u8 (b:Int) 15=((b%16:Nat):Int):=by rw[u8_and15 _ V V];rfl
theorem yY(t c b:Nat)(d:c<256)(a:b<256)(w:ZT)(f:nj w t c):ZQ ZI 208 #[Z6 (J ⟨t,0,U⟩),I .u8 b] w λe w'=>e=Z3 (I .u8 ((gm c b:Nat):Int))/\∃m,w'=w.drewN m:=by have c1:=f (b%16) V;have g:=f (16+b/16) V;have j:=Hp c (b%16) d;have k:=Hp c (16+b/16) d;have h:=LV c b a;have l:=abS b a;have i:=mv _ _ j k;unfold tv at c1 g;rw[h]at i;go_enter func208,ntmps208;go_wp2;go_quiet(fail);go_wp2;go_ret;exact⟨rfl,_,rfl⟩
def iF(g F:Nat->Nat)(c off k j:Nat):Nat:=if off<=j/\j<off+k then g j^^^gm c (F (j-off))else g j
def AdR(w:ZT)(b t N off k c tb fb foff:Nat)(g F:Nat->Nat)(i:ZS)(wr:ZT):Prop:=∃j:Nat,j<=k/\i=I O j/\wr.rowIs b t N (tv (iF g F c off j))/\nj wr tb c/\(∀i,i<k->wr.cell? ⟨fb,foff+i,U⟩=J (I .u8 ((F i:Nat):Int)))/\w.grownBy wr (J b)
def Fy(g F:Nat->Nat)(c off j x:Nat):tv (iF g F c off (j+1)) x=if x=off+j then I .u8 ((g (off+j)^^^gm c (F j):Nat):Int)else tv (iF g F c off j) x:=by
 unfold tv iF;by_cases h:x=off+j;.subst h;rw[TT rfl,TT V,WB]
 . rw[TS h];by_cases a:off<=x/\x<off+j;.rw[TT a,TT V]
   .rw[TS a,TS V]
theorem Fz(g F:Nat->Nat)(c off:Nat):iF g F c off 0=g:=by funext j;unfold iF;rw[TS V]
theorem FA(g F:Nat->Nat)(off k:Nat):iF g F 0 off k=g:=by funext j;unfold iF;rw[bO,UX];split<;>rfl
def sH{t:Nat}(h:nj w t c){a:ZP}(b:t≠a.block)(v:ZS):nj (w.setCell a v) t c:=λj d=>by rw[<-h j d];exact Uk (Uc _ _ _ _ b)
def oC(w:ZT){ops:Array ZM}{rest:List ZM}{o:ZM}{a:ZL}{Q:ZN->ZL->ZT->Prop}(h:o.guard=U)(x y:ZJ)(ho:o.op=.store 326 x y)(g c:Nat)(cs old:Array ZS)(m:a.eval x=Z6 (J ⟨g,0,U⟩))(n:a.eval y=.agg cs)(f:w.heap[g]?=J (Z4 old 326 (0,0)))(hold:old.size=32)(d:cs.size=32)(b:∀j,j<32->cs[j]?=J (tv (ti c) j))(hK:∀w2,nj w2 g c->w.grownBy w2 (J g)->wpList ZI ops Q rest (a.put o.dst ZY) w2):wpList ZI ops Q (o::rest) a w:=by
 refine Wy h 326 x y ho g cs m n 326 old f (by rw[Tryz.Sz,d]) V (qZ d b) (hK _ ?_ ?_);.intro j l;rw[cell_of_row _ g j cs 326 (0,0) (Vw w g old cs _ _ f)];exact b j l
 .refine⟨rfl,rfl,rfl,ej,λk p i=>?_⟩;have:g≠k:=λe=>i V2;simp[World.setRow,Vb,this]
theorem jP(b t N off n cap l d r c:Nat)(g F:Nat->Nat)(w:ZT)(C:c<256)(A:w.rowIs b t N (tv g))(O':∀j,g j<256)(J':∀j,F j<256)(hn:off+n<=N)(k5:n<=140737488355328)(T:∀i,i<n->w.cell? ⟨l,d+i,U⟩=J (I .u8 ((F i:Nat):Int)))(k6:l≠b\/d+n<=off\/off+n<=d):ZQ ZI 186 #[Z5 (J ⟨b,off,U⟩) n cap,Z5 (J ⟨l,d,U⟩) n r,I .u8 c] w λe w'=>e=Z3 (ZZ #[])/\w'.rowIs b t N (tv (iF g F c off n))/\w.grownBy w' (J b):=by
 by_cases H:c=0;.subst H;go_enter func186,ntmps186;go_wp2;exact Uv (v:=ZZ #[]) ZB rfl ⟨rfl,by rw[FA];exact A,Wx _ _⟩
 . have kc:((c:Int)==0)=ZU:=vy;clear H;go_enter func186,ntmps186;go_wp2_with fail;refine(my c C _).mono ?_;rintro e w1⟨cs,rfl,ka,I',p⟩;have k9:=p.size;go_wp2_with(refine oC _ rfl (Z0 6) (Z0 11) rfl w1.heap.size c cs _ rfl rfl (UD w1 _) rfl ka I' ?_;intro w2 M q);have P:b<w.heap.size:=A.lt;have h:w.grownBy w2 U:=by
    refine⟨q.os.trans p.os,q.tape.trans p.tape,q.output.trans p.output,?_,λk E _=>?_⟩;.have:=q.size;rw[Uh]at this;omega
    .rw[q.block k G0 (by intro e;simp at e;omega),UE _ _ _ V,p.block k E]
   have V':w2.rowIs b t N (tv g):=A.of_block (h.block b P ej);have R:∀i,i<n->w2.cell? ⟨l,d+i,U⟩=J (I .u8 ((F i:Nat):Int)):=λi D=>by have:=T i D;exact h.cell this ej
   have Y:w.grownBy w2 (J b):=⟨h.os,h.tape,h.output,h.size,λk E _=>h.block k E ej⟩;have kb:w1.heap.size≠b:=V;clear q h A T I' p k9 P;go_loopw[17](λi wr=>AdR w b t N off n c w1.heap.size l d g F i wr)(λi _=>n-(intOf i).toNat);case atStart=>exact⟨0,T8 _,rfl,by rw[Fz];exact V',M,R,Y⟩
   case round=>
    clear M R Y V';obtain⟨j,Q,rfl,s,u,z,B⟩:=hrel;by_cases k8:j<n
    . have c1:=s.cell (i:=off+j) V;have f1:=s.frozen (off+j);have c2:=z j k8;have G:tv (iF g F c off j) (off+j)=I .u8 ((g (off+j):Nat):Int):=(by unfold tv iF;rw[TS V]);rw[G]at c1;have W:=mv (g (off+j)) (gm c (F j)) (O' _) (aV _ C);have X:=(s.set (off+j) (I .u8 ((g (off+j)^^^gm c (F j):Nat):Int))).congr (λx _=>(Fy g F c off j x).symm);have L:=sH u (a:=⟨b,off+j,U⟩) kb (I .u8 ((g (off+j)^^^gm c (F j):Nat):Int));have U':=fq B (off+j) (I .u8 ((g (off+j)^^^gm c (F j):Nat):Int));have S:∀i,i<n->(wr.setCell ⟨b,off+j,U⟩ (I .u8 ((g (off+j)^^^gm c (F j):Nat):Int))).cell? ⟨l,d+i,U⟩=J (I .u8 ((F i:Nat):Int)):=λi D=>by
       rw[<-z i D];by_cases k0:l=b;.exact adg _ _ _ _ (by intro e;have h1:off+j=d+i:=Uy Addr.off e;omega)
       .exact Uk (Uc _ _ _ _ k0)
      have K:=J' j;have f:=aE X L S U';have Z:=ak u;generalize F j=y at c2 W K f;generalize g (off+j)=x at c1 W f;clear G X L U' S s u z B O' J';go_wp2;go_region_with((go_at_call 208;refine(yY w1.heap.size c y C K _ (by exactλj Q=>Z.o j Q)).mono ?_;rintro e w'⟨rfl,m,rfl⟩));all_goals
       go_wp2;go_roundw;case rel=>exact⟨j+1,V,eT,f.o.1,f.o.2.1,f.o.2.2.1,⟨f.o.2.2.2.os,f.o.2.2.2.tape,f.o.2.2.2.output,f.o.2.2.2.size,f.o.2.2.2.block⟩⟩
       case measure=>simp[intOf];omega
    . have k7:j=n:=V;subst k7;clear u z;go_wp2;go_end0;exact⟨rfl,s,B⟩
theorem xS(h ao:Option ZP)(cap a c:Nat)(w:ZT)(n:c<256):ZQ ZI 186 #[.slice h 0 cap,.slice ao 0 a,I .u8 c] w λe w'=>e=Z3 (ZZ #[])/\ZR w.heap.size w w':=by
 by_cases d:c=0;.subst d;go_enter func186,ntmps186;go_wp2;exact Uv (v:=ZZ #[]) ZB rfl ⟨rfl,TW _ _⟩
 . have p:((c:Int)==0)=ZU:=vy;clear d;go_enter func186,ntmps186;go_wp2_with fail;refine(my c n _).mono ?_;rintro e w1⟨cs,rfl,m,f,b⟩;have l:=b.size;go_wp2_with(refine oC _ rfl (Z0 6) (Z0 11) rfl w1.heap.size c cs _ rfl rfl (UD w1 _) rfl m f ?_;intro w2 i g);have j:ZR w.heap.size w w2:=by refine(b.trans ((TW _ _).alloc l _)).grown g G0 (λk o=>by simp at o;omega)
   clear g i f b;refine VD 1 ?_;rw[Vx];go_wp2;go_end0;exact⟨rfl,j⟩
def AP(b ao:Option ZP)(n m cap a c:Nat)(w:ZT)(g:n=0)(f:m=0)(d:c<256):ZQ ZI 186 #[.slice b n cap,.slice ao m a,I .u8 c] w λe w'=>e=Z3 (ZZ #[])/\ZR w.heap.size w w':=by subst g f;exact xS b ao cap a c w d
def Pj(row:a7)(D:List a7):Nat->Nat->Nat|0,_=>0|t+1,k=>Pj row D t k^^^gm (row.getD t 0) ((D.getD t []).getD k 0)
def dg(row:a7)(D:List a7)(n t:Nat):a7:=(YE n).map (Pj row D t)
def gE(row:a7)(D:List a7)(n t:Nat):(dg row D n t).length=n:=by simp[dg]
theorem CG(row:a7)(D:List a7)(n:Nat):dg row D n 0=YF n 0:=by
 unfold dg;apply Ve;.simp
 .intro j a b;simp[Pj]
def aan(row:a7)(D:List a7)(a:∀x∈row,x<256)(t k:Nat):Pj row D t k<256:=by induction t with|zero=>exact(by decide:(0:Nat)<256)|succ t ih=>exact ld ih (aV _ (dM a t))
def rh(row:a7)(D:List a7)(a:∀x∈row,x<256)(n t:Nat):∀x∈dg row D n t,x<256:=by intro x b;obtain⟨k,_,rfl⟩:=T9.1 b;exact aan row D a t k
def uH(row:a7)(D:List a7)(n t k:Nat)(a:k<n):(dg row D n t).getD k 0=Pj row D t k:=by simp[dg,a]
def CH(row:a7)(D:List a7)(n t j:Nat)(a:j<n):tv (iF (λi=>(dg row D n t).getD i 0) (λi=>(D.getD t []).getD i 0) (row.getD t 0) 0 n) j=vb (dg row D n (t+1)) j:=by unfold tv vb iF;rw[TT V,uH _ _ _ _ _ a];show Value.int .u8 (((dg row D n t).getD j 0^^^gm (row.getD t 0) ((D.getD t []).getD (j-0) 0):Nat):Int)=_;rw[uH _ _ _ _ _ a,Yx];rfl
def CbR(w:ZT)(row:a7)(D:List a7)(n:Nat)(i:ZS)(wr:ZT):Prop:=∃t:Nat,t<=row.length/\i=I O t/\aM wr w.heap.size (dg row D n t)/\ZR w.heap.size w wr
theorem CJ(vr vd:ZS)(row:a7)(D:List a7)(n:Nat)(w:ZT)(V':Bs w vr row)(hd:Rd w vd D)(hn:n<=4096)(y:∀i(U':i<D.length),(D[i]).length=n)(r:row.length=D.length)(A:0<D.length):ZQ ZI 191 #[vr,vd] w λe w'=>∃b,e=Z3 (Z5 (J ⟨b,0,U⟩) n n)/\w.heap.size<=b/\aM w' b (dg row D n D.length)/\ZR w.heap.size w w':=by
 have kc:=V'.lt;obtain⟨ao,cr,rfl,h1,h2,_,O'⟩:=V';obtain⟨rb,h,rfl,kb⟩:=O' (by intro e;rw[e]at r;simp at r;omega);rcases hd.cases with⟨rfl,_⟩|⟨b,off,c,rfl,hl,B⟩;.simp at A
 obtain⟨u0,G,kf⟩:=B 0 A;obtain⟨km,c0,rfl,l1,l2,_,_⟩:=kf;have f:=y 0 A;rw[f]at G;have HR:=ak kb;have HC:=ak B;have J':=ak y;have P:=ak r;clear kb B y r h1 h2 O' f l1 l2;rw[VO]at G;go_enter func191,ntmps191;go_wp2_with(at_make;refine dq _ rfl (Z0 11) (Z0 11) rfl _ n rfl rfl rfl V ?_;intro w1 z Q hz;clear hz);rw[<-CG row D n]at z;clear G;go_loopw[15](λi wr=>CbR w row D n i wr)(λi _=>row.length-(intOf i).toNat);case atStart=>exact⟨0,T8 _,rfl,z,Q⟩
 case round=>
  clear z Q;rename ZT=>wo;obtain⟨t,ht,rfl,d,g⟩:=hrel;have kk:=d.lt;by_cases k9:t<row.length
  . have s:t<D.length:=(by rw[<-P.out];exact k9);have c1:=HR.o t k9;have ko:wo.cell? ⟨rb,h+t,U⟩=J (I .u8 ((row.getD t 0:Nat):Int)):=(by rw[g.cell (Ue c1)];exact c1);obtain⟨u,H,kg⟩:=HC.o t s;obtain⟨fo,N,rfl,q1,q2,q3,I'⟩:=kg;have kj:wo.cell? ⟨b,off+t,U⟩=J (.slice fo (D[t]).length N):=(by rw[g.cell (Ue H)];exact H);rw[J'.o t s]at kj;have k5:=dM kc t;have k7:D.getD t []=D[t]:=(by simp[s]);have q:=CH row D n t;rw[k7]at q;have Z:=J'.o t s;have k:=ak Z;generalize D[t]=l at*;generalize ki:row.getD t 0=x at*;clear c1 H k7 ki Z;by_cases f:n=0
    . have R:aM wo w.heap.size (dg row D n (t+1)):=(by rw[f]at d⊢;exact d);have L:=ak f;clear q I' d f;go_wp2_with fail;refine(AP _ _ _ _ _ _ x _ L.o L.o k5).mono ?_;rintro e w2⟨rfl,E⟩;have C:=R.below E;have F:=g.trans (E.mono V);clear R E;go_wp2;go_roundw;case rel=>exact⟨t+1,V,eT,C,F⟩
      case measure=>simp[intOf];omega
    . obtain⟨m,a,rfl,v⟩:=I' (by intro e;rw[e]at k;exact f k.o.symm);rw[k.o]at v;have kh:m<w.heap.size:=Ue (v 0 V);have S:∀i,i<n->wo.cell? ⟨m,a+i,U⟩=J (I .u8 ((l.getD i 0:Nat):Int)):=λi U'=>by rw[g.cell (p:=⟨m,a+i,U⟩) kh];exact v i U'
      have T:wo.rowIs w.heap.size 5 n (tv (λi=>(dg row D n t).getD i 0)):=by have:=d;unfold aM at this;rw[gE]at this;exact this
      have M:=ak q;have K:=ak S;have Y:=ak T;have k8:=λj=>dM (rh row D kc n t) j;have k0:=λj=>dM q3 j;have X:=ak k8;have W:=ak k0;clear q v S T d I' k8 k0 k;go_wp2_with fail;refine(jP w.heap.size 5 n 0 n n m a N x (λi=>(dg row D n t).getD i 0) (λi=>l.getD i 0) wo k5 Y.out X.out W.out V V K.o (.inl V)).mono ?_;rintro e w2⟨rfl,ka,k6⟩;have C:aM w2 w.heap.size (dg row D n (t+1)):=by unfold aM;rw[gE];exact ka.congr (λj hj=>M.o j hj)
      have F:=gX g k6 V lR;clear ka k6 M K Y X W;go_wp2;go_roundw;case rel=>exact⟨t+1,V,eT,C,F⟩
      case measure=>simp[intOf];omega
  .have ke:t=D.length:=(by rw[<-P.out];omega);rw[ke]at d;clear ke;go_wp2;go_ret;exact⟨w.heap.size,rfl,TV _,d,g⟩
def CK(D:List a7)(l:a7):Prop:=l.length=(D.getD 0 []).length/\l.length<=4096
def Fit(D:List a7):Prop:=∀i(hi:i<D.length),CK D D[i]
def EvR(D:List a7)(i:ZS):Prop:=∃k:Nat,k<=D.length/\i=I O k/\∀j(hj:j<D.length),j<k->CK D D[j]
def aao(D:List a7)(w:ZT)(e:ZO)(w':ZT):Prop:=∃r:Bool,e=Z3 (Z1 r)/\(r=ZV↔Fit D)/\w'=w
theorem LX(s:ZS)(D:List a7)(w:ZT)(E:Rd w s D)(d:0<D.length):ZQ ZI 190 #[s] w λe w'=>aao D w e w':=by
 rcases E.cases with⟨rfl,_⟩|⟨b,off,c,rfl,hl,q⟩;.simp at d
 obtain⟨u0,p,A⟩:=q 0 d;obtain⟨y,c0,rfl,l1,O',_,_⟩:=A;have C:(D.getD 0 []).length=(D[0]).length:=by simp[d]
 have z:(D[0]).length<=140737488355328:=V;rw[<-C]at p z;rw[VO]at p;have t:=ak q;go_enter func190,ntmps190;go_wp2;go_loop[7](λi=>EvR D i)(λi=>D.length-(intOf i).toNat);case atStart=>exact⟨0,T8 _,rfl,λj f h=>absurd h V⟩
 case round=>
  obtain⟨k,M,rfl,n⟩:=hrel;by_cases m:k<D.length
  . obtain⟨u,N,B⟩:=t.o k m;obtain⟨Z,H,rfl,P,Q,_,_⟩:=B;have L:(D[k]).length<=140737488355328:=V;by_cases a:CK D D[k]
    . have t1:((((D[k]).length:Nat):Int)!=(((D.getD 0 []).length:Nat):Int))=ZU:=(by rw[a.1];simp);have G:¬(4096:Int)<(((D[k]).length:Nat):Int):=(ia a.2);have x:cL (∀j(f:j<D.length),j<k+1->CK D D[j]):=by
       intro j f K;by_cases e:j=k;.subst e;exact a
       .exact n j f V
      have J':=a.1;generalize(D.getD 0 []).length=n0 at*;generalize(D[k]).length=r at*;go_wp2;go_round;case rel=>exact⟨k+1,V,eT,x.o⟩
      case measure=>simp[intOf];omega
    . have g:cL (¬Fit D):=λh=>a (h k m);by_cases l:(D[k]).length=(D.getD 0 []).length
      . have t1:((((D[k]).length:Nat):Int)!=(((D.getD 0 []).length:Nat):Int))=ZU:=(by rw[l];simp);have G:(4096:Int)<(((D[k]).length:Nat):Int):=by have:¬(D[k]).length<=4096:=λh=>a ⟨l,h⟩;omega
        generalize(D.getD 0 []).length=n0 at*;generalize(D[k]).length=r at*;go_wp2;go_ret;exact⟨ZU,rfl,⟨λh=>by simp at h,λh=>absurd h g.o⟩,rfl⟩
      .have t1:((((D[k]).length:Nat):Int)!=(((D.getD 0 []).length:Nat):Int))=ZV:=Zs;generalize(D.getD 0 []).length=n0 at*;generalize(D[k]).length=r at*;go_wp2;go_ret;exact⟨ZU,rfl,⟨λh=>by simp at h,λh=>absurd h g.o⟩,rfl⟩
  .have v:cL (Fit D):=λi F=>n i F V;go_wp2;go_ret;exact⟨ZV,rfl,⟨λ_=>v.o,λ_=>rfl⟩,rfl⟩
def CL(b k:Nat)(a:b<65536):(bits .and .i64 ((b:Int)/2^k) 1==1)=decide (b/2^k%2=1):=by have h:b/2^k<2^62:=WV (VU _ _) (WU a ec);have e:=Hh (b/2^k) 1 h ec;rw[RH]at e;have c:((b/2^k:Nat):Int)=(b:Int)/2^k:=ej;rw[c,show((1:Nat):Int)=1 from rfl]at e;rw[e,Yw];simp;omega
def aap(a b k:Nat)(d:a<256)(g:k<8)(h:b/2^k%2=1):bits .xor .i64 (pm a b k:Int) (wrap64 ((a:Int)*2^k))=(pm a b (k+1):Int):=by
 have c:2^k<=2^7:=UY ec V;have f:a*2^k<=256*2^7:=Xm V c;have i:=QV a b d k V;have e:wrap64 ((a:Int)*2^k)=((a*2^k:Nat):Int):=by have:((a*2^k:Nat):Int)=(a:Int)*2^k:=ej;rw[<-this];unfold wrap64;omega
 rw[e,AN _ _ V V];simp only[pm,h,if_true]
def abT(a b k:Nat)(h:¬b/2^k%2=1):(pm a b k:Int)=(pm a b (k+1):Int):=by simp only[pm,h,if_false]
theorem abU(k p:Nat)(b:k<=6)(a:p<65536):(if p/2^(k+8)%2=1 then p^^^(285*2^k)else p)<65536:=by
 split;.refine V7 (n:=16) a ?_;have:2^k<=2^6:=UY ec b;omega
 .exact a
def aaq(k p:Nat)(a:k<=6)(c:p<65536)(h:p/2^(k+8)%2=1):bits .xor .i64 (p:Int) (wrap64 (285*2^k))=((if p/2^(k+8)%2=1 then p^^^(285*2^k)else p:Nat):Int):=by
 have b:2^k<=2^6:=UY ec a;have e:wrap64 (285*2^k)=((285*2^k:Nat):Int):=by have:((285*2^k:Nat):Int)=285*2^k:=ej;rw[<-this];unfold wrap64;omega
 rw[TT h,e,AN _ _ V V]
theorem uI(a b:Nat)(f:a<256)(z:b<256)(w:ZT):ZQ ZI 55 #[I .u8 a,I .u8 b] w λe w'=>e=Z3 (I .u8 (gm a b))/\w'=w:=by
 go_enter func55,ntmps55;go_wp2;go_loop[5,7](λs t=>∃k:Nat,k<=8/\s=I O (pm a b k)/\t=I O k)(λ_ t=>8-(intOf t).toNat);case atStart=>exact⟨0,ec,rfl,rfl⟩
 case round=>
  obtain⟨k,A,rfl,rfl⟩:=hrel;have B:=QV a b f k A;by_cases y:k<8
  . have d:=CL b k V;by_cases c:b/2^k%2=1
    . rw[U4 c]at d;have i:=aap a b k f y c;clear c;go_wp2;go_round;case rel=>exact⟨k+1,V,rfl,eT⟩
      case measure=>simp[intOf];omega
    . rw[Vk c]at d;have r:cL (¬b/2^k%2=1):=c;clear c;go_wp2;go_round;case rel=>exact⟨k+1,V,by rw[abT a b k r.o],eT⟩
      case measure=>simp[intOf];omega
  . have x:k=8:=V;subst x;have m:=@Rw a b f z;have u:cL (rd 7 (pm a b 8)=gm a b):=m;clear m;generalize pm a b 8=p at*;go_wp2;go_loop[5,8](λs t=>∃j p:Nat,j<=7/\p<65536/\cL (rd j p=gm a b)/\s=I O p/\t=I O ((j+7:Nat):Int))(λ_ t=>(intOf t).toNat);case atStart=>exact⟨7,p,ec,B,u,rfl,rfl⟩
    case round=>obtain⟨j,q,C,g,n,rfl,rfl⟩:=hrel;cases j with|zero=>have hl:=@aV a b f;go_wp2;go_ret;exact⟨ll (by have:=n.out;simp only[rd]at this;omega),rfl⟩|succ j=>
      have hl:=abU j q V g;have d:=CL q (j+1+7) g;have l:cL (rd j (if q/2^(j+8)%2=1 then q^^^(285*2^j)else q)=gm a b):=n.out;by_cases c:q/2^(j+8)%2=1
      . rw[show j+8=j+1+7 from rfl]at c;rw[U4 c]at d;have i:=aaq j q V g c;have v:=ak i;have h:=ak hl;clear c i hl;go_wp2;go_round;case rel=>exact⟨j,_,V,h.o,l,by rw[v.o],eT⟩
        case measure=>simp[intOf];omega
      . have h:cL (rd j q=gm a b):=(by have:=l.out;rw[TS c]at this;exact this);rw[show j+8=j+1+7 from rfl]at c;rw[Vk c]at d;clear c hl;go_wp2;go_round;case rel=>exact⟨j,q,V,g,h,rfl,eT⟩
        case measure=>simp[intOf];omega
theorem CM(a:Nat)(b:a<256)(w:ZT):ZQ ZI 54 #[I .u8 a] w λe w'=>e=Z3 (I .u8 (gi a))/\w'=w:=by
 go_enter func54,ntmps54;go_wp2;go_loop[3](λs=>∃k:Nat,1<=k/\k<=256/\cL (∀c,1<=c->c<k->gm a c≠1)/\s=I O k)(λs=>256-(intOf s).toNat);case atStart=>exact⟨1,ec,ec,(λc h n=>absurd h V),rfl⟩
 case round=>
  obtain⟨k,t,u,f,rfl⟩:=hrel;by_cases i:k<256
  . have r:(k:Int)%256=(k:Int):=V;by_cases d:gm a k=1;.have j:=IX b i d;have l:=ak j;have q:((gm a k:Int)==1)=ZV:=(by rw[d];rfl);clear j d;go_wp2_with(go_at_call 55;refine(uI a k b i _).mono ?_;rintro e w'⟨rfl,rfl⟩);go_ret;exact⟨ll (by rw[<-l.o]),rfl⟩
    . have p:cL (∀c,1<=c->c<k+1->gm a c≠1):=by
       intro c h n;by_cases e:c=k;.rw[e];exact d
       .exact f.out c h V
      have q:((gm a k:Int)==1)=ZU:=vy;clear d f;go_wp2_with(go_at_call 55;refine(uI a k b i _).mono ?_;rintro e w'⟨rfl,rfl⟩);go_round;case rel=>exact⟨k+1,V,V,p,eT⟩
      case measure=>simp[intOf];omega
  . have m:cL (0=gi a):=by
     by_cases e:a=0;.rw[e,O3];exact(rfl:(0:Nat)=0)
     . have g:=jw a b e;have hl:=dH b;refine absurd g (f.out (gi a) ?_ V);rcases WG (gi a)with z|z;.rw[z,bm]at g;exact absurd g ec
       .exact z
    clear f;go_wp2;go_ret;exact⟨ll (by rw[<-m.out];rfl),rfl⟩
def dB(D i:Nat):a7:=(YF D 0).set i 1
theorem CN(D L G i:Nat)(g:D<=12)(d:i<D)(w:ZT):ZQ ZI 174 #[.agg #[I O D,I O L,I O G],I O i] w λe w'=>∃b,e=Z3 (Z5 (J ⟨b,0,U⟩) D D)/\w.heap.size<=b/\aM w' b (dB D i)/\ZR w.heap.size w w':=by
 go_enter func174,ntmps174;go_wp2_with(at_make;refine dq _ rfl (Z0 7) (Z0 7) rfl D D rfl rfl rfl V ?_;intro w1 a c f;rw[Uh]at a c f;have h:=a.cell i (ua d);have j:=a.frozen i);go_ret;refine⟨w.heap.size+1,rfl,V,?_,?_⟩;.exact a.set i 1
 .exact((bA _ _).trans (c.mono V)).setCell ej _
def dh(D L g:Nat):a7:=(YE D).map λj=>if g*(D/L)<=j/\j<(g+1)*(D/L)then 1 else 0
def fI(D s k:Nat):a7:=(YE D).map λj=>if s<=j/\j<k then 1 else 0
theorem nT(D s:Nat):fI D s s=YF D 0:=by
 unfold fI;apply Ve;.simp
 .intro i a b;simp
theorem pt(D s k:Nat)(d:s<=k):(fI D s k).set k 1=fI D s (k+1):=by
 unfold fI;apply Ve;.simp
 . intro i b c;simp[YG];by_cases e:k=i;.subst e;simp;omega
   . simp only[TS e];by_cases a:s<=i/\i<k;.rw[TT a,TT ⟨a.1,V⟩]
     .rw[TS a,TS V]
def CP{D L:Nat}(a:D%L=0)(b:g<L):(g+1)*(D/L)<=D:=by have:(g+1)*(D/L)<=L*(D/L):=WY _ b;have:L*(D/L)=D:=Nat.mul_div_cancel' (adh a);omega
theorem AQ(D L G g:Nat)(E:D<=12)(F:1<=L)(C:L<=4)(m:D%L=0)(y:g<L)(w:ZT):ZQ ZI 175 #[.agg #[I O D,I O L,I O G],I O g] w λe w'=>∃b,e=Z3 (Z5 (J ⟨b,0,U⟩) D D)/\w.heap.size<=b/\aM w' b (dh D L g)/\ZR w.heap.size w w':=by
 have J':=CP m y;have P:D/L<=D:=VU _ _;have n:dh D L g=fI D (g*(D/L)) ((g+1)*(D/L)):=rfl;have A:wrap64 ((D:Int)/(L:Int))=((D/L:Nat):Int):=by rw[<-X1];exact ja V
 generalize D/L=q at*;have u:g*q<=(g+1)*q:=WY _ V;have l:wrap64 ((g:Int)*(q:Int))=((g*q:Nat):Int):=by rw[<-XF];unfold wrap64;omega
 have B:wrap64 (((g:Int)+1)*(q:Int))=(((g+1)*q:Nat):Int):=by
  have:((g:Int)+1)*(q:Int)=(((g+1)*q:Nat):Int):=by push_cast;rfl
  rw[this];unfold wrap64;omega
 generalize g*q=s at*;generalize(g+1)*q=t at*;have j:=ak n;go_enter func175,ntmps175;go_wp2_with(at_make;refine dq _ rfl (Z0 9) (Z0 9) rfl D D rfl rfl rfl V ?_;intro w1 d c z;rw[Uh]at d c z;have O':=c.cell (p:=⟨w.heap.size,0,U⟩) ej;have N:=c.cell (p:=⟨w.heap.size,1,U⟩) ej);rw[<-nT D s]at d;go_loopw[7](λi wr=>∃k:Nat,s<=k/\k<=t/\i=I O k/\aM wr (w.heap.size+1) (fI D s k)/\ZR w.heap.size w wr)(λi _=>t-(intOf i).toNat);case atStart=>exact⟨s,TV _,u,by rw[l],d,(bA _ _).trans (c.mono V)⟩
 case round=>
  obtain⟨k,v,H,rfl,a,h⟩:=hrel;by_cases M:k<t
  . have Z:=a.cell k (by simp[fI];omega);have K:=a.frozen k;have f:=a.set k 1;rw[pt _ _ _ v]at f;have r:=h.setCell (p:=⟨w.heap.size+1,k,U⟩) ej (I .u8 1);go_wp2;go_roundw;case rel=>exact⟨k+1,V,V,eT,f,r⟩
    case measure=>simp[intOf];omega
  .have x:k=t:=V;subst x;go_wp2;go_ret;exact⟨w.heap.size+1,rfl,V,by rw[j.o];exact a,h⟩
def bQ(D i:Nat):a7:=(YE D).map λj=>gi ((D+i)^^^j)
def eX(D i k:Nat):a7:=(YE D).map λj=>if j<k then gi ((D+i)^^^j)else 0
theorem mz(D i:Nat):eX D i 0=YF D 0:=by
 unfold eX;apply Ve;.simp
 .intro j a b;simp
theorem px(D i:Nat):eX D i D=bQ D i:=by
 unfold eX bQ;apply Ve;.simp
 .intro j a b;simp at a;simp[a]
theorem nU(D i k:Nat):(eX D i k).set k (gi ((D+i)^^^k))=eX D i (k+1):=by
 unfold eX;apply Ve;.simp
 . intro j b c;simp[YG];by_cases e:k=j;.subst e;simp
   . simp only[TS e];by_cases a:j<k;.rw[TT a,TT V]
     .rw[TS a,TS V]
theorem CQ(D i j:Nat)(a:D<=12)(b:i<=4)(c:j<D):(D+i)^^^j<256/\bits .xor .i64 ((D:Int)+(i:Int)) (j:Int)=(((D+i)^^^j:Nat):Int):=by refine⟨ld V V,?_⟩;have:=AN (D+i) j V V;rw[<-this];congr 1
theorem xT(D L G i:Nat)(s:D<=12)(t:i<=4)(w:ZT):ZQ ZI 176 #[.agg #[I O D,I O L,I O G],I O i] w λe w'=>∃b,e=Z3 (Z5 (J ⟨b,0,U⟩) D D)/\w.heap.size<=b/\aM w' b (bQ D i)/\ZR w.heap.size w w':=by
 go_enter func176,ntmps176;go_wp2_with(at_make;refine dq _ rfl (Z0 8) (Z0 8) rfl D D rfl rfl rfl V ?_;intro w1 c d u;rw[Uh]at c d u;have h:=d.cell (p:=⟨w.heap.size,0,U⟩) ej);rw[<-mz D i]at c;simp at h;go_loopw[12](λj wr=>∃k:Nat,k<=D/\j=I O k/\aM wr (w.heap.size+1) (eX D i k)/\wr.cell? ⟨w.heap.size,0,U⟩=J (I O D)/\ZR w.heap.size w wr)(λj _=>D-(intOf j).toNat);case atStart=>exact⟨0,T8 _,rfl,c,h,(bA _ _).trans (d.mono V)⟩
 case round=>
  obtain⟨k,B,rfl,a,q,g⟩:=hrel;by_cases n:k<D
  . have z:=a.cell k (by simp[eX];omega);have A:=a.frozen k;obtain⟨r,v⟩:=CQ D i k s t n;have f:=a.set k (gi ((D+i)^^^k));rw[nU]at f;have l:=g.setCell (p:=⟨w.heap.size+1,k,U⟩) ej (I .u8 (gi ((D+i)^^^k)));have o:(wr.setCell ⟨w.heap.size+1,k,U⟩ (I .u8 (gi ((D+i)^^^k)))).cell? ⟨w.heap.size,0,U⟩=J (I O D):=(by rw[<-q];exact Uk (Uc _ _ _ _ ej));generalize(D+i)^^^k=x at*;have y:(x:Int)<256:=V;go_wp2_with(go_at_call 199;refine(tI x r _).mono ?_;rintro e w'⟨rfl,rfl⟩);go_roundw;case rel=>exact⟨k+1,V,eT,f,o,l⟩
    case measure=>simp[intOf];omega
  .have m:k=D:=V;subst m;rw[px]at a;go_wp2;go_ret;exact⟨w.heap.size+1,rfl,V,a,g⟩
def aQ(D L G:Nat):List a7:=(YE D).map (dB D)++(YE L).map (dh D L)++(YE G).map (bQ D)
def dj(T:List (Nat×Nat×a7))(D:Nat)(M:List a7):Prop:=T.map (λp=>p.2)=M.map (λr=>(D,r))
def dj.push{D:Nat}(h:dj T D M)(b:Nat)(r:a7):dj (T++[(b,D,r)]) D (M++[r]):=by unfold dj at*;simp[h]
def dj.length{D:Nat}(h:dj T D M):T.length=M.length:=by have:=Uy YJ h;simpa using this
def CR(D i:Nat):(dB D i).length=D/\∀x∈dB D i,x<256:=by
 refine⟨by simp[dB],λx a=>?_⟩;rcases X7 a with h|h;.have:=VG h;omega
 .omega
theorem yZ(D L g:Nat):(dh D L g).length=D/\∀x∈dh D L g,x<256:=by refine⟨by simp[dh],λx a=>?_⟩;obtain⟨j,_,rfl⟩:=T9.1 a;split<;>decide
def uJ(D i:Nat)(c:D<=12)(d:i<=4):(bQ D i).length=D/\∀x∈bQ D i,x<256:=by refine⟨by simp[bQ],λx b=>?_⟩;obtain⟨j,a,rfl⟩:=T9.1 b;exact dH (ld V (ia (Ul.1 a)))
def eS.append{D:Nat}{r:a7}{o:Obj}(h:eS w base v T)(g:ZR w.heap.size w w1)(k:base<=w.heap.size)(l:w.heap.size<=b)(f:aM w1 b r)(a:r.length=D/\∀x∈r,x<256)(m:D<=1000000)(i:(w1.alloc o).grownBy w2 v.ownBlock)(c:w2.ownsRow base 36 1 v' (T.length+1) (T.map fV++[Z5 (J ⟨b,0,U⟩) D D])):eS w2 base v' (T++[(b,D,r)]):=by
 have d:=(h.below g).alloc o;refine d.push i (p:=(b,D,r)) ?_ ⟨by show base<=b;omega,f.alloc o,by show D<=r.length;omega,⟨by show D<=140737488355328;omega,by show r.length<=9223372036854775807;omega⟩,a.2⟩ ?_;.have e:fV (b,D,r)=Z5 (J ⟨b,0,U⟩) D D:=(by unfold fV;simp[a.1]);rw[e];exact c
 .intro q j;have:=(h.row q j).2.1.lt;show q.1≠b;omega
def du{wx:ZT}{a b c:ZS}(h:ZR (w.heap.size+1) (w.alloc (Z4 #[a,b,c] t)) wx):wx.cell? ⟨w.heap.size,0,U⟩=J a/\wx.cell? ⟨w.heap.size,1,U⟩=J b/\wx.cell? ⟨w.heap.size,2,U⟩=J c:=by have d:=h.cell (p:=⟨w.heap.size,0,U⟩) ej;have e:=h.cell (p:=⟨w.heap.size,1,U⟩) ej;have f:=h.cell (p:=⟨w.heap.size,2,U⟩) ej;rw[World.cell?_alloc_at _ _ _ _ rfl]at d e f;exact⟨d,e,f⟩
def FB{wa wb:ZT}(c:ZR B w0 wa)(b:B<=wa.heap.size)(a:ZR wa.heap.size wa wb)(d:wb.grownBy wc U):ZR B w0 wc:=(c.trans (a.mono b)).grown d (ia a.size) (λk e=>by simp at e)
def eS.made(h:wc.ownsRow base 36 1 (Z5 (J ⟨g,0,U⟩) 0 cap) 0 []):eS wc base (Z5 (J ⟨g,0,U⟩) 0 cap) []:=⟨h,λp a=>Zu,ej⟩
def dj.nil(D:Nat):dj [] D []:=rfl
def gG(f:Nat->α)(k:Nat):(YE (k+1)).map f=(YE k).map f++[f k]:=by rw[Vs,Uz];rfl
theorem lx(D L G:Nat)(Y:dA D L G=ZV)(u:D<=12)(S:1<=L)(W:L<=4)(X:G<=4)(U':D%L=0)(w:ZT):ZQ ZI 148 #[.agg #[I O D,I O L,I O G]] w λe w'=>∃v T,e=Z3 (ZZ #[v,.nilIface])/\eS w' (w.heap.size+1) v T/\dj T D (aQ D L G)/\ZR w.heap.size w w':=by
 obtain⟨E,y,A,B,C⟩:=Uw Tryz.RX;go_enter func148,ntmps148;go_wp2_with fail;refine(qX D L G _).mono ?_;rintro e wa⟨rfl,x⟩;rw[Uh]at x;have R:=x.size;rw[Uh]at R;obtain⟨F,H,I'⟩:=du x;go_wp2_with fail;refine(cU D L G _ V V V).mono ?_;rintro e wb⟨rfl,M⟩;have Z:=M.size;go_wp2_with(at_make;refine adi _ rfl (.const (I O 0)) (Z0 13) 84 rfl (w.heap.size+1) 36 E (Z5 U 0 0) 1 VP y A B .i64 .i64 (D+L+G) (D+L+G) rfl rfl V (by rw[C];omega) eD V ?_;intro wc V' O';have N:=FB x R M O';obtain⟨F,H,I'⟩:=du N);have a:=eS.made V';have k6:=O'.size;generalize Value.slice (J ⟨wb.heap.size,0,U⟩) 0 (D+L+G)=v0 at*;go_loopw[4,17](λv i wr=>∃k T,k<=D/\i=I O (k:Nat)/\eS wr (w.heap.size+1) v T/\dj T D ((YE k).map (dB D))/\ZR (w.heap.size+1) (w.alloc (Z4 #[I O D,I O L,I O G] 28)) wr/\w.heap.size+1<=wr.heap.size)(λ_ i _=>D-(intOf i).toNat);case atStart=>exact⟨0,[],T8 _,rfl,a,dj.nil D,N,V⟩
 case round=>
  obtain⟨k,T,K,rfl,a,h,g,j⟩:=hrel;obtain⟨F,H,I'⟩:=du g;by_cases z:k<D
  . have m:=h.length;rw[Uf,Vj]at m;have J':T.length<=12:=V;have d:=ak h;go_wp2_with fail;refine(CN D L G k u z _).mono ?_;rintro e w1⟨b,rfl,q,n,c⟩;have Q:=c.size;go_wp2_with(at_builtin;refine WH _ rfl (Z0 20) (Z0 24) 84 rfl (w.heap.size+1) 36 E (Z5 U 0 0) 1 24 VP y A B C rfl ec _ T.length (T.map fV) rfl ((a.below c).alloc _).own ⟨w1.heap.size,0,U⟩ 1 1 [Z5 (J ⟨b,0,U⟩) D D] rfl rfl (YC _ _ _) HU eD V G0 ?_;intro v' w2 l f P);have p:=eS.append a c j q n (CR D k) V f l;have r:=ez a g c j f;have t:=f.size;rw[Uh]at t;go_roundw;case rel=>exact⟨k+1,_,V,eT,p,by rw[gG];exact d.o.push b _,r,V⟩
    case measure=>simp[intOf];omega
  . have s:D=k:=V;subst s;have d:=ak h;go_wp2_with fail;go_loopw[4,29](λv i wr=>∃k T,k<=L/\i=I O (k:Nat)/\eS wr (w.heap.size+1) v T/\dj T D ((YE D).map (dB D)++(YE k).map (dh D L))/\ZR (w.heap.size+1) (w.alloc (Z4 #[I O D,I O L,I O G] 28)) wr/\w.heap.size+1<=wr.heap.size)(λ_ i _=>L-(intOf i).toNat);case atStart=>exact⟨0,T,T8 _,rfl,a,by rw[acH,Wi,Wj];exact d.o,g,j⟩
    case round=>
     obtain⟨k,T,K,rfl,a,h,g,j⟩:=hrel;obtain⟨F,H,I'⟩:=du g;by_cases z:k<L
     . have m:=h.length;simp only[Ua,Uf,Vj]at m;have J':T.length<=20:=V;have d:=ak h;go_wp2_with fail;refine(AQ D L G k u S W U' z _).mono ?_;rintro e w1⟨b,rfl,q,n,c⟩;have Q:=c.size;go_wp2_with(at_builtin;refine WH _ rfl (Z0 32) (Z0 36) 84 rfl (w.heap.size+1) 36 E (Z5 U 0 0) 1 24 VP y A B C rfl ec _ T.length (T.map fV) rfl ((a.below c).alloc _).own ⟨w1.heap.size,0,U⟩ 1 1 [Z5 (J ⟨b,0,U⟩) D D] rfl rfl (YC _ _ _) HU eD V G0 ?_;intro v' w2 l f P);have p:=eS.append a c j q n (yZ D L k) V f l;have r:=ez a g c j f;have t:=f.size;rw[Uh]at t;go_roundw;case rel=>exact⟨k+1,_,V,eT,p,by rw[gG,<-UA];exact d.o.push b _,r,V⟩
       case measure=>simp[intOf];omega
     . have s:L=k:=V;subst s;have d:=ak h;go_wp2_with fail;go_loopw[4,41](λv i wr=>∃k T,k<=G/\i=I O (k:Nat)/\eS wr (w.heap.size+1) v T/\dj T D (((YE D).map (dB D)++(YE L).map (dh D L))++(YE k).map (bQ D))/\ZR (w.heap.size+1) (w.alloc (Z4 #[I O D,I O L,I O G] 28)) wr/\w.heap.size+1<=wr.heap.size)(λ_ i _=>G-(intOf i).toNat);case atStart=>exact⟨0,T,T8 _,rfl,a,by rw[acH,Wi,Wj];exact d.o,g,j⟩
       case round=>
        obtain⟨k,T,K,rfl,a,h,g,j⟩:=hrel;obtain⟨F,H,I'⟩:=du g;by_cases z:k<G
        . have m:=h.length;simp only[Ua,Uf,Vj]at m;have J':T.length<=20:=V;have d:=ak h;go_wp2_with fail;refine(xT D L G k u V _).mono ?_;rintro e w1⟨b,rfl,q,n,c⟩;have Q:=c.size;go_wp2_with(at_builtin;refine WH _ rfl (Z0 44) (Z0 48) 84 rfl (w.heap.size+1) 36 E (Z5 U 0 0) 1 24 VP y A B C rfl ec _ T.length (T.map fV) rfl ((a.below c).alloc _).own ⟨w1.heap.size,0,U⟩ 1 1 [Z5 (J ⟨b,0,U⟩) D D] rfl rfl (YC _ _ _) HU eD V G0 ?_;intro v' w2 l f P);have p:=eS.append a c j q n (uJ D k u V) V f l;have r:=ez a g c j f;have t:=f.size;rw[Uh]at t;go_roundw;case rel=>exact⟨k+1,_,V,eT,p,by rw[gG,<-UA];exact d.o.push b _,r,V⟩
          case measure=>simp[intOf];omega
        .have s:G=k:=V;subst s;have d:=ak h;go_wp2;go_ret2;refine⟨_,T,rfl,a,d.o,?_⟩;exact(bA _ _).trans (g.mono V)
def cA(M:List a7)(lost k:Nat):List a7:=((YE k).filter (λi=>decide (lost/2^i%2=0))).map (λi=>M.getD i [])
def Hs(M:List a7)(lost k:Nat)(h:lost/2^k%2=0):cA M lost (k+1)=cA M lost k++[M.getD k []]:=by simp[cA,Vs,h]
def CT(M:List a7)(lost k:Nat)(h:lost/2^k%2≠0):cA M lost (k+1)=cA M lost k:=by simp[cA,Vs,h]
def py(M:List a7)(lost k:Nat)(b:k<=M.length):∀l∈cA M lost k,l∈M:=by intro l hl;simp[cA]at hl;obtain⟨i,⟨a,_⟩,rfl⟩:=hl;rw[Ud V];exact T7 _
def kt(M:List a7)(lost k:Nat):(cA M lost k).length<=k:=by unfold cA;rw[Uf];exact TU (WS _ _) ej
theorem Pm(T:List a7)(v:Nat->Nat):m7 T 0 v↔∃l∈T,v=dP l:=by
 constructor;.rintro⟨i,a,_,rfl⟩;exact⟨_,T7 a,rfl⟩
 .rintro⟨l,hl,rfl⟩;obtain⟨i,a,rfl⟩:=Xz.1 hl;exact⟨i,a,T8 _,rfl⟩
theorem ku(M:List a7)(lost k:Nat)(v:Nat->Nat):m7 (cA M lost k) 0 v↔∃i,i<k/\lost/2^i%2=0/\v=dP (M.getD i []):=by
 rw[Pm];constructor;.rintro⟨l,hl,rfl⟩;simp only[cA,T9,Vr,Ul,VM]at hl;obtain⟨i,⟨b,a⟩,rfl⟩:=hl;exact⟨i,b,a,rfl⟩
 .rintro⟨i,b,a,rfl⟩;refine⟨_,?_,rfl⟩;simp only[cA,T9,Vr,Ul,VM];exact⟨i,⟨b,a⟩,rfl⟩
def cnt(lost n:Nat):Nat:=(YE n).countP (λi=>decide (lost/2^i%2=1))
def uK(lost n:Nat):cnt lost (n+1)=cnt lost n+(if lost/2^n%2=1 then 1 else 0):=by simp[cnt,Vs,YR,List.countP_cons]
def aar(lost n:Nat):cnt lost n<=n:=by have:=List.countP_le_length (p:=λi=>decide (lost/2^i%2=1)) (l:=YE n);simpa[cnt]using this
theorem CU(D i:Nat)(a:i<D):dP (dB D i)=dS i:=by
 funext j;unfold dP dB dS;by_cases e:j=i;.subst e;simp[a]
 .rw[TS e];simp[Vc e,WJ];split<;>rfl
def FC(D i j:Nat):dP (bQ D i) j=if j<D then gi ((D+i)^^^j)else 0:=by
 unfold dP bQ;by_cases h:j<D;.simp[h]
 .simp[h]
def CV(D L G i:Nat)(a:i<D):(aQ D L G).getD i []=dB D i:=by simp[aQ,Y4,a]
def FD(D L G i:Nat)(d:i<G):(aQ D L G).getD (D+L+i) []=bQ D i:=by have a:¬D+L+i<D:=V;have b:¬D+L+i-D<L:=V;have c:D+L+i-D-L=i:=V;simp[aQ,Y4,a,b,c,d]
theorem FE{R:(Nat->Nat)->Prop}(d:∀r,R r->bH r){v:Nat->Nat}(c:aO R v):∀K:a7,(∀k∈K,aO R (dS k))->aO R (λj=>if j∈K then 0 else v j)
 |[],_=>ua c|k::K,h=>by
  by_cases i:k∈K
  . have e:(λj=>if j∈k::K then 0 else v j)=λj=>if j∈K then 0 else v j:=by
     funext j;by_cases a:j=k;.subst a;simp[i]
     .simp[a]
    rw[e];exact FE d c K (λj f=>h j (Uo _ f))
  . have g:=c.byte k;have t:=aO.add d (FE d c K (λj f=>h j (Uo _ f))) g (h k UG);have e:cC (λj=>if j∈K then 0 else v j) (v k) (dS k)=λj=>if j∈k::K then 0 else v j:=by
     funext j;show(if j∈K then 0 else v j)^^^gm (v k) (if j=k then 1 else 0)=_;by_cases a:j=k;.subst a;rw[TS i,TT rfl,cT _ g,UL,TT UG]
     . rw[TS a,bm,UX];by_cases b:j∈K;.rw[TT b,TT (Uo _ b)]
       .rw[TS b,TS (by simp[a,b])]
    rwa[e]at t
theorem LY(D L G lost:Nat)(y:D<=12)(z:G<=4)(m:∀r,m7 (cA (aQ D L G) lost (D+L+G)) 0 r->bH r)(A:cnt lost (D+L+G)<=G):l9 (m7 (cA (aQ D L G) lost (D+L+G)) 0) 0 D:=by
 have kd:∀j,j<D->lost/2^j%2=0->aO (m7 (cA (aQ D L G) lost (D+L+G)) 0) (dS j):=by intro j f d;have o:m7 (cA (aQ D L G) lost (D+L+G)) 0 (dS j):=(ku _ _ _ _).2 ⟨j,V,d,by rw[CV D L G j f,CU D j f]⟩;exact aO.mem (iW j) o
 have w:cnt lost (D+L+G)=cnt lost D+((YE L).countP (λi=>decide (lost/2^(D+i)%2=1))+(YE G).countP (λi=>decide (lost/2^(D+L+i)%2=1))):=by unfold cnt;rw[Y5,YR,Y5,YR,Y6,Y6,Vt];rfl
 have s:=List.length_eq_countP_add_countP (λi=>decide (lost/2^(D+L+i)%2=1)) (l:=YE G);rw[Vj]at s;have u:(YE G).countP (λi=>decide ¬(decide (lost/2^(D+L+i)%2=1))=ZV)=((YE G).filter (λi=>decide (lost/2^(D+L+i)%2=0))).length:=by rw[<-Y7];congr 1;funext i;have:=Vv (lost/2^(D+L+i));rcases this with h|h<;>simp[h]
 have v:cnt lost D=((YE D).filter (λi=>decide (lost/2^i%2=1))).length:=by rw[cnt,Y7]
 refine l9.TH m λj f=>?_;rcases Vv (lost/2^j)with d|d;.exact kd j f d
 . refine Lm _ m ((YE D).filter (λi=>decide (lost/2^i%2=1))) (((YE G).filter (λi=>decide (lost/2^(D+L+i)%2=0))).map (λi=>D+i)) (λ_=>1) (X8.filter _) ?_ ?_ ?_ ?_ ?_ j (by simp[f,d]);.exact List.Pairwise.map _ (λa b h=>V) (X8.filter _)
   .rw[Uf,<-v,<-u];omega
   .intro i n;simp at n;exact⟨V,ec,ec⟩
   .intro x g;simp at g;obtain⟨i,⟨n,_⟩,rfl⟩:=g;refine⟨V,λk c=>?_⟩;simp at c;omega
   . intro x g;simp only[T9,Vr,Ul,VM]at g;obtain⟨i,⟨n,q⟩,rfl⟩:=g;have o:m7 (cA (aQ D L G) lost (D+L+G)) 0 (dP (bQ D i)):=(ku _ _ _ _).2 ⟨D+L+i,V,q,by rw[FD D L G i n]⟩;have t:=FE m (aO.mem (m _ o) o) ((YE D).filter (λi=>decide (lost/2^i%2=0))) (λk c=>by simp only[Vr,Ul,VM]at c;exact kd k c.1 c.2);have e:(λj=>if j∈(YE D).filter (λi=>decide (lost/2^i%2=0))then 0 else dP (bQ D i) j)=jI ((YE D).filter (λi=>decide (lost/2^i%2=1))) (λ_=>1) (D+i):=by
      funext k;unfold jI;rw[FC];simp only[Vr,Ul,VM];by_cases c:k<D
      . rcases Vv (lost/2^k)with p|p;.rw[TT ⟨c,p⟩,TS V]
        .rw[TS V,TT c,TT ⟨c,p⟩];have:=dH (a:=(D+i)^^^k) (ld V V);rw[cB (a:=1) ec this,cT _ this]
      .rw[TS V,TS c,TS V]
     rwa[e]at t
def zl(M:List a7)(lost less k D:Nat)(d:∀i,i<k->lost/2^i%2=0->less/2^i%2=0)(h:l9 (m7 (cA M lost k) 0) 0 D):l9 (m7 (cA M less k) 0) 0 D:=h.mono λr c=>by obtain⟨i,a,b,e⟩:=(ku _ _ _ _).1 c;exact(ku _ _ _ _).2 ⟨i,a,d i a b,e⟩
def Jf(M:List a7)(lost k D:Nat)(e:1<=D)(d:∀i,i<k->lost/2^i%2=1):¬l9 (m7 (cA M lost k) 0) 0 D:=by intro h;have:=aO.RS (c:=0) (λr b=>by obtain⟨i,a,f,_⟩:=(ku _ _ _ _).1 b;have:=d i a;omega) (h (dS 0) (iW 0) (λj g=>TS V));simp[dS]at this
def Ht(lost k:Nat)(hl:lost<18446744073709551616):bits .and .u64 ((lost:Int)/2^k) 1=((lost/2^k%2:Nat):Int):=by have c:(lost:Int)/2^k=((lost/2^k:Nat):Int):=ej;have h:lost/2^k<18446744073709551616:=WV (VU _ _) hl;have e:=u64_and_nat (lost/2^k) 1 h ec;rw[RH]at e;rw[c];exact e
def Rl(w0 w:ZT)(v:ZS)(K:List a7):Prop:=∃xs:List ZS,xs.length=K.length/\(∀i(h:i<xs.length)(h':i<K.length),Bs w0 xs[i] K[i])/\w.ownsRow w0.heap.size 36 1 v xs.length xs/\ZR w0.heap.size w0 w
def Rl.nil(w:ZT):Rl w w (Z5 U 0 0) []:=⟨[],rfl,λi h=>absurd h ej,UQ _ _ _ _,TW _ _⟩
def Rl.rd{K:List a7}(h:Rl w0 w v K)(hl:K.length<=100000):Rd w v K:=by
 obtain⟨xs,e,f,b,j⟩:=h;rcases b.2 with⟨d,r⟩|⟨g,cap,cur,a,l,m,n,o,p,q⟩;.have:K=[]:=U2 V;subst this;exact⟨U,0,d,ej,λh=>absurd rfl h⟩
 .refine⟨J ⟨g,0,U⟩,cap,by rw[a,e],V,λ_=>⟨g,0,rfl,λi k=>?_⟩⟩;have c:i<xs.length:=V;have:=b.cells (g:=g) T2 i xs[i] ZA;rw[kl]at this;exact⟨xs[i],by rw[Uj];exact this,(f i c k).mono j⟩
def Rl.push{K:List a7}{o:Obj}{xs:List ZS}(b:xs.length=K.length)(j:∀i(h:i<xs.length)(d:i<K.length),Bs w0 xs[i] K[i])(g:w.ownsRow w0.heap.size 36 1 v xs.length xs)(a:ZR w0.heap.size w0 w)(q:w1=w.alloc o)(p:Bs w0 u l)(m:w1.grownBy w2 v.ownBlock)(f:w2.ownsRow w0.heap.size 36 1 v' (xs.length+1) (xs++[u])):Rl w0 w2 v' (K++[l]):=by
 subst q;refine⟨xs++[u],adV,λi h d=>?_,ua f,(a.alloc a.size o).grown m Zg λk n=>(g.lt k n).1⟩;by_cases c:i<xs.length;.rw[XS c,XS V];exact j i c V
 .have e:i=xs.length:=(by simp at h;omega);subst e;rw[XR lR,XR V];simpa[b]using p
def Bs.one(h:Bs w u l):u.oneCell'=ZV:=by obtain⟨ao,c,rfl,_⟩:=h;rfl
def KpR(w:ZT)(M:List a7)(lost:Nat)(v i:ZS)(wr:ZT):Prop:=∃k:Nat,k<=M.length/\i=I O k/\Rl w wr v (cA M lost k)
theorem LZ(x:ZS)(M:List a7)(lost:Nat)(w:ZT)(r:Rd w x M)(hl:lost<18446744073709551616)(V':M.length<=64):ZQ ZI 150 #[x,I Z8 lost] w λe w'=>∃v,e=Z3 v/\Rl w w' v (cA M lost M.length):=by
 obtain⟨T,O',Q,R,S⟩:=Uw Tryz.RX;rcases r.cases with⟨rfl,ao,c,rfl⟩|⟨b,off,c,rfl,_,J'⟩;.go_enter func150,ntmps150;go_wp2;refine VD 1 ?_;rw[Vx];go_wp2;go_ret;exact⟨_,rfl,Rl.nil _⟩
 . clear r;go_enter func150,ntmps150;go_wp2;go_loopw[5,10](λv i wr=>KpR w M lost v i wr)(λ_ i _=>M.length-(intOf i).toNat);case atStart=>exact⟨0,T8 _,rfl,Rl.nil _⟩
   case round=>
    rename ZT=>wo;obtain⟨k,U',rfl,a⟩:=hrel;by_cases n:k<M.length
    . obtain⟨u,t,p⟩:=J' k n;have Y:wo.cell? ⟨b,off+k,U⟩=J u:=(by rw[a.choose_spec.2.2.2.cell (Ue t)];exact t);obtain⟨B,C,rfl,_⟩:=id p;have g:=Ht lost k hl;have y:=ak (kt M lost k);have f:=ak p;have G:M.getD k []=M[k]:=(by simp[n]);have I':=ak G;by_cases d:lost/2^k%2=0
      . rw[d]at g;have K:=ak (Hs M lost k d);obtain⟨xs,h,H,j,m⟩:=a;have A:=ak H;have N:=ak h;have Z:xs.length<=64:=(by rw[h];exact TU y.o V);have X:=m.size;go_wp2_with(at_builtin;refine WH _ rfl (Z0 20) (Z0 22) 84 rfl w.heap.size 36 T (Z5 U 0 0) 1 24 VP O' Q R S rfl ec _ xs.length xs rfl (az j (bA _ _)) ⟨wo.heap.size,0,U⟩ 1 1 [.slice B (M[k]).length C] rfl rfl (nh _ _ rfl _ _) (by intro q s;simp at s;rw[s];exact f.o.one) eD V G0 ?_;intro v' w2 F E W);have l:=Rl.push N.out A.o j m rfl f.o E F;rw[<-I'.out,<-K.out]at l;go_wp2;go_roundw;case rel=>exact⟨k+1,V,eT,l⟩
        case measure=>simp[intOf];omega
      . have D:lost/2^k%2=1:=V;rw[D]at g;have L:=ak (CT M lost k d);have z:=ak a;go_wp2;go_roundw;case rel=>exact⟨k+1,V,eT,by rw[L.out];exact z.o⟩
        case measure=>simp[intOf];omega
    .have P:k=M.length:=V;rw[P]at a;go_wp2;go_ret;exact⟨_,rfl,a⟩
def xU(T:List (Nat×Nat×a7))(p r:Nat):List (Nat×Nat×a7):=(T.set p (T.getD r (0,0,[]))).set r (T.getD p (0,0,[]))
def gT(T:List (Nat×Nat×a7))(p r:Nat):(xU T p r).length=T.length:=by simp[xU]
theorem np(T:List (Nat×Nat×a7))(p r i:Nat)(b:p<T.length)(c:r<T.length)(g:i<T.length)(f:i<(xU T p r).length):(xU T p r)[i]=if i=r then T[p]else if i=p then T[r]else T[i]:=by
 have d:T.getD p (0,0,[])=T[p]:=adV;have e:T.getD r (0,0,[])=T[r]:=ZA;apply UN;rw[<-Ud f];unfold xU;rw[d,e,Xn,Xn];by_cases c1:r=i;.subst c1;simp[c]
 . by_cases a:p=i;.subst a;simp[b,c1,Vc c1]
   .simp[c1,a,Vc c1,Vc a,g]
theorem Hu(T:List (Nat×Nat×a7))(p r:Nat)(c:p<T.length)(d:r<T.length):∀x∈xU T p r,x∈T:=by
 intro x e;obtain⟨i,a,rfl⟩:=Xz.1 e;have b:i<T.length:=by rw[gT]at a;exact a
 rw[np T p r i c d b];split;.exact T7 _
 . split;.exact T7 _
   .exact T7 _
theorem eS.swap(h:eS w B (Z5 (J ⟨g,0,U⟩) n cap) T){p r:Nat}(d:p<T.length)(f:r<T.length):eS ((w.setCell ⟨g,p,U⟩ (fV T[r])).setCell ⟨g,r,U⟩ (fV T[p])) B (Z5 (J ⟨g,0,U⟩) n cap) (xU T p r):=by
 obtain⟨P,v⟩:=h.own;have C:∀q∈T,q.1≠g:=λq l e=>qV h.own (h.row q l).2.1 (by rw[e];rfl);have N:∀q∈T,aM ((w.setCell ⟨g,p,U⟩ (fV T[r])).setCell ⟨g,r,U⟩ (fV T[p])) q.1 q.2.2:=λq l=>((h.row q l).2.1.other (a:=⟨g,p,U⟩) (C q l) _).other (a:=⟨g,r,U⟩) (C q l) _;refine⟨⟨by simp[xU],?_⟩,λq l=>?_,?_⟩
 . rcases v with⟨M,_⟩|⟨Q,x,cur,y,G,H,Z,J',K,L⟩;.simp at M
   . simp at y;obtain⟨rfl,rfl,rfl⟩:=y;refine .inr ⟨g,cap,(cur.setIfInBounds p (fV T[r])).setIfInBounds r (fV T[p]),by rw[gT],G,?_,by rw[gT];exact Z,J',ua K,?_⟩;.simp[World.setCell,Vb,H]
     . rw[gT];simp only[adj];rw[Y8,Y8,L];apply Ve;.simp[xU]
       . intro i R v;have k:i<T.length:=(by simpa[xU]using v);rw[UR,np T p r i d f k];simp only[YG,UR];by_cases c1:r=i;.subst c1;simp
         . by_cases c:p=i;.subst c;simp[c1,Vc c1]
           .simp[c1,c,Vc c1,Vc c]
 .have D:=Hu T p r d f q l;obtain⟨E,O',F⟩:=h.row q D;exact⟨E,N q D,F⟩
 . have A:=V0.1 h.nodup;have key:∀i j(k:i<T.length)(m:j<T.length),i≠j->T[i].1≠T[j].1:=by
    intro i j k m z e;rcases YB z with u|u;.exact A i j (ua k) (ua m) u (ua e)
    .exact A j i (ua m) (ua k) u (ua e.symm)
   refine V0.2 λi j k m z=>?_;have s:i<T.length:=(by simpa[xU]using k);have t:j<T.length:=(by simpa[xU]using m);rw[UR,UR,np T p r i d f s,np T p r j d f t];by_cases c1:i=r
   . rw[TT c1];by_cases c:j=r;.omega
     . rw[TS c];by_cases b:j=p;.rw[TT b];exact key p r d f V
       .rw[TS b];exact key p j d t (λh=>b h.symm)
   . rw[TS c1];by_cases c:i=p
     . rw[TT c];by_cases b:j=r;.rw[TT b];exact key r p f d V
       . rw[TS b];by_cases o:j=p;.omega
         .rw[TS o];exact key r j f t (λh=>b h.symm)
     . rw[TS c];by_cases b:j=r;.rw[TT b];exact key i p s d c
       . rw[TS b];by_cases o:j=p;.rw[TT o];exact key i r s f c1
         .rw[TS o];exact key i j s t V
def mB(l lp:a7)(f c j:Nat):a7:=(YE l.length).map λq=>if c<=q/\q<j then l.getD q 0^^^gm f (lp.getD q 0)else l.getD q 0
def uL(l lp:a7)(f c j:Nat):(mB l lp f c j).length=l.length:=by simp[mB]
theorem FF(l lp:a7)(f c:Nat):mB l lp f c c=l:=by
 unfold mB;apply Ve;.simp
 .intro q b a;simp[a];omega
def L2(l lp:a7)(f c j:Nat)(a:j<l.length):(mB l lp f c j).getD j 0=l.getD j 0:=by simp[mB,a]
theorem Jg(l lp:a7)(f c j:Nat)(b:c<=j):(mB l lp f c j).set j (l.getD j 0^^^gm f (lp.getD j 0))=mB l lp f c (j+1):=by
 unfold mB;apply Ve;.simp
 . intro q d g;simp[YG];by_cases e:j=q;.subst e;simp[b]
   . simp only[TS e];by_cases a:c<=q/\q<j;.rw[TT a,TT ⟨a.1,V⟩]
     .rw[TS a,TS V]
theorem Pn(hl:∀x∈l,x<256){f:Nat}(a:f<256)(c j:Nat):∀x∈mB l lp f c j,x<256:=by
 intro x b;obtain⟨q,_,rfl⟩:=T9.1 b;have:=dM hl q;split;.exact ld this (aV _ a)
 .exact this
theorem L3(l lp:a7)(f c W:Nat)(a:l.length=W)(j:lp.length=W)(i:∀q,q<c->dP lp q=0):dP (mB l lp f c W)=cC (dP l) f (dP lp):=by
 funext q;show(mB l lp f c W).getD q 0=l.getD q 0^^^gm f (lp.getD q 0);by_cases d:q<W
 . by_cases b:c<=q;.simp[mB,a,d,b]
   .have:lp.getD q 0=0:=i q V;rw[this,bm,UX];simp[mB,a,d,b]
 . have e:lp.getD q 0=0:=(by simp[Vn (V:lp.length<=q)]);have g:l.getD q 0=0:=(by simp[Vn (V:l.length<=q)]);have h:(mB l lp f c W).getD q 0=0:=by rw[Ub,Vn (by rw[uL];omega)];rfl
   rw[e,g,h,bm];exact(UL 0).symm
def tj(D:List a7):Prop:=D.length<=64/\∀i(hi:i<D.length),(D[i]).length<=64
def wd(D:List a7):Nat->Nat|0=>0|k+1=>if wd D k<(D.getD k []).length then(D.getD k []).length else wd D k
theorem abV(D:List a7)(i:Nat):∀k,i<k->(D.getD i []).length<=wd D k:=by intro k;induction k with|zero=>intro h;omega|succ k ih=>
  intro h;unfold wd;by_cases e:i=k;.subst e;split<;>omega
  .have:=ih V;split<;>omega
def K9(W:Nat)(l:a7):a7:=l++YF (W-l.length) 0
theorem Po(W:Nat)(l:a7):dP (K9 W l)=dP l:=by
 funext j;unfold dP K9;by_cases a:j<l.length;.simp[Vz a,a]
 . rw[Ub,U8 (Wz.1 a)];by_cases b:j-l.length<W-l.length;.simp[b,Vn (Wz.1 a)]
   .simp[b,Vn (Wz.1 a)]
def tK(W:Nat)(l:a7)(h:l.length<=W):(K9 W l).length=W:=by simp[K9];omega
def aas(W:Nat)(l:a7)(h:∀x∈l,x<256):∀x∈K9 W l,x<256:=by
 intro x a;rcases Ui.1 a with q|q;.exact h x q
 .have:=VG q;omega
structure EI(w:ZT)(B W c r:Nat)(v:ZS)(D:List a7)(T:List (Nat×Nat×a7))(wr:ZT):Prop where
 tab:eS wr B v T
 wid:∀i(hi:i<T.length),T[i].2.1=W/\T[i].2.2.length=W
 rle:r<=T.length
 len:T.length=D.length
 zer:∀i(hi:i<T.length),r<=i->∀j,j<c->dP T[i].2.2 j=0tak:∀k,dw (64-c) (m7 (T.map (λp=>p.2.2)) r) c k->oe D (r+k)bel:ZR B w wr
 siz:B<=wr.heap.size
def EI.skip(h:EI w B W c r v D T wr)(g:c<64)(d:∀i(a:i<T.length),r<=i->dP T[i].2.2 c=0):EI w B W (c+1) r v D T wr:={h with
  zer:=λi a b j l=>by
   by_cases e:j=c;.subst e;exact d i a b
   .exact h.zer i a b j V
  tak:=λk f=>by refine h.tak k ?_;have e:64-c=64-(c+1)+1:=V;rw[e];refine uf (λi a b=>?_) f;rw[UR];exact d i (ua a) b}
theorem EI.Tw(h:EI w B W c r v D T wr)(N:c<64)(s:r<=p)(u:p<T.length)(z:dP T[p].2.2 c≠0)(o:eS wr' B v T')(hl:T'.length=T.length)(A:∀i(a:i<T'.length),T'[i].2.1=W/\T'[i].2.2.length=W)(n:∀i(a:i<T'.length),r<i->∃f,∃h:(if i=p then r else i)<T.length,f<256/\dP T'[i].2.2=cC (dP T[if i=p then r else i].2.2) f (dP T[p].2.2)/\dP T'[i].2.2 c=0)(C:ZR B w wr')(F:B<=wr'.heap.size):EI w B W (c+1) (r+1) v D T' wr' where
 tab:=o;wid:=A;rle:=V;len:=by rw[hl];exact h.len
 zer:=λi a x j Z=>by
  obtain⟨f,b,t,e,m⟩:=n i a V;by_cases y:j=c;.subst y;exact m
  .rw[e];have G:=h.zer _ b adM j V;have H:=h.zer p u s j V;show dP T[if i=p then r else i].2.2 j^^^gm f (dP T[p].2.2 j)=0;rw[G,H,bm];exact UL 0
 tak:=λk E=>by
  have e:r+1+k=r+(k+1):=V;rw[e];refine h.tak (k+1) ?_;have e:64-c=64-(c+1)+1:=V;rw[e];refine sA (p:=p) (T':=T'.map (λp=>p.2.2)) ?_ ?_ (ua hl) s (ua u) (by rw[UR];exact z) ?_ E;.intro l d;obtain⟨q,g,rfl⟩:=T9.1 d;exact(h.tab.row q g).2.2.2.2
  .intro l d;obtain⟨q,g,rfl⟩:=T9.1 d;exact(o.row q g).2.2.2.2
  .intro i a x;obtain⟨f,b,t,e,m⟩:=n i (ua a) x;exact⟨f,ua b,t,by simp only[UR];exact e,by simp only[UR];exact m⟩
 bel:=C;siz:=F
def EI.start(h:eS wr w.heap.size v T)(d:T.map (λp=>p.2)=D.map (λl=>(W,K9 W l)))(m:∀i(f:i<D.length),(D[i]).length<=W)(n:ZR w.heap.size w wr)(q:w.heap.size<=wr.heap.size):EI w w.heap.size W 0 0 v D T wr:=by
 have hl:T.length=D.length:=ua (Uy YJ d);have c:∀i(a:i<T.length)(b:i<D.length),T[i].2=(W,K9 W D[i]):=by intro i a b;have:=List.getElem_of_eq d (i:=i) (ua a);simpa using this
 refine⟨h,λi f=>?_,T8 _,hl,λ_ _ _ j o=>absurd o (WK _),λk g=>?_,n,q⟩;.rw[c i f V];exact⟨rfl,tK W _ (m i V)⟩
 . rw[Uj];have e:m7 (T.map (λp=>p.2.2)) 0=m7 D 0:=yI (ua hl) (λi a b=>by rw[UR];have:=c i (ua a) b;rw[this];exact Po W _) 0;rw[e]at g;exact g
def EI.done(h:EI w B W c r v D T wr)(a:W<=c):oe D r:=h.tak 0 (ug (λl hl=>by obtain⟨q,d,rfl⟩:=T9.1 hl;obtain⟨i,b,rfl⟩:=Xz.1 d;rw[(h.wid i b).2];exact a))
def RC(w:ZT)(W:Nat)(v:ZS)(D:List a7)(rv cv:ZS)(wr:ZT):Prop:=∃(r c:Nat)(T:List (Nat×Nat×a7)),c<=W/\rv=I O (r:Nat)/\cv=I O (c:Nat)/\EI w w.heap.size W c r v D T wr
def RP(T:List (Nat×Nat×a7))(r c:Nat)(av iv:ZS):Prop:=∃k:Nat,r<=k/\k<=T.length/\iv=I O (k:Nat)/\((av=I O (-1)/\∀i(hi:i<T.length),r<=i->i<k->dP T[i].2.2 c=0)\/∃p:Nat,∃hp:p<T.length,r<=p/\av=I O (p:Nat)/\dP T[p].2.2 c≠0)
structure EW(w:ZT)(B W c r k:Nat)(v:ZS)(S:List (Nat×Nat×a7))(lp:a7)(T:List (Nat×Nat×a7))(wr:ZT):Prop where
 tab:eS wr B v T
 len:T.length=S.length
 wid:∀i(hi:i<T.length),T[i].2.1=W/\T[i].2.2.length=W
 old:∀i(hi:i<T.length)(hi':i<S.length),i<=r\/k<=i->T[i]=S[i]new:∀i(hi:i<T.length)(hi':i<S.length),r<i->i<k->∃f,f<256/\dP T[i].2.2=cC (dP S[i].2.2) f (dP lp)/\dP T[i].2.2 c=0
 bel:ZR B w wr
 siz:B<=wr.heap.size
def RW(w:ZT)(B W c r:Nat)(v:ZS)(S:List (Nat×Nat×a7))(lp:a7)(iv:ZS)(wr:ZT):Prop:=∃(k:Nat)(T:List (Nat×Nat×a7)),r<k/\k<=S.length/\iv=I O (k:Nat)/\EW w B W c r k v S lp T wr
def EW.step{S:List (Nat×Nat×a7)}{f:Nat}(h:EW w B W c r k v S lp T wr)(u:r<k)(d:k<T.length)(g:wr.grownBy wr' (J T[k].1))(m:aM wr' T[k].1 l')(j:l'.length=W)(s:∀x∈l',x<256)(p:f<256)(o:dP l'=cC (dP T[k].2.2) f (dP lp))(n:dP l' c=0):EW w B W c r (k+1) v S lp (T.set k (T[k].1,T[k].2.1,l')) wr':=by
 have q:=h.tab.row _ (T7 d);refine⟨h.tab.wrote d g m (by rw[j,(h.wid k d).2]) s,by rw[VY];exact h.len,λi a=>?_,λi a b ho=>?_,λi a b l t=>?_,gX h.bel g h.siz q.1,TU h.siz g.size⟩
 . rw[VY]at a;rw[YG];by_cases e:k=i;.rw[TT e];exact⟨(h.wid k d).1,j⟩
   .rw[TS e];exact h.wid i a
 .rw[VY]at a;rw[YG,TS V];exact h.old i a b V
 . rw[VY]at a;rw[YG];by_cases e:k=i;.subst e;rw[TT rfl];refine⟨f,p,?_,n⟩;rw[<-h.old k a b (.inr lR)];exact o
   .rw[TS e];exact h.new i a b l V
def EW.keep{S:List (Nat×Nat×a7)}(h:EW w B W c r k v S lp T wr)(j:k<T.length)(f:dP T[k].2.2 c=0):EW w B W c r (k+1) v S lp T wr:={h with
  old:=λi b a ho=>h.old i b a V
  new:=λi b a d g=>by
   by_cases e:i=k;.subst e;refine⟨0,ec,?_,f⟩;rw[qR,h.old i b a (.inr lR)]
   .exact h.new i b a d V}
def eS.ne(h:eS w B v T){i j:Nat}(c:i<T.length)(d:j<T.length)(f:i≠j):T[i].1≠T[j].1:=by
 have b:=V0.1 h.nodup;intro e;rcases YB f with a|a;.exact b i j (ua c) (ua d) a (ua e)
 .exact b j i (ua d) (ua c) a (ua e.symm)
def eS.head(h:eS w B (Z5 (J ⟨g,0,U⟩) n cap) T)(b:∀i(a:i<T.length),T[i].2.1=W/\T[i].2.2.length=W){i:Nat}(a:i<T.length):w.cell? ⟨g,i,U⟩=J (Z5 (J ⟨T[i].1,0,U⟩) W W):=by have:=h.So a;unfold fV at this;rw[(b i a).1,(b i a).2]at this;exact this
def eS.byte(h:eS w B v T)(d:∀i(a:i<T.length),T[i].2.1=W/\T[i].2.2.length=W){i:Nat}(a:i<T.length)(b:c<W):w.cell? ⟨T[i].1,c,U⟩=J (I .u8 ((dP T[i].2.2 c:Nat):Int))/\dP T[i].2.2 c<256:=⟨(h.row _ (T7 a)).2.1.cell c (by rw[(d i a).2];exact b),dM (h.row _ (T7 a)).2.2.2.2 c⟩
def EI.cells(h:EI w B W c r (Z5 (J ⟨g,0,U⟩) n cap) D T wr)(b:c<W)(i:Nat)(a:i<T.length):wr.cell? ⟨g,i,U⟩=J (Z5 (J ⟨T[i].1,0,U⟩) W W)/\wr.cell? ⟨T[i].1,c,U⟩=J (I .u8 ((dP T[i].2.2 c:Nat):Int))/\dP T[i].2.2 c<256:=⟨h.tab.head h.wid a,h.tab.byte h.wid a b⟩
def EI.swap(h:EI w B W c r (Z5 (J ⟨g,0,U⟩) n cap) D T wr)(d:B<=g)(b:r<T.length)(a:p<T.length):EW w B W c r (r+1) (Z5 (J ⟨g,0,U⟩) n cap) (xU T p r) T[p].2.2 (xU T p r) ((wr.setCell ⟨g,p,U⟩ (Z5 (J ⟨T[r].1,0,U⟩) W W)).setCell ⟨g,r,U⟩ (Z5 (J ⟨T[p].1,0,U⟩) W W)):=by
 have k:fV T[r]=Z5 (J ⟨T[r].1,0,U⟩) W W:=by unfold fV;rw[(h.wid r b).1,(h.wid r b).2]
 have l:fV T[p]=Z5 (J ⟨T[p].1,0,U⟩) W W:=by unfold fV;rw[(h.wid p a).1,(h.wid p a).2]
 have f:=h.tab.swap a b;rw[k,l]at f;refine⟨f,rfl,λi o=>?_,λ_ _ _ _=>rfl,λi _ _ m s=>absurd m V,?_,?_⟩;.obtain⟨j,q,e⟩:=Xz.1 (Hu T p r a b _ (T7 o));rw[<-e];exact h.wid j q
 .exact(h.bel.setCell (p:=⟨g,p,U⟩) d _).setCell (p:=⟨g,r,U⟩) d _
 .rw[YA,YA];exact h.siz
theorem EI.Sv(h:EI w B W c r v D T wr)(q:c<64)(o:r<=p)(d:p<T.length)(m:dP T[p].2.2 c≠0)(a:EW w B W c r k v (xU T p r) T[p].2.2 T' wr')(y:T.length<=k):EI w B W (c+1) (r+1) v D T' wr':=by
 have u:r<T.length:=V;have hl:T'.length=T.length:=by rw[a.len,gT]
 refine h.Tw q o d m a.tab hl a.wid (λi t n=>?_) a.bel a.siz;obtain⟨f,s,e,x⟩:=a.new i t (by rw[gT];omega) n V;have l:(if i=p then r else i)<T.length:=adM;refine⟨f,l,s,?_,x⟩;rw[e];have j:i<T.length:=V;have g:(xU T p r)[i]'(by rw[gT];omega)=T[if i=p then r else i]:=by
  rw[np T p r i d u j,TS V];by_cases b:i=p;.simp only[TT b]
  .simp only[TS b]
 rw[g]
def EW.top(a:r<T.length)(b:p<T.length)(h:EW w B W c r k v (xU T p r) T[p].2.2 T' wr):∃d:r<T'.length,T'[r]=T[p]:=by
 have:T'.length=T.length:=by rw[h.len,gT]
 refine⟨V,?_⟩;rw[h.old r V (by rw[gT];exact a) (.inl lR),np T p r r b a a,TT rfl]
def uM{x z:Int}(a b:Nat)(f:x=(a:Int))(g:y=(b:Int))(c:a<256)(d:b<256)(h:((gm a b:Nat):Int)=z)(w:ZT):ZQ ZI 55 #[I .u8 x,I .u8 y] w λe w'=>e=Z3 (I .u8 z)/\w'=w:=by subst f g h;exact uI a b c d w
def L4{x:Int}(a:Nat)(c:x=(a:Int))(b:a<256)(w:ZT):ZQ ZI 54 #[I .u8 x] w λe w'=>e=Z3 (I .u8 ((gi a:Nat):Int))/\w'=w:=by subst c;exact CM a b w
def RJ(wi:ZT)(b:Nat)(l lp:a7)(f c W:Nat)(jv:ZS)(wr:ZT):Prop:=∃j:Nat,c<=j/\j<=W/\jv=I O (j:Nat)/\wi.grownBy wr (J b)/\aM wr b (mB l lp f c j)
def L5(D:List a7)(w:ZT)(e:ZO)(w':ZT):Prop:=(tj D->∃k:Nat,k<=64/\e=Z3 (I O k)/\oe D k)/\(¬tj D->e=Z3 (I O (-1)))/\ZR w.heap.size w w'
def RR1(D:List a7)(wv i:ZS):Prop:=∃k:Nat,k<=D.length/\wv=I O (wd D k:Nat)/\i=I O k/\wd D k<=64/\∀j(hj:j<D.length),j<k->(D[j]).length<=64
def RR2(w:ZT)(W:Nat)(D:List a7)(v i:ZS)(wr:ZT):Prop:=∃k T,k<=D.length/\i=I O (k:Nat)/\eS wr w.heap.size v T/\T.map (λp=>p.2)=(D.take k).map (λl=>(W,K9 W l))/\ZR w.heap.size w wr/\w.heap.size<=wr.heap.size
theorem Jh(vd:ZS)(D:List a7)(w:ZT)(hd:Rd w vd D):ZQ ZI 33 #[vd] w λe w'=>L5 D w e w':=by
 obtain⟨i0,y8,kv,yj,yk⟩:=Uw Tryz.RX;by_cases ym:64<D.length;.obtain⟨ao,c,rfl,hl,_⟩:=hd;go_enter func33,ntmps33;go_wp2;go_ret;exact⟨λh=>absurd h.1 V,λ_=>rfl,TW _ _⟩
 by_cases kk:D=[];.subst kk;obtain⟨ao,c,rfl,_⟩:=hd;go_enter func33,ntmps33;go_wp2;refine VD 1 ?_;rw[Vx];go_wp2;refine VD 1 ?_;rw[Vx];go_wp2;refine VD 1 ?_;rw[Vx];go_wp2;go_ret;exact⟨λ_=>⟨0,V,rfl,ug (T:=[]) (λl hl=>by simp at hl)⟩,λh=>absurd ⟨ej,λi s=>by simp at s⟩ h,TW _ _⟩
 have xb:=ak kk;have y1:=hd.cases;rcases y1 with⟨h0,_⟩|⟨b,off,c,rfl,hl,hc⟩;.exact absurd h0 kk
 clear kk;have qs:∀i(s:i<D.length),D.getD i []=D[i]:=λi s=>by simp[s]
 have HC:=ak hc;have qd:=ak qs;clear hc qs;go_enter func33,ntmps33;go_wp2;go_loop[3,4](λwv i=>RR1 D wv i)(λ_ i=>D.length-(intOf i).toNat);case atStart=>exact⟨0,T8 _,rfl,rfl,T8 _,λj _ h=>absurd h V⟩
 case round=>
  obtain⟨k,hk,rfl,rfl,yh,kf⟩:=hrel;by_cases q6:k<D.length
  . obtain⟨u,hu,Z⟩:=HC.o k q6;obtain⟨fo,fc,rfl,q1,U',P,q4⟩:=Z;have O':(D[k]).length<=140737488355328:=V;have qc:wd D (k+1)=if wd D k<(D[k]).length then(D[k]).length else wd D k:=(by rw[<-qd.out k q6];rfl);have kj:=ak qc;by_cases B:(D[k]).length<=64
    . have qf:cL (∀j(hj:j<D.length),j<k+1->(D[j]).length<=64):=by
       intro j hj yq;by_cases e:j=k;.subst e;exact B
       .exact kf j hj V
      clear qc kf q1 U' P q4;generalize(D[k]).length=lk at*;by_cases F:wd D k<lk
      . have J':cL (wd D (k+1)=lk):=(by rw[kj.out,TT F];exact(rfl:lk=lk));clear kj;go_wp2;go_round;case rel=>exact⟨k+1,V,by rw[J'.out],eT,by rw[J'.out];omega,qf.out⟩
        case measure=>simp[intOf];omega
      . have J':cL (wd D (k+1)=wd D k):=(by rw[kj.out,TS F];exact(rfl:wd D k=wd D k));clear kj;go_wp2;go_round;case rel=>exact⟨k+1,V,by rw[J'.out],eT,by rw[J'.out];omega,qf.out⟩
        case measure=>simp[intOf];omega
    .have HN:cL (¬tj D):=λh=>B (h.2 k q6);clear qc kf q1 U' P q4;generalize(D[k]).length=lk at*;go_wp2;go_ret;exact⟨λh=>absurd h HN.o,λ_=>rfl,TW _ _⟩
  . have ya:k=D.length:=V;have ka:tj D:=⟨V,λi s=>kf i s V⟩;have qp:∀i(s:i<D.length),(D[i]).length<=wd D k:=λi s=>by have:=abV D i k V;rw[qd.out i s]at this;exact this
    generalize wd D k=W at*;have xg:=ak ka;have qh:=ak qp;clear kf ya ka qp;go_wp2;go_loopw[5,6](λv i wr=>RR2 w W D v i wr)(λ_ i _=>D.length-(intOf i).toNat);case atStart=>exact⟨0,[],T8 _,rfl,eS.nil _ _,rfl,TW _ _,TV _⟩
    case round=>
     rename ZT=>wo;obtain⟨k2,T,yr,rfl,I',H,R,kr⟩:=hrel;have qn:T.length=min k2 D.length:=(ua (Uy YJ H));by_cases k6:k2<D.length
     . obtain⟨u,hu,Z⟩:=HC.o k2 k6;have qk:=Z.mono R;have O':=qh.out k2 k6;have hx:=Z.lt;have qo:=acI k6;obtain⟨fo,fc,rfl,q1,U',P,q4⟩:=Z;have qb:wo.cell? ⟨b,off+k2,U⟩=J (.slice fo (D[k2]).length fc):=(by rw[R.cell (Ue hu)];exact hu);have xx:T.length<=64:=V;have HH:=ak H;have xn:=ak qo;clear H qn hu q1 U' P q4 qo;generalize D[k2]=l at*;go_wp2_with(first|(at_make;refine dq _ rfl (Z0 51) (Z0 51) rfl _ W rfl rfl rfl V ?_;intro w1 hB L n;clear n;have x4:=qb;rw[<-L.cell (Ue qb)]at x4)|(refine yT rfl (Z0 53) (Z0 57) rfl wo.heap.size W W _ rfl rfl _ l hB (qk.mono L) O' ej wo.heap.size wo L lR ?_;intro w2 Q N)|(at_builtin;refine WH _ rfl (Z0 59) (Z0 61) 84 rfl w.heap.size 36 i0 (Z5 U 0 0) 1 24 VP y8 kv yj yk rfl ec _ T.length (T.map fV) rfl ((I'.below N).alloc _).own ⟨w2.heap.size,0,U⟩ 1 1 [Z5 (J ⟨wo.heap.size,0,U⟩) W W] rfl rfl (nh _ _ rfl _ _) HU eD V (by rw[Uh];have:=N.size;omega) ?_;intro v' w3 h9 h5 yb));have qj:aM w2 wo.heap.size (K9 W l):=by have e:l++(YF W 0).drop l.length=K9 W l:=(by rw[XZ];rfl);rw[e]at Q;exact Q
       have xv:=eS.append2 I' N kr lR qj (tK W l O').symm (by rw[tK W l O'];omega) (by rw[tK W l O'];omega) (aas W l hx) h5 h9;have xy:=ez I' R N kr h5;have yf:=h5.size;have yz:=N.size;rw[Uh]at yf;have xh:cL ((T++[(wo.heap.size,W,K9 W l)]).map (λp=>p.2)=(D.take (k2+1)).map (λl=>(W,K9 W l))):=by rw[xn.out,Uz,Uz,HH.o];exact(rfl:_=_)
       clear I' h9 h5 yb hB Q qj L N R qk qb x4 hx;go_wp2;go_roundw;case rel=>exact⟨k2+1,_,V,eT,xv,xh.out,xy,V⟩
       case measure=>simp[intOf];omega
     . have qx:k2=D.length:=V;rw[qx,VE]at H;have A:=EI.start I' H qh.out R kr;have hs:T.length=D.length:=(ua (Uy YJ H));rcases I'.shape with⟨rfl,h0⟩|⟨g,cap,hv,y4,y5,q0,y6,_⟩;.exact absurd (U2 (by rw[<-hs,h0];rfl)) xb.out
       rw[hs]at hv;subst hv;clear I' H R kr y5 q0 y6 qn hs qx;go_wp2;go_loopw[8,9](λrv cv wr=>RC w W (Z5 (J ⟨g,0,U⟩) D.length cap) D rv cv wr)(λ_ cv _=>W-(intOf cv).toNat);case atStart=>exact⟨0,0,T,T8 _,rfl,rfl,A⟩
       case round=>
        clear A;rename ZT=>wo2;obtain⟨r,d,a,yn,rfl,rfl,A⟩:=hrel;have qz:=A.len;have yd:=A.rle;by_cases ky:d<W
        . have E:=ak A;have ki:=ak (EI.cells A ky);clear A;go_wp2;go_loop[10,11](λav M=>RP a r d av M)(λ_ M=>a.length-(intOf M).toNat);case atStart=>exact⟨r,TV _,yd,rfl,.inl ⟨rfl,λi s B F=>absurd B V⟩⟩
          case round=>
           obtain⟨k3,yc,yx,rfl,q8⟩:=hrel;by_cases qy:k3<a.length
           . obtain⟨q1,U',P⟩:=ki.out k3 qy;have xk:=ak q8;clear q8;have kv:dP a[k3].2.2 d=dP a[k3].2.2 d:=rfl;have HZ:=ak kv;clear kv;by_cases n:dP a[k3].2.2 d=0
             . have HZ:=ak n;rw[n]at U';clear n P;go_wp2;go_round;case rel=>
                refine⟨k3+1,V,V,eT,?_⟩;rcases xk.out with⟨e,B⟩|⟨p,C,B,F,h3⟩
                . refine .inl ⟨e,λi s a1 a2=>?_⟩;by_cases e:i=k3;.subst e;exact HZ.o
                  .exact B i s a1 V
                .exact .inr ⟨p,C,B,F,h3⟩
               case measure=>simp[intOf];omega
             . have y2:(((dP a[k3].2.2 d:Nat):Int)!=0)=ZV:=Zs;have HZ:=ak n;clear n P;go_wp2;go_round;case rel=>exact⟨k3+1,V,V,eT,.inr ⟨k3,qy,yc,eT,HZ.o⟩⟩
               case measure=>simp[intOf];omega
           . rcases q8 with⟨rfl,n⟩|⟨p,C,x1,rfl,q9⟩
             . have xc:=ak (E.o.skip V (λi s hr=>n i s hr V));clear n;go_wp2;go_roundw;case rel=>exact⟨r,d+1,a,V,rfl,eT,xc.out⟩
               case measure=>simp[intOf];omega
             . obtain⟨p1,p2,p3⟩:=ki.out p C;have kp:r<a.length:=V;obtain⟨r1,_,_⟩:=ki.out r kp;have X:=E.o.swap y4 kp C;have h7:=E.o.tab.own;rw[E.o.len]at h7;have f1:=h7.frozenAt p;have f2:(wo2.setCell ⟨g,p,U⟩ (Z5 (J ⟨a[r].1,0,U⟩) W W)).frozen? ⟨g,r,U⟩=ZU:=(World.frozen?_setCell _ _ _ _).trans (h7.frozenAt r);have c1:(wo2.setCell ⟨g,p,U⟩ (Z5 (J ⟨a[r].1,0,U⟩) W W)).cell? ⟨g,r,U⟩=J (Z5 (J ⟨a[r].1,0,U⟩) W W):=by
                by_cases e:p=r;.subst e;exact World.cell?_setCell_same _ _ _ r1
                .rw[adg _ _ _ _ (by intro h;injection h with B F;exact e F)];exact r1
               obtain⟨yg,x2⟩:=EW.top kp C X;have L:=(X.tab.byte X.wid yg ky).1;rw[x2]at L;have xq:(xU a p r).length=a.length:=gT a p r;have x0:∀q,q<d->dP a[p].2.2 q=0:=λq hq=>E.o.zer p C x1 q hq;have xj:=ak x0;have xf:=ak (λ(k:Nat)(T':List (Nat×Nat×a7))(wr':ZT)(h':EW w w.heap.size W d r k (Z5 (J ⟨g,0,U⟩) D.length cap) (xU a p r) a[p].2.2 T' wr')(hk:a.length<=k)=>E.o.Sv V x1 C q9 h' hk);have kx:=ak (λ(k:Nat)(T':List (Nat×Nat×a7))(wr':ZT)(h':EW w w.heap.size W d r k (Z5 (J ⟨g,0,U⟩) D.length cap) (xU a p r) a[p].2.2 T' wr')=>EW.top kp C h');have qe:=ak (E.o.wid p C).2;have xm:=ak q9;have HS:=ak X;clear h7 x2 x0 q9 X ki E;generalize xU a p r=S at*;generalize a[p]=t at*;generalize a[r].1=br at*;generalize x7:dP t.2.2 d=y at*;generalize qq:t.1=bp at*;have xp:=ak x7;have x8:=ak qq;clear x7 qq;go_wp2_with(go_at_call 54;refine(L4 y rfl p3 _).mono ?_;rintro e w'⟨rfl,rfl⟩);go_loopw[14](λM wr=>RW w w.heap.size W d r (Z5 (J ⟨g,0,U⟩) D.length cap) S t.2.2 M wr)(λM _=>S.length-(intOf M).toNat);case atStart=>exact⟨r+1,S,V,V,eT,HS.o⟩
               case round=>
                clear p1 p2 r1 f1 f2 c1 L HS;rename ZT=>V';obtain⟨k4,z,qa,yv,rfl,m⟩:=hrel;have yy:z.length=a.length:=(by rw[m.len];exact xq);by_cases ys:k4<a.length
                . have G:k4<z.length:=V;have hh:=m.tab.head m.wid G;obtain⟨yi,ks⟩:=m.tab.byte m.wid G ky;have h8:=m.tab.row _ (T7 G);have y7:=qV m.tab.own h8.2.1;have hll:=(m.wid k4 G).2;obtain⟨x3,kh⟩:=kx.out k4 z V' m;have q7:=m.tab.ne x3 G V;have kg:=m.tab.row _ (T7 x3);rw[kh]at kg q7;rw[x8.out]at kg q7;have xa:=ak kg.2.1;have xi:=ak kg.2.2.2.2;have x9:=ak h8.2.1;have qi:=ak h8.2.2.2.2;have h6:=ak (λn=>m.keep G n);have qg:cL (∀(f:Nat)(l':a7)(wr':ZT),f<256->V'.grownBy wr' (J z[k4].1)->aM wr' z[k4].1 l'->l'.length=W->(∀x∈l',x<256)->dP l'=cC (dP z[k4].2.2) f (dP t.2.2)->dP l' d=0->∃T',EW w w.heap.size W d r (k4+1) (Z5 (J ⟨g,0,U⟩) D.length cap) S t.2.2 T' wr'):=λf l' wr' hf hg hB q5 hx Y hc=>⟨_,m.step qa G hg hB q5 hx hf Y hc⟩;clear m h8 kg kh;generalize O':z[k4].2.2=l at*;generalize z[k4].1=bk at*;generalize x6:dP l d=x at*;have kb:gm x (gi y)<256:=aV _ ks;have ke:=oQ ks p3 xm.out;generalize ko:gm x (gi y)=f at*;have ha:=ak ke;have xo:=ak x6;clear ke x6 O';by_cases km:f=0
                  . have kz:((gm x (gi y):Nat):Int)=0:=(by rw[ko,km];rfl);have x5:x=0:=(by have:=ha.out;rw[km,bO,UX]at this;exact this);have J':=ak (h6.out x5);clear km ko kb x5 h6 qg ha;have tn:(d:Int)<(W:Int):=V;go_wp2_with(go_at_call 55;refine(uM x (gi y) rfl rfl ks (dH p3) kz _).mono ?_;rintro e V'⟨rfl,rfl⟩);refine VD 1 ?_;rw[Vx];go_wp2;go_roundw;case rel=>exact⟨k4+1,z,V,V,eT,J'.out⟩
                    case measure=>simp[intOf];omega
                  . have y2:(((f:Nat):Int)!=0)=ZV:=Zs;have kz:((gm x (gi y):Nat):Int)=((f:Nat):Int):=(by rw[ko]);clear km ko h6;go_wp2_with(go_at_call 55;refine(uM x (gi y) rfl rfl ks (dH p3) kz _).mono ?_;rintro e V'⟨rfl,rfl⟩);go_loopw[16](λjv wr=>RJ V' bk l t.2.2 f d W jv wr)(λjv _=>W-(intOf jv).toNat);case atStart=>exact⟨d,TV _,V,rfl,Wx _ _,by rw[FF];exact x9.out⟩
                    case round=>
                     rename ZT=>wj;obtain⟨j,y0,yp,rfl,kc,K⟩:=hrel;have yo:=kc.cell hh y7;by_cases y9:j<W
                     . have N:=(xa.out.grown kc (by intro e;injection e with e;exact q7 e)).cell j (by rw[qe.out];exact y9);have ye:=K.cell j (by rw[uL];omega);rw[L2 _ _ _ _ _ V]at ye;have z0:=K.frozen j;have Q:=K.set j (l.getD j 0^^^gm f (t.2.2.getD j 0));rw[Jg _ _ _ _ _ y0]at Q;have q0:=fq kc j (I .u8 ((l.getD j 0^^^gm f (t.2.2.getD j 0):Nat):Int));have y3:=dM xi.out j;have z1:=mv (l.getD j 0) (gm f (t.2.2.getD j 0)) (dM qi.out j) (aV _ kb);clear K kc hh yi;generalize l.getD j 0^^^gm f (t.2.2.getD j 0)=av at*;generalize l.getD j 0=a0 at*;generalize t.2.2.getD j 0=dd at*;go_wp2_with(go_at_call 55;refine(uM f dd rfl rfl kb y3 rfl _).mono ?_;rintro e w'⟨rfl,rfl⟩);go_region;go_wp2;go_roundw;case rel=>exact⟨j+1,V,V,eT,uC q0 1,Q⟩
                       case measure=>simp[intOf];omega
                     . have qv:j=W:=V;rw[qv]at K;have Y:=L3 l t.2.2 f d W hll qe.out xj.out;have n:dP (mB l t.2.2 f d W) d=0:=by rw[Y];show dP l d^^^gm f (dP t.2.2 d)=0;rw[xo.out,xp.out];exact ha.out
                       obtain⟨T4,qm⟩:=qg.out f _ wj kb kc K (by rw[uL];exact hll) (Pn qi.out kb _ _) Y n;have xe:=ak qm;clear Y n qm K qv;go_wp2;go_roundw;case rel=>exact⟨k4+1,T4,V,V,eT,xe.out⟩
                       case measure=>simp[intOf];omega
                . have xd:=ak (xf.out k4 z V' m V);clear m;go_wp2;go_roundw;case rel=>exact⟨r+1,d+1,z,V,eT,eT,xd.out⟩
                  case measure=>simp[intOf];omega
        .have xz:d=W:=V;have HK:=ak (A.done V);have HB:=ak A.bel;clear A xz;go_wp2;go_ret;exact⟨λ_=>⟨r,V,rfl,HK.o⟩,λh=>absurd xg.out h,HB.o⟩
def fF(a:ZL)(i:Nat)(v:ZS)(h:i<a.tmps.size):(a.put (J i) v).eval (.tmp i)=v:=by simp[Act.put,Act.eval,h]
def aD(a:ZL)(i j:Nat)(v:ZS)(h:i≠j):(a.put (J i) v).eval (.tmp j)=a.eval (.tmp j):=by simp[Act.put,Act.eval,YI,h]
def fZ(a:ZL)(d:Option Nat)(v:ZS):(a.put d v).tmps.size=a.tmps.size:=by cases d<;>simp[Act.put]
def put_comm(a:ZL)(i j:Nat)(v u:ZS)(h:i≠j):(a.put (J i) v).put (J j) u=(a.put (J j) u).put (J i) v:=by simp only[Act.put];rw[YV _ _ h]
def dX{a:ZL}(b:o.guard=U):Region.wanted o (yielded ops a.tmps)=ZV:=by simp[Region.wanted,b]
def jA{a:ZL}{x:ZJ}(b:o.guard=U)(ho:o.op=.move x)(c:a.eval x=v):Yields P ops o v a:=.inl ⟨dX b,λw=>by simp[execOp,ho,c]⟩
def rg:Code->Nat->Option (Array ZM)|.region i ops _,n=>if i=n then J ops else U|.seq a b,n=>(rg a n).orElse λ_=>rg b n|.cond _ a b,n=>(rg a n).orElse λ_=>rg b n|.block _ a,n=>rg a n|.loop a,n=>rg a n|.scope a,n=>rg a n|_,_=>U
noncomputable def R12:Array ZM:=((Tryz.f149.body.bind (rg · 12))).getD #[]
def abW(l:a7):Array Bool:=l.foldl (λa i=>a.setIfInBounds i ZV) (YH 12 ZU)
def iu:(YE 12).map (λi=>(R12[i]?).map λo=>(o.op,o.dst,o.guard))=[J (.move (Z0 4),J 28,U),J (.move (Z0 6),J 29,U),J (.move (Z0 6),J 30,U),J (.indexAddr 292 (Z0 3) (Z0 30),J 31,U),J (.load 118 (Z0 31),J 32,U),J (.move (Z0 4),J 33,U),J (.indexAddr 292 (Z0 3) (Z0 33),J 34,U),J (.load 118 (Z0 34),J 35,U),J (.indexAddr 292 (Z0 3) (Z0 28),J 36,U),J (.store 118 (Z0 36) (Z0 32),U,U),J (.indexAddr 292 (Z0 3) (Z0 29),J 37,U),J (.store 118 (Z0 37) (Z0 35),U,U)]:=ee
def iw{x:Op}{d:Option Nat}(f:i<12)(h:((YE 12).map (λi=>(R12[i]?).map λo=>(o.op,o.dst,o.guard)))[i]?=J (J (x,d,U))):∃o,R12[i]?=J o/\o.op=x/\o.dst=d/\o.guard=U:=by simp only[UJ,WE f,X6,UF,Wu,Xo]at h;obtain⟨o,a,b,c,e⟩:=h;exact⟨o,a,b,c,e⟩
theorem pA(gb p:Nat)(e:p<64){o:ZM}{a:ZL}{x y:ZJ}(ho:o.op=.indexAddr 292 x y)(b:a.eval x=Z6 (J ⟨gb,0,U⟩))(c:a.eval y=I O (p:Nat))(w:ZT):(execOp a.eval o).run ZI w=.ok (.value (Z6 (J ⟨gb,p*64,U⟩))) w:=by have d:(p:Int)<64:=V;simp only[execOp,ho,b,c];go_simp
def Tryz.Ti:(ZI.info? 118).map (λi=>i.size)=J 64:=ee
def L6(a:ZL)(gb p r:Nat)(cp cr:List ZS):ZL:=((((((((((a.put (J 28) (I O (r:Nat))).put (J 29) (I O (p:Nat))).put (J 30) (I O (p:Nat))).put (J 33) (I O (r:Nat))).put (J 31) (Z6 (J ⟨gb,p*64,U⟩))).put (J 34) (Z6 (J ⟨gb,r*64,U⟩))).put (J 32) (.agg cp.toArray)).put (J 35) (.agg cr.toArray)).put (J 36) (Z6 (J ⟨gb,r*64,U⟩))).put U ZY).put (J 37) (Z6 (J ⟨gb,p*64,U⟩))|>.put U ZY
theorem L7{Q:ZN->ZL->ZT->Prop}{a:ZL}(gb p r:Nat)(cp e:List ZS)(hR:R12=ops)(g:∀c n v a w,Q (.panic c) (a.put (J n) v) w->Q (.panic c) a w)(l:a.tmps.size=47)(hp:p<64)(hr:r<64)(e3:a.eval (Z0 3)=Z6 (J ⟨gb,0,U⟩))(U':a.eval (Z0 4)=I O (r:Nat))(V':a.eval (Z0 6)=I O (p:Nat))(lp:cp.length=64)(lr:e.length=64)(op:cp.toArray.all (λv=>v.oneCell')=ZV)(or:e.toArray.all (λv=>v.oneCell')=ZV)(Y:w.drew.rangeAt gb (p*64) cp)(Z:w.drew.rangeAt gb (r*64) e)(tr:w.drew.there gb (r*64) 64)(tp:w.drew.there gb (p*64) 64)(h:Q .normal (L6 a gb p r cp e) ((w.drew.setCells gb (r*64) cp).setCells gb (p*64) e)):(Code.region 12 ops ZV).wp ZI Q a w:=by
 subst hR;obtain⟨o0,g0,x0,L,k0⟩:=iw (i:=0) ec Ok;obtain⟨o1,g1,x1,d1,k1⟩:=iw (i:=1) ec Ok;obtain⟨o2,g2,x2,M,k2⟩:=iw (i:=2) ec Ok;obtain⟨o3,g3,x3,N,k3⟩:=iw (i:=3) ec Ok;obtain⟨o4,W,x4,O',k4⟩:=iw (i:=4) ec Ok;obtain⟨o5,g5,x5,P,k5⟩:=iw (i:=5) ec Ok;obtain⟨o6,g6,x6,R,k6⟩:=iw (i:=6) ec Ok;obtain⟨o7,X,x7,S,k7⟩:=iw (i:=7) ec Ok;obtain⟨o8,g8,x8,T,k8⟩:=iw (i:=8) ec Ok;obtain⟨o9,g9,x9,d9,k9⟩:=iw (i:=9) ec Ok;obtain⟨h3,x,G,d10,z⟩:=iw (i:=10) ec Ok;obtain⟨h4,y,H,d11,A⟩:=iw (i:=11) ec Ok;have f:Region.noSelect R12=ZV:=ee;have h1:R12.size=12:=ee;refine wp_region_any ee ?_;rw[h1];change wpAny _ _ _ _ _ (abW []) _ (World.drew _);refine WZ g0 f ee ee (λc a w h=>g c _ _ a w (by rw[L]at h;exact h)) (jA k0 x0 U') ?_;rw[L];refine WZ g1 f ee ee (λc a w h=>g c _ _ a w (by rw[d1]at h;exact h)) (jA (v:=I O (p:Nat)) k1 x1 (by rw[aD _ _ _ _ ec];exact V')) ?_;rw[d1];refine WZ g2 f ee ee (λc a w h=>g c _ _ a w (by rw[M]at h;exact h)) (jA (v:=I O (p:Nat)) k2 x2 (by rw[aD _ _ _ _ ec,aD _ _ _ _ ec];exact V')) ?_;rw[M];refine WZ g5 f ee ee (λc a w h=>g c _ _ a w (by rw[P]at h;exact h)) (jA (v:=I O (r:Nat)) k5 x5 (by rw[aD _ _ _ _ ec,aD _ _ _ _ ec,aD _ _ _ _ ec];exact U')) ?_;rw[P];generalize hb:(((a.put (J 28) (I O (r:Nat))).put (J 29) (I O (p:Nat))).put (J 30) (I O (p:Nat))).put (J 33) (I O (r:Nat))=b;have sb:b.tmps.size=47:=by rw[<-hb];simp only[fZ,l]
 have b3:b.eval (Z0 3)=Z6 (J ⟨gb,0,U⟩):=by rw[<-hb];simp only[aD _ _ _ _ (ec:(33:Nat)≠3),aD _ _ _ _ (ec:(30:Nat)≠3),aD _ _ _ _ (ec:(29:Nat)≠3),aD _ _ _ _ (ec:(28:Nat)≠3),e3]
 have q:b.eval (Z0 30)=I O (p:Nat):=by rw[<-hb,aD _ _ _ _ ec,fF _ _ _ ZG]
 have s:b.eval (Z0 33)=I O (r:Nat):=by rw[<-hb,fF _ _ _ ZG]
 have m:b.eval (Z0 28)=I O (r:Nat):=by rw[<-hb,aD _ _ _ _ ec,aD _ _ _ _ ec,aD _ _ _ _ ec,fF _ _ _ (by simp only[l];decide)]
 have o:b.eval (Z0 29)=I O (p:Nat):=by rw[<-hb,aD _ _ _ _ ec,aD _ _ _ _ ec,fF _ _ _ ZG]
 unfold L6 at h;rw[hb]at h;clear hb;refine WZ g3 f ee ee (λc a w h=>g c _ _ a w (by rw[N]at h;exact h)) (.inl ⟨dX k3,pA gb p hp x3 b3 q⟩) ?_;rw[N];refine WZ g6 f ee ee (λc a w h=>g c _ _ a w (by rw[R]at h;exact h)) (.inl ⟨dX k6,pA gb r hr x6 (by rw[aD _ _ _ _ ec];exact b3) (by rw[aD _ _ _ _ ec];exact s)⟩) ?_;rw[R];generalize hc:(b.put (J 31) (Z6 (J ⟨gb,p*64,U⟩))).put (J 34) (Z6 (J ⟨gb,r*64,U⟩))=c;have F:c.tmps.size=47:=by rw[<-hc];simp only[fZ,sb]
 have c3:c.eval (Z0 3)=Z6 (J ⟨gb,0,U⟩):=by rw[<-hc,aD _ _ _ _ ec,aD _ _ _ _ ec,b3]
 have t:c.eval (Z0 28)=I O (r:Nat):=by rw[<-hc,aD _ _ _ _ ec,aD _ _ _ _ ec,m]
 have u:c.eval (Z0 29)=I O (p:Nat):=by rw[<-hc,aD _ _ _ _ ec,aD _ _ _ _ ec,o]
 have j:c.eval (Z0 31)=Z6 (J ⟨gb,p*64,U⟩):=by rw[<-hc,aD _ _ _ _ ec,fF _ _ _ (by rw[sb];decide)]
 have k:c.eval (Z0 34)=Z6 (J ⟨gb,r*64,U⟩):=by rw[<-hc,fF _ _ _ (by simp only[fZ,sb];decide)]
 rw[hc]at h;clear hc;have I':(ZI.info? 118).map (λi=>i.size)=J cp.length:=by rw[lp];exact Tryz.Ti
 have J':(ZI.info? 118).map (λi=>i.size)=J e.length:=by rw[lr];exact Tryz.Ti
 have fin:wpAny ZI .any R12 Q 4 (abW [0,1,2,5,3,6,4,7]) ((c.put (J 32) (.agg cp.toArray)).put (J 35) (.agg e.toArray)) w.drew:=by
  generalize hd:(c.put (J 32) (.agg cp.toArray)).put (J 35) (.agg e.toArray)=d;have sd:d.tmps.size=47:=by rw[<-hd];simp only[fZ,F]
  have q3:d.eval (Z0 3)=Z6 (J ⟨gb,0,U⟩):=by rw[<-hd,aD _ _ _ _ ec,aD _ _ _ _ ec,c3]
  have B:d.eval (Z0 28)=I O (r:Nat):=by rw[<-hd,aD _ _ _ _ ec,aD _ _ _ _ ec,t]
  have C:d.eval (Z0 29)=I O (p:Nat):=by rw[<-hd,aD _ _ _ _ ec,aD _ _ _ _ ec,u]
  have D:d.eval (Z0 32)=.agg cp.toArray:=by rw[<-hd,aD _ _ _ _ ec,fF _ _ _ (by rw[F];decide)]
  have E:d.eval (Z0 35)=.agg e.toArray:=by rw[<-hd,fF _ _ _ (by simp only[fZ,F];decide)]
  rw[hd]at h;clear hd;refine WZ g8 f ee ee (λc a w h=>g c _ _ a w (by rw[T]at h;exact h)) (.inl ⟨dX k8,pA gb r hr x8 q3 B⟩) ?_;rw[T];refine X9 (rs:=[9]) ee ej ?_;refine XG g9 (λK hK=>?_) Ya;rw[TT (dX k9)];refine wp_store_mid 118 (Z0 36) (Z0 32) x9 gb (r*64) cp.toArray (by rw[fF _ _ _ (by rw[sd];decide)]) (by rw[aD _ _ _ _ ec,D]) (by simpa[lp]using tr) (ua I') op ?_;refine hK _ _ ?_;rw[d9];refine WZ x f ee ee (λc a w h=>g c _ _ a w (by rw[d10]at h;exact h)) (.inl ⟨dX z,pA gb p hp G (by show(d.put (J 36) _).eval _=_;rw[aD _ _ _ _ ec];exact q3) (by show(d.put (J 36) _).eval _=_;rw[aD _ _ _ _ ec];exact C)⟩) ?_;rw[d10];refine X9 (rs:=[11]) ee ej ?_;refine XG y (λK hK=>?_) Ya;rw[TT (dX A)];refine wp_store_mid 118 (Z0 37) (Z0 35) H gb (p*64) e.toArray (by rw[fF _ _ _ (by show 37<(d.put (J 36) _).tmps.size;rw[fZ,sd];decide)]) (by rw[aD _ _ _ _ ec];show(d.put (J 36) _).eval _=_;rw[aD _ _ _ _ ec,E]) (by simpa[lr]using World.there_setCells tp gb (r*64) cp) (ua J') or ?_;refine hK _ _ ?_;rw[d11];exact wpAny_done ee h _
 refine X9 (rs:=[4,7]) ee ej ?_;refine XG W (λK hK=>?_) (XG X (λK hK=>?_) Ya);.rw[TT (dX k4)];refine acJ 118 (Z0 31) x4 gb (p*64) j cp _ Y Yb rfl I' ?_;refine hK _ _ ?_;rw[O'];refine X9 (rs:=[7]) ee ej ?_;refine XG X (λK hK=>?_) Ya;rw[TT (dX k7)];refine acJ 118 (Z0 34) x7 gb (r*64) (by rw[aD _ _ _ _ ec];exact k) e _ Z Yb rfl J' ?_;refine hK _ _ ?_;rw[S];exact fin
 .rw[TT (dX k7)];refine acJ 118 (Z0 34) x7 gb (r*64) k e _ Z Yb rfl J' ?_;refine hK _ _ ?_;rw[S];refine X9 (rs:=[4]) ee ej ?_;refine XG W (λK hK=>?_) Ya;rw[TT (dX k4)];refine acJ 118 (Z0 31) x4 gb (p*64) (by rw[aD _ _ _ _ ec];exact j) cp _ Y Yb rfl I' ?_;refine hK _ _ ?_;rw[O',put_comm _ _ _ _ _ ec];exact fin
structure St where
 k:Nat
 a:Int
 b:Int
 c:Nat
def Ji(kk:IntKind)(s:St):List ZS:=[.int kk s.k,I O s.a,I O s.b,I .u8 s.c]
def AR(s:St):Prop:=s.k<256/\-9223372036854775808<=s.a/\s.a<=9223372036854775807/\-9223372036854775808<=s.b/\s.b<=9223372036854775807/\s.c<256
def Ps(kk:IntKind)(w:ZT)(v:ZS)(P:List St):Prop:=∃ao c,v=.slice ao P.length c/\P.length<=4398046511104/\(P≠[]->∃b off,ao=J ⟨b,off,U⟩/\∀i(hi:i<P.length),w.cell? ⟨b,off+i*4,U⟩=J (.int kk P[i].k)/\w.cell? ⟨b,off+i*4+1,U⟩=J (I O P[i].a)/\w.cell? ⟨b,off+i*4+2,U⟩=J (I O P[i].b)/\w.cell? ⟨b,off+i*4+3,U⟩=J (I .u8 P[i].c))
def Ps.mono{P:List St}(h:Ps kk w v P)(a:ZR w.heap.size w w'):Ps kk w' v P:=by obtain⟨ao,c,g,j,k⟩:=h;refine⟨ao,c,g,j,λl=>?_⟩;obtain⟨b,off,e,m⟩:=k l;refine⟨b,off,e,λi n=>?_⟩;obtain⟨c0,c1,d,f⟩:=m i n;exact⟨by rw[a.cell (Ue c0)];exact c0,by rw[a.cell (Ue c1)];exact c1,by rw[a.cell (Ue d)];exact d,by rw[a.cell (Ue f)];exact f⟩
def Ps.cases{P:List St}(h:Ps kk w v P):(P=[]/\∃ao c,v=.slice ao 0 c)\/∃b off c,v=Z5 (J ⟨b,off,U⟩) P.length c/\P.length<=4398046511104/\∀i(l:i<P.length),w.cell? ⟨b,off+i*4,U⟩=J (.int kk P[i].k)/\w.cell? ⟨b,off+i*4+1,U⟩=J (I O P[i].a)/\w.cell? ⟨b,off+i*4+2,U⟩=J (I O P[i].b)/\w.cell? ⟨b,off+i*4+3,U⟩=J (I .u8 P[i].c):=by
 obtain⟨ao,c,d,f,g⟩:=h;by_cases e:P=[];.subst e;exact .inl ⟨rfl,ao,c,d⟩
 .obtain⟨b,off,rfl,j⟩:=g e;exact .inr ⟨b,off,c,d,f,j⟩
def Ps.slice{P:List St}(h:Ps kk w v P):∃ao c,v=.slice ao P.length c:=by obtain⟨ao,c,a,_⟩:=h;exact⟨ao,c,a⟩
def jd(s:St)(regs shards:Int):Prop:=(s.k=0\/s.k=2)/\0<=s.a/\s.a<regs/\0<=s.b/\s.b<shards\/s.k=1/\0<=s.a/\s.a<regs/\0<=s.b/\s.b<regs/\s.a≠s.b
def AS(regs:Int)(P:List St):Prop:=0<=regs/\regs<=32/\P.length<=2000
def je(regs:Int)(P:List St)(shards:Int):Prop:=AS regs P/\∀i(hi:i<P.length),jd P[i] regs shards
def BIs(p:Prop)(w:ZT)(r:ZO)(w':ZT):Prop:=∃b:Bool,r=Z3 (Z1 b)/\(b=ZV↔p)/\ZR w.heap.size w w'
def acp(p:Prop)(w:ZT)(r:ZO)(w':ZT):Prop:=∃b:Bool,r=Z3 (Z1 b)/\(b=ZV↔p)/\w'=w
def Cf(n e:Int):Prop:=0<=n/\n<e
theorem uN(n e:Int)(w:ZT):ZQ ZI 219 #[I O n,I O e] w λr w'=>acp (Cf n e) w r w':=by
 by_cases a:0<=n;.go_enter func219,ntmps219;go_wp2;go_ret;exact⟨_,rfl,by unfold Cf;simp[a],rfl⟩
 .go_enter func219,ntmps219;go_wp2;go_ret;exact⟨_,rfl,by unfold Cf;simp;omega,rfl⟩
def fO(n e:Int)(h:Cf n e)(w:ZT):ZQ ZI 219 #[I O n,I O e] w λr w'=>r=Z3 (Z1 ZV)/\w'=w:=by refine(uN n e w).mono ?_;rintro r w'⟨b,rfl,a,rfl⟩;exact⟨by rw[a.2 h],rfl⟩
def kA(n e:Int)(h:¬Cf n e)(w:ZT):ZQ ZI 219 #[I O n,I O e] w λr w'=>r=Z3 (Z1 ZU)/\w'=w:=by
 refine(uN n e w).mono ?_;rintro r w'⟨b,rfl,a,rfl⟩;cases b;.exact⟨rfl,rfl⟩
 .exact absurd (a.1 rfl) h
theorem CW(regs:Int)(v:ZS)(P:List St)(w:ZT)(h:Ps .u8 w v P):ZQ ZI 205 #[.agg #[I O regs,v]] w λr w'=>BIs (AS regs P) w r w':=by
 obtain⟨ao,c,rfl⟩:=h.slice;have d:ZR w.heap.size w (w.alloc (Z4 #[I O regs,.slice ao P.length c] 210)):=bA _ _;by_cases b:Cf regs 33;.have a:=ak b;go_enter func205,ntmps205;go_wp2_with(go_at_call 219;refine(fO _ _ a.o _).mono ?_;rintro e w'⟨rfl,rfl⟩);go_ret;refine⟨_,rfl,?_,d⟩;have:=a.o;unfold Cf at this;unfold AS;simp;omega
 .have a:=ak b;go_enter func205,ntmps205;go_wp2_with(go_at_call 219;refine(kA _ _ a.o _).mono ?_;rintro e w'⟨rfl,rfl⟩);go_ret;refine⟨_,rfl,?_,d⟩;have:=a.o;unfold Cf at this;unfold AS;simp;omega
theorem Jj(s:St)(regs d:Int)(w:ZT):ZQ ZI 206 #[.agg #[I .u8 s.k,I O s.a,I O s.b,I .u8 s.c],I O regs,I O d] w λr w'=>BIs (jd s regs d) w r w':=by
 obtain⟨k,a,b,c⟩:=s;have i:ZR w.heap.size w (w.alloc (Z4 #[I .u8 k,I O a,I O b,I .u8 c] 304)):=bA _ _;by_cases l:k=0\/k=2
 . by_cases h:Cf a regs
   . by_cases j:Cf b d;.have f:=ak h;have g:=ak j;rcases l with rfl|rfl;all_goals go_enter func206,ntmps206;go_wp2_with fail;refine(fO _ _ f.o _).mono ?_;rintro e w'⟨rfl,rfl⟩;go_wp2_with fail;refine(fO _ _ g.o _).mono ?_;rintro e w'⟨rfl,rfl⟩;go_wp2;go_ret;refine⟨_,rfl,?_,i⟩;have:=f.o;have:=g.o;unfold Cf at*;unfold jd;simp;omega
     .have f:=ak h;have g:=ak j;rcases l with rfl|rfl;all_goals go_enter func206,ntmps206;go_wp2_with fail;refine(fO _ _ f.o _).mono ?_;rintro e w'⟨rfl,rfl⟩;go_wp2_with fail;refine(kA _ _ g.o _).mono ?_;rintro e w'⟨rfl,rfl⟩;go_wp2;go_ret;refine⟨_,rfl,?_,i⟩;have:=f.o;have:=g.o;unfold Cf at*;unfold jd;simp;omega
   .have f:=ak h;rcases l with rfl|rfl;all_goals go_enter func206,ntmps206;go_wp2_with(go_at_call 219;refine(kA _ _ f.o _).mono ?_;rintro e w'⟨rfl,rfl⟩);go_ret;refine⟨_,rfl,?_,i⟩;have:=f.o;unfold Cf at*;unfold jd;simp;omega
 . by_cases k1:k=1
   . subst k1;by_cases h:Cf a regs
     . by_cases j:Cf b regs;.have f:=ak h;have g:=ak j;go_enter func206,ntmps206;go_wp2_with fail;refine(fO _ _ f.o _).mono ?_;rintro e w'⟨rfl,rfl⟩;go_wp2_with fail;refine(fO _ _ g.o _).mono ?_;rintro e w'⟨rfl,rfl⟩;go_wp2;go_ret;refine⟨_,rfl,?_,i⟩;have:=f.o;have:=g.o;unfold Cf at*;unfold jd;simp;omega
       .have f:=ak h;have g:=ak j;go_enter func206,ntmps206;go_wp2_with fail;refine(fO _ _ f.o _).mono ?_;rintro e w'⟨rfl,rfl⟩;go_wp2_with fail;refine(kA _ _ g.o _).mono ?_;rintro e w'⟨rfl,rfl⟩;go_wp2;go_ret;refine⟨_,rfl,?_,i⟩;have:=f.o;have:=g.o;unfold Cf at*;unfold jd;simp;omega
     .have f:=ak h;go_enter func206,ntmps206;go_wp2_with(go_at_call 219;refine(kA _ _ f.o _).mono ?_;rintro e w'⟨rfl,rfl⟩);go_ret;refine⟨_,rfl,?_,i⟩;have:=f.o;unfold Cf at*;unfold jd;simp;omega
   .have p:((k:Int)==0)=ZU:=vy;have q:((k:Int)==1)=ZU:=vy;have t:((k:Int)==2)=ZU:=vy;have m:=ak l;have n:=ak k1;go_enter func206,ntmps206;go_wp2;go_ret;refine⟨_,rfl,?_,i⟩;have:=m.out;have:=n.out;unfold jd;simp;omega
def aat(regs:Int)(P:List St)(shards:Int)(w:ZT)(r:ZO)(w':ZT):Prop:=(je regs P shards->r=Z3 .nilIface)/\(¬je regs P shards->r=Z3 (.iface 58 (I O 4)))/\ZR w.heap.size w w'
def ChR(w:ZT)(regs shards:Int)(P:List St)(i:ZS)(wr:ZT):Prop:=∃k:Nat,k<=P.length/\i=I O k/\(∀j(hj:j<P.length),j<k->jd P[j] regs shards)/\ZR w.heap.size w wr
theorem abX{x y:ZS}(h:ZR (n+1) (w.alloc (Z4 #[x,y] t)) w')(a:n=w.heap.size):w'.cell? ⟨n,0,U⟩=J x/\w'.cell? ⟨n,1,U⟩=J y:=by
 subst a;constructor;.rw[h.cell ej];simp
 .rw[h.cell ej];simp
theorem Jk(regs d:Int)(v:ZS)(P:List St)(w:ZT)(h:Ps .u8 w v P):ZQ ZI 183 #[.agg #[I O regs,v],I O d] w λr w'=>aat regs P d w r w':=by
 have n:ZR w.heap.size w (w.alloc (Z4 #[I O regs,v] 210)):=bA _ _;have x:=h.mono n;obtain⟨ao,c,rfl⟩:=h.slice;go_enter func183,ntmps183;go_wp2_with fail;refine(CW regs _ P _ x).mono ?_;rintro r w1⟨b,rfl,q,l⟩;rw[Uh]at l;obtain⟨L,Y⟩:=abX l rfl;have U':=l.size;rw[Uh]at U';have m:=n.trans (l.mono V);cases b;.have M:=ak (show¬je regs P d fromλg=>by have:=q.2 g.1;simp at this);clear q l x h n;go_wp2;go_ret;exact⟨λg=>absurd g M.o,λ_=>rfl,m⟩
 . have G:=ak (q.1 rfl);have y:=h.mono m;clear q l x n h;rcases y.cases with⟨rfl,N,O',e⟩|⟨b,off,O',e,_,B⟩;.simp at e;obtain⟨rfl,rfl⟩:=e;clear y;go_wp2;refine VD 1 ?_;rw[Vx];go_wp2;go_ret;exact⟨λ_=>rfl,λg=>absurd ⟨G.o,λi s=>by simp at s⟩ g,m⟩
   . simp at e;obtain⟨rfl,rfl⟩:=e;clear y;go_wp2;go_loopw[14](λi wr=>ChR w1 regs d P i wr)(λi _=>P.length-(intOf i).toNat);case atStart=>exact⟨0,T8 _,rfl,λj _ D=>absurd D V,TW _ _⟩
     case round=>
      rename ZT=>wo;obtain⟨k,V',rfl,p,f⟩:=hrel;have E:=(f.cell (Ue L)).trans L;by_cases K:k<P.length
      . obtain⟨c0,c1,t,u⟩:=B k K;have Q:=(f.cell (Ue c0)).trans c0;have d1:=(f.cell (Ue c1)).trans c1;have R:=(f.cell (Ue t)).trans t;have S:=(f.cell (Ue u)).trans u;have A:=ak p;clear B p c0 c1 t u;have F:=(((TW wo.heap.size wo).alloc lR (Z4 #[I .u8 P[k].k,I O P[k].a,I O P[k].b,I .u8 P[k].c] 304)).cell (Ue E)).trans E;have H:=f.alloc f.size (Z4 #[I .u8 P[k].k,I O P[k].a,I O P[k].b,I .u8 P[k].c] 304);have X:=f.size;go_wp2_with fail;refine(Jj P[k] regs d _).mono ?_;rintro r w2⟨b2,rfl,J',C⟩;rw[Uh]at C;have Z:=H.trans (C.mono V);have z:=ak J';clear C J' Q d1 R S E F f H;cases b2;.go_wp2;go_ret;exact⟨λg=>absurd (z.out.2 (g.2 k K)) ej,λ_=>rfl,m.trans (Z.mono V)⟩
        . go_wp2;go_roundw;case rel=>
           refine⟨k+1,V,eT,λj D W=>?_,Z⟩;by_cases e:j=k;.subst e;first|exact z.out.1 rfl|exact z.out.1 trivial
           .exact A.out j D V
          case measure=>simp[intOf];omega
      .have T:k=P.length:=V;subst T;have A:=ak p;clear B p;go_wp2;go_ret;exact⟨λ_=>rfl,λg=>absurd ⟨G.o,λi s=>A.out i s s⟩ g,m.trans (f.mono V)⟩
def eY(kk:IntKind):List St->List ZS|[]=>[]|s::P=>Ji kk s++eY kk P
def sI(kk:IntKind):∀P Q,eY kk (P++Q)=eY kk P++eY kk Q|[],_=>rfl|s::P,Q=>by simp[eY,sI kk P Q]
def Hv(kk:IntKind):∀(P:List St)(i:Nat)(b:i<P.length)(j:Nat),j<4->(eY kk P)[i*4+j]?=(Ji kk P[i])[j]?
 |s::P,0,_,j,a=>by simp only[eY,acK,Uj,adk];rw[Vz (by simpa[Ji]using a)]|s::P,i+1,b,j,a=>by
  have e:(i+1)*4+j=(Ji kk s).length+(i*4+j):=by simp[Ji];omega
  simp only[eY,Yc];rw[e,U8 (Nat.le_add_right _ _),WB];exact Hv kk P i (ua b) j a
def CY(w:ZT)(n:Nat)(b:n=w.heap.size)(x y z u:ZS)(t:ZK):∀j v,[x,y,z,u][j]?=J v->(w.alloc (Z4 #[x,y,z,u] t)).cell? ((⟨n,0,U⟩:ZP).add j)=J v:=by
 subst b;intro j v a;rw[kl];rcases j with _|_|_|_|j;all_goals simp at a
 all_goals subst a;simp
def Pp{P:List St}(h:w.ownsRow base e 4 v P.length (eY kk P))(hl:P.length<=4398046511104):Ps kk w v P:=by
 rcases h.2 with⟨b,c⟩|⟨g,cap,cur,a,k,l,m,n,o,p⟩;.have:P=[]:=U2 c;subst this;exact⟨U,0,b,ej,λh=>absurd rfl h⟩
 . subst a;refine⟨J ⟨g,0,U⟩,cap,rfl,hl,λ_=>⟨g,0,rfl,λi d=>?_⟩⟩;have at':∀j,j<4->w.cell? ⟨g,0+i*4+j,U⟩=(Ji kk P[i])[j]?:=λj f=>by rw[Uj,h.cellAt (i*4+j) V,Hv kk P i d j f]
   exact⟨at' 0 ec,at' 1 ec,at' 2 ec,at' 3 ec⟩
def CZ{ob:Option Nat}(h:w0.grownBy w ob)(o:Obj):w0.grownBy (w.alloc o) ob:=⟨h.os,h.tape,h.output,by rw[Uh];have:=h.size;omega,λk a b=>by rw[<-h.block k a b];exact((TW w.heap.size w).alloc lR o).block k (TY a h.size)⟩
def dN(w:ZT)(b i:Nat)(v:ZS):w.grownBy (w.setCell ⟨b,i,U⟩ v) (J b):=⟨rfl,rfl,rfl,ej,λk _ a=>by have:b≠k:=λe=>a V2;simp[World.setCell,Vb,this]⟩
def pB(w:ZT)(o:Obj)(k:Nat)(h:k<w.heap.size):(w.alloc o).heap[k]?=w.heap[k]?:=((TW w.heap.size w).alloc lR o).block k h
def L8(w:ZT)(a b c:Obj):(((w.alloc a).alloc b).alloc c).heap.size=w.heap.size+3/\(((w.alloc a).alloc b).alloc c).heap[w.heap.size]?=J a/\(((w.alloc a).alloc b).alloc c).heap[w.heap.size+1]?=J b/\(((w.alloc a).alloc b).alloc c).heap[w.heap.size+1+1]?=J c:=by
 have d:=Uh w a;have e:=Uh (w.alloc a) b;have:=Uh ((w.alloc a).alloc b) c;refine⟨V,?_,?_,?_⟩;.rw[pB _ _ _ V,pB _ _ _ V];exact UD w a
 .rw[pB _ _ _ V,<-d];exact UD _ b
 .rw[<-d,<-e];exact UD _ c
def aB{ob:Nat}{x y:ZS}(h:w.heap[ob]?=J (Z4 #[x,y] t (0,0))):w.cell? ⟨ob,0,U⟩=J x/\w.cell? ⟨ob,1,U⟩=J y/\w.frozen? ⟨ob,1,U⟩=ZU/\w.frozen? ⟨ob,0,U⟩=ZU:=by simp[World.cell?,World.frozen?,h]
def bR(P:List St)(k:Nat):St:=P.getD k ⟨3,0,0,0⟩
def eE(P:List St)(k:Nat)(h:k<P.length):bR P k=P[k]:=by simp[bR,h]
def fl(P:List St)(D:List a7):Nat->Option Nat|0=>U|k+1=>match fl P D k with|some n=>J n|none=>if(bR P k).k=0 then J (D.getD (bR P k).b.toNat []).length else U
def pC(gone i:Nat):Prop:=gone/2^i%2=1
def Pr(P:List St)(D:List a7)(gone i:Nat):Prop:=(bR P i).k=0->¬pC gone (bR P i).b.toNat/\fl P D (i+1)=J (D.getD (bR P i).b.toNat []).length/\(D.getD (bR P i).b.toNat []).length<=4096
def gY(P:List St)(D:List a7)(gone:Nat):Prop:=∀i,i<P.length->Pr P D gone i
def eZ(P:List St)(D:List a7):Nat:=(fl P D P.length).getD 0
def pD(P:List St)(D:List a7)(k n:Nat)(h:fl P D k=J n):fl P D (k+1)=J n:=by simp[fl,h]
def AT(P:List St)(D:List a7)(k:Nat)(h:fl P D k=U)(a:(bR P k).k=0):fl P D (k+1)=J (D.getD (bR P k).b.toNat []).length:=by simp[fl,h,a]
def uO(P:List St)(D:List a7)(k:Nat)(a:(bR P k).k≠0):fl P D (k+1)=fl P D k:=by cases h:fl P D k<;>simp[fl,h,a]
def Hw(P:List St)(D:List a7)(k n:Nat)(h:fl P D k=J n):∀m,k<=m->fl P D m=J n:=by intro m a;induction m with
 | zero => have:k=0:=by omega
           subst this;exact h|succ m ih=>
  by_cases e:k=m+1;.subst e;exact h
  .exact pD P D m n (ih V)
def aau{P:List St}(h:gY P D gone)(i:Nat)(a:i<P.length)(c:(bR P i).k=0):(D.getD (bR P i).b.toNat []).length=eZ P D:=by have:=(h i a c).2.1;have:=Hw P D (i+1) _ this P.length V;simp[eZ,this]
def Q3{P:List St}(h:gY P D gone):∀k,k<=P.length->∀n,fl P D k=J n->n<=4096|0,_,n,e=>by simp[fl]at e|k+1,hk,n,e=>by cases a:fl P D k with|some m=>have:=Q3 h k V m a;rw[pD P D k m a]at e;simp at e;omega|none=>
   by_cases b:(bR P k).k=0;.have q:=(h k V b);rw[q.2.1]at e;have:=UN e;omega
   .rw[uO P D k b,a]at e;simp at e
def Jl{P:List St}(h:gY P D gone):eZ P D<=4096:=by unfold eZ;cases hf:fl P D P.length with|none=>simp|some n=>exact Q3 h P.length lR n hf
def jf(x y:a7)(c:Nat):a7:=(YE x.length).map λj=>x.getD j 0^^^gm c (y.getD j 0)
def eA(D:List a7)(s:St)(R:List a7):List a7:=if s.k=0 then R.set s.a.toNat (D.getD s.b.toNat [])else if s.k=1 then R.set s.a.toNat (jf (R.getD s.a.toNat []) (R.getD s.b.toNat []) s.c)else R
def iN(s:St)(R:List a7)(O':List (Int×a7)):List (Int×a7):=if s.k=2 then O'++[(s.b,R.getD s.a.toNat [])]else O'
def bZ(P:List St)(D:List a7)(R0:List a7):Nat->List a7|0=>R0|k+1=>eA D (bR P k) (bZ P D R0 k)
def dO(P:List St)(D:List a7)(R0:List a7):Nat->List (Int×a7)|0=>[]|k+1=>iN (bR P k) (bZ P D R0 k) (dO P D R0 k)
def fG(r n:Nat):List a7:=YF r (YF n 0)
def In(w:ZT)(b:Nat)(D:List a7)(gone:Nat):Prop:=∀i(hi:i<D.length),(pC gone i->w.cell? ⟨b,i,U⟩=J (Z5 U 0 0))/\(¬pC gone i->∃a c,w.cell? ⟨b,i,U⟩=J (Z5 (J a) (D[i]).length c)/\Bs w (Z5 (J a) (D[i]).length c) D[i])
def In.mono(h:In w b D gone)(d:ZR w.heap.size w w'):In w' b D gone:=λi l=>by obtain⟨g,j⟩:=h i l;refine⟨λf=>by have:=g f;rw[d.cell (Ue this)];exact this,λf=>?_⟩;obtain⟨a,c,e,k⟩:=j f;exact⟨a,c,by rw[d.cell (Ue e)];exact e,k.mono d⟩
def AU(P:List St):Nat:=P.foldl (λs t=>if t.k=0 then s|||2^t.b.toNat else s) 0
def C4(P:List St)(t:St):AU (P++[t])=if t.k=0 then AU P|||2^t.b.toNat else AU P:=by unfold AU;rw[Ws];rfl
def L9{P:List St}(a:k<P.length):AU (P.take (k+1))=if P[k].k=0 then AU (P.take k)|||2^P[k].b.toNat else AU (P.take k):=by rw[Vl,Ud a,adl,C4]
theorem pE(P:List St)(i:Nat):(AU P).testBit i=ZV↔∃s∈P,s.k=0/\s.b.toNat=i:=by obtain⟨Q,rfl⟩:∃Q,P=Q.reverse:=⟨P.reverse,ej⟩;induction Q with|nil=>simp[AU]|cons t Q ih=>
  rw[List.reverse_cons,C4];by_cases h:t.k=0
  . rw[TT h,V4,XB,Xf,ih,VM];constructor
    . rintro(⟨s,a,c⟩|a);.exact⟨s,UB _ a,c⟩
      .exact⟨t,ej,h,a⟩
    . rintro⟨s,a,c,d⟩;rcases Ui.1 a with q|q;.exact .inl ⟨s,q,c,d⟩
      .rw[Va]at q;exact .inr (by rw[<-q];exact d)
  . rw[TS h,ih];constructor;.rintro⟨s,a,c⟩;exact⟨s,UB _ a,c⟩
    . rintro⟨s,a,c⟩;rcases Ui.1 a with q|q;.exact⟨s,q,c⟩
      .rw[Va]at q;exact absurd (q▸c.1) h
def Ma{P:List St}(h:∀s∈P,s.k=0->s.b.toNat<16):AU P<65536:=by
 refine Nat.lt_pow_two_of_testBit (n:=16) _ λi e=>?_;cases hb:(AU P).testBit i;.rfl
 .obtain⟨s,a,c,d⟩:=(pE P i).1 hb;have:=h s a c;omega
def LoR(w:ZT)(P:List St)(lv iv:ZS)(wr:ZT):Prop:=∃k:Nat,k<=P.length/\iv=I O k/\lv=I Z8 (AU (P.take k):Nat)/\ZR w.heap.size w wr
theorem Jm(regs:Int){v:ZS}{P:List St}{w:ZT}(h:Ps .u8 w v P)(y:∀s∈P,s.k=0->0<=s.b/\s.b<16)(hl:P.length<=5000):ZQ ZI 161 #[.agg #[I O regs,v]] w λe w'=>e=Z3 (I Z8 (AU P:Nat))/\ZR w.heap.size w w':=by
 obtain⟨ao,c,rfl⟩:=h.slice;have n:ZR w.heap.size w (w.alloc (Z4 #[I O regs,.slice ao P.length c] 210)):=bA w _;have p:(w.alloc (Z4 #[I O regs,.slice ao P.length c] 210)).heap[w.heap.size]?=J (Z4 #[I O regs,.slice ao P.length c] 210 (0,0)):=Ug _ _;obtain⟨w1,u⟩:=nM (w.alloc (Z4 #[I O regs,.slice ao P.length c] 210));rw[u]at n p;have k1:w1.cell? ⟨w.heap.size,1,U⟩=J (.slice ao P.length c):=by simp[World.cell?,p]
 have H:=au n h y;clear n p h y;go_enter func161,ntmps161;go_wp2;go_loopw[3,9](λG q wr=>LoR w P G q wr)(λ_ q _=>P.length-(intOf q).toNat);case atStart=>exact⟨0,T8 _,rfl,rfl,H.o.1⟩
 case round=>
  clear k1 u;rename ZT=>wo;obtain⟨k,M,rfl,rfl,f⟩:=hrel;by_cases l:k<P.length
  . rcases(H.o.2.1.mono f).cases with⟨rfl,_⟩|⟨b,off,Z,e,_,z⟩;.simp at l
    simp at e;obtain⟨rfl,rfl⟩:=e;obtain⟨J',d1,K,L⟩:=z k l;have t:=f.alloc f.size (Z4 #[I .u8 P[k].k,I O P[k].a,I O P[k].b,I .u8 P[k].c] 304);have j:=ak (L9 l);have A:=ak (H.o.2.2 _ (T7 l));have C:=ak (Ma (P:=P.take k) (λs F B=>ia (H.o.2.2 s (US F) B)));have i:=ak t;clear z f t;generalize P[k].k=r at*;generalize P[k].b=sb at*;by_cases g:r=0
    . have tk:((r:Int)==0)=ZV:=(by simp[g]);have N:=A.o g;have d:=j.o;rw[TT g]at d;have m:=ak d;clear g d j;obtain⟨x,rfl⟩:∃x:Nat,sb=(x:Int):=⟨sb.toNat,V⟩;go_wp2_with fail;refine(fE (AU (P.take k)) x (ia C.out) V _).mono ?_;rintro e O'⟨rfl,E⟩;subst E;go_wp2;go_roundw;case rel=>exact⟨k+1,V,eT,by rw[m.out,VF],i.o⟩
      case measure=>simp[intOf]<;>omega
    . have tk:((r:Int)==0)=ZU:=ek;have d:=j.o;rw[TS g]at d;have m:=ak d;clear g d j;go_wp2;go_roundw;case rel=>exact⟨k+1,V,eT,by rw[m.out],i.o⟩
      case measure=>simp[intOf]<;>omega
  .have D:k=P.length:=V;subst D;rw[VE];have i:=ak f;clear f;go_wp2;go_ret;exact⟨rfl,i.o⟩
def ri:List (Int×Nat×Nat×a7)->List ZS|[]=>[]|q::O'=>[I O q.1,fV q.2]++ri O'
def sJ:∀O' a,ri (O'++a)=ri O'++ri a|[],_=>rfl|q::O',a=>by simp[ri,sJ O' a]
def Hx:∀(O':List (Int×Nat×Nat×a7))(i:Nat)(a:i<O'.length),(ri O')[i*2]?=J (I O O'[i].1)/\(ri O')[i*2+1]?=J (fV O'[i].2)
 |q::O',0,_=>by simp[ri]|q::O',i+1,a=>by
  have:=Hx O' i (ua a);have b:(i+1)*2=i*2+2:=V;have c:(i+1)*2+1=i*2+1+2:=V;simp only[ri,Yc];refine⟨?_,?_⟩;.rw[b];simpa using this.1
  .rw[c];simpa using this.2
structure nJ(t:ZK)(w:ZT)(base:Nat)(v:ZS)(O':List (Int×Nat×Nat×a7)):Prop where own:w.ownsRow base t 2 v O'.length (ri O')row:∀q∈O',base<=q.2.1/\aM w q.2.1 q.2.2.2/\q.2.2.1<=q.2.2.2.length/\(q.2.2.1<=140737488355328/\q.2.2.2.length<=9223372036854775807)/\∀x∈q.2.2.2,x<256nodup:(O'.map (λq=>q.2.1)).Nodup
def nJ.nil(t:ZK)(w:ZT)(base:Nat):nJ t w base (Z5 U 0 0) []:=⟨UQ _ _ _ _,λq a=>Zu,ej⟩
def nJ.below(h:nJ t w base v O')(d:ZR w.heap.size w w'):nJ t w' base v O':=⟨az h.own d,λq e=>by obtain⟨a,b,c⟩:=h.row q e;exact⟨a,b.below d,c⟩,h.nodup⟩
def nJ.cases(h:nJ t w base v O'):(O'=[]/\v=Z5 U 0 0)\/∃g cap,v=Z5 (J ⟨g,0,U⟩) O'.length cap/\∀i(b:i<O'.length),w.cell? ⟨g,i*2,U⟩=J (I O O'[i].1)/\w.cell? ⟨g,i*2+1,U⟩=J (fV O'[i].2):=by
 rcases h.own.2 with⟨c,d⟩|⟨g,cap,cur,a,_⟩;.exact .inl ⟨U2 d,c⟩
 .refine .inr ⟨g,cap,a,λi b=>?_⟩;have ho:=h.own;rw[a]at ho;obtain⟨e,f⟩:=Hx O' i b;exact⟨by rw[ho.cellAt (i*2) V];exact e,by rw[ho.cellAt (i*2+1) V];exact f⟩
def bv(l:a7):List ZS:=l.map λx=>Value.int .u8 ((x:Nat):Int)
theorem Mc(h:w.heap[g]?=J (Z4 (((bv l).toArray)++Builtin.zeroCells #[I .u8 0] m) 5 (0,0))):aM w g (l++YF m 0):=by
 have e:((bv l).toArray++Builtin.zeroCells #[I .u8 0] m)=((l++YF m 0).map (λx=>Value.int .u8 ((x:Nat):Int))).toArray:=by apply Array.ext';simp[bv,Builtin.zeroCells,Nat.mod_one,List.map_const']
 rw[e]at h;refine⟨_,h,ej,λi a=>?_⟩;rw[XE,UJ,Ud a];simp[vb,Ud a]
def FG{a:ZL}{Q:ZN->ZL->ZT->Prop}(b:o.guard=U)(s x:ZJ)(t:ZK)(ho:o.op=.call {callee:=.builtin .append,args:=#[s,x],argTypes:=#[t,t]})(vs vx v':ZS)(hs:a.eval s=vs)(hx:a.eval x=vx)(h0:(Builtin.append_ #[t,t] o.type #[vs,vx]).run ZI w=.ok v' w')(h:wpList ZI ops Q rest (a.put o.dst v') w'):wpList ZI ops Q (o::rest) a w:=by refine VZ b λK hK=>?_;unfold Oper.wp;simp[execOp,ho,resolve,invoke,builtin,hs,hx,h0,Result.andThen];exact hK _ _ h
theorem FH(d:ZP)(c:Nat)(l:a7)(w:ZT)(h:Bs w (Z5 (J d) l.length c) l)(hl:l.length<=100000):ZQ ZI 187 #[Z5 (J d) l.length c] w λe w'=>∃b m,e=Z3 (Z5 (J ⟨b,0,U⟩) l.length (l.length+m))/\w.heap.size<=b/\aM w' b (l++YF m 0)/\l.length+m<=9223372036854775807/\ZR w.heap.size w w':=by
 obtain⟨M,E,H,Z,J'⟩:=Uw Tryz.R5;have D:=λN=>XH (P:=ZI) N 36 5 (J d) l.length c 0 0 Ur;have y:∀j u,(bv l)[j]?=J u->(w.alloc (Z4 #[] 5)).cell? (d.add j)=J u:=by
  intro j u p;obtain⟨r,O',e,_,_,_,z⟩:=h.mono ((TW _ _).alloc lR (Z4 #[] 5));have g:j<l.length:=by obtain⟨q,_⟩:=Vd.1 p;simpa[bv]using q
  obtain⟨n,a,k,G⟩:=z (by intro e;rw[e]at g;simp at g);simp at e;rw[<-e.1]at k;simp at k;subst k;have s:(⟨n,a,U⟩:ZP).add j=⟨n,a+j,U⟩:=by unfold Addr.add;split<;>simp_all
  rw[s,G j g,<-p];simp[bv,g]
 have f:ZR w.heap.size w (w.alloc (Z4 #[] 5)):=bA _ _;by_cases t:l.length=0;.have F:l=[]:=U2 t;subst F;go_enter func187,ntmps187;simp only[U0]at D;go_wp2;go_ret;exact⟨w.heap.size,0,rfl,TV _,⟨#[],UD w _,rfl,λi K=>by simp at K⟩,V,f⟩
 . have x:=run_append_grow (P:=ZI) (w:=w.alloc (Z4 #[] 5)) 36 36 5 M (I .u8 0) Ur E H ⟨w.heap.size,0,U⟩ 0 0 [] ej (λj v L=>by simp at L) d l.length c (bv l) (by rw[Z];simp[bv]) y V V (by rw[J'];have:=acL (need:=0+l.length) (old:=0) (bytes:=1) V V;omega);obtain⟨cp,Q,C,o⟩:∃cp,l.length<=cp/\cp<=9223372036854775807/\(Builtin.append_ #[36,36] 36 #[Z5 (J ⟨w.heap.size,0,U⟩) 0 0,Z5 (J d) l.length c]).run ZI (w.alloc (Z4 #[] 5))=.ok (Z5 (J ⟨w.heap.size+1,0,U⟩) l.length cp) ((w.alloc (Z4 #[] 5)).drew.alloc (Z4 ((bv l).toArray++Builtin.zeroCells #[I .u8 0] (cp-l.length)) 5)):=by refine⟨grownCap (w.alloc (Z4 #[] 5)) (0+l.length) 0 5,ia (acM (w.alloc (Z4 #[] 5)) (0+l.length) 0 5),by have:=acN (w.alloc (Z4 #[] 5)) (0+l.length) 0 5 eD;unfold maxLen at this;omega,?_⟩;rw[x,Uh];simp[Value.cells]
   obtain⟨m,rfl⟩:∃m,cp=l.length+m:=⟨cp-l.length,V⟩;rw[WB]at o;have A:=ak o;go_enter func187,ntmps187;go_wp2_with(at_builtin;refine FG rfl (Z0 5) (Z0 6) 36 rfl _ _ _ rfl rfl A.out ?_);go_ret;have B:aM ((w.alloc (Z4 #[] 5)).drew.alloc (Z4 ((bv l).toArray++Builtin.zeroCells #[I .u8 0] m) 5)) (w.heap.size+1) (l++YF m 0):=by refine Mc ?_;have:=UD (w.alloc (Z4 #[] 5)).drew (Z4 ((bv l).toArray++Builtin.zeroCells #[I .u8 0] m) 5);rwa[show(w.alloc (Z4 #[] 5)).drew.heap.size=w.heap.size+1 from Uh _ _]at this
   exact⟨w.heap.size+1,m,rfl,V,B,C,((show ZR w.heap.size w (w.alloc (Z4 #[] 5)).drew from⟨f.os,f.tape,f.output,f.size,f.block⟩).alloc (G0:w.heap.size<=(w.alloc _).heap.size) _)⟩
def LlR(w:ZT)(P:List St)(D:List a7)(gone:Nat)(lv sv iv:ZS)(wr:ZT):Prop:=∃k:Nat,k<=P.length/\iv=I O k/\lv=I O ((fl P D k).getD 0:Nat)/\sv=Z1 (fl P D k).isSome/\(∀i,i<k->Pr P D gone i)/\ZR w.heap.size w wr
def aav(P:List St)(D:List a7)(gone:Nat)(w:ZT)(r:ZO)(w':ZT):Prop:=(gY P D gone->r=Z3 (ZZ #[I O (eZ P D:Nat),.nilIface]))/\(¬gY P D gone->r=Z3 (ZZ #[I O 0,.iface 58 (I O 2)]))/\ZR w.heap.size w w'
theorem rk(v:ZS)(P:List St)(W ci:Nat)(D:List a7)(gone:Nat)(w:ZT)(h:Ps .u8 w v P)(L:In w W D gone)(hq:∀l∈D,l.length<=100000)(N:∀i,i<P.length->(bR P i).k=0->0<=(bR P i).b/\(bR P i).b<(D.length:Int))(hl:P.length<=5000):ZQ ZI 184 #[v,Z5 (J ⟨W,0,U⟩) D.length ci] w λr w'=>aav P D gone w r w':=by
 obtain⟨ao,c,rfl⟩:=h.slice;go_enter func184,ntmps184;go_wp2;go_loopw[6,7,13](λlv sv S wr=>LlR w P D gone lv sv S wr)(λ_ _ S _=>P.length-(intOf S).toNat);case atStart=>exact⟨0,T8 _,rfl,rfl,rfl,λi A=>absurd A V,TW _ _⟩
 case round=>
  rename ZT=>wo;obtain⟨k,hk,rfl,rfl,rfl,J',I'⟩:=hrel;have k8:=I'.size;by_cases y:k<P.length
  . rcases(h.mono I').cases with⟨rfl,_⟩|⟨b,off,cc,e,_,X⟩;.simp at y
    simp at e;obtain⟨rfl,rfl⟩:=e;obtain⟨d0,d1,d2,d3⟩:=X k y;have hy:=eE P k y;have K:=N k y;have E:=ak J';have u:=ak (pD P D k);have s:=ak (AT P D k);have H:=ak (uO P D k);have d:cL (Pr P D gone k↔((bR P k).k=0->¬pC gone (bR P k).b.toNat/\fl P D (k+1)=J (D.getD (bR P k).b.toNat []).length/\(D.getD (bR P k).b.toNat []).length<=4096)):=Yd;rw[hy]at K s H d;have j:=I'.alloc k8 (Z4 #[I .u8 P[k].k,I O P[k].a,I O P[k].b,I .u8 P[k].c] 304);have M:=L.mono j;clear X J' L h N hy;generalize P[k].k=T at*;generalize P[k].b=sb at*;by_cases z:T=0
    . have tk:((T:Int)!=0)=ZU:=(by simp[z]);obtain⟨q1,q2⟩:=K z;have G:=ak z;clear z;obtain⟨x,rfl⟩:∃x:Nat,sb=(x:Int):=⟨sb.toNat,V⟩;have O':x<D.length:=V;obtain⟨Q,R⟩:=M x O';have Y:D.getD x []=D[x]:=(by simp[O']);have k9:=hq _ (T7 O');rw[VF,Y]at s d;clear K q1 q2 M Y H;by_cases F:pC gone x
      . have ha:=Q F;have t:cL (¬gY P D gone):=λhl=>((d.out.1 (hl k y)) G.out).1 F;have k5:=λU'=>XH (P:=ZI) U' 36 5 U 0 0 0 0 Ur;clear Q R d s u;cases hf:fl P D k;.go_wp2;go_ret2;exact⟨λhl=>absurd hl t.o,λ_=>rfl,j⟩
        .go_wp2;go_ret2;exact⟨λhl=>absurd hl t.o,λ_=>rfl,j⟩
      .obtain⟨ax,cx,ha,hz⟩:=R F;have k5:=λU'=>XH (P:=ZI) U' 36 5 (J ax) (D[x]).length cx 0 0 Ur;clear Q R hz;generalize D[x].length=n at*;cases hf:fl P D k with|none=>
         have f:=s.out hf G.out;by_cases g:n<=4096
         . have C:=d.out.2 (λ_=>⟨F,f,g⟩);have B:=ak C;have p:=ak f;clear d s u f C;go_wp2;go_roundw;case rel=>
            refine⟨k+1,V,eT,by first|(rw[p.out];rfl)|rw[p.out],by first|(rw[p.out];rfl)|rw[p.out],λi A=>?_,j⟩;by_cases e:i=k;.subst e;exact B.out
            .exact E.out i V
           case measure=>simp[intOf];omega
         .have t:cL (¬gY P D gone):=λhl=>g ((d.out.1 (hl k y)) G.out).2.2;have k7:(4096:Int)<(n:Int):=V;clear d s u f;go_wp2;go_ret2;exact⟨λhl=>absurd hl t.o,λ_=>rfl,j⟩|some m=>
         have f:=u.out m hf;by_cases g:n=m/\n<=4096
         . obtain⟨rfl,g⟩:=g;have C:=d.out.2 (λ_=>⟨F,f,g⟩);have B:=ak C;have p:=ak f;have tt:(((n:Nat):Int)!=(n:Int))=ZU:=ej;clear d s u f C;go_wp2;go_roundw;case rel=>
            refine⟨k+1,V,eT,by first|(rw[p.out];rfl)|rw[p.out],by first|(rw[p.out];rfl)|rw[p.out],λi A=>?_,j⟩;by_cases e:i=k;.subst e;exact B.out
            .exact E.out i V
           case measure=>simp[intOf];omega
         . have t:cL (¬gY P D gone):=λhl=>by have q:=(d.out.1 (hl k y)) G.out;rw[f]at q;have:=q.2.1;simp at this;omega
           clear d s u f;by_cases Z:n=m;.have k7:(4096:Int)<(m:Int):=V;have tt:(((n:Nat):Int)!=(m:Int))=ZU:=ek;clear g Z;go_wp2;go_ret2;exact⟨λhl=>absurd hl t.o,λ_=>rfl,j⟩
           .have tt:(((n:Nat):Int)!=(m:Int))=ZV:=ek;clear g Z;go_wp2;go_ret2;exact⟨λhl=>absurd hl t.o,λ_=>rfl,j⟩
    . have tk:((T:Int)!=0)=ZV:=ek;have V':=ak (H.out z);have B:=ak (d.out.2 (λe=>absurd e z));clear H s u d K M z;go_wp2;go_roundw;case rel=>
       refine⟨k+1,V,eT,by rw[V'.o],by rw[V'.o],λi A=>?_,j⟩;by_cases e:i=k;.subst e;exact B.out
       .exact E.out i V
      case measure=>simp[intOf];omega
  .have k6:k=P.length:=V;subst k6;have E:=ak J';clear h L N J';go_wp2;go_ret2;exact⟨λ_=>rfl,λg=>absurd (λi A=>E.out i A) g,I'⟩
def FJ{a:Nat}(h:a^^^c=b^^^c):a=b:=by have:=Uy (·^^^c) h;simpa[UU]using this
def aaw{a:Nat}(h:c^^^a=c^^^b):a=b:=FJ (c:=c) (by rw[VA a,VA b];exact h)
def C7(h:r<4294967296):dL r/2^28=de.getD (r%16) 0/2^28:=by unfold dL;rw[ac1,Xu (V:r/16<2^28),Vq]
def C8(d:r<4294967296)(e:s<4294967296)(h:dL r=dL s):r=s:=by
 have a:de.getD (r%16) 0/2^28=de.getD (s%16) 0/2^28:=by rw[<-C7 d,<-C7 e,h]
 have c:∀i j:Fin 16,de.getD i.1 0/2^28=de.getD j.1 0/2^28->i.1=j.1:=ec;have b:r%16=s%16:=c ⟨r%16,VT _ ec⟩ ⟨s%16,VT _ ec⟩ a;unfold dL at h;rw[b]at h;have:r/16=s/16:=FJ h;omega
def C9(e:r<4294967296)(f:s<4294967296)(g:b<256)(i:c<256)(h:dR r b=dR s c):r^^^b=s^^^c:=have a:r^^^b<4294967296:=V7 (n:=32) e V;have d:s^^^c<4294967296:=V7 (n:=32) f V;C8 a d (C8 (gV a) (gV d) h)
def Da:∀(l:a7){r s:Nat},r<4294967296->s<4294967296->(∀x∈l,x<256)->l.foldl dR r=l.foldl dR s->r=s|[],_,_,_,_,_,h=>h|b::l,r,s,c,d,hl,h=>by have a:=hl b ej;exact FJ (C9 c d a a (Da l (fM c a) (fM d a) (λx e=>hl x (by simp[e])) h))
def Md{p q:a7}(j:∀x∈p,x<256)(f:∀x∈q,x<256)(d:b<256)(e:c<256)(h:oX (p++b::q)=oX (p++c::q)):b=c:=by
 have a:=ox j;have g:∀y,dD (p++y::q)=q.foldl dR (dR (dD p) y):=λy=>by unfold dD;rw[Ws,Xc]
 have:=AK q _ (fM a d) f;have:=AK q _ (fM a e) f;unfold oX at h;rw[g,g]at h;have i:q.foldl dR (dR (dD p) b)=q.foldl dR (dR (dD p) c):=V;exact aaw (C9 a a d e (Da q (fM a d) (fM a e) f i))
def Hy(a:m<4294967296)(b:n<4294967296)(h:be m 4=be n 4):m=n:=by have:=Uy gx h;rwa[mr m 4 ec a,mr n 4 ec b]at this
def uP(hl:l.length=64)(h:(tg l).blk=l):l=YF 64 0\/∃t,t.length=60/\l=be (oX t) 4++t/\1<=t.getD 0 0/\t.getD 0 0<=3:=by
 by_cases a:(tg l).body.length=0;.left;unfold bF.blk at h;rw[TT a]at h;exact h.symm
 . right;have b:1<=l.getD 4 0/\l.getD 4 0<=3:=by
    unfold tg at a;by_cases d:l.getD 4 0=1;.omega
    . by_cases e:l.getD 4 0=2;.omega
      . by_cases f:l.getD 4 0=3;.omega
        .rw[TS d,TS e,TS f]at a;exact absurd rfl a
   unfold bF.blk at h;rw[TS a]at h;unfold ft at h;obtain⟨t,g⟩:=nM ((tg l).body++YF (60-(tg l).body.length) 0);rw[g]at h;have c:=Uy YJ h;rw[Ua,aG,hl]at c;refine⟨t,V,h.symm,?_⟩;rw[<-h,Ub,U8 adW,aG]at b;rw[Ub];exact b
def Pt(l:a7){j:Nat}(h:j<l.length)(x:Nat):l.set j x=l.take j++x::l.drop (j+1):=by rw[List.set_eq_take_append_cons_drop,TT h]
def Pu(l:a7){j:Nat}(h:j<l.length):l=l.take j++l.getD j 0::l.drop (j+1):=by rw[Ub,Ud h];show l=l.take j++l[j]::l.drop (j+1);rw[<-X3 h,Wk]
theorem sK(p:j<64)(w:x<256)(v:x≠0):¬∃t,t.length=60/\(YF 64 0).set j x=be (oX t) 4++t/\1<=t.getD 0 0/\t.getD 0 0<=3:=by
 rintro⟨t,r,h,c,f⟩;have a:∀i,t.getD i 0=((YF 64 0).set j x).getD (i+4) 0:=λi=>by rw[h,Ub,Ub,U8 (by rw[aG];omega),aG,Nat.add_sub_cancel]
 have b:∀i,((YF 64 0).set j x).getD i 0=if j=i then x else 0:=λi=>by
  rw[Ub,Xn];by_cases e:j=i;.rw[TT e,TT e,XW,TT p];rfl
  .rw[TS e,TS e,WJ];split<;>rfl
 have k:j=4:=by
  have:=a 0;rw[b]at this;by_cases e:j=0+4;.exact e
  .rw[TS e]at this;omega
 subst k;have n:t.getD 0 0=x:=by rw[a,b];rfl
 have m:t=x::YF 59 0:=by refine Ve (by simp[r]) λi s z=>?_;have q:=(a i).trans (b _);rw[Ub,Ud s]at q;have u:t[i]=if 4=i+4 then x else 0:=q;rw[u];match i with|0=>rfl|i+1=>rw[TS V,Yc,List.getElem_replicate]
 have o:be (oX t) 4=[0,0,0,0]:=by have:=Uy (List.take 4) h;rw[VV D0,UM (l:=be (oX t) 4) D0]at this;rw[<-this];simp[YF]
 have d:oX t=0:=Hy (AL _) ec o;rw[n]at c f;have g:∀y:Fin 4,1<=y.1->oX (y.1::YF 59 0)≠0:=Ax;rw[m]at d;exact g ⟨x,V⟩ c d
def Me(hl:l.length=64)(z:∀y∈l,y<256){j x:Nat}(c:j<64)(v:x<256)(a:x≠l.getD j 0)(h:(tg l).blk=l):(tg (l.set j x)).blk≠l.set j x:=by
 intro r;have g:j<l.length:=V;have C:l.getD j 0<256:=by rw[Ub,Ud g];exact z _ (T7 g)
 have s:(l.set j x).set j (l.getD j 0)=l:=by rw[List.set_set,Ub,Ud g];exact List.set_getElem_self _
 have u:(l.set j x).getD j 0=x:=by rw[Ub,acO g];rfl
 rcases uP hl h with e|⟨t,E,e,A,B⟩
 . rcases uP (by rw[VY];exact hl) r with b|w;.have q:=u;rw[b,Ub,WJ,TT c]at q;rw[e,Ub,WJ,TT c]at a;exact a q.symm
   .have q:l.getD j 0=0:=(by rw[e,Ub,WJ,TT c];rfl);rw[q]at a;rw[e]at w;exact sK c v a w
 . rcases uP (by rw[VY];exact hl) r with b|⟨H,N,b,_⟩
   . have q:x=0:=by have q:=u;rw[b,Ub,WJ,TT c]at q;exact q.symm
     rw[b]at s;rw[q]at a;exact sK c C (λq=>a q.symm) ⟨t,E,s.trans e,A,B⟩
   . by_cases m:j<4;.have o:(be (oX t) 4++t).set j x=(be (oX t) 4).set j x++t:=List.set_append_left _ _ (by rw[aG];exact m);rw[e,o]at b;have D:((be (oX t) 4).set j x).length=(be (oX H) 4).length:=(by rw[VY,aG,aG]);obtain⟨k,p⟩:=Y9 b D;rw[<-p]at k;have f:((be (oX t) 4).set j x).getD j 0=(be (oX t) 4).getD j 0:=(by rw[k]);rw[Ub,acO (by rw[aG];exact m)]at f;rw[e,Ub,Vz (by rw[aG];exact m),<-Ub]at a;exact a f
     .have o:(be (oX t) 4++t).set j x=be (oX t) 4++t.set (j-4) x:=(by rw[YN _ _ (by rw[aG];omega),aG]);rw[e,o]at b;obtain⟨k,p⟩:=Y9 b (by rw[aG,aG]);have f:=Hy (AL _) (AL _) k;have i:j-4<t.length:=V;have n:∀y∈t,y<256:=λy d=>z y (by rw[e];exact VQ _ d);rw[<-p,Pt t i]at f;have G:oX (t.take (j-4)++t.getD (j-4) 0::t.drop (j-4+1))=oX (t.take (j-4)++x::t.drop (j-4+1)):=(by rw[<-Pu t i];exact f);have F:=Md (λy d=>n y (US d)) (λy d=>n y (UW d)) (by rw[Ub,Ud i];exact n _ (T7 i)) v G;rw[e,Ub,U8 (by rw[aG];omega),aG,<-Ub]at a;exact a F.symm
