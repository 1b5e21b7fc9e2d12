import Derived.WalkKit
import Derived.Test.YthibhmemkhmocaaGreatDoorRows
import Derived.ProofKit
import Derived.OpenShut
import Derived.WalkSpells
import Derived.Deep.OwnRows
import Derived.Deep.Slices
import Derived.Deep.Matrix
import Derived.Deep.MidRow
import Derived.Test.YthibhmemkhmocaaGreatDoorM01
import Derived.Laws.BitsLemmas
import Derived.Deep.QuietTactic
import Derived.BigQuiet
import Derived.Maps.AppendAt
import Derived.Laws.Bits64b
import Derived.Laws.CopyOwn
import Derived.Deep.RegionWith
import Derived.RegionTactic
import Derived.RangeFuncNested
import Derived.RangeFuncBound
import Derived.RangeFuncLeaves
import Derived.Shelf.Abstract
import Derived.Shelf.RegionOpen
import Derived.OwnWalkIn
import Derived.TacticsInMore
import Derived.LoopNIn
import Derived.LoopIn
import Derived.OrdersHeld
import Derived.Lib.TrailingZeros
import Derived.Laws.BitsAllLaws
import Derived.Laws.Tables
import Derived.Deep.WholeRow
import Derived.BigRegion
import Derived.Deep.AppendLies
import Derived.Lib.SliceRun
set_option maxRecDepth 100000
set_option linter.all false
set_option maxHeartbeats 8000000
open Go.IntKind renaming i64 -> Z9
open Go.Value renaming int -> Z8, pointer -> Z7, slice -> Z6, bool -> Z3, tuple -> Z1
open Go.Obj renaming cells -> Z5
open Go.Ending renaming returned -> Z4
open Go.Operand renaming tmp -> Z2
open Go renaming undef -> Z0, World -> ZV, Value -> ZU, Calls -> ZS, Ending -> ZR, Exit -> ZQ, Oper -> ZP, Act -> ZO, TypeId -> ZN, Operand -> ZM
open Option renaming none -> ZZ, some -> ZY
open Bool renaming true -> ZX, false -> ZW
open Go.RowKit renaming Below -> ZT
open List renaming range -> YF, replicate -> YG, getElem_set -> YH, length -> YK, set_append_right -> YP, take_set -> Y3, append_inj -> Y4
open Array renaming replicate -> YI, ext -> YO, all_eq_true' -> YU, getElem?_replicate -> YV, mem_toList_iff -> YX
open Bool renaming and_eq_true_iff -> YJ, or_eq_true_iff -> YW, false_eq_true -> YY
open BitVec renaming ofInt_natCast -> YL, toNat_xor -> YM, toNat_ofNat -> YN
open Nat renaming testBit_two_pow_mul_add -> YQ, div_div_eq_div_mul -> YR, div_mul_le_self -> YZ
open Int renaming natCast_nonneg -> YS
open Option renaming getD_some -> YT
open Go.Proofs.Tryz renaming prog -> ZL
open Go.Proofs.Tryz
namespace Go.Proofs.YthibhmemkhmocaaGreatDoor
def T6:=@Go.RowKit.Below.refl
def Uz:=@List.mem_cons
def Wd:=@Nat.mod_lt
def XV:=@Nat.pow_succ
def VT:=@Nat.div_le_self
def Xv:=@Nat.div_eq_of_lt
def W4:=@List.not_mem_nil
def VM:=@List.eq_of_mem_replicate
def Uc:=@List.length_append
def UG:=@List.length_cons
def U0:=@List.length_nil
def UX:=@List.cons_append
def Ut:=@List.nil_append
def abP:=@List.drop_succ_cons
def Xw:=@List.drop_zero
def V2:=@List.take_append_of_le_length
def UJ:=@List.take_of_length_le
def W5:=@List.drop_append_of_le_length
def WN:=@List.drop_of_length_le
def VN:=@List.drop_drop
def V3:=@Nat.mod_eq_of_lt
def XW:=@List.length_replicate
def VH:=@Go.World.rowIs.of_block
def abQ:=@Go.World.rowIs.cell
def V4:=@List.length_set
def Ub:=@List.getD_eq_getElem?_getD
def Xx:=@Go.World.rowIs_made
def T5:=@Array.getElem?_eq_some_iff
def UP:=@Go.World.ownsRow_nil
def UD:=@List.map_append
def Ua:=@List.mem_map
def UY:=@List.eq_nil_of_length_eq_zero
def V5:=@Go.wpList_plain
def XX:=@Go.run_make_row'
def Uq:=@Go.Proofs.Tryz.underlying40
def Ul:=@Go.Deep.nblk_alloc
def Uj:=@Go.Deep.blk_setCell_other
def UE:=@List.getElem?_map
def Vc:=@List.getElem?_eq_some_iff
def Yt:=@Array.getElem?_setIfInBounds
def Vw:=@Array.getElem?_modify
def Ud:=@List.length_map
def Ue:=@List.getElem?_eq_getElem
def Uo:=@Go.World.cell?_of_block
def Vx:=@Nat.add_assoc
def Uu:=@Go.info_parts
def Ux:=@Go.Sem.run_bind
def Uk:=@Go.Deep.blk_alloc_new
def Vy:=@Go.setRow_heap
def Vf:=@Go.Sem.run_pure
def UK:=@Go.Result.andThen_ok
def W9:=@Go.run_loadVar_row
def WO:=@Go.Proofs.Tryz.underlying114
def XY:=@Go.run_storeVar_row
def abR:=@Go.wpList_load_mid
def UF:=@Go.IntKind.wrap_i64
def Xa:=@Nat.lt_trans
def Yu:=@Bool.eq_iff_iff
def U1:=@decide_eq_true
def Vz:=@decide_eq_false
def Ui:=@Go.block_lt_of_cell
def Us:=@List.length_take
def U2:=@List.mem_of_mem_take
def Um:=@Nat.zero_add
def VO:=@Go.wp_loop_rounds
def VJ:=@Go.rounds_succ
def abS:=@List.take_succ_cons
def Yv:=@Nat.sub_zero
def XZ:=@Go.wpList_append_own_at
def Vd:=@Go.IntKind.wrap_u64
def abT:=@Go.bits_or_u64_nat
def Xy:=@Nat.testBit_two_pow_sub_succ
def Xz:=@Nat.testBit_two_pow_sub_one
def Xb:=@Nat.testBit_lt_two_pow
def abU:=@Nat.and_two_pow_sub_one_eq_mod
def Vg:=@List.take_add_one
def VK:=@List.take_length
def Yw:=@Go.Deep.nblk_setCell
def Ve:=@List.ext_getElem
def XA:=@List.mem_iff_getElem
def V6:=@List.pairwise_iff_getElem
def Yx:=@Nat.lt_or_gt_of_ne
def Yy:=@Go.cell_one_new
def VP:=@Array.getElem?_eq_getElem
def abV:=@Go.wpList_copy_splice
def Vp:=@Go.Addr.add_mid
def X0:=@List.drop_replicate
def WQ:=@Nat.add_sub_cancel_left
def Ws:=@Go.World.grownBy.refl
def Vq:=@Array.getD_eq_getD_getElem?
def WR:=@Option.map_some
def Yz:=@Array.toList_setIfInBounds
def Uf:=@List.set_cons_succ
def Xc:=@List.length_eq_zero_iff
def Xd:=@List.all_eq_true
def Wx:=@of_decide_eq_true
def Wt:=@decide_eq_true_eq
def VU:=@List.getElem?_range
def US:=@Option.some.injEq
def Xe:=@Prod.mk.injEq
def aco:=@List.eq_nil_iff_forall_not_mem
def X1:=@Eq.trans
def V7:=@List.map_toArray
def UI:=@List.map_cons
def Vh:=@List.map_nil
def Wj:=@Go.RowKit.Below.heap_setCell
def Xf:=@Go.grownBy_putObj'
def U6:=@Go.World.putObj_heap_other
def Vj:=@Go.callsIn_wide
def abW:=@Go.CallsIn.inRound
def X2:=@Go.World.alloc_heap_new
def Uw:=@Go.World.size_alloc
def We:=@Go.RowKit.Below.heap_alloc
def XB:=@Nat.lt_or_ge
def acp:=@Array.setIfInBounds_comm
def WS:=@Bool.and_eq_true
def Xg:=@Bool.or_eq_true
def YA:=@Go.Region.noSelect_spec
def VE:=@Go.Oper.semAt_plain
def Xh:=@Go.Act.put_comm
def Wf:=@Nat.mul_one
def XC:=@Nat.testBit_and
def X3:=@Nat.testBit_two_pow
def Xj:=@Nat.lt_of_le_of_lt
def Wy:=@Nat.testBit_eq_decide_div_mod_eq
def VF:=@List.range_succ
def YB:=@List.sum_append
def XD:=@List.sum_cons
def XE:=@Int.natCast_pow
def WT:=@Nat.and_le_left
def X4:=@Int.natCast_ediv
def VV:=@Nat.add_zero
def YC:=@Go.u64_andNot_nat
def acm:=@Nat.testBit_mul_two_pow
def acn:=@Nat.testBit_div_two_pow
def Va:=@List.mem_cons_self
def UT:=@List.mem_cons_of_mem
def Xk:=@Go.callsIn_of_wp
def UL:=@List.size_toArray
def Vr:=@Array.replicate_succ
def Vs:=@Array.replicate_zero
def Vt:=@List.push_toArray
def Vu:=@List.append_toArray
def Wk:=@List.append_nil
def Uv:=@Go.bodyPost_ret
def XF:=@Go.results_none
def Wz:=@List.flatMap_append
def VQ:=@List.flatMap_cons
def X5:=@List.drop_eq_getElem_cons
def Wl:=@List.take_append_drop
def abX:=@List.prefix_append_right_inj
def VA:=@Go.Value.slice.injEq
def abY:=@List.length_singleton
def YD:=@List.prefix_refl
def abZ:=@Go.World.rowIs_alloc
def X6:=@Array.all_eq_true
def YE:=@Go.wpList_load_row
def X7:=@Go.Proofs.Tryz.underlying287
def Wu:=@Go.wpList_store_row
def V8:=@Go.results_cell_row
def UM:=@List.length_range
def Xl:=@List.getElem?_toArray
def UN:=@Go.heap_alloc_last
def Uy:=@Go.Deep.blk_alloc_lt
def ab0:=@Go.World.cell?_setCell_other
def Xm:=@Nat.mul_le_mul
def WU:=@Nat.eq_zero_or_pos
def WV:=@Nat.mul_le_mul_right
def XG:=@Int.natCast_mul
def X8:=@List.mem_or_eq_of_mem_set
def ab1:=@Go.wpList_make_own
def VW:=@Go.Proofs.Tryz.underlying108
def WA:=@Go.wpList_append_own
def abu:=@List.range_zero
def WB:=@List.getElem?_replicate
def UQ:=@Option.some.inj
def Xn:=@List.getElem?_set
def UU:=@List.getElem_map
def VG:=@List.getElem?_append_left
def U7:=@List.getElem?_append_right
def XH:=@Nat.not_lt_zero
def abv:=@List.take_succ_eq_append_getElem
def UR:=@Go.run_underlying
def abw:=@Nat.zero_mul
def ab2:=@List.getElem_cons_zero
def X9:=@List.getElem_cons_succ
def XI:=@Go.Lib.run_eql_slice_nil
def abx:=@Go.growslice_fits
def aby:=@Go.grownCap_ge
def abz:=@Go.grownCap_le_maxLen
def Ya:=@Iff.rfl
def VL:=@Int.toNat_natCast
def abA:=@List.getElem?_set_self
def VY:=@List.mem_append_right
def U8:=@List.mem_of_mem_drop
end Go.Proofs.YthibhmemkhmocaaGreatDoor
namespace Go.Proofs.YthibhmemkhmocaaGreatDoor
def nM {α:Type _} (a:α):∃ x,a=x:=⟨a,rfl⟩
def lR {n:Nat}:n<=n:=TY n
def bA (w:Go.World) (o:Go.Obj):Go.RowKit.Below w.heap.size w (w.alloc o):=(T6 _ w).alloc (TY _) o
abbrev bW (w v:Go.World):Prop:=Go.RowKit.Below w.heap.size w v
def cJ (p : Prop) : Prop := p
def cJ.out {p : Prop} (h : cJ p) : p := h
def cJ.o {p : Prop} (h : cJ p) : p := h
open Go.RowKit Go.Deep Gf Go.Shelf
variable {listed:Array Bool} {ops:Array ZP} {cs args:Array ZU} {C:Ck} {R R':ZR->ZV->Prop} {f:FuncId} {y:Int} {kk:IntKind} {O:List (Int×Nat×Nat×a8)} {D M:List a8} {L T T':List (Nat×Nat×a8)} {sh:List (Op×Option Nat×a8)} {l l' lp:a8} {rest:List ZP} {r b n base base' p B k j g q m cap lo hi i x s c W gone:Nat} {S K:Nat->Prop} {o:ZP} {P:Program} {α:Type} {e t:ZN} {v v' u:ZU} {Vi:ZU->ZV->Prop} {w w' w'' a w0 w1 w2 wc wr wr':ZV}
def be (n:Nat):Nat->a8
 | 0=>[]
 | s+1=>n/256^s%256::be n s
def aD (n s:Nat):(be n s).length=s:=by induction s with
 | zero=>rfl
 | succ s ih=>simp [be,ih]
def qI (n s:Nat):∀ x∈be n s,x<256:=by induction s with
 | zero=>intro x a;simp [be] at a
 | succ s ih=>
  intro x a;simp only [be,Uz] at a;rcases a with rfl|a
  . exact Wd _ (by decide)
  . exact ih x a
def fT (l:a8):Nat:=l.foldl (λn x=>(n*256+x)%18446744073709551616) 0
def sR (l:a8) (x:Nat):fT (l++[x])=(fT l*256+x)%18446744073709551616:=by simp [fT]
def Qc (l:a8):fT l<18446744073709551616:=by
 rcases List.eq_nil_or_concat l with rfl|⟨l',x,rfl⟩
 . decide
 . rw [List.concat_eq_append,sR];exact Wd _ (by decide)
theorem NU (n:Nat) (e:n<18446744073709551616):∀ (s a:Nat),s<=8->a=n/256^s->(be n s).foldl (λn x=>(n*256+x)%18446744073709551616) a=n:=by
 intro s;induction s with
 | zero=>intro a _ b;simpa [be] using b
 | succ s ih=>
  intro a f b;simp only [be,W0];refine ih _ (by omega) ?_;subst b;have c:n/256^(s+1)=n/256^s/256:=by rw [XV,YR]
  rw [c];have:n/256^s<=n:=VT _ _;generalize n/256^s=q at *;omega
def lx (n s:Nat) (a:s<=8) (h:n<256^s):fT (be n s)=n:=by
 have:(256:Nat)^s<=256^8:=U9 (by decide) a;exact NU n (by omega) s 0 a (Xv h).symm
def cK:a8:=[0x00000000,0x1db71064,0x3b6e20c8,0x26d930ac,0x76dc4190,0x6b6b51f4,0x4db26158,0x5005713c,0xedb88320,0xf00f9344,0xd6d6a3e8,0xcb61b38c,0x9b64c2b0,0x86d3d2d4,0xa00ae278,0xbdbdf21c]
def dy (r:Nat):Nat:=(r/16)^^^cK.getD (r%16) 0
def dF (r b:Nat):Nat:=dy (dy (r^^^b))
def dj (l:a8):Nat:=l.foldl dF 4294967295
def nF (l:a8):Nat:=4294967295-dj l
def pr:∀ i,cK.getD i 0<4294967296:=by
 intro i;by_cases h:i<16
 . have:∀ j:Fin 16,cK.getD j.1 0<4294967296:=by decide
   exact this ⟨i,h⟩
 . have:cK.getD i 0=0:=by simp [cK,Vm (show ([0x00000000,0x1db71064,0x3b6e20c8,0x26d930ac,0x76dc4190,0x6b6b51f4,0x4db26158,0x5005713c,0xedb88320,0xf00f9344,0xd6d6a3e8,0xcb61b38c,0x9b64c2b0,0x86d3d2d4,0xa00ae278,0xbdbdf21c]:a8).length<=i by simp;omega)]
   omega
def gE (h:r<4294967296):dy r<4294967296:=by
 unfold dy;exact Wc (n:=32) (by omega) (pr _)
def fs (h:r<4294967296) (a:b<256):dF r b<4294967296:=
 gE (gE (Wc (n:=32) h (by omega)))
def zv:∀ (l:a8) (r:Nat),r<4294967296->(∀ x∈l,x<256)->l.foldl dF r<4294967296:=by
 intro l;induction l with
 | nil=>intro r h _;exact h
 | cons b l ih=>intro r h hl;exact ih _ (fs h (hl b (by simp))) (λx a=>hl x (by simp [a]))
def ni (h:∀ x∈l,x<256):dj l<4294967296:=zv l _ (by decide) h
def zw (l:a8):nF l<4294967296:=by unfold nF;omega
inductive bz where
 | blank
 | root (D L G turn first len:Nat)
 | filled
 | shard (l:a8)
deriving DecidableEq
def bz.body:bz->a8
 | .blank=>[]
 | .root D L G t f n=>[1,D%256,L%256,G%256]++(be t 8++(be f 4++be n 4))
 | .filled=>[2]
 | .shard l=>3::(YG 15 0++l)
def cL (body:a8):a8:=be (nF (body++YG (60-body.length) 0)) 4++(body++YG (60-body.length) 0)
def bz.blk (r:bz):a8:=if r.body.length=0 then YG 64 0 else cL r.body
def bz.ok:bz->Prop
 | .blank=>True
 | .root D L G t f n=>D<256/\L<256/\G<256/\t<18446744073709551616/\f<4294967296/\n<4294967296
 | .filled=>True
 | .shard l=>l.length=44/\∀ x∈l,x<256
def rq (b:a8):bz:=
 if b.getD 4 0=1 then .root (fT [b.getD 5 0]) (fT [b.getD 6 0]) (fT [b.getD 7 0]) (fT ((b.drop 8).take 8)) (fT ((b.drop 16).take 4)) (fT ((b.drop 20).take 4))
 else if b.getD 4 0=2 then .filled else if b.getD 4 0=3 then .shard (b.drop 20) else .blank
def jE {r:bz} (h:r.ok):r.body.length<=60:=by
 cases r with
 | blank=>simp [bz.body]
 | root D L G t f n=>simp [bz.body,aD]
 | filled=>simp [bz.body]
 | shard l=>simp [bz.body,h.1]
theorem Gg {r:bz} (h:r.ok):r.blk.length=64:=by
 have:=jE h;unfold bz.blk cL;split
 . simp
 . simp [aD];omega
def mh {r:bz} (h:r.ok):∀ x∈r.body,x<256:=by
 cases r with
 | blank=>intro x a;simp [bz.body] at a
 | root D L G t f n=>
  intro x a;simp only [bz.body,Un,Uz,W4,or_false] at a;rcases a with (rfl|rfl|rfl|rfl)|a|a|a
  . omega
  . omega
  . omega
  . omega
  all_goals exact qI _ _ x a
 | filled=>
  intro x a;simp only [bz.body,Uz,W4,or_false] at a;omega
 | shard l=>
  intro x a;simp only [bz.body,Un,Uz] at a;rcases a with rfl|a|a
  . decide
  . have:=VM a;omega
  . exact h.2 x a
def Ho (h:∀ x∈l,x<256):∀ x∈cL l,x<256:=by
 intro x a;unfold cL at a;simp only [Un] at a;rcases a with a|a|a
 . exact qI _ _ x a
 . exact h x a
 . have:=VM a;omega
theorem Qd {r:bz} (h:r.ok):∀ x∈r.blk,x<256:=by
 unfold bz.blk;split
 . intro x a;have:=VM a;omega
 . exact Ho (mh h)
def Qe (n:Nat):be n 4=[n/256^3%256,n/256^2%256,n/256^1%256,n/256^0%256]:=rfl
def rR (x:Nat) (h:x<256):fT [x]=x:=by simp [fT];omega
theorem NV {r:bz} (h:r.ok):rq r.blk=r:=by
 cases r with
 | blank=>rfl
 | root D L G t f n=>
  obtain ⟨d,g,i,j,k,o⟩:=h;have e:bz.blk (.root D L G t f n)=cL (bz.body (.root D L G t f n)):=by unfold bz.blk;rw [TW (by simp [bz.body])]
  rw [e];unfold cL;generalize nF _=c;simp only [bz.body,Qe c,Uc,UG,U0,aD];unfold rq;simp only [UX,Ut,List.getD_cons_succ,List.getD_cons_zero,if_true,abP,Xw,UC];have t8:∀ R:a8,(be t 8++R).take 8=be t 8:=λR=>by rw [V2 (by simp [aD])];exact UJ (by simp [aD])
  have a:∀ R:a8,(be t 8++R).drop 8=R:=λR=>by rw [W5 (by simp [aD]),WN (by simp [aD])];rfl
  have b:∀ (m:Nat) (R:a8),(be m 4++R).take 4=be m 4:=λm R=>by rw [V2 (by simp [aD])];exact UJ (by simp [aD])
  have d12:∀ R:a8,(be t 8++(be f 4++R)).drop 12=R:=λR=>by
   rw [show (12:Nat)=8+4 from rfl,<- VN,a,W5 (by simp [aD]),WN (by simp [aD])];rfl
  rw [t8,a,b,d12,b,lx t 8 (by decide) j,lx f 4 (by decide) k,lx n 4 (by decide) o];rw [rR _ (by omega),rR _ (by omega),rR _ (by omega),V3 d,V3 g,V3 i]
 | filled=>
  have e:bz.blk .filled=cL (bz.body .filled):=by unfold bz.blk;rw [TW (by simp [bz.body])]
  rw [e];unfold cL;generalize nF _=c;simp only [bz.body,Qe c,UG,U0];unfold rq;simp
 | shard l=>
  have e:bz.blk (.shard l)=cL (bz.body (.shard l)):=by unfold bz.blk;rw [TW (by simp [bz.body])]
  rw [e];unfold cL;generalize nF _=c;have hl:=h.1;simp only [bz.body,Qe c,Uc,UG,XW,hl];unfold rq;simp [YG]
def J8 (l:a8):Option bz:=if (rq l).blk=l then ZY (rq l) else ZZ
def zx {r:bz} (h:r.ok):J8 r.blk=ZY r:=by unfold J8;rw [NV h,TX rfl]
def iL (h:n<=1000000000000):wrap64 (n:Int)=(n:Int):=by unfold wrap64;omega
def vb (l:a8) (i:Nat):ZU:=Z8 .u8 ((l.getD i 0:Nat):Int)
def aM (w:ZV) (b:Nat) (l:a8):Prop:=w.rowIs b 5 l.length (vb l)
def fY (p:Nat×Nat×a8):ZU:=Z6 (ZY ⟨p.1,0,ZZ⟩) p.2.1 p.2.2.length
structure ez (w:ZV) (base:Nat) (v:ZU) (L:List (Nat×Nat×a8)):Prop where
 own:w.ownsRow base 40 1 v L.length (L.map fY)
 row:∀ p∈L,base<=p.1/\aM w p.1 p.2.2/\p.2.1<=p.2.2.length/\(p.2.1<=140737488355328/\p.2.2.length<=9223372036854775807)/\∀ x∈p.2.2,x<256
 nodup:(L.map (λp=>p.1)).Nodup
def dz (h:∀ x∈l,x<256) (i:Nat):l.getD i 0<256:=by
 by_cases hi:i<l.length
 . have e:l.getD i 0=l[i]:=(by simp [hi]);rw [e];exact h _ (T8 hi)
 . have e:l.getD i 0=0:=(by simp [Vm (show l.length<=i by omega)]);rw [e];decide
def aM.below (h:aM w b l) (a:ZT w.heap.size w w'):aM w' b l:=
 VH h (a.block b h.lt)
def aM.cell (h:aM w b l) (i:Nat) (hi:i<l.length):w.cell? ⟨b,i,ZZ⟩=ZY (Z8 .u8 ((l.getD i 0:Nat):Int)):=
 abQ h hi
def aM.frozen (h:aM w b l) (i:Nat):w.frozen? ⟨b,i,ZZ⟩=ZW:=World.rowIs.frozen h i
theorem aM.set (h:aM w b l) (i x:Nat):aM (w.setCell ⟨b,i,ZZ⟩ (Z8 .u8 (x:Int))) b (l.set i x):=by
 have a:=World.rowIs.set h i (Z8 .u8 (x:Int));unfold aM;rw [V4];refine a.congr λj c=>?_;unfold vb;by_cases e:j=i
 . subst e;simp [c]
 . simp only [TW e];rw [Ub,Ub,List.getElem?_set_ne (λh=>e h.symm)]
def aM.other (h:aM w b l) {a:Addr} (c:b≠a.block) (v:ZU):aM (w.setCell a v) b l:=World.rowIs.setOther h c v
def aM.alloc (h:aM w b l) (o:Obj):aM (w.alloc o) b l:=World.rowIs.alloc h o
def aM.lt (h:aM w b l):b<w.heap.size:=World.rowIs.lt h
def aM.grown {row:Option Nat} (h:aM w b l) (c:w.grownBy w' row) (a:ZY b≠row):aM w' b l:=
 VH h (c.block b h.lt a)
theorem aM.made (w:ZV) (n:Nat):aM (w.alloc (Z5 (madeCells #[Z8 .u8 0] n) 5)) w.heap.size (YG n 0):=by
 have h:=Xx w (Z8 .u8 0) n 5;unfold aM;rw [XW];refine h.congr λi hi=>?_;simp [vb,hi]
def an {size:Nat} {xs:List ZU} (h:w.ownsRow base e size v n xs) (j:ZT w.heap.size w w'):w'.ownsRow base e size v n xs:=by
 refine ⟨h.1,?_⟩;rcases h.2 with f|⟨g,cap,cur,b,c,a,d⟩
 . exact .inl f
 . refine .inr ⟨g,cap,cur,b,c,?_,d⟩;obtain ⟨i,_⟩:=T5.1 a;rw [j.block g i];exact a
def de {size:Nat} {xs:List ZU} (h:w.ownsRow base e size v n xs) (f:base'<=base):w.ownsRow base' e size v n xs:=by
 refine ⟨h.1,?_⟩;rcases h.2 with c|⟨g,cap,cur,a,d,b⟩
 . exact .inl c
 . exact .inr ⟨g,cap,cur,a,by omega,b⟩
def pt {xs:List ZU} (h:w.ownsRow base 40 1 v n xs) {b:Nat} {l:a8} (i:aM w b l):v.ownBlock≠ZY b:=by
 intro e;rcases h.2 with ⟨f,_⟩|⟨g,cap,cur,d,k,a,m⟩
 . rw [f] at e;simp [Value.ownBlock] at e
 . rw [d] at e;simp [Value.ownBlock] at e;subst e;obtain ⟨c,j,_⟩:=i;rw [j] at a;simp at a
def ez.weaken (h:ez w base v L) (c:base'<=base):ez w base' v L:=
 ⟨de h.own c,λp d=>by obtain ⟨a,b⟩:=h.row p d;exact ⟨by omega,b⟩,h.nodup⟩
def ez.nil (w:ZV) (base:Nat):ez w base (Z6 ZZ 0 0) []:=
 ⟨UP _ _ _ _,λp a=>by simp at a,by simp⟩
def ez.below (h:ez w base v L) (d:ZT w.heap.size w w'):ez w' base v L:=
 ⟨an h.own d,λp e=>by obtain ⟨a,b,c⟩:=h.row p e;exact ⟨a,b.below d,c⟩,h.nodup⟩
def ez.alloc (h:ez w base v L) (o:Obj):ez (w.alloc o) base v L:=
 h.below (bA _ _)
def ez.push {p:Nat×Nat×a8} (h:ez w base v L) (i:w.grownBy w' v.ownBlock) (j:w'.ownsRow base 40 1 v' (L.length+1) (L.map fY++[fY p]))
 (f:base<=p.1/\aM w p.1 p.2.2/\p.2.1<=p.2.2.length/\(p.2.1<=140737488355328/\p.2.2.length<=9223372036854775807)/\∀ x∈p.2.2,x<256) (k:∀ q∈L,q.1≠p.1):ez w' base v' (L++[p]):=by
 refine ⟨by simpa using j,λq d=>?_,?_⟩
 . rcases Un.1 d with d|d
   . obtain ⟨a,b,c⟩:=h.row q d;exact ⟨a,b.grown i (λe=>pt h.own b e.symm),c⟩
   . simp at d;subst d;exact ⟨f.1,f.2.1.grown i (λe=>pt h.own f.2.1 e.symm),f.2.2⟩
 . rw [UD,Vb];refine ⟨h.nodup,by simp,?_⟩;intro a l b g;obtain ⟨q,d,rfl⟩:=Ua.1 l;simp at g;subst g;exact k q d
theorem jm (g i:Nat):(⟨g,0,ZZ⟩:Addr).add i=⟨g,i,ZZ⟩:=by
 unfold Addr.add;split
 . rename_i h;simp_all
 . simp
def ez.shape (h:ez w base v L):(v=Z6 ZZ 0 0/\L=[])\/∃ g cap,v=Z6 (ZY ⟨g,0,ZZ⟩) L.length cap/\base<=g/\L.length<=cap/\cap<=maxLen/\g<w.heap.size/\(∀ i (hi:i<L.length),w.cell? ⟨g,i,ZZ⟩=ZY (fY L[i]))/\(∀ i,w.frozen? ⟨g,i,ZZ⟩=ZW)/\∀ p∈L,p.1≠g:=by
 rcases h.own.2 with ⟨j,k⟩|⟨g,cap,cur,a,c,b,d,f,n,o⟩
 . exact .inl ⟨j,UY k⟩
 . obtain ⟨l,_⟩:=T5.1 b;refine .inr ⟨g,cap,a,c,d,f,l,λi hi=>?_,λi=>?_,λp m e=>?_⟩
   . have:=h.own.cells (g:=g) (by rw [a];rfl) i (fY L[i]) (by simp [hi]);rw [jm] at this;exact this
   . simp [World.frozen?,b]
   . have:=pt h.own (h.row p m).2.1;rw [a] at this;exact this (by rw [e];rfl)
def Tryz.Sb:(ZL.info? 5).map (λi=>(i.zero,i.size,i.bytes))=ZY (ZY (Z8 .u8 0),1,1):=by kernel_rfl
def Tryz.R4:(ZL.info? 40).map (λi=>(i.zero,i.size,i.bytes))=ZY (ZY (Z6 ZZ 0 0),1,24):=by kernel_rfl
def cU (w:ZV) {ops:Array ZP} {rest:List ZP} {o:ZP} {a:ZO} {Q:ZQ->ZO->ZV->Prop}
 (h:o.guard=ZZ) (l c:ZM) (e:o.op=Op.makeSlice 40 l c) (C:Int) (n:Nat) (hl:a.eval l=Z8 Z9 C) (g:a.eval c=Z8 Z9 C) (f:C=(n:Int)) (i:n<=140737488355328)
 (hK:∀ w',aM w' w.heap.size (YG n 0)->ZT w.heap.size w w'->w'.heap.size=w.heap.size+1->wpList ZL ops Q rest (a.put o.dst (Z6 (ZY ⟨w.heap.size,0,ZZ⟩) n n)) w') :
 wpList ZL ops Q (o::rest) a w:=by
 refine V5 h λK d=>?_;have b:=XX (P:=ZL) 40 5 (Z8 .u8 0) 1 Uq Tryz.Sb rfl .i64 .i64 n (by omega) (by omega) w;subst f;unfold Oper.wp;simp [execOp,e,hl,g,b,Result.andThen];exact d _ _ (hK _ (aM.made w n) (bA _ _) (Ul _ _))
section
structure aa (S:Nat->Prop) (w w':ZV):Prop where
 os:w'.os=w.os
 tape:w'.tape=w.tape
 output:w'.output=w.output
 size:w.heap.size<=w'.heap.size
 block:∀ k,k<w.heap.size->¬ S k->w'.heap[k]?=w.heap[k]?
def aa.refl (S:Nat->Prop) (w:ZV):aa S w w:=⟨rfl,rfl,rfl,TY _,λ_ _ _=>rfl⟩
def aa.mono {T:Nat->Prop} (h:aa S w w') (b:∀ k,k<w.heap.size->S k->T k):aa T w w':=
 ⟨h.os,h.tape,h.output,h.size,λk a c=>h.block k a (λs=>c (b k a s))⟩
def aa.trans (h:aa S w w') (a:aa S w' w''):aa S w w'':=
 ⟨a.os.trans h.os,a.tape.trans h.tape,a.output.trans h.output,TZ h.size a.size,λk b c=>(a.block k (T9 b h.size) c).trans (h.block k b c)⟩
def aa.later {T:Nat->Prop} (h:aa S w w') (a:aa T w' w'') (d:∀ k,k<w.heap.size->T k->S k):aa S w w'':=
 ⟨a.os.trans h.os,a.tape.trans h.tape,a.output.trans h.output,TZ h.size a.size,λk b c=>(a.block k (T9 b h.size) (λt=>c (d k b t))).trans (h.block k b c)⟩
def aa.RU (h:ZT B w w') (S:Nat->Prop) (a:∀ k,k<w.heap.size->¬ S k->k<B):aa S w w':=
 ⟨h.os,h.tape,h.output,h.size,λk b c=>h.block k (a k b c)⟩
def aa.RT (h:ZT w.heap.size w w') (S:Nat->Prop):aa S w w':=.RU h S λ_ a _=>a
def aa.below (h:aa S w w') {B:Nat} (a:∀ k,k<B->k<w.heap.size/\¬ S k):ZT B w w':=
 ⟨h.os,h.tape,h.output,h.size,λk b=>h.block k (a k b).1 (a k b).2⟩
def aa.setCell (w:ZV) (a:Addr) (v:ZU) (h:S a.block):aa S w (w.setCell a v):=
 ⟨rfl,rfl,rfl,by simp [World.setCell],λk _ b=>Uj _ _ _ _ (λe=>b (e▸h))⟩
def aa.alloc (w:ZV) (o:Obj):aa S w (w.alloc o):=.RT (bA _ _) S
def aa.drew (w:ZV):aa S w w.drew:=⟨rfl,rfl,rfl,TY _,λ_ _ _=>rfl⟩
def aQ (b:Nat):∀ (a:List ZU) (o:Nat) (w:ZV) (k:Nat),k≠b->(w.setCells b o a).heap[k]?=w.heap[k]?
 | [],_,_,_,_=>rfl
 | v::r,o,w,k,h=>by
  show ((w.setCell ⟨b,o,ZZ⟩ v).setCells b (o+1) r).heap[k]?=_;rw [aQ b r _ _ k h];exact Uj _ _ _ _ (by exact h)
def jn (b:Nat):∀ (a:List ZU) (o:Nat) (w:ZV),(w.setCells b o a).heap.size=w.heap.size
 | [],_,_=>rfl
 | v::r,o,w=>by
  show ((w.setCell ⟨b,o,ZZ⟩ v).setCells b (o+1) r).heap.size=_;rw [jn b r];simp [World.setCell]
def jo (b:Nat):∀ (a:List ZU) (o:Nat) (w:ZV),(w.setCells b o a).os=w.os/\(w.setCells b o a).tape=w.tape/\(w.setCells b o a).output=w.output
 | [],_,_=>⟨rfl,rfl,rfl⟩
 | v::r,o,w=>jo b r (o+1) (w.setCell ⟨b,o,ZZ⟩ v)
def aa.setCells (w:ZV) (b o:Nat) (a:List ZU) (h:S b):aa S w (w.setCells b o a):=by
 obtain ⟨c,d,f⟩:=jo b a o w;exact ⟨c,d,f,by rw [jn];exact TY _,λk _ g=>aQ b a o w k (λe=>g (e▸h))⟩
theorem fF {t:Nat}:∀ (a:List ZU) (o:Nat) (w:ZV) (f:Nat->ZU),w.rowIs b t n f ->
 (w.setCells b o a).rowIs b t n (λk=>if o<=k/\k<o+a.length then a.getD (k-o) Z0 else f k)
 | [],o,w,f,h=>h.congr λi hi=>by
  show f i=if o<=i/\i<o+0 then _ else f i;rw [TW (by omega)]
 | v::r,o,w,f,h=>by
  have d:=fF r (o+1) _ _ (h.set o v);refine World.rowIs.congr d λk g=>?_;simp only [UG];by_cases e:k=o
  . subst e;rw [TW (by omega),TX rfl,TX (by omega),WL];rfl
  . by_cases c:o+1<=k/\k<o+1+r.length
    . rw [TX c,TX (by omega),show k-o=(k-(o+1))+1 by omega];rfl
    . rw [TW c,TW e,TW (by omega)]
structure eB where
 n:Nat
 nb:Nat
 lost:Nat->Bool
 bad:Nat->Nat->Bool
 blk:Nat->Nat->a8
structure aH where
 g:Nat
 cap:Nat
 bb:Nat->Nat
 bd:Nat->Nat
 S:Nat->Prop
def NW (f:Nat->a8) (k:Nat):ZU:=Z8 .u8 (((f (k/64)).getD (k%64) 0:Nat):Int)
def Qf (R:eB) (F:aH) (cs:Array ZU) (i:Nat):Prop:=cs[i*4]?=ZY (Z3 (R.lost i))/\cs[i*4+1]?=ZY (Z6 (ZY ⟨F.bb i,0,ZZ⟩) R.nb R.nb)/\cs[i*4+2]?=ZY (Z6 (ZY ⟨F.bd i,0,ZZ⟩) R.nb R.nb)/\∃ r,cs[i*4+3]?=ZY (Z8 Z9 r)
structure ag (X:ZV) (p:Nat) (R:eB) (F:aH):Prop where
 top:X.heap[p]?=ZY (Z5 #[Z6 (ZY ⟨F.g,0,ZZ⟩) R.n F.cap,Z8 Z9 (-1)] 75 (0,0))
 TA:∃ cs,X.heap[F.g]?=ZY (Z5 cs 79 (0,0))/\∀ i,i<R.n->Qf R F cs i
 blk:∀ i,i<R.n->X.rowIs (F.bb i) 114 (64*R.nb) (NW (R.blk i))
 bad:∀ i,i<R.n->X.rowIs (F.bd i) 4 R.nb (λj=>Z3 (R.bad i j))
 inj:∀ i j,i<R.n->j<R.n->(F.bb i=F.bb j->i=j)/\(F.bd i=F.bd j->i=j)
 S:∀ k,F.S k↔k=p\/k=F.g\/∃ i,i<R.n/\(k=F.bb i\/k=F.bd i)
 n:R.n<=1000
 nb:R.nb<=1000000
 len:∀ i j,(R.blk i j).length=64/\∀ x∈R.blk i j,x<256
variable {X Y:ZV} {p:Nat} {R:eB} {F:aH}
def ag.sp (h:ag X p R F):F.S p:=(h.S p).2 (.inl rfl)
def ag.sg (h:ag X p R F):F.S F.g:=(h.S _).2 (.inr (.inl rfl))
def ag.sb (h:ag X p R F) {i:Nat} (hi:i<R.n):F.S (F.bb i):=(h.S _).2 (.inr (.inr ⟨i,hi,.inl rfl⟩))
def ag.sd (h:ag X p R F) {i:Nat} (hi:i<R.n):F.S (F.bd i):=(h.S _).2 (.inr (.inr ⟨i,hi,.inr rfl⟩))
def ag.RS (h:ag X p R F) {k:Nat} (b:F.S k):k<X.heap.size:=by
 rcases (h.S k).1 b with rfl|rfl|⟨i,hi,rfl|rfl⟩
 . exact (T5.1 h.top).1
 . obtain ⟨cs,a,_⟩:=h.TA;exact (T5.1 a).1
 . exact (h.blk i hi).lt
 . exact (h.bad i hi).lt
def ag.keep (h:ag X p R F) (a:∀ k,F.S k->Y.heap[k]?=X.heap[k]?):ag Y p R F:=by
 obtain ⟨cs,b,c⟩:=h.TA;exact ⟨(a _ h.sp).trans h.top,⟨cs,(a _ h.sg).trans b,c⟩,λi hi=>(h.blk i hi).of_block (a _ (h.sb hi)),λi hi=>(h.bad i hi).of_block (a _ (h.sd hi)),h.inj,h.S,h.n,h.nb,h.len⟩
def ag.below (h:ag X p R F) {B:Nat} (b:ZT B X Y) (a:X.heap.size<=B):ag Y p R F:=h.keep λk c=>b.block k (T9 (h.RS c) a)
def ag.alloc (h:ag X p R F) (o:Obj):ag (X.alloc o) p R F:=h.below (bA _ _) lR
def ag.apart (h:ag X p R F):p≠F.g/\(∀ i,i<R.n->F.bb i≠p/\F.bb i≠F.g/\F.bd i≠p/\F.bd i≠F.g)/\∀ i j,i<R.n->j<R.n->F.bb i≠F.bd j:=by
 obtain ⟨cs,k,_⟩:=h.TA;have f:=h.top;refine ⟨λe=>?_,λi hi=>?_,λi j hi l e=>?_⟩
 . rw [e,k] at f;simp at f
 . obtain ⟨c,a,_⟩:=h.blk i hi;obtain ⟨d,b,_⟩:=h.bad i hi;refine ⟨λe=>?_,λe=>?_,λe=>?_,λe=>?_⟩
   . rw [e,f] at a;simp at a
   . rw [e,k] at a;simp at a
   . rw [e,f] at b;simp at b
   . rw [e,k] at b;simp at b
 . obtain ⟨c,a,_⟩:=h.blk i hi;obtain ⟨d,b,_⟩:=h.bad j l;rw [e,b] at a;simp at a
def ag.R8 (h:ag X p R F) (i:Nat) (hi:i<R.n):X.cell? ⟨F.g,i*4,ZZ⟩=ZY (Z3 (R.lost i))/\X.cell? ⟨F.g,i*4+1,ZZ⟩=ZY (Z6 (ZY ⟨F.bb i,0,ZZ⟩) R.nb R.nb) /\
 X.cell? ⟨F.g,i*4+2,ZZ⟩=ZY (Z6 (ZY ⟨F.bd i,0,ZZ⟩) R.nb R.nb)/\∃ r,X.cell? ⟨F.g,i*4+3,ZZ⟩=ZY (Z8 Z9 r):=by
 obtain ⟨cs,a,b⟩:=h.TA;obtain ⟨c,d,e,r,f⟩:=b i hi;simp only [World.cell?,a];exact ⟨c,d,e,r,f⟩
def ag.R9 (h:ag X p R F) (k:Nat):X.frozen? ⟨F.g,k,ZZ⟩=ZW:=by obtain ⟨cs,a,_⟩:=h.TA;simp [World.frozen?,a]
def ag.RX (h:ag X p R F):X.cell? ⟨p,0,ZZ⟩=ZY (Z6 (ZY ⟨F.g,0,ZZ⟩) R.n F.cap)/\X.cell? ⟨p,1,ZZ⟩=ZY (Z8 Z9 (-1)):=by simp [World.cell?,h.top]
def aI (l:a8):List ZU:=l.map λ(x:Nat)=>Value.int .u8 (x:Int)
def ag.range (h:ag X p R F) {i j:Nat} (hi:i<R.n) (d:j<R.nb):X.rangeAt (F.bb i) (j*64) (aI (R.blk i j)):=by
 intro k v a;unfold aI at a;rw [UE,Wi] at a;obtain ⟨x,b,rfl⟩:=a;obtain ⟨c,e⟩:=Vc.1 b;rw [(h.len i j).1] at c;rw [(h.blk i hi).cell (i:=j*64+k) (by omega)];unfold NW;rw [show (j*64+k)/64=j by omega,show (j*64+k)%64=k by omega,Ub,b];rfl
def ag.there (h:ag X p R F) {i j:Nat} (hi:i<R.n) (a:j<R.nb):X.there (F.bb i) (j*64) 64:=λk b=>by
 rw [(h.blk i hi).cell (i:=j*64+k) (by omega)];exact ⟨rfl,(h.blk i hi).frozen _⟩
def bG (h:cs[j]?=ZY u) (v:ZU):(cs.setIfInBounds k v)[j]?=ZY (if j=k then v else u):=by
 rw [Yt];obtain ⟨q,_⟩:=T5.1 h;by_cases e:k=j
 . subst e;simp [q]
 . rw [TW e,TW (λq=>e q.symm),h]
def ag.TD (h:ag X p R F) (k:Nat) (v:ZU) (l:Nat->Bool) (m:∀ cs i,i<R.n->Qf R F cs i->Qf { R with lost:=l } F (cs.setIfInBounds k v) i):ag (X.setCell ⟨F.g,k,ZZ⟩ v) p { R with lost:=l } F:=by
 obtain ⟨c,b,o⟩:=h.apart;have a:∀ j,j≠F.g->(X.setCell ⟨F.g,k,ZZ⟩ v).heap[j]?=X.heap[j]?:=λj f=>Uj _ _ _ _ f;obtain ⟨cs,d,e⟩:=h.TA;exact ⟨(a _ c).trans h.top,⟨cs.setIfInBounds k v,by simp [World.setCell,Vw,d],λi hi=>m cs i hi (e i hi)⟩,λi hi=>(h.blk i hi).of_block (a _ (b i hi).2.1),λi hi=>(h.bad i hi).of_block (a _ (b i hi).2.2.2),h.inj,h.S,h.n,h.nb,h.len⟩
def ag.count (h:ag X p R F) (d:Nat) (x:Int):ag (X.setCell ⟨F.g,d*4+3,ZZ⟩ (Z8 Z9 x)) p R F:=
 h.TD _ _ R.lost λcs i _ q=>by
  obtain ⟨a,b,c,r,f⟩:=q;refine ⟨(bG a _).trans (by rw [TW (by omega)]),(bG b _).trans (by rw [TW (by omega)]),(bG c _).trans (by rw [TW (by omega)]),if i=d then x else r,(bG f _).trans ?_⟩;by_cases e:i=d
  . rw [TX (by omega),TX e]
  . rw [TW (by omega),TW e]
def ag.Te (h:ag X p R F) (d:Nat) (t:Bool):ag (X.setCell ⟨F.g,d*4,ZZ⟩ (Z3 t)) p { R with lost:=λk=>if k=d then t else R.lost k } F:=
 h.TD _ _ _ λcs i _ q=>by
  obtain ⟨a,b,c,r,f⟩:=q;refine ⟨(bG a _).trans ?_,(bG b _).trans (by rw [TW (by omega)]),(bG c _).trans (by rw [TW (by omega)]),r,(bG f _).trans (by rw [TW (by omega)])⟩;show _=ZY (Value.bool (if i=d then t else R.lost i));by_cases e:i=d
  . rw [TX (by omega),TX e]
  . rw [TW (by omega),TW e]
def eB.R2 (R:eB) (d:Nat) (f:Nat->a8):eB:={ R with blk:=λi=>if i=d then f else R.blk i }
def eB.R6 (R:eB) (d:Nat) (f:Nat->Bool):eB:={ R with bad:=λi=>if i=d then f else R.bad i }
theorem ag.R2 (h:ag X p R F) {d:Nat} (c:d<R.n) {f:Nat->a8} (r:Y.rowIs (F.bb d) 114 (64*R.nb) (NW f)) (b:∀ k,k≠F.bb d->Y.heap[k]?=X.heap[k]?) (hl:∀ j,(f j).length=64/\∀ x∈f j,x<256):ag Y p (R.R2 d f) F:=by
 obtain ⟨s,g,i⟩:=h.apart;obtain ⟨cs,l,o⟩:=h.TA;refine ⟨(b _ (g d c).1.symm).trans h.top,⟨cs,(b _ (g d c).2.1.symm).trans l,o⟩,λk a=>?_,λk a=>(h.bad k a).of_block (b _ (i d k c a).symm),h.inj,h.S,h.n,h.nb,λk m=>?_⟩
 . show Y.rowIs _ _ _ (NW (if k=d then f else R.blk k));by_cases e:k=d
   . rw [TX e,e];exact r
   . rw [TW e];exact (h.blk k a).of_block (b _ λq=>e ((h.inj k d a c).1 q))
 . show ((if k=d then f else R.blk k) m).length=64/\∀ x∈(if k=d then f else R.blk k) m,x<256;split
   . exact hl m
   . exact h.len k m
def ag.R6 (h:ag X p R F) {d:Nat} (c:d<R.n) {f:Nat->Bool} (o:Y.rowIs (F.bd d) 4 R.nb (λj=>Z3 (f j))) (b:∀ k,k≠F.bd d->Y.heap[k]?=X.heap[k]?):ag Y p (R.R6 d f) F:=by
 obtain ⟨r,g,i⟩:=h.apart;obtain ⟨cs,l,m⟩:=h.TA;refine ⟨(b _ (g d c).2.2.1.symm).trans h.top,⟨cs,(b _ (g d c).2.2.2.symm).trans l,m⟩,λk a=>(h.blk k a).of_block (b _ (i k d a c)),λk a=>?_,h.inj,h.S,h.n,h.nb,h.len⟩;show Y.rowIs _ _ _ (λj=>Z3 ((if k=d then f else R.bad k) j));by_cases e:k=d
 . rw [TX e,e];exact o
 . rw [TW e];exact (h.bad k a).of_block (b _ λq=>e ((h.inj k d a c).2 q))
theorem ag.setBlk (h:ag X p R F) {d:Nat} (a:d<R.n) (b:Nat) {l:a8} (hl:l.length=64) (g:∀ x∈l,x<256):ag (X.setCells (F.bb d) (b*64) (aI l)) p (R.R2 d λm=>if m=b then l else R.blk d m) F:=by
 refine h.R2 a ((fF (aI l) (b*64) X _ (h.blk d a)).congr λm _=>?_) (λk f=>aQ _ _ _ _ _ f) λj=>?_
 . have c:(aI l).length=64:=(by unfold aI;rw [Ud,hl]);rw [c];unfold NW;show _=Value.int .u8 (((if m/64=b then l else R.blk d (m/64)).getD (m%64) 0:Nat):Int);by_cases e:m/64=b
   . rw [TX (by omega),TX e,show m-b*64=m%64 by omega];unfold aI;rw [Ub,UE,Ub,Ue (show m%64<l.length by omega)];rfl
   . rw [TW (by omega),TW e]
 . split
   . exact ⟨hl,g⟩
   . exact h.len d j
theorem ag.Tq (h:ag X p R F) {d:Nat} (a:d<R.n) (b:Nat) (t:Bool):ag (X.setCell ⟨F.bd d,b,ZZ⟩ (Z3 t)) p (R.R6 d λm=>if m=b then t else R.bad d m) F:=
 h.R6 a (((h.bad d a).set b (Z3 t)).congr λm _=>by split<;>rfl) λk c=>Uj _ _ _ _ c
structure aC where
 n:Nat
 nb:Nat
 tn:Nat->Nat->Bool
 lost:Nat->Bool
 bad:Nat->Nat->Bool
 bl:Nat->Nat->Bool
 rc:Nat->Nat->bz
def eB.rd (R:eB) (i b:Nat):Option bz:=if R.bad i b=ZX then ZZ else J8 (R.blk i b)
def aC.rd (A:aC) (i b:Nat):Option bz:=if A.bad i b=ZX then ZZ else ZY (if A.bl i b=ZX then .blank else A.rc i b)
structure jc (R:eB) (A:aC):Prop where
 n:R.n=A.n
 nb:R.nb=A.nb
 lost:∀ i,i<A.n->R.lost i=A.lost i
 rd:∀ i b,i<A.n->A.lost i=ZW->R.rd i b=A.rd i b
 tn:∀ i b,i<A.n->A.lost i=ZW->A.bad i b=ZX->A.tn i b=ZW->R.bad i b=ZX
def az (X:ZV) (p:Nat) (A:aC) (F:aH):Prop:=∃ R,ag X p R F/\jc R A
variable {A:aC}
def az.RS (h:az X p A F) {k:Nat} (b:F.S k):k<X.heap.size:=by
 obtain ⟨R,a,_⟩:=h;exact a.RS b
def az.keep (h:az X p A F) (c:∀ k,F.S k->Y.heap[k]?=X.heap[k]?):az Y p A F:=by
 obtain ⟨R,a,b⟩:=h;exact ⟨R,a.keep c,b⟩
def az.below (h:az X p A F) {B:Nat} (b:ZT B X Y) (a:X.heap.size<=B):az Y p A F:=h.keep λk c=>b.block k (T9 (h.RS c) a)
def az.outside (h:az X p A F) (c:aa S X Y) (b:∀ k,F.S k->¬ S k):az Y p A F:=h.keep λk a=>c.block k (h.RS a) (b k a)
def az.SD (h:az X p A F):A.n<=1000/\A.nb<=1000000:=by
 obtain ⟨R,a,b⟩:=h;rw [<- b.n,<- b.nb];exact ⟨a.n,a.nb⟩
def aC.putAt (A:aC) (ds:a8) (b:Nat) (f:Nat->bz):aC:={ A with bad:=λi m=>if m=b/\i∈ds then ZW else A.bad i m,bl:=λi m=>if m=b/\i∈ds then ZW else A.bl i m,rc:=λi m=>if m=b/\i∈ds then f i else A.rc i m }
def wM (A:aC) (b:Nat) (f:Nat->bz):A.putAt [] b f=A:=by simp [aC.putAt]
theorem sS (A:aC) (ds:a8) (d b:Nat) (f:Nat->bz):(A.putAt ds b f).putAt [d] b (λ_=>f d)=A.putAt (ds++[d]) b f:=by
 unfold aC.putAt;simp only [aC.mk.injEq,true_and,Un,Vn];refine ⟨funext λi=>funext λm=>?_,funext λi=>funext λm=>?_,funext λi=>funext λm=>?_⟩
 . by_cases a:m=b<;>by_cases c:i=d<;>by_cases e:i∈ds<;>simp [a,c,e]
 . by_cases a:m=b<;>by_cases c:i=d<;>by_cases e:i∈ds<;>simp [a,c,e]
 . by_cases a:m=b<;>by_cases c:i=d<;>by_cases e:i∈ds<;>simp_all
def jc.put (h:jc R A) (d b:Nat) {r:bz} (c:r.ok):jc ((R.R2 d λm=>if m=b then r.blk else R.blk d m).R6 d λm=>if m=b then ZW else R.bad d m) (A.putAt [d] b λ_=>r):=by
 refine ⟨h.n,h.nb,h.lost,λi m hi hl=>?_,λi m hi hl=>?_⟩
 . have q:=h.rd i m hi hl;unfold eB.rd aC.rd at q;unfold eB.rd aC.rd aC.putAt eB.R6 eB.R2;by_cases e:i=d
   . subst e;by_cases a:m=b
     . subst a;simp [zx c]
     . simpa [a] using q
   . simpa [e] using q
 . have q:=h.tn i m hi hl;unfold aC.putAt eB.R6 eB.R2;by_cases e:i=d
   . subst e;by_cases a:m=b
     . subst a;simp
     . simpa [a] using q
   . simpa [e] using q
def jc.TT (h:jc R A) {d:Nat} (hl:A.lost d=ZX) (b:Nat) (r:bz):jc R (A.putAt [d] b λ_=>r):=by
 have c:∀ i,A.lost i=ZW->i≠d:=λi h e=>by rw [e,hl] at h;cases h
 refine ⟨h.n,h.nb,h.lost,λi m hi a=>?_,λi m hi a=>?_⟩
 . rw [h.rd i m hi a];unfold aC.rd aC.putAt;simp [c i a]
 . have q:=h.tn i m hi a;unfold aC.putAt;simpa [c i a] using q
def PJ (w:ZV) (F:aH) (n:Nat) (c:Nat->Nat):Prop:=∀ i,i<n->∃ r:Int,w.cell? ⟨F.g,i*4+3,ZZ⟩=ZY (Z8 Z9 r)/\-9223372036854775808<=r/\r<=c i
def dA (F:aH) (n:Nat) (w w':ZV) (k:Nat->Nat):Prop:=∀ c,PJ w F n c->PJ w' F n λi=>c i+k i
variable {w w' w'':ZV} {n:Nat} {k k':Nat->Nat}
def dA.mono (h:dA F n w w' k) (f:∀ i,i<n->k i<=k' i):dA F n w w' k':=λc e i hi=>by
 obtain ⟨r,a,b,d⟩:=h c e i hi;exact ⟨r,a,b,Int.le_trans d (Int.ofNat_le.2 (Nat.add_le_add_left (f i hi) _))⟩
def dA.same (h:w'.heap[F.g]?=w.heap[F.g]?):dA F n w w' λ_=>0:=λc e i hi=>by
 obtain ⟨r,a,b,d⟩:=e i hi;exact ⟨r,(Uo h).trans a,b,d⟩
def dA.trans (h:dA F n w w' k) (a:dA F n w' w'' k'):dA F n w w'' λi=>k i+k' i:=λc f i hi=>by
 obtain ⟨r,b,d,e⟩:=a _ (h c f) i hi;exact ⟨r,b,d,Int.le_trans e (Int.ofNat_le.2 (Nat.le_of_eq (Vx _ _ _)))⟩
def dA.keep (h:dA F n w w' k) (e:w''.heap[F.g]?=w'.heap[F.g]?):dA F n w w'' k:=λc f i hi=>by
 obtain ⟨r,a,b,d⟩:=h c f i hi;exact ⟨r,(Uo e).trans a,b,d⟩
def az.sg (h:az X p A F):F.S F.g:=by
 obtain ⟨R,a,_⟩:=h;exact a.sg
def dA.below (c:dA F n w X k) (h:az X p A F) {B:Nat} (b:ZT B X Y) (a:X.heap.size<=B):dA F n w Y k:=c.keep (b.block _ (T9 (h.RS h.sg) a))
def dA.out (c:dA F n w X k) (h:az X p A F) {T:Nat->Prop} (a:aa T X Y) (b:¬ T F.g):dA F n w Y k:=c.keep (a.block _ (h.RS h.sg) b)
def dA.after (h:dA F n w' w'' k) (e:w'.heap[F.g]?=w.heap[F.g]?):dA F n w w'' k:=λc f=>h c λi hi=>by
 obtain ⟨r,a,b,d⟩:=f i hi;exact ⟨r,(Uo e).trans a,b,d⟩
def ly (h:w.cell? ⟨g,q,ZZ⟩=ZY u) (v:ZU):(w.setCell ⟨g,j,ZZ⟩ v).cell? ⟨g,q,ZZ⟩=ZY (if q=j then v else u):=by
 unfold World.cell? at h ⊢;cases hg:w.heap[g]? with
 | none=>simp [hg] at h
 | some o=>
  cases o with
  | cells cs t a=>
   simp only [hg] at h;have b:(w.setCell ⟨g,j,ZZ⟩ v).heap[g]?=ZY (Z5 (cs.setIfInBounds j v) t a):=(by simp [World.setCell,Vw,hg]);simp only [b];exact bG (by simpa using h) v
  | _=>simp [hg] at h
def dA.one {d:Nat} {r:Int} (h:w.cell? ⟨F.g,d*4+3,ZZ⟩=ZY (Z8 Z9 r)):dA F n w (w.setCell ⟨F.g,d*4+3,ZZ⟩ (Z8 Z9 (wrap64 (r+1)))) λi=>if i=d then 1 else 0:=λc k i hi=>by
 obtain ⟨b,a,f,j⟩:=k i hi;have:wrap64 (r+1)=(r+1+9223372036854775808)%18446744073709551616-9223372036854775808:=by unfold wrap64;rfl
 by_cases e:i=d
 . subst e;rw [h] at a;cases a;exact ⟨wrap64 (r+1),(ly h _).trans (by rw [TX rfl]),by omega,by show wrap64 (r+1)<=((c i+(if i=i then 1 else 0):Nat):Int);rw [TX rfl];omega⟩
 . exact ⟨b,(ly a _).trans (by rw [TW (by omega)]),f,by show b<=((c i+(if i=d then 1 else 0):Nat):Int);rw [TW e];exact j⟩
end
def aB (l:a8):Array ZU:=(aI l).toArray
def iB (l:a8):(aB l).size=l.length:=by unfold aB aI;simp
def wN (l:a8):(aB l).toList=aI l:=by unfold aB;rfl
def aW (l:a8):(aI l).length=l.length:=by unfold aI;simp
def Bi (l:a8):(aB l).all (λv=>v.oneCell')=ZX:=all_oneCell_toArray λv a=>by
 unfold aI at a;rw [Ua] at a;obtain ⟨x,_,rfl⟩:=a;rfl
def Tryz.S9:(ZL.info? 114).map (λi=>i.size)=ZY 64:=by kernel_rfl
def fx (h:l.length=64):(ZL.info? 114).map (λi=>i.size)=ZY (aB l).size:=by rw [iB,h];exact Tryz.S9
def zb:a8:=YG 64 0
def bX:zb.length=64:=by simp [zb]
def Tryz.zeroBlk:(ZL.info? 114).map (λi=>(i.zero,i.size,i.bytes))=ZY (ZY (.agg (aB zb)),64,64):=by kernel_rfl
def zeroBlk (w:ZV):(zeroValue 114).run ZL w=.ok (.agg (aB zb)) w:=by
 obtain ⟨c,a,b,_,_⟩:=Uu Tryz.zeroBlk;simp [zeroValue,typeInfo,Ux,a,b]
def bN (w:ZV) (b:Nat) (l:a8):Prop:=w.heap[b]?=ZY (Z5 (aB l) 114 (0,0))
def bN.lt (h:bN w b l):b<w.heap.size:=(T5.1 h).1
def bN.new (w:ZV) (l:a8):bN (w.alloc (Z5 (aB l) 114)) w.heap.size l:=Uk _ _
def bN.keep (h:bN w b l) (e:w'.heap[b]?=w.heap[b]?):bN w' b l:=e.trans h
def bN.setRow (l:a8) (h:bN w b l'):bN (w.setRow b (aB l)) b l:=Vy w b (aB l') (aB l) _ _ h
def aG (w:ZV) (b:Nat) (cs:Array ZU):w.grownBy (w.setRow b cs) (ZY b):=
 ⟨rfl,rfl,rfl,by simp,λk _ a=>by
  have:b≠k:=λe=>a (by rw [e]);simp [World.setRow,Vw,this]⟩
def aa.setRow (w:ZV) (b:Nat) (cs:Array ZU) (h:S b):aa S w (w.setRow b cs):=
 have g:=aG w b cs
 ⟨g.os,g.tape,g.output,g.size,λk a c=>g.block k a (λe=>c (by cases e;exact h))⟩
def gG (w:ZV) (b:Nat) (cs:Array ZU):(w.setRow b cs).heap.size=w.heap.size:=by simp [World.setRow]
def nj (h:bN w b l) (hl:l.length=64):(Instr.loadAt 114 (Z7 (ZY ⟨b,0,ZZ⟩))).run ZL w=.ok (.agg (aB l)) w:=by
 simp only [Instr.loadAt,Instr.sureAddr,Ux,Vf,UK,W9 w b 114 114 (aB l) (0,0) _ h WO rfl (fx hl)]
def lz (h:bN w b l) (hl:l.length=64):(loadVar 114 ⟨b,0,ZZ⟩).run ZL w=.ok (.agg (aB l)) w:=
 W9 w b 114 114 (aB l) (0,0) _ h WO rfl (fx hl)
def Bj (l:a8) (h:bN w b l') (a:l'.length=64) (hl:l.length=64):(Instr.storeAt 114 (Z7 (ZY ⟨b,0,ZZ⟩)) (.agg (aB l))).run ZL w=.ok () (w.setRow b (aB l)):=by
 simp only [Instr.storeAt,Instr.sureAddr,Ux,Vf,UK,XY w b 114 114 (aB l') (aB l) h (fx hl) (by rw [iB,iB,hl,a]) (Bi l)]
def mi {a:ZO} {Q:ZQ->ZO->ZV->Prop} (d:o.guard=ZZ) (x:ZM) (ho:o.op=.load 114 x) (b:Nat) (l:a8)
 (e:a.eval x=Z7 (ZY ⟨b,0,ZZ⟩)) (c:bN w b l) (hl:l.length=64) (h:wpList ZL ops Q rest (a.put o.dst (.agg (aB l))) w):wpList ZL ops Q (o::rest) a w:=by
 refine V5 d λK hK=>?_;unfold Oper.wp;simp [execOp,ho,e,nj c hl,Result.andThen];exact hK _ _ h
def fG {a:ZO} {Q:ZQ->ZO->ZV->Prop} (e:o.guard=ZZ) (x y:ZM) (ho:o.op=.store 114 x y) (b:Nat) (l l':a8)
 (f:a.eval x=Z7 (ZY ⟨b,0,ZZ⟩)) (g:a.eval y=.agg (aB l)) (d:bN w b l') (c:l'.length=64) (hl:l.length=64) (h:wpList ZL ops Q rest (a.put o.dst Z0) (w.setRow b (aB l))):wpList ZL ops Q (o::rest) a w:=by
 refine V5 e λK hK=>?_;unfold Oper.wp;simp [execOp,ho,f,g,Bj l d c hl,Result.andThen];exact hK _ _ h
def D5 {a:ZO} {Q:ZQ->ZO->ZV->Prop} (d:o.guard=ZZ) (x:ZM) (ho:o.op=.load 114 x) (b k:Nat) (l:a8)
 (e:a.eval x=Z7 (ZY ⟨b,k,ZZ⟩)) (c:w.rangeAt b k (aI l)) (hl:l.length=64) (h:wpList ZL ops Q rest (a.put o.dst (.agg (aB l))) w):wpList ZL ops Q (o::rest) a w:=
 abR d 114 x ho b k e (aI l) _ c WO rfl (by rw [aW,hl];exact Tryz.S9) h
def fH {fn:Func} {p q:Tmp} {ty:ZN} (h:fn.results=#[.cell p ty,.tmp q]) (tmps:Array ZU) (w:ZV) (a:Addr) (v u:ZU)
 (d:tmps.getD p Z0=Z7 (ZY a)) (e:tmps.getD q Z0=u) (hl:(loadVar ty a).run P w=.ok v w):(results fn tmps).run P w=.ok (Z1 #[v,u]) w:=by
 have b:tmps[p]?.getD Z0=Z7 (ZY a):=by simpa using d
 have c:tmps[q]?.getD Z0=u:=by simpa using e
 simp [results,h,b,c,asAddr,hl]
theorem ak {p:Prop} (h:p):cJ p:=h
theorem al {p0 p1:Prop} (a:p0) (b:p1):cJ (p0/\p1):=ak ⟨a,b⟩
theorem aE {p0 p1 p2:Prop} (a:p0) (b:p1) (c:p2):cJ (p0/\p1/\p2):=ak ⟨a,b,c⟩
theorem a5 {p0 p1 p2 p3:Prop} (a:p0) (b:p1) (c:p2) (d:p3):cJ (p0/\p1/\p2/\p3):=ak ⟨a,b,c,d⟩
theorem a6 {p0 p1 p2 p3 p4:Prop} (a:p0) (b:p1) (c:p2) (d:p3) (e:p4):cJ (p0/\p1/\p2/\p3/\p4):=ak ⟨a,b,c,d,e⟩
theorem a7 {p0 p1 p2 p3 p4 p5:Prop} (a:p0) (b:p1) (c:p2) (d:p3) (e:p4) (f:p5):cJ (p0/\p1/\p2/\p3/\p4/\p5):=ak ⟨a,b,c,d,e,f⟩
theorem hide7 {p0 p1 p2 p3 p4 p5 p6:Prop} (a:p0) (b:p1) (c:p2) (d:p3) (e:p4) (f:p5) (g:p6):cJ (p0/\p1/\p2/\p3/\p4/\p5/\p6):=ak ⟨a,b,c,d,e,f,g⟩
theorem hide8 {p0 p1 p2 p3 p4 p5 p6 p7:Prop} (a:p0) (b:p1) (c:p2) (d:p3) (e:p4) (f:p5) (g:p6) (h:p7):cJ (p0/\p1/\p2/\p3/\p4/\p5/\p6/\p7):=ak ⟨a,b,c,d,e,f,g,h⟩
theorem hide9 {p0 p1 p2 p3 p4 p5 p6 p7 p8:Prop} (a:p0) (b:p1) (c:p2) (d:p3) (e:p4) (f:p5) (g:p6) (h:p7) (i:p8):cJ (p0/\p1/\p2/\p3/\p4/\p5/\p6/\p7/\p8):=ak ⟨a,b,c,d,e,f,g,h,i⟩
theorem hide10 {p0 p1 p2 p3 p4 p5 p6 p7 p8 p9:Prop} (a:p0) (b:p1) (c:p2) (d:p3) (e:p4) (f:p5) (g:p6) (h:p7) (i:p8) (j:p9):cJ (p0/\p1/\p2/\p3/\p4/\p5/\p6/\p7/\p8/\p9):=ak ⟨a,b,c,d,e,f,g,h,i,j⟩
theorem hide11 {p0 p1 p2 p3 p4 p5 p6 p7 p8 p9 p10:Prop} (b:p0) (c:p1) (d:p2) (e:p3) (f:p4) (g:p5) (h:p6) (i:p7) (j:p8) (k:p9) (a:p10):cJ (p0/\p1/\p2/\p3/\p4/\p5/\p6/\p7/\p8/\p9/\p10):=ak ⟨b,c,d,e,f,g,h,i,j,k,a⟩
theorem hide12 {p0 p1 p2 p3 p4 p5 p6 p7 p8 p9 p10 p11:Prop} (c:p0) (d:p1) (e:p2) (f:p3) (g:p4) (h:p5) (i:p6) (j:p7) (k:p8) (l:p9) (a:p10) (b:p11):cJ (p0/\p1/\p2/\p3/\p4/\p5/\p6/\p7/\p8/\p9/\p10/\p11):=ak ⟨c,d,e,f,g,h,i,j,k,l,a,b⟩
theorem hide13 {p0 p1 p2 p3 p4 p5 p6 p7 p8 p9 p10 p11 p12:Prop} (d:p0) (e:p1) (f:p2) (g:p3) (h:p4) (i:p5) (j:p6) (k:p7) (l:p8) (m:p9) (a:p10) (b:p11) (c:p12):cJ (p0/\p1/\p2/\p3/\p4/\p5/\p6/\p7/\p8/\p9/\p10/\p11/\p12):=ak ⟨d,e,f,g,h,i,j,k,l,m,a,b,c⟩
theorem hide15 {p0 p1 p2 p3 p4 p5 p6 p7 p8 p9 p10 p11 p12 p13 p14:Prop} (f:p0) (g:p1) (h:p2) (i:p3) (j:p4) (k:p5) (l:p6) (m:p7) (n:p8) (o:p9) (a:p10) (b:p11) (c:p12) (d:p13) (e:p14):cJ (p0/\p1/\p2/\p3/\p4/\p5/\p6/\p7/\p8/\p9/\p10/\p11/\p12/\p13/\p14):=ak ⟨f,g,h,i,j,k,l,m,n,o,a,b,c,d,e⟩
def j7 {k:IntKind} {a b:Int} (h:a=b):Ending.returned (.int k a)=Z4 (.int k b):=by rw [h]
def Kr (a b:Nat) (c:a<256) (d:b<256):bits .and .u8 (a:Int) (b:Int)=((a &&& b:Nat):Int):=
 (bits_nat .u8 8 (by decide) wraps_u8 a b c d).1
def lA (a b:Nat) (c:a<256) (d:b<256):bits .xor .u8 (a:Int) (b:Int)=((a^^^b:Nat):Int):=by
 have e:a%2^IntKind.u8.bits=a:=V3 c;have f:b%2^IntKind.u8.bits=b:=V3 d;simp only [bits,YL,YM,YN,e,f];have:=rp c d;exact wraps_u8 _ (YS _) (by omega)
def wO (n:Int) (a:0<=n) (b:n<2^62):IntKind.i64.wrap n=n:=by rw [UF];omega
def Gh (a b:Nat) (c:a<2^62) (d:b<2^62):bits .and .i64 (a:Int) (b:Int)=((a &&& b:Nat):Int):=
 (bits_nat .i64 62 (by decide) wO a b c d).1
def zy (a b:Nat) (c:a<2^62) (d:b<2^62):bits .xor .i64 (a:Int) (b:Int)=((a^^^b:Nat):Int):=by
 have e:(2:Nat)^62<2^IntKind.i64.bits:=by decide
 have f:a%2^IntKind.i64.bits=a:=V3 (Xa c e);have g:b%2^IntKind.i64.bits=b:=V3 (Xa d e);simp only [bits,YL,YM,YN,f,g];have:=Wc (n:=62) c d;exact wO _ (YS _) (by exact_mod_cast this)
def Qg:∀ a,a<256->((a &&& 128=0)↔a<128):=by decide +kernel
def NX (a:Nat) (h:a<256):(bits .and .u8 (a:Int) 128 != 0)=decide (128<=a):=by
 have e:=Kr a 128 h (by decide);rw [show ((128:Nat):Int)=128 from rfl] at e;rw [e];have:=Qg a h;rw [Yu];simp;omega
def Qh (a:Nat):a &&& 1=a%2:=Nat.and_one_is_mod a
def aal (a:Nat) (h:a<256):(bits .and .u8 (a:Int) 1 != 0)=decide (a%2=1):=by
 have e:=Kr a 1 h (by decide);rw [show ((1:Nat):Int)=1 from rfl] at e;rw [e,Qh];rw [Yu];simp;omega
def aam {a:Nat} (h:a<256) (b:128<=a):bits .xor .u8 ((a:Int)*2%256) 29=(tx a:Int):=by
 have e:((a:Int)*2%256)=((2*a-256:Nat):Int):=by omega
 rw [e,show (29:Int)=((29:Nat):Int) from rfl,lA _ _ (by omega) (by decide)];unfold tx;rw [TW (by omega)]
def aan {a:Nat} (b:a<128):(a:Int)*2=(tx a:Int):=by
 unfold tx;rw [TX b];omega
theorem nl (a:Nat) (h:a<256) (w:ZV) :
 ZS ZL 202 #[Z8 .u8 a] w λe w'=>e=Z4 (Z8 .u8 (tx a))/\w'=w:=by
 have c:=NX a h;by_cases b:128<=a
 . rw [U1 b] at c;go_enter func202,ntmps202;go_wp2;go_ret;exact ⟨j7 (aam h b),rfl⟩
 . rw [Vz b] at c;go_enter func202,ntmps202;go_wp2;go_ret;exact ⟨j7 (aan (by omega)),rfl⟩
def Ks (n:Nat):∀ a p,zk n a 0 p=p:=by
 induction n with
 | zero=>intro a p;rfl
 | succ n ih=>intro a p;simp only [zk];exact ih _ _
theorem mj (a b:Nat) (o:a<256) (j:b<256) (w:ZV) :
 ZS ZL 188 #[Z8 .u8 a,Z8 .u8 b] w λe w'=>e=Z4 (Z8 .u8 (gm a b))/\w'=w:=by
 go_enter func188,ntmps188;go_wp2;go_loop [0,1,5] (λs t u=>∃ n x y z:Nat,x<256/\y<256/\z<256/\y<2^n/\cJ (zk n x y z=gm a b)/\s=Z8 .u8 x/\t=Z8 .u8 y/\u=Z8 .u8 z) (λ_ t _=>(intOf t).toNat)
 case atStart=>exact ⟨8,a,b,0,o,j,by decide,j,rfl,rfl,rfl,rfl⟩
 case round=>
  obtain ⟨n,x,y,z,c,p,h,k,g,rfl,rfl,rfl⟩:=hrel;by_cases m:y=0
  . subst m;go_wp2;go_ret;exact ⟨j7 (by rw [<- g.out,Ks]),rfl⟩
  . have r:((y:Int) != 0)=ZX:=(by rw [bne_iff_ne];omega);have l:=aal y p;cases n with
    | zero=>exact absurd k (by simp;omega)
    | succ n=>
    have i:y/2<2^n:=(by rw [XV] at k;omega);by_cases d:y%2=1
    . rw [U1 d] at l;have f:cJ (zk n (tx x) (y/2) (z^^^x)=gm a b):=(by have:=g.out;simp only [zk] at this;rw [TX d] at this;exact this);have q:=lA z x h c;go_wp2_with (go_at_call 202;refine (nl _ c _).mono ?_;rintro e w' ⟨rfl,rfl⟩);go_round
      case rel=>exact ⟨n,tx x,y/2,z^^^x,A4 c,by omega,rp h c,i,f,rfl,by go_num,rfl⟩
      case measure=>simp [intOf];omega
    . rw [Vz d] at l;have f:cJ (zk n (tx x) (y/2) z=gm a b):=(by have:=g.out;simp only [zk] at this;rw [TW d] at this;exact this);go_wp2_with (go_at_call 202;refine (nl _ c _).mono ?_;rintro e w' ⟨rfl,rfl⟩);go_round
      case rel=>exact ⟨n,tx x,y/2,z,A4 c,by omega,h,i,f,rfl,by go_num,rfl⟩
      case measure=>simp [intOf];omega
def Kt (n p v:Nat):PH (n+1) p v=PH n (gm p p) (gm v (gm p p)):=rfl
theorem rS (a:Nat) (h:a<256) (w:ZV) :
 ZS ZL 187 #[Z8 .u8 a] w λe w'=>e=Z4 (Z8 .u8 (gi a))/\w'=w:=by
 go_enter func187,ntmps187;go_wp2;go_loop [3,4,6] (λs t u=>∃ k p v:Nat,k<=7/\p<256/\v<256/\cJ (PH (7-k) p v=gi a)/\s=Z8 .u8 v/\t=Z8 .u8 p/\u=Z8 Z9 k) (λ_ _ u=>7-(intOf u).toNat)
 case atStart=>exact ⟨0,a,1,by decide,h,by decide,rfl,rfl,rfl,rfl⟩
 case round=>
  obtain ⟨k,p,v,j,b,d,c,rfl,rfl,rfl⟩:=hrel;by_cases i:k<7
  . have f:cJ (PH (7-(k+1)) (gm p p) (gm v (gm p p))=gi a):=by
     have:=c.out;rw [show 7-k=(7-(k+1))+1 from by omega,Kt] at this;exact this
    go_wp2_with fail;refine (mj p p b b _).mono ?_;rintro e w' ⟨rfl,rfl⟩;go_wp2_with fail;refine (mj v (gm p p) d (bB _ b) _).mono ?_;rintro e w' ⟨rfl,rfl⟩;go_wp2_with fail;go_round
    case rel=>exact ⟨k+1,gm p p,gm v (gm p p),by omega,bB _ b,bB _ d,f,rfl,rfl,by go_num⟩
    case measure=>simp [intOf];omega
  . have g:k=7:=(by omega);subst g;go_wp2;go_ret;exact ⟨j7 (by rw [<- c.out];rfl),rfl⟩
def Bs (w:ZV) (v:ZU) (l:a8):Prop:=
 ∃ ao c,v=.slice ao l.length c/\l.length<=c/\l.length<=140737488355328/\(∀ x∈l,x<256)/\(l≠[]->∃ b off,ao=ZY ⟨b,off,ZZ⟩/\∀ k,k<l.length->w.cell? ⟨b,off+k,ZZ⟩=ZY (Z8 .u8 ((l.getD k 0:Nat):Int)))
def Bs.mono (h:Bs w v l) (j:ZT w.heap.size w w'):Bs w' v l:=by
 obtain ⟨ao,c,a,d,f,g,i⟩:=h;refine ⟨ao,c,a,d,f,g,λhl=>?_⟩;obtain ⟨b,off,e,m⟩:=i hl;refine ⟨b,off,e,λk n=>?_⟩;have:=m k n;rw [j.cell (Ui this)];exact this
def Bs.Su (h:aM w b l) (e:n<=l.length) (d:n<=140737488355328) (c:∀ x∈l,x<256):Bs w (Z6 (ZY ⟨b,0,ZZ⟩) n l.length) (l.take n):=by
 have hl:(l.take n).length=n:=by rw [Us];omega
 refine ⟨ZY ⟨b,0,ZZ⟩,l.length,by rw [hl],by omega,by omega,λx h=>c x (U2 h),λ_=>⟨b,0,rfl,λk a=>?_⟩⟩;rw [hl] at a;have:=h.cell k (by omega);rw [Um,this];simp [a]
def aao (w:ZV) (n:Nat) (i:ZU) (wr:ZV):Prop:=∃ k m:Nat,k<=n/\i=Z8 Z9 k/\wr=w.drewN m
theorem Gi (j vb:ZU) (l:a8) (w:ZV) (t:Bs w j l) (u:Bs w vb l) :
 ZS ZL 29 #[j,vb] w λe w'=>e=Z4 (Z3 ZX)/\∃ m,w'=w.drewN m:=by
 obtain ⟨ao,z,rfl,o,q,C,a⟩:=t;obtain ⟨y,cb,rfl,p,r,_,c⟩:=u;have A:l.length<=140737488355328:=by omega
 clear o q p r;by_cases hl:l=[]
 . subst hl;clear a c;go_enter func29,ntmps29;go_wp2;refine VO 1 ?_;rw [VJ];go_wp2;go_ret;exact ⟨rfl,0,rfl⟩
 . obtain ⟨b,off,rfl,d⟩:=a hl;obtain ⟨v,h,rfl,f⟩:=c hl;clear hl a c;go_enter func29,ntmps29;go_wp2;go_loopw [5] (λi wr=>aao w l.length i wr) (λi _=>l.length-(intOf i).toNat)
   case atStart=>exact ⟨0,0,T7 _,rfl,rfl⟩
   case round=>
    obtain ⟨k,m,B,rfl,rfl⟩:=hrel;by_cases g:k<l.length
    . have c1:=d k g;have n:=f k g;have s:(((l.getD k 0:Nat):Int) != ((l.getD k 0:Nat):Int))=ZW:=(by simp);generalize l.getD k 0=x at c1 n s;clear d f;go_wp2;go_quiet (fail);go_wp2;go_roundw
      case rel=>exact ⟨k+1,_,by omega,by go_num,rfl⟩
      case measure=>simp [intOf];omega
    . go_wp2;go_ret;exact ⟨rfl,_,rfl⟩
def bO (a b:a8):aI (a++b)=aI a++aI b:=by simp [aI]
def Gj (n:Nat):∀ (s k:Nat),k<s->(be n s).take (s-k)=(be n s).take (s-(k+1))++[n/256^k%256]
 | 0,k,h=>absurd h (by omega)
 | s+1,k,h=>by
  by_cases e:k=s
  . subst e;rw [show k+1-k=1 by omega,WL];simp [be]
  . have ih:=Gj n s k (by omega);rw [show s+1-k=(s-k)+1 by omega,show s+1-(k+1)=(s-(k+1))+1 by omega];simp only [be,abS,UX,ih]
def NY (n k:Nat):((n:Int)/2^(8*k)%256)=((n/256^k%256:Nat):Int):=by
 have e:(2:Nat)^(8*k)=256^k:=by rw [Nat.pow_mul]
 have a:((2:Int)^(8*k))=((256^k:Nat):Int):=by rw [<- e];norm_cast
 rw [a];omega
def lB (w:ZV) (x:ZU) (t:ZN):∀ j u,[x][j]?=ZY u->(w.alloc (Z5 #[x] t)).cell? ((⟨w.heap.size,0,ZZ⟩:Addr).add j)=ZY u:=by
 intro j u h;rw [jm];match j,h with
 | 0,h=>simp at h;subst h;simp only [World.cell?,Uk w (Z5 #[x] t)];rfl
 | j+1,h=>simp at h
def aa1 (w:ZV) (base:Nat) (n s k0:Nat) (xs:List ZU) (v0:ZU) (b i:ZU) (wr:ZV):Prop:=
 ∃ (k:Nat) (v:ZU),k<=s/\i=Z8 Z9 ((k:Int)-1)/\b=v/\wr.ownsRow base 5 1 v (k0+(s-k)) (xs++aI ((be n s).take (s-k)))/\aa (λj=>v0.ownBlock=ZY j) w wr/\(∀ j,v.ownBlock=ZY j->v0.ownBlock=ZY j\/w.heap.size<=j)
theorem fZ (base:Nat) (d:ZU) (c:Nat) (xs:List ZU) (n s:Nat) (w:ZV) (z:w.ownsRow base 5 1 d c xs) (x:base<=w.heap.size) (q:s<=8) (J:c<=1000000000) :
 ZS ZL 172 #[d,Z8 .u64 n,Z8 Z9 s] w λe w'=>∃ v',e=Z4 v'/\w'.ownsRow base 5 1 v' (c+s) (xs++aI (be n s))/\aa (λj=>d.ownBlock=ZY j) w w'/\(∀ j,v'.ownBlock=ZY j->d.ownBlock=ZY j\/w.heap.size<=j):=by
 obtain ⟨G,B,D,E,F⟩:=Uu Tryz.Sb;go_enter func172,ntmps172;go_wp2;go_loopw [0,7] (λb i wr=>aa1 w base n s c xs d b i wr) (λ_ i _=>(intOf i+1).toNat)
 case atStart=>exact ⟨s,d,TY _,by go_num,rfl,by rw [WL];simpa [aI] using z,aa.refl _ _,λj h=>.inl h⟩
 case round=>
  obtain ⟨k,v,K,rfl,rfl,l,a,f⟩:=hrel;cases k with
  | zero=>
   have p:((0:Nat):Int)-1=-1:=(by omega);rw [p];have t:=aE l a f;clear l a f;go_wp2;go_ret;obtain ⟨l,a,f⟩:=t.o;refine ⟨_,rfl,?_,a,f⟩;rwa [Yv,UJ (by rw [aD];exact TY _)] at l
  | succ k=>
   have p:((k+1:Nat):Int)-1=(k:Int):=(by omega);rw [p];have I:=TZ x a.size;go_wp2_with (at_builtin;refine XZ _ rfl (Z2 14) (Z2 20) 40 rfl base 5 G (Z8 .u8 0) 1 1 Uq B D E F rfl (by decide) u0 (c+(s-(k+1))) _ rfl (l.alloc _) ⟨wr.heap.size,0,ZZ⟩ 1 1 _ rfl rfl (lB wr _ _) (by intro u r;simp at r;subst r;rfl) (by unfold maxLen;omega) (by omega) (by simp;omega) ?_;intro v' w' ho m H A);have C:(wr.alloc (Z5 #[Z8 .u8 ((n:Int)/2^(8*k)%256)] 5)).heap.size=wr.heap.size+1:=(by simp);have L:=a.size;have y:∀ j,v'.ownBlock=ZY j->d.ownBlock=ZY j\/w.heap.size<=j:=λj g=>by
    rcases A with e|e
    . exact f j (e▸g)
    . rw [e] at g;cases g;rw [C];exact .inr (by omega)
   refine ⟨⟨k,v',by omega,by go_num,rfl,?_,?_,y⟩,by simp [intOf]⟩
   . rw [NY] at ho;rw [Gj n s k (by omega),bO,<- UC,show c+(s-k)=c+(s-(k+1))+1 by omega];exact ho
   . exact (a.later (aa.alloc (S:=λ_=>False) _ _) (λ_ _ h=>h.elim)).later (T:=λj=>u0.ownBlock=ZY j) ⟨m.os,m.tape,m.output,m.size,λj g q=>m.block j g (λe=>q e.symm)⟩ (λj g h=>by
      rcases f j h with e|e
      . exact e
      . omega)
theorem Qi (n x:Nat) (c:x<256):bits .or .u64 (IntKind.u64.wrap ((n:Int)*256)) (x:Int)=(((n*256+x)%18446744073709551616:Nat):Int):=by
 have a:IntKind.u64.wrap ((n:Int)*256)=((n*256%18446744073709551616:Nat):Int):=by rw [Vd];omega
 rw [a,abT _ _ (Wd _ (by decide)) (by omega)];congr 1;have b:n*256%18446744073709551616=2^8*(n%72057594037927936):=by omega
 rw [b,<- Nat.two_pow_add_eq_or_of_lt (i:=8) (by omega)];omega
def Gk (a b:Nat) (c:a<4294967296) (d:b<4294967296):bits .xor .u32 (a:Int) (b:Int)=((a^^^b:Nat):Int):=by
 have e:a%2^IntKind.u32.bits=a:=V3 c;have f:b%2^IntKind.u32.bits=b:=V3 d;have:a^^^b<2^32:=Wc c d;simp only [bits,YL,YM,YN,e,f];rw [IntKind.wrap_u32];omega
theorem Qj (r:Nat) (a:r<4294967296):bits .xor .u32 IntKind.u32.max (r:Int)=((4294967295-r:Nat):Int):=by
 have e:IntKind.u32.max=((4294967295:Nat):Int):=rfl;rw [e,Gk _ _ (by decide) a];congr 1;refine XR λi=>?_;have b:=Xy (n:=32) (x:=r) a i;have c:=Xz 32 i;rw [abM,show (4294967295:Nat)-r=2^32-(r+1) by omega,b,show (4294967295:Nat)=2^32-1 from rfl,c];by_cases hi:i<32
 . simp [hi]
 . have:r.testBit i=ZW:=Xb (T9 a (by have:=U9 (n:=2) (by decide) (show 32<=i by omega);omega));simp [hi,this]
def PK (a b:Nat) (c:a<4294967296) (d:b<4294967296):bits .and .u32 (a:Int) (b:Int)=((a &&& b:Nat):Int):=(bits_nat .u32 32 (by decide) (λn e f=>by rw [IntKind.wrap_u32];omega) a b c d).1
def aap (a:Nat):a &&& 15=a%16:=abU a 4
def Hp (l:a8) (k:Nat) (h:k<l.length):dj (l.take (k+1))=dF (dj (l.take k)) (l.getD k 0):=by
 rw [Vg,Ue h];unfold dj;rw [Wq,Ub,Ue h];rfl
def Ku (l:a8) (k:Nat) (h:k<l.length):fT (l.take (k+1))=(fT (l.take k)*256+l.getD k 0)%18446744073709551616:=by
 rw [Vg,Ue h,Ub,Ue h];exact sR _ _
def aaq (w:ZV) (l:a8) (n i _x:ZU) (wr:ZV):Prop:=∃ k:Nat,k<=l.length/\n=Z8 .u64 (fT (l.take k):Nat)/\i=Z8 Z9 k/\wr=w
theorem zA (v:ZU) (l:a8) (w:ZV) (h:Bs w v l):ZS ZL 184 #[v] w λe w'=>e=Z4 (Z8 .u64 (fT l:Nat))/\w'=w:=by
 obtain ⟨ao,c,rfl,r,t,q,d⟩:=h;go_enter func184,ntmps184;go_wp2;go_loopw [3,8,5] (λn i x wr=>aaq w l n i x wr) (λ_ i _ _=>l.length-(intOf i).toNat)
 case atStart=>exact ⟨0,T7 _,rfl,rfl,rfl⟩
 case round=>
  obtain ⟨k,s,rfl,rfl,rfl⟩:=hrel;by_cases a:k<l.length
  . obtain ⟨b,off,rfl,f⟩:=d (by intro e;rw [e] at a;simp at a);have c1:=f k a;have ho:aaq wr l (Z8 .u64 (((fT (l.take k)*256+l.getD k 0)%18446744073709551616:Nat):Int)) (Z8 Z9 ((k:Int)+1)) (Z8 .u8 (l.getD k 0:Nat)) wr:=⟨k+1,by omega,by rw [Ku l k a],rfl,rfl⟩;have p:l.getD k 0<256:=dz q k;have g:=Qi (fT (l.take k)) (l.getD k 0) p;rw [<- g] at ho;have j:=ak ho;clear ho g d f;generalize l.getD k 0=x at *;generalize fT (l.take k)=n at *;go_wp2;exact ⟨j.o,by simp [intOf];omega⟩
  . have m:k=l.length:=(by omega);subst m;rw [VK];clear d;go_wp2;go_ret;exact ⟨rfl,rfl⟩
def bh (w:ZV):Prop:=∀ j,j<16->w.cell? ⟨2,j,ZZ⟩=ZY (Z8 .u32 ((cK.getD j 0:Nat):Int))
def SmR (w:ZV) (l:a8) (n i _x:ZU) (wr:ZV):Prop:=∃ k:Nat,k<=l.length/\n=Z8 .u32 (dj (l.take k):Nat)/\i=Z8 Z9 k/\wr=w
theorem NZ (v:ZU) (l:a8) (w:ZV) (h:Bs w v l) (z:bh w):ZS ZL 182 #[v] w λe w'=>e=Z4 (Z8 .u32 (nF l:Nat))/\w'=w:=by
 obtain ⟨ao,c,rfl,O,Q,q,p⟩:=h;go_enter func182,ntmps182;go_wp2;go_loopw [3,8,5] (λn i x wr=>SmR w l n i x wr) (λ_ i _ _=>l.length-(intOf i).toNat)
 case atStart=>exact ⟨0,T7 _,rfl,rfl,rfl⟩
 case round=>
  obtain ⟨k,P,rfl,rfl,rfl⟩:=hrel;by_cases g:k<l.length
  . obtain ⟨b,off,rfl,s⟩:=p (by intro e;rw [e] at g;simp at g);have c1:=s k g;have ho:SmR wr l (Z8 .u32 ((dF (dj (l.take k)) (l.getD k 0):Nat):Int)) (Z8 Z9 ((k:Int)+1)) (Z8 .u8 (l.getD k 0:Nat)) wr:=⟨k+1,by omega,by rw [Hp l k g],rfl,rfl⟩;have N:l.getD k 0<256:=dz q k;have j:dj (l.take k)<4294967296:=ni (λx h=>q x (U2 h));unfold dF at ho;clear p s;generalize l.getD k 0=x at *;generalize dj (l.take k)=r at *;have A:(x:Int)%4294967296=(x:Int):=(by omega);have U:=Gk r x j (by omega);have m:r^^^x<4294967296:=Wc (n:=32) j (by omega);generalize r^^^x=a at *;have V:bits .and .u32 (a:Int) 15=((a%16:Nat):Int):=(by have:=PK a 15 m (by decide);rw [aap] at this;exact this);have W:(a:Int)/16=((a/16:Nat):Int):=(by omega);have G:=z (a%16) (Wd _ (by decide));have t:=pr (a%16);have J:=Gk (a/16) (cK.getD (a%16) 0) (by omega) t;have y:dy a<4294967296:=gE m;have f:a/16^^^cK.getD (a%16) 0=dy a:=rfl;rw [f] at J;have R:a%16<16:=Wd _ (by decide);clear f;generalize dy a=d at *;generalize cK.getD (a%16) 0=L at *;generalize a%16=C at *;generalize a/16=b1 at *;have X:bits .and .u32 (d:Int) 15=((d%16:Nat):Int):=(by have:=PK d 15 y (by decide);rw [aap] at this;exact this);have Y:(d:Int)/16=((d/16:Nat):Int):=(by omega);have H:=z (d%16) (Wd _ (by decide));have u:=pr (d%16);have K:=Gk (d/16) (cK.getD (d%16) 0) (by omega) u;have f:d/16^^^cK.getD (d%16) 0=dy d:=rfl;rw [f] at K;have S:d%16<16:=Wd _ (by decide);clear f;generalize dy d=T at *;generalize cK.getD (d%16) 0=M at *;generalize d%16=E at *;generalize d/16=b2 at *;have B:=ak ho;have D:(C:Int)<16:=(by omega);have F:(E:Int)<16:=(by omega);clear ho m y t u;go_wp2;exact ⟨B.o,by simp [intOf];omega⟩
  . have I:k=l.length:=(by omega);subst I;rw [VK];have j:dj l<4294967296:=ni q;clear p;have A:=Qj (dj l) j;rw [show 4294967295-dj l=nF l from rfl] at A;generalize dj l=r at *;go_wp2;go_ret;exact ⟨rfl,rfl⟩
def eL (h:w.grownBy w' (ZY b)) (i:Nat) (v:ZU):w.grownBy (w'.setCell ⟨b,i,ZZ⟩ v) (ZY b):=
 ⟨h.os,h.tape,h.output,by rw [Yw];exact h.size,λk c a=>by
  rw [Uj _ _ _ _ (by intro e;exact a (by rw [e]))];exact h.block k c a⟩
def sU {r:Option Nat} (h:w.grownBy w' r) (n:Nat):w.grownBy (w'.drewN n) r:=
 ⟨h.os,h.tape,h.output,h.size,h.block⟩
def gH {r:Option Nat} (h:w.grownBy w' r) (k:w'.grownBy w'' r):w.grownBy w'' r:=
 ⟨k.os.trans h.os,k.tape.trans h.tape,k.output.trans h.output,TZ h.size k.size,λj b a=>(k.block j (T9 b h.size) a).trans (h.block j b a)⟩
def gI (h:ZT B w0 w) (c:w.grownBy w' (ZY b)) (a:B<=w.heap.size) (e:B<=b):ZT B w0 w':=
 h.grown c a (λk d=>by simp at d;omega)
def D6 {xs:List ZU} (h:w.ownsRow base 40 1 v n xs) (c:w.grownBy w' (ZY b)) (a:v.ownBlock≠ZY b):w'.ownsRow base 40 1 v n xs:=
 h.kept c (.inr a)
theorem ez.wrote (h:ez w base v L) {i:Nat} (hi:i<L.length) {l':a8} (d:w.grownBy w' (ZY L[i].1)) (s:aM w' L[i].1 l') (o:l'.length=L[i].2.2.length) (t:∀ x∈l',x<256) :
 ez w' base v (L.set i (L[i].1,L[i].2.1,l')):=by
 have r:=T8 hi;obtain ⟨f,g,u,y,z⟩:=h.row _ r;have n:(L.set i (L[i].1,L[i].2.1,l')).map fY=L.map fY:=by
  apply Ve
  . simp
  . intro j l m;simp [YH];by_cases e:i=j
    . subst e;simp [fY,o]
    . simp [e]
 have k:(L.set i (L[i].1,L[i].2.1,l')).map (λp=>p.1)=L.map (λp=>p.1):=by
  apply Ve
  . simp
  . intro j l m;simp [YH];by_cases e:i=j
    . subst e;simp
    . simp [e]
 refine ⟨?_,λp b=>?_,by rw [k];exact h.nodup⟩
 . rw [n,V4];exact D6 h.own d (pt h.own g)
 . obtain ⟨j,a,rfl⟩:=XA.1 b;rw [V4] at a;rw [YH];by_cases e:i=j
   . rw [TX e];exact ⟨f,s,by show L[i].2.1<=l'.length;omega,⟨by show L[i].2.1<=140737488355328;omega,by show l'.length<=9223372036854775807;omega⟩,t⟩
   . rw [TW e];obtain ⟨b1,b2,b3⟩:=h.row _ (T8 a);refine ⟨b1,b2.grown d ?_,b3⟩;intro q;simp at q;have b:=V6.1 h.nodup;rcases Yx e with c|c
     . exact b i j (by simpa using hi) (by simpa using a) c (by simp [q])
     . exact b j i (by simpa using a) (by simpa using hi) c (by simp [q])
def ez.S7 (h:ez w base v L) {i:Nat} (hi:i<L.length):Bs w (fY L[i]) (L[i].2.2.take L[i].2.1):=by
 obtain ⟨e,a,b,c,d⟩:=h.row _ (T8 hi);exact Bs.Su a b c.1 d
def mn (w:ZV) (n:Nat) (a:n=w.heap.size) (x:ZU) (t:ZN):∀ j u,[x][j]?=ZY u->(w.alloc (Z5 #[x] t)).cell? ((⟨n,0,ZZ⟩:Addr).add j)=ZY u:=by
 subst a;exact Yy _ _ _
def ez.append2 {o:Obj} (h:ez w base v T) (e:ZT w.heap.size w w1) (r:base<=w.heap.size) (s:w.heap.size<=b) (d:aM w1 b l) (g:m=l.length) (i:n<=l.length) (hl:l.length<=140737488355328) (k:∀ x∈l,x<256)
 (f:(w1.alloc o).grownBy w2 v.ownBlock) (a:w2.ownsRow base 40 1 v' (T.length+1) (T.map fY++[Z6 (ZY ⟨b,0,ZZ⟩) n m])):ez w2 base v' (T++[(b,n,l)]):=by
 subst g;have c:=(h.below e).alloc o;refine c.push f (p:=(b,n,l)) a ⟨by show base<=b;omega,d.alloc o,i,⟨by show n<=140737488355328;omega,by show l.length<=9223372036854775807;omega⟩,k⟩ ?_;intro q j;have:=(h.row q j).2.1.lt;show q.1≠b;omega
def dP {o:Obj} (h:ez w B v T) (b:ZT B w0 w) (a:ZT w.heap.size w w1) (d:B<=w.heap.size) (e:(w1.alloc o).grownBy w2 v.ownBlock):ZT B w0 w2:=by
 have c:=b.trans (a.mono d);have:=a.size;refine (c.alloc (by omega) o).grown e (by rw [Ul];omega) ?_;intro k f;exact (h.own.lt k f).1
def xr (c:Nat) (l:a8):a8:=l.map (λx=>x^^^c)
def rz (c k:Nat) (l:a8):a8:=(YF l.length).map λj=>if j<k then l.getD j 0^^^c else l.getD j 0
theorem Hs (c:Nat) (l:a8):rz c 0 l=l:=by
 unfold rz;apply Ve
 . simp
 . intro j b a;simp [a]
theorem Kv (c:Nat) (l:a8):rz c l.length l=xr c l:=by
 unfold rz xr;apply Ve
 . simp
 . intro j a b;simp at a;simp [a]
def Kw (c k:Nat) (l:a8):(rz c k l).length=l.length:=by simp [rz]
def Kx (c k:Nat) (l:a8) (a:k<l.length):(rz c k l).getD k 0=l.getD k 0:=by simp [rz,a]
theorem Ht (c k:Nat) (l:a8):(rz c k l).set k (l.getD k 0^^^c)=rz c (k+1) l:=by
 unfold rz;apply Ve
 . simp
 . intro j b d;simp [YH];by_cases e:k=j
   . subst e;simp
   . simp only [TW e];by_cases a:j<k
     . rw [TX a,TX (by omega)]
     . rw [TW a,TW (by omega)]
def SA2 (wo:ZV) (b c:Nat) (l:a8) (i:ZU) (wr:ZV):Prop:=
 ∃ k:Nat,k<=l.length/\i=Z8 Z9 k/\wo.grownBy wr (ZY b)/\aM wr b (rz c k l)
def Rd (w:ZV) (v:ZU) (D:List a8):Prop:=
 ∃ ao c,v=.slice ao D.length c/\D.length<=5864062014805/\(D≠[]->∃ b off,ao=ZY ⟨b,off,ZZ⟩/\∀ i (hi:i<D.length),∃ u,w.cell? ⟨b,off+i,ZZ⟩=ZY u/\Bs w u D[i])
def Bs.lt (h:Bs w v l):∀ x∈l,x<256:=by
 obtain ⟨_,_,_,_,_,a,_⟩:=h;exact a
def Rd.mono (h:Rd w v D) (a:ZT w.heap.size w w'):Rd w' v D:=by
 obtain ⟨ao,c,f,g,j⟩:=h;refine ⟨ao,c,f,g,λl=>?_⟩;obtain ⟨b,off,e,m⟩:=j l;refine ⟨b,off,e,λi hi=>?_⟩;obtain ⟨u,d,k⟩:=m i hi;exact ⟨u,by rw [a.cell (Ui d)];exact d,k.mono a⟩
def Rd.cases (h:Rd w v D):(D=[]/\∃ ao c,v=.slice ao 0 c)\/∃ b off c,v=Z6 (ZY ⟨b,off,ZZ⟩) D.length c/\D.length<=5864062014805/\∀ i (hi:i<D.length),∃ u,w.cell? ⟨b,off+i,ZZ⟩=ZY u/\Bs w u D[i]:=by
 obtain ⟨ao,c,a,e,f⟩:=h;by_cases d:D=[]
 . subst d;exact .inl ⟨rfl,ao,c,a⟩
 . obtain ⟨b,off,rfl,g⟩:=f d;exact .inr ⟨b,off,c,a,e,g⟩
theorem aM.heap (h:aM w b l):w.heap[b]?=ZY (Z5 (l.map (λx=>Value.int .u8 ((x:Nat):Int))).toArray 5 (0,0)):=by
 obtain ⟨c,d,f,e⟩:=h;have:c=(l.map (λx=>Value.int .u8 ((x:Nat):Int))).toArray:=by
  apply YO
  . simp [f]
  . intro i a g;have:=e i (by omega);rw [VP a] at this;simp [vb] at this;have hi:i<l.length:=(by omega);simp [this,hi]
 rw [<- this];exact d
def aM.of_heap (h:w.heap[b]?=ZY (Z5 (l.map (λx=>Value.int .u8 ((x:Nat):Int))).toArray 5 (0,0))):aM w b l:=
 ⟨_,h,by simp,λi hi=>by simp [vb,hi]⟩
def wP {a:ZO} {Q:ZQ->ZO->ZV->Prop} (r:o.guard=ZZ) (d s:ZM)
 (ho:o.op=.call { callee:=.builtin .copy,args:=#[d,s],argTypes:=#[40,40] }) (g n cap:Nat) (v:ZU) (hd:a.eval d=Z6 (ZY ⟨g,0,ZZ⟩) n cap) (hs:a.eval s=v)
 (old src:a8) (hB:aM w g old) (hS:Bs w v src) (h9:src.length<=n) (hn:n<=old.length) (B:Nat) (w0:ZV) (hb:ZT B w0 w) (h5:B<=g)
 (h:∀ w',aM w' g (src++old.drop src.length)->ZT B w0 w'->wpList ZL ops Q rest (a.put o.dst (goInt src.length)) w'):wpList ZL ops Q (o::rest) a w:=by
 obtain ⟨ao,c,rfl,A,C,D,m⟩:=hS;refine abV r d s 40 40 ho 5 Uq (by kernel_rfl) (ZY ⟨g,0,ZZ⟩) ao n cap src.length c hd hs g 0 _ 5 hB.heap (src.map (λx=>Value.int .u8 ((x:Nat):Int))) ?_ ?_ ?_ ?_ B w0 hb h5 ?_
 . rw [Ud];show src.length=min src.length n;omega
 . intro k;rw [Ud] at k;obtain ⟨b,off,rfl,y⟩:=m (by intro e;rw [e] at k;simp at k);refine ⟨rfl,_,rfl,λj u i=>?_⟩;have f:j<src.length:=by
    have:=Vc.1 i;obtain ⟨q,_⟩:=this;simpa using q
   rw [Vp,y j f];simp [f] at i;simp [f,i]
 . simp;omega
 . intro u z;obtain ⟨x,_,rfl⟩:=Ua.1 z;rfl
 . intro w' t p;have e:(splice (old.map (λx=>Value.int .u8 ((x:Nat):Int))) 0 (src.map (λx=>Value.int .u8 ((x:Nat):Int))))=(src++old.drop src.length).map (λx=>Value.int .u8 ((x:Nat):Int)):=by
    simp [splice]
   have l:=t.out;rw [e] at l;rw [Ud];exact h w' (aM.of_heap l) p
def D7 (l:a8):l++(YG (l.length+2) 0).drop l.length=l++[0,0]:=by
 rw [X0,WQ];rfl
def Ky (l:a8):((l++[0,0]).set l.length 71).set (l.length+1) 72=l++[71,72]:=by
 rw [YP _ _ lR,YP _ _ (by omega)];simp
theorem Hu (v:ZU) (l:a8) (w:ZV) (h:Bs w v l) (hl:l.length<=1000000) :
 ZS ZL 45 #[v] w λe w'=>∃ b,e=Z4 (Z6 (ZY ⟨b,0,ZZ⟩) l.length (l.length+2))/\w.heap.size<=b/\aM w' b (l++[71,72])/\ZT w.heap.size w w':=by
 have n:=h;obtain ⟨ao,c,rfl,f,g,i,j⟩:=h;clear f g i j;go_enter func45,ntmps45;go_wp2_with (first
  | (at_make;refine cU _ rfl (Z2 8) (Z2 8) rfl _ (l.length+2) rfl rfl (by omega) (by omega) ?_;intro w1 m d o;clear o)
  | (refine wP rfl (Z2 10) (Z2 11) rfl w.heap.size (l.length+2) (l.length+2) _ rfl rfl _ l m (n.mono d) (by omega) (by simp) w.heap.size w d lR ?_;intro w2 a k;rw [D7] at a;have c1:=a.cell l.length (by simp);have p:=a.cell (l.length+1) (by simp);have q:=a.frozen l.length;have r:=a.frozen (l.length+1)))
 go_ret;refine ⟨w.heap.size,rfl,TY _,?_,?_⟩
 . have:=(a.set l.length 71).set (l.length+1) 72;rw [Ky] at this;exact this
 . exact (k.setCell (by simp) _).setCell (by simp) _
theorem Hv (b:Nat) (vb:ZU) (l:a8) (w:ZV) (g:aM w b (l++[71,72])) (o:Bs w vb l) (hl:l.length<=1000000) :
 ZS ZL 47 #[Z6 (ZY ⟨b,0,ZZ⟩) l.length (l.length+2),vb] w λe w'=>e=Z4 (Z3 ZX)/\w.grownBy w' (ZY b)/\aM w' b (xr 85 (l++[71,72])):=by
 have z:=o.lt;have i:(l++[71,72]).length=l.length+2:=by simp
 have t:Bs w (Z6 (ZY ⟨b,0,ZZ⟩) l.length (l.length+2)) l:=by
  have:=Bs.Su (n:=l.length) g (by simp) (by omega) (by intro x d;rcases Un.1 d with q|q;exact z x q;simp at q;omega);rw [i,List.take_left'] at this;exact this;rfl
 have c1:=g.cell l.length (by simp);have p:=g.cell (l.length+1) (by simp);have r:(l++[71,72]).getD l.length 0=71:=by simp
 have s:(l++[71,72]).getD (l.length+1) 0=72:=by simp
 rw [r] at c1;rw [s] at p;have u:=o;have d:∀ x∈l++[71,72],x<256:=by intro x d;rcases Un.1 d with q|q;exact z x q;simp at q;omega
 obtain ⟨ao,c,rfl,A,B,C,D⟩:=o;clear A B C D r s;generalize hL:l++[71,72]=L at *;go_enter func47,ntmps47;go_wp2_with fail;refine (Gi _ _ l _ t u).mono ?_;rintro e w1 ⟨rfl,m,rfl⟩;clear t u hL;have h:=ak i;clear i;go_wp2;clear c1 p;go_loopw [8] (λj wr=>SA2 w b 85 L j wr) (λj _=>L.length-(intOf j).toNat)
 case atStart=>exact ⟨0,T7 _,rfl,sU (Ws _ _) _,by rw [Hs];exact g⟩
 case round=>
  obtain ⟨j,H,rfl,k,a⟩:=hrel;have J:j<=l.length+2:=by rw [<- h.out];exact H
  by_cases F:j<l.length+2
  . have v:j<L.length:=(by rw [h.out];exact F);have d1:=a.cell j (by rw [Kw];exact v);have I:=a.frozen j;rw [Kx 85 j L v] at d1;have G:=dz d j;have f:=a.set j (L.getD j 0^^^85);rw [Ht] at f;have E:=eL k j (Z8 .u8 ((L.getD j 0^^^85:Nat):Int));have hi:bits .xor .u8 ((L.getD j 0:Nat):Int) 85=((L.getD j 0^^^85:Nat):Int):=lA (L.getD j 0) 85 G (by decide);generalize L.getD j 0=x at *;clear a k;go_wp2;go_roundw
    case rel=>exact ⟨j+1,by omega,by go_num,E,f⟩
    case measure=>simp [intOf];omega
  . have y:j=L.length:=(by rw [h.out];omega);have f:aM wr b (xr 85 L):=(by rw [y,Kv] at a;exact a);clear a y;go_wp2;go_ret;exact ⟨rfl,k,f⟩
def ez.Ss (h:ez w base (Z6 (ZY ⟨g,0,ZZ⟩) n cap) L) {i:Nat} (hi:i<L.length):w.cell? ⟨g,i,ZZ⟩=ZY (fY L[i]):=by
 have:=h.own.cells (g:=g) rfl i (fY L[i]) (by simp [hi]);rw [jm] at this;exact this
def ez.slice (h:ez w base v L):∃ ao cap,v=.slice ao L.length cap/\(L≠[]->∃ g,ao=ZY ⟨g,0,ZZ⟩):=by
 rcases h.shape with ⟨rfl,rfl⟩|⟨g,cap,rfl,_⟩
 . exact ⟨ZZ,0,rfl,λh=>absurd rfl h⟩
 . exact ⟨_,cap,rfl,λ_=>⟨g,rfl⟩⟩
def zB (a:ZO) (i:Nat) (v:ZU) (h:i<a.tmps.size):(a.put (ZY i) v).eval (.tmp i)=v:=by simp [Act.put,Act.eval,h]
def lC (a:ZO) (i j:Nat) (v:ZU) (h:i≠j):(a.put (ZY i) v).eval (.tmp j)=a.eval (.tmp j):=by
 simp [Act.put,Act.eval,Vq,h]
def nR (a:ZO) (d:Option Nat) (v:ZU):(a.put d v).tmps.size=a.tmps.size:=by
 cases d<;>simp [Act.put]
structure eu (lo hi:Nat) (a a':ZO):Prop where
 size:a'.tmps.size=a.tmps.size
 defers:a'.defers=a.defers
 slot:∀ s,s<lo\/hi<=s->a'.eval (.tmp s)=a.eval (.tmp s)
def eu.refl (lo hi:Nat) (a:ZO):eu lo hi a a:=⟨rfl,rfl,λ_ _=>rfl⟩
def eu.put {a a':ZO} (h:eu lo hi a a') {d:Option Nat} (v:ZU) (b:∀ i,d=ZY i->lo<=i/\i<hi):eu lo hi a (a'.put d v):=by
 cases d with
 | none=>exact h
 | some d=>
  obtain ⟨e,f⟩:=b d rfl;exact ⟨by rw [nR];exact h.size,h.defers,λs c=>by rw [lC _ _ _ _ (by omega)];exact h.slot s c⟩
def Act.RV (a:ZO):Nat->List ZU->ZO
 | _,[]=>a
 | d,v::r=>Act.RV (a.put (ZY d) v) (d+1) r
def j8:∀ (b:List ZU) (a:ZO) (d:Nat),(Act.RV a d b).tmps.size=a.tmps.size/\(Act.RV a d b).defers=a.defers
 | [],_,_=>⟨rfl,rfl⟩
 | v::r,a,d=>by
  obtain ⟨c,e⟩:=j8 r (a.put (ZY d) v) (d+1);exact ⟨c.trans (nR _ _ _),e⟩
def j9:∀ (b:List ZU) (a:ZO) (d s:Nat),d+b.length<=a.tmps.size->(Act.RV a d b).eval (.tmp s)=if d<=s/\s<d+b.length then b.getD (s-d) Z0 else a.eval (.tmp s)
 | [],a,d,s,_=>by
  show a.eval (.tmp s)=if d<=s/\s<d+0 then _ else _;rw [TW (by omega)]
 | v::r,a,d,s,h=>by
  simp only [UG] at h ⊢;show (Act.RV (a.put (ZY d) v) (d+1) r).eval (.tmp s)=_;rw [j9 r _ _ _ (by rw [nR];omega)];by_cases e:s=d
  . subst e;rw [TW (by omega),TX (by omega),WL,zB _ _ _ (by omega)];rfl
  . rw [lC _ _ _ _ (λq=>e q.symm)];by_cases c:d+1<=s/\s<d+1+r.length
    . rw [TX c,TX (by omega),show s-d=(s-(d+1))+1 by omega];rfl
    . rw [TW c,TW (by omega)]
theorem Gl {a b:ZO} (c:a.tmps.size=b.tmps.size) (d:a.defers=b.defers) (f:∀ s,s<a.tmps.size->a.eval (.tmp s)=b.eval (.tmp s)):a=b:=by
 obtain ⟨k,h⟩:=a;obtain ⟨l,j⟩:=b;simp only at c d;subst d;congr 1;refine YO c λi e g=>?_;have:=f i e;simpa [Act.eval,e,g] using this
def eu.out {a a':ZO} (h:eu lo hi a a') (b:List ZU) (hl:lo+b.length=hi) (g:hi<=a.tmps.size) (c:∀ i,i<b.length->a'.eval (.tmp (lo+i))=b.getD i Z0):a'=Act.RV a lo b:=by
 obtain ⟨d,f⟩:=j8 b a lo;refine Gl (h.size.trans d.symm) (h.defers.trans f.symm) λs _=>?_;rw [j9 b a lo s (by omega)];by_cases e:lo<=s/\s<lo+b.length
 . rw [TX e];have:=c (s-lo) (by omega);rwa [show lo+(s-lo)=s by omega] at this
 . rw [TW e];exact h.slot s (by omega)
def sV (ops:Array ZP) (i:Nat):a8:=match ops[i]? with
 | some o=>(o.after.toList.filter (λe=>Region.binds .any e)).map (λe=>e.on)
 | none=>[]
theorem px:i∈Region.ready .any ops listed↔i<ops.size/\listed.getD i ZX=ZW/\∀ k∈sV ops i,listed.getD k ZW=ZX:=by
 unfold Region.ready sV;rw [Vv,UA,YJ];constructor
 . rintro ⟨b,c,a⟩;refine ⟨b,by simpa using c,λk f=>?_⟩;rw [VP b] at a f;simp only [WR,YT] at a;rw [Ua] at f;obtain ⟨e,d,rfl⟩:=f;obtain ⟨h,j⟩:=Vv.1 d;have:=YU.1 a e (by simpa using h);simpa [j] using this
 . rintro ⟨b,c,a⟩;refine ⟨b,by simpa using c,?_⟩;rw [VP b] at a ⊢;simp only [WR,YT];rw [YU];intro e d;by_cases g:Region.binds .any e=ZX
   . have:=a e.on (Ua.2 ⟨e,Vv.2 ⟨by simpa using d,g⟩,rfl⟩);simp [this]
   . simp [g]
def kl (listed:Array Bool):Nat:=(listed.toList.filter (λb=>!b)).length
theorem D8 (h:listed.getD i ZX=ZW):kl (listed.setIfInBounds i ZX)+1=kl listed:=by
 have hi:i<listed.size:=by
  by_cases c:i<listed.size
  . exact c
  . simp [Vq,c] at h
 unfold kl;rw [Yz];have a:listed.toList[i]?=ZY ZW:=by
  simp [Vq,hi] at h;simp [hi,h]
 generalize listed.toList=l at a;clear h hi;induction l generalizing i with
 | nil=>simp at a
 | cons b l ih=>
  cases i with
  | zero=>
   simp at a;subst a;simp
  | succ i=>
   simp at a;have:=ih a;cases b<;>simp [Uf]<;>omega
def lD (h:kl listed=0) (i:Nat) (hi:i<listed.size):listed.getD i ZW=ZX:=by
 unfold kl at h;have a:=Xc.1 h;rw [abO] at a;have:=a listed[i] (by simp);simpa [Vq,hi] using this
def gdz (a:α) (l:List α) (d:α):(a::l).getD 0 d=a:=rfl
def gds (a:α) (l:List α) (n:Nat) (d:α):(a::l).getD (n+1) d=l.getD n d:=rfl
def jd (d:Option Nat) (a:ZO):ZU:=match d with
 | some d=>a.eval (.tmp d)
 | none=>Z0
structure bF (ops:Array ZP) (lo hi:Nat) (sh:List (Op×Option Nat×a8)):Prop where
 at_:(YF ops.size).map (λi=>((ops[i]?.map λo=>(o.op,o.dst,o.guard)),sV ops i))=sh.map (λx=>(ZY (x.1,x.2.1,ZZ),x.2.2))
 early:∀ i,i<sh.length->∀ k∈(sh.getD i (.move (.const Z0),ZZ,[])).2.2,k<i
 slots:∀ i j d,i<sh.length->j<sh.length->(sh.getD i (.move (.const Z0),ZZ,[])).2.1=ZY d->(lo<=d/\d<hi)/\((sh.getD j (.move (.const Z0),ZZ,[])).2.1=ZY d->i=j)
def aar (lo hi:Nat) (sh:List (Op×Option Nat×a8)):Bool:=(YF sh.length).all λi=>(sh.getD i (.move (.const Z0),ZZ,[])).2.2.all (λk=>decide (k<i))&&match (sh.getD i (.move (.const Z0),ZZ,[])).2.1 with
 | none=>ZX
 | some d=>decide (lo<=d)&&decide (d<hi)&&(YF sh.length).all λj=>(sh.getD j (.move (.const Z0),ZZ,[])).2.1 != ZY d || i==j
def eU (c:(YF ops.size).map (λi=>((ops[i]?.map λo=>(o.op,o.dst,o.guard)),sV ops i))=sh.map (λx=>(ZY (x.1,x.2.1,ZZ),x.2.2))) (a:aar lo hi sh=ZX):bF ops lo hi sh:=by
 unfold aar at a;rw [Xd] at a;refine ⟨c,λi b k h=>?_,λi j d b g f=>?_⟩
 . have:=a i (UA.2 b);rw [YJ,Xd] at this;exact Wx (this.1 k h)
 . have:=(YJ.1 (a i (UA.2 b))).2;rw [f] at this;simp only [YJ,Wt,Xd] at this;refine ⟨this.1,λe=>?_⟩;have q:=this.2 j (UA.2 g);rw [e] at q;simpa using q
def bF.size (h:bF ops lo hi sh):ops.size=sh.length:=by
 have:=UB YK h.at_;simpa using this
def bF.get (h:bF ops lo hi sh) (i:Nat) (hi:i<sh.length) :
 ∃ o,ops[i]?=ZY o/\o.op=(sh.getD i (.move (.const Z0),ZZ,[])).1/\o.dst=(sh.getD i (.move (.const Z0),ZZ,[])).2.1/\o.guard=ZZ/\sV ops i=(sh.getD i (.move (.const Z0),ZZ,[])).2.2:=by
 have j:=h.size;have:=UB (λl=>l[i]?) h.at_;have a:i<ops.size:=by omega
 simp only [UE,VU a,WR,Ue hi,US,Xe,Wi] at this;obtain ⟨⟨o,b,c,d,f⟩,g⟩:=this;have e:sh.getD i (.move (.const Z0),ZZ,[])=sh[i]:=by simp [hi]
 rw [e];exact ⟨o,b,c,d,f,g⟩
def mq (D:Nat->Bool) (i:Nat):Nat->Bool:=λj=>if j=i then ZX else D j
def gQ {D:Nat->Bool} (h:j≠i):mq D i j=D j:=TW h
abbrev dV (sh:List (Op×Option Nat×a8)) (i:Nat):Op×Option Nat×a8:=sh.getD i (.move (.const Z0),ZZ,[])
def Kz (O:ZP->ZO->ZV->(ZO->ZV->Prop)->Prop) (lo hi:Nat) (sh:List (Op×Option Nat×a8)) (a0:ZO) (V:Nat->ZU->ZV->Prop) (B:(Nat->Bool)->ZV->Prop) (i:Nat):Prop:=
 ∀ (o:ZP) (a:ZO) (w:ZV) (D:Nat->Bool),o.guard=ZZ->o.op=(dV sh i).1->o.dst=(dV sh i).2.1->eu lo hi a0 a->(∀ s,(∀ i,i<sh.length->(dV sh i).2.1≠ZY s)->a.eval (.tmp s)=a0.eval (.tmp s))->D i=ZW->(∀ j,D j=ZX->j<sh.length/\∀ k∈(dV sh j).2.2,D k=ZX) ->
  (∀ k∈(dV sh i).2.2,D k=ZX)->B D w->(∀ j,D j=ZX->V j (jd (dV sh j).2.1 a) w) ->
  O o a w λa' w'=>∃ v,a'=a.put o.dst v/\(o.dst=ZZ->v=Z0)/\B (mq D i) w'/\V i v w'/\∀ j u,D j=ZX->V j u w->V j u w'
theorem Hw {Q:ZO->ZV->Prop} (O:ZP->ZO->ZV->(ZO->ZV->Prop)->Prop) (W:Nat->Array Bool->ZO->ZV->Prop) (Y:∀ l a w,Region.ready .any ops l=[]->Q a w->W 0 l a w)
 (hS:∀ f l a w,Region.ready .any ops l≠[]->(∀ i∈Region.ready .any ops l,∃ o,ops[i]?=ZY o/\o.guard=ZZ/\O o a w (W f (l.setIfInBounds i ZX)))->W (f+1) l a w) (hO:∀ o a w (K L:ZO->ZV->Prop),(∀ a w,K a w->L a w)->O o a w K->O o a w L)
 (x:bF ops lo hi sh) (p:ZO) (hz:hi<=p.tmps.size) (V:Nat->ZU->ZV->Prop) (B:(Nat->Bool)->ZV->Prop) (hf:∀ i,i<sh.length->Kz O lo hi sh p V B i)
 (hn:∀ (a:ZO) (w:ZV),eu lo hi p a->(∀ s,(∀ i,i<sh.length->(dV sh i).2.1≠ZY s)->a.eval (.tmp s)=p.eval (.tmp s))->(∃ D,(∀ i,i<sh.length->D i=ZX)/\B D w)->(∀ i,i<sh.length->V i (jd (dV sh i).2.1 a) w)->Q a w) :
 ∀ (f:Nat) (listed:Array Bool) (a:ZO) (w:ZV),listed.size=sh.length->kl listed=f->eu lo hi p a->(∀ s,(∀ i,i<sh.length->(dV sh i).2.1≠ZY s)->a.eval (.tmp s)=p.eval (.tmp s))->(∀ j,listed.getD j ZW=ZX->j<sh.length/\∀ k∈(dV sh j).2.2,listed.getD k ZW=ZX)->B (λj=>listed.getD j ZW) w ->
  (∀ i,listed.getD i ZW=ZX->V i (jd (dV sh i).2.1 a) w)->W f listed a w:=by
 have k6:=x.size;have h7:∀ listed:Array Bool,listed.size=sh.length->kl listed≠0->Region.ready .any ops listed≠[]:=by
  intro listed hl y hr;have hh:∀ i,i<sh.length->listed.getD i ZW=ZX:=by
   intro i;induction i using Nat.strongRecOn with
   | ind i ih=>
    intro c;by_cases g:listed.getD i ZW=ZX
    . exact g
    . exfalso;have z:i∈Region.ready .any ops listed:=px.2 ⟨by omega,by simpa [Vq,show i<listed.size by omega] using g,λk n=>by
       obtain ⟨o,_,_,_,_,e⟩:=x.get i c;rw [e] at n;have:=x.early i c k n;exact ih k this (by omega)⟩
      rw [hr] at z;cases z
  apply y;unfold kl;rw [Xc,abO];intro b hb;obtain ⟨i,c,rfl⟩:=UZ hb;have k0:i<listed.size:=by simpa using c
  have:=hh i (by omega);simp [Vq,k0] at this;simp [this]
 intro f;induction f with
 | zero=>
  intro listed a w hl y n F H J G;refine Y _ _ _ ?_ (hn a w n F ⟨_,λi c=>lD y i (by omega),J⟩ λi c=>G i (lD y i (by omega)));rw [aco];intro i z;obtain ⟨Z,r,_⟩:=px.1 z;have:=lD y i (by omega);simp [Vq,show i<listed.size by omega] at this r;rw [this] at r;cases r
 | succ f ih=>
  intro listed a w hl y n F H J G;refine hS _ _ _ _ (h7 listed hl (by omega)) λi z=>?_;obtain ⟨Z,r,P⟩:=px.1 z;have c:i<sh.length:=by omega
  have S:i<listed.size:=by omega
  obtain ⟨o,U,X,A,M,N⟩:=x.get i c;have hv:listed.getD i ZW=ZW:=by simpa [Vq,S] using r
  have E:∀ j,(listed.setIfInBounds i ZX).getD j ZW=mq (λj=>listed.getD j ZW) i j:=by
   intro j;unfold mq;by_cases m:j=i
   . subst m;rw [TX rfl];simp [Vq,S]
   . rw [TW m,Vq,Yt,TW (λq:i=j=>m q.symm),<- Vq]
  refine ⟨o,U,M,hO _ _ _ _ _ (λa' w' h=>?_) (hf i c o a w (λj=>listed.getD j ZW) M X A n F hv H (λk t=>?_) J G)⟩
  . obtain ⟨v,rfl,hu,hq,hx,k5⟩:=h;have R:∀ d,o.dst=ZY d->lo<=d/\d<hi:=λd g=>by rw [A] at g;exact (x.slots i i d c c g).1
    refine ih _ _ _ (by simpa using hl) (by have:=D8 r;omega) (n.put v R) (λs T=>?_) (λj I=>?_) ?_ λj u=>?_
    . refine X1 ?_ (F s T);cases g:o.dst with
      | none=>rfl
      | some d=>exact lC _ _ _ _ (λe=>T i c (by rw [show (dV sh i).2.1=o.dst from A.symm,g,e]))
    . rw [E] at I;unfold mq at I;by_cases m:j=i
      . subst m;refine ⟨c,λk t=>?_⟩;rw [E];unfold mq;by_cases C:k=j
        . rw [TX C]
        . rw [TW C];rw [<- N] at t;exact P k t
      . rw [TW m] at I;obtain ⟨q1,q2⟩:=H j I;refine ⟨q1,λk t=>?_⟩;rw [E];unfold mq;by_cases C:k=i
        . rw [TX C]
        . rw [TW C];exact q2 k t
    . have e:(λj=>(listed.setIfInBounds i ZX).getD j ZW)=mq (λj=>listed.getD j ZW) i:=funext E;rw [e];exact hq
    . rw [E] at u;unfold mq at u;by_cases m:j=i
      . subst m;have:jd (dV sh j).2.1 (a.put o.dst v)=v:=by
         show jd (sh.getD j (.move (.const Z0),ZZ,[])).2.1 (a.put o.dst v)=v;rw [<- A];cases g:o.dst with
         | none=>exact (hu g).symm
         | some d=>exact zB _ _ _ (T9 (R d g).2 (by rw [n.size];exact hz))
        rw [this];exact hx
      . rw [TW m] at u;have:jd (dV sh j).2.1 (a.put o.dst v)=jd (dV sh j).2.1 a:=by
         cases hy:(dV sh j).2.1 with
         | none=>rfl
         | some d'=>
          cases g:o.dst with
          | none=>rfl
          | some d=>
           refine lC _ _ _ _ λq=>m ?_;subst q;rw [A] at g;exact (x.slots j i d (H j u).1 c hy).2 g
        rw [this];exact k5 j _ u (G j u)
  . exact P k (by rw [N];exact t)
theorem wQ {Q:ZO->ZV->Prop} (O:ZP->ZO->ZV->(ZO->ZV->Prop)->Prop) (W:Nat->Array Bool->ZO->ZV->Prop) (m:∀ l a w,Region.ready .any ops l=[]->Q a w->W 0 l a w)
 (v:∀ f l a w,Region.ready .any ops l≠[]->(∀ i∈Region.ready .any ops l,∃ o,ops[i]?=ZY o/\o.guard=ZZ/\O o a w (W f (l.setIfInBounds i ZX)))->W (f+1) l a w) (u:∀ o a w (K d:ZO->ZV->Prop),(∀ a w,K a w->d a w)->O o a w K->O o a w d)
 (g:bF ops lo hi sh) (b:ZO) (w0:ZV) (q:hi<=b.tmps.size) (V:Nat->ZU->ZV->Prop) (B:(Nat->Bool)->ZV->Prop) (t:B (λ_=>ZW) w0) (n:∀ i,i<sh.length->Kz O lo hi sh b V B i)
 (p:∀ (a:ZO) (w:ZV),eu lo hi b a->(∀ s,(∀ i,i<sh.length->(dV sh i).2.1≠ZY s)->a.eval (.tmp s)=b.eval (.tmp s))->(∃ D,(∀ i,i<sh.length->D i=ZX)/\B D w)->(∀ i,i<sh.length->V i (jd (dV sh i).2.1 a) w)->Q a w):W ops.size (YI ops.size ZW) b w0:=by
 have r:=g.size;have c:∀ i,(YI ops.size ZW).getD i ZW=ZW:=λi=>by
  simp only [Vq,YV];split<;>rfl
 refine Hw O W m v u g b q V B n p _ _ b w0 (by simp [r]) ?_ (eu.refl _ _ _) (λ_ _=>rfl) (λj k=>?_) ?_ λi h=>?_
 . unfold kl;simp
 . rw [c] at k;cases k
 . have e:(λj=>(YI ops.size ZW).getD j ZW)=λ_=>ZW:=funext c;rw [e];exact t
 . rw [c] at h;cases h
def N0 (P:Program) (Q:ZQ->ZO->ZV->Prop):=Kz λo a w K=>o.wp P a w K Q
def sW {Q:ZQ->ZO->ZV->Prop} (u:P.follows .mixedOrders=ZX) (r:bF ops lo hi sh) (b:ZO) (w0:ZV) (p:hi<=b.tmps.size)
 (V:Nat->ZU->ZV->Prop) (B:(Nat->Bool)->ZV->Prop) (t:B (λ_=>ZW) w0.drew) (g:∀ i,i<sh.length->N0 P Q lo hi sh b V B i)
 (n:∀ (a:ZO) (w:ZV),eu lo hi b a->(∀ s,(∀ i,i<sh.length->(dV sh i).2.1≠ZY s)->a.eval (.tmp s)=b.eval (.tmp s))->(∃ D,(∀ i,i<sh.length->D i=ZX)/\B D w)->(∀ i,i<sh.length->V i (jd (dV sh i).2.1 a) w)->Q .normal a w):(Code.region m ops ZX).wp P Q b w0:=
 wp_region_any u (wQ (λo a w K=>o.wp P a w K Q) (wpAny P .any ops Q) (λ_ _ _ h q=>⟨h,q⟩) (λf l a w j k=>⟨λe=>absurd e j,λi hi=>by
  obtain ⟨o,c,d,h⟩:=k i hi;unfold wpOp;rw [c];show if Region.wanted o (yielded ops a.tmps)=ZX then _ else _;rw [TX (by simp [Region.wanted,d])];exact .inl h⟩) (λo a w K v h=>Oper.wp_mono h) r b _ p V B t g n)
def KA (P:Program) (Q:ZQ->ZO->ZV->Prop) (lo hi:Nat) (sh:List (Op×Option Nat×a8)) (a0:ZO) (V:Nat->ZU->ZV->Prop) (B:(Nat->Bool)->ZV->Prop) (i:Nat):Prop:=
 ∀ (o:ZP) (a:ZO) (w:ZV) (D:Nat->Bool),o.guard=ZZ->o.op=(dV sh i).1->o.dst=(dV sh i).2.1->eu lo hi a0 a->D i=ZW->(∀ j,D j=ZX->j<sh.length/\∀ k∈(dV sh j).2.2,D k=ZX) ->
  (∀ k∈(dV sh i).2.2,D k=ZX)->B D w->(∀ j,D j=ZX->V j (jd (dV sh j).2.1 a) w) ->
  o.wp P a w (λa' w'=>∃ v,a'=a.put o.dst v/\(o.dst=ZZ->v=Z0)/\B (mq D i) w'/\V i v w'/\∀ j u,D j=ZX->V j u w->V j u w') Q
def gA {Q:ZQ->ZO->ZV->Prop} (n:P.follows .mixedOrders=ZX) (k:bF ops lo hi sh) (b:ZO) (w0:ZV) (j:hi<=b.tmps.size)
 (V:Nat->ZU->ZV->Prop) (B:(Nat->Bool)->ZV->Prop) (l:B (λ_=>ZW) w0.drew) (c:∀ i,i<sh.length->KA P Q lo hi sh b V B i)
 (h:∀ (a:ZO) (w:ZV),eu lo hi b a->(∀ s,(∀ i,i<sh.length->(dV sh i).2.1≠ZY s)->a.eval (.tmp s)=b.eval (.tmp s))->(∃ D,(∀ i,i<sh.length->D i=ZX)/\B D w)->(∀ i,i<sh.length->V i (jd (dV sh i).2.1 a) w)->Q .normal a w):(Code.region m ops ZX).wp P Q b w0:=
 sW n k b w0 j V B l (λi hi o a w D d e f g _=>c i hi o a w D d e f g) h
def il {Q:ZQ->ZO->ZV->Prop} (l:P.follows .mixedOrders=ZX) (j:bF ops lo hi sh) (b:ZO) (w0:ZV) (h:hi<=b.tmps.size)
 (V:Nat->ZU->ZV->Prop) (B:(Nat->Bool)->ZV->Prop) (k:B (λ_=>ZW) w0.drew) (c:∀ i,i<sh.length->KA P Q lo hi sh b V B i)
 (g:∀ (a:ZO) (w:ZV),eu lo hi b a->(∃ D,(∀ i,i<sh.length->D i=ZX)/\B D w)->(∀ i,i<sh.length->V i (jd (dV sh i).2.1 a) w)->Q .normal a w):(Code.region m ops ZX).wp P Q b w0:=
 gA l j b w0 h V B k c λa w d _ e f=>g a w d e f
def aK {Q:ZQ->ZO->ZV->Prop} {a:ZO} {B:ZV->Prop} {S:ZV->Prop} (e:(execOp a.eval o).run P w=.ok (.value v) w') {d:Nat} (c:o.dst=ZY d) (h:B w'/\Vi v w'/\S w') :
 o.wp P a w (λb w'=>∃ v,b=a.put o.dst v/\(o.dst=ZZ->v=Z0)/\B w'/\Vi v w'/\S w') Q:=by
 unfold Oper.wp;rw [e];exact ⟨v,rfl,λh=>(by rw [c] at h;cases h),h⟩
def Gm {Q:ZQ->ZO->ZV->Prop} {a:ZO} {B:ZV->Prop} {S:ZV->Prop} (c:(execOp a.eval o).run P w=.ok .skip w') (h:B w'/\Vi Z0 w'/\S w') :
 o.wp P a w (λb w'=>∃ v,b=a.put o.dst v/\(o.dst=ZZ->v=Z0)/\B w'/\Vi v w'/\S w') Q:=by
 unfold Oper.wp;rw [c];exact ⟨Z0,rfl,λ_=>rfl,h⟩
def rT {Q:ZQ->ZO->ZV->Prop} {a:ZO} {Rr:ZR->ZV->Prop} {B:ZV->Prop} {S:ZV->Prop} (k:(execOp a.eval o).run P w=.ok (.enter f args) w1) {d:Nat} (i:o.dst=ZY d) (g:ZS P f args w1 Rr)
 (h:∀ e w',Rr e w'->∃ v,e=Z4 v/\B w'/\Vi v w'/\S w'):o.wp P a w (λb w'=>∃ v,b=a.put o.dst v/\(o.dst=ZZ->v=Z0)/\B w'/\Vi v w'/\S w') Q:=by
 unfold Oper.wp;rw [k];refine g.mono λe w' j=>?_;obtain ⟨v,rfl,c⟩:=h e w' j;exact ⟨v,rfl,λh=>(by rw [i] at h;cases h),c⟩
def bT {a:ZO} {x:ZM} (ho:o.op=.move x) (b:a.eval x=v) (w:ZV):(execOp a.eval o).run P w=.ok (.value v) w:=by simp [execOp,ho,b]
theorem kt {a:ZO} {x:ZM} {ad:Addr} (ho:o.op=.nilCheck x) (b:a.eval x=Z7 (ZY ad)) (w:ZV):(execOp a.eval o).run P w=.ok (.value (Z7 (ZY ad))) w:=by simp only [execOp,ho,b];go_simp
def kq {D:Nat->Bool} {V:Nat->ZU->Prop}:∀ j u,D j=ZX->V j u->V j u:=λ_ _ _ q=>q
def lE (a:Array ZN) (b:ZN) (x y:Int) (w:ZV):(Builtin.max_ a b #[Z8 Z9 x,Z8 Z9 y]).run P w=.ok (Z8 Z9 (if y>x then y else x)) w:=by
 simp [Builtin.max_,Builtin.max2]
def gJ (a:Array ZN) (b:ZN) (x y:Int) (w:ZV):(Builtin.min_ a b #[Z8 Z9 x,Z8 Z9 y]).run P w=.ok (Z8 Z9 (if y<x then y else x)) w:=by
 simp [Builtin.min_,Builtin.min2]
def sX {a:ZO} {s t:ZM} {ats:Array ZN} (ho:o.op=.call { callee:=.builtin .max,args:=#[s,t],argTypes:=ats }) {x y:Int} (hx:a.eval s=Z8 Z9 x) (hy:a.eval t=Z8 Z9 y) (w:ZV) :
 (execOp a.eval o).run P w=.ok (.value (Z8 Z9 (if y>x then y else x))) w:=by
 unfold execOp;simp only [ho,resolve,invoke,builtin,Ux,Vf,UK,V7,UI,Vh,hx,hy,lE]
def DO:Code->Nat->Option (Array ZP)
 | .region i ops _,n=>if i=n then ZY ops else ZZ
 | .seq a b,n=>(DO a n).orElse λ_=>DO b n
 | .cond _ a b,n=>(DO a n).orElse λ_=>DO b n
 | .block _ a,n=>DO a n
 | .loop a,n=>DO a n
 | .scope a,n=>DO a n
 | .rangeFunc _ _ a b,n=>(DO a n).orElse λ_=>DO b n
 | _,_=>ZZ
structure bj (B:Nat) (w w':ZV):Prop where
 os:w'.os=w.os
 tape:w'.tape=w.tape
 output:w'.output=w.output
 size:w.heap.size<=w'.heap.size
 block:∀ k,B<=k->k<w.heap.size->w'.heap[k]?=w.heap[k]?
def bj.refl (B:Nat) (w:ZV):bj B w w:=⟨rfl,rfl,rfl,TY _,λ_ _ _=>rfl⟩
def bj.trans {b c:ZV} (h:bj B a b) (k:bj B b c):bj B a c:=
 ⟨k.os.trans h.os,k.tape.trans h.tape,k.output.trans h.output,TZ h.size k.size,λi d e=>(k.block i d (by have:=h.size;omega)).trans (h.block i d e)⟩
def bj.mono {B':Nat} (h:bj B w w') (c:B<=B'):bj B' w w':=⟨h.os,h.tape,h.output,h.size,λk b a=>h.block k (by omega) a⟩
def bj.RU (h:ZT w.heap.size w w'):bj B w w':=⟨h.os,h.tape,h.output,h.size,λk _ a=>h.block k a⟩
def bj.setCell (h:bj B a w) {p:Addr} (d:p.block<B\/a.heap.size<=p.block) (u:ZU):bj B a (w.setCell p u):=
 ⟨h.os,h.tape,h.output,by have:=h.size;simpa [World.setCell] using this,λk b c=>(Wj _ _ _ _ (by omega)).trans (h.block k b c)⟩
def bj.putObj (h:bj B a w) {l:Nat} (d:l<B\/a.heap.size<=l) (o:Obj):bj B a (w.putObj l o):=
 ⟨h.os,h.tape,h.output,by have:=h.size;have:=(Xf w l o).size;omega,λk b c=>(U6 (by omega)).trans (h.block k b c)⟩
def Below.RY (h:ZT B a w) {l:Nat} (b:B<=l) (hl:l<w.heap.size) (o:Obj):ZT B a (w.putObj l o):=
 h.grown (Xf w l o) (by omega) (λk e=>by cases e;exact b)
def bj.keeps {C:Nat} (h:bj B w w') (c:B<=C):KeepsFrom C w w':=
 ⟨h.size,λk o b a _=>(h.block k (by omega) (T5.1 a).1).trans a⟩
def dk (h:ZS P f args w R) (k:∀ e w',R e w'->R' e w') :
 Fence.wide.fn f/\(Fence.wide.depth.isSome=ZX->1<=n)/\CallsIn Fence.wide m P f args w R':=
 ⟨trivial,λh=>(by cases h),Vj.2 (h.mono k)⟩
def dH {l:Nat} (h:ZS P f args w R) (k:∀ e w',R e w'->R' e w') :
 (Fence.wide.inRound l).fn f/\((Fence.wide.inRound l).depth.isSome=ZX->1<=n)/\CallsIn (Fence.wide.inRound l) m P f args w R':=
 ⟨trivial,λh=>(by cases h),abW l (Vj.2 (h.mono k))⟩
def Qk (Q:ZQ->ZO->ZV->Prop):ZQ->ZO->ZV->Prop
 | .goto _,_,_=>False
 | .exit _,_,_=>False
 | e,a,w=>Q e a w
def iq {b:Frame} {a:ZO} {k:List Item} {cs:List Frame} {c:Code}:step P (lone (b.atR a (.code (.scope c)::k)) cs w)=.next (lone (b.atR a (.code c::.inScope c::k)) cs w):=
 step_lone_go (by simp [stepG,stepG.exec,Frame.atR])
def sY {b:Frame} {a:ZO} {k:List Item} {cs:List Frame} {c:Code}:step P (lone (b.atR a (.inScope c::k)) cs w)=.next (lone (b.atR a k) cs w):=
 step_lone_go (by simp [stepG,stepG.exec,Frame.atR])
def KB {F:Fence} {c:Code} {Q:ZQ->ZO->ZV->Prop} {a:ZO} (h:c.wpIn F n P (Qk Q) a w):(Code.scope c).wpIn F n P Q a w:=by
 intro b k cs p m o;have g:(lone (b.atR a (.code (.scope c)::k)) cs w).fenced P F:=fenced_calm m o rfl;obtain ⟨e,f,j,d,i⟩:=h b (.inScope c::k) cs p m o;cases e with
 | normal=>exact ⟨.normal,f,j,d,.head g iq (StepsIn.trans i (.one (fenced_calm m o rfl) sY))⟩
 | exit id=>exact d.elim
 | goto l=>exact d.elim
 | ret=>exact ⟨_,f,j,d,.of_steps (.one g iq) i⟩
 | panic q=>exact ⟨_,f,j,d,.of_steps (.one g iq) i⟩
 | outgrown=>exact ⟨_,f,j,d,.of_steps (.one g iq) i⟩
def Ql {σ:Type} (B:Nat) (I:σ->ZV->Prop) (s:σ) (W:ZV):ZQ->ZO->ZV->Prop
 | .normal,_,W'=>I s W'/\bj B W W'
 | _,_,_=>False
def Hx (k:Nat):Fence.wide.room k:=λd h=>by cases h
def wR {m':Nat} {l:Nat} {tmps:Array ZU} {assign body:Code} (h:RoundIn Fence.wide m P l f tmps assign body w R):RoundIn Fence.wide m' P l f tmps assign body w R:=⟨h.1,λc cs _=>h.2 c cs (Hx _)⟩
theorem KC (m:Nat) {α σ:Type} {g:ZM} {ps:Array Tmp} {assign body:Code} {Q:ZQ->ZO->ZV->Prop} {a:ZO} {w:ZV}
 {gf:Nat} {lb:Array ZU} (hg:a.eval g=.func (.func gf) #[] lb) (eg:∀ args w,(callFunc gf args).run P w=.ok (.enter gf args) w)
 {encs:α->Array ZU} (k9:∀ x,(encs x).size=ps.size) (step:σ->α->σ) (F:α->Prop)
 (I:σ->ZV->Prop) (j:∀ s A B,I s A->ZT w.heap.size A B->I s B) (S:σ->Prop) (s0:σ)
 (h6:∀ (l:Nat) (J:σ->ZV->Prop) (W:ZV),ZT w.heap.size w W->W.heap.size=w.heap.size+2 ->
  (∀ s A B,J s A->ZT (w.heap.size+2) A B->J s B)->(∀ s A,J s A->I s A/\w.heap.size+2<=A.heap.size) ->
  (∀ m s x b,J s b->F x->YieldAt Fence.wide m P l (encs x) b λe d=>e=Z4 (Z3 ZX)/\J (step s x) d/\bj (w.heap.size+2) b d)->J s0 W ->
  CallsIn Fence.wide (n-1) P gf (#[.func (.yield l) #[] #[]]++lb) W λe d=>(∃ v,e=Z4 v)/\∃ s,S s/\J s d)
 (h0:I s0 w) (C:Nat->α->ZO->ZV->Prop) (hs:∀ B x c A N,C B x c A->bj B A N->C B x c N)
 (h1:∀ (l:Nat) (s:σ) (x:α) (W:ZV) (K:ZO->ZV->Prop),I s W->F x->(∀ c d,ZT W.heap.size W d->C W.heap.size x c d->K c d) ->
  assign.wpIn (Fence.wide.inRound l) m P (Exit.then K (λ_ _ _=>False)) { tmps:=(ps.zip (encs x)).foldl (λt (p,v)=>t.setIfInBounds p v) a.tmps,defers:=[] } W)
 (h5:∀ (l B:Nat) (s:σ) (x:α) (c:ZO) (W:ZV),w.heap.size<=l->l<B->B<=W.heap.size->(∃ r,W.heap[l]?=ZY (.loop r))->I s W->F x->C B x c W->body.wpIn (Fence.wide.inRound l) m P (Ql w.heap.size I (step s x) W) c W)
 (h7:∀ (D:Nat) (s:σ) (W:ZV),w.heap.size<=D->S s->I s W->W.heap[D]?=ZY (.deferred (ZY []))->Q .normal { a with defers:={ target:=.collected D,args:=#[] }::a.defers } W) :
 (Code.rangeFunc g ps assign body).wpIn Fence.wide n P Q a w:=by
 refine wpIn_rangeFunc λfn k7=>?_;obtain ⟨rc,f⟩:∃ rc:LoopState->Loop,rc=λst=>{ state:=st,pending:=ZZ,fn,tmps:=a.tmps,params:=ps,assign,body,defers:=w.heap.size }:=⟨_,rfl⟩;obtain ⟨b,u⟩:=nM ((w.alloc (.deferred (ZY []))).alloc (.loop (rc .ready)));have U:ZT w.heap.size w b:=by rw [<- u];exact (bA w _).alloc (by simp) _
 have ka:b.heap.size=w.heap.size+2:=by rw [<- u];simp
 have hx:b.heap[w.heap.size+1]?=ZY (.loop (rc .ready)):=by
  rw [<- u];have:=X2 (w.alloc (.deferred (ZY []))) (.loop (rc .ready));rwa [Uw] at this
 have hv:b.heap[w.heap.size]?=ZY (.deferred (ZY [])):=by
  rw [<- u];exact (We _ _ _ (by simp)).trans (X2 w _)
 refine ⟨w.heap.size+1,[{ target:=.collected w.heap.size,args:=#[] }],b,{ target:=.fn (.func gf) lb,args:=#[.func (.yield (w.heap.size+1)) #[] #[]] },b,gf,
  #[.func (.yield (w.heap.size+1)) #[] #[]]++lb,b,?_,?_,λ_ _=>trivial,?_,λh=>(by cases h),?_⟩
 . rw [<- u,f];exact run_enterLoop_outer _ _ _ _ _
 . simp only [resolve,hg];simp [go_sem]
 . simp [invoke,go_sem,eg]
 refine (h6 (w.heap.size+1) (λs W=>I s W/\W.heap[w.heap.size+1]?=ZY (.loop (rc .ready))/\W.heap[w.heap.size]?=ZY (.deferred (ZY []))) b U ka ?_ ?_ ?_ ⟨j _ _ _ h0 U,hx,hv⟩).mono ?_
 . rintro s A B ⟨hi,hl,z⟩ G;exact ⟨j _ _ _ hi (G.mono (by omega)),(G.block _ (by omega)).trans hl,(G.block _ (by omega)).trans z⟩
 . rintro s A ⟨hi,hl,_⟩;exact ⟨hi,(T5.1 hl).1⟩
 ·
  rintro m' s x W ⟨hi,hl,z⟩ Z;have y:w.heap.size+1<W.heap.size:=(T5.1 hl).1;have M:=run_yield (P:=P) (args:=encs x) hl (by rw [f];exact k9 x);rw [f] at M;refine ⟨fn,_,assign,body,M,wR (roundIn_of_wpIn (n:=m) k7 (h1 _ s x W _ hi Z ?_))⟩;clear M;intro c o E hz;have Y:=(E.block _ y).trans hl;have k6:=(E.block _ (by omega)).trans z;have R:w.heap.size+1<o.heap.size:=(T5.1 Y).1;refine ⟨_,run_beginRound Y (by rw [f]),?_⟩;obtain ⟨q,i⟩:=nM (o.putObj (w.heap.size+1) (.loop { rc .ready with state:=.busy }));have k0:ZT w.heap.size o q:=by rw [<- i];exact Below.RY (T6 _ _) (by omega) R _
  have T:bj (w.heap.size+2) W q:=by
   rw [<- i];exact ((bj.RU E).trans ((bj.refl _ o).putObj (.inl (by omega)) _))
  have L:q.heap[w.heap.size+1]?=ZY (.loop { rc .ready with state:=.busy }):=by rw [<- i];exact World.putObj_heap_same R
  have V:q.heap[w.heap.size]?=ZY (.deferred (ZY [])):=by rw [<- i];exact (U6 (by omega)).trans k6
  rw [i];refine wpIn_mono (h5 _ W.heap.size s x c q (by omega) y T.size ⟨_,L⟩ (j _ _ _ (j _ _ _ hi (E.mono (by omega))) k0) Z (hs _ _ _ _ _ hz (by rw [<- i];exact (bj.refl _ o).putObj (.inl y) _))) ?_;rintro e a3 W3 k;cases e with
  | normal=>
   obtain ⟨k8,H⟩:=k;have X:=(H.block _ (by omega) (T5.1 L).1).trans L;have k5:=(H.block _ lR (T5.1 V).1).trans V;have O:=(T5.1 X).1;have hr:=run_endRound (P:=P) ZZ X;refine ⟨_,_,hr,rfl,⟨j _ _ _ k8 (Below.RY (T6 _ _) (by omega) O _),?_,(U6 (by omega)).trans k5⟩,?_⟩
   . rw [World.putObj_heap_same O,f];rfl
   . exact (T.trans (H.mono (by omega))).putObj (.inl (by omega)) _
  | ret=>exact k.elim
  | exit id=>exact k.elim
  | goto t=>exact k.elim
  | panic ch=>exact k.elim
  | outgrown=>exact k.elim
 ·
  rintro e W2 ⟨⟨v,rfl⟩,s,hS,hi,hl,z⟩;have y:=(T5.1 hl).1;refine ⟨ZZ,_,by have:=run_endLoop (P:=P) hl (by rw [f];simp);rw [f] at this;exact this,?_⟩;exact h7 _ s _ lR hS (j _ _ _ hi (Below.RY (T6 _ _) (by omega) y _)) ((U6 (by omega)).trans z)
section
def sZ (ops:Array ZP) (i:Nat):a8:=match ops[i]? with
 | some o=>(o.after.toList.filter (λe=>Region.binds .any e)).map (λe=>e.on)
 | none=>[]
def KD (ops:Array ZP):Nat->Nat->Nat->Bool
 | 0,_,_=>ZW
 | f+1,j,k=>(sZ ops j).any λm=>m==k || KD ops f m k
def D9 (ops:Array ZP) (z:Nat):Bool:=(YF ops.size).all λk=>k==z || KD ops ops.size z k
def wS (ops:Array ZP) (x:Array Bool):Prop:=∀ j,x.getD j ZW=ZX->∀ k∈sZ ops j,x.getD k ZW=ZX
def Bk {x:Array Bool} (h:wS ops x):∀ (f j k:Nat),KD ops f j k=ZX->(∀ m∈sZ ops j,x.getD m ZW=ZX)->x.getD k ZW=ZX
 | 0,_,_,h0,_=>by cases h0
 | f+1,j,k,h0,hj=>by
  obtain ⟨m,a,q⟩:=List.any_eq_true.1 h0;rcases YW.1 q with q|q
  . rw [<- eq_of_beq q];exact hj m a
  . exact Bk h f m k q (h m (hj m a))
def zC {x:Array Bool} (h:i∈Region.ready .any ops x):i<ops.size/\∀ m∈sZ ops i,x.getD m ZW=ZX:=by
 obtain ⟨_,o,ho,b⟩:=mem_ready.1 h;refine ⟨(T5.1 ho).1,λm a=>?_⟩;unfold sZ at a;rw [ho] at a;obtain ⟨e,c,rfl⟩:=Ua.1 a;obtain ⟨d,f⟩:=Vv.1 c;exact b e (YX.1 d) f
def wS.set {x:Array Bool} (h:wS ops x) (hi:i∈Region.ready .any ops x):wS ops (x.setIfInBounds i ZX):=λj a k b=>by
 have key:∀ k,x.getD k ZW=ZX->(x.setIfInBounds i ZX).getD k ZW=ZX:=λk q=>by
  by_cases e:i=k
  . subst e;have:i<x.size:=by
     by_cases c:i<x.size
     . exact c
     . simp [Vq,c] at q
    simp [Vq,this]
  . rw [getD_set_ne ZW e];exact q
 by_cases e:i=j
 . subst e;exact key k ((zC hi).2 k b)
 . rw [getD_set_ne ZW e] at a;exact key k (h j a k b)
def Xp (P:Program) (ops:Array ZP) (Q:ZO->ZV->Prop) (i:Nat) (a:ZO) (w:ZV) (K:ZO->ZV->Prop):Prop:=wpOp P ops (λe a w=>e=.normal/\Q a w) i K a w
def Xi (Fc:Fence) (n:Nat) (P:Program) (ops:Array ZP) (Q:ZO->ZV->Prop) (i:Nat) (a:ZO) (w:ZV) (K:ZO->ZV->Prop):Prop:=wpOpIn Fc n P ops (λe a w=>e=.normal/\Q a w) i K a w
section
variable {P:Program} {ops:Array ZP} {S:ZV->Prop} {Q:ZO->ZV->Prop} {X:Nat->ZO->ZV->(ZO->ZV->Prop)->Prop} {z:Nat}
structure KE (P:Program) (ops:Array ZP) (X:Nat->ZO->ZV->(ZO->ZV->Prop)->Prop):Prop where
 mono:∀ {i:Nat} {a:ZO} {w:ZV} {K K':ZO->ZV->Prop},(∀ a w,K a w->K' a w)->X i a w K->X i a w K'
 yes:∀ {S:ZV->Prop} {i:Nat} {o:ZP} {v:ZU} {a:ZO} {w:ZV} {K:ZO->ZV->Prop},ops[i]?=ZY o->YieldsIf P ops S o v a->S w->K (a.put o.dst v) w->X i a w K
 put:∀ {S:ZV->Prop} {i j:Nat} {oi oj:ZP} {v:ZU} {a:ZO} {w:ZV} {K:ZO->ZV->Prop},ops[i]?=ZY oi->ops[j]?=ZY oj->oi.apart ops oj=ZX->YieldsIf P ops S oi v a->X j (a.put oi.dst v) w K->X j a w λa' w'=>YieldsIf P ops S oi v a'/\K (a'.put oi.dst v) w'
def Ea (ops:Array ZP) (S:ZV->Prop) (Q:ZO->ZV->Prop) (X:Nat->ZO->ZV->(ZO->ZV->Prop)->Prop) (z:Nat):Nat->Array Bool->ZO->ZV->Prop
 | 0,x,a,w=>Region.ready .any ops x=[]/\Q a w
 | f+1,x,a,w=>(Region.ready .any ops x=[]->Q a w)/\∀ i∈Region.ready .any ops x,X i a w λa' w'=>(i≠z->S w')/\Ea ops S Q X z f (x.setIfInBounds i ZX) a' w'
def Eb (n:KE P ops X) (V:z<ops.size->D9 ops z=ZX) {i:Nat} {oi:ZP} {v:ZU} (hi:ops[i]?=ZY oi) (M:i≠z):∀ (f:Nat) (x:Array Bool) (a:ZO) (w:ZV),wS ops x ->
 (∀ j g,ops[j]?=ZY g->j≠i->x.getD j ZX=ZW->(∀ e∈g.after,Region.binds .any e=ZX->e.on≠i)->oi.apart ops g=ZX)->i∈Region.ready .any ops x->YieldsIf P ops S oi v a->S w->Ea ops S Q X z f (x.setIfInBounds i ZX) (a.put oi.dst v) w->Ea ops S Q X z (f+1) x a w:=by
 intro f;induction f with
 | zero=>
  intro x a w _ _ c o l H;refine ⟨λh=>(by rw [h] at c;cases c),λj d=>?_⟩;by_cases b:j=i
  . subst b;exact n.yes hi o l ⟨λ_=>l,H⟩
  . have:=ready_mono d b;rw [H.1] at this;cases this
 | succ f ih=>
  intro x a w y t c o l H;refine ⟨λh=>(by rw [h] at c;cases c),λj d=>?_⟩;by_cases b:j=i
  . subst b;exact n.yes hi o l ⟨λ_=>l,H⟩
  . obtain ⟨u,g,B,F⟩:=mem_ready.1 d;have E:=(mem_ready.1 c).1;have r:x.getD i ZW=ZW:=by
     rcases XB i x.size with p|p
     . simpa [Vq,p] using E
     . simp [Vq,p]
    have G:∀ e∈g.after,Region.binds .any e=ZX->e.on≠i:=λe K I L=>by
     have s:=F e K I;rw [L,r] at s;cases s
    have R:j≠z:=λe=>by
     obtain ⟨O,J⟩:=zC d;have q:=Xd.1 (V (e▸O)) i (UA.2 (zC c).1);rcases YW.1 q with q|q
     . exact M (eq_of_beq q)
     . rw [<- e] at q;rw [Bk y _ _ _ q J] at r;cases r
    refine n.mono (λD w' m=>⟨m.2.1,ih (x.setIfInBounds j ZX) D w' (y.set d) (λk ok N T C U=>t k ok N T ?_ U) (ready_mono c (Vo b)) m.1 (m.2.1 R) ?_⟩) (n.put hi B (t j g B b u G) o (H.2 j (ready_mono d b)))
    . by_cases A:j=k
      . subst A;exact u
      . rw [getD_set_ne ZX A] at C;exact C
    . rw [acp _ _ b];exact m.2.2
def LW (P:Program) (ops:Array ZP) (Q:ZO->ZV->Prop) (S:ZV->Prop) (X:Nat->ZO->ZV->(ZO->ZV->Prop)->Prop) (z:Nat):List (Nat×Bool)->ZO->ZV->Prop
 | [],a,w=>Q a w
 | (i,ZX)::l,a,w=>∃ o v,ops[i]?=ZY o/\YieldsIf P ops S o v a/\LW P ops Q S X z l (a.put o.dst v) w
 | (i,ZW)::l,a,w=>X i a w λa' w'=>(i≠z->S w')/\LW P ops Q S X z l a' w'
def Hy (ops:Array ZP) (z:Nat):List (Nat×Bool)->Array Bool->Bool
 | [],x=>(Region.ready .any ops x).isEmpty
 | (i,b)::l,x=>(if b then Region.free .any ops x i&&(Region.ready .any ops x).contains i&&i != z else Region.ready .any ops x==[i]&&(i != z || l.isEmpty))&&Hy ops z l (x.setIfInBounds i ZX)
def Ec (b:KE P ops X) (e:z<ops.size->D9 ops z=ZX):∀ (l:List (Nat×Bool)) (x:Array Bool) (a:ZO) (w:ZV),wS ops x->Hy ops z l x=ZX->(l≠[]->S w)->LW P ops Q S X z l a w->Ea ops S Q X z l.length x a w
 | [],x,a,w,_,hk,_,h=>⟨by simpa [Hy] using hk,h⟩
 | (i,ZX)::l,x,a,w,hc,hk,hS,h=>by
  simp only [Hy,if_true,WS,bne_iff_ne] at hk;obtain ⟨o,v,f,g,k⟩:=h;have c:i∈Region.ready .any ops x:=by simpa using hk.1.1.2
  exact Eb b e f hk.1.2 _ _ _ _ hc (Region.free_spec f hk.1.1.1) c g (hS (by simp)) (Ec b e l _ _ _ (hc.set c) hk.2 (λ_=>hS (by simp)) k)
 | (i,ZW)::l,x,a,w,hc,hk,hS,h=>by
  simp only [Hy,YY,if_false,WS,beq_iff_eq,Xg,bne_iff_ne,List.isEmpty_iff] at hk;refine ⟨λq=>absurd (hk.1.1▸q) (by simp),λj d=>?_⟩;have c:=d;rw [hk.1.1] at d;obtain rfl:=Vn.1 d;exact b.mono (λm w' q=>⟨q.1,Ec b e l _ _ _ (hc.set c) hk.2 (λhl=>q.1 (hk.1.2.resolve_right hl)) q.2⟩) h
def wT (ops:Array ZP) (z:Nat) (l:List (Nat×Bool)):Bool:=Region.noSelect ops&&Hy ops z l (YI ops.size ZW)&&l.length==ops.size&&(decide (ops.size<=z) || D9 ops z)
theorem wU (e:KE P ops X) {l:List (Nat×Bool)} (b:wT ops z l=ZX) {a:ZO} {w:ZV} (d:S w) (h:LW P ops Q S X z l a w):Ea ops S Q X z ops.size (YI ops.size ZW) a w:=by
 simp only [wT,WS,beq_iff_eq,Xg,Wt] at b;have:=Ec e (λq=>b.2.resolve_left (by omega)) l (YI ops.size ZW) a w (λj c=>by
  simp only [Vq,YV] at c;split at c<;>cases c) b.1.1.2 (λ_=>d) h
 rwa [b.1.2] at this
def gS {a:ZO} (h:Q a w):LW P ops Q S X z [] a w:=h
def aZ {l:List (Nat×Bool)} {a:ZO} (ho:ops.toList[i]?=ZY o) (b:Region.wanted o (yielded ops a.tmps)=ZX) (h:∃ v,(∀ w,S w->(execOp a.eval o).run P w=.ok (.value v) w)/\LW P ops Q S X z l (a.put o.dst v) w):LW P ops Q S X z ((i,ZX)::l) a w:=h.elim λv h=>⟨o,v,by simpa using ho,.inl ⟨b,h.1⟩,h.2⟩
end
section
variable {P:Program} {ops:Array ZP} {S:ZV->Prop} {Q:ZO->ZV->Prop} {z i:Nat} {l:List (Nat×Bool)} {a:ZO} {w w1:ZV} {o:ZP}
def aa2 (a:Region.noSelect ops=ZX):KE P ops (Xp P ops Q) where
 mono h:=wpOp_mono h
 yes hi hy hS h:=hy.wpOp hi hS h
 put hi hj h0 hy h:=wpOp_putIf hj h0 (λcs b=>YA a _ _ cs b hi) (λcs b=>YA a _ _ cs b hj) (λ_ _ _ q=>absurd q.1 nofun) hy h
def Gn:∀ (f:Nat) (x:Array Bool) (a:ZO) (w:ZV),Ea ops S Q (Xp P ops Q) z f x a w->wpAny P .any ops (λe a w=>e=.normal/\Q a w) f x a w
 | 0,_,_,_,h=>⟨h.1,rfl,h.2⟩
 | f+1,_,_,_,h=>⟨λq=>⟨rfl,h.1 q⟩,λi hi=>wpOp_mono (λb w' q=>Gn f _ b w' q.2) (h.2 i hi)⟩
def ga {U:ZQ->ZO->ZV->Prop} (z:Nat) (l:List (Nat×Bool)) (S:ZV->Prop) (d:P.follows .mixedOrders=ZX) (b:wT ops z l=ZX) (c:S w.drew) (h:LW P ops (λa w=>U .normal a w) S (Xp P ops λa w=>U .normal a w) z l a w.drew):(Code.region m ops ZX).wp P U a w:=
 Code.wp_mono (Q:=λe a w=>e=.normal/\U .normal a w) (λe a w q=>by obtain ⟨rfl,q⟩:=q;exact q) (wp_region_any d (Gn _ _ _ _ (wU (aa2 (by simp only [wT,WS] at b;exact b.1.1.1)) b c h)))
def wV (ho:ops.toList[i]?=ZY o) (c:Region.wanted o (yielded ops a.tmps)=ZX) (h:∀ K:ZO->ZV->Prop,(∀ b w',(i≠z->S w')->LW P ops Q S (Xp P ops Q) z l b w'->K b w')->o.wp P a w K (λe a w=>e=.normal/\Q a w)):LW P ops Q S (Xp P ops Q) z ((i,ZW)::l) a w:=by
 show Xp P ops Q i a w _;unfold Xp wpOp;rw [show ops[i]?=ZY o by simpa using ho];show if _ then _ else _;rw [TX c];exact .inl (h _ λ_ _ d f=>⟨d,f⟩)
def td (ho:ops.toList[i]?=ZY o) (d:Region.wanted o (yielded ops a.tmps)=ZX) (c:(execOp a.eval o).run P w=.ok (.value v) w1) (b:i≠z->S w1) (h:LW P ops Q S (Xp P ops Q) z l (a.put o.dst v) w1):LW P ops Q S (Xp P ops Q) z ((i,ZW)::l) a w:=wV ho d λK hK=>by
 unfold Oper.wp;rw [c];exact hK _ _ b h
def nS (ho:ops.toList[i]?=ZY o) (d:Region.wanted o (yielded ops a.tmps)=ZX) (c:(execOp a.eval o).run P w=.ok .skip w1) (b:i≠z->S w1) (h:LW P ops Q S (Xp P ops Q) z l (a.put o.dst Z0) w1):LW P ops Q S (Xp P ops Q) z ((i,ZW)::l) a w:=wV ho d λK hK=>by
 unfold Oper.wp;rw [c];exact hK _ _ b h
def mr (b:ZS P f args w1 R) (ho:ops.toList[i]?=ZY o) (d:Region.wanted o (yielded ops a.tmps)=ZX) (c:(execOp a.eval o).run P w=.ok (.enter f args) w1) (h:∀ e w',R e w'->∃ v,e=Z4 v/\(i≠z->S w')/\LW P ops Q S (Xp P ops Q) z l (a.put o.dst v) w'):LW P ops Q S (Xp P ops Q) z ((i,ZW)::l) a w:=wV ho d λK hK=>by
 unfold Oper.wp;rw [c];refine b.mono λe w' q=>?_;obtain ⟨v,rfl,g,j⟩:=h e w' q;exact hK _ _ g j
end
structure Qm (Fc:Fence):Prop where
 fn:∀ f,Fc.fn f
 dp:Fc.depth.isSome=ZX->False
 cl:∀ {n:Nat} {P:Program} {f:FuncId} {args:Array ZU} {w:ZV} {R:ZR->ZV->Prop},ZS P f args w R->CallsIn Fc n P f args w R
def PL:Qm Fence.wide:=⟨λ_=>trivial,λh=>(by cases h),λh=>Vj.2 h⟩
def fV (l:Nat):Qm (Fence.wide.inRound l):=⟨λ_=>trivial,λh=>(by cases h),λh=>abW l (Vj.2 h)⟩
def zD (ops:Array ZP):Bool:=ops.toList.all λo=>match o.op with|.defer _=>ZW|_=>ZX
def te (h:zD ops=ZX) {i:Nat} {o:ZP} (ho:ops[i]?=ZY o) (c:Call):o.op≠.defer c:=λe=>by
 have:=Xd.1 h o (YX.2 (Array.mem_of_getElem? ho));rw [e] at this;cases this
section
variable {Fc:Fence} {n:Nat} {P:Program} {ops:Array ZP} {S:ZV->Prop} {Q:ZO->ZV->Prop} {z i:Nat} {l:List (Nat×Bool)} {a:ZO} {w w1:ZV} {o:ZP}
theorem aas (q:Qm Fc) (A:Region.noSelect ops=ZX) (z:zD ops=ZX):KE P ops (Xi Fc n P ops Q) where
 mono h:=wpOpIn_mono h
 yes {_ i o v a w K} hi hy hS h:=by
  unfold Xi wpOpIn;simp only [hi];rcases hy with ⟨m,C⟩|⟨m,rfl⟩
  . simp only [m,if_true,Oper.wpIn,VE _ _ _ (te z hi),C w hS,Oper.uponIn];exact ⟨λf _=>q.fn f,h⟩
  . simp only [m,YY,if_false];exact ⟨λf _=>q.fn f,h⟩
 put {S i j oi oj v a w K} hi hj h5 hy h:=by
  have y:=λcs b=>YA A _ _ cs b hi;have B:=λcs b=>YA A _ _ cs b hj;have s:=te z hj;obtain ⟨t,k,p⟩:=Oper.apart_spec h5;have keep:∀ u,YieldsIf P ops S oi v (a.put oj.dst u):=λu=>hy.of_same (execOp_put oi y a oj.dst u p) (wanted_put oi a oj.dst u p);unfold Xi wpOpIn at *;simp only [hj] at *;rw [wanted_put oj a oi.dst v t] at h;split
  . rename_i m
    simp only [m,if_true] at h;refine ⟨λf _=>q.fn f,?_⟩;have h:=h.2;rw [VE _ _ _ s,execOp_put oj B a oi.dst v t] at h;rw [VE _ _ _ s];generalize (execOp a.eval oj).run P w=r at *;cases r with
    | ok x w'=>
     cases x<;>simp only [Oper.uponIn] at h ⊢
     case value u=>exact ⟨keep u,by rw [<- Xh a v u k];exact h⟩
     case skip=>exact ⟨keep _,by rw [<- Xh a v Z0 k];exact h⟩
     case defer d=>exact ⟨(hy.of_same rfl rfl:YieldsIf P ops S oi v { a with defers:=d::a.defers }).of_same (execOp_put oi y _ oj.dst _ p) (wanted_put oi _ oj.dst _ p),by rw [<- Xh _ v Z0 k,<- Act.put_defers];exact h⟩
     case enter f args=>
      refine ⟨h.1,CallsIn.mono h.2 λe w'' g=>?_⟩;cases e with
      | returned u=>exact ⟨keep u,by rw [<- Xh a v u k];exact g⟩
      | panicked c=>exact absurd g.1 nofun
      | outgrown=>exact g
     case row row args=>exact ⟨h.1,RowsIn.mono h.2 λu w'' g=>⟨keep u,by rw [<- Xh a v u k];exact g⟩⟩
     case round l f tmps assign body=>
      refine ⟨h.1,RoundIn.mono h.2 λe w'' g=>?_⟩;cases e with
      | returned u=>exact ⟨keep u,by rw [<- Xh a v u k];exact g⟩
      | panicked c=>exact absurd g.1 nofun
      | outgrown=>exact g
    | _=>
     rename_i x _
     cases x<;>simp only [Oper.uponIn] at h ⊢
     case panic u=>exact absurd h.1 nofun
  . rename_i m
    simp only [m] at h;exact ⟨λf _=>q.fn f,keep _,by rw [<- Xh a v Z0 k];exact h.2⟩
def wW:∀ (f:Nat) (x:Array Bool) (a:ZO) (w:ZV),Ea ops S Q (Xi Fc n P ops Q) z f x a w->wpAnyIn Fc n P .any ops (λe a w=>e=.normal/\Q a w) f x a w
 | 0,_,_,_,h=>⟨h.1,rfl,h.2⟩
 | f+1,_,_,_,h=>⟨λq=>⟨rfl,h.1 q⟩,λi hi=>wpOpIn_mono (λb w' q=>wW f _ b w' q.2) (h.2 i hi)⟩
def eC (c:Qm Fc) {U:ZQ->ZO->ZV->Prop} {m:Nat} (z:Nat) (l:List (Nat×Bool)) (S:ZV->Prop) (f:P.follows .mixedOrders=ZX) (b:(wT ops z l&&zD ops)=ZX) (d:S w.drew) (h:LW P ops (λa w=>U .normal a w) S (Xi Fc n P ops λa w=>U .normal a w) z l a w.drew):(Code.region m ops ZX).wpIn Fc n P U a w:=by
 rw [WS] at b;have g:Region.noSelect ops=ZX:=by have:=b.1;simp only [wT,WS] at this;exact this.1.1.1
 exact Code.wpIn_mono (Q:=λe a w=>e=.normal/\U .normal a w) (λe a w q=>by obtain ⟨rfl,q⟩:=q;exact q) (wpIn_region_any f (wW _ _ _ _ (wU (aas c g b.2) b.1 d h)))
def Ed (ho:ops.toList[i]?=ZY o) (c:Region.wanted o (yielded ops a.tmps)=ZX) (h:∀ K:ZO->ZV->Prop,(∀ b w',(i≠z->S w')->LW P ops Q S (Xi Fc n P ops Q) z l b w'->K b w')->o.wpIn Fc n P a w K (λe a w=>e=.normal/\Q a w)):LW P ops Q S (Xi Fc n P ops Q) z ((i,ZW)::l) a w:=by
 show Xi Fc n P ops Q i a w _;unfold Xi wpOpIn;rw [show ops[i]?=ZY o by simpa using ho];show if _ then _ else _;rw [TX c];exact h _ λ_ _ d f=>⟨d,f⟩
def zE (d:Qm Fc) {v:ZU} (ho:ops.toList[i]?=ZY o) (j:Region.wanted o (yielded ops a.tmps)=ZX) (b:∀ c,o.op≠.defer c) (g:(execOp a.eval o).run P w=.ok (.value v) w1) (e:i≠z->S w1) (h:LW P ops Q S (Xi Fc n P ops Q) z l (a.put o.dst v) w1):LW P ops Q S (Xi Fc n P ops Q) z ((i,ZW)::l) a w:=Ed ho j λK hK=>⟨λf _=>d.fn f,by
 rw [VE _ _ _ b,g];exact hK _ _ e h⟩
def nT (d:Qm Fc) (ho:ops.toList[i]?=ZY o) (j:Region.wanted o (yielded ops a.tmps)=ZX) (b:∀ c,o.op≠.defer c) (g:(execOp a.eval o).run P w=.ok .skip w1) (e:i≠z->S w1) (h:LW P ops Q S (Xi Fc n P ops Q) z l (a.put o.dst Z0) w1):LW P ops Q S (Xi Fc n P ops Q) z ((i,ZW)::l) a w:=Ed ho j λK hK=>⟨λf _=>d.fn f,by
 rw [VE _ _ _ b,g];exact hK _ _ e h⟩
def jF (b:Qm Fc) {f:FuncId} {args:Array ZU} {R:ZR->ZV->Prop} (g:ZS P f args w1 R) (ho:ops.toList[i]?=ZY o) (k:Region.wanted o (yielded ops a.tmps)=ZX) (d:∀ c,o.op≠.defer c) (j:(execOp a.eval o).run P w=.ok (.enter f args) w1) (h:∀ e w',R e w'->∃ v,e=Z4 v/\(i≠z->S w')/\LW P ops Q S (Xi Fc n P ops Q) z l (a.put o.dst v) w'):LW P ops Q S (Xi Fc n P ops Q) z ((i,ZW)::l) a w:=Ed ho k λK hK=>⟨λf _=>b.fn f,by
 rw [VE _ _ _ d,j];refine ⟨λh=>(b.dp h).elim,b.cl (g.mono λe w' q=>?_)⟩;obtain ⟨v,rfl,m,p⟩:=h e w' q;exact hK _ _ m p⟩
end
end
def aJ (w:ZV):Prop:=∀ j,j<64->w.cell? ⟨1,j,ZZ⟩=ZY (Z8 .u8 ((Lib.deBruijn64tab.getD j 0:Nat):Int))
def aJ.mono (h:aJ w) (a:1<B) (b:ZT B w w'):aJ w':=λj c=>(b.cell (p:=⟨1,j,ZZ⟩) a).trans (h j c)
def Qn (x a:Nat) (d:x<18446744073709551616) (e:x≠0) (c:x &&& (18446744073709551616-x)=a) :
 IntKind.u64.wrap (bits BinOp.and IntKind.u64 (x:Int) (IntKind.u64.wrap (-(x:Int)))*285870213051353865)/288230376151711744=((a*285870213051353865%18446744073709551616/288230376151711744:Nat):Int):=by
 have b:IntKind.u64.wrap (-(x:Int))=((18446744073709551616-x:Nat):Int):=by rw [Vd];omega
 rw [b,bits_and_u64_nat x _ d (by omega),c,Vd];omega
def nU (x:Nat):Nat:=Lib.ctzFrom 64 x
def tf (a:x≠0) (b:x<65536):∃ m,x=2^nU x*(2*m+1)/\nU x<64:=Lib.ctzFrom_spec 64 x (by omega) (by omega)
theorem N1 (x k idx:Nat) (w:ZV) (b:((x:Int)==0)=ZW)
 (key:IntKind.u64.wrap (bits BinOp.and IntKind.u64 (x:Int) (IntKind.u64.wrap (-(x:Int)))*285870213051353865)/288230376151711744=(idx:Int))
 (hi:idx<64) (c:k<64) (a:w.cell? ⟨1,idx,ZZ⟩=ZY (Z8 .u8 k)) :
 ZS ZL 148 #[Z8 .u64 x] w λe w'=>e=Z4 (Z8 Z9 k)/\w'=w:=by
 go_enter func148,ntmps148;go_wp2_with (simp only [key]);go_ret;exact ⟨rfl,rfl⟩
def KF (x:Nat) (a:x≠0) (i:x<65536) (w:ZV) (h:aJ w) :
 ZS ZL 148 #[Z8 .u64 x] w λe w'=>e=Z4 (Z8 Z9 (nU x))/\w'=w:=by
 obtain ⟨m,d,c⟩:=tf a i;have f:x &&& (18446744073709551616-x)=2^nU x:=by
  have:=Lib.and_neg 64 (nU x) m (by rw [<- d];omega);rw [<- d] at this;exact this
 obtain ⟨hi,g⟩:=Lib.deBruijn64_at _ c;have b:=h _ hi;rw [g] at b;exact N1 x _ _ w (by simp;omega) (Qn x _ (by omega) a f) hi c b
theorem Gp (n:x≠0) (p:x<65536):x &&& (x-1)=bJ x (nU x):=by
 obtain ⟨m,d,_⟩:=tf n p;generalize nU x=k at d;have:0<2^k:=Wh k;have o:2^(k+1)=2*2^k:=by rw [XV];omega
 have f:x=2^(k+1)*m+2^k:=by rw [d,o,Nat.mul_add,Wf,Ww 2 (2^k),Nat.mul_assoc]
 have g:x-1=2^(k+1)*m+(2^k-1):=by omega
 apply XR;intro j;rw [XC,g,lu];have h:=YQ m (i:=k+1) (b:=2^k) (by omega) j;have l:=YQ m (i:=k+1) (b:=2^k-1) (by omega) j;rw [l,f,h];by_cases a:j<k+1
 . rw [TX a,TX a,X3,Xz];have c:decide (k<j)=ZW:=(by simp;omega);rw [c,Bool.false_and];by_cases e:k=j
   . simp [e]
   . simp [e]
 . rw [TW a,TW a];have c:decide (k<j)=ZX:=(by simp;omega);rw [c,Bool.true_and,Bool.and_self]
theorem rU (e:x≠0) (g:x<65536):x.testBit (nU x)=ZX/\∀ j,j<nU x->x.testBit j=ZW:=by
 obtain ⟨m,d,_⟩:=tf e g;generalize nU x=k at d;have:0<2^k:=Wh k;have f:2^(k+1)=2*2^k:=by rw [XV];omega
 have a:x=2^(k+1)*m+2^k:=by rw [d,f,Nat.mul_add,Wf,Ww 2 (2^k),Nat.mul_assoc]
 have c:=λj=>YQ m (i:=k+1) (b:=2^k) (by omega) j;constructor
 . rw [a,c,TX (by omega),Nat.testBit_two_pow_self]
 . intro j h;rw [a,c,TX (by omega),X3];simp;omega
def KG (b:x≠0) (a:x<65536):nU x<16:=by
 refine Nat.lt_of_not_le λh=>?_;have:=Xb (x:=x) (i:=nU x) (T9 a (U9 (n:=2) (by decide) h));rw [(rU b a).1] at this;cases this
def iM (b:x≠0) (c:x<65536):ab x=nU x::ab (bJ x (nU x)):=by
 have h:nU x∈ab x:=cZ.2 ⟨KG b c,(rU b c).1⟩;obtain ⟨pre,R,e⟩:=List.append_of_mem h;rw [Ba e];have f:=qH x;rw [e] at f;cases pre with
 | nil=>exact e
 | cons a pre=>
  have g:=(abN.1 f).2.2 a (by simp) (nU x) (by simp);have d:=(cZ.1 (show a∈ab x by rw [e];simp)).2;rw [(rU b c).2 a g] at d;cases d
def py (x k:Nat) (a:x<65536):bJ x k<65536:=by
 unfold bJ;exact Xj (YZ _ _) a
def wX:ab 0=[]:=by decide
def sw1 (x:Nat):Nat:=(x/2 &&& 6148914691236517205)+(x &&& 6148914691236517205)
def sw2 (x:Nat):Nat:=(x/4 &&& 3689348814741910323)+(x &&& 3689348814741910323)
def sw3 (x:Nat):Nat:=(x/16+x) &&& 1085102592571150095
def sw (x:Nat):Nat:=sw3 (sw2 (sw1 x))
def pb (b:Nat):Nat:=b%2+b/2%2+b/4%2+b/8%2+b/16%2+b/32%2+b/64%2+b/128%2
def tst (n:Nat):Nat->Bool
 | 0=>ZX
 | k+1=>(sw (n*256+k)==pb n*256+pb k)&&tst n k
def Qo:Nat->Bool
 | 0=>ZX
 | n+1=>tst n 256&&Qo n
def aa3:Qo 256=ZX:=by decide +kernel
def KH:∀ {k},tst n k=ZX->∀ j,j<k->sw (n*256+j)=pb n*256+pb j
 | 0,_,j,h=>absurd h (by omega)
 | k+1,h,j,hj=>by
  obtain ⟨a,b⟩:=YJ.1 h;by_cases e:j=k
  . rw [e];exact eq_of_beq a
  . exact KH b j (by omega)
def Gq:∀ {n},Qo n=ZX->∀ i,i<n->tst i 256=ZX
 | 0,_,i,h=>absurd h (by omega)
 | n+1,h,i,hi=>by
  obtain ⟨a,b⟩:=YJ.1 h;by_cases e:i=n
  . rw [e];exact a
  . exact Gq b i (by omega)
def aat (a:x<65536):sw x=pb (x/256)*256+pb (x%256):=by
 have:=KH (Gq aa3 (x/256) (by omega)) (x%256) (by omega);rwa [show x/256*256+x%256=x by omega] at this
def Qp (x i:Nat):(if x.testBit i=ZX then 1 else 0)=x/2^i%2:=by
 rw [Wy];by_cases h:x/2^i%2=1
 . simp [h]
 . have:=V0 (x/2^i);simp [h];omega
def PM (b:Nat):pb b<=8:=by unfold pb;omega
theorem KI (x:Nat):(ab x).length=pb (x/256)+pb (x%256):=by
 have h:∀ n,((YF n).filter (λi=>x.testBit i)).length=((YF n).map (λi=>x/2^i%2)).sum:=by
  intro n;induction n with
  | zero=>rfl
  | succ n ih=>
   rw [VF,Wr,Uc,ih,UD,YB];have e:=Qp x n;have m:([n].map (λi=>x/2^i%2)).sum=x/2^n%2:=(by simp);rw [m,<- e];by_cases e:x.testBit n=ZX
   . simp [e]
   . simp [e]
 unfold ab pb;rw [h];have a:YF 16=[0,1,2,3,4,5,6,7,8,9,10,11,12,13,14,15]:=by decide
 rw [a];simp only [UI,Vh,XD,List.sum_nil,Nat.reducePow,Nat.div_one];have b:x%256%2=x%2:=by omega
 have c:x%256/2%2=x/2%2:=by omega
 have d:x%256/4%2=x/4%2:=by omega
 have f:x%256/8%2=x/8%2:=by omega
 have g:x%256/16%2=x/16%2:=by omega
 have j:x%256/32%2=x/32%2:=by omega
 have k:x%256/64%2=x/64%2:=by omega
 have l:x%256/128%2=x/128%2:=by omega
 rw [b,c,d,f,g,j,k,l];clear b c d f g j k l h a;simp only [YR,Nat.reduceMul];generalize x%2=o;generalize x/2%2=p;generalize x/4%2=q;generalize x/8%2=r;generalize x/16%2=s;generalize x/32%2=t;generalize x/64%2=u;generalize x/128%2=v;generalize x/256%2=b0;generalize x/512%2=b1;generalize x/1024%2=b2;generalize x/2048%2=b3;generalize x/4096%2=w;generalize x/8192%2=y;generalize x/16384%2=z;generalize x/32768%2=A;omega
def Bm (h:k<64):2^k<18446744073709551616:=T9 (VS (by decide) h) lR
def Hz (k:Nat) (h:k<=16):IntKind.u64.wrap (IntKind.u64.wrap (2^k)-1)=((2^k-1:Nat):Int):=by
 have:=Bm (k:=k) (by omega);have:0<2^k:=Wh k;have e:((2:Int)^k)=((2^k:Nat):Int):=by rw [XE];rfl
 rw [e,Vd,Vd];omega
theorem mu (k:Nat) (a:k<=16) (w:ZV) :
 ZS ZL 135 #[Z8 Z9 k] w λe w'=>e=Z4 (Z8 .u64 ((2^k-1:Nat):Int))/\w'=w:=by
 have key:=Hz k a;go_enter func135,ntmps135;go_wp2;go_ret;exact ⟨rfl,rfl⟩
def fI (a b:Nat) (c:a<18446744073709551616) (d:b<18446744073709551616):bits .and .u64 (a:Int) (b:Int)=((a &&& b:Nat):Int):=bits_and_u64_nat a b c d
theorem k1 (x:Nat) (h:x<65536):IntKind.u64.wrap (bits .and .u64 ((x:Int)/2) 6148914691236517205+bits .and .u64 (x:Int) 6148914691236517205)=((sw1 x:Nat):Int)/\sw1 x<131072:=by
 have e:(x:Int)/2=((x/2:Nat):Int):=by omega
 have d:=fI (x/2) 6148914691236517205 (by omega) (by decide);have f:=fI x 6148914691236517205 (by omega) (by decide);have:=WT (n:=x/2) (m:=6148914691236517205);have:=WT (n:=x) (m:=6148914691236517205);unfold sw1;rw [e];refine ⟨?_,by omega⟩;have c:bits .and .u64 ((x/2:Nat):Int) 6148914691236517205=((x/2 &&& 6148914691236517205:Nat):Int):=d;have g:bits .and .u64 (x:Int) 6148914691236517205=((x &&& 6148914691236517205:Nat):Int):=f;rw [c,g,Vd];generalize (x/2 &&& 6148914691236517205)=a at *;generalize (x &&& 6148914691236517205)=b at *;omega
theorem k2 (x:Nat) (h:x<131072):IntKind.u64.wrap (bits .and .u64 ((x:Int)/4) 3689348814741910323+bits .and .u64 (x:Int) 3689348814741910323)=((sw2 x:Nat):Int)/\sw2 x<262144:=by
 have e:(x:Int)/4=((x/4:Nat):Int):=by omega
 have d:=fI (x/4) 3689348814741910323 (by omega) (by decide);have f:=fI x 3689348814741910323 (by omega) (by decide);have:=WT (n:=x/4) (m:=3689348814741910323);have:=WT (n:=x) (m:=3689348814741910323);unfold sw2;rw [e];refine ⟨?_,by omega⟩;have c:bits .and .u64 ((x/4:Nat):Int) 3689348814741910323=((x/4 &&& 3689348814741910323:Nat):Int):=d;have g:bits .and .u64 (x:Int) 3689348814741910323=((x &&& 3689348814741910323:Nat):Int):=f;rw [c,g,Vd];generalize (x/4 &&& 3689348814741910323)=a at *;generalize (x &&& 3689348814741910323)=b at *;omega
def k3 (x:Nat) (a:x<262144):bits .and .u64 (IntKind.u64.wrap ((x:Int)/16+(x:Int))) 1085102592571150095=((sw3 x:Nat):Int):=by
 have e:IntKind.u64.wrap ((x:Int)/16+(x:Int))=((x/16+x:Nat):Int):=by rw [Vd];omega
 rw [e];exact fI (x/16+x) 1085102592571150095 (by omega) (by decide)
theorem k4 (x c:Nat) (a:x<1048576):IntKind.u64.wrap ((x:Int)+(x:Int)/(c:Int))=((x+x/c:Nat):Int):=by
 have:=VT x c;have e:(x:Int)/(c:Int)=((x/c:Nat):Int):=(X4 x c).symm;rw [Vd,e];generalize x/c=d at *;omega
def Qq (x:Nat):x &&& 127=x%128:=abU x 7
theorem KJ (x:Nat) (v:x<65536) (w:ZV) :
 ZS ZL 227 #[Z8 .u64 x] w λe w'=>e=Z4 (Z8 Z9 ((ab x).length:Nat))/\w'=w:=by
 obtain ⟨g,b1⟩:=k1 x v;obtain ⟨h,b2⟩:=k2 _ b1;have a:=k3 _ b2;have u:=aat v;have y:=PM (x/256);have z:=PM (x%256);have t:=KI x;have e:sw3 (sw2 (sw1 x))=pb (x/256)*256+pb (x%256):=u;generalize pb (x/256)=p at *;generalize pb (x%256)=q at *;have b:=k4 (p*256+q) 256 (by omega);have n:p*256+q+(p*256+q)/256=p*257+q:=by omega
 have c:=k4 (p*257+q) 65536 (by omega);have r:p*257+q+(p*257+q)/65536=p*257+q:=by rw [Xv (by omega),VV]
 have d:=k4 (p*257+q) 4294967296 (by omega);have s:p*257+q+(p*257+q)/4294967296=p*257+q:=by rw [Xv (by omega),VV]
 rw [n] at b;rw [r] at c;rw [s] at d;have f:=Gh (p*257+q) 127 (by omega) (by decide);rw [Qq,show (p*257+q)%128=p+q by omega,<- t] at f;have i:wrap64 ((p*257+q:Nat):Int)=((p*257+q:Nat):Int):=by unfold wrap64;omega
 rw [e] at a;clear e u t n r s;have H:=hide8 g h a b c d f i;clear g h a b c d f i;go_enter func227,ntmps227;go_wp2;obtain ⟨g,h,a,b,c,d,f,i⟩:=H.o;simp only [g];simp only [h];simp only [a];have j:IntKind.u64.wrap (((p*256+q:Nat):Int)+((p*256+q:Nat):Int)/256)=((p*257+q:Nat):Int):=b;have k:IntKind.u64.wrap (((p*257+q:Nat):Int)+((p*257+q:Nat):Int)/65536)=((p*257+q:Nat):Int):=c;have l:IntKind.u64.wrap (((p*257+q:Nat):Int)+((p*257+q:Nat):Int)/4294967296)=((p*257+q:Nat):Int):=d;have m:bits .and .i64 ((p*257+q:Nat):Int) 127=(((ab x).length:Nat):Int):=f;simp only [j,k,l,i,m];go_ret;exact ⟨rfl,rfl⟩
theorem Bn (x:Nat) (a:x<65536) (w:ZV) :
 ZS ZL 223 #[Z8 .u64 x] w λe w'=>e=Z4 (Z8 Z9 ((ab x).length:Nat))/\w'=w:=by
 go_enter func223,ntmps223;go_wp2_with fail;refine (KJ x a _).mono ?_;rintro e w' ⟨rfl,rfl⟩;go_wp2;go_ret;exact ⟨rfl,rfl⟩
theorem Ee (x k:Nat) (c:x<65536) (f:k<=16):bits .andNot .u64 (x:Int) ((2^k-1:Nat):Int)=((x/2^k*2^k:Nat):Int):=by
 have d:=Bm (k:=k) (by omega);have e:0<2^k:=Wh k;have h:=YC x (2^k-1) (by omega) (by omega);rw [h];congr 1;apply XR;intro j;rw [XC,acm,show 18446744073709551615-(2^k-1)=2^64-(2^k-1+1) by omega,Xy (by omega),Xz,acn];by_cases a:k<=j
 . rw [show j-k+k=j by omega];by_cases b:j<64
   . simp [a,b,show ¬ j<k by omega]
   . have:x.testBit j=ZW:=Xb (T9 c (U9 (n:=2) (i:=16) (by decide) (by omega)));simp [this]
 . simp [a,show j<k by omega]
theorem Ef (x k:Nat) (a:x<65536) (c:k<16) (w:ZV) :
 ZS ZL 231 #[Z8 .u64 x,Z8 Z9 k] w λe w'=>e=Z4 (Z8 .u64 (bJ x k:Nat))/\w'=w:=by
 have key:=Ee x (k+1) a (by omega);have d:wrap64 ((k:Int)+1)=((k+1:Nat):Int):=by unfold wrap64;omega
 have b:IntKind.i64.wrap ((k:Int)+1)=((k+1:Nat):Int):=by rw [UF];omega
 have H:=ak key;clear key;go_enter func231,ntmps231;go_wp2_with fail;refine (mu (k+1) (by omega) _).mono ?_;rintro e w' ⟨rfl,rfl⟩;go_wp2;rw [H.o];go_ret;exact ⟨rfl,rfl⟩
section
attribute [local go_sem] Oper.semAt_some
def nV (b:q≠0) (c:q<65536):bJ q (nU q)<q:=by
 refine Nat.lt_of_le_of_ne (YZ _ _) λe=>?_;have a:=lu q (nU q) (nU q);rw [e,(rU b c).1] at a;simp at a
abbrev Sh:={ x:Nat // x<16 }
def qJ (x:Sh):Array ZU:=#[Z8 Z9 (x.1:Int)]
def shs (s:Nat):List Sh:=(ab s).filterMap (λi=>if h:i<16 then ZY ⟨i,h⟩ else ZZ)
def N2 (s:Nat):(shs s).map (·.1)=ab s:=by
 unfold shs;have h:∀ L:a8,(∀ i∈L,i<16)->(L.filterMap (λi=>if h:i<16 then ZY (⟨i,h⟩:Sh) else ZZ)).map (·.1)=L:=by
  intro L;induction L with
  | nil=>intro _;rfl
  | cons a L ih=>
   intro c;have d:=c a Va;rw [List.filterMap_cons_some (b:=(⟨a,d⟩:Sh)) (by simp [d]),UI,ih (λi hi=>c i (UT _ hi))]
 exact h _ (λi hi=>(cZ.1 hi).1)
theorem dN (s:Nat) (w:ZV) :
 ZS ZL 115 #[Z8 .u64 s] w λe w'=>e=Z4 (.func (.func 147) #[] #[Z7 (ZY ⟨w.heap.size,0,ZZ⟩)])/\w'=w.alloc (Z5 #[Z8 .u64 s] 133):=by
 go_enter func115,ntmps115;go_wp2;go_ret;exact ⟨rfl,rfl⟩
theorem Bo (n:Nat) (l Bs s:Nat) (A:s<65536) (J g:List Sh->ZV->Prop)
 (y:∀ pre x W,J pre W->pre.length<(ab s).length->YieldAt Fence.wide (n-1) ZL l (qJ x) W λe c=>
  (e=Z4 (Z3 ZX)/\J (pre++[x]) c/\(aJ W->aJ c))\/(e=Z4 (Z3 ZW)/\g (pre++[x]) c))
 (W:ZV) (E:W.cell? ⟨Bs,0,ZZ⟩=ZY (Z8 .u64 s)) (w:aJ W) (m:J [] W) :
 CallsIn Fence.wide n ZL 147 #[.func (.yield l) #[] #[],Z7 (ZY ⟨Bs,0,ZZ⟩)] W λe c=>(∃ v,e=Z4 v) /\
  ((∃ k,k.map (·.1)=ab s/\J k c)\/(∃ pre,pre.map (·.1)<+:ab s/\g pre c)):=by
 refine Xk func147 rfl trivial ?_ rfl;simp only [ntmps147,UL,UG,U0,Nat.reduceAdd,Nat.reduceSub,Vr,Vs,Vt,Vu,Ut,UX];gi_wp2;gi_loopw [3] (λp wr=>∃ (pre:List Sh) (q:Nat),p=Z8 .u64 q/\q<65536/\ab s=pre.map (·.1)++ab q/\J pre wr/\aJ wr)
  (λp _=>(intOf p).toNat)
 case atStart=>
  exact ⟨[],s,rfl,A,rfl,m,w⟩
 case round=>
  obtain ⟨pre,q,rfl,b,d,i,j⟩:=hrel;by_cases a:q=0
  . subst a;gi_wp2;go_end0
    exact ⟨⟨_,rfl⟩,.inl ⟨pre,by rw [d,wX,Wk],i⟩⟩
  . have D:((q:Int) != 0)=ZX:=(by simp;omega);have f:=KG a b;obtain ⟨fn,tmps,assign,body,B,u⟩:=y pre ⟨nU q,f⟩ wr i (by rw [d,iM a b];simp);unfold qJ at B;gi_wp2;refine dk (KF q a b wr j) ?_;rintro e w' ⟨rfl,rfl⟩;gi_wp2;refine ⟨λh=>(by cases h),u.mono ?_⟩;rintro e C (⟨rfl,r,t⟩|⟨rfl,o⟩)
    . have F:IntKind.u64.wrap ((q:Int)-1)=((q-1:Nat):Int):=(by rw [Vd];omega);have z:=fI q (q-1) (by omega) (by omega);rw [Gp a b] at z;gi_wp2;go_roundw
      case rel=>exact ⟨pre++[⟨nU q,f⟩],bJ q (nU q),rfl,py _ _ b,by rw [d,iM a b];simp,r,t j⟩
      case measure=>have:=nV a b;simp only [intOf];omega
    . gi_wp2;refine Uv (XF rfl _ _ _) rfl ?_;exact ⟨⟨_,rfl⟩,.inr ⟨pre++[⟨nU q,f⟩],by rw [d,iM a b];simp,o⟩⟩
def Gr (W W':ZV):Prop:=aJ W->aJ W'
def qK {A B C:ZV} (h:Gr A B) (k:Gr B C):Gr A C:=λx=>k (h x)
def qM (c:3<=w.heap.size) (W:ZV) (l:Nat) (o b:Obj) (hl:w.heap.size<=l) (h:W.heap[l]?=ZY o) (_:o.isCells=ZW) (_:o.isWalk=ZW):Gr W (W.putObj l b):=λa=>
 a.mono (B:=3) (by decide) (Below.RY (T6 _ W) (by omega) (T5.1 h).1 _)
def Gr.RU {W W':ZV} (b:3<=B) (h:ZT B W W'):Gr W W':=λa=>a.mono (by omega) h
def Gr.refl (W:ZV):Gr W W:=λh=>h
def eV (n Bs s:Nat) (h:s<65536) (w:ZV) (d:Bs<w.heap.size) (g:w.cell? ⟨Bs,0,ZZ⟩=ZY (Z8 .u64 s)) (j:3<=w.heap.size) (e:aJ w) :
 SeqStopsK Fence.wide n ZL 147 #[Z7 (ZY ⟨Bs,0,ZZ⟩)] qJ Gr (λi=>i.map (·.1)=ab s) (λpre=>pre.map (·.1)<+:ab s) (ab s).length w:=λl J b W a _ _ f c=>
 Bo n l Bs s h J b f W ((a.cell (p:=⟨Bs,0,ZZ⟩) d).trans g) (e.mono (by omega) a) c
end
section
attribute [local go_sem] Oper.semAt_some
def Nm (w:ZV) (b:Nat):Prop:=∃ cs T z,w.heap[b]?=ZY (Z5 cs T z)/\T≠82
def Nm.lt (h:Nm w b):b<w.heap.size:=by
 obtain ⟨cs,T,z,h,_⟩:=h;exact (T5.1 h).1
def Nm.keep (h:Nm w b) (c:w'.heap[b]?=w.heap[b]?):Nm w' b:=by
 obtain ⟨cs,T,z,h,a⟩:=h;exact ⟨cs,T,z,c.trans h,a⟩
def bg (K:Nat->Prop) (w:ZV) (v:ZU) (l:a8):Prop:=
 ∃ ao c,v=.slice ao l.length c/\l.length<=1000000/\(l≠[]->∃ b off,ao=ZY ⟨b,off,ZZ⟩/\K b/\Nm w b/\∀ i (hi:i<l.length),w.cell? ⟨b,off+i,ZZ⟩=ZY (Z8 Z9 ((l[i]:Nat):Int)))
structure Ob where
 name:ByteArray
 size:Nat
 RR:a8
def fa (K:Nat->Prop) (w:ZV) (v:ZU) (os:List Ob):Prop:=
 ∃ ao c,v=.slice ao os.length c/\os.length<=1000000/\(os≠[]->∃ b off,ao=ZY ⟨b,off,ZZ⟩/\K b/\Nm w b/\∀ i (hi:i<os.length),∃ sv,
  w.cell? ⟨b,off+i*3,ZZ⟩=ZY (.string os[i].name)/\w.cell? ⟨b,off+i*3+1,ZZ⟩=ZY (Z8 Z9 (os[i].size:Nat))/\w.cell? ⟨b,off+i*3+2,ZZ⟩=ZY sv/\bg K w sv os[i].RR)
def eN (K:Nat->Prop) (w w':ZV):Prop:=w.heap.size<=w'.heap.size/\∀ k,k<w.heap.size->K k->w'.heap[k]?=w.heap[k]?
def eN.refl (K:Nat->Prop) (w:ZV):eN K w w:=⟨TY _,λ_ _ _=>rfl⟩
def eN.trans {b c:ZV} (h:eN K a b) (k:eN K b c):eN K a c:=⟨TZ h.1 k.1,λi d e=>(k.2 i (T9 d h.1) e).trans (h.2 i d e)⟩
def eN.RU (h:ZT w.heap.size w w'):eN K w w':=⟨h.size,λk a _=>h.block k a⟩
def bg.SF (h:bg K w v l) (e:∀ k,Nm w k->K k->w'.heap[k]?=w.heap[k]?):bg K w' v l:=by
 obtain ⟨ao,c,f,g,j⟩:=h;refine ⟨ao,c,f,g,λhl=>?_⟩;obtain ⟨b,off,m,a,d,n⟩:=j hl;exact ⟨b,off,m,a,d.keep (e b d a),λi hi=>(Uo (e b d a)).trans (n i hi)⟩
def fa.SF {os:List Ob} (h:fa K w v os) (d:∀ k,Nm w k->K k->w'.heap[k]?=w.heap[k]?):fa K w' v os:=by
 obtain ⟨ao,c,g,j,l⟩:=h;refine ⟨ao,c,g,j,λhl=>?_⟩;obtain ⟨b,off,m,e,f,n⟩:=l hl;refine ⟨b,off,m,e,f.keep (d b f e),λi hi=>?_⟩;obtain ⟨s,o,p,q,r⟩:=n i hi;have a:=d b f e;exact ⟨s,(Uo a).trans o,(Uo a).trans p,(Uo a).trans q,r.SF d⟩
def bg.keep (h:bg K w v l) (a:eN K w w'):bg K w' v l:=h.SF λk q=>a.2 k q.lt
def fa.keep {os:List Ob} (h:fa K w v os) (a:eN K w w'):fa K w' v os:=h.SF λk q=>a.2 k q.lt
def bg.nil (K:Nat->Prop) (w:ZV):bg K w (Z6 ZZ 0 0) []:=⟨ZZ,0,rfl,by decide,λh=>absurd rfl h⟩
def fa.nil (K:Nat->Prop) (w:ZV):fa K w (Z6 ZZ 0 0) []:=⟨ZZ,0,rfl,by decide,λh=>absurd rfl h⟩
def ah (os:List Ob):a8:=os.flatMap (·.RR)
def Eg (os:List Ob) (k:Nat) (a:k<os.length):ah (os.take (k+1))=ah (os.take k)++os[k].RR:=by
 have e:os.take (k+1)=os.take k++[os[k]]:=by rw [Vg,Ue a];rfl
 rw [e];unfold ah;rw [Wz];simp
def pA (x:Nat):Array ZU:=#[Z8 Z9 (x:Int)]
def Bp {os:List Ob} (m:Nat) (b:k<os.length):ah (os.take k)++(os[k].RR).take m<+:ah os:=by
 have a:ah os=ah (os.take k)++(os[k].RR++ah (os.drop (k+1))):=by
  have e:ah (os.take k++os[k]::os.drop (k+1))=ah (os.take k)++(os[k].RR++ah (os.drop (k+1))):=by unfold ah;rw [Wz,VQ]
  rwa [<- X5 b,Wl] at e
 rw [a];refine (abX _).2 ?_;exact (List.take_prefix m _).trans (XU _ _)
theorem lF (K:Nat->Prop) (n l b1:Nat) (v:ZU) (os:List Ob) (J V:a8->ZV->Prop) (k6:∀ pre A B,J pre A->ZT A.heap.size A B->J pre B)
 (I:a8) (hY:∀ pre x W,J pre W->pre++[x]<+:I->YieldAt Fence.wide (n-1) ZL l (pA x) W λe g=>(e=Z4 (Z3 ZX)/\J (pre++[x]) g/\eN K W g)\/(e=Z4 (Z3 ZW)/\V (pre++[x]) g))
 (a:a8) (k7:a++ah os<+:I) (W:ZV) (M:W.cell? ⟨b1,0,ZZ⟩=ZY v) (O:fa K W v os) (X:J a W) :
 CallsIn Fence.wide n ZL 144 #[.func (.yield l) #[] #[],Z7 (ZY ⟨b1,0,ZZ⟩)] W λe g=>(∃ v,e=Z4 v) /\
  ((J (a++ah os) g)\/(∃ pre,pre<+:ah os/\V (a++pre) g)):=by
 obtain ⟨ao,c,rfl,ka,u⟩:=id O;refine Xk func144 rfl trivial ?_ rfl;simp only [ntmps144,UL,UG,U0,Nat.reduceAdd,Nat.reduceSub,Vr,Vs,Vt,Vu,Ut,UX];have U:=al O X;clear O X u;gi_wp2;gi_loopw [9] (λp wr=>∃ k:Nat,p=Z8 Z9 (k:Nat)/\k<=os.length/\J (a++ah (os.take k)) wr/\fa K wr (.slice ao os.length c) os)
  (λp _=>os.length-(intOf p).toNat)
 case atStart=>
  exact ⟨0,rfl,T7 _,by simpa [ah] using U.o.2,U.o.1⟩
 case round=>
  obtain ⟨k,rfl,hk,s,C⟩:=hrel;by_cases i:k<os.length
  . obtain ⟨hd,c',q,_,u⟩:=id C;obtain ⟨b,off,L,kg,kh,hx⟩:=u (λe=>by rw [e] at i;simp at i);simp only [VA] at q;obtain ⟨rfl,_,rfl⟩:=q;subst L;obtain ⟨sv,r1,r2,r3,G⟩:=hx k i;obtain ⟨so,sc,rfl,kc,t⟩:=id G;obtain ⟨st,R⟩:=nM (os[k].RR);obtain ⟨NN,Z⟩:=nM (os.length);obtain ⟨nm,hz⟩:=nM (os[k].name);obtain ⟨sz,k5⟩:=nM (((os[k].size:Nat):Int));rw [R] at r3 G kc t;rw [hz] at r1;rw [k5] at r2;have H:=a6 s C G R Z;clear s C u hx G t R Z hz k5;gi_wp2;obtain ⟨wx,S⟩:=nM (wr.alloc (Z5 #[.string nm,Z8 Z9 sz,.slice so st.length sc] 152));have E:ZT wr.heap.size wr wx:=(by rw [<- S];exact bA wr _);rw [S];clear S;have hv:=k6 _ _ _ H.o.1 E;have hr:=H.o.2.1.keep (eN.RU E);have hs:=H.o.2.2.1.keep (eN.RU E);gi_loopw [16] (λp T=>∃ m:Nat,p=Z8 Z9 (m:Nat)/\m<=st.length/\J (a++(ah (os.take k)++st.take m)) T/\fa K T (Z6 (ZY ⟨b,off,ZZ⟩) os.length c) os/\bg K T (.slice so st.length sc) st)
     (λp _=>st.length-(intOf p).toNat)
    case atStart=>
     exact ⟨0,rfl,T7 _,by simpa using hv,hr,hs⟩
    case round=>
     clear hv hr hs E;obtain ⟨m,rfl,hm,f,z,D⟩:=hrel;by_cases r:m<st.length
     . obtain ⟨kj,ki,q,_,t⟩:=id D;obtain ⟨b2,hb,L,kf,k8,Y⟩:=t (λe=>by rw [e] at r;simp at r);simp only [VA] at q;obtain ⟨rfl,_,rfl⟩:=q;subst L;have g1:=Y m r;obtain ⟨y,F⟩:=nM (st[m]);rw [F] at g1;have k0:(a++(ah (os.take k)++st.take m))++[y]<+:I:=by
        have M:=Bp (os:=os) (m+1) i;rw [H.o.2.2.2.1,Vg,Ue r,F] at M;have h2:=((abX a).2 M).trans k7;simpa using h2
       obtain ⟨fn,tmps,assign,body,ke,hR⟩:=hY _ y _ f k0;clear k0;unfold pA at ke;have d:=a6 f z D hR F;clear f z D hR t Y F;gi_wp2;refine ⟨λh=>(by cases h),d.o.2.2.2.1.mono ?_⟩;have w:a++(ah (os.take k)++st.take m)++[y]=a++(ah (os.take k)++st.take (m+1)):=by
        have e:st.take (m+1)=st.take m++[y]:=(by rw [Vg,Ue r,d.o.2.2.2.2];rfl);rw [e];simp
       rintro e W3 (⟨rfl,hi,Q⟩|⟨rfl,N⟩)
       . rw [w] at hi;have j:=aE hi (d.o.2.1.keep Q) (d.o.2.2.1.keep Q);clear hi Q w;gi_wp2;go_roundw
         case rel=>exact ⟨m+1,by go_num,by omega,j.o.1,j.o.2.1,j.o.2.2⟩
         case measure=>simp only [intOf];omega
       . rw [w] at N;have j:=ak N;clear N w;gi_wp2;refine Uv (XF rfl _ _ _) rfl ?_;have hp:=Bp (os:=os) (m+1) i;rw [H.o.2.2.2.1] at hp;exact ⟨⟨_,rfl⟩,.inr ⟨_,hp,j.o⟩⟩
     . have kb:m=st.length:=(by omega);subst kb;rw [VK] at f;have P:=Eg os k i;rw [H.o.2.2.2.1] at P;rw [<- P] at f;have d:=al f z;clear f z D P;gi_wp2;go_roundw
       case rel=>exact ⟨k+1,by go_num,by omega,d.o.1,d.o.2⟩
       case measure=>simp only [intOf];omega
  . have k9:k=os.length:=(by omega);subst k9;rw [VK] at s;have HJ:=ak s;clear s C;gi_wp2;go_end0
    exact ⟨⟨_,rfl⟩,.inl HJ.o⟩
def PN {pre l:List α} {x:α} (h:pre++[x]<+:l):pre.length<l.length:=by
 have:=h.length_le;rw [Uc,abY] at this;omega
def tg (K:Nat->Prop) (n l b1:Nat) (v:ZU) (os:List Ob) (J c:a8->ZV->Prop) (g:∀ pre A B,J pre A->ZT A.heap.size A B->J pre B)
 (N:Nat) (j:∀ pre x W,J pre W->pre.length<N->YieldAt Fence.wide (n-1) ZL l (pA x) W λe b=>(e=Z4 (Z3 ZX)/\J (pre++[x]) b/\eN K W b)\/(e=Z4 (Z3 ZW)/\c (pre++[x]) b))
 (a:a8) (m:a.length+(ah os).length<=N) (W:ZV) (f:W.cell? ⟨b1,0,ZZ⟩=ZY v) (i:fa K W v os) (d:J a W) :
 CallsIn Fence.wide n ZL 144 #[.func (.yield l) #[] #[],Z7 (ZY ⟨b1,0,ZZ⟩)] W λe b=>(∃ v,e=Z4 v) /\
  ((J (a++ah os) b)\/(∃ pre,pre<+:ah os/\c (a++pre) b)):=
 lF K n l b1 v os J c g (a++ah os) (λpre x W h k=>j pre x W h (by have:=PN k;rw [Uc] at this;omega)) a (YD _) W f i d
end
def dg (D L G:Int):Bool:=decide (1<=D/\D<=12/\1<=L/\L<=4/\0<=G/\G<=4/\D%L=0/\D+L+G<=16)
def nW {a b:Bool} (h:a=b):Ending.returned (Z3 a)=Z4 (Z3 b):=by rw [h]
theorem dQ (D L G:Int) (w:ZV) (a:0<=D/\D<=100) (b:0<=L/\L<=100) (c:0<=G/\G<=100) :
 ZS ZL 9 #[.agg #[Z8 Z9 D,Z8 Z9 L,Z8 Z9 G]] w λe w'=>e=Z4 (Z8 Z9 (D+L+G))/\ZT w.heap.size w w':=by
 obtain ⟨d,f⟩:=a;obtain ⟨b1,b2⟩:=b;obtain ⟨c1,g⟩:=c;go_enter func9,ntmps9;go_wp2;go_ret;exact ⟨rfl,bA _ _⟩
theorem pB (D L G:Int) (w:ZV) :
 ZS ZL 65 #[.agg #[Z8 Z9 D,Z8 Z9 L,Z8 Z9 G]] w λe w'=>e=Z4 (Z3 (dg D L G))/\ZT w.heap.size w w':=by
 go_enter func65,ntmps65;go_wp2_with (go_at_call 9;refine (dQ D L G _ (by omega) (by omega) (by omega)).mono ?_;rintro e w' ⟨rfl,a⟩);all_goals go_ret
 . refine ⟨nW (b:=dg D L G) ?_,(bA _ _).trans (a.mono (by simp))⟩;unfold dg;rw [decide_eq_decide];constructor
   . intro h;exact ⟨by omega,by omega,by omega,by omega,by omega,by omega,by assumption,h⟩
   . intro h;exact h.2.2.2.2.2.2.2
 all_goals
  refine ⟨nW (b:=dg D L G) ?_,bA _ _⟩;unfold dg;symm;rw [decide_eq_false_iff_not];intro h;omega
theorem Eh (D L G:Int) (w:ZV) :
 ZS ZL 62 #[.agg #[Z8 Z9 D,Z8 Z9 L,Z8 Z9 G]] w λe w'=>e=Z4 (Z3 (dg D L G))/\ZT w.heap.size w w':=by
 go_enter func62,ntmps62;go_wp2;all_goals go_ret
 rotate_left
 . refine ⟨nW (b:=dg D L G) ?_,bA _ _⟩;unfold dg;rw [decide_eq_decide];constructor
   . intro h;exact ⟨by omega,by omega,by omega,by omega,by omega,by omega,by assumption,h⟩
   . intro h;exact h.2.2.2.2.2.2.2
 all_goals
  refine ⟨nW (b:=dg D L G) ?_,bA _ _⟩;unfold dg;symm;rw [decide_eq_false_iff_not];intro h;omega
theorem Ei (D L G:Int) (w:ZV) :
 ZS ZL 22 #[.agg #[Z8 Z9 D,Z8 Z9 L,Z8 Z9 G]] w λe w'=>e=Z4 (.agg #[Z8 Z9 D,Z8 Z9 L,Z8 Z9 G])/\ZT w.heap.size w w':=by
 go_enter func22,ntmps22;go_wp2;exact Uv (v:=.agg #[Z8 Z9 D,Z8 Z9 L,Z8 Z9 G]) (by simp [results,results22,go_sem]) rfl ⟨rfl,(bA _ _).alloc (by simp) _⟩
def rA (c j:Nat):Nat:=if j<16 then gm c j else gm c ((j-16)*16)
def tv (f:Nat->Nat) (j:Nat):ZU:=Z8 .u8 ((f j:Nat):Int)
def Qr {x:Int} (a b:Nat) (f:x=(a:Int)) (g:y=(b:Int)) (c:a<256) (d:b<256) (w:ZV) :
 ZS ZL 188 #[Z8 .u8 x,Z8 .u8 y] w λe w'=>e=Z4 (Z8 .u8 ((gm a b:Nat):Int))/\w'=w:=by
 subst f g;exact mj a b c d w
def fW (c n j:Nat):Nat:=if j<n then gm c j else 0
def NO (q:Nat):Prop:=q=1\/q=2\/q=4\/q=8\/q=16
def aa4 (w:ZV) (B c:Nat) (i d:ZU) (wr:ZV):Prop:=
 ∃ q:Nat,NO q/\i=Z8 Z9 q/\d=Z8 .u8 ((gm c q:Nat):Int)/\wr.rowIs (B+1) 287 16 (tv (fW c q))/\wr.rowIs B 287 16 (λ_=>Z8 .u8 0)/\ZT B w wr
def PO (w:ZV) (B c q:Nat) (i:ZU) (wr:ZV):Prop:=
 ∃ k:Nat,k<=q/\i=Z8 Z9 k/\wr.rowIs (B+1) 287 16 (tv (fW c (q+k)))/\wr.rowIs B 287 16 (λ_=>Z8 .u8 0)/\ZT B w wr
def KK (w:ZV):(w.alloc (Z5 (YI 16 (Z8 .u8 0)) 287)).rowIs w.heap.size 287 16 (λ_=>Z8 .u8 0):=by
 have h:=abZ w (YI 16 (Z8 .u8 0)) 287 (λ_=>Z8 .u8 0) (λi hi=>by simp at hi;simp [hi]);simpa using h
def Qs (w:ZV):(w.alloc (Z5 (YI 32 (Z8 .u8 0)) 321)).rowIs w.heap.size 321 32 (λ_=>Z8 .u8 0):=by
 have h:=abZ w (YI 32 (Z8 .u8 0)) 321 (λ_=>Z8 .u8 0) (λi hi=>by simp at hi;simp [hi]);simpa using h
def KL:∀ i,i<1->i^^^1=1+i:=by decide
def KM:∀ i,i<2->i^^^2=2+i:=by decide
def KN:∀ i,i<4->i^^^4=4+i:=by decide
def KO:∀ i,i<8->i^^^8=8+i:=by decide
def N3 (a:NO q) (b:q<16) (h:i<q):i^^^q=q+i:=by
 rcases a with rfl|rfl|rfl|rfl|rfl
 . exact KL i h
 . exact KM i h
 . exact KN i h
 . exact KO i h
 . omega
def Qt:∀ c,c<256->tx (gm c 1)=gm c 2:=by decide +kernel
def Qu:∀ c,c<256->tx (gm c 2)=gm c 4:=by decide +kernel
def Qv:∀ c,c<256->tx (gm c 4)=gm c 8:=by decide +kernel
def Qw:∀ c,c<256->tx (gm c 8)=gm c 16:=by decide +kernel
def aau (b:NO q) (d:q<16) (a:c<256):tx (gm c q)=gm c (q*2):=by
 rcases b with rfl|rfl|rfl|rfl|rfl
 . exact Qt c a
 . exact Qu c a
 . exact Qv c a
 . exact Qw c a
 . omega
def KQ (b:NO q) (a:q<16):NO (q*2):=by unfold NO at *;omega
def Ej (f:NO q) (d:q<16) (e:k<q) (j:Nat):tv (fW c (q+(k+1))) j=if j=q+k then Z8 .u8 ((fW c (q+k) k^^^gm c q:Nat):Int) else tv (fW c (q+k)) j:=by
 unfold tv fW;by_cases a:j=q+k
 . rw [TX a,TX (by omega),TX (by omega),<- fC,N3 f d e,a]
 . rw [TW a];by_cases b:j<q+k
   . rw [TX b,TX (by omega)]
   . rw [TW b,TW (by omega)]
def pC {f:Nat->Nat} (a:cs.size=n) (h:∀ j,j<n->cs[j]?=ZY (tv f j)):cs.all (λv=>v.oneCell')=ZX:=by
 rw [X6];intro i hi;have:=h i (by omega);rw [VP hi] at this;simp at this;rw [this];rfl
def HU {x:Int} (a:Nat) (b:x=(a:Int)) (h:a<256) (w:ZV):ZS ZL 202 #[Z8 .u8 x] w λe w'=>e=Z4 (Z8 .u8 (tx a:Int))/\w'=w:=by
 subst b;exact nl a h w
theorem KR (c n j:Nat) (a:c<256):fW c n j<256:=by
 unfold fW;split
 . exact bB _ a
 . decide
def Tryz.SE:(ZL.info? 287).map (λi=>i.size)=ZY 16:=by kernel_rfl
theorem mT (c:Nat) (m:c<256) (w:ZV) :
 ZS ZL 214 #[Z8 .u8 c] w λe w'=>∃ cs:Array ZU,e=Z4 (.agg cs)/\cs.size=16/\(∀ j,j<16->cs[j]?=ZY (tv (fW c 16) j))/\ZT w.heap.size w w':=by
 go_enter func214,ntmps214;go_wp2;go_loopw [4,0] (λi d wr=>aa4 w w.heap.size c i d wr) (λi _ _=>16-(intOf i).toNat)
 case atStart=>
  refine ⟨1,.inl rfl,rfl,by rw [eA c m],?_,?_,?_⟩
  . have h:=KK (w.alloc (Z5 (YI 16 (Z8 .u8 0)) 287));rw [Ul] at h;refine h.congr λj Q=>?_;unfold tv fW;by_cases e:j<1
    . rw [TX e,show j=0 by omega,bI];rfl
    . rw [TW e];rfl
  . exact (KK w).alloc _
  . exact (bA _ _).alloc (by rw [Ul];omega) _
 case round=>
  obtain ⟨q,n,rfl,rfl,b,f,g⟩:=hrel;have A:q<=16:=by unfold NO at n;omega
  have F:gm c q<256:=bB _ m;by_cases x:q<16
  . have W:q<=8:=(by unfold NO at n;omega);have l:=ak n;have I:=ak (show PO w w.heap.size c q (Z8 Z9 (0:Nat)) wr from ⟨0,T7 _,rfl,b,f,g⟩);clear b f g n;have X:(q:Int)<16:=(by omega);rename ZV=>wo;go_wp2;go_loopw [11] (λi wr=>PO w w.heap.size c q i wr) (λi _=>q-(intOf i).toNat)
    case atStart=>exact I.o
    case round=>
     obtain ⟨k,V,rfl,b,f,g⟩:=hrel;by_cases R:k<q
     . have c1:=b.cell (i:=k) (by omega);have L:=b.cell (i:=q+k) (by omega);have T:=b.frozen (q+k);have S:=KR c (q+k) k m;have hy:=lA _ _ S F;have B:=(b.set (q+k) (Z8 .u8 ((fW c (q+k) k^^^gm c q:Nat):Int))).congr (λj Q=>(Ej l.o x R j).symm);have C:=f.setOther (a:=⟨w.heap.size+1,q+k,ZZ⟩) (by simp) (Z8 .u8 ((fW c (q+k) k^^^gm c q:Nat):Int));have D:=g.setCell (p:=⟨w.heap.size+1,q+k,ZZ⟩) (by simp) (Z8 .u8 ((fW c (q+k) k^^^gm c q:Nat):Int));have r:=aE B C D;clear B C D b f g;unfold tv at c1 L;have N:(k:Int)<q:=(by omega);have U:(k:Int)<16:=(by omega);have Y:(q:Int)+(k:Int)<16:=(by omega);have hx:IntKind.i64.wrap ((q:Int)+(k:Int))=((q+k:Nat):Int):=(by rw [UF];omega);have Z:wrap64 ((q:Int)+(k:Int))=((q+k:Nat):Int):=(by unfold wrap64;omega);go_wp2;go_roundw
       case rel=>exact ⟨k+1,by omega,by go_num,r.o.1,r.o.2.1,r.o.2.2⟩
       case measure=>simp [intOf];omega
     . have O:k=q:=(by omega);have t:=aE b f g;clear b f g;have N:¬ ((k:Int)<q):=(by omega);go_wp2_with fail;refine (HU (gm c q) rfl F _).mono ?_;rintro e w' ⟨rfl,rfl⟩;go_wp2;go_roundw
       case rel=>exact ⟨q*2,KQ l.o x,by go_num,by rw [aau l.o x m],by have:=t.o.1;rwa [O,show q+q=q*2 by omega] at this,t.o.2.1,t.o.2.2⟩
       case measure=>have P:=l.o;unfold NO at P;simp only [intOf];omega
  . have A:q=16:=(by omega);subst A;obtain ⟨cs,E,y,u⟩:=b;obtain ⟨H,G,hz,_⟩:=f;have M:=pC y u;have K:=ak u;have hi:(ZL.info? 287).map (λi=>i.size)=ZY cs.size:=(by rw [Tryz.SE,y]);have s:=ak hi;have J:=ak E;have z:=ak G;clear u hi E G;go_wp2_with (first
     | refine YE rfl 287 (Z2 3) rfl (w.heap.size+1) rfl 287 cs (0,0) _ J.o X7 rfl s.o ?_
     | refine Wu rfl 287 (Z2 2) (Z2 26) rfl w.heap.size cs rfl rfl 287 H z.o s.o (by omega) M ?_)
    exact Uv (v:=.agg cs) (V8 results214 _ _ w.heap.size 287 cs (0,0) _ rfl (Vy _ _ H cs _ _ z.o) X7 rfl s.o) rfl ⟨cs,rfl,y,K.o,below_setRow g lR cs⟩
def Tryz.SC:(ZL.info? 321).map (λi=>i.size)=ZY 32:=by kernel_rfl
theorem Ia (c j:Nat) (a:c<256) (b:j<32):(if j<16 then fW c 16 j else fW (gm c 16) 16 (j-16))=rA c j:=by
 unfold fW rA;by_cases h:j<16
 . rw [TX h,TX h,TX h]
 . rw [TW h,TW h,TX (by omega),fE a (by decide) (by omega)];congr 1;have:∀ x,x<16->gm 16 x=x*16:=by decide +kernel
   exact this _ (by omega)
def qN (c:Nat):Array ZU:=((YF 32).map (λj=>Value.int .u8 ((if j<16 then fW c 16 j else fW (gm c 16) 16 (j-16):Nat):Int))).toArray
def ku (c:Nat):(qN c).size=32:=by unfold qN;rw [UL,Ud,UM]
def wY (c j:Nat) (b:c<256) (a:j<32):(qN c)[j]?=ZY (tv (rA c) j):=by
 unfold qN tv;simp only [Xl,UE,VU a,WR,Ia c j b a]
def Ek (c:Nat):(ZL.info? 321).map (λi=>i.size)=ZY (qN c).size:=by rw [ku,Tryz.SC]
def Bq {f:Nat->Nat} (b:cs.size=16) (h:∀ j,j<16->cs[j]?=ZY (tv f j)) :
 cs=#[tv f 0,tv f 1,tv f 2,tv f 3,tv f 4,tv f 5,tv f 6,tv f 7,tv f 8,tv f 9,tv f 10,tv f 11,tv f 12,tv f 13,tv f 14,tv f 15]:=by
 have e:cs=((YF 16).map (tv f)).toArray:=by
  refine YO (by simp [b]) λi a c=>?_;have:=h i (by omega);rw [VP a] at this;simp at this ⊢;exact this
 exact e
theorem lG (c:Nat) (b:c<256) (w:ZV) :
 ZS ZL 199 #[Z8 .u8 c] w λe w'=>∃ cs:Array ZU,e=Z4 (.agg cs)/\cs.size=32/\(∀ j,j<32->cs[j]?=ZY (tv (rA c) j))/\ZT w.heap.size w w':=by
 have C:=Qs w;have E:gm c 16<256:=bB _ b;go_enter func199,ntmps199;go_wp2_with fail;refine (mT c b _).mono ?_;rintro e w1 ⟨A,rfl,s,q,a⟩;obtain rfl:=Bq s q;clear s q;simp only [tv];go_wp2_with fail;refine (Qr c 16 rfl rfl b (by decide) _).mono ?_;rintro e w' ⟨rfl,rfl⟩;go_wp2_with fail;refine (mT (gm c 16) E _).mono ?_;rintro e w2 ⟨B,rfl,t,r,g⟩;obtain rfl:=Bq t r;clear t r;simp only [tv];obtain ⟨d,x,D,_⟩:=C;have u:w2.heap[w.heap.size]?=ZY (Z5 d 321 (0,0)):=(g.block _ (by have:=a.size;rw [Ul] at this;omega)).trans ((a.block _ (by rw [Ul];omega)).trans x);have n:=ak u;have y:cJ (ZT w.heap.size w w2):=ak (((bA w _).trans (a.mono (by rw [Ul];omega))).trans (g.mono (by have:=a.size;rw [Ul] at this;omega)));clear a g x u;have f:=ak (Ek c);have m:cJ (d.size=(qN c).size):=ak (by rw [D,ku]);have k:=ak (pC (ku c) (λj i=>wY c j b i));have l:cJ (∀ j,j<32->(qN c)[j]?=ZY (tv (rA c) j)):=ak (λj i=>wY c j b i);have p:=ak (ku c);obtain ⟨cs,h⟩:=nM (qN c);rw [h] at f m k l p;have z:=ak h;clear h;go_wp2_with (refine Wu rfl 321 (Z2 2) (Z2 8) rfl w.heap.size cs rfl (by rw [<- z.o];rfl) 321 d n.o f.o m.o k.o ?_);refine Uv (v:=.agg cs) (V8 results199 _ _ w.heap.size 321 cs (0,0) _ rfl (Vy _ _ d cs _ _ n.o) underlying321 rfl f.o) rfl ?_;exact ⟨cs,rfl,p.out,l.o,below_setRow y.o lR _⟩
def mv (w:ZV) (t c:Nat):Prop:=∀ j,j<32->w.cell? ⟨t,j,ZZ⟩=ZY (tv (rA c) j)
def N4:∀ b,b<256->b=(b%16)^^^(b/16*16):=by decide +kernel
def KS (c b:Nat) (a:b<256):rA c (b%16)^^^rA c (16+b/16)=gm c b:=by
 unfold rA;rw [TX (by omega),TW (by omega),WQ,<- fC,<- N4 b a]
theorem Gs (c j:Nat) (a:c<256):rA c j<256:=by
 unfold rA;split<;>exact bB _ a
def aav (b:Nat) (a:b<256):bits .and .u8 (b:Int) 15=((b%16:Nat):Int):=by
 rw [u8_and15 _ (by omega) (by omega)];rfl
theorem wZ (t c b:Nat) (g:c<256) (f:b<256) (w:ZV) (a:mv w t c) :
 ZS ZL 200 #[Z7 (ZY ⟨t,0,ZZ⟩),Z8 .u8 b] w λe w'=>e=Z4 (Z8 .u8 ((gm c b:Nat):Int))/\∃ m,w'=w.drewN m:=by
 have c1:=a (b%16) (by omega);have h:=a (16+b/16) (by omega);have j:=Gs c (b%16) g;have k:=Gs c (16+b/16) g;have d:=KS c b f;have l:=aav b f;have i:=lA _ _ j k;unfold tv at c1 h;rw [d] at i;clear a d;go_enter func200,ntmps200;go_wp2;go_quiet (fail);go_wp2;go_ret;exact ⟨rfl,_,rfl⟩
def gZ (g F:Nat->Nat) (c off k j:Nat):Nat:=if off<=j/\j<off+k then g j^^^gm c (F (j-off)) else g j
def AdR (w:ZV) (b t N off k c tb fb foff:Nat) (g F:Nat->Nat) (i:ZU) (wr:ZV):Prop:=
 ∃ j:Nat,j<=k/\i=Z8 Z9 j/\wr.rowIs b t N (tv (gZ g F c off j))/\mv wr tb c/\(∀ i,i<k->wr.cell? ⟨fb,foff+i,ZZ⟩=ZY (Z8 .u8 ((F i:Nat):Int)))/\w.grownBy wr (ZY b)
def El (g F:Nat->Nat) (c off j x:Nat):tv (gZ g F c off (j+1)) x=if x=off+j then Z8 .u8 ((g (off+j)^^^gm c (F j):Nat):Int) else tv (gZ g F c off j) x:=by
 unfold tv gZ;by_cases h:x=off+j
 . subst h;rw [TX rfl,TX (by omega),WQ]
 . rw [TW h];by_cases a:off<=x/\x<off+j
   . rw [TX a,TX (by omega)]
   . rw [TW a,TW (by omega)]
theorem Em (g F:Nat->Nat) (c off:Nat):gZ g F c off 0=g:=by
 funext j;unfold gZ;rw [TW (by omega)]
theorem En (g F:Nat->Nat) (off k:Nat):gZ g F 0 off k=g:=by
 funext j;unfold gZ;rw [bM,U5];split<;>rfl
def qO {t:Nat} (h:mv w t c) {a:Addr} (b:t≠a.block) (v:ZU):mv (w.setCell a v) t c:=λj d=>by
 rw [<- h j d];exact Uo (Uj _ _ _ _ b)
def np (w:ZV) {ops:Array ZP} {rest:List ZP} {o:ZP} {a:ZO} {Q:ZQ->ZO->ZV->Prop} (h:o.guard=ZZ) (x y:ZM) (ho:o.op=.store 321 x y)
 (g c:Nat) (cs old:Array ZU) (m:a.eval x=Z7 (ZY ⟨g,0,ZZ⟩)) (n:a.eval y=.agg cs) (f:w.heap[g]?=ZY (Z5 old 321 (0,0))) (hold:old.size=32) (d:cs.size=32) (b:∀ j,j<32->cs[j]?=ZY (tv (rA c) j))
 (hK:∀ w2,mv w2 g c->w.grownBy w2 (ZY g)->wpList ZL ops Q rest (a.put o.dst Z0) w2):wpList ZL ops Q (o::rest) a w:=by
 refine Wu h 321 x y ho g cs m n 321 old f (by rw [Tryz.SC,d]) (by omega) (pC d b) (hK _ ?_ ?_)
 . intro j l;rw [cell_of_row _ g j cs 321 (0,0) (Vy w g old cs _ _ f)];exact b j l
 . refine ⟨rfl,rfl,rfl,by simp,λk p i=>?_⟩;have:g≠k:=λe=>i (by rw [e]);simp [World.setRow,Vw,this]
theorem jq (b t N off n cap l d r c:Nat) (g F:Nat->Nat) (w:ZV) (C:c<256) (A:w.rowIs b t N (tv g)) (M:∀ j,g j<256) (I:∀ j,F j<256) (hn:off+n<=N) (k5:n<=140737488355328)
 (S:∀ i,i<n->w.cell? ⟨l,d+i,ZZ⟩=ZY (Z8 .u8 ((F i:Nat):Int))) (k6:l≠b\/d+n<=off\/off+n<=d) :
 ZS ZL 179 #[Z6 (ZY ⟨b,off,ZZ⟩) n cap,Z6 (ZY ⟨l,d,ZZ⟩) n r,Z8 .u8 c] w λe w'=>e=Z4 (Z1 #[])/\w'.rowIs b t N (tv (gZ g F c off n))/\w.grownBy w' (ZY b):=by
 by_cases G:c=0
 . subst G;go_enter func179,ntmps179;go_wp2;exact Uv (v:=Z1 #[]) (by simp [results,results179]) rfl ⟨rfl,by rw [En];exact A,Ws _ _⟩
 . have kc:((c:Int)==0)=ZW:=(by rw [beq_eq_false_iff_ne];omega);clear G;go_enter func179,ntmps179;go_wp2_with fail;refine (lG c C _).mono ?_;rintro e w1 ⟨cs,rfl,ka,H,p⟩;have k9:=p.size;go_wp2_with (refine np _ rfl (Z2 6) (Z2 11) rfl w1.heap.size c cs _ rfl rfl (UN w1 _) rfl ka H ?_;intro w2 L q);have O:b<w.heap.size:=A.lt;have h:w.grownBy w2 ZZ:=by
    refine ⟨q.os.trans p.os,q.tape.trans p.tape,q.output.trans p.output,?_,λk D _=>?_⟩
    . have:=q.size;rw [Ul] at this;omega
    . rw [q.block k (by rw [Ul];omega) (by intro e;simp at e;omega),Uy _ _ _ (by omega),p.block k D]
   have U:w2.rowIs b t N (tv g):=A.of_block (h.block b O (by simp));have Q:∀ i,i<n->w2.cell? ⟨l,d+i,ZZ⟩=ZY (Z8 .u8 ((F i:Nat):Int)):=λi hi=>by
    have:=S i hi;exact h.cell this (by simp)
   have X:w.grownBy w2 (ZY b):=⟨h.os,h.tape,h.output,h.size,λk D _=>h.block k D (by simp)⟩;have kb:w1.heap.size≠b:=(by omega);clear q h A S H p k9 O;go_loopw [17] (λi wr=>AdR w b t N off n c w1.heap.size l d g F i wr) (λi _=>n-(intOf i).toNat)
   case atStart=>exact ⟨0,T7 _,rfl,by rw [Em];exact U,L,Q,X⟩
   case round=>
    clear L Q X U;obtain ⟨j,P,rfl,s,u,z,B⟩:=hrel;by_cases k8:j<n
    . have c1:=s.cell (i:=off+j) (by omega);have f1:=s.frozen (off+j);have Z:=z j k8;have E:tv (gZ g F c off j) (off+j)=Z8 .u8 ((g (off+j):Nat):Int):=(by unfold tv gZ;rw [TW (by omega)]);rw [E] at c1;have V:=lA (g (off+j)) (gm c (F j)) (M _) (bB _ C);have W:=(s.set (off+j) (Z8 .u8 ((g (off+j)^^^gm c (F j):Nat):Int))).congr (λx _=>(El g F c off j x).symm);have K:=qO u (a:=⟨b,off+j,ZZ⟩) kb (Z8 .u8 ((g (off+j)^^^gm c (F j):Nat):Int));have T:=eL B (off+j) (Z8 .u8 ((g (off+j)^^^gm c (F j):Nat):Int));have R:∀ i,i<n->(wr.setCell ⟨b,off+j,ZZ⟩ (Z8 .u8 ((g (off+j)^^^gm c (F j):Nat):Int))).cell? ⟨l,d+i,ZZ⟩=ZY (Z8 .u8 ((F i:Nat):Int)):=λi hi=>by
       rw [<- z i hi];by_cases k0:l=b
       . exact ab0 _ _ _ _ (by intro e;have h1:off+j=d+i:=UB Addr.off e;omega)
       . exact Uo (Uj _ _ _ _ k0)
      have J:=I j;have f:=a5 W K R T;have Y:=ak u;generalize F j=y at Z V J f;generalize g (off+j)=x at c1 V f;clear E W K T R s u z B M I;go_wp2;go_region_with ((go_at_call 200;refine (wZ w1.heap.size c y C J _ (by exact λj P=>Y.o j P)).mono ?_;rintro e w' ⟨rfl,m,rfl⟩));all_goals
       go_wp2;go_roundw
       case rel=>exact ⟨j+1,by omega,by go_num,f.o.1,f.o.2.1,f.o.2.2.1,⟨f.o.2.2.2.os,f.o.2.2.2.tape,f.o.2.2.2.output,f.o.2.2.2.size,f.o.2.2.2.block⟩⟩
       case measure=>simp [intOf];omega
    . have k7:j=n:=(by omega);subst k7;clear u z;go_wp2;go_end0
      exact ⟨rfl,s,B⟩
def Br (D:List a8) (l:a8):Prop:=l.length=(D.getD 0 []).length/\l.length<=4096
def Fit (D:List a8):Prop:=∀ i (hi:i<D.length),Br D D[i]
def EvR (D:List a8) (i:ZU):Prop:=∃ k:Nat,k<=D.length/\i=Z8 Z9 k/\∀ j (hj:j<D.length),j<k->Br D D[j]
def Qx (D:List a8) (w:ZV) (e:ZR) (w':ZV):Prop:=∃ r:Bool,e=Z4 (Z3 r)/\(r=ZX↔Fit D)/\w'=w
theorem KT (x:ZU) (D:List a8) (w:ZV) (G:Rd w x D) (g:0<D.length) :
 ZS ZL 203 #[x] w λe w'=>Qx D w e w':=by
 rcases G.cases with ⟨rfl,_⟩|⟨b,off,c,rfl,hl,l⟩
 . simp at g
 obtain ⟨u0,t,E⟩:=l 0 g;obtain ⟨B,c0,rfl,l1,H,_,_⟩:=E;have r:(D.getD 0 []).length=(D[0]).length:=by simp [g]
 have C:(D[0]).length<=140737488355328:=by omega
 rw [<- r] at t C;rw [VV] at t;have y:=ak l;clear l l1 H r;go_enter func203,ntmps203;go_wp2;go_loop [7] (λi=>EvR D i) (λi=>D.length-(intOf i).toNat)
 case atStart=>exact ⟨0,T7 _,rfl,λj m h=>absurd h (by omega)⟩
 case round=>
  obtain ⟨k,N,rfl,d⟩:=hrel;by_cases s:k<D.length
  . obtain ⟨u,O,F⟩:=y.o k s;obtain ⟨K,J,rfl,n,p,_,_⟩:=F;have M:(D[k]).length<=140737488355328:=(by omega);by_cases a:Br D D[k]
    . have t1:((((D[k]).length:Nat):Int) != (((D.getD 0 []).length:Nat):Int))=ZW:=(by rw [a.1];simp);have I:¬ (4096:Int)<(((D[k]).length:Nat):Int):=(by have:=a.2;omega);have A:cJ (∀ j (m:j<D.length),j<k+1->Br D D[j]):=by
       intro j m L;by_cases e:j=k
       . subst e;exact a
       . exact d j m (by omega)
      generalize (D.getD 0 []).length=n0 at *;generalize (D[k]).length=v at *;clear d a n p;go_wp2;go_round
      case rel=>exact ⟨k+1,by omega,by go_num,A.o⟩
      case measure=>simp [intOf];omega
    . have q:cJ (¬ Fit D):=λh=>a (h k s);by_cases f:(D[k]).length=(D.getD 0 []).length
      . have t1:((((D[k]).length:Nat):Int) != (((D.getD 0 []).length:Nat):Int))=ZW:=(by rw [f];simp);have I:(4096:Int)<(((D[k]).length:Nat):Int):=by
         have:¬ (D[k]).length<=4096:=λh=>a ⟨f,h⟩;omega
        generalize (D.getD 0 []).length=n0 at *;generalize (D[k]).length=v at *;clear d a f n p;go_wp2;go_ret;exact ⟨ZW,rfl,⟨λh=>by simp at h,λh=>absurd h q.o⟩,rfl⟩
      . have t1:((((D[k]).length:Nat):Int) != (((D.getD 0 []).length:Nat):Int))=ZX:=(by rw [bne_iff_ne];omega);generalize (D.getD 0 []).length=n0 at *;generalize (D[k]).length=v at *;clear d a f n p;go_wp2;go_ret;exact ⟨ZW,rfl,⟨λh=>by simp at h,λh=>absurd h q.o⟩,rfl⟩
  . have z:cJ (Fit D):=λi hi=>d i hi (by omega);clear d;go_wp2;go_ret;exact ⟨ZX,rfl,⟨λ_=>z.o,λ_=>rfl⟩,rfl⟩
def Bt (b k:Nat) (a:b<65536):(bits .and .i64 ((b:Int)/2^k) 1==1)=decide (b/2^k%2=1):=by
 have h:b/2^k<2^62:=Xj (VT _ _) (Xa a (by decide));have e:=Gh (b/2^k) 1 h (by decide);rw [Qh] at e;have c:((b/2^k:Nat):Int)=(b:Int)/2^k:=by simp
 rw [c,show ((1:Nat):Int)=1 from rfl] at e;rw [e,Yu];simp;omega
def Qy (a b k:Nat) (d:a<256) (g:k<8) (h:b/2^k%2=1) :
 bits .xor .i64 (pm a b k:Int) (wrap64 ((a:Int)*2^k))=(pm a b (k+1):Int):=by
 have c:2^k<=2^7:=U9 (by decide) (by omega);have f:a*2^k<=256*2^7:=Xm (by omega) c;have i:=PI a b d k (by omega);have e:wrap64 ((a:Int)*2^k)=((a*2^k:Nat):Int):=by
  have:((a*2^k:Nat):Int)=(a:Int)*2^k:=by simp
  rw [<- this];unfold wrap64;omega
 rw [e,zy _ _ (by omega) (by omega)];simp only [pm,h,if_true]
def aaw (a b k:Nat) (h:¬ b/2^k%2=1):(pm a b k:Int)=(pm a b (k+1):Int):=by
 simp only [pm,h,if_false]
theorem aax (k p:Nat) (b:k<=6) (a:p<65536):(if p/2^(k+8)%2=1 then p^^^(285*2^k) else p)<65536:=by
 split
 . refine Wc (n:=16) a ?_;have:2^k<=2^6:=U9 (by decide) b;omega
 . exact a
def Qz (k p:Nat) (a:k<=6) (c:p<65536) (h:p/2^(k+8)%2=1) :
 bits .xor .i64 (p:Int) (wrap64 (285*2^k))=((if p/2^(k+8)%2=1 then p^^^(285*2^k) else p:Nat):Int):=by
 have b:2^k<=2^6:=U9 (by decide) a;have e:wrap64 (285*2^k)=((285*2^k:Nat):Int):=by
  have:((285*2^k:Nat):Int)=285*2^k:=by simp
  rw [<- this];unfold wrap64;omega
 rw [TX h,e,zy _ _ (by omega) (by omega)]
theorem th (a b:Nat) (f:a<256) (z:b<256) (w:ZV) :
 ZS ZL 64 #[Z8 .u8 a,Z8 .u8 b] w λe w'=>e=Z4 (Z8 .u8 (gm a b))/\w'=w:=by
 go_enter func64,ntmps64;go_wp2;go_loop [5,7] (λs t=>∃ k:Nat,k<=8/\s=Z8 Z9 (pm a b k)/\t=Z8 Z9 k) (λ_ t=>8-(intOf t).toNat)
 case atStart=>exact ⟨0,by decide,rfl,rfl⟩
 case round=>
  obtain ⟨k,A,rfl,rfl⟩:=hrel;have B:=PI a b f k A;by_cases y:k<8
  . have d:=Bt b k (by omega);by_cases c:b/2^k%2=1
    . rw [U1 c] at d;have i:=Qy a b k f y c;clear c;go_wp2;go_round
      case rel=>exact ⟨k+1,by omega,rfl,by go_num⟩
      case measure=>simp [intOf];omega
    . rw [Vz c] at d;have r:cJ (¬ b/2^k%2=1):=c;clear c;go_wp2;go_round
      case rel=>exact ⟨k+1,by omega,by rw [aaw a b k r.o],by go_num⟩
      case measure=>simp [intOf];omega
  . have x:k=8:=(by omega);subst x;have m := @Qa a b f z;have u:cJ (rd 7 (pm a b 8)=gm a b):=m;clear m;generalize pm a b 8=p at *;go_wp2;go_loop [5,8] (λs t=>∃ j p:Nat,j<=7/\p<65536/\cJ (rd j p=gm a b)/\s=Z8 Z9 p/\t=Z8 Z9 ((j+7:Nat):Int)) (λ_ t=>(intOf t).toNat)
    case atStart=>exact ⟨7,p,by decide,B,u,rfl,rfl⟩
    case round=>
     obtain ⟨j,q,C,g,n,rfl,rfl⟩:=hrel;cases j with
     | zero=>
      have hl := @bB a b f;go_wp2;go_ret;exact ⟨j7 (by have:=n.out;simp only [rd] at this;omega),rfl⟩
     | succ j=>
      have hl:=aax j q (by omega) g;have d:=Bt q (j+1+7) g;have l:cJ (rd j (if q/2^(j+8)%2=1 then q^^^(285*2^j) else q)=gm a b):=n.out;by_cases c:q/2^(j+8)%2=1
      . rw [show j+8=j+1+7 from rfl] at c;rw [U1 c] at d;have i:=Qz j q (by omega) g c;have v:=ak i;have h:=ak hl;clear c i hl;go_wp2;go_round
        case rel=>exact ⟨j,_,by omega,h.o,l,by rw [v.o],by go_num⟩
        case measure=>simp [intOf];omega
      . have h:cJ (rd j q=gm a b):=(by have:=l.out;rw [TW c] at this;exact this);rw [show j+8=j+1+7 from rfl] at c;rw [Vz c] at d;clear c hl;go_wp2;go_round
        case rel=>exact ⟨j,q,by omega,g,h,rfl,by go_num⟩
        case measure=>simp [intOf];omega
theorem Bu (a:Nat) (b:a<256) (w:ZV) :
 ZS ZL 63 #[Z8 .u8 a] w λe w'=>e=Z4 (Z8 .u8 (gi a))/\w'=w:=by
 go_enter func63,ntmps63;go_wp2;go_loop [3] (λs=>∃ k:Nat,1<=k/\k<=256/\cJ (∀ c,1<=c->c<k->gm a c≠1)/\s=Z8 Z9 k) (λs=>256-(intOf s).toNat)
 case atStart=>exact ⟨1,by decide,by decide,(λc h n=>absurd h (by omega)),rfl⟩
 case round=>
  obtain ⟨k,t,u,f,rfl⟩:=hrel;by_cases i:k<256
  . have r:(k:Int)%256=(k:Int):=(by omega);by_cases d:gm a k=1
    . have j:=Hf b i d;have l:=ak j;have q:((gm a k:Int)==1)=ZX:=(by rw [d];rfl);clear j d;go_wp2_with (go_at_call 64;refine (th a k b i _).mono ?_;rintro e w' ⟨rfl,rfl⟩);go_ret;exact ⟨j7 (by rw [<- l.o]),rfl⟩
    . have p:cJ (∀ c,1<=c->c<k+1->gm a c≠1):=by
       intro c h n;by_cases e:c=k
       . rw [e];exact d
       . exact f.out c h (by omega)
      have q:((gm a k:Int)==1)=ZW:=(by rw [beq_eq_false_iff_ne];omega);clear d f;go_wp2_with (go_at_call 64;refine (th a k b i _).mono ?_;rintro e w' ⟨rfl,rfl⟩);go_round
      case rel=>exact ⟨k+1,by omega,by omega,p,by go_num⟩
      case measure=>simp [intOf];omega
  . have m:cJ (0=gi a):=by
     by_cases e:a=0
     . rw [e,NQ];exact (rfl:(0:Nat)=0)
     . have g:=sI a b e;have hl:=iF b;refine absurd g (f.out (gi a) ?_ (by omega));rcases WU (gi a) with z|z
       . rw [z,bI] at g;exact absurd g (by decide)
       . exact z
    clear f;go_wp2;go_ret;exact ⟨j7 (by rw [<- m.out];rfl),rfl⟩
def dr (D i:Nat):a8:=(YG D 0).set i 1
theorem Bv (D L G i:Nat) (f:D<=12) (hi:i<D) (w:ZV) :
 ZS ZL 157 #[.agg #[Z8 Z9 D,Z8 Z9 L,Z8 Z9 G],Z8 Z9 i] w λe w'=>∃ b,e=Z4 (Z6 (ZY ⟨b,0,ZZ⟩) D D)/\w.heap.size<=b/\aM w' b (dr D i)/\ZT w.heap.size w w':=by
 go_enter func157,ntmps157;go_wp2_with (at_make;refine cU _ rfl (Z2 7) (Z2 7) rfl D D rfl rfl rfl (by omega) ?_;intro w1 a c d;rw [Ul] at a c d;have g:=a.cell i (by simpa using hi);have h:=a.frozen i);go_ret;refine ⟨w.heap.size+1,rfl,by omega,?_,?_⟩
 . exact a.set i 1
 . exact ((bA _ _).trans (c.mono (by omega))).setCell (by simp) _
def dC (D L g:Nat):a8:=(YF D).map λj=>if g*(D/L)<=j/\j<(g+1)*(D/L) then 1 else 0
def fh (D s k:Nat):a8:=(YF D).map λj=>if s<=j/\j<k then 1 else 0
theorem mV (D s:Nat):fh D s s=YG D 0:=by
 unfold fh;apply Ve
 . simp
 . intro i a b;simp
theorem nX (D s k:Nat) (d:s<=k):(fh D s k).set k 1=fh D s (k+1):=by
 unfold fh;apply Ve
 . simp
 . intro i b c;simp [YH];by_cases e:k=i
   . subst e;simp;omega
   . simp only [TW e];by_cases a:s<=i/\i<k
     . rw [TX a,TX ⟨a.1,by omega⟩]
     . rw [TW a,TW (by omega)]
def By {D L:Nat} (a:D%L=0) (b:g<L):(g+1)*(D/L)<=D:=by
 have:(g+1)*(D/L)<=L*(D/L):=WV _ b;have:L*(D/L)=D:=Nat.mul_div_cancel' (Nat.dvd_of_mod_eq_zero a);omega
theorem zF (D L G g:Nat) (F:D<=12) (H:1<=L) (I:L<=4) (n:D%L=0) (z:g<L) (w:ZV) :
 ZS ZL 158 #[.agg #[Z8 Z9 D,Z8 Z9 L,Z8 Z9 G],Z8 Z9 g] w λe w'=>∃ b,e=Z4 (Z6 (ZY ⟨b,0,ZZ⟩) D D)/\w.heap.size<=b/\aM w' b (dC D L g)/\ZT w.heap.size w w':=by
 have N:=By n z;have O:D/L<=D:=VT _ _;have f:dC D L g=fh D (g*(D/L)) ((g+1)*(D/L)):=rfl;have C:wrap64 ((D:Int)/(L:Int))=((D/L:Nat):Int):=by
  rw [<- X4];exact iL (by omega)
 generalize D/L=q at *;have u:g*q<=(g+1)*q:=WV _ (by omega);have m:wrap64 ((g:Int)*(q:Int))=((g*q:Nat):Int):=by
  rw [<- XG];unfold wrap64;omega
 have E:wrap64 (((g:Int)+1)*(q:Int))=(((g+1)*q:Nat):Int):=by
  have:((g:Int)+1)*(q:Int)=(((g+1)*q:Nat):Int):=by push_cast;rfl
  rw [this];unfold wrap64;omega
 generalize g*q=s at *;generalize (g+1)*q=t at *;have l:=ak f;clear f;go_enter func158,ntmps158;go_wp2_with (at_make;refine cU _ rfl (Z2 9) (Z2 9) rfl D D rfl rfl rfl (by omega) ?_;intro w1 d a B;rw [Ul] at d a B;have A:=a.cell (p:=⟨w.heap.size,0,ZZ⟩) (by simp);have y:=a.cell (p:=⟨w.heap.size,1,ZZ⟩) (by simp));rw [<- mV D s] at d;go_loopw [7] (λi wr=>∃ k:Nat,s<=k/\k<=t/\i=Z8 Z9 k/\aM wr (w.heap.size+1) (fh D s k)/\ZT w.heap.size w wr) (λi _=>t-(intOf i).toNat)
 case atStart=>exact ⟨s,TY _,u,by rw [m],d,(bA _ _).trans (a.mono (by omega))⟩
 case round=>
  obtain ⟨k,v,K,rfl,c,j⟩:=hrel;clear d a A y;by_cases hi:k<t
  . have J:=c.cell k (by simp [fh];omega);have M:=c.frozen k;have h:=c.set k 1;rw [nX _ _ _ v] at h;have r:=j.setCell (p:=⟨w.heap.size+1,k,ZZ⟩) (by simp) (Z8 .u8 1);go_wp2;go_roundw
    case rel=>exact ⟨k+1,by omega,by omega,by go_num,h,r⟩
    case measure=>simp [intOf];omega
  . have x:k=t:=(by omega);subst x;go_wp2;go_ret;exact ⟨w.heap.size+1,rfl,by omega,by rw [l.o];exact c,j⟩
def dm (D i:Nat):a8:=(YF D).map λj=>gi ((D+i)^^^j)
def eE (D i k:Nat):a8:=(YF D).map λj=>if j<k then gi ((D+i)^^^j) else 0
theorem lH (D i:Nat):eE D i 0=YG D 0:=by
 unfold eE;apply Ve
 . simp
 . intro j a b;simp
theorem nY (D i:Nat):eE D i D=dm D i:=by
 unfold eE dm;apply Ve
 . simp
 . intro j a b;simp at a;simp [a]
theorem mW (D i k:Nat):(eE D i k).set k (gi ((D+i)^^^k))=eE D i (k+1):=by
 unfold eE;apply Ve
 . simp
 . intro j b c;simp [YH];by_cases e:k=j
   . subst e;simp
   . simp only [TW e];by_cases a:j<k
     . rw [TX a,TX (by omega)]
     . rw [TW a,TW (by omega)]
theorem Bz (D i j:Nat) (a:D<=12) (hi:i<=4) (b:j<D):(D+i)^^^j<256/\bits .xor .i64 ((D:Int)+(i:Int)) (j:Int)=(((D+i)^^^j:Nat):Int):=by
 refine ⟨rp (by omega) (by omega),?_⟩;have:=zy (D+i) j (by omega) (by omega);rw [<- this];congr 1
theorem vQ (D L G i:Nat) (s:D<=12) (hi:i<=4) (w:ZV) :
 ZS ZL 159 #[.agg #[Z8 Z9 D,Z8 Z9 L,Z8 Z9 G],Z8 Z9 i] w λe w'=>∃ b,e=Z4 (Z6 (ZY ⟨b,0,ZZ⟩) D D)/\w.heap.size<=b/\aM w' b (dm D i)/\ZT w.heap.size w w':=by
 go_enter func159,ntmps159;go_wp2_with (at_make;refine cU _ rfl (Z2 8) (Z2 8) rfl D D rfl rfl rfl (by omega) ?_;intro w1 c d t;rw [Ul] at c d t;have f:=d.cell (p:=⟨w.heap.size,0,ZZ⟩) (by simp));rw [<- lH D i] at c;simp at f;go_loopw [12] (λj wr=>∃ k:Nat,k<=D/\j=Z8 Z9 k/\aM wr (w.heap.size+1) (eE D i k)/\wr.cell? ⟨w.heap.size,0,ZZ⟩=ZY (Z8 Z9 D)/\ZT w.heap.size w wr) (λj _=>D-(intOf j).toNat)
 case atStart=>exact ⟨0,T7 _,rfl,c,f,(bA _ _).trans (d.mono (by omega))⟩
 case round=>
  obtain ⟨k,A,rfl,a,q,h⟩:=hrel;clear c d f;by_cases n:k<D
  . have y:=a.cell k (by simp [eE];omega);have z:=a.frozen k;obtain ⟨r,u⟩:=Bz D i k s hi n;have g:=a.set k (gi ((D+i)^^^k));rw [mW] at g;have l:=h.setCell (p:=⟨w.heap.size+1,k,ZZ⟩) (by simp) (Z8 .u8 (gi ((D+i)^^^k)));have o:(wr.setCell ⟨w.heap.size+1,k,ZZ⟩ (Z8 .u8 (gi ((D+i)^^^k)))).cell? ⟨w.heap.size,0,ZZ⟩=ZY (Z8 Z9 D):=(by rw [<- q];exact Uo (Uj _ _ _ _ (by simp)));generalize (D+i)^^^k=x at *;have v:(x:Int)<256:=(by omega);go_wp2_with (go_at_call 187;refine (rS x r _).mono ?_;rintro e w' ⟨rfl,rfl⟩);go_roundw
    case rel=>exact ⟨k+1,by omega,by go_num,g,o,l⟩
    case measure=>simp [intOf];omega
  . have m:k=D:=(by omega);subst m;rw [nY] at a;go_wp2;go_ret;exact ⟨w.heap.size+1,rfl,by omega,a,h⟩
def aR (D L G:Nat):List a8:=(YF D).map (dr D)++(YF L).map (dC D L)++(YF G).map (dm D)
def cQ (T:List (Nat×Nat×a8)) (D:Nat) (M:List a8):Prop:=T.map (λp=>p.2)=M.map (λr=>(D,r))
def cQ.push {D:Nat} (h:cQ T D M) (b:Nat) (r:a8):cQ (T++[(b,D,r)]) D (M++[r]):=by
 unfold cQ at *;simp [h]
def cQ.length {D:Nat} (h:cQ T D M):T.length=M.length:=by
 have:=UB YK h;simpa using this
def BA (D i:Nat):(dr D i).length=D/\∀ x∈dr D i,x<256:=by
 refine ⟨by simp [dr],λx a=>?_⟩;rcases X8 a with h|h
 . have:=VM h;omega
 . omega
theorem xt (D L g:Nat):(dC D L g).length=D/\∀ x∈dC D L g,x<256:=by
 refine ⟨by simp [dC],λx a=>?_⟩;obtain ⟨j,_,rfl⟩:=Ua.1 a;split<;>decide
def ti (D i:Nat) (c:D<=12) (hi:i<=4):(dm D i).length=D/\∀ x∈dm D i,x<256:=by
 refine ⟨by simp [dm],λx b=>?_⟩;obtain ⟨j,a,rfl⟩:=Ua.1 b;exact iF (rp (by omega) (by have:=UA.1 a;omega))
def ez.append {D:Nat} {r:a8} {o:Obj} (h:ez w base v T) (g:ZT w.heap.size w w1) (k:base<=w.heap.size) (l:w.heap.size<=b) (f:aM w1 b r) (a:r.length=D/\∀ x∈r,x<256) (m:D<=1000000)
 (i:(w1.alloc o).grownBy w2 v.ownBlock) (c:w2.ownsRow base 40 1 v' (T.length+1) (T.map fY++[Z6 (ZY ⟨b,0,ZZ⟩) D D])):ez w2 base v' (T++[(b,D,r)]):=by
 have d:=(h.below g).alloc o;refine d.push i (p:=(b,D,r)) ?_ ⟨by show base<=b;omega,f.alloc o,by show D<=r.length;omega,⟨by show D<=140737488355328;omega,by show r.length<=9223372036854775807;omega⟩,a.2⟩ ?_
 . have e:fY (b,D,r)=Z6 (ZY ⟨b,0,ZZ⟩) D D:=(by unfold fY;simp [a.1]);rw [e];exact c
 . intro q j;have:=(h.row q j).2.1.lt;show q.1≠b;omega
def cV {wx:ZV} {a b c:ZU} (h:ZT (w.heap.size+1) (w.alloc (Z5 #[a,b,c] t)) wx) :
 wx.cell? ⟨w.heap.size,0,ZZ⟩=ZY a/\wx.cell? ⟨w.heap.size,1,ZZ⟩=ZY b/\wx.cell? ⟨w.heap.size,2,ZZ⟩=ZY c:=by
 have d:=h.cell (p:=⟨w.heap.size,0,ZZ⟩) (by simp);have e:=h.cell (p:=⟨w.heap.size,1,ZZ⟩) (by simp);have f:=h.cell (p:=⟨w.heap.size,2,ZZ⟩) (by simp);rw [World.cell?_alloc_at _ _ _ _ rfl] at d e f;exact ⟨d,e,f⟩
def Eo {wa wb:ZV} (c:ZT B w0 wa) (b:B<=wa.heap.size) (a:ZT wa.heap.size wa wb) (d:wb.grownBy wc ZZ):ZT B w0 wc:=
 (c.trans (a.mono b)).grown d (by have:=a.size;omega) (λk e=>by simp at e)
def ez.made (h:wc.ownsRow base 40 1 (Z6 (ZY ⟨g,0,ZZ⟩) 0 cap) 0 []):ez wc base (Z6 (ZY ⟨g,0,ZZ⟩) 0 cap) []:=
 ⟨h,λp a=>by simp at a,by simp⟩
def cQ.nil (D:Nat):cQ [] D []:=rfl
def gd (f:Nat->α) (k:Nat):(YF (k+1)).map f=(YF k).map f++[f k]:=by
 rw [VF,UD];rfl
theorem kA (D L G:Nat) (X:dg D L G=ZX) (E:D<=12) (S:1<=L) (V:L<=4) (W:G<=4) (U:D%L=0) (w:ZV) :
 ZS ZL 122 #[.agg #[Z8 Z9 D,Z8 Z9 L,Z8 Z9 G]] w λe w'=>∃ v T,e=Z4 (Z1 #[v,.nilIface])/\ez w' (w.heap.size+1) v T/\cQ T D (aR D L G)/\ZT w.heap.size w w':=by
 obtain ⟨J,hi,F,H,I⟩:=Uu Tryz.R4;go_enter func122,ntmps122;go_wp2_with fail;refine (pB D L G _).mono ?_;rintro e wa ⟨rfl,y⟩;rw [Ul] at y;have R:=y.size;rw [Ul] at R;obtain ⟨p,q,r⟩:=cV y;go_wp2_with fail;refine (dQ D L G _ (by omega) (by omega) (by omega)).mono ?_;rintro e wb ⟨rfl,K⟩;have Y:=K.size;clear p q r;go_wp2_with (at_make;refine ab1 _ rfl (.const (Z8 Z9 0)) (Z2 13) 108 rfl (w.heap.size+1) 40 J (Z6 ZZ 0 0) 1 VW hi F H .i64 .i64 (D+L+G) (D+L+G) rfl rfl (by omega) (by rw [I];omega) (by unfold maxLen;omega) (by omega) ?_;intro wc P N;have M:=Eo y R K N;obtain ⟨p,q,r⟩:=cV M);have a:=ez.made P;have Z:=N.size;clear P N y K;generalize Value.slice (ZY ⟨wb.heap.size,0,ZZ⟩) 0 (D+L+G)=v0 at *;go_loopw [4,17] (λv i wr=>∃ k T,k<=D/\i=Z8 Z9 (k:Nat)/\ez wr (w.heap.size+1) v T/\cQ T D ((YF k).map (dr D))/\ZT (w.heap.size+1) (w.alloc (Z5 #[Z8 Z9 D,Z8 Z9 L,Z8 Z9 G] 27)) wr/\w.heap.size+1<=wr.heap.size) (λ_ i _=>D-(intOf i).toNat)
 case atStart=>exact ⟨0,[],T7 _,rfl,a,cQ.nil D,M,by omega⟩
 case round=>
  clear a M p q r;obtain ⟨k,T,C,rfl,a,d,f,j⟩:=hrel;obtain ⟨p,q,r⟩:=cV f;by_cases s:k<D
  . have m:=d.length;rw [Ud,UM] at m;have O:T.length<=12:=(by omega);clear m;have h:=ak d;clear d;go_wp2_with fail;refine (Bv D L G k E s _).mono ?_;rintro e w1 ⟨b,rfl,u,n,c⟩;have Q:=c.size;go_wp2_with (at_builtin;refine WA _ rfl (Z2 20) (Z2 24) 108 rfl (w.heap.size+1) 40 J (Z6 ZZ 0 0) 1 24 VW hi F H I rfl (by decide) _ T.length (T.map fY) rfl ((a.below c).alloc _).own ⟨w1.heap.size,0,ZZ⟩ 1 1 [Z6 (ZY ⟨b,0,ZZ⟩) D D] rfl rfl (Yy _ _ _) (by simp [Value.oneCell']) (by unfold maxLen;omega) (by omega) (by rw [Ul];omega) ?_;intro v' w2 l g A);have t:=ez.append a c j u n (BA D k) (by omega) g l;have x:=dP a f c j g;have B:=g.size;rw [Ul] at B;clear a l g A n c f;go_roundw
    case rel=>exact ⟨k+1,_,by omega,by go_num,t,by rw [gd];exact h.o.push b _,x,by omega⟩
    case measure=>simp [intOf];omega
  . have z:D=k:=(by omega);clear s C;subst z;have h:=ak d;clear d;go_wp2_with fail;go_loopw [4,29] (λv i wr=>∃ k T,k<=L/\i=Z8 Z9 (k:Nat)/\ez wr (w.heap.size+1) v T/\cQ T D ((YF D).map (dr D)++(YF k).map (dC D L))/\ZT (w.heap.size+1) (w.alloc (Z5 #[Z8 Z9 D,Z8 Z9 L,Z8 Z9 G] 27)) wr/\w.heap.size+1<=wr.heap.size) (λ_ i _=>L-(intOf i).toNat)
    case atStart=>exact ⟨0,T,T7 _,rfl,a,by rw [abu,Vh,Wk];exact h.o,f,j⟩
    case round=>
     clear a f p q r h j;obtain ⟨k,T,C,rfl,a,d,f,j⟩:=hrel;obtain ⟨p,q,r⟩:=cV f;by_cases s:k<L
     . have m:=d.length;simp only [Uc,Ud,UM] at m;have O:T.length<=20:=(by omega);clear m;have h:=ak d;clear d;go_wp2_with fail;refine (zF D L G k E S V U s _).mono ?_;rintro e w1 ⟨b,rfl,u,n,c⟩;have Q:=c.size;go_wp2_with (at_builtin;refine WA _ rfl (Z2 32) (Z2 36) 108 rfl (w.heap.size+1) 40 J (Z6 ZZ 0 0) 1 24 VW hi F H I rfl (by decide) _ T.length (T.map fY) rfl ((a.below c).alloc _).own ⟨w1.heap.size,0,ZZ⟩ 1 1 [Z6 (ZY ⟨b,0,ZZ⟩) D D] rfl rfl (Yy _ _ _) (by simp [Value.oneCell']) (by unfold maxLen;omega) (by omega) (by rw [Ul];omega) ?_;intro v' w2 l g A);have t:=ez.append a c j u n (xt D L k) (by omega) g l;have x:=dP a f c j g;have B:=g.size;rw [Ul] at B;clear a l g A n c f;go_roundw
       case rel=>exact ⟨k+1,_,by omega,by go_num,t,by rw [gd,<- UC];exact h.o.push b _,x,by omega⟩
       case measure=>simp [intOf];omega
     . have z:L=k:=(by omega);clear s C;subst z;have h:=ak d;clear d;go_wp2_with fail;go_loopw [4,41] (λv i wr=>∃ k T,k<=G/\i=Z8 Z9 (k:Nat)/\ez wr (w.heap.size+1) v T/\cQ T D (((YF D).map (dr D)++(YF L).map (dC D L))++(YF k).map (dm D))/\ZT (w.heap.size+1) (w.alloc (Z5 #[Z8 Z9 D,Z8 Z9 L,Z8 Z9 G] 27)) wr/\w.heap.size+1<=wr.heap.size) (λ_ i _=>G-(intOf i).toNat)
       case atStart=>exact ⟨0,T,T7 _,rfl,a,by rw [abu,Vh,Wk];exact h.o,f,j⟩
       case round=>
        clear a f p q r h j;obtain ⟨k,T,C,rfl,a,d,f,j⟩:=hrel;obtain ⟨p,q,r⟩:=cV f;by_cases s:k<G
        . have m:=d.length;simp only [Uc,Ud,UM] at m;have O:T.length<=20:=(by omega);clear m;have h:=ak d;clear d;go_wp2_with fail;refine (vQ D L G k E (by omega) _).mono ?_;rintro e w1 ⟨b,rfl,u,n,c⟩;have Q:=c.size;go_wp2_with (at_builtin;refine WA _ rfl (Z2 44) (Z2 48) 108 rfl (w.heap.size+1) 40 J (Z6 ZZ 0 0) 1 24 VW hi F H I rfl (by decide) _ T.length (T.map fY) rfl ((a.below c).alloc _).own ⟨w1.heap.size,0,ZZ⟩ 1 1 [Z6 (ZY ⟨b,0,ZZ⟩) D D] rfl rfl (Yy _ _ _) (by simp [Value.oneCell']) (by unfold maxLen;omega) (by omega) (by rw [Ul];omega) ?_;intro v' w2 l g A);have t:=ez.append a c j u n (ti D k E (by omega)) (by omega) g l;have x:=dP a f c j g;have B:=g.size;rw [Ul] at B;clear a l g A n c f;go_roundw
          case rel=>exact ⟨k+1,_,by omega,by go_num,t,by rw [gd,<- UC];exact h.o.push b _,x,by omega⟩
          case measure=>simp [intOf];omega
        . have z:G=k:=(by omega);clear s C;subst z;have h:=ak d;clear d;go_wp2;go_ret2;refine ⟨_,T,rfl,a,h.o,?_⟩;exact (bA _ _).trans (f.mono (by omega))
def dh (M:List a8) (lost k:Nat):List a8:=((YF k).filter (λi=>decide (lost/2^i%2=0))).map (λi=>M.getD i [])
def Gt (M:List a8) (lost k:Nat) (h:lost/2^k%2=0):dh M lost (k+1)=dh M lost k++[M.getD k []]:=by
 simp [dh,VF,h]
def BB (M:List a8) (lost k:Nat) (h:lost/2^k%2≠0):dh M lost (k+1)=dh M lost k:=by
 simp [dh,VF,h]
def tj (M:List a8) (lost k:Nat) (a:k<=M.length):∀ l∈dh M lost k,l∈M:=by
 intro l hl;simp [dh] at hl;obtain ⟨i,⟨hi,_⟩,rfl⟩:=hl;rw [Ue (by omega)];exact T8 _
def jG (M:List a8) (lost k:Nat):(dh M lost k).length<=k:=by
 unfold dh;rw [Ud];exact TZ (WM _ _) (by simp)
theorem N5 (T:List a8) (v:Nat->Nat):nH T 0 v↔∃ l∈T,v=dM l:=by
 constructor
 . rintro ⟨i,hi,_,rfl⟩;exact ⟨_,T8 hi,rfl⟩
 . rintro ⟨l,hl,rfl⟩;obtain ⟨i,hi,rfl⟩:=XA.1 hl;exact ⟨i,hi,T7 _,rfl⟩
theorem nZ (M:List a8) (lost k:Nat) (v:Nat->Nat):nH (dh M lost k) 0 v↔∃ i,i<k/\lost/2^i%2=0/\v=dM (M.getD i []):=by
 rw [N5];constructor
 . rintro ⟨l,hl,rfl⟩;simp only [dh,Ua,Vv,UA,Wt] at hl;obtain ⟨i,⟨hi,a⟩,rfl⟩:=hl;exact ⟨i,hi,a,rfl⟩
 . rintro ⟨i,hi,a,rfl⟩;refine ⟨_,?_,rfl⟩;simp only [dh,Ua,Vv,UA,Wt];exact ⟨i,⟨hi,a⟩,rfl⟩
theorem KU (D i:Nat) (hi:i<D):dM (dr D i)=gC i:=by
 funext j;unfold dM dr gC;by_cases e:j=i
 . subst e;simp [hi]
 . rw [TW e];simp [Vo e,WB];split<;>rfl
def KV (D L G i:Nat) (hi:i<D):(aR D L G).getD i []=dr D i:=by
 simp [aR,List.getElem?_append,hi]
def xu (M:List a8) (lost less k D:Nat) (c:∀ i,i<k->lost/2^i%2=0->less/2^i%2=0) (h:mP (nH (dh M lost k) 0) 0 D):mP (nH (dh M less k) 0) 0 D:=
 h.mono λr b=>by
  obtain ⟨i,hi,a,e⟩:=(nZ _ _ _ _).1 b;exact (nZ _ _ _ _).2 ⟨i,hi,c i hi a,e⟩
def Ib (M:List a8) (lost k D:Nat) (d:1<=D) (b:∀ i,i<k->lost/2^i%2=1):¬ mP (nH (dh M lost k) 0) 0 D:=by
 intro h;have:=aV.RZ (c:=0) (λr a=>by
  obtain ⟨i,hi,e,_⟩:=(nZ _ _ _ _).1 a;have:=b i hi;omega) (h (gC 0) (jX 0) (λj f=>TW (by omega)))
 simp [gC] at this
def Gu (lost k:Nat) (hl:lost<18446744073709551616):bits .and .u64 ((lost:Int)/2^k) 1=((lost/2^k%2:Nat):Int):=by
 have c:(lost:Int)/2^k=((lost/2^k:Nat):Int):=by simp
 have h:lost/2^k<18446744073709551616:=Xj (VT _ _) hl;have e:=u64_and_nat (lost/2^k) 1 h (by decide);rw [Qh] at e;rw [c];exact e
def Rl (w0 w:ZV) (v:ZU) (K:List a8):Prop:=
 ∃ xs:List ZU,xs.length=K.length/\(∀ i (h:i<xs.length) (h':i<K.length),Bs w0 xs[i] K[i])/\w.ownsRow w0.heap.size 40 1 v xs.length xs/\ZT w0.heap.size w0 w
def Rl.nil (w:ZV):Rl w w (Z6 ZZ 0 0) []:=⟨[],rfl,λi h=>absurd h (by simp),UP _ _ _ _,T6 _ _⟩
def Rl.rd {K:List a8} (h:Rl w0 w v K) (hl:K.length<=100000):Rd w v K:=by
 obtain ⟨xs,e,f,b,j⟩:=h;rcases b.2 with ⟨d,q⟩|⟨g,cap,cur,a,k,l,m,n,o,p⟩
 . have:K=[]:=UY (by omega);subst this;exact ⟨ZZ,0,d,by simp,λh=>absurd rfl h⟩
 . refine ⟨ZY ⟨g,0,ZZ⟩,cap,by rw [a,e],by omega,λ_=>⟨g,0,rfl,λi hi=>?_⟩⟩;have c:i<xs.length:=(by omega);have:=b.cells (g:=g) (by rw [a];rfl) i xs[i] (by simp [c]);rw [jm] at this;exact ⟨xs[i],by rw [Um];exact this,(f i c hi).mono j⟩
def Rl.push {K:List a8} {o:Obj} {xs:List ZU} (b:xs.length=K.length) (g:∀ i (h:i<xs.length) (c:i<K.length),Bs w0 xs[i] K[i])
 (f:w.ownsRow w0.heap.size 40 1 v xs.length xs) (a:ZT w0.heap.size w0 w) (p:w1=w.alloc o) (n:Bs w0 u l)
 (j:w1.grownBy w2 v.ownBlock) (d:w2.ownsRow w0.heap.size 40 1 v' (xs.length+1) (xs++[u])):Rl w0 w2 v' (K++[l]):=by
 subst p;refine ⟨xs++[u],by simp [b],λi h c=>?_,by simpa using d,(a.alloc a.size o).grown j (by rw [Ul];have:=a.size;omega) λk m=>(f.lt k m).1⟩;by_cases hi:i<xs.length
 . rw [XT hi,XT (by omega)];exact g i hi (by omega)
 . have e:i=xs.length:=(by simp at h;omega);subst e;rw [XS lR,XS (by omega)];simpa [b] using n
def Bs.one (h:Bs w u l):u.oneCell'=ZX:=by
 obtain ⟨ao,c,rfl,_⟩:=h;rfl
def KpR (w:ZV) (M:List a8) (lost:Nat) (v i:ZU) (wr:ZV):Prop:=∃ k:Nat,k<=M.length/\i=Z8 Z9 k/\Rl w wr v (dh M lost k)
theorem KX (E:ZU) (M:List a8) (lost:Nat) (w:ZV) (A:Rd w E M) (hl:lost<18446744073709551616) (W:M.length<=64) :
 ZS ZL 124 #[E,Z8 .u64 lost] w λe w'=>∃ v,e=Z4 v/\Rl w w' v (dh M lost M.length):=by
 obtain ⟨U,hi,R,S,T⟩:=Uu Tryz.R4;rcases A.cases with ⟨rfl,ao,c,rfl⟩|⟨b,off,c,rfl,_,l⟩
 . go_enter func124,ntmps124;go_wp2;refine VO 1 ?_;rw [VJ];go_wp2;go_ret;exact ⟨_,rfl,Rl.nil _⟩
 . clear A;go_enter func124,ntmps124;go_wp2;go_loopw [5,10] (λv i wr=>KpR w M lost v i wr) (λ_ i _=>M.length-(intOf i).toNat)
   case atStart=>exact ⟨0,T7 _,rfl,Rl.nil _⟩
   case round=>
    rename ZV=>wo;obtain ⟨k,V,rfl,a⟩:=hrel;by_cases C:k<M.length
    . obtain ⟨u,m,j⟩:=l k C;have Q:wo.cell? ⟨b,off+k,ZZ⟩=ZY u:=(by rw [a.choose_spec.2.2.2.cell (Ui m)];exact m);obtain ⟨I,J,rfl,_⟩:=id j;have t:=Gu lost k hl;have F:=ak (jG M lost k);have n:=ak j;have x:M.getD k []=M[k]:=(by simp [C]);have K:=ak x;clear l j m x;by_cases d:lost/2^k%2=0
      . rw [d] at t;have L:=ak (Gt M lost k d);clear d;obtain ⟨xs,f,B,g,h⟩:=a;have H:=ak B;have O:=ak f;have Y:xs.length<=64:=(by rw [f];exact TZ F.o (by omega));have X:=h.size;clear B f;go_wp2_with (at_builtin;refine WA _ rfl (Z2 20) (Z2 22) 108 rfl w.heap.size 40 U (Z6 ZZ 0 0) 1 24 VW hi R S T rfl (by decide) _ xs.length xs rfl (an g (bA _ _)) ⟨wo.heap.size,0,ZZ⟩ 1 1 [.slice I (M[k]).length J] rfl rfl (mn _ _ rfl _ _) (by intro q D;simp at D;rw [D];exact n.o.one) (by unfold maxLen;omega) (by omega) (by rw [Ul];omega) ?_;intro v' w2 s p P);have y:=Rl.push O.out H.o g h rfl n.o p s;rw [<- K.out,<- L.out] at y;clear g s p P h Q;go_wp2;go_roundw
        case rel=>exact ⟨k+1,by omega,by go_num,y⟩
        case measure=>simp [intOf];omega
      . have r:lost/2^k%2=1:=(by omega);rw [r] at t;have N:=ak (BB M lost k d);clear d r;have G:=ak a;clear a;go_wp2;go_roundw
        case rel=>exact ⟨k+1,by omega,by go_num,by rw [N.out];exact G.o⟩
        case measure=>simp [intOf];omega
    . have z:k=M.length:=(by omega);rw [z] at a;clear l z;go_wp2;go_ret;exact ⟨_,rfl,a⟩
def vR (T:List (Nat×Nat×a8)) (p r:Nat):List (Nat×Nat×a8):=(T.set p (T.getD r (0,0,[]))).set r (T.getD p (0,0,[]))
def gB (T:List (Nat×Nat×a8)) (p r:Nat):(vR T p r).length=T.length:=by simp [vR]
theorem mw (T:List (Nat×Nat×a8)) (p r i:Nat) (b:p<T.length) (c:r<T.length) (hi:i<T.length) (f:i<(vR T p r).length) :
 (vR T p r)[i]=if i=r then T[p] else if i=p then T[r] else T[i]:=by
 have d:T.getD p (0,0,[])=T[p]:=by simp [b]
 have e:T.getD r (0,0,[])=T[r]:=by simp [c]
 apply UQ;rw [<- Ue f];unfold vR;rw [d,e,Xn,Xn];by_cases c1:r=i
 . subst c1;simp [c]
 . by_cases a:p=i
   . subst a;simp [b,c1,Vo c1]
   . simp [c1,a,Vo c1,Vo a,hi]
theorem Gv (T:List (Nat×Nat×a8)) (p r:Nat) (b:p<T.length) (c:r<T.length):∀ x∈vR T p r,x∈T:=by
 intro x d;obtain ⟨i,hi,rfl⟩:=XA.1 d;have a:i<T.length:=by rw [gB] at hi;exact hi
 rw [mw T p r i b c a];split
 . exact T8 _
 . split
   . exact T8 _
   . exact T8 _
theorem ez.swap (h:ez w B (Z6 (ZY ⟨g,0,ZZ⟩) n cap) T) {p r:Nat} (d:p<T.length) (f:r<T.length) :
 ez ((w.setCell ⟨g,p,ZZ⟩ (fY T[r])).setCell ⟨g,r,ZZ⟩ (fY T[p])) B (Z6 (ZY ⟨g,0,ZZ⟩) n cap) (vR T p r):=by
 obtain ⟨O,u⟩:=h.own;have A:∀ q∈T,q.1≠g:=λq k e=>pt h.own (h.row q k).2.1 (by rw [e];rfl);have M:∀ q∈T,aM ((w.setCell ⟨g,p,ZZ⟩ (fY T[r])).setCell ⟨g,r,ZZ⟩ (fY T[p])) q.1 q.2.2:=λq k=>
  ((h.row q k).2.1.other (a:=⟨g,p,ZZ⟩) (A q k) _).other (a:=⟨g,r,ZZ⟩) (A q k) _
 refine ⟨⟨by simp [vR],?_⟩,λq k=>?_,?_⟩
 . rcases u with ⟨L,_⟩|⟨P,v,cur,x,F,G,H,I,J,K⟩
   . simp at L
   . simp at x;obtain ⟨rfl,rfl,rfl⟩:=x;refine .inr ⟨g,cap,(cur.setIfInBounds p (fY T[r])).setIfInBounds r (fY T[p]),by rw [gB],F,?_,by rw [gB];exact H,I,by simpa using J,?_⟩
     . simp [World.setCell,Vw,G]
     . rw [gB];simp only [Yz];rw [Y3,Y3,K];apply Ve
       . simp [vR]
       . intro i Q u;have hi:i<T.length:=(by simpa [vR] using u);rw [UU,mw T p r i d f hi];simp only [YH,UU];by_cases c1:r=i
         . subst c1;simp
         . by_cases c:p=i
           . subst c;simp [c1,Vo c1]
           . simp [c1,c,Vo c1,Vo c]
 . have C:=Gv T p r d f q k;obtain ⟨D,N,E⟩:=h.row q C;exact ⟨D,M q C,E⟩
 . have z:=V6.1 h.nodup;have key:∀ i j (hi:i<T.length) (l:j<T.length),i≠j->T[i].1≠T[j].1:=by
    intro i j hi l y e;rcases Yx y with t|t
    . exact z i j (by simpa using hi) (by simpa using l) t (by simpa using e)
    . exact z j i (by simpa using l) (by simpa using hi) t (by simpa using e.symm)
   refine V6.2 λi j hi l y=>?_;have o:i<T.length:=(by simpa [vR] using hi);have s:j<T.length:=(by simpa [vR] using l);rw [UU,UU,mw T p r i d f o,mw T p r j d f s];by_cases c1:i=r
   . rw [TX c1];by_cases c:j=r
     . omega
     . rw [TW c];by_cases b:j=p
       . rw [TX b];exact key p r d f (by omega)
       . rw [TW b];exact key p j d s (λh=>b h.symm)
   . rw [TW c1];by_cases c:i=p
     . rw [TX c];by_cases b:j=r
       . rw [TX b];exact key r p f d (by omega)
       . rw [TW b];by_cases m:j=p
         . omega
         . rw [TW m];exact key r j f s (λh=>b h.symm)
     . rw [TW c];by_cases b:j=r
       . rw [TX b];exact key i p o d c
       . rw [TW b];by_cases m:j=p
         . rw [TX m];exact key i r o f c1
         . rw [TW m];exact key i j o s (by omega)
def lI (l lp:a8) (f c j:Nat):a8:=(YF l.length).map λq=>if c<=q/\q<j then l.getD q 0^^^gm f (lp.getD q 0) else l.getD q 0
def tq (l lp:a8) (f c j:Nat):(lI l lp f c j).length=l.length:=by simp [lI]
theorem Ep (l lp:a8) (f c:Nat):lI l lp f c c=l:=by
 unfold lI;apply Ve
 . simp
 . intro q b a;simp [a];omega
def KY (l lp:a8) (f c j:Nat) (a:j<l.length):(lI l lp f c j).getD j 0=l.getD j 0:=by simp [lI,a]
theorem Ic (l lp:a8) (f c j:Nat) (b:c<=j):(lI l lp f c j).set j (l.getD j 0^^^gm f (lp.getD j 0))=lI l lp f c (j+1):=by
 unfold lI;apply Ve
 . simp
 . intro q d g;simp [YH];by_cases e:j=q
   . subst e;simp [b]
   . simp only [TW e];by_cases a:c<=q/\q<j
     . rw [TX a,TX ⟨a.1,by omega⟩]
     . rw [TW a,TW (by omega)]
theorem N6 (hl:∀ x∈l,x<256) {f:Nat} (a:f<256) (c j:Nat):∀ x∈lI l lp f c j,x<256:=by
 intro x b;obtain ⟨q,_,rfl⟩:=Ua.1 b;have:=dz hl q;split
 . exact rp this (bB _ a)
 . exact this
theorem KZ (l lp:a8) (f c W:Nat) (a:l.length=W) (j:lp.length=W) (i:∀ q,q<c->dM lp q=0):dM (lI l lp f c W)=cC (dM l) f (dM lp):=by
 funext q;show (lI l lp f c W).getD q 0=l.getD q 0^^^gm f (lp.getD q 0);by_cases d:q<W
 . by_cases b:c<=q
   . simp [lI,a,d,b]
   . have:lp.getD q 0=0:=i q (by omega);rw [this,bI,U5];simp [lI,a,d,b]
 . have e:lp.getD q 0=0:=(by simp [Vm (show lp.length<=q by omega)]);have g:l.getD q 0=0:=(by simp [Vm (show l.length<=q by omega)]);have h:(lI l lp f c W).getD q 0=0:=by
    rw [Ub,Vm (by rw [tq];omega)];rfl
   rw [e,g,h,bI];exact (UW 0).symm
def rB (D:List a8):Prop:=D.length<=64/\∀ i (hi:i<D.length),(D[i]).length<=64
def wd (D:List a8):Nat->Nat
 | 0=>0
 | k+1=>if wd D k<(D.getD k []).length then (D.getD k []).length else wd D k
theorem aay (D:List a8) (i:Nat):∀ k,i<k->(D.getD i []).length<=wd D k:=by
 intro k;induction k with
 | zero=>intro h;omega
 | succ k ih=>
  intro h;unfold wd;by_cases e:i=k
  . subst e;split<;>omega
  . have:=ih (by omega);split<;>omega
def J9 (W:Nat) (l:a8):a8:=l++YG (W-l.length) 0
theorem N7 (W:Nat) (l:a8):dM (J9 W l)=dM l:=by
 funext j;unfold dM J9;by_cases a:j<l.length
 . simp [VG a,a]
 . rw [Ub,U7 (WK.1 a)];by_cases b:j-l.length<W-l.length
   . simp [b,Vm (WK.1 a)]
   . simp [b,Vm (WK.1 a)]
def rV (W:Nat) (l:a8) (h:l.length<=W):(J9 W l).length=W:=by simp [J9];omega
def QA (W:Nat) (l:a8) (h:∀ x∈l,x<256):∀ x∈J9 W l,x<256:=by
 intro x a;rcases Un.1 a with q|q
 . exact h x q
 . have:=VM q;omega
structure EI (w:ZV) (B W c r:Nat) (v:ZU) (D:List a8) (T:List (Nat×Nat×a8)) (wr:ZV):Prop where
 tab:ez wr B v T
 wid:∀ i (hi:i<T.length),T[i].2.1=W/\T[i].2.2.length=W
 rle:r<=T.length
 len:T.length=D.length
 zer:∀ i (hi:i<T.length),r<=i->∀ j,j<c->dM T[i].2.2 j=0
 tak:∀ k,cW (64-c) (nH (T.map (λp=>p.2.2)) r) c k->nf D (r+k)
 bel:ZT B w wr
 siz:B<=wr.heap.size
def EI.skip (h:EI w B W c r v D T wr) (f:c<64) (b:∀ i (hi:i<T.length),r<=i->dM T[i].2.2 c=0):EI w B W (c+1) r v D T wr:=
 { h with
  zer:=λi hi a j g=>by
   by_cases e:j=c
   . subst e;exact b i hi a
   . exact h.zer i hi a j (by omega)
  tak:=λk d=>by
   refine h.tak k ?_;have e:64-c=64-(c+1)+1:=(by omega);rw [e];refine sJ (λi hi a=>?_) d;rw [UU];exact b i (by simpa using hi) a }
theorem EI.Tw (h:EI w B W c r v D T wr) (H:c<64) (o:r<=p) (t:p<T.length) (y:dM T[p].2.2 c≠0)
 (n:ez wr' B v T') (hl:T'.length=T.length) (z:∀ i (hi:i<T'.length),T'[i].2.1=W/\T'[i].2.2.length=W)
 (m:∀ i (hi:i<T'.length),r<i->∃ f,∃ h:(if i=p then r else i)<T.length,f<256/\dM T'[i].2.2=cC (dM T[if i=p then r else i].2.2) f (dM T[p].2.2)/\dM T'[i].2.2 c=0)
 (A:ZT B w wr') (E:B<=wr'.heap.size):EI w B W (c+1) (r+1) v D T' wr' where
 tab:=n
 wid:=z
 rle:=by omega
 len:=by rw [hl];exact h.len
 zer:=λi hi u j I=>by
  obtain ⟨f,a,s,e,g⟩:=m i hi (by omega);by_cases x:j=c
  . subst x;exact g
  . rw [e];have F:=h.zer _ a (by split<;>omega) j (by omega);have G:=h.zer p t o j (by omega);show dM T[if i=p then r else i].2.2 j^^^gm f (dM T[p].2.2 j)=0;rw [F,G,bI];exact UW 0
 tak:=λk C=>by
  have e:r+1+k=r+(k+1):=by omega
  rw [e];refine h.tak (k+1) ?_;have e:64-c=64-(c+1)+1:=by omega
  rw [e];refine qF (p:=p) (T':=T'.map (λp=>p.2.2)) ?_ ?_ (by simpa using hl) o (by simpa using t) (by rw [UU];exact y) ?_ C
  . intro l b;obtain ⟨q,d,rfl⟩:=Ua.1 b;exact (h.tab.row q d).2.2.2.2
  . intro l b;obtain ⟨q,d,rfl⟩:=Ua.1 b;exact (n.row q d).2.2.2.2
  . intro i hi u;obtain ⟨f,a,s,e,g⟩:=m i (by simpa using hi) u;exact ⟨f,by simpa using a,s,by simp only [UU];exact e,by simp only [UU];exact g⟩
 bel:=A
 siz:=E
def EI.start (g:ez wr w.heap.size v T) (d:T.map (λp=>p.2)=D.map (λl=>(W,J9 W l))) (h:∀ i (hi:i<D.length),(D[i]).length<=W) (m:ZT w.heap.size w wr) (o:w.heap.size<=wr.heap.size):EI w w.heap.size W 0 0 v D T wr:=by
 have hl:T.length=D.length:=by simpa using UB YK d
 have c:∀ i (a:i<T.length) (b:i<D.length),T[i].2=(W,J9 W D[i]):=by
  intro i a b;have:=List.getElem_of_eq d (i:=i) (by simpa using a);simpa using this
 refine ⟨g,λi hi=>?_,T7 _,hl,λ_ _ _ j n=>absurd n (XH _),λk f=>?_,m,o⟩
 . rw [c i hi (by omega)];exact ⟨rfl,rV W _ (h i (by omega))⟩
 . rw [Um];have e:nH (T.map (λp=>p.2.2)) 0=nH D 0:=wH (by simpa using hl) (λi a b=>by
    rw [UU];have:=c i (by simpa using a) b;rw [this];exact N7 W _) 0
   rw [e] at f;exact f
def EI.done (h:EI w B W c r v D T wr) (a:W<=c):nf D r:=
 h.tak 0 (sK (λl hl=>by
  obtain ⟨q,b,rfl⟩:=Ua.1 hl;obtain ⟨i,hi,rfl⟩:=XA.1 b;rw [(h.wid i hi).2];exact a))
def RC (w:ZV) (W:Nat) (v:ZU) (D:List a8) (rv cv:ZU) (wr:ZV):Prop:=
 ∃ (r c:Nat) (T:List (Nat×Nat×a8)),c<=W/\rv=Z8 Z9 (r:Nat)/\cv=Z8 Z9 (c:Nat)/\EI w w.heap.size W c r v D T wr
def RP (T:List (Nat×Nat×a8)) (r c:Nat) (av iv:ZU):Prop:=
 ∃ k:Nat,r<=k/\k<=T.length/\iv=Z8 Z9 (k:Nat)/\((av=Z8 Z9 (-1)/\∀ i (hi:i<T.length),r<=i->i<k->dM T[i].2.2 c=0)\/∃ p:Nat,∃ hp:p<T.length,r<=p/\av=Z8 Z9 (p:Nat)/\dM T[p].2.2 c≠0)
structure EW (w:ZV) (B W c r k:Nat) (v:ZU) (S:List (Nat×Nat×a8)) (lp:a8) (T:List (Nat×Nat×a8)) (wr:ZV):Prop where
 tab:ez wr B v T
 len:T.length=S.length
 wid:∀ i (hi:i<T.length),T[i].2.1=W/\T[i].2.2.length=W
 old:∀ i (hi:i<T.length) (hi':i<S.length),i<=r\/k<=i->T[i]=S[i]
 new:∀ i (hi:i<T.length) (hi':i<S.length),r<i->i<k->∃ f,f<256/\dM T[i].2.2=cC (dM S[i].2.2) f (dM lp)/\dM T[i].2.2 c=0
 bel:ZT B w wr
 siz:B<=wr.heap.size
def RW (w:ZV) (B W c r:Nat) (v:ZU) (S:List (Nat×Nat×a8)) (lp:a8) (iv:ZU) (wr:ZV):Prop:=
 ∃ (k:Nat) (T:List (Nat×Nat×a8)),r<k/\k<=S.length/\iv=Z8 Z9 (k:Nat)/\EW w B W c r k v S lp T wr
def EW.step {S:List (Nat×Nat×a8)} {f:Nat} (h:EW w B W c r k v S lp T wr) (t:r<k) (b:k<T.length) (d:wr.grownBy wr' (ZY T[k].1)) (l:aM wr' T[k].1 l') (g:l'.length=W) (q:∀ x∈l',x<256)
 (o:f<256) (n:dM l'=cC (dM T[k].2.2) f (dM lp)) (m:dM l' c=0):EW w B W c r (k+1) v S lp (T.set k (T[k].1,T[k].2.1,l')) wr':=by
 have p:=h.tab.row _ (T8 b);refine ⟨h.tab.wrote b d l (by rw [g,(h.wid k b).2]) q,by rw [V4];exact h.len,λi hi=>?_,λi hi a ho=>?_,λi hi a j s=>?_,gI h.bel d h.siz p.1,TZ h.siz d.size⟩
 . rw [V4] at hi;rw [YH];by_cases e:k=i
   . rw [TX e];exact ⟨(h.wid k b).1,g⟩
   . rw [TW e];exact h.wid i hi
 . rw [V4] at hi;rw [YH,TW (by omega)];exact h.old i hi a (by omega)
 . rw [V4] at hi;rw [YH];by_cases e:k=i
   . subst e;rw [TX rfl];refine ⟨f,o,?_,m⟩;rw [<- h.old k hi a (.inr lR)];exact n
   . rw [TW e];exact h.new i hi a j (by omega)
def EW.keep {S:List (Nat×Nat×a8)} (h:EW w B W c r k v S lp T wr) (g:k<T.length) (d:dM T[k].2.2 c=0):EW w B W c r (k+1) v S lp T wr:=
 { h with
  old:=λi hi a ho=>h.old i hi a (by omega)
  new:=λi hi a b f=>by
   by_cases e:i=k
   . subst e;refine ⟨0,by decide,?_,d⟩;rw [pf,h.old i hi a (.inr lR)]
   . exact h.new i hi a b (by omega) }
def ez.ne (h:ez w B v T) {i j:Nat} (hi:i<T.length) (c:j<T.length) (d:i≠j):T[i].1≠T[j].1:=by
 have b:=V6.1 h.nodup;intro e;rcases Yx d with a|a
 . exact b i j (by simpa using hi) (by simpa using c) a (by simpa using e)
 . exact b j i (by simpa using c) (by simpa using hi) a (by simpa using e.symm)
def ez.head (h:ez w B (Z6 (ZY ⟨g,0,ZZ⟩) n cap) T) (a:∀ i (hi:i<T.length),T[i].2.1=W/\T[i].2.2.length=W) {i:Nat} (hi:i<T.length):w.cell? ⟨g,i,ZZ⟩=ZY (Z6 (ZY ⟨T[i].1,0,ZZ⟩) W W):=by
 have:=h.Ss hi;unfold fY at this;rw [(a i hi).1,(a i hi).2] at this;exact this
def ez.byte (h:ez w B v T) (b:∀ i (hi:i<T.length),T[i].2.1=W/\T[i].2.2.length=W) {i:Nat} (hi:i<T.length) (a:c<W):w.cell? ⟨T[i].1,c,ZZ⟩=ZY (Z8 .u8 ((dM T[i].2.2 c:Nat):Int))/\dM T[i].2.2 c<256:=
 ⟨(h.row _ (T8 hi)).2.1.cell c (by rw [(b i hi).2];exact a),dz (h.row _ (T8 hi)).2.2.2.2 c⟩
def EI.cells (h:EI w B W c r (Z6 (ZY ⟨g,0,ZZ⟩) n cap) D T wr) (a:c<W) (i:Nat) (hi:i<T.length) :
 wr.cell? ⟨g,i,ZZ⟩=ZY (Z6 (ZY ⟨T[i].1,0,ZZ⟩) W W)/\wr.cell? ⟨T[i].1,c,ZZ⟩=ZY (Z8 .u8 ((dM T[i].2.2 c:Nat):Int))/\dM T[i].2.2 c<256:=
 ⟨h.tab.head h.wid hi,h.tab.byte h.wid hi a⟩
def EI.swap (h:EI w B W c r (Z6 (ZY ⟨g,0,ZZ⟩) n cap) D T wr) (d:B<=g) (b:r<T.length) (a:p<T.length) :
 EW w B W c r (r+1) (Z6 (ZY ⟨g,0,ZZ⟩) n cap) (vR T p r) T[p].2.2 (vR T p r) ((wr.setCell ⟨g,p,ZZ⟩ (Z6 (ZY ⟨T[r].1,0,ZZ⟩) W W)).setCell ⟨g,r,ZZ⟩ (Z6 (ZY ⟨T[p].1,0,ZZ⟩) W W)):=by
 have k:fY T[r]=Z6 (ZY ⟨T[r].1,0,ZZ⟩) W W:=by unfold fY;rw [(h.wid r b).1,(h.wid r b).2]
 have l:fY T[p]=Z6 (ZY ⟨T[p].1,0,ZZ⟩) W W:=by unfold fY;rw [(h.wid p a).1,(h.wid p a).2]
 have f:=h.tab.swap a b;rw [k,l] at f;refine ⟨f,rfl,λi hi=>?_,λ_ _ _ _=>rfl,λi _ _ m q=>absurd m (by omega),?_,?_⟩
 . obtain ⟨j,o,e⟩:=XA.1 (Gv T p r a b _ (T8 hi));rw [<- e];exact h.wid j o
 . exact (h.bel.setCell (p:=⟨g,p,ZZ⟩) d _).setCell (p:=⟨g,r,ZZ⟩) d _
 . rw [Yw,Yw];exact h.siz
theorem EI.Sw (h:EI w B W c r v D T wr) (q:c<64) (o:r<=p) (d:p<T.length) (m:dM T[p].2.2 c≠0)
 (a:EW w B W c r k v (vR T p r) T[p].2.2 T' wr') (x:T.length<=k):EI w B W (c+1) (r+1) v D T' wr':=by
 have t:r<T.length:=by omega
 have hl:T'.length=T.length:=by rw [a.len,gB]
 refine h.Tw q o d m a.tab hl a.wid (λi hi n=>?_) a.bel a.siz;obtain ⟨f,s,e,u⟩:=a.new i hi (by rw [gB];omega) n (by omega);have l:(if i=p then r else i)<T.length:=by split<;>omega
 refine ⟨f,l,s,?_,u⟩;rw [e];have j:i<T.length:=by omega
 have g:(vR T p r)[i]'(by rw [gB];omega)=T[if i=p then r else i]:=by
  rw [mw T p r i d t j,TW (by omega)];by_cases b:i=p
  . simp only [TX b]
  . simp only [TW b]
 rw [g]
def EW.top (a:r<T.length) (b:p<T.length) (h:EW w B W c r k v (vR T p r) T[p].2.2 T' wr):∃ d:r<T'.length,T'[r]=T[p]:=by
 have:T'.length=T.length:=by rw [h.len,gB]
 refine ⟨by omega,?_⟩;rw [h.old r (by omega) (by rw [gB];exact a) (.inl lR),mw T p r r b a a,TX rfl]
def ts {x z:Int} (a b:Nat) (f:x=(a:Int)) (g:y=(b:Int)) (c:a<256) (d:b<256) (h:((gm a b:Nat):Int)=z) (w:ZV) :
 ZS ZL 64 #[Z8 .u8 x,Z8 .u8 y] w λe w'=>e=Z4 (Z8 .u8 z)/\w'=w:=by
 subst f g h;exact th a b c d w
def K2 {x:Int} (a:Nat) (c:x=(a:Int)) (b:a<256) (w:ZV) :
 ZS ZL 63 #[Z8 .u8 x] w λe w'=>e=Z4 (Z8 .u8 ((gi a:Nat):Int))/\w'=w:=by
 subst c;exact Bu a b w
def RJ (wi:ZV) (b:Nat) (l lp:a8) (f c W:Nat) (jv:ZU) (wr:ZV):Prop:=
 ∃ j:Nat,c<=j/\j<=W/\jv=Z8 Z9 (j:Nat)/\wi.grownBy wr (ZY b)/\aM wr b (lI l lp f c j)
def K3 (D:List a8) (w:ZV) (e:ZR) (w':ZV):Prop:=(rB D->∃ k:Nat,k<=64/\e=Z4 (Z8 Z9 k)/\nf D k)/\(¬ rB D->e=Z4 (Z8 Z9 (-1)))/\ZT w.heap.size w w'
def RR1 (D:List a8) (wv i:ZU):Prop:=∃ k:Nat,k<=D.length/\wv=Z8 Z9 (wd D k:Nat)/\i=Z8 Z9 k/\wd D k<=64/\∀ j (hj:j<D.length),j<k->(D[j]).length<=64
def RR2 (w:ZV) (W:Nat) (D:List a8) (v i:ZU) (wr:ZV):Prop:=
 ∃ k T,k<=D.length/\i=Z8 Z9 (k:Nat)/\ez wr w.heap.size v T/\T.map (λp=>p.2)=(D.take k).map (λl=>(W,J9 W l))/\ZT w.heap.size w wr/\w.heap.size<=wr.heap.size
theorem Ie (vd:ZU) (D:List a8) (w:ZV) (hd:Rd w vd D) :
 ZS ZL 43 #[vd] w λe w'=>K3 D w e w':=by
 obtain ⟨i0,y8,kv,yj,yk⟩:=Uu Tryz.R4;by_cases ym:64<D.length
 . obtain ⟨ao,c,rfl,hl,_⟩:=hd;go_enter func43,ntmps43;go_wp2;go_ret;exact ⟨λh=>absurd h.1 (by omega),λ_=>rfl,T6 _ _⟩
 by_cases kk:D=[]
 . subst kk;obtain ⟨ao,c,rfl,_⟩:=hd;go_enter func43,ntmps43;go_wp2;refine VO 1 ?_;rw [VJ];go_wp2;refine VO 1 ?_;rw [VJ];go_wp2;refine VO 1 ?_;rw [VJ];go_wp2;go_ret;exact ⟨λ_=>⟨0,by omega,rfl,sK (T:=[]) (λl hl=>by simp at hl)⟩,λh=>absurd ⟨by simp,λi hi=>by simp at hi⟩ h,T6 _ _⟩
 have xb:=ak kk;have y1:=hd.cases;rcases y1 with ⟨h0,_⟩|⟨b,off,c,rfl,hl,hc⟩
 . exact absurd h0 kk
 clear kk;have qs:∀ i (hi:i<D.length),D.getD i []=D[i]:=λi hi=>by simp [hi]
 have HC:=ak hc;have qd:=ak qs;clear hc qs;go_enter func43,ntmps43;go_wp2;go_loop [3,4] (λwv i=>RR1 D wv i) (λ_ i=>D.length-(intOf i).toNat)
 case atStart=>exact ⟨0,T7 _,rfl,rfl,T7 _,λj _ h=>absurd h (by omega)⟩
 case round=>
  obtain ⟨k,hk,rfl,rfl,yh,kf⟩:=hrel;by_cases q6:k<D.length
  . obtain ⟨u,hu,Y⟩:=HC.o k q6;obtain ⟨fo,fc,rfl,q1,R,O,q4⟩:=Y;have N:(D[k]).length<=140737488355328:=(by omega);have qc:wd D (k+1)=if wd D k<(D[k]).length then (D[k]).length else wd D k:=(by rw [<- qd.out k q6];rfl);have kj:=ak qc;by_cases A:(D[k]).length<=64
    . have qf:cJ (∀ j (hj:j<D.length),j<k+1->(D[j]).length<=64):=by
       intro j hj yq;by_cases e:j=k
       . subst e;exact A
       . exact kf j hj (by omega)
      clear qc kf q1 R O q4;generalize (D[k]).length=lk at *;by_cases E:wd D k<lk
      . have I:cJ (wd D (k+1)=lk):=(by rw [kj.out,TX E];exact (rfl:lk=lk));clear kj;go_wp2;go_round
        case rel=>exact ⟨k+1,by omega,by rw [I.out],by go_num,by rw [I.out];omega,qf.out⟩
        case measure=>simp [intOf];omega
      . have I:cJ (wd D (k+1)=wd D k):=(by rw [kj.out,TW E];exact (rfl:wd D k=wd D k));clear kj;go_wp2;go_round
        case rel=>exact ⟨k+1,by omega,by rw [I.out],by go_num,by rw [I.out];omega,qf.out⟩
        case measure=>simp [intOf];omega
    . have HN:cJ (¬ rB D):=λh=>A (h.2 k q6);clear qc kf q1 R O q4;generalize (D[k]).length=lk at *;go_wp2;go_ret;exact ⟨λh=>absurd h HN.o,λ_=>rfl,T6 _ _⟩
  . have ya:k=D.length:=(by omega);have ka:rB D:=⟨by omega,λi hi=>kf i hi (by omega)⟩;have qp:∀ i (hi:i<D.length),(D[i]).length<=wd D k:=λi hi=>by
     have:=aay D i k (by omega);rw [qd.out i hi] at this;exact this
    generalize wd D k=W at *;have xg:=ak ka;have qh:=ak qp;clear kf ya ka qp;go_wp2;go_loopw [5,6] (λv i wr=>RR2 w W D v i wr) (λ_ i _=>D.length-(intOf i).toNat)
    case atStart=>exact ⟨0,[],T7 _,rfl,ez.nil _ _,rfl,T6 _ _,TY _⟩
    case round=>
     rename ZV=>wo;obtain ⟨k2,T,yr,rfl,H,G,Q,kr⟩:=hrel;have qn:T.length=min k2 D.length:=(by simpa using UB YK G);by_cases k6:k2<D.length
     . obtain ⟨u,hu,Y⟩:=HC.o k2 k6;have qk:=Y.mono Q;have N:=qh.out k2 k6;have hx:=Y.lt;have qo:=abv k6;obtain ⟨fo,fc,rfl,q1,R,O,q4⟩:=Y;have qb:wo.cell? ⟨b,off+k2,ZZ⟩=ZY (.slice fo (D[k2]).length fc):=(by rw [Q.cell (Ui hu)];exact hu);have xx:T.length<=64:=(by omega);have HH:=ak G;have xn:=ak qo;clear G qn hu q1 R O q4 qo;generalize D[k2]=l at *;go_wp2_with (first
        | (at_make;refine cU _ rfl (Z2 51) (Z2 51) rfl _ W rfl rfl rfl (by omega) ?_;intro w1 hB K n;clear n;have x4:=qb;rw [<- K.cell (Ui qb)] at x4)
        | (refine wP rfl (Z2 53) (Z2 57) rfl wo.heap.size W W _ rfl rfl _ l hB (qk.mono K) N (by simp) wo.heap.size wo K lR ?_;intro w2 P M)
        | (at_builtin;refine WA _ rfl (Z2 59) (Z2 61) 108 rfl w.heap.size 40 i0 (Z6 ZZ 0 0) 1 24 VW y8 kv yj yk rfl (by decide) _ T.length (T.map fY) rfl ((H.below M).alloc _).own ⟨w2.heap.size,0,ZZ⟩ 1 1 [Z6 (ZY ⟨wo.heap.size,0,ZZ⟩) W W] rfl rfl (mn _ _ rfl _ _) (by simp [Value.oneCell']) (by unfold maxLen;omega) (by omega) (by rw [Ul];have:=M.size;omega) ?_;intro v' w3 h9 h5 yb))
       have qj:aM w2 wo.heap.size (J9 W l):=by
        have e:l++(YG W 0).drop l.length=J9 W l:=(by rw [X0];rfl);rw [e] at P;exact P
       have xv:=ez.append2 H M kr lR qj (rV W l N).symm (by rw [rV W l N];omega) (by rw [rV W l N];omega) (QA W l hx) h5 h9;have xy:=dP H Q M kr h5;have yf:=h5.size;have yz:=M.size;rw [Ul] at yf;have xh:cJ ((T++[(wo.heap.size,W,J9 W l)]).map (λp=>p.2)=(D.take (k2+1)).map (λl=>(W,J9 W l))):=by
        rw [xn.out,UD,UD,HH.o];exact (rfl:_=_)
       clear H h9 h5 yb hB P qj K M Q qk qb x4 hx;go_wp2;go_roundw
       case rel=>exact ⟨k2+1,_,by omega,by go_num,xv,xh.out,xy,by omega⟩
       case measure=>simp [intOf];omega
     . have qx:k2=D.length:=(by omega);rw [qx,VK] at G;have z:=EI.start H G qh.out Q kr;have hs:T.length=D.length:=(by simpa using UB YK G);rcases H.shape with ⟨rfl,h0⟩|⟨g,cap,hv,y4,y5,q0,y6,_⟩
       . exact absurd (UY (by rw [<- hs,h0];rfl)) xb.out
       rw [hs] at hv;subst hv;clear H G Q kr y5 q0 y6 qn hs qx;go_wp2;go_loopw [8,9] (λrv cv wr=>RC w W (Z6 (ZY ⟨g,0,ZZ⟩) D.length cap) D rv cv wr) (λ_ cv _=>W-(intOf cv).toNat)
       case atStart=>exact ⟨0,0,T,T7 _,rfl,rfl,z⟩
       case round=>
        clear z;rename ZV=>wo2;obtain ⟨r,d,a,yn,rfl,rfl,z⟩:=hrel;have qz:=z.len;have yd:=z.rle;by_cases ky:d<W
        . have C:=ak z;have ki:=ak (EI.cells z ky);clear z;go_wp2;go_loop [10,11] (λav L=>RP a r d av L) (λ_ L=>a.length-(intOf L).toNat)
          case atStart=>exact ⟨r,TY _,yd,rfl,.inl ⟨rfl,λi hi A E=>absurd A (by omega)⟩⟩
          case round=>
           obtain ⟨k3,yc,yx,rfl,q8⟩:=hrel;by_cases qy:k3<a.length
           . obtain ⟨q1,R,O⟩:=ki.out k3 qy;have xk:=ak q8;clear q8;have kv:dM a[k3].2.2 d=dM a[k3].2.2 d:=rfl;have HZ:=ak kv;clear kv;by_cases n:dM a[k3].2.2 d=0
             . have HZ:=ak n;rw [n] at R;clear n O;go_wp2;go_round
               case rel=>
                refine ⟨k3+1,by omega,by omega,by go_num,?_⟩;rcases xk.out with ⟨e,A⟩|⟨p,B,A,E,h3⟩
                . refine .inl ⟨e,λi hi a1 a2=>?_⟩;by_cases e:i=k3
                  . subst e;exact HZ.o
                  . exact A i hi a1 (by omega)
                . exact .inr ⟨p,B,A,E,h3⟩
               case measure=>simp [intOf];omega
             . have y2:(((dM a[k3].2.2 d:Nat):Int) != 0)=ZX:=(by rw [bne_iff_ne];omega);have HZ:=ak n;clear n O;go_wp2;go_round
               case rel=>exact ⟨k3+1,by omega,by omega,by go_num,.inr ⟨k3,qy,yc,by go_num,HZ.o⟩⟩
               case measure=>simp [intOf];omega
           . rcases q8 with ⟨rfl,n⟩|⟨p,B,x1,rfl,q9⟩
             . have xc:=ak (C.o.skip (by omega) (λi hi hr=>n i hi hr (by omega)));clear n;go_wp2;go_roundw
               case rel=>exact ⟨r,d+1,a,by omega,rfl,by go_num,xc.out⟩
               case measure=>simp [intOf];omega
             . obtain ⟨p1,p2,p3⟩:=ki.out p B;have kp:r<a.length:=(by omega);obtain ⟨r1,_,_⟩:=ki.out r kp;have V:=C.o.swap y4 kp B;have h7:=C.o.tab.own;rw [C.o.len] at h7;have f1:=h7.frozenAt p;have f2:(wo2.setCell ⟨g,p,ZZ⟩ (Z6 (ZY ⟨a[r].1,0,ZZ⟩) W W)).frozen? ⟨g,r,ZZ⟩=ZW:=(World.frozen?_setCell _ _ _ _).trans (h7.frozenAt r);have c1:(wo2.setCell ⟨g,p,ZZ⟩ (Z6 (ZY ⟨a[r].1,0,ZZ⟩) W W)).cell? ⟨g,r,ZZ⟩=ZY (Z6 (ZY ⟨a[r].1,0,ZZ⟩) W W):=by
                by_cases e:p=r
                . subst e;exact World.cell?_setCell_same _ _ _ r1
                . rw [ab0 _ _ _ _ (by intro h;injection h with A E;exact e E)];exact r1
               obtain ⟨yg,x2⟩:=EW.top kp B V;have K:=(V.tab.byte V.wid yg ky).1;rw [x2] at K;have xq:(vR a p r).length=a.length:=gB a p r;have x0:∀ q,q<d->dM a[p].2.2 q=0:=λq hq=>C.o.zer p B x1 q hq;have xj:=ak x0;have xf:=ak (λ(k:Nat) (T':List (Nat×Nat×a8)) (wr':ZV) (h':EW w w.heap.size W d r k (Z6 (ZY ⟨g,0,ZZ⟩) D.length cap) (vR a p r) a[p].2.2 T' wr') (hk:a.length<=k)=>C.o.Sw (by omega) x1 B q9 h' hk);have kx:=ak (λ(k:Nat) (T':List (Nat×Nat×a8)) (wr':ZV) (h':EW w w.heap.size W d r k (Z6 (ZY ⟨g,0,ZZ⟩) D.length cap) (vR a p r) a[p].2.2 T' wr')=>EW.top kp B h');have qe:=ak (C.o.wid p B).2;have xm:=ak q9;have HS:=ak V;clear h7 x2 x0 q9 V ki C;generalize vR a p r=S at *;generalize a[p]=s at *;generalize a[r].1=br at *;generalize x7:dM s.2.2 d=y at *;generalize qq:s.1=bp at *;have xp:=ak x7;have x8:=ak qq;clear x7 qq;go_wp2_with (go_at_call 63;refine (K2 y rfl p3 _).mono ?_;rintro e w' ⟨rfl,rfl⟩);go_loopw [14] (λL wr=>RW w w.heap.size W d r (Z6 (ZY ⟨g,0,ZZ⟩) D.length cap) S s.2.2 L wr) (λL _=>S.length-(intOf L).toNat)
               case atStart=>exact ⟨r+1,S,by omega,by omega,by go_num,HS.o⟩
               case round=>
                clear p1 p2 r1 f1 f2 c1 K HS;rename ZV=>U;obtain ⟨k4,t,qa,yv,rfl,m⟩:=hrel;have yy:t.length=a.length:=(by rw [m.len];exact xq);by_cases ys:k4<a.length
                . have F:k4<t.length:=(by omega);have hh:=m.tab.head m.wid F;obtain ⟨yi,ks⟩:=m.tab.byte m.wid F ky;have h8:=m.tab.row _ (T8 F);have y7:=pt m.tab.own h8.2.1;have hll:=(m.wid k4 F).2;obtain ⟨x3,kh⟩:=kx.out k4 t U m;have q7:=m.tab.ne x3 F (by omega);have kg:=m.tab.row _ (T8 x3);rw [kh] at kg q7;rw [x8.out] at kg q7;have xa:=ak kg.2.1;have xi:=ak kg.2.2.2.2;have x9:=ak h8.2.1;have qi:=ak h8.2.2.2.2;have h6:=ak (λn=>m.keep F n);have qg:cJ (∀ (f:Nat) (l':a8) (wr':ZV),f<256->U.grownBy wr' (ZY t[k4].1)->aM wr' t[k4].1 l'->l'.length=W->(∀ x∈l',x<256)->dM l'=cC (dM t[k4].2.2) f (dM s.2.2)->dM l' d=0->∃ T',EW w w.heap.size W d r (k4+1) (Z6 (ZY ⟨g,0,ZZ⟩) D.length cap) S s.2.2 T' wr'):=
                   λf l' wr' hf hg hB q5 hx X hc=>⟨_,m.step qa F hg hB q5 hx hf X hc⟩
                  clear m h8 kg kh;generalize N:t[k4].2.2=l at *;generalize t[k4].1=bk at *;generalize x6:dM l d=x at *;have Z:gm x (gi y)<256:=bB _ ks;have ke:=nJ ks p3 xm.out;generalize ko:gm x (gi y)=f at *;have ha:=ak ke;have xo:=ak x6;clear ke x6 N;by_cases km:f=0
                  . have kz:((gm x (gi y):Nat):Int)=0:=(by rw [ko,km];rfl);have x5:x=0:=(by have:=ha.out;rw [km,bM,U5] at this;exact this);have I:=ak (h6.out x5);clear km ko Z x5 h6 qg ha;have tn:(d:Int)<(W:Int):=(by omega);go_wp2_with (go_at_call 64;refine (ts x (gi y) rfl rfl ks (iF p3) kz _).mono ?_;rintro e U ⟨rfl,rfl⟩);refine VO 1 ?_;rw [VJ];go_wp2;go_roundw
                    case rel=>exact ⟨k4+1,t,by omega,by omega,by go_num,I.out⟩
                    case measure=>simp [intOf];omega
                  . have y2:(((f:Nat):Int) != 0)=ZX:=(by rw [bne_iff_ne];omega);have kz:((gm x (gi y):Nat):Int)=((f:Nat):Int):=(by rw [ko]);clear km ko h6;go_wp2_with (go_at_call 64;refine (ts x (gi y) rfl rfl ks (iF p3) kz _).mono ?_;rintro e U ⟨rfl,rfl⟩);go_loopw [16] (λjv wr=>RJ U bk l s.2.2 f d W jv wr) (λjv _=>W-(intOf jv).toNat)
                    case atStart=>exact ⟨d,TY _,by omega,rfl,Ws _ _,by rw [Ep];exact x9.out⟩
                    case round=>
                     rename ZV=>wj;obtain ⟨j,y0,yp,rfl,kc,J⟩:=hrel;have yo:=kc.cell hh y7;by_cases y9:j<W
                     . have M:=(xa.out.grown kc (by intro e;injection e with e;exact q7 e)).cell j (by rw [qe.out];exact y9);have ye:=J.cell j (by rw [tq];omega);rw [KY _ _ _ _ _ (by omega)] at ye;have z0:=J.frozen j;have P:=J.set j (l.getD j 0^^^gm f (s.2.2.getD j 0));rw [Ic _ _ _ _ _ y0] at P;have q0:=eL kc j (Z8 .u8 ((l.getD j 0^^^gm f (s.2.2.getD j 0):Nat):Int));have y3:=dz xi.out j;have z1:=lA (l.getD j 0) (gm f (s.2.2.getD j 0)) (dz qi.out j) (bB _ Z);clear J kc hh yi;generalize l.getD j 0^^^gm f (s.2.2.getD j 0)=av at *;generalize l.getD j 0=a0 at *;generalize s.2.2.getD j 0=dd at *;go_wp2_with (go_at_call 64;refine (ts f dd rfl rfl Z y3 rfl _).mono ?_;rintro e w' ⟨rfl,rfl⟩);go_region;go_wp2;go_roundw
                       case rel=>exact ⟨j+1,by omega,by omega,by go_num,sU q0 1,P⟩
                       case measure=>simp [intOf];omega
                     . have qv:j=W:=(by omega);rw [qv] at J;have X:=KZ l s.2.2 f d W hll qe.out xj.out;have n:dM (lI l s.2.2 f d W) d=0:=by
                        rw [X];show dM l d^^^gm f (dM s.2.2 d)=0;rw [xo.out,xp.out];exact ha.out
                       obtain ⟨T4,qm⟩:=qg.out f _ wj Z kc J (by rw [tq];exact hll) (N6 qi.out Z _ _) X n;have xe:=ak qm;clear X n qm J qv;go_wp2;go_roundw
                       case rel=>exact ⟨k4+1,T4,by omega,by omega,by go_num,xe.out⟩
                       case measure=>simp [intOf];omega
                . have xd:=ak (xf.out k4 t U m (by omega));clear m;go_wp2;go_roundw
                  case rel=>exact ⟨r+1,d+1,t,by omega,by go_num,by go_num,xd.out⟩
                  case measure=>simp [intOf];omega
        . have xz:d=W:=(by omega);have HK:=ak (z.done (by omega));have HB:=ak z.bel;clear z xz;go_wp2;go_ret;exact ⟨λ_=>⟨r,by omega,rfl,HK.o⟩,λh=>absurd xg.out h,HB.o⟩
def mid (f:Nat->ZU) (g F:Nat->Nat) (c off k j:Nat):ZU:=if off<=j/\j<off+k then Z8 .u8 ((g j^^^gm c (F (j-off)):Nat):Int) else f j
def AdM (w:ZV) (b t N off k c tb fb foff:Nat) (f:Nat->ZU) (g F:Nat->Nat) (i:ZU) (wr:ZV):Prop:=
 ∃ j:Nat,j<=k/\i=Z8 Z9 j/\wr.rowIs b t N (mid f g F c off j)/\mv wr tb c/\(∀ i,i<k->wr.cell? ⟨fb,foff+i,ZZ⟩=ZY (Z8 .u8 ((F i:Nat):Int)))/\w.grownBy wr (ZY b)
def K4 (f:Nat->ZU) (g F:Nat->Nat) (c off j x:Nat):mid f g F c off (j+1) x=if x=off+j then Z8 .u8 ((g (off+j)^^^gm c (F j):Nat):Int) else mid f g F c off j x:=by
 unfold mid;by_cases h:x=off+j
 . subst h;rw [TX rfl,TX (by omega),WQ]
 . rw [TW h];by_cases a:off<=x/\x<off+j
   . rw [TX a,TX (by omega)]
   . rw [TW a,TW (by omega)]
theorem K5 (f:Nat->ZU) (g F:Nat->Nat) (c off:Nat):mid f g F c off 0=f:=by
 funext j;unfold mid;rw [TW (by omega)]
theorem K6 {f:Nat->ZU} {g F:Nat->Nat} {off:Nat} (a:∀ j,off<=j->j<off+n->f j=Z8 .u8 ((g j:Nat):Int)) (j:Nat):mid f g F 0 off n j=f j:=by
 unfold mid;split
 . rename_i h;rw [bM,U5,a j h.1 h.2]
 . rfl
theorem zG (b t N off n cap p d s c:Nat) (f:Nat->ZU) (g F:Nat->Nat) (w:ZV) (E:c<256) (B:w.rowIs b t N f) (C:∀ j,off<=j->j<off+n->f j=Z8 .u8 ((g j:Nat):Int)) (O:∀ j,g j<256) (K:∀ j,F j<256) (hn:off+n<=N) (k6:n<=140737488355328)
 (U:∀ i,i<n->w.cell? ⟨p,d+i,ZZ⟩=ZY (Z8 .u8 ((F i:Nat):Int))) (k7:p≠b\/d+n<=off\/off+n<=d) :
 ZS ZL 179 #[Z6 (ZY ⟨b,off,ZZ⟩) n cap,Z6 (ZY ⟨p,d,ZZ⟩) n s,Z8 .u8 c] w λe w'=>e=Z4 (Z1 #[])/\w'.rowIs b t N (mid f g F c off n)/\w.grownBy w' (ZY b):=by
 by_cases I:c=0
 . subst I;go_enter func179,ntmps179;go_wp2;exact Uv (v:=Z1 #[]) (by simp [results,results179]) rfl ⟨rfl,B.congr (λj _=>(K6 C j).symm),Ws _ _⟩
 . have ke:((c:Int)==0)=ZW:=(by rw [beq_eq_false_iff_ne];omega);clear I;go_enter func179,ntmps179;go_wp2_with fail;refine (lG c E _).mono ?_;rintro e w1 ⟨cs,rfl,kb,J,q⟩;have ka:=q.size;go_wp2_with (refine np _ rfl (Z2 6) (Z2 11) rfl w1.heap.size c cs _ rfl rfl (UN w1 _) rfl kb J ?_;intro w2 P r);have R:b<w.heap.size:=B.lt;have l:w.grownBy w2 ZZ:=by
    refine ⟨r.os.trans q.os,r.tape.trans q.tape,r.output.trans q.output,?_,λk G _=>?_⟩
    . have:=r.size;rw [Ul] at this;omega
    . rw [r.block k (by rw [Ul];omega) (by intro e;simp at e;omega),Uy _ _ _ (by omega),q.block k G]
   have X:w2.rowIs b t N f:=B.of_block (l.block b R (by simp));have S:∀ i,i<n->w2.cell? ⟨p,d+i,ZZ⟩=ZY (Z8 .u8 ((F i:Nat):Int)):=λi hi=>by
    have:=U i hi;exact l.cell this (by simp)
   have Z:w.grownBy w2 (ZY b):=⟨l.os,l.tape,l.output,l.size,λk G _=>l.block k G (by simp)⟩;have kc:w1.heap.size≠b:=(by omega);clear r l B U J q ka R;go_loopw [17] (λi wr=>AdM w b t N off n c w1.heap.size p d f g F i wr) (λi _=>n-(intOf i).toNat)
   case atStart=>exact ⟨0,T7 _,rfl,by rw [K5];exact X,P,S,Z⟩
   case round=>
    clear P S Z X;obtain ⟨j,Q,rfl,u,z,A,D⟩:=hrel;by_cases k9:j<n
    . have c1:=u.cell (i:=off+j) (by omega);have f1:=u.frozen (off+j);have c2:=A j k9;have H:mid f g F c off j (off+j)=Z8 .u8 ((g (off+j):Nat):Int):=(by unfold mid;rw [TW (by omega)];exact C _ (by omega) (by omega));rw [H] at c1;have W:=lA (g (off+j)) (gm c (F j)) (O _) (bB _ E);have Y:=(u.set (off+j) (Z8 .u8 ((g (off+j)^^^gm c (F j):Nat):Int))).congr (λx _=>(K4 f g F c off j x).symm);have M:=qO z (a:=⟨b,off+j,ZZ⟩) kc (Z8 .u8 ((g (off+j)^^^gm c (F j):Nat):Int));have V:=eL D (off+j) (Z8 .u8 ((g (off+j)^^^gm c (F j):Nat):Int));have T:∀ i,i<n->(wr.setCell ⟨b,off+j,ZZ⟩ (Z8 .u8 ((g (off+j)^^^gm c (F j):Nat):Int))).cell? ⟨p,d+i,ZZ⟩=ZY (Z8 .u8 ((F i:Nat):Int)):=λi hi=>by
       rw [<- A i hi];by_cases k5:p=b
       . exact ab0 _ _ _ _ (by intro e;have h1:off+j=d+i:=UB Addr.off e;omega)
       . exact Uo (Uj _ _ _ _ k5)
      have L:=K j;have h:=a5 Y M T V;have HT:=ak z;generalize F j=y at c2 W L h;generalize g (off+j)=x at c1 W h;clear H Y M V T u z A D O K C;go_wp2;go_region_with ((go_at_call 200;refine (wZ w1.heap.size c y E L _ (by exact λj Q=>HT.o j Q)).mono ?_;rintro e w' ⟨rfl,m,rfl⟩));all_goals
       go_wp2;go_roundw
       case rel=>exact ⟨j+1,by omega,by go_num,h.o.1,h.o.2.1,h.o.2.2.1,⟨h.o.2.2.2.os,h.o.2.2.2.tape,h.o.2.2.2.output,h.o.2.2.2.size,h.o.2.2.2.block⟩⟩
       case measure=>simp [intOf];omega
    . have k8:j=n:=(by omega);subst k8;clear z A;go_wp2;go_end0
      exact ⟨rfl,u,D⟩
def nG (C:Ck) (k:Nat):ZU:=if k<128 then Z8 .u8 ((C.m (k/16) (k%16):Nat):Int) else if k=128 then Z8 Z9 (C.told:Int) else Z8 Z9 (C.count:Int)
def aF (w:ZV) (b:Nat) (C:Ck):Prop:=w.rowIs b 332 130 (nG C)
structure eF (C:Ck):Prop where
 byt:zm C
 le:C.told<=C.count
 Sl:C.count<=8
def aF.at (h:aF w b C) (r i:Nat) (a:r<8) (hi:i<16):w.cell? ⟨b,r*16+i,ZZ⟩=ZY (Z8 .u8 ((C.m r i:Nat):Int)):=by
 have:=h.cell (i:=r*16+i) (by omega);rw [this];unfold nG;rw [TX (by omega),show (r*16+i)/16=r by omega,show (r*16+i)%16=i by omega]
def aF.Sd (h:aF w b C):w.cell? ⟨b,128,ZZ⟩=ZY (Z8 Z9 (C.told:Int)):=h.cell (i:=128) (by decide)
def aF.Sy (h:aF w b C):w.cell? ⟨b,129,ZZ⟩=ZY (Z8 Z9 (C.count:Int)):=h.cell (i:=129) (by decide)
def aa5 (C:Ck) (i:Nat) (wo:ZV) (v:ZU) (wr:ZV):Prop:=∃ r:Nat,v=Z8 Z9 r/\C.told<=r/\r<=C.count/\(∀ k,C.told<=k->k<r->C.m k i=0)/\wr=wo
def spV:Option Nat->ZU
 | some r=>Z1 #[Z8 Z9 (r:Int),Z3 ZX]
 | none=>Z1 #[Z8 Z9 0,Z3 ZW]
theorem xw (b i:Nat) (C:Ck) (w:ZV) (h:aF w b C) (l:eF C) (hi:i<16) :
 ZS ZL 220 #[Z7 (ZY ⟨b,0,ZZ⟩),Z8 Z9 i] w λe w'=>e=Z4 (spV (ew C i))/\w'=w:=by
 have u:=h.Sd;have t:=h.Sy;have n:=l.le;have x:=l.Sl;have y:(i:Int)<16:=by omega
 go_enter func220,ntmps220;go_wp2;go_loopw [6] (λv wr=>aa5 C i w v wr) (λv _=>C.count-(intOf v).toNat)
 case atStart=>exact ⟨C.told,rfl,TY _,n,λk a b=>absurd b (by omega),rfl⟩
 case round=>
  obtain ⟨r,rfl,s,B,f,rfl⟩:=hrel;by_cases q:r<C.count
  . have c1:=h.at r i (by omega) hi;have j:=ak f;clear f;have p:(r:Int)<C.count:=(by omega);have A:(r:Int)<8:=(by omega);by_cases d:C.m r i=0
    . rw [d] at c1;go_wp2;go_roundw
      case rel=>exact ⟨r+1,by go_num,by omega,by omega,λk a b=>by
       by_cases e:k=r
       . rw [e];exact d
       . exact j.o k a (by omega),rfl⟩
      case measure=>simp [intOf];omega
    . have z:((C.m r i:Nat):Int)≠0:=(by omega);have c:=vM s q d j.o;have g:=ak c;clear c d;go_wp2;refine Uv (v:=Z1 #[Z8 Z9 (r:Int),Z3 ZX]) (by simp [results,results220]) rfl ?_;rw [g.o];exact ⟨rfl,rfl⟩
  . have p:¬ (r:Int)<C.count:=(by omega);have c:=vN (C:=C) (i:=i) (λk a b=>f k a (by omega));have g:=ak c;clear c f;go_wp2;refine Uv (v:=Z1 #[Z8 Z9 0,Z3 ZW]) (by simp [results,results220]) rfl ?_;rw [g.o];exact ⟨rfl,rfl⟩
def RdR (C:Ck) (i:Nat) (wo:ZV) (v:ZU) (wr:ZV):Prop:=∃ r:Nat,v=Z8 Z9 r/\r<=C.told/\(∀ k,k<r->C.m k i=0)/\wr=wo
theorem xA (b i:Nat) (C:Ck) (w:ZV) (j:aF w b C) (l:eF C) (hi:i<16) :
 ZS ZL 224 #[Z7 (ZY ⟨b,0,ZZ⟩),Z8 Z9 i] w λe w'=>e=Z4 (Z3 (cI C i))/\w'=w:=by
 have s:=j.Sd;have t:=l.le;have u:=l.Sl;have x:(i:Int)<16:=by omega
 go_enter func224,ntmps224;go_wp2;go_loopw [10] (λv wr=>RdR C i w v wr) (λv _=>C.told-(intOf v).toNat)
 case atStart=>exact ⟨0,rfl,T7 _,λk h=>absurd h (by omega),rfl⟩
 case round=>
  obtain ⟨r,rfl,A,f,rfl⟩:=hrel;by_cases q:r<C.told
  . have c1:=j.at r i (by omega) hi;have n:=ak f;clear f;have p:(r:Int)<C.told:=(by omega);have z:(r:Int)<8:=(by omega);by_cases d:C.m r i=0
    . rw [d] at c1;go_wp2;go_roundw
      case rel=>exact ⟨r+1,by go_num,by omega,λk b=>by
       by_cases e:k=r
       . rw [e];exact d
       . exact n.o k (by omega),rfl⟩
      case measure=>simp [intOf];omega
    . have y:((C.m r i:Nat):Int)≠0:=(by omega);have c:=qG q d;have g:=ak c;clear c d;go_wp2;go_ret;rw [g.o];exact ⟨rfl,rfl⟩
  . have p:¬ (r:Int)<C.told:=(by omega);have c:=(ij (C:=C) (i:=i)).2 (λk a=>f k (by omega));have g:=ak c;clear c f;go_wp2;go_ret;rw [g.o];exact ⟨rfl,rfl⟩
def ll (C:Ck) (k r i:Nat):Ck:=⟨cY C.m k r i,C.told,C.count⟩
theorem If (m:Nat->Nat->Nat) (r i:Nat):cY m 0 r i=m:=by funext k j;unfold cY;rw [TW (by omega)]
def Ig (m:Nat->Nat->Nat) (k r i:Nat):cY m k r i r=m r:=nK (by omega)
def xB (m:Nat->Nat->Nat) (k r i:Nat):cY m k r i k=m k:=nK (by omega)
theorem Ih (m:Nat->Nat->Nat) (r i:Nat):cY m (r+1) r i=cY m r r i:=by
 funext k j;unfold cY;by_cases h:k<r/\k≠r
 . rw [TX h,TX (by omega)]
 . rw [TW h,TW (by omega)]
def K7 (C:Ck) (k r i:Nat) (e:k≠r) (f:k<8) (x:Nat) :
 mid (nG (ll C k r i)) (λx=>cY C.m k r i (x/16) (x%16)) (λj=>C.m r j) (gm (C.m k i) (gi (C.m r i))) (k*16) 16 x=nG (ll C (k+1) r i) x:=by
 unfold mid;by_cases h:k*16<=x/\x<k*16+16
 . rw [TX h];have c:x/16=k:=(by omega);have d:x-k*16=x%16:=(by omega);unfold nG;rw [TX (by omega)];show Value.int .u8 ((cY C.m k r i (x/16) (x%16)^^^gm _ (C.m r (x-k*16)):Nat):Int)=Z8 .u8 ((cY C.m (k+1) r i (x/16) (x%16):Nat):Int);rw [c,d,xB];have:cY C.m (k+1) r i k (x%16)=C.m k (x%16)^^^gm (gm (C.m k i) (gi (C.m r i))) (C.m r (x%16)):=by unfold cY;rw [TX ⟨by omega,e⟩]
   rw [this]
 . rw [TW h];unfold nG;by_cases a:x<128
   . rw [TX a,TX a];have:cY C.m k r i (x/16) (x%16)=cY C.m (k+1) r i (x/16) (x%16):=by
      unfold cY;by_cases b:x/16<k/\x/16≠r
      . rw [TX b,TX (by omega)]
      . rw [TW b,TW (by omega)]
     show Value.int .u8 ((cY C.m k r i (x/16) (x%16):Nat):Int)=Z8 .u8 ((cY C.m (k+1) r i (x/16) (x%16):Nat):Int);rw [this]
   . rw [TW a,TW a];rfl
def OfR (w:ZV) (b r i:Nat) (C:Ck) (v:ZU) (wr:ZV):Prop:=
 ∃ k:Nat,v=Z8 Z9 k/\k<=C.count/\aF wr b (ll C k r i)/\w.grownBy wr (ZY b)
theorem pD (w:ZV) (b o:Nat):(Instr.sliceAt 287 (Z7 (ZY ⟨b,o,ZZ⟩)) ZZ ZZ ZZ).run ZL w=.ok (Z6 (ZY ⟨b,o,ZZ⟩) 16 16) w:=by
 go_simp
theorem xC (b r i:Nat) (C:Ck) (w:ZV) (f:aF w b C) (d:eF C) (u:r<8) (hi:i<16) :
 ZS ZL 222 #[Z7 (ZY ⟨b,0,ZZ⟩),Z8 Z9 r,Z8 Z9 i] w λe w'=>e=Z4 (Z1 #[])/\aF w' b (ll C C.count r i)/\w.grownBy w' (ZY b):=by
 have B:=f.Sy;have c0:=f.at r i u hi;have E:=d.Sl;have z:=d.byt r i;have V:(i:Int)<16:=by omega
 have Y:(r:Int)<8:=by omega
 have l:=ak (show aF w b (ll C 0 r i) by unfold ll;rw [If];exact f);clear f;go_enter func222,ntmps222;go_wp2_with fail;refine (rS (C.m r i) z _).mono ?_;rintro e w1 ⟨rfl,R⟩;have S:=R.symm;subst S;go_wp2;go_loopw [21] (λv wr=>OfR w b r i C v wr) (λv _=>C.count-(intOf v).toNat)
 case atStart=>exact ⟨0,rfl,T7 _,l.o,Ws _ _⟩
 case round=>
  clear B c0 l;rename ZV=>wo;obtain ⟨k,rfl,U,a,g⟩:=hrel;by_cases X:k<C.count
  . have G:(k:Int)<C.count:=(by omega);by_cases h:k=r
    . have F:(k:Int)=(r:Int):=(by omega);have A:cJ (aF wo b (ll C (k+1) r i)):=ak (by unfold ll at *;rw [h] at a ⊢;rw [Ih];exact a);clear h a;go_wp2;go_roundw
      case rel=>exact ⟨k+1,by go_num,by omega,A.o,g⟩
      case measure=>simp [intOf];omega
    . have F:(k:Int)≠(r:Int):=(by omega);have W:(k:Int)<8:=(by omega);have c1:=a.at k i (by omega) hi;have n:(ll C k r i).m k i=C.m k i:=(by show cY C.m k r i k i=_;rw [xB]);rw [n] at c1;have y:=d.byt k i;have p:∀ j,j<16->wo.cell? ⟨b,r*16+j,ZZ⟩=ZY (Z8 .u8 ((C.m r j:Nat):Int)):=λj K=>by
       have:=a.at r j u K;have D:(ll C k r i).m r j=C.m r j:=(by show cY C.m k r i r j=_;rw [Ig]);rwa [D] at this
      have O:gm (C.m k i) (gi (C.m r i))<256:=bB _ y;have t:=K7 C k r i h (by omega);have N:∀ x,cY C.m k r i (x/16) (x%16)<256:=λx=>nL d.byt _ _;have J:=ak p;have M:=ak t;have L:=ak a;clear p t n a;have H:=λw=>pD w b (k*16);have I:=λw=>pD w b (r*16);go_wp2;go_region_with (first
       | (go_at_call 188;refine (mj (C.m k i) (gi (C.m r i)) y (iF z) _).mono ?_;rintro e w' ⟨rfl,rfl⟩)
       | (go_at_call 179;refine (zG b 332 130 (k*16) 16 16 b (r*16) 16 (gm (C.m k i) (gi (C.m r i))) (nG (ll C k r i)) (λx=>cY C.m k r i (x/16) (x%16)) (λj=>C.m r j) _ O (by exact L.out) (λj T E=>by unfold nG;rw [TX (by omega)];rfl) N (λj=>d.byt r j) (by omega) (by omega) (by exact J.out) (.inr (by omega))).mono ?_;rintro e w' ⟨rfl,s,c⟩))
      all_goals
       have Q:aF w' b (ll C (k+1) r i):=s.congr (λx _=>M.out x);have P:w.grownBy w' (ZY b):=gH g ⟨c.os,c.tape,c.output,c.size,c.block⟩;clear s c H I;go_wp2;go_roundw
       case rel=>exact ⟨k+1,by go_num,by omega,Q,P⟩
       case measure=>simp [intOf];omega
  . have q:k=C.count:=(by omega);rw [q] at a;have G:¬ (k:Int)<C.count:=(by omega);clear q;go_wp2;go_end0
    exact ⟨rfl,a,g⟩
def pE (m:Nat->Nat->Nat) (r i j:Nat):Nat->Nat->Nat:=λk x=>if k=r/\x<j then gm (m r x) (gi (m r i)) else m k x
def PP (C:Ck) (r i j:Nat):Ck:=⟨pE C.m r i j,C.told,C.count⟩
theorem Ii (m:Nat->Nat->Nat) (r i:Nat):pE m r i 0=m:=by funext k x;unfold pE;rw [TW (by omega)]
def N8 (C:Ck) (r i j:Nat) (d:r<8) (c:j<16) (x:Nat):nG (PP C r i (j+1)) x=if x=r*16+j then Z8 .u8 ((gm (C.m r j) (gi (C.m r i)):Nat):Int) else nG (PP C r i j) x:=by
 unfold nG;by_cases h:x=r*16+j
 . rw [TX h,TX (by omega)];show Value.int .u8 ((pE C.m r i (j+1) (x/16) (x%16):Nat):Int)=_;unfold pE;rw [TX (by omega),show x%16=j by omega]
 . rw [TW h];by_cases a:x<128
   . rw [TX a,TX a];have:pE C.m r i (j+1) (x/16) (x%16)=pE C.m r i j (x/16) (x%16):=by
      unfold pE;by_cases b:x/16=r/\x%16<j
      . rw [TX b,TX (by omega)]
      . rw [TW b,TW (by omega)]
     show Value.int .u8 ((pE C.m r i (j+1) (x/16) (x%16):Nat):Int)=Z8 .u8 ((pE C.m r i j (x/16) (x%16):Nat):Int);rw [this]
   . rw [TW a,TW a];rfl
def QB (C:Ck) (r i x:Nat):nG (PP C r i 16) x=nG ⟨eO C.m r i,C.told,C.count⟩ x:=by
 unfold nG;by_cases a:x<128
 . rw [TX a,TX a];have:pE C.m r i 16 (x/16) (x%16)=eO C.m r i (x/16) (x%16):=by
    unfold pE eO;by_cases b:x/16=r
    . rw [TX b,TX (by omega)]
    . rw [TW b,TW (by omega)]
   show Value.int .u8 ((pE C.m r i 16 (x/16) (x%16):Nat):Int)=Z8 .u8 ((eO C.m r i (x/16) (x%16):Nat):Int);rw [this]
 . rw [TW a,TW a];rfl
theorem Ij (cs:List ZU) (k:Nat) (v:ZU) (a:k<16) (b:cs[k]?=ZY v) (w:ZV):(Instr.index 287 (.agg cs.toArray) (Z8 Z9 (k:Int))).run ZL w=.ok v w:=by
 simp [Instr.index,UR X7,asIntOf,go_sem,part];rw [TX a,b];rfl
def fJ (f:Nat->Nat):List ZU:=(YF 16).map (λj=>Value.int .u8 ((f j:Nat):Int))
def jH (f:Nat->Nat):(fJ f).length=16:=by unfold fJ;rw [Ud,UM]
def rW (f:Nat->Nat) (j:Nat) (a:j<16):(fJ f)[j]?=ZY (Z8 .u8 ((f j:Nat):Int)):=by
 unfold fJ;rw [UE,VU a];rfl
def tw (h:aF w b C) (r:Nat) (d:r<8):w.rangeAt b (r*16) (fJ (C.m r)):=λj v a=>by
 have c:j<16:=by
  have:=(Vc.1 a).1;rwa [jH] at this
 rw [rW _ _ c] at a;rw [<- a];exact h.at r j d c
def Tryz.So (f:Nat->Nat):(ZL.info? 287).map (λi=>i.size)=ZY (fJ f).length:=by rw [jH];exact Tryz.SE
def ScR (w:ZV) (b r i:Nat) (C:Ck) (v:ZU) (wr:ZV):Prop:=
 ∃ k:Nat,v=Z8 Z9 k/\k<=16/\aF wr b (PP C r i k)/\w.grownBy wr (ZY b)
theorem BC (b r i:Nat) (C:Ck) (w:ZV) (f:aF w b C) (u:eF C) (g:r<8) (hi:i<16) :
 ZS ZL 221 #[Z7 (ZY ⟨b,0,ZZ⟩),Z8 Z9 r,Z8 Z9 i] w λe w'=>e=Z4 (Z1 #[])/\aF w' b ⟨eO C.m r i,C.told,C.count⟩/\w.grownBy w' (ZY b):=by
 have c0:=f.at r i g hi;have y:=u.byt r i;have K:(i:Int)<16:=by omega
 have L:(r:Int)<8:=by omega
 have l:=ak (show aF w b (PP C r i 0) by unfold PP;rw [Ii];exact f);have n:=ak (tw f r g);have A:cJ (∀ j,j<16->(fJ (C.m r))[j]?=ZY (Z8 .u8 ((C.m r j:Nat):Int))):=ak (rW (C.m r));have I:=ak (jH (C.m r));have B:=ak (Tryz.So (C.m r));generalize fJ (C.m r)=cs at *;clear f;go_enter func221,ntmps221;go_wp2_with fail;refine (rS (C.m r i) y _).mono ?_;rintro e w1 ⟨rfl,G⟩;have F:=G.symm;subst F;go_wp2_with (refine abR rfl 287 (Z2 22) rfl b (r*16) rfl cs _ n.o X7 rfl B.o ?_);go_loopw [24] (λv wr=>ScR w b r i C v wr) (λv _=>16-(intOf v).toNat)
 case atStart=>exact ⟨0,rfl,T7 _,l.o,Ws _ _⟩
 case round=>
  clear c0 l n;rename ZV=>wo;obtain ⟨k,rfl,M,c,h⟩:=hrel;by_cases d:k<16
  . have E:(k:Int)<16:=(by omega);have t:=A.o k d;have c1:=c.at r k g d;have J:=c.frozen (r*16+k);have H:=u.byt r k;have s:aF (wo.setCell ⟨b,r*16+k,ZZ⟩ (Z8 .u8 ((gm (C.m r k) (gi (C.m r i)):Nat):Int))) b (PP C r i (k+1)):=
     (c.set (r*16+k) (Z8 .u8 ((gm (C.m r k) (gi (C.m r i)):Nat):Int))).congr (λx _=>(N8 C r i k g d x).symm)
    have p:=eL h (r*16+k) (Z8 .u8 ((gm (C.m r k) (gi (C.m r i)):Nat):Int));have a:=al s p;clear s p c h;generalize (PP C r i k).m r k=z at c1;have D:=Ij cs k _ d t;clear t;go_wp2;go_region_with ((go_at_call 188;refine (mj (C.m r k) (gi (C.m r i)) H (iF y) _).mono ?_;rintro e w' ⟨rfl,rfl⟩));all_goals
     clear D;go_wp2;go_roundw
     case rel=>exact ⟨k+1,by go_num,by omega,a.o.1,⟨a.o.2.os,a.o.2.tape,a.o.2.output,a.o.2.size,a.o.2.block⟩⟩
     case measure=>simp [intOf];omega
  . have q:k=16:=(by omega);rw [q] at c;have E:¬ (k:Int)<16:=(by omega);clear q;go_wp2;go_end0
    exact ⟨rfl,c.congr (λx _=>QB C r i x),h⟩
theorem qP {t:Nat}:∀ (a:List ZU) (o:Nat) (w:ZV) (f:Nat->ZU),w.rowIs b t n f->(w.setCells b o a).rowIs b t n (λx=>if o<=x/\x<o+a.length then a.getD (x-o) Z0 else f x)
 | [],o,w,f,h=>h.congr (λi _=>by rw [TW (by simp)])
 | v::a,o,w,f,h=>(qP a (o+1) _ _ (h.set o v)).congr (λi _=>by
  by_cases c:i=o
  . subst c;rw [TW (by omega),TX rfl,TX (by simp)];simp
  . by_cases d:o+1<=i/\i<o+1+a.length
    . rw [TX d,TX (by simp;omega),show i-o=(i-(o+1))+1 by omega];simp
    . rw [TW d,TW c,TW (by simp;omega)])
def od:∀ (a:List ZU) (o:Nat) (w w':ZV),w.grownBy w' (ZY b)->w.grownBy (w'.setCells b o a) (ZY b)
 | [],_,_,_,h=>h
 | v::a,o,w,_,h=>od a (o+1) w _ (eL h o v)
def rC (m:Nat->Nat->Nat) (q:Nat) (f:Nat->Nat):Nat->Nat->Nat:=λk=>if k=q then f else m k
theorem rX (h:aF w b C) (q:Nat) (d:q<8) (f:Nat->Nat):aF (w.setCells b (q*16) (fJ f)) b ⟨rC C.m q f,C.told,C.count⟩:=by
 refine (qP (fJ f) (q*16) w (nG C) h).congr (λx _=>?_);rw [jH];unfold nG;by_cases c:q*16<=x/\x<q*16+16
 . rw [TX c,TX (by omega)];show (fJ f).getD (x-q*16) Z0=Z8 .u8 ((rC C.m q f (x/16) (x%16):Nat):Int);have e:x/16=q:=(by omega);unfold rC;rw [TX e,Ub,rW _ _ (by omega),show x-q*16=x%16 by omega];rfl
 . rw [TW c];by_cases a:x<128
   . rw [TX a,TX a];show _=Value.int .u8 ((rC C.m q f (x/16) (x%16):Nat):Int);unfold rC;rw [TW (by omega)]
   . rw [TW a,TW a]
def K8 (f:Nat->Nat):(fJ f).toArray.all (λv=>v.oneCell')=ZX:=by
 rw [X6];intro i hi;have a:i<16:=by simpa [jH] using hi
 have:=rW f i a;have e:(fJ f).toArray[i]?=ZY (Z8 .u8 ((f i:Nat):Int)):=by simpa using this
 rw [VP hi] at e;simp only [US] at e;rw [e];rfl
def tz (h:aF w b C) (q:Nat) (c:q<8):w.there b (q*16) 16:=λj a=>⟨by rw [h.at q j c a];rfl,h.frozen _⟩
def rY (h:aF w b C) (q:Nat) (a:q<8):(Instr.loadAt 287 (Z7 (ZY ⟨b,q*16,ZZ⟩))).run ZL w=.ok (.agg (fJ (C.m q)).toArray) w:=
 run_loadAt_mid w b (q*16) 287 (fJ (C.m q)) _ (tw h q a) X7 rfl (Tryz.So _)
theorem xD (h:aF w b C) (n:Nat):aF (w.setCell ⟨b,129,ZZ⟩ (Z8 Z9 (n:Int))) b ⟨C.m,C.told,n⟩:=
 (h.set 129 (Z8 Z9 (n:Int))).congr (λx d=>by
  unfold nG;by_cases e:x=129
  . subst e;rw [TX rfl,TW (by decide),TW (by decide)]
  . rw [TW e];by_cases a:x<128
    . rw [TX a,TX a]
    . rw [TW a,TW a];by_cases c:x=128
      . rw [TX c,TX c]
      . omega)
theorem K9 (h:aF w b C) (n:Nat):aF (w.setCell ⟨b,128,ZZ⟩ (Z8 Z9 (n:Int))) b ⟨C.m,n,C.count⟩:=
 (h.set 128 (Z8 Z9 (n:Int))).congr (λx c=>by
  unfold nG;by_cases e:x=128
  . subst e;rw [TX rfl,TW (by decide),TX rfl]
  . rw [TW e];by_cases a:x<128
    . rw [TX a,TX a]
    . rw [TW a,TW a,TW e,TW e])
structure St where
 k:Nat
 a:Int
 b:Int
 c:Nat
def Ik (kk:IntKind) (s:St):List ZU:=[.int kk s.k,Z8 Z9 s.a,Z8 Z9 s.b,Z8 .u8 s.c]
def zH (s:St):Prop:=s.k<256/\-9223372036854775808<=s.a/\s.a<=9223372036854775807/\-9223372036854775808<=s.b/\s.b<=9223372036854775807/\s.c<256
def Ps (kk:IntKind) (w:ZV) (v:ZU) (P:List St):Prop:=
 ∃ ao c,v=.slice ao P.length c/\P.length<=4398046511104/\(P≠[]->∃ b off,ao=ZY ⟨b,off,ZZ⟩/\∀ i (hi:i<P.length),
  w.cell? ⟨b,off+i*4,ZZ⟩=ZY (.int kk P[i].k)/\w.cell? ⟨b,off+i*4+1,ZZ⟩=ZY (Z8 Z9 P[i].a)/\w.cell? ⟨b,off+i*4+2,ZZ⟩=ZY (Z8 Z9 P[i].b)/\w.cell? ⟨b,off+i*4+3,ZZ⟩=ZY (Z8 .u8 P[i].c))
def Ps.mono {P:List St} (h:Ps kk w v P) (a:ZT w.heap.size w w'):Ps kk w' v P:=by
 obtain ⟨ao,c,g,j,k⟩:=h;refine ⟨ao,c,g,j,λl=>?_⟩;obtain ⟨b,off,e,m⟩:=k l;refine ⟨b,off,e,λi hi=>?_⟩;obtain ⟨c0,c1,d,f⟩:=m i hi;exact ⟨by rw [a.cell (Ui c0)];exact c0,by rw [a.cell (Ui c1)];exact c1,by rw [a.cell (Ui d)];exact d,by rw [a.cell (Ui f)];exact f⟩
def Ps.cases {P:List St} (h:Ps kk w v P):(P=[]/\∃ ao c,v=.slice ao 0 c)\/∃ b off c,v=Z6 (ZY ⟨b,off,ZZ⟩) P.length c/\P.length<=4398046511104/\∀ i (hi:i<P.length),
 w.cell? ⟨b,off+i*4,ZZ⟩=ZY (.int kk P[i].k)/\w.cell? ⟨b,off+i*4+1,ZZ⟩=ZY (Z8 Z9 P[i].a)/\w.cell? ⟨b,off+i*4+2,ZZ⟩=ZY (Z8 Z9 P[i].b)/\w.cell? ⟨b,off+i*4+3,ZZ⟩=ZY (Z8 .u8 P[i].c):=by
 obtain ⟨ao,c,d,f,g⟩:=h;by_cases e:P=[]
 . subst e;exact .inl ⟨rfl,ao,c,d⟩
 . obtain ⟨b,off,rfl,j⟩:=g e;exact .inr ⟨b,off,c,d,f,j⟩
def Ps.slice {P:List St} (h:Ps kk w v P):∃ ao c,v=.slice ao P.length c:=by
 obtain ⟨ao,c,a,_⟩:=h;exact ⟨ao,c,a⟩
def iN (s:St) (regs shards:Int):Prop:=(s.k=0\/s.k=2)/\0<=s.a/\s.a<regs/\0<=s.b/\s.b<shards\/s.k=1/\0<=s.a/\s.a<regs/\0<=s.b/\s.b<regs/\s.a≠s.b
def zI (regs:Int) (P:List St):Prop:=0<=regs/\regs<=32/\P.length<=2000
def iO (regs:Int) (P:List St) (shards:Int):Prop:=zI regs P/\∀ i (hi:i<P.length),iN P[i] regs shards
def BIs (p:Prop) (w:ZV) (r:ZR) (w':ZV):Prop:=∃ b:Bool,r=Z4 (Z3 b)/\(b=ZX↔p)/\ZT w.heap.size w w'
def aa6 (p:Prop) (w:ZV) (r:ZR) (w':ZV):Prop:=∃ b:Bool,r=Z4 (Z3 b)/\(b=ZX↔p)/\w'=w
def A3 (n e:Int):Prop:=0<=n/\n<e
theorem tA (n e:Int) (w:ZV) :
 ZS ZL 213 #[Z8 Z9 n,Z8 Z9 e] w λr w'=>aa6 (A3 n e) w r w':=by
 by_cases a:0<=n
 . go_enter func213,ntmps213;go_wp2;go_ret;exact ⟨_,rfl,by unfold A3;simp [a],rfl⟩
 . go_enter func213,ntmps213;go_wp2;go_ret;exact ⟨_,rfl,by unfold A3;simp;omega,rfl⟩
def ft (n e:Int) (h:A3 n e) (w:ZV) :
 ZS ZL 213 #[Z8 Z9 n,Z8 Z9 e] w λr w'=>r=Z4 (Z3 ZX)/\w'=w:=by
 refine (tA n e w).mono ?_;rintro r w' ⟨b,rfl,a,rfl⟩;exact ⟨by rw [a.2 h],rfl⟩
def jI (n e:Int) (h:¬ A3 n e) (w:ZV) :
 ZS ZL 213 #[Z8 Z9 n,Z8 Z9 e] w λr w'=>r=Z4 (Z3 ZW)/\w'=w:=by
 refine (tA n e w).mono ?_;rintro r w' ⟨b,rfl,a,rfl⟩;cases b
 . exact ⟨rfl,rfl⟩
 . exact absurd (a.1 rfl) h
theorem BD (regs:Int) (v:ZU) (P:List St) (w:ZV) (h:Ps .u8 w v P) :
 ZS ZL 197 #[.agg #[Z8 Z9 regs,v]] w λr w'=>BIs (zI regs P) w r w':=by
 obtain ⟨ao,c,rfl⟩:=h.slice;clear h;have d:ZT w.heap.size w (w.alloc (Z5 #[Z8 Z9 regs,.slice ao P.length c] 206)):=bA _ _;by_cases b:A3 regs 33
 . have a:=ak b;clear b;go_enter func197,ntmps197;go_wp2_with (go_at_call 213;refine (ft _ _ a.o _).mono ?_;rintro e w' ⟨rfl,rfl⟩);go_ret;refine ⟨_,rfl,?_,d⟩;have:=a.o;unfold A3 at this;unfold zI;simp;omega
 . have a:=ak b;clear b;go_enter func197,ntmps197;go_wp2_with (go_at_call 213;refine (jI _ _ a.o _).mono ?_;rintro e w' ⟨rfl,rfl⟩);go_ret;refine ⟨_,rfl,?_,d⟩;have:=a.o;unfold A3 at this;unfold zI;simp;omega
theorem Il (s:St) (regs d:Int) (w:ZV) :
 ZS ZL 198 #[.agg #[Z8 .u8 s.k,Z8 Z9 s.a,Z8 Z9 s.b,Z8 .u8 s.c],Z8 Z9 regs,Z8 Z9 d] w λr w'=>BIs (iN s regs d) w r w':=by
 obtain ⟨k,a,b,c⟩:=s;have j:ZT w.heap.size w (w.alloc (Z5 #[Z8 .u8 k,Z8 Z9 a,Z8 Z9 b,Z8 .u8 c] 299)):=bA _ _;by_cases l:k=0\/k=2
 . by_cases g:A3 a regs
   . by_cases i:A3 b d
     . have f:=ak g;have h:=ak i;clear g i;rcases l with rfl|rfl;all_goals
        go_enter func198,ntmps198;go_wp2_with fail;refine (ft _ _ f.o _).mono ?_;rintro e w' ⟨rfl,rfl⟩;go_wp2_with fail;refine (ft _ _ h.o _).mono ?_;rintro e w' ⟨rfl,rfl⟩;go_wp2;go_ret;refine ⟨_,rfl,?_,j⟩;have:=f.o;have:=h.o;unfold A3 at *;unfold iN;simp;omega
     . have f:=ak g;have h:=ak i;clear g i;rcases l with rfl|rfl;all_goals
        go_enter func198,ntmps198;go_wp2_with fail;refine (ft _ _ f.o _).mono ?_;rintro e w' ⟨rfl,rfl⟩;go_wp2_with fail;refine (jI _ _ h.o _).mono ?_;rintro e w' ⟨rfl,rfl⟩;go_wp2;go_ret;refine ⟨_,rfl,?_,j⟩;have:=f.o;have:=h.o;unfold A3 at *;unfold iN;simp;omega
   . have f:=ak g;clear g;rcases l with rfl|rfl;all_goals
      go_enter func198,ntmps198;go_wp2_with (go_at_call 213;refine (jI _ _ f.o _).mono ?_;rintro e w' ⟨rfl,rfl⟩);go_ret;refine ⟨_,rfl,?_,j⟩;have:=f.o;unfold A3 at *;unfold iN;simp;omega
 . by_cases k1:k=1
   . subst k1;clear l;by_cases g:A3 a regs
     . by_cases i:A3 b regs
       . have f:=ak g;have h:=ak i;clear g i;go_enter func198,ntmps198;go_wp2_with fail;refine (ft _ _ f.o _).mono ?_;rintro e w' ⟨rfl,rfl⟩;go_wp2_with fail;refine (ft _ _ h.o _).mono ?_;rintro e w' ⟨rfl,rfl⟩;go_wp2;go_ret;refine ⟨_,rfl,?_,j⟩;have:=f.o;have:=h.o;unfold A3 at *;unfold iN;simp;omega
       . have f:=ak g;have h:=ak i;clear g i;go_enter func198,ntmps198;go_wp2_with fail;refine (ft _ _ f.o _).mono ?_;rintro e w' ⟨rfl,rfl⟩;go_wp2_with fail;refine (jI _ _ h.o _).mono ?_;rintro e w' ⟨rfl,rfl⟩;go_wp2;go_ret;refine ⟨_,rfl,?_,j⟩;have:=f.o;have:=h.o;unfold A3 at *;unfold iN;simp;omega
     . have f:=ak g;clear g;go_enter func198,ntmps198;go_wp2_with (go_at_call 213;refine (jI _ _ f.o _).mono ?_;rintro e w' ⟨rfl,rfl⟩);go_ret;refine ⟨_,rfl,?_,j⟩;have:=f.o;unfold A3 at *;unfold iN;simp;omega
   . have p:((k:Int)==0)=ZW:=(by rw [beq_eq_false_iff_ne];omega);have q:((k:Int)==1)=ZW:=(by rw [beq_eq_false_iff_ne];omega);have t:((k:Int)==2)=ZW:=(by rw [beq_eq_false_iff_ne];omega);have m:=ak l;have n:=ak k1;clear l k1;go_enter func198,ntmps198;go_wp2;go_ret;refine ⟨_,rfl,?_,j⟩;have:=m.out;have:=n.out;unfold iN;simp;omega
def QC (regs:Int) (P:List St) (shards:Int) (w:ZV) (r:ZR) (w':ZV):Prop:=(iO regs P shards->r=Z4 .nilIface)/\(¬ iO regs P shards->r=Z4 (.iface 66 (Z8 Z9 4)))/\ZT w.heap.size w w'
def ChR (w:ZV) (regs shards:Int) (P:List St) (i:ZU) (wr:ZV):Prop:=∃ k:Nat,k<=P.length/\i=Z8 Z9 k/\(∀ j (hj:j<P.length),j<k->iN P[j] regs shards)/\ZT w.heap.size w wr
theorem aaz {x y:ZU} (h:ZT (n+1) (w.alloc (Z5 #[x,y] t)) w') (a:n=w.heap.size):w'.cell? ⟨n,0,ZZ⟩=ZY x/\w'.cell? ⟨n,1,ZZ⟩=ZY y:=by
 subst a;constructor
 . rw [h.cell (by simp)];simp
 . rw [h.cell (by simp)];simp
theorem Im (regs d:Int) (v:ZU) (P:List St) (w:ZV) (h:Ps .u8 w v P) :
 ZS ZL 176 #[.agg #[Z8 Z9 regs,v],Z8 Z9 d] w λr w'=>QC regs P d w r w':=by
 have n:ZT w.heap.size w (w.alloc (Z5 #[Z8 Z9 regs,v] 206)):=bA _ _;have u:=h.mono n;obtain ⟨ao,c,rfl⟩:=h.slice;go_enter func176,ntmps176;go_wp2_with fail;refine (BD regs _ P _ u).mono ?_;rintro r w1 ⟨b,rfl,q,l⟩;rw [Ul] at l;obtain ⟨K,X⟩:=aaz l rfl;have T:=l.size;rw [Ul] at T;have m:=n.trans (l.mono (by omega));cases b
 . have L:=ak (show ¬ iO regs P d from λg=>by have:=q.2 g.1;simp at this);clear q l u h n;go_wp2;go_ret;exact ⟨λg=>absurd g L.o,λ_=>rfl,m⟩
 . have F:=ak (q.1 rfl);have x:=h.mono m;clear q l u n h;rcases x.cases with ⟨rfl,M,N,e⟩|⟨b,off,N,e,_,A⟩
   . simp at e;obtain ⟨rfl,rfl⟩:=e;clear x;go_wp2;refine VO 1 ?_;rw [VJ];go_wp2;go_ret;exact ⟨λ_=>rfl,λg=>absurd ⟨F.o,λi hi=>by simp at hi⟩ g,m⟩
   . simp at e;obtain ⟨rfl,rfl⟩:=e;clear x;go_wp2;go_loopw [14] (λi wr=>ChR w1 regs d P i wr) (λi _=>P.length-(intOf i).toNat)
     case atStart=>exact ⟨0,T7 _,rfl,λj _ C=>absurd C (by omega),T6 _ _⟩
     case round=>
      rename ZV=>wo;obtain ⟨k,U,rfl,p,f⟩:=hrel;have D:=(f.cell (Ui K)).trans K;by_cases J:k<P.length
      . obtain ⟨c0,c1,s,t⟩:=A k J;have O:=(f.cell (Ui c0)).trans c0;have d1:=(f.cell (Ui c1)).trans c1;have Q:=(f.cell (Ui s)).trans s;have R:=(f.cell (Ui t)).trans t;have z:=ak p;clear A p c0 c1 s t;have E:=(((T6 wo.heap.size wo).alloc lR (Z5 #[Z8 .u8 P[k].k,Z8 Z9 P[k].a,Z8 Z9 P[k].b,Z8 .u8 P[k].c] 299)).cell (Ui D)).trans D;have G:=f.alloc f.size (Z5 #[Z8 .u8 P[k].k,Z8 Z9 P[k].a,Z8 Z9 P[k].b,Z8 .u8 P[k].c] 299);have W:=f.size;go_wp2_with fail;refine (Il P[k] regs d _).mono ?_;rintro r w2 ⟨b2,rfl,I,B⟩;rw [Ul] at B;have H:=G.trans (B.mono (by omega));have y:=ak I;clear B I O d1 Q R D E f G;cases b2
        . go_wp2;go_ret;exact ⟨λg=>absurd (y.out.2 (g.2 k J)) (by simp),λ_=>rfl,m.trans (H.mono (by omega))⟩
        . go_wp2;go_roundw
          case rel=>
           refine ⟨k+1,by omega,by go_num,λj C V=>?_,H⟩;by_cases e:j=k
           . subst e;first|exact y.out.1 rfl|exact y.out.1 trivial
           . exact z.out j C (by omega)
          case measure=>simp [intOf];omega
      . have S:k=P.length:=(by omega);subst S;have z:=ak p;clear A p;go_wp2;go_ret;exact ⟨λ_=>rfl,λg=>absurd ⟨F.o,λi hi=>z.out i hi hi⟩ g,m.trans (f.mono (by omega))⟩
def eG (kk:IntKind):List St->List ZU
 | []=>[]
 | s::P=>Ik kk s++eG kk P
def qQ (kk:IntKind):∀ P Q,eG kk (P++Q)=eG kk P++eG kk Q
 | [],_=>rfl
 | s::P,Q=>by simp [eG,qQ kk P Q]
def Gw (kk:IntKind):∀ (P:List St) (i:Nat) (hi:i<P.length) (j:Nat),j<4->(eG kk P)[i*4+j]?=(Ik kk P[i])[j]?
 | s::P,0,_,j,a=>by
  simp only [eG,abw,Um,ab2];rw [VG (by simpa [Ik] using a)]
 | s::P,i+1,hi,j,a=>by
  have e:(i+1)*4+j=(Ik kk s).length+(i*4+j):=by simp [Ik];omega
  simp only [eG,X9];rw [e,U7 (Nat.le_add_right _ _),WQ];exact Gw kk P i (by simpa using hi) j a
def BE (w:ZV) (n:Nat) (b:n=w.heap.size) (x y z u:ZU) (t:ZN):∀ j v,[x,y,z,u][j]?=ZY v->(w.alloc (Z5 #[x,y,z,u] t)).cell? ((⟨n,0,ZZ⟩:Addr).add j)=ZY v:=by
 subst b;intro j v a;rw [jm];rcases j with _|_|_|_|j;all_goals simp at a
 all_goals subst a;simp
def N9 {P:List St} (h:w.ownsRow base e 4 v P.length (eG kk P)) (hl:P.length<=4398046511104):Ps kk w v P:=by
 rcases h.2 with ⟨b,c⟩|⟨g,cap,cur,a,f,k,l,m,n,o⟩
 . have:P=[]:=UY c;subst this;exact ⟨ZZ,0,b,by simp,λh=>absurd rfl h⟩
 . subst a;refine ⟨ZY ⟨g,0,ZZ⟩,cap,rfl,hl,λ_=>⟨g,0,rfl,λi hi=>?_⟩⟩;have at':∀ j,j<4->w.cell? ⟨g,0+i*4+j,ZZ⟩=(Ik kk P[i])[j]?:=λj d=>by
    rw [Um,h.cellAt (i*4+j) (by omega),Gw kk P i hi j d]
   exact ⟨at' 0 (by decide),at' 1 (by decide),at' 2 (by decide),at' 3 (by decide)⟩
def BF {ob:Option Nat} (h:w0.grownBy w ob) (o:Obj):w0.grownBy (w.alloc o) ob:=
 ⟨h.os,h.tape,h.output,by rw [Ul];have:=h.size;omega,λk a b=>by rw [<- h.block k a b];exact ((T6 w.heap.size w).alloc lR o).block k (T9 a h.size)⟩
def dD (w:ZV) (b i:Nat) (v:ZU):w.grownBy (w.setCell ⟨b,i,ZZ⟩ v) (ZY b):=
 ⟨rfl,rfl,rfl,by simp,λk _ a=>by
  have:b≠k:=λe=>a (by rw [e]);simp [World.setCell,Vw,this]⟩
def oe (w:ZV) (o:Obj) (k:Nat) (h:k<w.heap.size):(w.alloc o).heap[k]?=w.heap[k]?:=((T6 w.heap.size w).alloc lR o).block k h
def La (w:ZV) (a b c:Obj):(((w.alloc a).alloc b).alloc c).heap.size=w.heap.size+3/\(((w.alloc a).alloc b).alloc c).heap[w.heap.size]?=ZY a/\(((w.alloc a).alloc b).alloc c).heap[w.heap.size+1]?=ZY b/\(((w.alloc a).alloc b).alloc c).heap[w.heap.size+1+1]?=ZY c:=by
 have d:=Ul w a;have e:=Ul (w.alloc a) b;have:=Ul ((w.alloc a).alloc b) c;refine ⟨by omega,?_,?_,?_⟩
 . rw [oe _ _ _ (by omega),oe _ _ _ (by omega)];exact UN w a
 . rw [oe _ _ _ (by omega),<- d];exact UN _ b
 . rw [<- d,<- e];exact UN _ c
def ay {ob:Nat} {x y:ZU} (h:w.heap[ob]?=ZY (Z5 #[x,y] t (0,0))):w.cell? ⟨ob,0,ZZ⟩=ZY x/\w.cell? ⟨ob,1,ZZ⟩=ZY y/\w.frozen? ⟨ob,1,ZZ⟩=ZW/\w.frozen? ⟨ob,0,ZZ⟩=ZW:=by
 simp [World.cell?,World.frozen?,h]
def bK (P:List St) (k:Nat):St:=P.getD k ⟨3,0,0,0⟩
def dW (P:List St) (k:Nat) (h:k<P.length):bK P k=P[k]:=by simp [bK,h]
def fl (P:List St) (D:List a8):Nat->Option Nat
 | 0=>ZZ
 | k+1=>match fl P D k with
  | some n=>ZY n
  | none=>if (bK P k).k=0 then ZY (D.getD (bK P k).b.toNat []).length else ZZ
def og (gone i:Nat):Prop:=gone/2^i%2=1
def Oa (P:List St) (D:List a8) (gone i:Nat):Prop:=(bK P i).k=0->¬ og gone (bK P i).b.toNat/\fl P D (i+1)=ZY (D.getD (bK P i).b.toNat []).length/\(D.getD (bK P i).b.toNat []).length<=4096
def gL (P:List St) (D:List a8) (gone:Nat):Prop:=∀ i,i<P.length->Oa P D gone i
def eH (P:List St) (D:List a8):Nat:=(fl P D P.length).getD 0
def oh (P:List St) (D:List a8) (k n:Nat) (h:fl P D k=ZY n):fl P D (k+1)=ZY n:=by simp [fl,h]
def zJ (P:List St) (D:List a8) (k:Nat) (h:fl P D k=ZZ) (a:(bK P k).k=0):fl P D (k+1)=ZY (D.getD (bK P k).b.toNat []).length:=by simp [fl,h,a]
def tB (P:List St) (D:List a8) (k:Nat) (a:(bK P k).k≠0):fl P D (k+1)=fl P D k:=by
 cases h:fl P D k<;>simp [fl,h,a]
def Gx (P:List St) (D:List a8) (k n:Nat) (h:fl P D k=ZY n):∀ m,k<=m->fl P D m=ZY n:=by
 intro m a;induction m with
 | zero => have:k=0:=by omega
           subst this;exact h
 | succ m ih=>
  by_cases e:k=m+1
  . subst e;exact h
  . exact oh P D m n (ih (by omega))
def QD {P:List St} (h:gL P D gone) (i:Nat) (hi:i<P.length) (a:(bK P i).k=0):(D.getD (bK P i).b.toNat []).length=eH P D:=by
 have:=(h i hi a).2.1;have:=Gx P D (i+1) _ this P.length (by omega);simp [eH,this]
def PQ {P:List St} (h:gL P D gone):∀ k,k<=P.length->∀ n,fl P D k=ZY n->n<=4096
 | 0,_,n,e=>by simp [fl] at e
 | k+1,hk,n,e=>by
  cases a:fl P D k with
  | some m=>
   have:=PQ h k (by omega) m a;rw [oh P D k m a] at e;simp at e;omega
  | none=>
   by_cases b:(bK P k).k=0
   . have q:=(h k (by omega) b);rw [q.2.1] at e;have:=UQ e;omega
   . rw [tB P D k b,a] at e;simp at e
def Io {P:List St} (h:gL P D gone):eH P D<=4096:=by
 unfold eH;cases hf:fl P D P.length with
 | none=>simp
 | some n=>exact PQ h P.length lR n hf
def iP (x y:a8) (c:Nat):a8:=(YF x.length).map λj=>x.getD j 0^^^gm c (y.getD j 0)
def dR (D:List a8) (s:St) (R:List a8):List a8:=
 if s.k=0 then R.set s.a.toNat (D.getD s.b.toNat []) else if s.k=1 then R.set s.a.toNat (iP (R.getD s.a.toNat []) (R.getD s.b.toNat []) s.c) else R
def ir (s:St) (R:List a8) (O:List (Int×a8)):List (Int×a8):=if s.k=2 then O++[(s.b,R.getD s.a.toNat [])] else O
def bU (P:List St) (D:List a8) (R0:List a8):Nat->List a8
 | 0=>R0
 | k+1=>dR D (bK P k) (bU P D R0 k)
def dE (P:List St) (D:List a8) (R0:List a8):Nat->List (Int×a8)
 | 0=>[]
 | k+1=>ir (bK P k) (bU P D R0 k) (dE P D R0 k)
def eW (r n:Nat):List a8:=YG r (YG n 0)
def In (w:ZV) (b:Nat) (D:List a8) (gone:Nat):Prop:=∀ i (hi:i<D.length),(og gone i->w.cell? ⟨b,i,ZZ⟩=ZY (Z6 ZZ 0 0))/\(¬ og gone i->∃ a c,w.cell? ⟨b,i,ZZ⟩=ZY (Z6 (ZY a) (D[i]).length c)/\Bs w (Z6 (ZY a) (D[i]).length c) D[i])
def In.mono (h:In w b D gone) (d:ZT w.heap.size w w'):In w' b D gone:=λi hi=>by
 obtain ⟨g,j⟩:=h i hi;refine ⟨λf=>by have:=g f;rw [d.cell (Ui this)];exact this,λf=>?_⟩;obtain ⟨a,c,e,k⟩:=j f;exact ⟨a,c,by rw [d.cell (Ui e)];exact e,k.mono d⟩
def pF:List (Int×Nat×Nat×a8)->List ZU
 | []=>[]
 | q::O=>[Z8 Z9 q.1,fY q.2]++pF O
def qR:∀ O a,pF (O++a)=pF O++pF a
 | [],_=>rfl
 | q::O,a=>by simp [pF,qR O a]
def Gy:∀ (O:List (Int×Nat×Nat×a8)) (i:Nat) (hi:i<O.length),(pF O)[i*2]?=ZY (Z8 Z9 O[i].1)/\(pF O)[i*2+1]?=ZY (fY O[i].2)
 | q::O,0,_=>by simp [pF]
 | q::O,i+1,hi=>by
  have:=Gy O i (by simpa using hi);have a:(i+1)*2=i*2+2:=by omega
  have b:(i+1)*2+1=i*2+1+2:=by omega
  simp only [pF,X9];refine ⟨?_,?_⟩
  . rw [a];simpa using this.1
  . rw [b];simpa using this.2
structure mR (t:ZN) (w:ZV) (base:Nat) (v:ZU) (O:List (Int×Nat×Nat×a8)):Prop where
 own:w.ownsRow base t 2 v O.length (pF O)
 row:∀ q∈O,base<=q.2.1/\aM w q.2.1 q.2.2.2/\q.2.2.1<=q.2.2.2.length/\(q.2.2.1<=140737488355328/\q.2.2.2.length<=9223372036854775807)/\∀ x∈q.2.2.2,x<256
 nodup:(O.map (λq=>q.2.1)).Nodup
def mR.nil (t:ZN) (w:ZV) (base:Nat):mR t w base (Z6 ZZ 0 0) []:=⟨UP _ _ _ _,λq a=>by simp at a,by simp⟩
def mR.below (h:mR t w base v O) (d:ZT w.heap.size w w'):mR t w' base v O:=
 ⟨an h.own d,λq e=>by obtain ⟨a,b,c⟩:=h.row q e;exact ⟨a,b.below d,c⟩,h.nodup⟩
def mR.cases (h:mR t w base v O):(O=[]/\v=Z6 ZZ 0 0)\/∃ g cap,v=Z6 (ZY ⟨g,0,ZZ⟩) O.length cap/\∀ i (hi:i<O.length),w.cell? ⟨g,i*2,ZZ⟩=ZY (Z8 Z9 O[i].1)/\w.cell? ⟨g,i*2+1,ZZ⟩=ZY (fY O[i].2):=by
 rcases h.own.2 with ⟨b,c⟩|⟨g,cap,cur,a,_⟩
 . exact .inl ⟨UY c,b⟩
 . refine .inr ⟨g,cap,a,λi hi=>?_⟩;have ho:=h.own;rw [a] at ho;obtain ⟨d,e⟩:=Gy O i hi;exact ⟨by rw [ho.cellAt (i*2) (by omega)];exact d,by rw [ho.cellAt (i*2+1) (by omega)];exact e⟩
def bv (l:a8):List ZU:=l.map λx=>Value.int .u8 ((x:Nat):Int)
theorem Lb (h:w.heap[g]?=ZY (Z5 (((bv l).toArray)++Builtin.zeroCells #[Z8 .u8 0] m) 5 (0,0))):aM w g (l++YG m 0):=by
 have e:((bv l).toArray++Builtin.zeroCells #[Z8 .u8 0] m)=((l++YG m 0).map (λx=>Value.int .u8 ((x:Nat):Int))).toArray:=by
  apply Array.ext';simp [bv,Builtin.zeroCells,Nat.mod_one,List.map_const']
 rw [e] at h;refine ⟨_,h,by simp,λi hi=>?_⟩;rw [Xl,UE,Ue hi];simp [vb,Ue hi]
def Er {a:ZO} {Q:ZQ->ZO->ZV->Prop} (b:o.guard=ZZ) (s x:ZM) (t:ZN) (ho:o.op=.call { callee:=.builtin .append,args:=#[s,x],argTypes:=#[t,t] })
 (vs vx v':ZU) (hs:a.eval s=vs) (hx:a.eval x=vx) (h0:(Builtin.append_ #[t,t] o.type #[vs,vx]).run ZL w=.ok v' w') (h:wpList ZL ops Q rest (a.put o.dst v') w'):wpList ZL ops Q (o::rest) a w:=by
 refine V5 b λK hK=>?_;unfold Oper.wp;simp [execOp,ho,resolve,invoke,builtin,hs,hx,h0,Result.andThen];exact hK _ _ h
theorem Es (f:Addr) (c:Nat) (l:a8) (w:ZV) (h:Bs w (Z6 (ZY f) l.length c) l) (hl:l.length<=100000) :
 ZS ZL 180 #[Z6 (ZY f) l.length c] w λe w'=>∃ b m,e=Z4 (Z6 (ZY ⟨b,0,ZZ⟩) l.length (l.length+m))/\w.heap.size<=b/\aM w' b (l++YG m 0)/\l.length+m<=9223372036854775807/\ZT w.heap.size w w':=by
 obtain ⟨M,F,I,J,K⟩:=Uu Tryz.Sb;have E:=λN=>XI (P:=ZL) N 40 5 (ZY f) l.length c 0 0 Uq;have o:∀ j u,(bv l)[j]?=ZY u->(w.alloc (Z5 #[] 5)).cell? (f.add j)=ZY u:=by
  intro j u t;obtain ⟨x,O,e,_,_,_,A⟩:=h.mono ((T6 _ _).alloc lR (Z5 #[] 5));have k:j<l.length:=by
   obtain ⟨q,_⟩:=Vc.1 t;simpa [bv] using q
  obtain ⟨r,a,n,H⟩:=A (by intro e;rw [e] at k;simp at k);simp at e;rw [<- e.1] at n;simp at n;subst n;have y:(⟨r,a,ZZ⟩:Addr).add j=⟨r,a+j,ZZ⟩:=by unfold Addr.add;split<;>simp_all
  rw [y,H j k,<- t];simp [bv,k]
 have g:ZT w.heap.size w (w.alloc (Z5 #[] 5)):=bA _ _;by_cases z:l.length=0
 . have G:l=[]:=UY z;subst G;clear h o;go_enter func180,ntmps180;simp only [U0] at E;go_wp2;go_ret;exact ⟨w.heap.size,0,rfl,TY _,⟨#[],UN w _,rfl,λi hi=>by simp at hi⟩,by omega,g⟩
 . have s:=run_append_grow (P:=ZL) (w:=w.alloc (Z5 #[] 5)) 40 40 5 M (Z8 .u8 0) Uq F I ⟨w.heap.size,0,ZZ⟩ 0 0 [] (by simp) (λj v L=>by simp at L) f l.length c (bv l) (by rw [J];simp [bv]) o (by omega) (by omega) (by rw [K];have:=abx (need:=0+l.length) (old:=0) (bytes:=1) (by omega) (by omega);omega);obtain ⟨d,Q,D,p⟩:∃ d,l.length<=d/\d<=9223372036854775807/\(Builtin.append_ #[40,40] 40 #[Z6 (ZY ⟨w.heap.size,0,ZZ⟩) 0 0,Z6 (ZY f) l.length c]).run ZL (w.alloc (Z5 #[] 5))=.ok (Z6 (ZY ⟨w.heap.size+1,0,ZZ⟩) l.length d) ((w.alloc (Z5 #[] 5)).drew.alloc (Z5 ((bv l).toArray++Builtin.zeroCells #[Z8 .u8 0] (d-l.length)) 5)):=by
    refine ⟨grownCap (w.alloc (Z5 #[] 5)) (0+l.length) 0 5,by have:=aby (w.alloc (Z5 #[] 5)) (0+l.length) 0 5;omega,by have:=abz (w.alloc (Z5 #[] 5)) (0+l.length) 0 5 (by unfold maxLen;omega);unfold maxLen at this;omega,?_⟩;rw [s,Ul];simp [Value.cells]
   obtain ⟨m,rfl⟩:∃ m,d=l.length+m:=⟨d-l.length,by omega⟩;rw [WQ] at p;have B:=ak p;clear p s o h;go_enter func180,ntmps180;go_wp2_with (at_builtin;refine Er rfl (Z2 5) (Z2 6) 40 rfl _ _ _ rfl rfl B.out ?_);go_ret;have C:aM ((w.alloc (Z5 #[] 5)).drew.alloc (Z5 ((bv l).toArray++Builtin.zeroCells #[Z8 .u8 0] m) 5)) (w.heap.size+1) (l++YG m 0):=by
    refine Lb ?_;have:=UN (w.alloc (Z5 #[] 5)).drew (Z5 ((bv l).toArray++Builtin.zeroCells #[Z8 .u8 0] m) 5);rwa [show (w.alloc (Z5 #[] 5)).drew.heap.size=w.heap.size+1 from Ul _ _] at this
   exact ⟨w.heap.size+1,m,rfl,by omega,C,D,((show ZT w.heap.size w (w.alloc (Z5 #[] 5)).drew from ⟨g.os,g.tape,g.output,g.size,g.block⟩).alloc (show w.heap.size<=(w.alloc _).heap.size by rw [Ul];omega) _)⟩
def LlR (w:ZV) (P:List St) (D:List a8) (gone:Nat) (lv sv iv:ZU) (wr:ZV):Prop:=
 ∃ k:Nat,k<=P.length/\iv=Z8 Z9 k/\lv=Z8 Z9 ((fl P D k).getD 0:Nat)/\sv=Z3 (fl P D k).isSome/\(∀ i,i<k->Oa P D gone i)/\ZT w.heap.size w wr
def QE (P:List St) (D:List a8) (gone:Nat) (w:ZV) (r:ZR) (w':ZV):Prop:=
 (gL P D gone->r=Z4 (Z1 #[Z8 Z9 (eH P D:Nat),.nilIface]))/\(¬ gL P D gone->r=Z4 (Z1 #[Z8 Z9 0,.iface 66 (Z8 Z9 2)]))/\ZT w.heap.size w w'
theorem pG (v:ZU) (P:List St) (V ci:Nat) (D:List a8) (gone:Nat) (w:ZV) (h:Ps .u8 w v P) (K:In w V D gone) (hq:∀ l∈D,l.length<=100000)
 (M:∀ i,i<P.length->(bK P i).k=0->0<=(bK P i).b/\(bK P i).b<(D.length:Int)) (hl:P.length<=5000) :
 ZS ZL 177 #[v,Z6 (ZY ⟨V,0,ZZ⟩) D.length ci] w λr w'=>QE P D gone w r w':=by
 obtain ⟨ao,c,rfl⟩:=h.slice;go_enter func177,ntmps177;go_wp2;go_loopw [6,7,13] (λlv sv R wr=>LlR w P D gone lv sv R wr) (λ_ _ R _=>P.length-(intOf R).toNat)
 case atStart=>exact ⟨0,T7 _,rfl,rfl,rfl,λi hi=>absurd hi (by omega),T6 _ _⟩
 case round=>
  rename ZV=>wo;obtain ⟨k,hk,rfl,rfl,rfl,I,H⟩:=hrel;have k8:=H.size;by_cases y:k<P.length
  . rcases (h.mono H).cases with ⟨rfl,_⟩|⟨b,off,cc,e,_,W⟩
    . simp at y
    simp at e;obtain ⟨rfl,rfl⟩:=e;obtain ⟨d0,d1,d2,d3⟩:=W k y;have Z:=dW P k y;have J:=M k y;have C:=ak I;have u:=ak (oh P D k);have s:=ak (zJ P D k);have G:=ak (tB P D k);have d:cJ (Oa P D gone k↔((bK P k).k=0->¬ og gone (bK P k).b.toNat/\fl P D (k+1)=ZY (D.getD (bK P k).b.toNat []).length/\(D.getD (bK P k).b.toNat []).length<=4096)):=Ya;rw [Z] at J s G d;have j:=H.alloc k8 (Z5 #[Z8 .u8 P[k].k,Z8 Z9 P[k].a,Z8 Z9 P[k].b,Z8 .u8 P[k].c] 299);have L:=K.mono j;clear W I K h M Z;generalize P[k].k=S at *;generalize P[k].b=sb at *;by_cases z:S=0
    . have tk:((S:Int) != 0)=ZW:=(by simp [z]);obtain ⟨q1,q2⟩:=J z;have F:=ak z;clear z;obtain ⟨x,rfl⟩:∃ x:Nat,sb=(x:Int):=⟨sb.toNat,by omega⟩;have N:x<D.length:=(by omega);obtain ⟨O,Q⟩:=L x N;have X:D.getD x []=D[x]:=(by simp [N]);have k9:=hq _ (T8 N);rw [VL,X] at s d;clear J q1 q2 L X G;by_cases E:og gone x
      . have ha:=O E;have t:cJ (¬ gL P D gone):=λhl=>((d.out.1 (hl k y)) F.out).1 E;have k5:=λT=>XI (P:=ZL) T 40 5 ZZ 0 0 0 0 Uq;clear O Q d s u;cases hf:fl P D k
        . go_wp2;go_ret2;exact ⟨λhl=>absurd hl t.o,λ_=>rfl,j⟩
        . go_wp2;go_ret2;exact ⟨λhl=>absurd hl t.o,λ_=>rfl,j⟩
      . obtain ⟨ax,cx,ha,hz⟩:=Q E;have k5:=λT=>XI (P:=ZL) T 40 5 (ZY ax) (D[x]).length cx 0 0 Uq;clear O Q hz;generalize D[x].length=n at *;cases hf:fl P D k with
        | none=>
         have f:=s.out hf F.out;by_cases g:n<=4096
         . have B:=d.out.2 (λ_=>⟨E,f,g⟩);have A:=ak B;have p:=ak f;clear d s u f B;go_wp2;go_roundw
           case rel=>
            refine ⟨k+1,by omega,by go_num,by first|(rw [p.out];rfl)|rw [p.out],by first|(rw [p.out];rfl)|rw [p.out],λi hi=>?_,j⟩;by_cases e:i=k
            . subst e;exact A.out
            . exact C.out i (by omega)
           case measure=>simp [intOf];omega
         . have t:cJ (¬ gL P D gone):=λhl=>g ((d.out.1 (hl k y)) F.out).2.2;have k7:(4096:Int)<(n:Int):=(by omega);clear d s u f;go_wp2;go_ret2;exact ⟨λhl=>absurd hl t.o,λ_=>rfl,j⟩
        | some m=>
         have f:=u.out m hf;by_cases g:n=m/\n<=4096
         . obtain ⟨rfl,g⟩:=g;have B:=d.out.2 (λ_=>⟨E,f,g⟩);have A:=ak B;have p:=ak f;have tt:(((n:Nat):Int) != (n:Int))=ZW:=(by simp);clear d s u f B;go_wp2;go_roundw
           case rel=>
            refine ⟨k+1,by omega,by go_num,by first|(rw [p.out];rfl)|rw [p.out],by first|(rw [p.out];rfl)|rw [p.out],λi hi=>?_,j⟩;by_cases e:i=k
            . subst e;exact A.out
            . exact C.out i (by omega)
           case measure=>simp [intOf];omega
         . have t:cJ (¬ gL P D gone):=λhl=>by
            have q:=(d.out.1 (hl k y)) F.out;rw [f] at q;have:=q.2.1;simp at this;omega
           clear d s u f;by_cases Y:n=m
           . have k7:(4096:Int)<(m:Int):=(by omega);have tt:(((n:Nat):Int) != (m:Int))=ZW:=(by simp;omega);clear g Y;go_wp2;go_ret2;exact ⟨λhl=>absurd hl t.o,λ_=>rfl,j⟩
           . have tt:(((n:Nat):Int) != (m:Int))=ZX:=(by simp;omega);clear g Y;go_wp2;go_ret2;exact ⟨λhl=>absurd hl t.o,λ_=>rfl,j⟩
    . have tk:((S:Int) != 0)=ZX:=(by simp;omega);have U:=ak (G.out z);have A:=ak (d.out.2 (λe=>absurd e z));clear G s u d J L z;go_wp2;go_roundw
      case rel=>
       refine ⟨k+1,by omega,by go_num,by rw [U.o],by rw [U.o],λi hi=>?_,j⟩;by_cases e:i=k
       . subst e;exact A.out
       . exact C.out i (by omega)
      case measure=>simp [intOf];omega
  . have k6:k=P.length:=(by omega);subst k6;have C:=ak I;clear h K M I;go_wp2;go_ret2;exact ⟨λ_=>rfl,λg=>absurd (λi hi=>C.out i hi) g,H⟩
def Et {a:Nat} (h:a^^^c=b^^^c):a=b:=by
 have:=UB (·^^^c) h;simpa [U4] using this
def QF {a:Nat} (h:c^^^a=c^^^b):a=b:=Et (c:=c) (by rw [WZ a,WZ b];exact h)
def BG (h:r<4294967296):dy r/2^28=cK.getD (r%16) 0/2^28:=by
 unfold dy;rw [abL,Xv (show r/16<2^28 by omega),V1]
def BH (d:r<4294967296) (e:s<4294967296) (h:dy r=dy s):r=s:=by
 have a:cK.getD (r%16) 0/2^28=cK.getD (s%16) 0/2^28:=by rw [<- BG d,<- BG e,h]
 have c:∀ i j:Fin 16,cK.getD i.1 0/2^28=cK.getD j.1 0/2^28->i.1=j.1:=by decide
 have b:r%16=s%16:=c ⟨r%16,Wd _ (by decide)⟩ ⟨s%16,Wd _ (by decide)⟩ a;unfold dy at h;rw [b] at h;have:r/16=s/16:=Et h;omega
def BI (e:r<4294967296) (f:s<4294967296) (g:b<256) (i:c<256) (h:dF r b=dF s c):r^^^b=s^^^c:=
 have a:r^^^b<4294967296:=Wc (n:=32) e (by omega);have d:s^^^c<4294967296:=Wc (n:=32) f (by omega)
 BH a d (BH (gE a) (gE d) h)
def BJ:∀ (l:a8) {r s:Nat},r<4294967296->s<4294967296->(∀ x∈l,x<256)->l.foldl dF r=l.foldl dF s->r=s
 | [],_,_,_,_,_,h=>h
 | b::l,r,s,c,d,hl,h=>by
  have a:=hl b (by simp);exact Et (BI c d a a (BJ l (fs c a) (fs d a) (λx e=>hl x (by simp [e])) h))
def Lc {p q:a8} (j:∀ x∈p,x<256) (f:∀ x∈q,x<256) (d:b<256) (e:c<256) (h:nF (p++b::q)=nF (p++c::q)):b=c:=by
 have a:=ni j;have g:∀ y,dj (p++y::q)=q.foldl dF (dF (dj p) y):=λy=>by unfold dj;rw [Wq,W0]
 have:=zv q _ (fs a d) f;have:=zv q _ (fs a e) f;unfold nF at h;rw [g,g] at h;have i:q.foldl dF (dF (dj p) b)=q.foldl dF (dF (dj p) c):=by omega
 exact QF (BI a a d e (BJ q (fs a d) (fs a e) f i))
def Gz (a:m<4294967296) (b:n<4294967296) (h:be m 4=be n 4):m=n:=by
 have:=UB fT h;rwa [lx m 4 (by decide) a,lx n 4 (by decide) b] at this
def tC (hl:l.length=64) (h:(rq l).blk=l):l=YG 64 0\/∃ t,t.length=60/\l=be (nF t) 4++t/\1<=t.getD 0 0/\t.getD 0 0<=3:=by
 by_cases a:(rq l).body.length=0
 . left;unfold bz.blk at h;rw [TX a] at h;exact h.symm
 . right;have b:1<=l.getD 4 0/\l.getD 4 0<=3:=by
    unfold rq at a;by_cases d:l.getD 4 0=1
    . omega
    . by_cases e:l.getD 4 0=2
      . omega
      . by_cases f:l.getD 4 0=3
        . omega
        . rw [TW d,TW e,TW f] at a;exact absurd rfl a
   unfold bz.blk at h;rw [TW a] at h;unfold cL at h;obtain ⟨t,g⟩:=nM ((rq l).body++YG (60-(rq l).body.length) 0);rw [g] at h;have c:=UB YK h;rw [Uc,aD,hl] at c;refine ⟨t,by omega,h.symm,?_⟩;rw [<- h,Ub,U7 (by rw [aD];decide),aD] at b;rw [Ub];exact b
def Oc (l:a8) {j:Nat} (h:j<l.length) (x:Nat):l.set j x=l.take j++x::l.drop (j+1):=by rw [List.set_eq_take_append_cons_drop,TX h]
def Od (l:a8) {j:Nat} (h:j<l.length):l=l.take j++l.getD j 0::l.drop (j+1):=by
 rw [Ub,Ue h];show l=l.take j++l[j]::l.drop (j+1);rw [<- X5 h,Wl]
theorem qS (p:j<64) (w:x<256) (v:x≠0):¬ ∃ t,t.length=60/\(YG 64 0).set j x=be (nF t) 4++t/\1<=t.getD 0 0/\t.getD 0 0<=3:=by
 rintro ⟨t,r,h,c,f⟩;have a:∀ i,t.getD i 0=((YG 64 0).set j x).getD (i+4) 0:=λi=>by
  rw [h,Ub,Ub,U7 (by rw [aD];omega),aD,Nat.add_sub_cancel]
 have b:∀ i,((YG 64 0).set j x).getD i 0=if j=i then x else 0:=λi=>by
  rw [Ub,Xn];by_cases e:j=i
  . rw [TX e,TX e,XW,TX p];rfl
  . rw [TW e,TW e,WB];split<;>rfl
 have k:j=4:=by
  have:=a 0;rw [b] at this;by_cases e:j=0+4
  . exact e
  . rw [TW e] at this;omega
 subst k;have n:t.getD 0 0=x:=by rw [a,b];rfl
 have m:t=x::YG 59 0:=by
  refine Ve (by simp [r]) λi s z=>?_;have q:=(a i).trans (b _);rw [Ub,Ue s] at q;have u:t[i]=if 4=i+4 then x else 0:=q;rw [u];match i with
  | 0=>rfl
  | i+1=>rw [TW (by omega),X9,List.getElem_replicate]
 have o:be (nF t) 4=[0,0,0,0]:=by
  have:=UB (List.take 4) h;rw [V2 (by rw [aD];exact TY _),UJ (l:=be (nF t) 4) (by rw [aD];exact TY _)] at this;rw [<- this];simp [YG]
 have d:nF t=0:=Gz (zw _) (by decide) o;rw [n] at c f;have g:∀ y:Fin 4,1<=y.1->nF (y.1::YG 59 0)≠0:=by decide +kernel
 rw [m] at d;exact g ⟨x,by omega⟩ c d
def Ld (hl:l.length=64) (z:∀ y∈l,y<256) {j x:Nat} (c:j<64) (v:x<256) (a:x≠l.getD j 0) (h:(rq l).blk=l):(rq (l.set j x)).blk≠l.set j x:=by
 intro r;have g:j<l.length:=by omega
 have C:l.getD j 0<256:=by rw [Ub,Ue g];exact z _ (T8 g)
 have s:(l.set j x).set j (l.getD j 0)=l:=by
  rw [List.set_set,Ub,Ue g];exact List.set_getElem_self _
 have u:(l.set j x).getD j 0=x:=by rw [Ub,abA g];rfl
 rcases tC hl h with e|⟨t,E,e,A,B⟩
 . rcases tC (by rw [V4];exact hl) r with b|w
   . have q:=u;rw [b,Ub,WB,TX c] at q;rw [e,Ub,WB,TX c] at a;exact a q.symm
   . have q:l.getD j 0=0:=(by rw [e,Ub,WB,TX c];rfl);rw [q] at a;rw [e] at w;exact qS c v a w
 . rcases tC (by rw [V4];exact hl) r with b|⟨H,I,b,_⟩
   . have q:x=0:=by
      have q:=u;rw [b,Ub,WB,TX c] at q;exact q.symm
     rw [b] at s;rw [q] at a;exact qS c C (λq=>a q.symm) ⟨t,E,s.trans e,A,B⟩
   . by_cases m:j<4
     . have o:(be (nF t) 4++t).set j x=(be (nF t) 4).set j x++t:=List.set_append_left _ _ (by rw [aD];exact m);rw [e,o] at b;have D:((be (nF t) 4).set j x).length=(be (nF H) 4).length:=(by rw [V4,aD,aD]);obtain ⟨k,p⟩:=Y4 b D;rw [<- p] at k;have f:((be (nF t) 4).set j x).getD j 0=(be (nF t) 4).getD j 0:=(by rw [k]);rw [Ub,abA (by rw [aD];exact m)] at f;rw [e,Ub,VG (by rw [aD];exact m),<- Ub] at a;exact a f
     . have o:(be (nF t) 4++t).set j x=be (nF t) 4++t.set (j-4) x:=(by rw [YP _ _ (by rw [aD];omega),aD]);rw [e,o] at b;obtain ⟨k,p⟩:=Y4 b (by rw [aD,aD]);have f:=Gz (zw _) (zw _) k;have i:j-4<t.length:=(by omega);have n:∀ y∈t,y<256:=λy d=>z y (by rw [e];exact VY _ d);rw [<- p,Oc t i] at f;have G:nF (t.take (j-4)++t.getD (j-4) 0::t.drop (j-4+1))=nF (t.take (j-4)++x::t.drop (j-4+1)):=(by rw [<- Od t i];exact f);have F:=Lc (λy d=>n y (U2 d)) (λy d=>n y (U8 d)) (by rw [Ub,Ue i];exact n _ (T8 i)) v G;rw [e,Ub,U7 (by rw [aD];omega),aD,<- Ub] at a;exact a F.symm
