import Derived.WalkKit
import Derived.Test.YtpemimgppdkcbaaGreatDoorRows
import Derived.ProofKit
import Derived.OpenShut
import Derived.WalkSpells
import Derived.Deep.OwnRows
import Derived.Deep.Slices
import Derived.Deep.Matrix
import Derived.Deep.MidRow
import Derived.Test.YtpemimgppdkcbaaGreatDoorM01
import Derived.Laws.BitsLemmas
import Derived.Deep.QuietTactic
import Derived.BigQuiet
import Derived.Maps.AppendAt
import Derived.Laws.Bits64b
import Derived.Laws.CopyOwn
import Derived.Deep.RegionWith
import Derived.RegionTactic
import Derived.LaidEql
import Derived.Stop.Asserts
import Derived.RowKitTokens
import Derived.Lib.TrailingZeros
import Derived.Laws.BitsAllLaws
import Derived.RangeFuncNested
import Derived.RangeFuncBound
import Derived.RangeFuncLeaves
import Derived.Shelf.Abstract
import Derived.Shelf.RegionOpen
import Derived.OwnWalkIn
import Derived.TacticsInMore
import Derived.LoopNIn
import Derived.LoopIn
import Derived.Laws.Tables
import Derived.Deep.WholeRow
import Derived.BigRegion
import Derived.Lib.SliceRun
set_option maxRecDepth 100000
set_option linter.all false
set_option maxHeartbeats 8000000
open Go.IntKind renaming i64 -> Z9, u64 -> Z8
open Go.Value renaming int -> Z7, pointer -> Z6, slice -> Z5, bool -> Z2, tuple -> Z0
open Go.Obj renaming cells -> Z4
open Go.Ending renaming returned -> Z3
open Go.Operand renaming tmp -> Z1
open Go renaming undef -> ZZ, World -> ZU, Value -> ZT, Calls -> ZR, Addr -> ZQ, Ending -> ZP, Exit -> ZO, Oper -> ZN, Act -> ZM, TypeId -> ZL, Operand -> ZK
open Option renaming none -> ZY, some -> ZX
open Bool renaming true -> ZW, false -> ZV
open Go.RowKit renaming Below -> ZS
open List renaming range -> YD, replicate -> YE, getElem_set -> YH, set_append_right -> YN, length -> YO, range_zero -> YX, append_inj -> YY
open Array renaming replicate -> YF, ext -> YM, all_eq_true' -> YV
open Go renaming method -> YG
open Bool renaming and_eq_true_iff -> YI, eq_iff_iff -> YS
open BitVec renaming ofInt_natCast -> YJ, toNat_xor -> YK, toNat_ofNat -> YL
open Nat renaming testBit_two_pow_mul_add -> YP, div_div_eq_div_mul -> YQ, and_two_pow_sub_one_eq_mod -> YT, div_mul_le_self -> YW
open Int renaming natCast_nonneg -> YR
open Option renaming getD_some -> YU
open Go.Proofs.Tryz renaming prog -> ZJ
open Go.Proofs.Tryz
namespace Go.Proofs.YtpemimgppdkcbaaGreatDoor
def TY:=@Go.RowKit.Below.refl
def Ur:=@List.mem_cons
def VT:=@Nat.mod_lt
def Xa:=@Nat.pow_succ
def V2:=@Nat.div_le_self
def Vq:=@Nat.pow_le_pow_right
def Xb:=@Nat.div_eq_of_lt
def WK:=@List.not_mem_nil
def VG:=@List.eq_of_mem_replicate
def T8:=@List.length_append
def Uv:=@List.length_cons
def UQ:=@List.length_nil
def UL:=@List.cons_append
def Uk:=@List.nil_append
def Xx:=@List.drop_succ_cons
def WL:=@List.drop_zero
def Uz:=@List.append_assoc
def VN:=@List.take_append_of_le_length
def UD:=@List.take_of_length_le
def WM:=@List.drop_append_of_le_length
def WA:=@List.drop_of_length_le
def VA:=@List.drop_drop
def VU:=@Nat.mod_eq_of_lt
def Xy:=@List.length_replicate
def Vv:=@Go.World.rowIs.of_block
def aaV:=@Go.World.rowIs.cell
def Wm:=@List.length_set
def T5:=@List.getD_eq_getElem?_getD
def Xc:=@Go.World.rowIs_made
def TX:=@Array.getElem?_eq_some_iff
def Uw:=@List.map_append
def UU:=@List.nodup_append
def T6:=@List.mem_map
def UP:=@List.eq_nil_of_length_eq_zero
def VO:=@Go.wpList_plain
def Xz:=@Go.run_make_row'
def Uh:=@Go.Proofs.Tryz.underlying31
def Ug:=@Go.Deep.nblk_alloc
def Ud:=@Go.Deep.blk_setCell_other
def Un:=@List.getElem?_map
def U1:=@List.getElem?_eq_some_iff
def X6:=@Array.getElem?_setIfInBounds
def VH:=@Array.getElem?_modify
def T7:=@List.length_map
def Ua:=@List.getElem?_eq_getElem
def Us:=@Go.info_parts
def Uo:=@Go.Sem.run_bind
def Uc:=@Go.Deep.blk_alloc_new
def Vf:=@Go.setRow_heap
def U2:=@Go.Sem.run_pure
def UE:=@Go.Result.andThen_ok
def WN:=@Go.run_loadVar_row
def WB:=@Go.Proofs.Tryz.underlying105
def XA:=@Go.run_storeVar_row
def aaW:=@Go.wpList_load_mid
def Ut:=@Go.IntKind.wrap_i64
def Xd:=@Nat.lt_trans
def Ub:=@Go.block_lt_of_cell
def Ui:=@List.length_take
def UN:=@List.mem_of_mem_take
def Ue:=@Nat.zero_add
def VV:=@Go.wp_loop_rounds
def Vg:=@Go.rounds_succ
def XB:=@List.take_succ_cons
def X7:=@Nat.sub_zero
def XC:=@Go.wpList_append_own_at
def U5:=@Go.IntKind.wrap_u64
def aaX:=@Go.bits_or_u64_nat
def XD:=@Nat.testBit_two_pow_sub_succ
def We:=@Nat.testBit_two_pow_sub_one
def WO:=@Nat.testBit_lt_two_pow
def U6:=@List.take_add_one
def VC:=@List.take_length
def Vh:=@List.ext_getElem
def aaY:=@List.mem_iff_getElem
def Wf:=@List.pairwise_iff_getElem
def X8:=@Go.cell_one_new
def VD:=@Array.getElem?_eq_getElem
def aaZ:=@Go.wpList_copy_splice
def U9:=@Go.Addr.add_mid
def X9:=@List.drop_replicate
def WC:=@Nat.add_sub_cancel_left
def Wn:=@Go.World.grownBy.refl
def Vj:=@Array.getD_eq_getD_getElem?
def WD:=@Option.map_some
def aa0:=@Array.toList_setIfInBounds
def UR:=@List.set_cons_succ
def WQ:=@List.length_eq_zero_iff
def Xe:=@List.all_eq_true
def Vw:=@List.getElem?_range
def UO:=@Option.some.injEq
def WR:=@Prod.mk.injEq
def abi:=@List.eq_nil_iff_forall_not_mem
def Xf:=@Eq.trans
def Ya:=@Go.Oper.wp_mono
def Vr:=@List.map_toArray
def Uu:=@List.map_cons
def UY:=@List.map_nil
def WS:=@Nat.eq_zero_or_pos
def WE:=@Go.World.cell?_alloc_lt
def XE:=@Nat.lt_or_ge
def WT:=@Array.getElem?_eq_none
def Yb:=@Go.World.frozen?_alloc_old
def WU:=@Go.RowKit.Below.setCell
def UH:=@Go.run_underlying
def WV:=@Go.run_typeAssert_lacksB
def aa1:=@Go.Proofs.Tryz.underlying238
def aa2:=@Go.Proofs.Tryz.underlying156
def Um:=@Go.bodyPost_ret
def VP:=@Nat.two_pow_pos
def VW:=@Nat.mul_one
def Xg:=@Nat.testBit_and
def XF:=@Nat.testBit_two_pow
def Yc:=@Nat.lt_of_le_of_lt
def XG:=@Nat.testBit_eq_decide_div_mod_eq
def Vs:=@List.range_succ
def Yd:=@List.sum_append
def Xh:=@List.sum_cons
def XH:=@Int.natCast_pow
def Xi:=@Nat.and_le_left
def Ye:=@Int.natCast_ediv
def VJ:=@Nat.add_zero
def abg:=@Nat.testBit_mul_two_pow
def abh:=@Nat.testBit_div_two_pow
def V3:=@Go.RowKit.Below.heap_setCell
def WW:=@Go.grownBy_putObj'
def UV:=@Go.World.putObj_heap_other
def Vk:=@Go.callsIn_wide
def XI:=@Go.World.alloc_heap_new
def Uq:=@Go.World.size_alloc
def VY:=@Go.RowKit.Below.heap_alloc
def UZ:=@List.mem_cons_self
def UJ:=@List.mem_cons_of_mem
def WX:=@Go.callsIn_of_wp
def UF:=@List.size_toArray
def Va:=@Array.replicate_succ
def Vb:=@Array.replicate_zero
def Vc:=@List.push_toArray
def Vd:=@List.append_toArray
def Wg:=@List.append_nil
def Xj:=@Go.results_none
def Ul:=@Go.World.cell?_of_block
def Wo:=@List.flatMap_append
def VE:=@List.flatMap_cons
def XJ:=@List.drop_eq_getElem_cons
def V4:=@List.take_append_drop
def aa3:=@List.prefix_append_right_inj
def Vt:=@Go.Value.slice.injEq
def aa4:=@List.length_singleton
def Yf:=@List.prefix_refl
def Wh:=@Go.Oper.semAt_plain
def aa5:=@Go.World.rowIs_alloc
def XK:=@Array.all_eq_true
def Yg:=@Go.wpList_load_row
def XL:=@Go.Proofs.Tryz.underlying264
def Wi:=@Go.wpList_store_row
def VQ:=@Go.results_cell_row
def UC:=@List.length_range
def WY:=@List.getElem?_toArray
def UG:=@Go.heap_alloc_last
def Ux:=@Go.Deep.blk_alloc_lt
def WZ:=@Nat.mul_le_mul_right
def XM:=@Int.natCast_mul
def XN:=@List.mem_or_eq_of_mem_set
def aa6:=@Go.wpList_make_own
def Wp:=@Go.Proofs.Tryz.underlying174
def Yh:=@Go.wpList_append_own
def Wq:=@List.getElem?_replicate
def UK:=@Go.World.ownsRow_nil
def Yi:=@Nat.zero_mul
def aa7:=@List.getElem_cons_zero
def Vx:=@List.getElem?_append_left
def XO:=@List.getElem_cons_succ
def U3:=@List.getElem?_append_right
def UI:=@Option.some.inj
def W0:=@Go.Lib.run_eql_slice_nil
def Yj:=@Go.growslice_fits
def Yk:=@Go.grownCap_ge
def Yl:=@Go.grownCap_le_maxLen
def Vy:=@Int.toNat_natCast
def XP:=@List.getElem?_set
def Ym:=@List.getElem?_set_self
def VK:=@List.mem_append_right
def US:=@List.mem_of_mem_drop
end Go.Proofs.YtpemimgppdkcbaaGreatDoor
namespace Go.Proofs.YtpemimgppdkcbaaGreatDoor
open Go.RowKit Go.Deep Gf Go.Shelf
variable {listed:Array Bool} {ops:Array ZN} {cs args:Array ZT} {Rr R R':ZP->ZU->Prop} {f:FuncId} {kk:IntKind} {D M:List a8} {L T:List (Nat×Nat×a8)} {sh:List (Op×Option Nat×a8)} {l l':a8} {rest:List ZN} {xs:List ZT} {r b n base base' B k j q g cap lo hi i m x s d c gone:Nat} {S K:Nat->Prop} {o:ZN} {P:Program} {α:Type} {e t:ZL} {v v' u y:ZT} {Vi:ZT->ZU->Prop} {w w' w'' a w0 w1 w2 wc:ZU}
def nM {α:Type _} (a:α):∃ x,a=x:=⟨a,rfl⟩
def lR {n:Nat}:n<=n:=TV n
def bA (w:Go.World) (o:Go.Obj):Go.RowKit.Below w.heap.size w (w.alloc o):=(TY _ w).alloc (TV _) o
abbrev bW (w v:Go.World):Prop:=Go.RowKit.Below w.heap.size w v
def be (n:Nat):Nat->a8
 | 0=>[]
 | s+1=>n/256^s%256::be n s
def aF (n s:Nat):(be n s).length=s:=by induction s with
 | zero=>rfl
 | succ s ih=>simp [be,ih]
def qE (n s:Nat):∀ x∈be n s,x<256:=by induction s with
 | zero=>intro x a;simp [be] at a
 | succ s ih=>
  intro x a;simp only [be,Ur] at a;rcases a with rfl|a
  . exact VT _ (by decide)
  . exact ih x a
def fG (l:a8):Nat:=l.foldl (λn x=>(n*256+x)%18446744073709551616) 0
def sB (l:a8) (x:Nat):fG (l++[x])=(fG l*256+x)%18446744073709551616:=by simp [fG]
def O3 (l:a8):fG l<18446744073709551616:=by
 rcases List.eq_nil_or_concat l with rfl|⟨l',x,rfl⟩
 . decide
 . rw [List.concat_eq_append,sB];exact VT _ (by decide)
theorem MU (n:Nat) (hn:n<18446744073709551616):∀ (s a:Nat),s<=8->a=n/256^s->(be n s).foldl (λn x=>(n*256+x)%18446744073709551616) a=n:=by
 intro s;induction s with
 | zero=>intro a _ b;simpa [be] using b
 | succ s ih=>
  intro a e b;simp only [be,Wy];refine ih _ (by omega) ?_;subst b;have c:n/256^(s+1)=n/256^s/256:=by rw [Xa,YQ]
  rw [c];have:n/256^s<=n:=V2 _ _;generalize n/256^s=q at *;omega
def lu (n s:Nat) (a:s<=8) (h:n<256^s):fG (be n s)=n:=by
 have:(256:Nat)^s<=256^8:=Vq (by decide) a;exact MU n (by omega) s 0 a (Xb h).symm
def cG:a8:=[0x00000000,0x1db71064,0x3b6e20c8,0x26d930ac,0x76dc4190,0x6b6b51f4,0x4db26158,0x5005713c,0xedb88320,0xf00f9344,0xd6d6a3e8,0xcb61b38c,0x9b64c2b0,0x86d3d2d4,0xa00ae278,0xbdbdf21c]
def dg (r:Nat):Nat:=(r/16)^^^cG.getD (r%16) 0
def du (r b:Nat):Nat:=dg (dg (r^^^b))
def cU (l:a8):Nat:=l.foldl du 4294967295
def nH (l:a8):Nat:=4294967295-cU l
def px:∀ i,cG.getD i 0<4294967296:=by
 intro i;by_cases h:i<16
 . have:∀ j:Fin 16,cG.getD j.1 0<4294967296:=by decide
   exact this ⟨i,h⟩
 . have:cG.getD i 0=0:=by simp [cG,VM (show ([0x00000000,0x1db71064,0x3b6e20c8,0x26d930ac,0x76dc4190,0x6b6b51f4,0x4db26158,0x5005713c,0xedb88320,0xf00f9344,0xd6d6a3e8,0xcb61b38c,0x9b64c2b0,0x86d3d2d4,0xa00ae278,0xbdbdf21c]:a8).length<=i by simp;omega)]
   omega
def gv (h:r<4294967296):dg r<4294967296:=by
 unfold dg;exact V8 (n:=32) (by omega) (px _)
def eN (h:r<4294967296) (a:b<256):du r b<4294967296:=
 gv (gv (V8 (n:=32) h (by omega)))
def yE:∀ (l:a8) (r:Nat),r<4294967296->(∀ x∈l,x<256)->l.foldl du r<4294967296:=by
 intro l;induction l with
 | nil=>intro r h _;exact h
 | cons b l ih=>intro r h hl;exact ih _ (eN h (hl b (by simp))) (λx a=>hl x (by simp [a]))
def nf (h:∀ x∈l,x<256):cU l<4294967296:=yE l _ (by decide) h
def yF (l:a8):nH l<4294967296:=by unfold nH;omega
inductive bC where
 | blank
 | root (D L G turn first len:Nat)
 | filled
 | shard (l:a8)
deriving DecidableEq
def bC.body:bC->a8
 | .blank=>[]
 | .root D L G t f n=>[1,D%256,L%256,G%256]++(be t 8++(be f 4++be n 4))
 | .filled=>[2]
 | .shard l=>3::(YE 15 0++l)
def cH (body:a8):a8:=be (nH (body++YE (60-body.length) 0)) 4++(body++YE (60-body.length) 0)
def bC.blk (r:bC):a8:=if r.body.length=0 then YE 64 0 else cH r.body
def bC.ok:bC->Prop
 | .blank=>True
 | .root D L G t f n=>D<256/\L<256/\G<256/\t<18446744073709551616/\f<4294967296/\n<4294967296
 | .filled=>True
 | .shard l=>l.length=44/\∀ x∈l,x<256
def ri (b:a8):bC:=
 if b.getD 4 0=1 then .root (fG [b.getD 5 0]) (fG [b.getD 6 0]) (fG [b.getD 7 0]) (fG ((b.drop 8).take 8)) (fG ((b.drop 16).take 4)) (fG ((b.drop 20).take 4))
 else if b.getD 4 0=2 then .filled else if b.getD 4 0=3 then .shard (b.drop 20) else .blank
def jC {r:bC} (h:r.ok):r.body.length<=60:=by
 cases r with
 | blank=>simp [bC.body]
 | root D L G t f n=>simp [bC.body,aF]
 | filled=>simp [bC.body]
 | shard l=>simp [bC.body,h.1]
theorem Fl {r:bC} (h:r.ok):r.blk.length=64:=by
 have:=jC h;unfold bC.blk cH;split
 . simp
 . simp [aF];omega
def me {r:bC} (h:r.ok):∀ x∈r.body,x<256:=by
 cases r with
 | blank=>intro x a;simp [bC.body] at a
 | root D L G t f n=>
  intro x a;simp only [bC.body,Uf,Ur,WK,or_false] at a;rcases a with (rfl|rfl|rfl|rfl)|a|a|a
  . omega
  . omega
  . omega
  . omega
  all_goals exact qE _ _ x a
 | filled=>
  intro x a;simp only [bC.body,Ur,WK,or_false] at a;omega
 | shard l=>
  intro x a;simp only [bC.body,Uf,Ur] at a;rcases a with rfl|a|a
  . decide
  . have:=VG a;omega
  . exact h.2 x a
def Gs (h:∀ x∈l,x<256):∀ x∈cH l,x<256:=by
 intro x a;unfold cH at a;simp only [Uf] at a;rcases a with a|a|a
 . exact qE _ _ x a
 . exact h x a
 . have:=VG a;omega
theorem O4 {r:bC} (h:r.ok):∀ x∈r.blk,x<256:=by
 unfold bC.blk;split
 . intro x a;have:=VG a;omega
 . exact Gs (me h)
def O5 (n:Nat):be n 4=[n/256^3%256,n/256^2%256,n/256^1%256,n/256^0%256]:=rfl
def rJ (x:Nat) (h:x<256):fG [x]=x:=by simp [fG];omega
theorem MV {r:bC} (h:r.ok):ri r.blk=r:=by
 cases r with
 | blank=>rfl
 | root D L G t f n=>
  obtain ⟨d,g,i,j,k,o⟩:=h;have e:bC.blk (.root D L G t f n)=cH (bC.body (.root D L G t f n)):=by unfold bC.blk;rw [if_neg (by simp [bC.body])]
  rw [e];unfold cH;generalize nH _=c;simp only [bC.body,O5 c,T8,Uv,UQ,aF];unfold ri;simp only [UL,Uk,List.getD_cons_succ,List.getD_cons_zero,if_true,Xx,WL,Uz];have t8:∀ R:a8,(be t 8++R).take 8=be t 8:=λR=>by rw [VN (by simp [aF])];exact UD (by simp [aF])
  have a:∀ R:a8,(be t 8++R).drop 8=R:=λR=>by rw [WM (by simp [aF]),WA (by simp [aF])];rfl
  have b:∀ (m:Nat) (R:a8),(be m 4++R).take 4=be m 4:=λm R=>by rw [VN (by simp [aF])];exact UD (by simp [aF])
  have d12:∀ R:a8,(be t 8++(be f 4++R)).drop 12=R:=λR=>by
   rw [show (12:Nat)=8+4 from rfl,<- VA,a,WM (by simp [aF]),WA (by simp [aF])];rfl
  rw [t8,a,b,d12,b,lu t 8 (by decide) j,lu f 4 (by decide) k,lu n 4 (by decide) o];rw [rJ _ (by omega),rJ _ (by omega),rJ _ (by omega),VU d,VU g,VU i]
 | filled=>
  have e:bC.blk .filled=cH (bC.body .filled):=by unfold bC.blk;rw [if_neg (by simp [bC.body])]
  rw [e];unfold cH;generalize nH _=c;simp only [bC.body,O5 c,Uv,UQ];unfold ri;simp
 | shard l=>
  have e:bC.blk (.shard l)=cH (bC.body (.shard l)):=by unfold bC.blk;rw [if_neg (by simp [bC.body])]
  rw [e];unfold cH;generalize nH _=c;have hl:=h.1;simp only [bC.body,O5 c,T8,Uv,Xy,hl];unfold ri;simp [YE]
def Jz (l:a8):Option bC:=if (ri l).blk=l then ZX (ri l) else ZY
def Fm {r:bC} (h:r.ok):Jz r.blk=ZX r:=by unfold Jz;rw [MV h,if_pos rfl]
def sC (h:n<=1000000000000):wrap64 (n:Int)=(n:Int):=by unfold wrap64;omega
def vb (l:a8) (i:Nat):ZT:=Z7 .u8 ((l.getD i 0:Nat):Int)
def aM (w:ZU) (b:Nat) (l:a8):Prop:=w.rowIs b 5 l.length (vb l)
def jX (p:Nat×Nat×a8):ZT:=Z5 (ZX ⟨p.1,0,ZY⟩) p.2.1 p.2.2.length
structure iV (w:ZU) (base:Nat) (v:ZT) (L:List (Nat×Nat×a8)):Prop where
 own:w.ownsRow base 31 1 v L.length (L.map jX)
 row:∀ p∈L,base<=p.1/\aM w p.1 p.2.2/\p.2.1<=p.2.2.length/\(p.2.1<=140737488355328/\p.2.2.length<=9223372036854775807)/\∀ x∈p.2.2,x<256
 nodup:(L.map (λp=>p.1)).Nodup
def ez (h:∀ x∈l,x<256) (i:Nat):l.getD i 0<256:=by
 by_cases hi:i<l.length
 . have e:l.getD i 0=l[i]:=(by simp [hi]);rw [e];exact h _ (T4 hi)
 . have e:l.getD i 0=0:=(by simp [VM (show l.length<=i by omega)]);rw [e];decide
def aM.below (h:aM w b l) (a:ZS w.heap.size w w'):aM w' b l:=
 Vv h (a.block b h.lt)
def aM.cell (h:aM w b l) (i:Nat) (hi:i<l.length):w.cell? ⟨b,i,ZY⟩=ZX (Z7 .u8 ((l.getD i 0:Nat):Int)):=
 aaV h hi
def aM.frozen (h:aM w b l) (i:Nat):w.frozen? ⟨b,i,ZY⟩=ZV:=World.rowIs.frozen h i
theorem aM.set (h:aM w b l) (i x:Nat):aM (w.setCell ⟨b,i,ZY⟩ (Z7 .u8 (x:Int))) b (l.set i x):=by
 have a:=World.rowIs.set h i (Z7 .u8 (x:Int));unfold aM;rw [Wm];refine a.congr λj c=>?_;unfold vb;by_cases e:j=i
 . subst e;simp [c]
 . simp only [if_neg e];rw [T5,T5,List.getElem?_set_ne (λh=>e h.symm)]
def aM.other (h:aM w b l) {a:ZQ} (c:b≠a.block) (v:ZT):aM (w.setCell a v) b l:=World.rowIs.setOther h c v
def aM.alloc (h:aM w b l) (o:Obj):aM (w.alloc o) b l:=World.rowIs.alloc h o
def aM.lt (h:aM w b l):b<w.heap.size:=World.rowIs.lt h
def aM.grown {row:Option Nat} (h:aM w b l) (c:w.grownBy w' row) (a:ZX b≠row):aM w' b l:=
 Vv h (c.block b h.lt a)
theorem aM.made (w:ZU) (n:Nat):aM (w.alloc (Z4 (madeCells #[Z7 .u8 0] n) 5)) w.heap.size (YE n 0):=by
 have h:=Xc w (Z7 .u8 0) n 5;unfold aM;rw [Xy];refine h.congr λi hi=>?_;simp [vb,hi]
def ay {size:Nat} (h:w.ownsRow base e size v n xs) (j:ZS w.heap.size w w'):w'.ownsRow base e size v n xs:=by
 refine ⟨h.1,?_⟩;rcases h.2 with f|⟨g,cap,cur,b,c,a,d⟩
 . exact .inl f
 . refine .inr ⟨g,cap,cur,b,c,?_,d⟩;obtain ⟨i,_⟩:=TX.1 a;rw [j.block g i];exact a
def cP {size:Nat} (h:w.ownsRow base e size v n xs) (f:base'<=base):w.ownsRow base' e size v n xs:=by
 refine ⟨h.1,?_⟩;rcases h.2 with c|⟨g,cap,cur,a,d,b⟩
 . exact .inl c
 . exact .inr ⟨g,cap,cur,a,by omega,b⟩
def yG (h:w.ownsRow base 31 1 v n xs) {b:Nat} {l:a8} (i:aM w b l):v.ownBlock≠ZX b:=by
 intro e;rcases h.2 with ⟨f,_⟩|⟨g,cap,cur,d,k,a,m⟩
 . rw [f] at e;simp [Value.ownBlock] at e
 . rw [d] at e;simp [Value.ownBlock] at e;subst e;obtain ⟨c,j,_⟩:=i;rw [j] at a;simp at a
def iV.weaken (h:iV w base v L) (c:base'<=base):iV w base' v L:=
 ⟨cP h.own c,λp d=>by obtain ⟨a,b⟩:=h.row p d;exact ⟨by omega,b⟩,h.nodup⟩
def iV.below (h:iV w base v L) (d:ZS w.heap.size w w'):iV w' base v L:=
 ⟨ay h.own d,λp e=>by obtain ⟨a,b,c⟩:=h.row p e;exact ⟨a,b.below d,c⟩,h.nodup⟩
def iV.alloc (h:iV w base v L) (o:Obj):iV (w.alloc o) base v L:=
 h.below (bA _ _)
def iV.push {p:Nat×Nat×a8} (h:iV w base v L) (i:w.grownBy w' v.ownBlock) (j:w'.ownsRow base 31 1 v' (L.length+1) (L.map jX++[jX p]))
 (f:base<=p.1/\aM w p.1 p.2.2/\p.2.1<=p.2.2.length/\(p.2.1<=140737488355328/\p.2.2.length<=9223372036854775807)/\∀ x∈p.2.2,x<256) (k:∀ q∈L,q.1≠p.1):iV w' base v' (L++[p]):=by
 refine ⟨by simpa using j,λq d=>?_,?_⟩
 . rcases Uf.1 d with d|d
   . obtain ⟨a,b,c⟩:=h.row q d;exact ⟨a,b.grown i (λe=>yG h.own b e.symm),c⟩
   . simp at d;subst d;exact ⟨f.1,f.2.1.grown i (λe=>yG h.own f.2.1 e.symm),f.2.2⟩
 . rw [Uw,UU];refine ⟨h.nodup,by simp,?_⟩;intro a l b g;obtain ⟨q,d,rfl⟩:=T6.1 l;simp at g;subst g;exact k q d
theorem jD (g i:Nat):(⟨g,0,ZY⟩:ZQ).add i=⟨g,i,ZY⟩:=by
 unfold Addr.add;split
 . rename_i h;simp_all
 . simp
def iV.shape (h:iV w base v L):(v=Z5 ZY 0 0/\L=[])\/∃ g cap,v=Z5 (ZX ⟨g,0,ZY⟩) L.length cap/\base<=g/\L.length<=cap/\cap<=maxLen/\g<w.heap.size/\(∀ i (hi:i<L.length),w.cell? ⟨g,i,ZY⟩=ZX (jX L[i]))/\(∀ i,w.frozen? ⟨g,i,ZY⟩=ZV)/\∀ p∈L,p.1≠g:=by
 rcases h.own.2 with ⟨j,k⟩|⟨g,cap,cur,a,c,b,d,f,n,o⟩
 . exact .inl ⟨j,UP k⟩
 . obtain ⟨l,_⟩:=TX.1 b;refine .inr ⟨g,cap,a,c,d,f,l,λi hi=>?_,λi=>?_,λp m e=>?_⟩
   . have:=h.own.cells (g:=g) (by rw [a];rfl) i (jX L[i]) (by simp [hi]);rw [jD] at this;exact this
   . simp [World.frozen?,b]
   . have:=yG h.own (h.row p m).2.1;rw [a] at this;exact this (by rw [e];rfl)
def Tryz.R6:(ZJ.info? 5).map (λi=>(i.zero,i.size,i.bytes))=ZX (ZX (Z7 .u8 0),1,1):=by kernel_rfl
def Tryz.Sl:(ZJ.info? 31).map (λi=>(i.zero,i.size,i.bytes))=ZX (ZX (Z5 ZY 0 0),1,24):=by kernel_rfl
def eA (w:ZU) {ops:Array ZN} {rest:List ZN} {o:ZN} {a:ZM} {Q:ZO->ZM->ZU->Prop}
 (h:o.guard=ZY) (l c:ZK) (e:o.op=Op.makeSlice 31 l c) (C:Int) (n:Nat) (hl:a.eval l=Z7 Z9 C) (g:a.eval c=Z7 Z9 C) (f:C=(n:Int)) (hn:n<=140737488355328)
 (hK:∀ w',aM w' w.heap.size (YE n 0)->ZS w.heap.size w w'->w'.heap.size=w.heap.size+1->wpList ZJ ops Q rest (a.put o.dst (Z5 (ZX ⟨w.heap.size,0,ZY⟩) n n)) w') :
 wpList ZJ ops Q (o::rest) a w:=by
 refine VO h λK d=>?_;have b:=Xz (P:=ZJ) 31 5 (Z7 .u8 0) 1 Uh Tryz.R6 rfl .i64 .i64 n (by omega) (by omega) w;subst f;unfold Oper.wp;simp [execOp,e,hl,g,b,Result.andThen];exact d _ _ (hK _ (aM.made w n) (bA _ _) (Ug _ _))
section
structure aa (S:Nat->Prop) (w w':ZU):Prop where
 os:w'.os=w.os
 tape:w'.tape=w.tape
 output:w'.output=w.output
 size:w.heap.size<=w'.heap.size
 block:∀ k,k<w.heap.size->¬ S k->w'.heap[k]?=w.heap[k]?
def aa.refl (S:Nat->Prop) (w:ZU):aa S w w:=⟨rfl,rfl,rfl,TV _,λ_ _ _=>rfl⟩
def aa.mono {T:Nat->Prop} (h:aa S w w') (b:∀ k,k<w.heap.size->S k->T k):aa T w w':=
 ⟨h.os,h.tape,h.output,h.size,λk a c=>h.block k a (λs=>c (b k a s))⟩
def aa.trans (h:aa S w w') (a:aa S w' w''):aa S w w'':=
 ⟨a.os.trans h.os,a.tape.trans h.tape,a.output.trans h.output,TW h.size a.size,λk b c=>(a.block k (TZ b h.size) c).trans (h.block k b c)⟩
def aa.later {T:Nat->Prop} (h:aa S w w') (a:aa T w' w'') (d:∀ k,k<w.heap.size->T k->S k):aa S w w'':=
 ⟨a.os.trans h.os,a.tape.trans h.tape,a.output.trans h.output,TW h.size a.size,λk b c=>(a.block k (TZ b h.size) (λt=>c (d k b t))).trans (h.block k b c)⟩
def aa.RT (h:ZS B w w') (S:Nat->Prop) (a:∀ k,k<w.heap.size->¬ S k->k<B):aa S w w':=
 ⟨h.os,h.tape,h.output,h.size,λk b c=>h.block k (a k b c)⟩
def aa.RS (h:ZS w.heap.size w w') (S:Nat->Prop):aa S w w':=.RT h S λ_ a _=>a
def aa.below (h:aa S w w') {B:Nat} (a:∀ k,k<B->k<w.heap.size/\¬ S k):ZS B w w':=
 ⟨h.os,h.tape,h.output,h.size,λk b=>h.block k (a k b).1 (a k b).2⟩
def aa.setCell (w:ZU) (a:ZQ) (v:ZT) (h:S a.block):aa S w (w.setCell a v):=
 ⟨rfl,rfl,rfl,by simp [World.setCell],λk _ b=>Ud _ _ _ _ (λe=>b (e▸h))⟩
def aa.alloc (w:ZU) (o:Obj):aa S w (w.alloc o):=.RS (bA _ _) S
def aa.drew (w:ZU):aa S w w.drew:=⟨rfl,rfl,rfl,TV _,λ_ _ _=>rfl⟩
def aS (b:Nat):∀ (a:List ZT) (o:Nat) (w:ZU) (k:Nat),k≠b->(w.setCells b o a).heap[k]?=w.heap[k]?
 | [],_,_,_,_=>rfl
 | v::r,o,w,k,h=>by
  show ((w.setCell ⟨b,o,ZY⟩ v).setCells b (o+1) r).heap[k]?=_;rw [aS b r _ _ k h];exact Ud _ _ _ _ (by exact h)
def jl (b:Nat):∀ (a:List ZT) (o:Nat) (w:ZU),(w.setCells b o a).heap.size=w.heap.size
 | [],_,_=>rfl
 | v::r,o,w=>by
  show ((w.setCell ⟨b,o,ZY⟩ v).setCells b (o+1) r).heap.size=_;rw [jl b r];simp [World.setCell]
def jm (b:Nat):∀ (a:List ZT) (o:Nat) (w:ZU),(w.setCells b o a).os=w.os/\(w.setCells b o a).tape=w.tape/\(w.setCells b o a).output=w.output
 | [],_,_=>⟨rfl,rfl,rfl⟩
 | v::r,o,w=>jm b r (o+1) (w.setCell ⟨b,o,ZY⟩ v)
def aa.setCells (w:ZU) (b o:Nat) (a:List ZT) (h:S b):aa S w (w.setCells b o a):=by
 obtain ⟨c,d,f⟩:=jm b a o w;exact ⟨c,d,f,by rw [jl];exact TV _,λk _ g=>aS b a o w k (λe=>g (e▸h))⟩
theorem fm {t:Nat}:∀ (a:List ZT) (o:Nat) (w:ZU) (f:Nat->ZT),w.rowIs b t n f ->
 (w.setCells b o a).rowIs b t n (λk=>if o<=k/\k<o+a.length then a.getD (k-o) ZZ else f k)
 | [],o,w,f,h=>h.congr λi hi=>by
  show f i=if o<=i/\i<o+0 then _ else f i;rw [if_neg (by omega)]
 | v::r,o,w,f,h=>by
  have d:=fm r (o+1) _ _ (h.set o v);refine World.rowIs.congr d λk g=>?_;simp only [Uv];by_cases e:k=o
  . subst e;rw [if_neg (by omega),if_pos rfl,if_pos (by omega),Wx];rfl
  . by_cases c:o+1<=k/\k<o+1+r.length
    . rw [if_pos c,if_pos (by omega),show k-o=(k-(o+1))+1 by omega];rfl
    . rw [if_neg c,if_neg e,if_neg (by omega)]
structure fK where
 n:Nat
 nb:Nat
 lost:Nat->Bool
 bad:Nat->Nat->Bool
 blk:Nat->Nat->a8
structure aR where
 g:Nat
 cap:Nat
 bb:Nat->Nat
 bd:Nat->Nat
 S:Nat->Prop
def OE (f:Nat->a8) (k:Nat):ZT:=Z7 .u8 (((f (k/64)).getD (k%64) 0:Nat):Int)
def O6 (R:fK) (F:aR) (cs:Array ZT) (i:Nat):Prop:=cs[i*4]?=ZX (Z2 (R.lost i))/\cs[i*4+1]?=ZX (Z5 (ZX ⟨F.bb i,0,ZY⟩) R.nb R.nb)/\cs[i*4+2]?=ZX (Z5 (ZX ⟨F.bd i,0,ZY⟩) R.nb R.nb)/\∃ r,cs[i*4+3]?=ZX (Z7 Z9 r)
structure ah (X:ZU) (p:Nat) (R:fK) (F:aR):Prop where
 top:X.heap[p]?=ZX (Z4 #[Z5 (ZX ⟨F.g,0,ZY⟩) R.n F.cap,Z7 Z9 (-1)] 97 (0,0))
 drv:∃ cs,X.heap[F.g]?=ZX (Z4 cs 101 (0,0))/\∀ i,i<R.n->O6 R F cs i
 blk:∀ i,i<R.n->X.rowIs (F.bb i) 105 (64*R.nb) (OE (R.blk i))
 bad:∀ i,i<R.n->X.rowIs (F.bd i) 4 R.nb (λj=>Z2 (R.bad i j))
 inj:∀ i j,i<R.n->j<R.n->(F.bb i=F.bb j->i=j)/\(F.bd i=F.bd j->i=j)
 S:∀ k,F.S k↔k=p\/k=F.g\/∃ i,i<R.n/\(k=F.bb i\/k=F.bd i)
 n:R.n<=1000
 nb:R.nb<=1000000
 len:∀ i j,(R.blk i j).length=64/\∀ x∈R.blk i j,x<256
variable {X Y:ZU} {p:Nat} {R:fK} {F:aR}
def ah.sp (h:ah X p R F):F.S p:=(h.S p).2 (.inl rfl)
def ah.sg (h:ah X p R F):F.S F.g:=(h.S _).2 (.inr (.inl rfl))
def ah.sb (h:ah X p R F) {i:Nat} (hi:i<R.n):F.S (F.bb i):=(h.S _).2 (.inr (.inr ⟨i,hi,.inl rfl⟩))
def ah.sd (h:ah X p R F) {i:Nat} (hi:i<R.n):F.S (F.bd i):=(h.S _).2 (.inr (.inr ⟨i,hi,.inr rfl⟩))
def ah.RU (h:ah X p R F) {k:Nat} (b:F.S k):k<X.heap.size:=by
 rcases (h.S k).1 b with rfl|rfl|⟨i,hi,rfl|rfl⟩
 . exact (TX.1 h.top).1
 . obtain ⟨cs,a,_⟩:=h.drv;exact (TX.1 a).1
 . exact (h.blk i hi).lt
 . exact (h.bad i hi).lt
def ah.keep (h:ah X p R F) (a:∀ k,F.S k->Y.heap[k]?=X.heap[k]?):ah Y p R F:=by
 obtain ⟨cs,b,c⟩:=h.drv;exact ⟨(a _ h.sp).trans h.top,⟨cs,(a _ h.sg).trans b,c⟩,λi hi=>(h.blk i hi).of_block (a _ (h.sb hi)),λi hi=>(h.bad i hi).of_block (a _ (h.sd hi)),h.inj,h.S,h.n,h.nb,h.len⟩
def ah.below (h:ah X p R F) {B:Nat} (b:ZS B X Y) (a:X.heap.size<=B):ah Y p R F:=h.keep λk c=>b.block k (TZ (h.RU c) a)
def ah.alloc (h:ah X p R F) (o:Obj):ah (X.alloc o) p R F:=h.below (bA _ _) lR
def ah.apart (h:ah X p R F):p≠F.g/\(∀ i,i<R.n->F.bb i≠p/\F.bb i≠F.g/\F.bd i≠p/\F.bd i≠F.g)/\∀ i j,i<R.n->j<R.n->F.bb i≠F.bd j:=by
 obtain ⟨cs,k,_⟩:=h.drv;have f:=h.top;refine ⟨λe=>?_,λi hi=>?_,λi j hi l e=>?_⟩
 . rw [e,k] at f;simp at f
 . obtain ⟨c,a,_⟩:=h.blk i hi;obtain ⟨d,b,_⟩:=h.bad i hi;refine ⟨λe=>?_,λe=>?_,λe=>?_,λe=>?_⟩
   . rw [e,f] at a;simp at a
   . rw [e,k] at a;simp at a
   . rw [e,f] at b;simp at b
   . rw [e,k] at b;simp at b
 . obtain ⟨c,a,_⟩:=h.blk i hi;obtain ⟨d,b,_⟩:=h.bad j l;rw [e,b] at a;simp at a
def ah.Sd (h:ah X p R F) (i:Nat) (hi:i<R.n):X.cell? ⟨F.g,i*4,ZY⟩=ZX (Z2 (R.lost i))/\X.cell? ⟨F.g,i*4+1,ZY⟩=ZX (Z5 (ZX ⟨F.bb i,0,ZY⟩) R.nb R.nb) /\
 X.cell? ⟨F.g,i*4+2,ZY⟩=ZX (Z5 (ZX ⟨F.bd i,0,ZY⟩) R.nb R.nb)/\∃ r,X.cell? ⟨F.g,i*4+3,ZY⟩=ZX (Z7 Z9 r):=by
 obtain ⟨cs,a,b⟩:=h.drv;obtain ⟨c,d,e,r,f⟩:=b i hi;simp only [World.cell?,a];exact ⟨c,d,e,r,f⟩
def ah.Su (h:ah X p R F) (k:Nat):X.frozen? ⟨F.g,k,ZY⟩=ZV:=by obtain ⟨cs,a,_⟩:=h.drv;simp [World.frozen?,a]
def ah.RX (h:ah X p R F):X.cell? ⟨p,0,ZY⟩=ZX (Z5 (ZX ⟨F.g,0,ZY⟩) R.n F.cap)/\X.cell? ⟨p,1,ZY⟩=ZX (Z7 Z9 (-1)):=by simp [World.cell?,h.top]
def aI (l:a8):List ZT:=l.map λ(x:Nat)=>Value.int .u8 (x:Int)
def ah.range (h:ah X p R F) {i j:Nat} (hi:i<R.n) (d:j<R.nb):X.rangeAt (F.bb i) (j*64) (aI (R.blk i j)):=by
 intro k v a;unfold aI at a;rw [Un,Wc] at a;obtain ⟨x,b,rfl⟩:=a;obtain ⟨c,e⟩:=U1.1 b;rw [(h.len i j).1] at c;rw [(h.blk i hi).cell (i:=j*64+k) (by omega)];unfold OE;rw [show (j*64+k)/64=j by omega,show (j*64+k)%64=k by omega,T5,b];rfl
def ah.there (h:ah X p R F) {i j:Nat} (hi:i<R.n) (a:j<R.nb):X.there (F.bb i) (j*64) 64:=λk b=>by
 rw [(h.blk i hi).cell (i:=j*64+k) (by omega)];exact ⟨rfl,(h.blk i hi).frozen _⟩
def iY (h:cs[j]?=ZX u) (v:ZT):(cs.setIfInBounds k v)[j]?=ZX (if j=k then v else u):=by
 rw [X6];obtain ⟨q,_⟩:=TX.1 h;by_cases e:k=j
 . subst e;simp [q]
 . rw [if_neg e,if_neg (λq=>e q.symm),h]
def ah.Tk (h:ah X p R F) (k:Nat) (v:ZT) (l:Nat->Bool) (m:∀ cs i,i<R.n->O6 R F cs i->O6 { R with lost:=l } F (cs.setIfInBounds k v) i):ah (X.setCell ⟨F.g,k,ZY⟩ v) p { R with lost:=l } F:=by
 obtain ⟨c,b,o⟩:=h.apart;have a:∀ j,j≠F.g->(X.setCell ⟨F.g,k,ZY⟩ v).heap[j]?=X.heap[j]?:=λj f=>Ud _ _ _ _ f;obtain ⟨cs,d,e⟩:=h.drv;exact ⟨(a _ c).trans h.top,⟨cs.setIfInBounds k v,by simp [World.setCell,VH,d],λi hi=>m cs i hi (e i hi)⟩,λi hi=>(h.blk i hi).of_block (a _ (b i hi).2.1),λi hi=>(h.bad i hi).of_block (a _ (b i hi).2.2.2),h.inj,h.S,h.n,h.nb,h.len⟩
def ah.count (h:ah X p R F) (d:Nat) (x:Int):ah (X.setCell ⟨F.g,d*4+3,ZY⟩ (Z7 Z9 x)) p R F:=
 h.Tk _ _ R.lost λcs i _ q=>by
  obtain ⟨a,b,c,r,f⟩:=q;refine ⟨(iY a _).trans (by rw [if_neg (by omega)]),(iY b _).trans (by rw [if_neg (by omega)]),(iY c _).trans (by rw [if_neg (by omega)]),if i=d then x else r,(iY f _).trans ?_⟩;by_cases e:i=d
  . rw [if_pos (by omega),if_pos e]
  . rw [if_neg (by omega),if_neg e]
def ah.S6 (h:ah X p R F) (d:Nat) (t:Bool):ah (X.setCell ⟨F.g,d*4,ZY⟩ (Z2 t)) p { R with lost:=λk=>if k=d then t else R.lost k } F:=
 h.Tk _ _ _ λcs i _ q=>by
  obtain ⟨a,b,c,r,f⟩:=q;refine ⟨(iY a _).trans ?_,(iY b _).trans (by rw [if_neg (by omega)]),(iY c _).trans (by rw [if_neg (by omega)]),r,(iY f _).trans (by rw [if_neg (by omega)])⟩;show _=ZX (Value.bool (if i=d then t else R.lost i));by_cases e:i=d
  . rw [if_pos (by omega),if_pos e]
  . rw [if_neg (by omega),if_neg e]
def fK.RY (R:fK) (d:Nat) (f:Nat->a8):fK:={ R with blk:=λi=>if i=d then f else R.blk i }
def fK.R5 (R:fK) (d:Nat) (f:Nat->Bool):fK:={ R with bad:=λi=>if i=d then f else R.bad i }
theorem ah.RY (h:ah X p R F) {d:Nat} (c:d<R.n) {f:Nat->a8} (r:Y.rowIs (F.bb d) 105 (64*R.nb) (OE f)) (b:∀ k,k≠F.bb d->Y.heap[k]?=X.heap[k]?) (hl:∀ j,(f j).length=64/\∀ x∈f j,x<256):ah Y p (R.RY d f) F:=by
 obtain ⟨s,g,i⟩:=h.apart;obtain ⟨cs,l,o⟩:=h.drv;refine ⟨(b _ (g d c).1.symm).trans h.top,⟨cs,(b _ (g d c).2.1.symm).trans l,o⟩,λk a=>?_,λk a=>(h.bad k a).of_block (b _ (i d k c a).symm),h.inj,h.S,h.n,h.nb,λk m=>?_⟩
 . show Y.rowIs _ _ _ (OE (if k=d then f else R.blk k));by_cases e:k=d
   . rw [if_pos e,e];exact r
   . rw [if_neg e];exact (h.blk k a).of_block (b _ λq=>e ((h.inj k d a c).1 q))
 . show ((if k=d then f else R.blk k) m).length=64/\∀ x∈(if k=d then f else R.blk k) m,x<256;split
   . exact hl m
   . exact h.len k m
def ah.R5 (h:ah X p R F) {d:Nat} (c:d<R.n) {f:Nat->Bool} (o:Y.rowIs (F.bd d) 4 R.nb (λj=>Z2 (f j))) (b:∀ k,k≠F.bd d->Y.heap[k]?=X.heap[k]?):ah Y p (R.R5 d f) F:=by
 obtain ⟨r,g,i⟩:=h.apart;obtain ⟨cs,l,m⟩:=h.drv;refine ⟨(b _ (g d c).2.2.1.symm).trans h.top,⟨cs,(b _ (g d c).2.2.2.symm).trans l,m⟩,λk a=>(h.blk k a).of_block (b _ (i k d a c)),λk a=>?_,h.inj,h.S,h.n,h.nb,h.len⟩;show Y.rowIs _ _ _ (λj=>Z2 ((if k=d then f else R.bad k) j));by_cases e:k=d
 . rw [if_pos e,e];exact o
 . rw [if_neg e];exact (h.bad k a).of_block (b _ λq=>e ((h.inj k d a c).2 q))
theorem ah.setBlk (h:ah X p R F) {d:Nat} (a:d<R.n) (b:Nat) {l:a8} (hl:l.length=64) (g:∀ x∈l,x<256):ah (X.setCells (F.bb d) (b*64) (aI l)) p (R.RY d λm=>if m=b then l else R.blk d m) F:=by
 refine h.RY a ((fm (aI l) (b*64) X _ (h.blk d a)).congr λm _=>?_) (λk f=>aS _ _ _ _ _ f) λj=>?_
 . have c:(aI l).length=64:=(by unfold aI;rw [T7,hl]);rw [c];unfold OE;show _=Value.int .u8 (((if m/64=b then l else R.blk d (m/64)).getD (m%64) 0:Nat):Int);by_cases e:m/64=b
   . rw [if_pos (by omega),if_pos e,show m-b*64=m%64 by omega];unfold aI;rw [T5,Un,T5,Ua (show m%64<l.length by omega)];rfl
   . rw [if_neg (by omega),if_neg e]
 . split
   . exact ⟨hl,g⟩
   . exact h.len d j
theorem ah.Ty (h:ah X p R F) {d:Nat} (a:d<R.n) (b:Nat) (t:Bool):ah (X.setCell ⟨F.bd d,b,ZY⟩ (Z2 t)) p (R.R5 d λm=>if m=b then t else R.bad d m) F:=
 h.R5 a (((h.bad d a).set b (Z2 t)).congr λm _=>by split<;>rfl) λk c=>Ud _ _ _ _ c
structure aH where
 n:Nat
 nb:Nat
 lost:Nat->Bool
 bad:Nat->Nat->Bool
 rc:Nat->Nat->bC
def fK.rd (R:fK) (i b:Nat):Option bC:=if R.bad i b=ZW then ZY else Jz (R.blk i b)
def aH.rd (A:aH) (i b:Nat):Option bC:=if A.bad i b=ZW then ZY else ZX (A.rc i b)
structure mS (R:fK) (A:aH):Prop where
 n:R.n=A.n
 nb:R.nb=A.nb
 lost:R.lost=A.lost
 rd:∀ i b,i<A.n->A.lost i=ZV->R.rd i b=A.rd i b
def aB (X:ZU) (p:Nat) (A:aH) (F:aR):Prop:=∃ R,ah X p R F/\mS R A
variable {A:aH}
def aB.RU (h:aB X p A F) {k:Nat} (b:F.S k):k<X.heap.size:=by
 obtain ⟨R,a,_⟩:=h;exact a.RU b
def aB.keep (h:aB X p A F) (c:∀ k,F.S k->Y.heap[k]?=X.heap[k]?):aB Y p A F:=by
 obtain ⟨R,a,b⟩:=h;exact ⟨R,a.keep c,b⟩
def aB.below (h:aB X p A F) {B:Nat} (b:ZS B X Y) (a:X.heap.size<=B):aB Y p A F:=h.keep λk c=>b.block k (TZ (h.RU c) a)
def aB.outside (h:aB X p A F) (c:aa S X Y) (b:∀ k,F.S k->¬ S k):aB Y p A F:=h.keep λk a=>c.block k (h.RU a) (b k a)
def aB.SC (h:aB X p A F):A.n<=1000/\A.nb<=1000000:=by
 obtain ⟨R,a,b⟩:=h;rw [<- b.n,<- b.nb];exact ⟨a.n,a.nb⟩
def aH.putAt (A:aH) (ds:a8) (b:Nat) (f:Nat->bC):aH:={ A with bad:=λi m=>if m=b/\i∈ds then ZV else A.bad i m,rc:=λi m=>if m=b/\i∈ds then f i else A.rc i m }
def vZ (A:aH) (b:Nat) (f:Nat->bC):A.putAt [] b f=A:=by simp [aH.putAt]
theorem sD (A:aH) (ds:a8) (d b:Nat) (f:Nat->bC):(A.putAt ds b f).putAt [d] b (λ_=>f d)=A.putAt (ds++[d]) b f:=by
 unfold aH.putAt;simp only [aH.mk.injEq,true_and,Uf,Vp];refine ⟨funext λi=>funext λm=>?_,funext λi=>funext λm=>?_⟩
 . by_cases a:m=b<;>by_cases c:i=d<;>by_cases e:i∈ds<;>simp [a,c,e]
 . by_cases a:m=b<;>by_cases c:i=d<;>by_cases e:i∈ds<;>simp_all
def mS.put (h:mS R A) (d b:Nat) {r:bC} (c:r.ok):mS ((R.RY d λm=>if m=b then r.blk else R.blk d m).R5 d λm=>if m=b then ZV else R.bad d m) (A.putAt [d] b λ_=>r):=by
 refine ⟨h.n,h.nb,h.lost,λi m hi hl=>?_⟩;have q:=h.rd i m hi hl;unfold fK.rd aH.rd at q;unfold fK.rd aH.rd aH.putAt fK.R5 fK.RY;by_cases e:i=d
 . subst e;by_cases a:m=b
   . subst a;simp [Fm c]
   . simpa [a] using q
 . simpa [e] using q
def mS.TH (h:mS R A) {d:Nat} (hl:A.lost d=ZW) (b:Nat) (r:bC):mS R (A.putAt [d] b λ_=>r):=by
 refine ⟨h.n,h.nb,h.lost,λi m hi a=>?_⟩;have c:A.lost i=ZV:=a;have e:i≠d:=λe=>by rw [e,hl] at c;cases c
 rw [h.rd i m hi a];unfold aH.rd aH.putAt;simp [e]
end
def az (l:a8):Array ZT:=(aI l).toArray
def ix (l:a8):(az l).size=l.length:=by unfold az aI;simp
def we (l:a8):(az l).toList=aI l:=by unfold az;rfl
def aW (l:a8):(aI l).length=l.length:=by unfold aI;simp
def AJ (l:a8):(az l).all (λv=>v.oneCell')=ZW:=all_oneCell_toArray λv a=>by
 unfold aI at a;rw [T6] at a;obtain ⟨x,_,rfl⟩:=a;rfl
def Tryz.S0:(ZJ.info? 105).map (λi=>i.size)=ZX 64:=by kernel_rfl
def eV (h:l.length=64):(ZJ.info? 105).map (λi=>i.size)=ZX (az l).size:=by rw [ix,h];exact Tryz.S0
def zb:a8:=YE 64 0
def bR:zb.length=64:=by simp [zb]
def Tryz.zeroBlk:(ZJ.info? 105).map (λi=>(i.zero,i.size,i.bytes))=ZX (ZX (.agg (az zb)),64,64):=by kernel_rfl
def zeroBlk (w:ZU):(zeroValue 105).run ZJ w=.ok (.agg (az zb)) w:=by
 obtain ⟨c,a,b,_,_⟩:=Us Tryz.zeroBlk;simp [zeroValue,typeInfo,Uo,a,b]
def bJ (w:ZU) (b:Nat) (l:a8):Prop:=w.heap[b]?=ZX (Z4 (az l) 105 (0,0))
def bJ.lt (h:bJ w b l):b<w.heap.size:=(TX.1 h).1
def bJ.new (w:ZU) (l:a8):bJ (w.alloc (Z4 (az l) 105)) w.heap.size l:=Uc _ _
def bJ.keep (h:bJ w b l) (e:w'.heap[b]?=w.heap[b]?):bJ w' b l:=e.trans h
def bJ.setRow (l:a8) (h:bJ w b l'):bJ (w.setRow b (az l)) b l:=Vf w b (az l') (az l) _ _ h
def aK (w:ZU) (b:Nat) (cs:Array ZT):w.grownBy (w.setRow b cs) (ZX b):=
 ⟨rfl,rfl,rfl,by simp,λk _ a=>by
  have:b≠k:=λe=>a (by rw [e]);simp [World.setRow,VH,this]⟩
def aa.setRow (w:ZU) (b:Nat) (cs:Array ZT) (h:S b):aa S w (w.setRow b cs):=
 have g:=aK w b cs
 ⟨g.os,g.tape,g.output,g.size,λk a c=>g.block k a (λe=>c (by cases e;exact h))⟩
def gw (w:ZU) (b:Nat) (cs:Array ZT):(w.setRow b cs).heap.size=w.heap.size:=by simp [World.setRow]
def ng (h:bJ w b l) (hl:l.length=64):(Instr.loadAt 105 (Z6 (ZX ⟨b,0,ZY⟩))).run ZJ w=.ok (.agg (az l)) w:=by
 simp only [Instr.loadAt,Instr.sureAddr,Uo,U2,UE,WN w b 105 105 (az l) (0,0) _ h WB rfl (eV hl)]
def lx (h:bJ w b l) (hl:l.length=64):(loadVar 105 ⟨b,0,ZY⟩).run ZJ w=.ok (.agg (az l)) w:=
 WN w b 105 105 (az l) (0,0) _ h WB rfl (eV hl)
def AK (l:a8) (h:bJ w b l') (a:l'.length=64) (hl:l.length=64):(Instr.storeAt 105 (Z6 (ZX ⟨b,0,ZY⟩)) (.agg (az l))).run ZJ w=.ok () (w.setRow b (az l)):=by
 simp only [Instr.storeAt,Instr.sureAddr,Uo,U2,UE,XA w b 105 105 (az l') (az l) h (eV hl) (by rw [ix,ix,hl,a]) (AJ l)]
def mh {a:ZM} {Q:ZO->ZM->ZU->Prop} (d:o.guard=ZY) (x:ZK) (ho:o.op=.load 105 x) (b:Nat) (l:a8)
 (e:a.eval x=Z6 (ZX ⟨b,0,ZY⟩)) (c:bJ w b l) (hl:l.length=64) (h:wpList ZJ ops Q rest (a.put o.dst (.agg (az l))) w):wpList ZJ ops Q (o::rest) a w:=by
 refine VO d λK hK=>?_;unfold Oper.wp;simp [execOp,ho,e,ng c hl,Result.andThen];exact hK _ _ h
def fq {a:ZM} {Q:ZO->ZM->ZU->Prop} (e:o.guard=ZY) (x y:ZK) (ho:o.op=.store 105 x y) (b:Nat) (l l':a8)
 (f:a.eval x=Z6 (ZX ⟨b,0,ZY⟩)) (g:a.eval y=.agg (az l)) (d:bJ w b l') (c:l'.length=64) (hl:l.length=64) (h:wpList ZJ ops Q rest (a.put o.dst ZZ) (w.setRow b (az l))):wpList ZJ ops Q (o::rest) a w:=by
 refine VO e λK hK=>?_;unfold Oper.wp;simp [execOp,ho,f,g,AK l d c hl,Result.andThen];exact hK _ _ h
def Dj {a:ZM} {Q:ZO->ZM->ZU->Prop} (d:o.guard=ZY) (x:ZK) (ho:o.op=.load 105 x) (b k:Nat) (l:a8)
 (e:a.eval x=Z6 (ZX ⟨b,k,ZY⟩)) (c:w.rangeAt b k (aI l)) (hl:l.length=64) (h:wpList ZJ ops Q rest (a.put o.dst (.agg (az l))) w):wpList ZJ ops Q (o::rest) a w:=
 aaW d 105 x ho b k e (aI l) _ c WB rfl (by rw [aW,hl];exact Tryz.S0) h
def fs {fn:Func} {p q:Tmp} {ty:ZL} (h:fn.results=#[.cell p ty,.tmp q]) (tmps:Array ZT) (w:ZU) (a:ZQ) (v u:ZT)
 (d:tmps.getD p ZZ=Z6 (ZX a)) (e:tmps.getD q ZZ=u) (hl:(loadVar ty a).run P w=.ok v w):(results fn tmps).run P w=.ok (Z0 #[v,u]) w:=by
 have b:tmps[p]?.getD ZZ=Z6 (ZX a):=by simpa using d
 have c:tmps[q]?.getD ZZ=u:=by simpa using e
 simp [results,h,b,c,asAddr,hl]
theorem al {p:Prop} (h:p):Hid p:=h
theorem au {p0 p1:Prop} (a:p0) (b:p1):Go.RowKit.Hid (p0/\p1):=al ⟨a,b⟩
theorem aE {p0 p1 p2:Prop} (a:p0) (b:p1) (c:p2):Go.RowKit.Hid (p0/\p1/\p2):=al ⟨a,b,c⟩
theorem a5 {p0 p1 p2 p3:Prop} (a:p0) (b:p1) (c:p2) (d:p3):Go.RowKit.Hid (p0/\p1/\p2/\p3):=al ⟨a,b,c,d⟩
theorem a6 {p0 p1 p2 p3 p4:Prop} (a:p0) (b:p1) (c:p2) (d:p3) (e:p4):Go.RowKit.Hid (p0/\p1/\p2/\p3/\p4):=al ⟨a,b,c,d,e⟩
theorem a7 {p0 p1 p2 p3 p4 p5:Prop} (a:p0) (b:p1) (c:p2) (d:p3) (e:p4) (f:p5):Go.RowKit.Hid (p0/\p1/\p2/\p3/\p4/\p5):=al ⟨a,b,c,d,e,f⟩
theorem hide7 {p0 p1 p2 p3 p4 p5 p6:Prop} (a:p0) (b:p1) (c:p2) (d:p3) (e:p4) (f:p5) (g:p6):Go.RowKit.Hid (p0/\p1/\p2/\p3/\p4/\p5/\p6):=al ⟨a,b,c,d,e,f,g⟩
theorem hide8 {p0 p1 p2 p3 p4 p5 p6 p7:Prop} (a:p0) (b:p1) (c:p2) (d:p3) (e:p4) (f:p5) (g:p6) (h:p7):Go.RowKit.Hid (p0/\p1/\p2/\p3/\p4/\p5/\p6/\p7):=al ⟨a,b,c,d,e,f,g,h⟩
theorem hide9 {p0 p1 p2 p3 p4 p5 p6 p7 p8:Prop} (a:p0) (b:p1) (c:p2) (d:p3) (e:p4) (f:p5) (g:p6) (h:p7) (i:p8):Go.RowKit.Hid (p0/\p1/\p2/\p3/\p4/\p5/\p6/\p7/\p8):=al ⟨a,b,c,d,e,f,g,h,i⟩
theorem hide10 {p0 p1 p2 p3 p4 p5 p6 p7 p8 p9:Prop} (a:p0) (b:p1) (c:p2) (d:p3) (e:p4) (f:p5) (g:p6) (h:p7) (i:p8) (j:p9):Go.RowKit.Hid (p0/\p1/\p2/\p3/\p4/\p5/\p6/\p7/\p8/\p9):=al ⟨a,b,c,d,e,f,g,h,i,j⟩
theorem hide11 {p0 p1 p2 p3 p4 p5 p6 p7 p8 p9 p10:Prop} (b:p0) (c:p1) (d:p2) (e:p3) (f:p4) (g:p5) (h:p6) (i:p7) (j:p8) (k:p9) (a:p10):Go.RowKit.Hid (p0/\p1/\p2/\p3/\p4/\p5/\p6/\p7/\p8/\p9/\p10):=al ⟨b,c,d,e,f,g,h,i,j,k,a⟩
theorem hide12 {p0 p1 p2 p3 p4 p5 p6 p7 p8 p9 p10 p11:Prop} (c:p0) (d:p1) (e:p2) (f:p3) (g:p4) (h:p5) (i:p6) (j:p7) (k:p8) (l:p9) (a:p10) (b:p11):Go.RowKit.Hid (p0/\p1/\p2/\p3/\p4/\p5/\p6/\p7/\p8/\p9/\p10/\p11):=al ⟨c,d,e,f,g,h,i,j,k,l,a,b⟩
theorem hide13 {p0 p1 p2 p3 p4 p5 p6 p7 p8 p9 p10 p11 p12:Prop} (d:p0) (e:p1) (f:p2) (g:p3) (h:p4) (i:p5) (j:p6) (k:p7) (l:p8) (m:p9) (a:p10) (b:p11) (c:p12):Go.RowKit.Hid (p0/\p1/\p2/\p3/\p4/\p5/\p6/\p7/\p8/\p9/\p10/\p11/\p12):=al ⟨d,e,f,g,h,i,j,k,l,m,a,b,c⟩
theorem hide15 {p0 p1 p2 p3 p4 p5 p6 p7 p8 p9 p10 p11 p12 p13 p14:Prop} (f:p0) (g:p1) (h:p2) (i:p3) (j:p4) (k:p5) (l:p6) (m:p7) (n:p8) (o:p9) (a:p10) (b:p11) (c:p12) (d:p13) (e:p14):Go.RowKit.Hid (p0/\p1/\p2/\p3/\p4/\p5/\p6/\p7/\p8/\p9/\p10/\p11/\p12/\p13/\p14):=al ⟨f,g,h,i,j,k,l,m,n,o,a,b,c,d,e⟩
def rM {k:IntKind} {a b:Int} (h:a=b):Ending.returned (.int k a)=Z3 (.int k b):=by rw [h]
def JA (a b:Nat) (c:a<256) (d:b<256):bits .and .u8 (a:Int) (b:Int)=((a &&& b:Nat):Int):=
 (bits_nat .u8 8 (by decide) wraps_u8 a b c d).1
def nh (a b:Nat) (c:a<256) (d:b<256):bits .xor .u8 (a:Int) (b:Int)=((a^^^b:Nat):Int):=by
 have e:a%2^IntKind.u8.bits=a:=VU c;have f:b%2^IntKind.u8.bits=b:=VU d;simp only [bits,YJ,YK,YL,e,f];have:=uY c d;exact wraps_u8 _ (YR _) (by omega)
def wg (n:Int) (a:0<=n) (b:n<2^62):IntKind.i64.wrap n=n:=by rw [Ut];omega
def MW (a b:Nat) (c:a<2^62) (d:b<2^62):bits .and .i64 (a:Int) (b:Int)=((a &&& b:Nat):Int):=
 (bits_nat .i64 62 (by decide) wg a b c d).1
def MX (a b:Nat) (c:a<2^62) (d:b<2^62):bits .xor .i64 (a:Int) (b:Int)=((a^^^b:Nat):Int):=by
 have e:(2:Nat)^62<2^IntKind.i64.bits:=by decide
 have f:a%2^IntKind.i64.bits=a:=VU (Xd c e);have g:b%2^IntKind.i64.bits=b:=VU (Xd d e);simp only [bits,YJ,YK,YL,f,g];have:=V8 (n:=62) c d;exact wg _ (YR _) (by exact_mod_cast this)
def O7:∀ a,a<256->((a &&& 128=0)↔a<128):=by decide +kernel
def MY (a:Nat) (h:a<256):(bits .and .u8 (a:Int) 128 != 0)=decide (128<=a):=by
 have e:=JA a 128 h (by decide);rw [show ((128:Nat):Int)=128 from rfl] at e;rw [e];have:=O7 a h;rw [YS];simp;omega
def QV (a:Nat):a &&& 1=a%2:=Nat.and_one_is_mod a
def QW (a:Nat) (h:a<256):(bits .and .u8 (a:Int) 1 != 0)=decide (a%2=1):=by
 have e:=JA a 1 h (by decide);rw [show ((1:Nat):Int)=1 from rfl] at e;rw [e,QV];rw [YS];simp;omega
def QX {a:Nat} (h:a<256) (b:128<=a):bits .xor .u8 ((a:Int)*2%256) 29=(tx a:Int):=by
 have e:((a:Int)*2%256)=((2*a-256:Nat):Int):=by omega
 rw [e,show (29:Int)=((29:Nat):Int) from rfl,nh _ _ (by omega) (by decide)];unfold tx;rw [if_neg (by omega)]
def QY {a:Nat} (b:a<128):(a:Int)*2=(tx a:Int):=by
 unfold tx;rw [if_pos b];omega
theorem ni (a:Nat) (h:a<256) (w:ZU) :
 ZR ZJ 182 #[Z7 .u8 a] w λe w'=>e=Z3 (Z7 .u8 (tx a))/\w'=w:=by
 have c:=MY a h;by_cases b:128<=a
 . rw [decide_eq_true b] at c;go_enter func182,ntmps182;go_wp2;go_ret;exact ⟨rM (QX h b),rfl⟩
 . rw [decide_eq_false b] at c;go_enter func182,ntmps182;go_wp2;go_ret;exact ⟨rM (QY (by omega)),rfl⟩
def JB (n:Nat):∀ a p,yu n a 0 p=p:=by
 induction n with
 | zero=>intro a p;rfl
 | succ n ih=>intro a p;simp only [yu];exact ih _ _
theorem mi (a b:Nat) (m:a<256) (j:b<256) (w:ZU) :
 ZR ZJ 166 #[Z7 .u8 a,Z7 .u8 b] w λe w'=>e=Z3 (Z7 .u8 (gm a b))/\w'=w:=by
 go_enter func166,ntmps166;go_wp2;go_loop [0,1,5] (λs t u=>∃ n x y z:Nat,x<256/\y<256/\z<256/\y<2^n/\Hid (yu n x y z=gm a b)/\s=Z7 .u8 x/\t=Z7 .u8 y/\u=Z7 .u8 z) (λ_ t _=>(intOf t).toNat)
 case atStart=>exact ⟨8,a,b,0,m,j,by decide,j,rfl,rfl,rfl,rfl⟩
 case round=>
  obtain ⟨n,x,y,z,c,o,h,hn,g,rfl,rfl,rfl⟩:=hrel;by_cases l:y=0
  . subst l;go_wp2;go_ret;exact ⟨rM (by rw [<- g.out,JB]),rfl⟩
  . have q:((y:Int) != 0)=ZW:=(by rw [bne_iff_ne];omega);have k:=QW y o;cases n with
    | zero=>exact absurd hn (by simp;omega)
    | succ n=>
    have i:y/2<2^n:=(by rw [Xa] at hn;omega);by_cases d:y%2=1
    . rw [decide_eq_true d] at k;have f:Hid (yu n (tx x) (y/2) (z^^^x)=gm a b):=(by have:=g.out;simp only [yu] at this;rw [if_pos d] at this;exact this);have p:=nh z x h c;go_wp2_with (go_at_call 182;refine (ni _ c _).mono ?_;rintro e w' ⟨rfl,rfl⟩);go_round
      case rel=>exact ⟨n,tx x,y/2,z^^^x,At c,by omega,uY h c,i,f,rfl,by go_num,rfl⟩
      case measure=>simp [intOf];omega
    . rw [decide_eq_false d] at k;have f:Hid (yu n (tx x) (y/2) z=gm a b):=(by have:=g.out;simp only [yu] at this;rw [if_neg d] at this;exact this);go_wp2_with (go_at_call 182;refine (ni _ c _).mono ?_;rintro e w' ⟨rfl,rfl⟩);go_round
      case rel=>exact ⟨n,tx x,y/2,z,At c,by omega,h,i,f,rfl,by go_num,rfl⟩
      case measure=>simp [intOf];omega
def JC (n p v:Nat):OD (n+1) p v=OD n (gm p p) (gm v (gm p p)):=rfl
theorem rN (a:Nat) (h:a<256) (w:ZU) :
 ZR ZJ 164 #[Z7 .u8 a] w λe w'=>e=Z3 (Z7 .u8 (gi a))/\w'=w:=by
 go_enter func164,ntmps164;go_wp2;go_loop [3,4,6] (λs t u=>∃ k p v:Nat,k<=7/\p<256/\v<256/\Hid (OD (7-k) p v=gi a)/\s=Z7 .u8 v/\t=Z7 .u8 p/\u=Z7 Z9 k) (λ_ _ u=>7-(intOf u).toNat)
 case atStart=>exact ⟨0,a,1,by decide,h,by decide,rfl,rfl,rfl,rfl⟩
 case round=>
  obtain ⟨k,p,v,j,b,d,c,rfl,rfl,rfl⟩:=hrel;by_cases i:k<7
  . have f:Hid (OD (7-(k+1)) (gm p p) (gm v (gm p p))=gi a):=by
     have:=c.out;rw [show 7-k=(7-(k+1))+1 from by omega,JC] at this;exact this
    go_wp2_with fail;refine (mi p p b b _).mono ?_;rintro e w' ⟨rfl,rfl⟩;go_wp2_with fail;refine (mi v (gm p p) d (bE _ b) _).mono ?_;rintro e w' ⟨rfl,rfl⟩;go_wp2_with fail;go_round
    case rel=>exact ⟨k+1,gm p p,gm v (gm p p),by omega,bE _ b,bE _ d,f,rfl,rfl,by go_num⟩
    case measure=>simp [intOf];omega
  . have g:k=7:=(by omega);subst g;go_wp2;go_ret;exact ⟨rM (by rw [<- c.out];rfl),rfl⟩
def Bs (w:ZU) (v:ZT) (l:a8):Prop:=
 ∃ ao c,v=.slice ao l.length c/\l.length<=c/\l.length<=140737488355328/\(∀ x∈l,x<256)/\(l≠[]->∃ b off,ao=ZX ⟨b,off,ZY⟩/\∀ k,k<l.length->w.cell? ⟨b,off+k,ZY⟩=ZX (Z7 .u8 ((l.getD k 0:Nat):Int)))
def Bs.mono (h:Bs w v l) (j:ZS w.heap.size w w'):Bs w' v l:=by
 obtain ⟨ao,c,a,d,f,g,i⟩:=h;refine ⟨ao,c,a,d,f,g,λhl=>?_⟩;obtain ⟨b,off,e,m⟩:=i hl;refine ⟨b,off,e,λk n=>?_⟩;have:=m k n;rw [j.cell (Ub this)];exact this
def Bs.So (h:aM w b l) (hn:n<=l.length) (d:n<=140737488355328) (c:∀ x∈l,x<256):Bs w (Z5 (ZX ⟨b,0,ZY⟩) n l.length) (l.take n):=by
 have hl:(l.take n).length=n:=by rw [Ui];omega
 refine ⟨ZX ⟨b,0,ZY⟩,l.length,by rw [hl],by omega,by omega,λx h=>c x (UN h),λ_=>⟨b,0,rfl,λk a=>?_⟩⟩;rw [hl] at a;have:=h.cell k (by omega);rw [Ue,this];simp [a]
def OF (w:ZU) (n:Nat) (i:ZT) (wr:ZU):Prop:=∃ k m:Nat,k<=n/\i=Z7 Z9 k/\wr=w.drewN m
theorem yH (j vb:ZT) (l:a8) (w:ZU) (t:Bs w j l) (u:Bs w vb l) :
 ZR ZJ 19 #[j,vb] w λe w'=>e=Z3 (Z2 ZW)/\∃ m,w'=w.drewN m:=by
 obtain ⟨ao,z,rfl,o,q,D,a⟩:=t;obtain ⟨y,A,rfl,p,r,_,c⟩:=u;have B:l.length<=140737488355328:=by omega
 clear o q p r;by_cases hl:l=[]
 . subst hl;clear a c;go_enter func19,ntmps19;go_wp2;refine VV 1 ?_;rw [Vg];go_wp2;go_ret;exact ⟨rfl,0,rfl⟩
 . obtain ⟨b,off,rfl,d⟩:=a hl;obtain ⟨v,h,rfl,f⟩:=c hl;clear hl a c;go_enter func19,ntmps19;go_wp2;go_loopw [5] (λi wr=>OF w l.length i wr) (λi _=>l.length-(intOf i).toNat)
   case atStart=>exact ⟨0,0,T9 _,rfl,rfl⟩
   case round=>
    obtain ⟨k,m,C,rfl,rfl⟩:=hrel;by_cases g:k<l.length
    . have c1:=d k g;have n:=f k g;have s:(((l.getD k 0:Nat):Int) != ((l.getD k 0:Nat):Int))=ZV:=(by simp);generalize l.getD k 0=x at c1 n s;clear d f;go_wp2;go_quiet (fail);go_wp2;go_roundw
      case rel=>exact ⟨k+1,_,by omega,by go_num,rfl⟩
      case measure=>simp [intOf];omega
    . go_wp2;go_ret;exact ⟨rfl,_,rfl⟩
def bL (a b:a8):aI (a++b)=aI a++aI b:=by simp [aI]
def Fo (n:Nat):∀ (s k:Nat),k<s->(be n s).take (s-k)=(be n s).take (s-(k+1))++[n/256^k%256]
 | 0,k,h=>absurd h (by omega)
 | s+1,k,h=>by
  by_cases e:k=s
  . subst e;rw [show k+1-k=1 by omega,Wx];simp [be]
  . have ih:=Fo n s k (by omega);rw [show s+1-k=(s-k)+1 by omega,show s+1-(k+1)=(s-(k+1))+1 by omega];simp only [be,XB,UL,ih]
def MZ (n k:Nat):((n:Int)/2^(8*k)%256)=((n/256^k%256:Nat):Int):=by
 have e:(2:Nat)^(8*k)=256^k:=by rw [Nat.pow_mul]
 have a:((2:Int)^(8*k))=((256^k:Nat):Int):=by rw [<- e];norm_cast
 rw [a];omega
def ly (w:ZU) (x:ZT) (t:ZL):∀ j u,[x][j]?=ZX u->(w.alloc (Z4 #[x] t)).cell? ((⟨w.heap.size,0,ZY⟩:ZQ).add j)=ZX u:=by
 intro j u h;rw [jD];match j,h with
 | 0,h=>simp at h;subst h;simp only [World.cell?,Uc w (Z4 #[x] t)];rfl
 | j+1,h=>simp at h
def aao (w:ZU) (base:Nat) (n s k0:Nat) (xs:List ZT) (v0:ZT) (b i:ZT) (wr:ZU):Prop:=
 ∃ (k:Nat) (v:ZT),k<=s/\i=Z7 Z9 ((k:Int)-1)/\b=v/\wr.ownsRow base 5 1 v (k0+(s-k)) (xs++aI ((be n s).take (s-k)))/\aa (λj=>v0.ownBlock=ZX j) w wr/\(∀ j,v.ownBlock=ZX j->v0.ownBlock=ZX j\/w.heap.size<=j)
theorem fP (base:Nat) (d:ZT) (c:Nat) (xs:List ZT) (n s:Nat) (w:ZU) (y:w.ownsRow base 5 1 d c xs) (t:base<=w.heap.size) (p:s<=8) (I:c<=1000000000) :
 ZR ZJ 151 #[d,Z7 Z8 n,Z7 Z9 s] w λe w'=>∃ v',e=Z3 v'/\w'.ownsRow base 5 1 v' (c+s) (xs++aI (be n s))/\aa (λj=>d.ownBlock=ZX j) w w'/\(∀ j,v'.ownBlock=ZX j->d.ownBlock=ZX j\/w.heap.size<=j):=by
 obtain ⟨F,A,C,D,E⟩:=Us Tryz.R6;go_enter func151,ntmps151;go_wp2;go_loopw [0,7] (λb i wr=>aao w base n s c xs d b i wr) (λ_ i _=>(intOf i+1).toNat)
 case atStart=>exact ⟨s,d,TV _,by go_num,rfl,by rw [Wx];simpa [aI] using y,aa.refl _ _,λj h=>.inl h⟩
 case round=>
  obtain ⟨k,v,J,rfl,rfl,l,a,f⟩:=hrel;cases k with
  | zero=>
   have o:((0:Nat):Int)-1=-1:=(by omega);rw [o];have r:=aE l a f;clear l a f;go_wp2;go_ret;obtain ⟨l,a,f⟩:=r.out;refine ⟨_,rfl,?_,a,f⟩;rwa [X7,UD (by rw [aF];exact TV _)] at l
  | succ k=>
   have o:((k+1:Nat):Int)-1=(k:Int):=(by omega);rw [o];have H:=TW t a.size;go_wp2_with (at_builtin;refine XC _ rfl (Z1 14) (Z1 20) 31 rfl base 5 F (Z7 .u8 0) 1 1 Uh A C D E rfl (by decide) u0 (c+(s-(k+1))) _ rfl (l.alloc _) ⟨wr.heap.size,0,ZY⟩ 1 1 _ rfl rfl (ly wr _ _) (by intro u q;simp at q;subst q;rfl) (by unfold maxLen;omega) (by omega) (by simp;omega) ?_;intro v' w' ho m G z);have B:(wr.alloc (Z4 #[Z7 .u8 ((n:Int)/2^(8*k)%256)] 5)).heap.size=wr.heap.size+1:=(by simp);have K:=a.size;have x:∀ j,v'.ownBlock=ZX j->d.ownBlock=ZX j\/w.heap.size<=j:=λj g=>by
    rcases z with e|e
    . exact f j (e▸g)
    . rw [e] at g;cases g;rw [B];exact .inr (by omega)
   refine ⟨⟨k,v',by omega,by go_num,rfl,?_,?_,x⟩,by simp [intOf]⟩
   . rw [MZ] at ho;rw [Fo n s k (by omega),bL,<- Uz,show c+(s-k)=c+(s-(k+1))+1 by omega];exact ho
   . exact (a.later (aa.alloc (S:=λ_=>False) _ _) (λ_ _ h=>h.elim)).later (T:=λj=>u0.ownBlock=ZX j) ⟨m.os,m.tape,m.output,m.size,λj g p=>m.block j g (λe=>p e.symm)⟩ (λj g h=>by
      rcases f j h with e|e
      . exact e
      . omega)
theorem O8 (n x:Nat) (c:x<256):bits .or .u64 (IntKind.u64.wrap ((n:Int)*256)) (x:Int)=(((n*256+x)%18446744073709551616:Nat):Int):=by
 have a:IntKind.u64.wrap ((n:Int)*256)=((n*256%18446744073709551616:Nat):Int):=by rw [U5];omega
 rw [a,aaX _ _ (VT _ (by decide)) (by omega)];congr 1;have b:n*256%18446744073709551616=2^8*(n%72057594037927936):=by omega
 rw [b,<- Nat.two_pow_add_eq_or_of_lt (i:=8) (by omega)];omega
def Fp (a b:Nat) (c:a<4294967296) (d:b<4294967296):bits .xor .u32 (a:Int) (b:Int)=((a^^^b:Nat):Int):=by
 have e:a%2^IntKind.u32.bits=a:=VU c;have f:b%2^IntKind.u32.bits=b:=VU d;have:a^^^b<2^32:=V8 c d;simp only [bits,YJ,YK,YL,e,f];rw [IntKind.wrap_u32];omega
theorem O9 (r:Nat) (a:r<4294967296):bits .xor .u32 IntKind.u32.max (r:Int)=((4294967295-r:Nat):Int):=by
 have e:IntKind.u32.max=((4294967295:Nat):Int):=rfl;rw [e,Fp _ _ (by decide) a];congr 1;refine W9 λi=>?_;have b:=XD (n:=32) (x:=r) a i;have c:=We 32 i;rw [aaS,show (4294967295:Nat)-r=2^32-(r+1) by omega,b,show (4294967295:Nat)=2^32-1 from rfl,c];by_cases hi:i<32
 . simp [hi]
 . have:r.testBit i=ZV:=WO (TZ a (by have:=Vq (n:=2) (by decide) (show 32<=i by omega);omega));simp [hi,this]
def OG (a b:Nat) (c:a<4294967296) (d:b<4294967296):bits .and .u32 (a:Int) (b:Int)=((a &&& b:Nat):Int):=(bits_nat .u32 32 (by decide) (λn e f=>by rw [IntKind.wrap_u32];omega) a b c d).1
def QZ (a:Nat):a &&& 15=a%16:=YT a 4
def Gt (l:a8) (k:Nat) (h:k<l.length):cU (l.take (k+1))=du (cU (l.take k)) (l.getD k 0):=by
 rw [U6,Ua h];unfold cU;rw [V9,T5,Ua h];rfl
def JD (l:a8) (k:Nat) (h:k<l.length):fG (l.take (k+1))=(fG (l.take k)*256+l.getD k 0)%18446744073709551616:=by
 rw [U6,Ua h,T5,Ua h];exact sB _ _
def Q0 (w:ZU) (l:a8) (n i _x:ZT) (wr:ZU):Prop:=∃ k:Nat,k<=l.length/\n=Z7 Z8 (fG (l.take k):Nat)/\i=Z7 Z9 k/\wr=w
theorem sE (v:ZT) (l:a8) (w:ZU) (h:Bs w v l):ZR ZJ 161 #[v] w λe w'=>e=Z3 (Z7 Z8 (fG l:Nat))/\w'=w:=by
 obtain ⟨ao,c,rfl,q,s,p,d⟩:=h;go_enter func161,ntmps161;go_wp2;go_loopw [3,8,5] (λn i x wr=>Q0 w l n i x wr) (λ_ i _ _=>l.length-(intOf i).toNat)
 case atStart=>exact ⟨0,T9 _,rfl,rfl,rfl⟩
 case round=>
  obtain ⟨k,r,rfl,rfl,rfl⟩:=hrel;by_cases a:k<l.length
  . obtain ⟨b,off,rfl,f⟩:=d (by intro e;rw [e] at a;simp at a);have c1:=f k a;have ho:Q0 wr l (Z7 Z8 (((fG (l.take k)*256+l.getD k 0)%18446744073709551616:Nat):Int)) (Z7 Z9 ((k:Int)+1)) (Z7 .u8 (l.getD k 0:Nat)) wr:=⟨k+1,by omega,by rw [JD l k a],rfl,rfl⟩;have o:l.getD k 0<256:=ez p k;have g:=O8 (fG (l.take k)) (l.getD k 0) o;rw [<- g] at ho;have j:=al ho;clear ho g d f;generalize l.getD k 0=x at *;generalize fG (l.take k)=n at *;go_wp2;exact ⟨j.out,by simp [intOf];omega⟩
  . have m:k=l.length:=(by omega);subst m;rw [VC];clear d;go_wp2;go_ret;exact ⟨rfl,rfl⟩
def bg (w:ZU):Prop:=∀ j,j<16->w.cell? ⟨2,j,ZY⟩=ZX (Z7 .u32 ((cG.getD j 0:Nat):Int))
def SmR (w:ZU) (l:a8) (n i _x:ZT) (wr:ZU):Prop:=∃ k:Nat,k<=l.length/\n=Z7 .u32 (cU (l.take k):Nat)/\i=Z7 Z9 k/\wr=w
theorem M0 (v:ZT) (l:a8) (w:ZU) (h:Bs w v l) (y:bg w):ZR ZJ 178 #[v] w λe w'=>e=Z3 (Z7 .u32 (nH l:Nat))/\w'=w:=by
 obtain ⟨ao,c,rfl,N,P,p,o⟩:=h;go_enter func178,ntmps178;go_wp2;go_loopw [3,8,5] (λn i x wr=>SmR w l n i x wr) (λ_ i _ _=>l.length-(intOf i).toNat)
 case atStart=>exact ⟨0,T9 _,rfl,rfl,rfl⟩
 case round=>
  obtain ⟨k,O,rfl,rfl,rfl⟩:=hrel;by_cases g:k<l.length
  . obtain ⟨b,off,rfl,q⟩:=o (by intro e;rw [e] at g;simp at g);have c1:=q k g;have ho:SmR wr l (Z7 .u32 ((du (cU (l.take k)) (l.getD k 0):Nat):Int)) (Z7 Z9 ((k:Int)+1)) (Z7 .u8 (l.getD k 0:Nat)) wr:=⟨k+1,by omega,by rw [Gt l k g],rfl,rfl⟩;have M:l.getD k 0<256:=ez p k;have j:cU (l.take k)<4294967296:=nf (λx h=>p x (UN h));unfold du at ho;clear o q;generalize l.getD k 0=x at *;generalize cU (l.take k)=r at *;have z:(x:Int)%4294967296=(x:Int):=(by omega);have T:=Fp r x j (by omega);have m:r^^^x<4294967296:=V8 (n:=32) j (by omega);generalize r^^^x=a at *;have U:bits .and .u32 (a:Int) 15=((a%16:Nat):Int):=(by have:=OG a 15 m (by decide);rw [QZ] at this;exact this);have V:(a:Int)/16=((a/16:Nat):Int):=(by omega);have F:=y (a%16) (VT _ (by decide));have s:=px (a%16);have I:=Fp (a/16) (cG.getD (a%16) 0) (by omega) s;have u:dg a<4294967296:=gv m;have f:a/16^^^cG.getD (a%16) 0=dg a:=rfl;rw [f] at I;have Q:a%16<16:=VT _ (by decide);clear f;generalize dg a=d at *;generalize cG.getD (a%16) 0=K at *;generalize a%16=B at *;generalize a/16=b1 at *;have W:bits .and .u32 (d:Int) 15=((d%16:Nat):Int):=(by have:=OG d 15 u (by decide);rw [QZ] at this;exact this);have X:(d:Int)/16=((d/16:Nat):Int):=(by omega);have G:=y (d%16) (VT _ (by decide));have t:=px (d%16);have J:=Fp (d/16) (cG.getD (d%16) 0) (by omega) t;have f:d/16^^^cG.getD (d%16) 0=dg d:=rfl;rw [f] at J;have R:d%16<16:=VT _ (by decide);clear f;generalize dg d=S at *;generalize cG.getD (d%16) 0=L at *;generalize d%16=D at *;generalize d/16=b2 at *;have A:=al ho;have C:(B:Int)<16:=(by omega);have E:(D:Int)<16:=(by omega);clear ho m u s t;go_wp2;exact ⟨A.out,by simp [intOf];omega⟩
  . have H:k=l.length:=(by omega);subst H;rw [VC];have j:cU l<4294967296:=nf p;clear o;have z:=O9 (cU l) j;rw [show 4294967295-cU l=nH l from rfl] at z;generalize cU l=r at *;go_wp2;go_ret;exact ⟨rfl,rfl⟩
def eW (h:w.grownBy w' (ZX b)) (i:Nat) (v:ZT):w.grownBy (w'.setCell ⟨b,i,ZY⟩ v) (ZX b):=
 ⟨h.os,h.tape,h.output,by rw [nblk_setCell];exact h.size,λk c a=>by
  rw [Ud _ _ _ _ (by intro e;exact a (by rw [e]))];exact h.block k c a⟩
def Dk {r:Option Nat} (h:w.grownBy w' r) (n:Nat):w.grownBy (w'.drewN n) r:=
 ⟨h.os,h.tape,h.output,h.size,h.block⟩
def gx {r:Option Nat} (h:w.grownBy w' r) (k:w'.grownBy w'' r):w.grownBy w'' r:=
 ⟨k.os.trans h.os,k.tape.trans h.tape,k.output.trans h.output,TW h.size k.size,λj b a=>(k.block j (TZ b h.size) a).trans (h.block j b a)⟩
def iZ (h:ZS B w0 w) (c:w.grownBy w' (ZX b)) (a:B<=w.heap.size) (e:B<=b):ZS B w0 w':=
 h.grown c a (λk d=>by simp at d;omega)
def Dm (h:w.ownsRow base 31 1 v n xs) (c:w.grownBy w' (ZX b)) (a:v.ownBlock≠ZX b):w'.ownsRow base 31 1 v n xs:=
 h.kept c (.inr a)
theorem iV.wrote (h:iV w base v L) {i:Nat} (hi:i<L.length) {l':a8} (d:w.grownBy w' (ZX L[i].1)) (s:aM w' L[i].1 l') (o:l'.length=L[i].2.2.length) (t:∀ x∈l',x<256) :
 iV w' base v (L.set i (L[i].1,L[i].2.1,l')):=by
 have r:=T4 hi;obtain ⟨f,g,u,y,z⟩:=h.row _ r;have n:(L.set i (L[i].1,L[i].2.1,l')).map jX=L.map jX:=by
  apply Vh
  . simp
  . intro j l m;simp [YH];by_cases e:i=j
    . subst e;simp [jX,o]
    . simp [e]
 have k:(L.set i (L[i].1,L[i].2.1,l')).map (λp=>p.1)=L.map (λp=>p.1):=by
  apply Vh
  . simp
  . intro j l m;simp [YH];by_cases e:i=j
    . subst e;simp
    . simp [e]
 refine ⟨?_,λp b=>?_,by rw [k];exact h.nodup⟩
 . rw [n,Wm];exact Dm h.own d (yG h.own g)
 . obtain ⟨j,a,rfl⟩:=aaY.1 b;rw [Wm] at a;rw [YH];by_cases e:i=j
   . rw [if_pos e];exact ⟨f,s,by show L[i].2.1<=l'.length;omega,⟨by show L[i].2.1<=140737488355328;omega,by show l'.length<=9223372036854775807;omega⟩,t⟩
   . rw [if_neg e];obtain ⟨b1,b2,b3⟩:=h.row _ (T4 a);refine ⟨b1,b2.grown d ?_,b3⟩;intro q;simp at q;have b:=Wf.1 h.nodup;rcases Nat.lt_or_gt_of_ne e with c|c
     . exact b i j (by simpa using hi) (by simpa using a) c (by simp [q])
     . exact b j i (by simpa using a) (by simpa using hi) c (by simp [q])
def iV.SR (h:iV w base v L) {i:Nat} (hi:i<L.length):Bs w (jX L[i]) (L[i].2.2.take L[i].2.1):=by
 obtain ⟨e,a,b,c,d⟩:=h.row _ (T4 hi);exact Bs.So a b c.1 d
def M1 (w:ZU) (n:Nat) (hn:n=w.heap.size) (x:ZT) (t:ZL):∀ j u,[x][j]?=ZX u->(w.alloc (Z4 #[x] t)).cell? ((⟨n,0,ZY⟩:ZQ).add j)=ZX u:=by
 subst hn;exact X8 _ _ _
def jY {o:Obj} (h:iV w B v T) (b:ZS B w0 w) (a:ZS w.heap.size w w1) (d:B<=w.heap.size) (e:(w1.alloc o).grownBy w2 v.ownBlock):ZS B w0 w2:=by
 have c:=b.trans (a.mono d);have:=a.size;refine (c.alloc (by omega) o).grown e (by rw [Ug];omega) ?_;intro k f;exact (h.own.lt k f).1
def xr (c:Nat) (l:a8):a8:=l.map (λx=>x^^^c)
def rj (c k:Nat) (l:a8):a8:=(YD l.length).map λj=>if j<k then l.getD j 0^^^c else l.getD j 0
theorem Gu (c:Nat) (l:a8):rj c 0 l=l:=by
 unfold rj;apply Vh
 . simp
 . intro j b a;simp [a]
theorem JE (c:Nat) (l:a8):rj c l.length l=xr c l:=by
 unfold rj xr;apply Vh
 . simp
 . intro j a b;simp at a;simp [a]
def JF (c k:Nat) (l:a8):(rj c k l).length=l.length:=by simp [rj]
def JG (c k:Nat) (l:a8) (a:k<l.length):(rj c k l).getD k 0=l.getD k 0:=by simp [rj,a]
theorem Gv (c k:Nat) (l:a8):(rj c k l).set k (l.getD k 0^^^c)=rj c (k+1) l:=by
 unfold rj;apply Vh
 . simp
 . intro j b d;simp [YH];by_cases e:k=j
   . subst e;simp
   . simp only [if_neg e];by_cases a:j<k
     . rw [if_pos a,if_pos (by omega)]
     . rw [if_neg a,if_neg (by omega)]
def SA2 (wo:ZU) (b c:Nat) (l:a8) (i:ZT) (wr:ZU):Prop:=
 ∃ k:Nat,k<=l.length/\i=Z7 Z9 k/\wo.grownBy wr (ZX b)/\aM wr b (rj c k l)
def Rd (w:ZU) (v:ZT) (D:List a8):Prop:=
 ∃ ao c,v=.slice ao D.length c/\D.length<=5864062014805/\(D≠[]->∃ b off,ao=ZX ⟨b,off,ZY⟩/\∀ i (hi:i<D.length),∃ u,w.cell? ⟨b,off+i,ZY⟩=ZX u/\Bs w u D[i])
def Bs.lt (h:Bs w v l):∀ x∈l,x<256:=by
 obtain ⟨_,_,_,_,_,a,_⟩:=h;exact a
def Rd.mono (h:Rd w v D) (a:ZS w.heap.size w w'):Rd w' v D:=by
 obtain ⟨ao,c,f,g,j⟩:=h;refine ⟨ao,c,f,g,λl=>?_⟩;obtain ⟨b,off,e,m⟩:=j l;refine ⟨b,off,e,λi hi=>?_⟩;obtain ⟨u,d,k⟩:=m i hi;exact ⟨u,by rw [a.cell (Ub d)];exact d,k.mono a⟩
def Rd.cases (h:Rd w v D):(D=[]/\∃ ao c,v=.slice ao 0 c)\/∃ b off c,v=Z5 (ZX ⟨b,off,ZY⟩) D.length c/\D.length<=5864062014805/\∀ i (hi:i<D.length),∃ u,w.cell? ⟨b,off+i,ZY⟩=ZX u/\Bs w u D[i]:=by
 obtain ⟨ao,c,a,e,f⟩:=h;by_cases d:D=[]
 . subst d;exact .inl ⟨rfl,ao,c,a⟩
 . obtain ⟨b,off,rfl,g⟩:=f d;exact .inr ⟨b,off,c,a,e,g⟩
theorem aM.heap (h:aM w b l):w.heap[b]?=ZX (Z4 (l.map (λx=>Value.int .u8 ((x:Nat):Int))).toArray 5 (0,0)):=by
 obtain ⟨c,d,f,e⟩:=h;have:c=(l.map (λx=>Value.int .u8 ((x:Nat):Int))).toArray:=by
  apply YM
  . simp [f]
  . intro i a g;have:=e i (by omega);rw [VD a] at this;simp [vb] at this;have hi:i<l.length:=(by omega);simp [this,hi]
 rw [<- this];exact d
def aM.of_heap (h:w.heap[b]?=ZX (Z4 (l.map (λx=>Value.int .u8 ((x:Nat):Int))).toArray 5 (0,0))):aM w b l:=
 ⟨_,h,by simp,λi hi=>by simp [vb,hi]⟩
def Gw {a:ZM} {Q:ZO->ZM->ZU->Prop} (r:o.guard=ZY) (d s:ZK)
 (ho:o.op=.call { callee:=.builtin .copy,args:=#[d,s],argTypes:=#[31,31] }) (g n cap:Nat) (v:ZT) (hd:a.eval d=Z5 (ZX ⟨g,0,ZY⟩) n cap) (hs:a.eval s=v)
 (old src:a8) (hB:aM w g old) (hS:Bs w v src) (h9:src.length<=n) (hn:n<=old.length) (B:Nat) (w0:ZU) (hb:ZS B w0 w) (h5:B<=g)
 (h:∀ w',aM w' g (src++old.drop src.length)->ZS B w0 w'->wpList ZJ ops Q rest (a.put o.dst (goInt src.length)) w'):wpList ZJ ops Q (o::rest) a w:=by
 obtain ⟨ao,c,rfl,A,C,D,m⟩:=hS;refine aaZ r d s 31 31 ho 5 Uh (by kernel_rfl) (ZX ⟨g,0,ZY⟩) ao n cap src.length c hd hs g 0 _ 5 hB.heap (src.map (λx=>Value.int .u8 ((x:Nat):Int))) ?_ ?_ ?_ ?_ B w0 hb h5 ?_
 . rw [T7];show src.length=min src.length n;omega
 . intro k;rw [T7] at k;obtain ⟨b,off,rfl,y⟩:=m (by intro e;rw [e] at k;simp at k);refine ⟨rfl,_,rfl,λj u i=>?_⟩;have f:j<src.length:=by
    have:=U1.1 i;obtain ⟨q,_⟩:=this;simpa using q
   rw [U9,y j f];simp [f] at i;simp [f,i]
 . simp;omega
 . intro u z;obtain ⟨x,_,rfl⟩:=T6.1 z;rfl
 . intro w' t p;have e:(splice (old.map (λx=>Value.int .u8 ((x:Nat):Int))) 0 (src.map (λx=>Value.int .u8 ((x:Nat):Int))))=(src++old.drop src.length).map (λx=>Value.int .u8 ((x:Nat):Int)):=by
    simp [splice]
   have l:=t.out;rw [e] at l;rw [T7];exact h w' (aM.of_heap l) p
def Do (l:a8):l++(YE (l.length+2) 0).drop l.length=l++[0,0]:=by
 rw [X9,WC];rfl
def JH (l:a8):((l++[0,0]).set l.length 71).set (l.length+1) 72=l++[71,72]:=by
 rw [YN _ _ lR,YN _ _ (by omega)];simp
theorem Gx (v:ZT) (l:a8) (w:ZU) (h:Bs w v l) (hl:l.length<=1000000) :
 ZR ZJ 36 #[v] w λe w'=>∃ b,e=Z3 (Z5 (ZX ⟨b,0,ZY⟩) l.length (l.length+2))/\w.heap.size<=b/\aM w' b (l++[71,72])/\ZS w.heap.size w w':=by
 have n:=h;obtain ⟨ao,c,rfl,f,g,i,j⟩:=h;clear f g i j;go_enter func36,ntmps36;go_wp2_with (first
  | (at_make;refine eA _ rfl (Z1 8) (Z1 8) rfl _ (l.length+2) rfl rfl (by omega) (by omega) ?_;intro w1 m d o;clear o)
  | (refine Gw rfl (Z1 10) (Z1 11) rfl w.heap.size (l.length+2) (l.length+2) _ rfl rfl _ l m (n.mono d) (by omega) (by simp) w.heap.size w d lR ?_;intro w2 a k;rw [Do] at a;have c1:=a.cell l.length (by simp);have p:=a.cell (l.length+1) (by simp);have q:=a.frozen l.length;have r:=a.frozen (l.length+1)))
 go_ret;refine ⟨w.heap.size,rfl,TV _,?_,?_⟩
 . have:=(a.set l.length 71).set (l.length+1) 72;rw [JH] at this;exact this
 . exact (k.setCell (by simp) _).setCell (by simp) _
theorem Gy (b:Nat) (vb:ZT) (l:a8) (w:ZU) (g:aM w b (l++[71,72])) (o:Bs w vb l) (hl:l.length<=1000000) :
 ZR ZJ 37 #[Z5 (ZX ⟨b,0,ZY⟩) l.length (l.length+2),vb] w λe w'=>e=Z3 (Z2 ZW)/\w.grownBy w' (ZX b)/\aM w' b (xr 85 (l++[71,72])):=by
 have z:=o.lt;have i:(l++[71,72]).length=l.length+2:=by simp
 have t:Bs w (Z5 (ZX ⟨b,0,ZY⟩) l.length (l.length+2)) l:=by
  have:=Bs.So (n:=l.length) g (by simp) (by omega) (by intro x d;rcases Uf.1 d with q|q;exact z x q;simp at q;omega);rw [i,List.take_left'] at this;exact this;rfl
 have c1:=g.cell l.length (by simp);have p:=g.cell (l.length+1) (by simp);have r:(l++[71,72]).getD l.length 0=71:=by simp
 have s:(l++[71,72]).getD (l.length+1) 0=72:=by simp
 rw [r] at c1;rw [s] at p;have u:=o;have d:∀ x∈l++[71,72],x<256:=by intro x d;rcases Uf.1 d with q|q;exact z x q;simp at q;omega
 obtain ⟨ao,c,rfl,A,B,C,D⟩:=o;clear A B C D r s;generalize hL:l++[71,72]=L at *;go_enter func37,ntmps37;go_wp2_with fail;refine (yH _ _ l _ t u).mono ?_;rintro e w1 ⟨rfl,m,rfl⟩;clear t u hL;have h:=al i;clear i;go_wp2;clear c1 p;go_loopw [8] (λj wr=>SA2 w b 85 L j wr) (λj _=>L.length-(intOf j).toNat)
 case atStart=>exact ⟨0,T9 _,rfl,Dk (Wn _ _) _,by rw [Gu];exact g⟩
 case round=>
  obtain ⟨j,H,rfl,k,a⟩:=hrel;have J:j<=l.length+2:=by rw [<- h.out];exact H
  by_cases F:j<l.length+2
  . have v:j<L.length:=(by rw [h.out];exact F);have d1:=a.cell j (by rw [JF];exact v);have I:=a.frozen j;rw [JG 85 j L v] at d1;have G:=ez d j;have f:=a.set j (L.getD j 0^^^85);rw [Gv] at f;have E:=eW k j (Z7 .u8 ((L.getD j 0^^^85:Nat):Int));have hi:bits .xor .u8 ((L.getD j 0:Nat):Int) 85=((L.getD j 0^^^85:Nat):Int):=nh (L.getD j 0) 85 G (by decide);generalize L.getD j 0=x at *;clear a k;go_wp2;go_roundw
    case rel=>exact ⟨j+1,by omega,by go_num,E,f⟩
    case measure=>simp [intOf];omega
  . have y:j=L.length:=(by rw [h.out];omega);have f:aM wr b (xr 85 L):=(by rw [y,JE] at a;exact a);clear a y;go_wp2;go_ret;exact ⟨rfl,k,f⟩
def iV.SE (h:iV w base (Z5 (ZX ⟨g,0,ZY⟩) n cap) L) {i:Nat} (hi:i<L.length):w.cell? ⟨g,i,ZY⟩=ZX (jX L[i]):=by
 have:=h.own.cells (g:=g) rfl i (jX L[i]) (by simp [hi]);rw [jD] at this;exact this
def iV.slice (h:iV w base v L):∃ ao cap,v=.slice ao L.length cap/\(L≠[]->∃ g,ao=ZX ⟨g,0,ZY⟩):=by
 rcases h.shape with ⟨rfl,rfl⟩|⟨g,cap,rfl,_⟩
 . exact ⟨ZY,0,rfl,λh=>absurd rfl h⟩
 . exact ⟨_,cap,rfl,λ_=>⟨g,rfl⟩⟩
def yI (a:ZM) (i:Nat) (v:ZT) (h:i<a.tmps.size):(a.put (ZX i) v).eval (.tmp i)=v:=by simp [Act.put,Act.eval,h]
def jE (a:ZM) (i j:Nat) (v:ZT) (h:i≠j):(a.put (ZX i) v).eval (.tmp j)=a.eval (.tmp j):=by
 simp [Act.put,Act.eval,Vj,h]
def nR (a:ZM) (d:Option Nat) (v:ZT):(a.put d v).tmps.size=a.tmps.size:=by
 cases d<;>simp [Act.put]
structure dD (lo hi:Nat) (a a':ZM):Prop where
 size:a'.tmps.size=a.tmps.size
 defers:a'.defers=a.defers
 slot:∀ s,s<lo\/hi<=s->a'.eval (.tmp s)=a.eval (.tmp s)
def dD.refl (lo hi:Nat) (a:ZM):dD lo hi a a:=⟨rfl,rfl,λ_ _=>rfl⟩
def dD.put {a a':ZM} (h:dD lo hi a a') {d:Option Nat} (v:ZT) (b:∀ i,d=ZX i->lo<=i/\i<hi):dD lo hi a (a'.put d v):=by
 cases d with
 | none=>exact h
 | some d=>
  obtain ⟨e,f⟩:=b d rfl;exact ⟨by rw [nR];exact h.size,h.defers,λs c=>by rw [jE _ _ _ _ (by omega)];exact h.slot s c⟩
def Act.RR (a:ZM):Nat->List ZT->ZM
 | _,[]=>a
 | d,v::r=>Act.RR (a.put (ZX d) v) (d+1) r
def ft:∀ (b:List ZT) (a:ZM) (d:Nat),(Act.RR a d b).tmps.size=a.tmps.size/\(Act.RR a d b).defers=a.defers
 | [],_,_=>⟨rfl,rfl⟩
 | v::r,a,d=>by
  obtain ⟨c,e⟩:=ft r (a.put (ZX d) v) (d+1);exact ⟨c.trans (nR _ _ _),e⟩
def fu:∀ (b:List ZT) (a:ZM) (d s:Nat),d+b.length<=a.tmps.size->(Act.RR a d b).eval (.tmp s)=if d<=s/\s<d+b.length then b.getD (s-d) ZZ else a.eval (.tmp s)
 | [],a,d,s,_=>by
  show a.eval (.tmp s)=if d<=s/\s<d+0 then _ else _;rw [if_neg (by omega)]
 | v::r,a,d,s,h=>by
  simp only [Uv] at h ⊢;show (Act.RR (a.put (ZX d) v) (d+1) r).eval (.tmp s)=_;rw [fu r _ _ _ (by rw [nR];omega)];by_cases e:s=d
  . subst e;rw [if_neg (by omega),if_pos (by omega),Wx,yI _ _ _ (by omega)];rfl
  . rw [jE _ _ _ _ (λq=>e q.symm)];by_cases c:d+1<=s/\s<d+1+r.length
    . rw [if_pos c,if_pos (by omega),show s-d=(s-(d+1))+1 by omega];rfl
    . rw [if_neg c,if_neg (by omega)]
theorem yJ {a b:ZM} (c:a.tmps.size=b.tmps.size) (d:a.defers=b.defers) (f:∀ s,s<a.tmps.size->a.eval (.tmp s)=b.eval (.tmp s)):a=b:=by
 obtain ⟨k,h⟩:=a;obtain ⟨l,j⟩:=b;simp only at c d;subst d;congr 1;refine YM c λi e g=>?_;have:=f i e;simpa [Act.eval,e,g] using this
def dD.out {a a':ZM} (h:dD lo hi a a') (b:List ZT) (hl:lo+b.length=hi) (g:hi<=a.tmps.size) (c:∀ i,i<b.length->a'.eval (.tmp (lo+i))=b.getD i ZZ):a'=Act.RR a lo b:=by
 obtain ⟨d,f⟩:=ft b a lo;refine yJ (h.size.trans d.symm) (h.defers.trans f.symm) λs _=>?_;rw [fu b a lo s (by omega)];by_cases e:lo<=s/\s<lo+b.length
 . rw [if_pos e];have:=c (s-lo) (by omega);rwa [show lo+(s-lo)=s by omega] at this
 . rw [if_neg e];exact h.slot s (by omega)
def sF (ops:Array ZN) (i:Nat):a8:=match ops[i]? with
 | some o=>(o.after.toList.filter (λe=>Region.binds .any e)).map (λe=>e.on)
 | none=>[]
theorem mj:i∈Region.ready .any ops listed↔i<ops.size/\listed.getD i ZW=ZV/\∀ k∈sF ops i,listed.getD k ZV=ZW:=by
 unfold Region.ready sF;rw [Vz,Uy,YI];constructor
 . rintro ⟨b,c,a⟩;refine ⟨b,by simpa using c,λk f=>?_⟩;rw [VD b] at a f;simp only [WD,YU] at a;rw [T6] at f;obtain ⟨e,d,rfl⟩:=f;obtain ⟨h,j⟩:=Vz.1 d;have:=YV.1 a e (by simpa using h);simpa [j] using this
 . rintro ⟨b,c,a⟩;refine ⟨b,by simpa using c,?_⟩;rw [VD b] at a ⊢;simp only [WD,YU];rw [YV];intro e d;by_cases g:Region.binds .any e=ZW
   . have:=a e.on (T6.2 ⟨e,Vz.2 ⟨by simpa using d,g⟩,rfl⟩);simp [this]
   . simp [g]
def jZ (listed:Array Bool):Nat:=(listed.toList.filter (λb=>!b)).length
theorem Dp (h:listed.getD i ZW=ZV):jZ (listed.setIfInBounds i ZW)+1=jZ listed:=by
 have hi:i<listed.size:=by
  by_cases c:i<listed.size
  . exact c
  . simp [Vj,c] at h
 unfold jZ;rw [aa0];have a:listed.toList[i]?=ZX ZV:=by
  simp [Vj,hi] at h;simp [hi,h]
 generalize listed.toList=l at a;clear h hi;induction l generalizing i with
 | nil=>simp at a
 | cons b l ih=>
  cases i with
  | zero=>
   simp at a;subst a;simp
  | succ i=>
   simp at a;have:=ih a;cases b<;>simp [UR]<;>omega
def lz (h:jZ listed=0) (i:Nat) (hi:i<listed.size):listed.getD i ZV=ZW:=by
 unfold jZ at h;have a:=WQ.1 h;rw [aaU] at a;have:=a listed[i] (by simp);simpa [Vj,hi] using this
def Ap (a:α) (l:List α) (d:α):(a::l).getD 0 d=a:=rfl
def Aq (a:α) (l:List α) (n:Nat) (d:α):(a::l).getD (n+1) d=l.getD n d:=rfl
def dM (d:Option Nat) (a:ZM):ZT:=match d with
 | some d=>a.eval (.tmp d)
 | none=>ZZ
structure aL (ops:Array ZN) (lo hi:Nat) (sh:List (Op×Option Nat×a8)):Prop where
 at_:(YD ops.size).map (λi=>((ops[i]?.map λo=>(o.op,o.dst,o.guard)),sF ops i))=sh.map (λx=>(ZX (x.1,x.2.1,ZY),x.2.2))
 early:∀ i,i<sh.length->∀ k∈(sh.getD i (.move (.const ZZ),ZY,[])).2.2,k<i
 slots:∀ i j d,i<sh.length->j<sh.length->(sh.getD i (.move (.const ZZ),ZY,[])).2.1=ZX d->(lo<=d/\d<hi)/\((sh.getD j (.move (.const ZZ),ZY,[])).2.1=ZX d->i=j)
def Q2 (lo hi:Nat) (sh:List (Op×Option Nat×a8)):Bool:=(YD sh.length).all λi=>(sh.getD i (.move (.const ZZ),ZY,[])).2.2.all (λk=>decide (k<i))&&match (sh.getD i (.move (.const ZZ),ZY,[])).2.1 with
 | none=>ZW
 | some d=>decide (lo<=d)&&decide (d<hi)&&(YD sh.length).all λj=>(sh.getD j (.move (.const ZZ),ZY,[])).2.1 != ZX d || i==j
def bw (c:(YD ops.size).map (λi=>((ops[i]?.map λo=>(o.op,o.dst,o.guard)),sF ops i))=sh.map (λx=>(ZX (x.1,x.2.1,ZY),x.2.2))) (a:Q2 lo hi sh=ZW):aL ops lo hi sh:=by
 unfold Q2 at a;rw [Xe] at a;refine ⟨c,λi b k h=>?_,λi j d b g f=>?_⟩
 . have:=a i (Uy.2 b);rw [YI,Xe] at this;exact of_decide_eq_true (this.1 k h)
 . have:=(YI.1 (a i (Uy.2 b))).2;rw [f] at this;simp only [YI,decide_eq_true_eq,Xe] at this;refine ⟨this.1,λe=>?_⟩;have q:=this.2 j (Uy.2 g);rw [e] at q;simpa using q
theorem aL.size (h:aL ops lo hi sh):ops.size=sh.length:=by
 have:=congrArg YO h.at_;simpa using this
theorem aL.get (h:aL ops lo hi sh) (i:Nat) (hi:i<sh.length) :
 ∃ o,ops[i]?=ZX o/\o.op=(sh.getD i (.move (.const ZZ),ZY,[])).1/\o.dst=(sh.getD i (.move (.const ZZ),ZY,[])).2.1/\o.guard=ZY/\sF ops i=(sh.getD i (.move (.const ZZ),ZY,[])).2.2:=by
 have j:=h.size;have:=congrArg (λl=>l[i]?) h.at_;have a:i<ops.size:=by omega
 simp only [Un,Vw a,WD,Ua hi,UO,WR,Wc] at this;obtain ⟨⟨o,b,c,d,f⟩,g⟩:=this;have e:sh.getD i (.move (.const ZZ),ZY,[])=sh[i]:=by simp [hi]
 rw [e];exact ⟨o,b,c,d,f,g⟩
def fI (D:Nat->Bool) (i:Nat):Nat->Bool:=λj=>if j=i then ZW else D j
def bZ {D:Nat->Bool} (h:j≠i):fI D i j=D j:=if_neg h
abbrev bB (sh:List (Op×Option Nat×a8)) (i:Nat):Op×Option Nat×a8:=sh.getD i (.move (.const ZZ),ZY,[])
def Fq (O:ZN->ZM->ZU->(ZM->ZU->Prop)->Prop) (lo hi:Nat) (sh:List (Op×Option Nat×a8)) (a0:ZM) (V:Nat->ZT->ZU->Prop) (B:(Nat->Bool)->ZU->Prop) (i:Nat):Prop:=
 ∀ (o:ZN) (a:ZM) (w:ZU) (D:Nat->Bool),o.guard=ZY->o.op=(bB sh i).1->o.dst=(bB sh i).2.1->dD lo hi a0 a->(∀ s,(∀ i,i<sh.length->(bB sh i).2.1≠ZX s)->a.eval (.tmp s)=a0.eval (.tmp s))->D i=ZV->(∀ j,D j=ZW->j<sh.length/\∀ k∈(bB sh j).2.2,D k=ZW) ->
  (∀ k∈(bB sh i).2.2,D k=ZW)->B D w->(∀ j,D j=ZW->V j (dM (bB sh j).2.1 a) w) ->
  O o a w λa' w'=>∃ v,a'=a.put o.dst v/\(o.dst=ZY->v=ZZ)/\B (fI D i) w'/\V i v w'/\∀ j u,D j=ZW->V j u w->V j u w'
theorem Gz {Q:ZM->ZU->Prop} (O:ZN->ZM->ZU->(ZM->ZU->Prop)->Prop) (W:Nat->Array Bool->ZM->ZU->Prop) (Y:∀ l a w,Region.ready .any ops l=[]->Q a w->W 0 l a w)
 (hS:∀ f l a w,Region.ready .any ops l≠[]->(∀ i∈Region.ready .any ops l,∃ o,ops[i]?=ZX o/\o.guard=ZY/\O o a w (W f (l.setIfInBounds i ZW)))->W (f+1) l a w) (hO:∀ o a w (K L:ZM->ZU->Prop),(∀ a w,K a w->L a w)->O o a w K->O o a w L)
 (x:aL ops lo hi sh) (p:ZM) (k0:hi<=p.tmps.size) (V:Nat->ZT->ZU->Prop) (B:(Nat->Bool)->ZU->Prop) (hf:∀ i,i<sh.length->Fq O lo hi sh p V B i)
 (hp:∀ (a:ZM) (w:ZU),dD lo hi p a->(∀ s,(∀ i,i<sh.length->(bB sh i).2.1≠ZX s)->a.eval (.tmp s)=p.eval (.tmp s))->(∃ D,(∀ i,i<sh.length->D i=ZW)/\B D w)->(∀ i,i<sh.length->V i (dM (bB sh i).2.1 a) w)->Q a w) :
 ∀ (f:Nat) (listed:Array Bool) (a:ZM) (w:ZU),listed.size=sh.length->jZ listed=f->dD lo hi p a->(∀ s,(∀ i,i<sh.length->(bB sh i).2.1≠ZX s)->a.eval (.tmp s)=p.eval (.tmp s))->(∀ j,listed.getD j ZV=ZW->j<sh.length/\∀ k∈(bB sh j).2.2,listed.getD k ZV=ZW)->B (λj=>listed.getD j ZV) w ->
  (∀ i,listed.getD i ZV=ZW->V i (dM (bB sh i).2.1 a) w)->W f listed a w:=by
 have k7:=x.size;have h7:∀ listed:Array Bool,listed.size=sh.length->jZ listed≠0->Region.ready .any ops listed≠[]:=by
  intro listed hl y hr;have hh:∀ i,i<sh.length->listed.getD i ZV=ZW:=by
   intro i;induction i using Nat.strongRecOn with
   | ind i ih=>
    intro c;by_cases g:listed.getD i ZV=ZW
    . exact g
    . exfalso;have z:i∈Region.ready .any ops listed:=mj.2 ⟨by omega,by simpa [Vj,show i<listed.size by omega] using g,λk n=>by
       obtain ⟨o,_,_,_,_,e⟩:=x.get i c;rw [e] at n;have:=x.early i c k n;exact ih k this (by omega)⟩
      rw [hr] at z;cases z
  apply y;unfold jZ;rw [WQ,aaU];intro b hb;obtain ⟨i,c,rfl⟩:=U0 hb;have k5:i<listed.size:=by simpa using c
  have:=hh i (by omega);simp [Vj,k5] at this;simp [this]
 intro f;induction f with
 | zero=>
  intro listed a w hl y n F H J G;refine Y _ _ _ ?_ (hp a w n F ⟨_,λi c=>lz y i (by omega),J⟩ λi c=>G i (lz y i (by omega)));rw [abi];intro i z;obtain ⟨Z,r,_⟩:=mj.1 z;have:=lz y i (by omega);simp [Vj,show i<listed.size by omega] at this r;rw [this] at r;cases r
 | succ f ih=>
  intro listed a w hl y n F H J G;refine hS _ _ _ _ (h7 listed hl (by omega)) λi z=>?_;obtain ⟨Z,r,P⟩:=mj.1 z;have c:i<sh.length:=by omega
  have S:i<listed.size:=by omega
  obtain ⟨o,U,X,A,M,N⟩:=x.get i c;have hx:listed.getD i ZV=ZV:=by simpa [Vj,S] using r
  have E:∀ j,(listed.setIfInBounds i ZW).getD j ZV=fI (λj=>listed.getD j ZV) i j:=by
   intro j;unfold fI;by_cases m:j=i
   . subst m;rw [if_pos rfl];simp [Vj,S]
   . rw [if_neg m,Vj,X6,if_neg (λq:i=j=>m q.symm),<- Vj]
  refine ⟨o,U,M,hO _ _ _ _ _ (λa' w' h=>?_) (hf i c o a w (λj=>listed.getD j ZV) M X A n F hx H (λk t=>?_) J G)⟩
  . obtain ⟨v,rfl,hu,hv,hy,k6⟩:=h;have R:∀ d,o.dst=ZX d->lo<=d/\d<hi:=λd g=>by rw [A] at g;exact (x.slots i i d c c g).1
    refine ih _ _ _ (by simpa using hl) (by have:=Dp r;omega) (n.put v R) (λs T=>?_) (λj I=>?_) ?_ λj u=>?_
    . refine Xf ?_ (F s T);cases g:o.dst with
      | none=>rfl
      | some d=>exact jE _ _ _ _ (λe=>T i c (by rw [show (bB sh i).2.1=o.dst from A.symm,g,e]))
    . rw [E] at I;unfold fI at I;by_cases m:j=i
      . subst m;refine ⟨c,λk t=>?_⟩;rw [E];unfold fI;by_cases C:k=j
        . rw [if_pos C]
        . rw [if_neg C];rw [<- N] at t;exact P k t
      . rw [if_neg m] at I;obtain ⟨q1,q2⟩:=H j I;refine ⟨q1,λk t=>?_⟩;rw [E];unfold fI;by_cases C:k=i
        . rw [if_pos C]
        . rw [if_neg C];exact q2 k t
    . have e:(λj=>(listed.setIfInBounds i ZW).getD j ZV)=fI (λj=>listed.getD j ZV) i:=funext E;rw [e];exact hv
    . rw [E] at u;unfold fI at u;by_cases m:j=i
      . subst m;have:dM (bB sh j).2.1 (a.put o.dst v)=v:=by
         show dM (sh.getD j (.move (.const ZZ),ZY,[])).2.1 (a.put o.dst v)=v;rw [<- A];cases g:o.dst with
         | none=>exact (hu g).symm
         | some d=>exact yI _ _ _ (TZ (R d g).2 (by rw [n.size];exact k0))
        rw [this];exact hy
      . rw [if_neg m] at u;have:dM (bB sh j).2.1 (a.put o.dst v)=dM (bB sh j).2.1 a:=by
         cases hz:(bB sh j).2.1 with
         | none=>rfl
         | some d'=>
          cases g:o.dst with
          | none=>rfl
          | some d=>
           refine jE _ _ _ _ λq=>m ?_;subst q;rw [A] at g;exact (x.slots j i d (H j u).1 c hz).2 g
        rw [this];exact k6 j _ u (G j u)
  . exact P k (by rw [N];exact t)
theorem py {Q:ZM->ZU->Prop} (O:ZN->ZM->ZU->(ZM->ZU->Prop)->Prop) (W:Nat->Array Bool->ZM->ZU->Prop) (m:∀ l a w,Region.ready .any ops l=[]->Q a w->W 0 l a w)
 (v:∀ f l a w,Region.ready .any ops l≠[]->(∀ i∈Region.ready .any ops l,∃ o,ops[i]?=ZX o/\o.guard=ZY/\O o a w (W f (l.setIfInBounds i ZW)))->W (f+1) l a w) (u:∀ o a w (K d:ZM->ZU->Prop),(∀ a w,K a w->d a w)->O o a w K->O o a w d)
 (g:aL ops lo hi sh) (b:ZM) (w0:ZU) (q:hi<=b.tmps.size) (V:Nat->ZT->ZU->Prop) (B:(Nat->Bool)->ZU->Prop) (t:B (λ_=>ZV) w0) (n:∀ i,i<sh.length->Fq O lo hi sh b V B i)
 (p:∀ (a:ZM) (w:ZU),dD lo hi b a->(∀ s,(∀ i,i<sh.length->(bB sh i).2.1≠ZX s)->a.eval (.tmp s)=b.eval (.tmp s))->(∃ D,(∀ i,i<sh.length->D i=ZW)/\B D w)->(∀ i,i<sh.length->V i (dM (bB sh i).2.1 a) w)->Q a w):W ops.size (YF ops.size ZV) b w0:=by
 have r:=g.size;have c:∀ i,(YF ops.size ZV).getD i ZV=ZV:=λi=>by
  simp only [Vj,Array.getElem?_replicate];split<;>rfl
 refine Gz O W m v u g b q V B n p _ _ b w0 (by simp [r]) ?_ (dD.refl _ _ _) (λ_ _=>rfl) (λj k=>?_) ?_ λi h=>?_
 . unfold jZ;simp
 . rw [c] at k;cases k
 . have e:(λj=>(YF ops.size ZV).getD j ZV)=λ_=>ZV:=funext c;rw [e];exact t
 . rw [c] at h;cases h
def M2 (P:Program) (Q:ZO->ZM->ZU->Prop):=Fq λo a w K=>o.wp P a w K Q
def lA {Q:ZO->ZM->ZU->Prop} (u:P.follows .mixedOrders=ZW) (r:aL ops lo hi sh) (b:ZM) (w0:ZU) (p:hi<=b.tmps.size)
 (V:Nat->ZT->ZU->Prop) (B:(Nat->Bool)->ZU->Prop) (t:B (λ_=>ZV) w0.drew) (g:∀ i,i<sh.length->M2 P Q lo hi sh b V B i)
 (n:∀ (a:ZM) (w:ZU),dD lo hi b a->(∀ s,(∀ i,i<sh.length->(bB sh i).2.1≠ZX s)->a.eval (.tmp s)=b.eval (.tmp s))->(∃ D,(∀ i,i<sh.length->D i=ZW)/\B D w)->(∀ i,i<sh.length->V i (dM (bB sh i).2.1 a) w)->Q .normal a w):(Code.region m ops ZW).wp P Q b w0:=
 wp_region_any u (py (λo a w K=>o.wp P a w K Q) (wpAny P .any ops Q) (λ_ _ _ h q=>⟨h,q⟩) (λf l a w j k=>⟨λe=>absurd e j,λi hi=>by
  obtain ⟨o,c,d,h⟩:=k i hi;unfold wpOp;rw [c];show if Region.wanted o (yielded ops a.tmps)=ZW then _ else _;rw [if_pos (by simp [Region.wanted,d])];exact .inl h⟩) (λo a w K v h=>Ya h) r b _ p V B t g n)
def JI (P:Program) (Q:ZO->ZM->ZU->Prop) (lo hi:Nat) (sh:List (Op×Option Nat×a8)) (a0:ZM) (V:Nat->ZT->ZU->Prop) (B:(Nat->Bool)->ZU->Prop) (i:Nat):Prop:=
 ∀ (o:ZN) (a:ZM) (w:ZU) (D:Nat->Bool),o.guard=ZY->o.op=(bB sh i).1->o.dst=(bB sh i).2.1->dD lo hi a0 a->D i=ZV->(∀ j,D j=ZW->j<sh.length/\∀ k∈(bB sh j).2.2,D k=ZW) ->
  (∀ k∈(bB sh i).2.2,D k=ZW)->B D w->(∀ j,D j=ZW->V j (dM (bB sh j).2.1 a) w) ->
  o.wp P a w (λa' w'=>∃ v,a'=a.put o.dst v/\(o.dst=ZY->v=ZZ)/\B (fI D i) w'/\V i v w'/\∀ j u,D j=ZW->V j u w->V j u w') Q
def dj {Q:ZO->ZM->ZU->Prop} (n:P.follows .mixedOrders=ZW) (k:aL ops lo hi sh) (b:ZM) (w0:ZU) (j:hi<=b.tmps.size)
 (V:Nat->ZT->ZU->Prop) (B:(Nat->Bool)->ZU->Prop) (l:B (λ_=>ZV) w0.drew) (c:∀ i,i<sh.length->JI P Q lo hi sh b V B i)
 (h:∀ (a:ZM) (w:ZU),dD lo hi b a->(∀ s,(∀ i,i<sh.length->(bB sh i).2.1≠ZX s)->a.eval (.tmp s)=b.eval (.tmp s))->(∃ D,(∀ i,i<sh.length->D i=ZW)/\B D w)->(∀ i,i<sh.length->V i (dM (bB sh i).2.1 a) w)->Q .normal a w):(Code.region m ops ZW).wp P Q b w0:=
 lA n k b w0 j V B l (λi hi o a w D d e f g _=>c i hi o a w D d e f g) h
def fw {Q:ZO->ZM->ZU->Prop} (l:P.follows .mixedOrders=ZW) (j:aL ops lo hi sh) (b:ZM) (w0:ZU) (h:hi<=b.tmps.size)
 (V:Nat->ZT->ZU->Prop) (B:(Nat->Bool)->ZU->Prop) (k:B (λ_=>ZV) w0.drew) (c:∀ i,i<sh.length->JI P Q lo hi sh b V B i)
 (g:∀ (a:ZM) (w:ZU),dD lo hi b a->(∃ D,(∀ i,i<sh.length->D i=ZW)/\B D w)->(∀ i,i<sh.length->V i (dM (bB sh i).2.1 a) w)->Q .normal a w):(Code.region m ops ZW).wp P Q b w0:=
 dj l j b w0 h V B k c λa w d _ e f=>g a w d e f
def af {Q:ZO->ZM->ZU->Prop} {a:ZM} {B:ZU->Prop} {S:ZU->Prop} (e:(execOp a.eval o).run P w=.ok (.value v) w') {d:Nat} (c:o.dst=ZX d) (h:B w'/\Vi v w'/\S w') :
 o.wp P a w (λb w'=>∃ v,b=a.put o.dst v/\(o.dst=ZY->v=ZZ)/\B w'/\Vi v w'/\S w') Q:=by
 unfold Oper.wp;rw [e];exact ⟨v,rfl,λh=>(by rw [c] at h;cases h),h⟩
def ig {Q:ZO->ZM->ZU->Prop} {a:ZM} {B:ZU->Prop} {S:ZU->Prop} (c:(execOp a.eval o).run P w=.ok .skip w') (h:B w'/\Vi ZZ w'/\S w') :
 o.wp P a w (λb w'=>∃ v,b=a.put o.dst v/\(o.dst=ZY->v=ZZ)/\B w'/\Vi v w'/\S w') Q:=by
 unfold Oper.wp;rw [c];exact ⟨ZZ,rfl,λ_=>rfl,h⟩
def gj {Q:ZO->ZM->ZU->Prop} {a:ZM} {B:ZU->Prop} {S:ZU->Prop} (k:(execOp a.eval o).run P w=.ok (.enter f args) w1) {d:Nat} (i:o.dst=ZX d) (g:ZR P f args w1 Rr)
 (h:∀ e w',Rr e w'->∃ v,e=Z3 v/\B w'/\Vi v w'/\S w'):o.wp P a w (λb w'=>∃ v,b=a.put o.dst v/\(o.dst=ZY->v=ZZ)/\B w'/\Vi v w'/\S w') Q:=by
 unfold Oper.wp;rw [k];refine g.mono λe w' j=>?_;obtain ⟨v,rfl,c⟩:=h e w' j;exact ⟨v,rfl,λh=>(by rw [i] at h;cases h),c⟩
def ag {a:ZM} {x:ZK} (ho:o.op=.move x) (b:a.eval x=v) (w:ZU):(execOp a.eval o).run P w=.ok (.value v) w:=by simp [execOp,ho,b]
theorem fQ {a:ZM} {x:ZK} {ad:ZQ} (ho:o.op=.nilCheck x) (b:a.eval x=Z6 (ZX ad)) (w:ZU):(execOp a.eval o).run P w=.ok (.value (Z6 (ZX ad))) w:=by simp only [execOp,ho,b];go_simp
def kq {D:Nat->Bool} {V:Nat->ZT->Prop}:∀ j u,D j=ZW->V j u->V j u:=λ_ _ _ q=>q
def lB (a:Array ZL) (b:ZL) (x y:Int) (w:ZU):(Builtin.max_ a b #[Z7 Z9 x,Z7 Z9 y]).run P w=.ok (Z7 Z9 (if y>x then y else x)) w:=by
 simp [Builtin.max_,Builtin.max2]
def gy (a:Array ZL) (b:ZL) (x y:Int) (w:ZU):(Builtin.min_ a b #[Z7 Z9 x,Z7 Z9 y]).run P w=.ok (Z7 Z9 (if y<x then y else x)) w:=by
 simp [Builtin.min_,Builtin.min2]
def sG {a:ZM} {s t:ZK} {ats:Array ZL} (ho:o.op=.call { callee:=.builtin .max,args:=#[s,t],argTypes:=ats }) {x y:Int} (hx:a.eval s=Z7 Z9 x) (hy:a.eval t=Z7 Z9 y) (w:ZU) :
 (execOp a.eval o).run P w=.ok (.value (Z7 Z9 (if y>x then y else x))) w:=by
 unfold execOp;simp only [ho,resolve,invoke,builtin,Uo,U2,UE,Vr,Uu,UY,hx,hy,lB]
def pe:Code->Nat->Option (Array ZN)
 | .region i ops _,n=>if i=n then ZX ops else ZY
 | .seq a b,n=>(pe a n).orElse λ_=>pe b n
 | .cond _ a b,n=>(pe a n).orElse λ_=>pe b n
 | .block _ a,n=>pe a n
 | .loop a,n=>pe a n
 | .scope a,n=>pe a n
 | .rangeFunc _ _ a b,n=>(pe a n).orElse λ_=>pe b n
 | _,_=>ZY
section
open Go.Extern.Stop Go.Stop Go.Extern
def Tryz.To (t:ZQ) (w:ZU):(ReflectliteValue.unpack (.iface 92 (Z6 (ZX t)))).run ZJ w
 = .ok (.agg #[Z6 (ZX ⟨3,92,ZY⟩),Z6 (ZX ⟨w.heap.size,0,ZY⟩),Z7 Z8 150]) (w.alloc (Z4 #[Z6 (ZX t)] 92)):=by kernel_rfl
def Tryz.typeP (a:ZQ) (w:ZU):(ReflectliteValue.methodAny (ReflectliteValue.valueError "reflectlite.Value.Type" 0) (λt _ _ _=>ReflectliteType.toType t) #[.agg #[Z6 (ZX ⟨3,92,ZY⟩),Z6 (ZX a),Z7 Z8 150]]).run ZJ w
 = .ok (.iface 148 (.agg #[Z6 (ZX ⟨3,92,ZY⟩)])) w:=by kernel_rfl
def Tryz.SP (h:ZT) (w:ZU):(YG 467 148 (.agg #[h]) "Kind").run ZJ w=.ok (232,h) w:=by kernel_rfl
def Tryz.kindP (w:ZU):((ReflectliteType.abiMethod λt=>(λa:Nat=>Value.int IntKind.u8 (a:Int)) <$> Rtype.kind t) #[Z6 (ZX ⟨3,92,ZY⟩)]).run ZJ w=.ok (Z7 .u8 22) w:=by kernel_rfl
def Tryz.kindE (w:ZU):((ReflectliteType.abiMethod λt=>(λa:Nat=>Value.int IntKind.u8 (a:Int)) <$> Rtype.kind t) #[Z6 (ZX ⟨3,58,ZY⟩)]).run ZJ w=.ok (Z7 .u8 2) w:=by kernel_rfl
def Tryz.TA (a:ZQ) (w:ZU):(ReflectliteValue.parts (.agg #[Z6 (ZX ⟨3,92,ZY⟩),Z6 (ZX a),Z7 Z8 150])).run ZJ w=.ok (ZX (92,a,150)) w:=by kernel_rfl
theorem Tryz.isNilP (a p:ZQ) (W:ZU) (b:W.cell? a=ZX (Z6 (ZX p))) :
 (ReflectliteValue.method (ReflectliteValue.valueError "reflectlite.Value.IsNil" 0) ReflectliteValue.isNil #[.agg #[Z6 (ZX ⟨3,92,ZY⟩),Z6 (ZX a),Z7 Z8 150]]).run ZJ W=.ok (Z2 ZV) W:=by
 refine Xf (congrArg (λz=>Sem.run ZJ z W) (show ReflectliteValue.method _ _ #[.agg #[Z6 (ZX ⟨3,92,ZY⟩),Z6 (ZX a),Z7 Z8 150]]=(ReflectliteValue.parts (.agg #[Z6 (ZX ⟨3,92,ZY⟩),Z6 (ZX a),Z7 Z8 150]) >>= _) from rfl)) ?_;simp only [Uo,Tryz.TA,Result.andThen];simp [ReflectliteValue.isNil,loadVar,isAgg,underlying,underlying92,b,Result.andThen]
def Tryz.SV (h:ZT) (w:ZU):(YG 467 148 (.agg #[h]) "Elem").run ZJ w=.ok (245,.agg #[h]) w:=by kernel_rfl
def Tryz.Sj (h:ZT) (w:ZU):(YG 467 148 (.agg #[h]) "Implements").run ZJ w=.ok (246,.agg #[h]) w:=by kernel_rfl
def Tryz.Sc (h:ZT) (w:ZU):(YG 467 148 (.agg #[h]) "AssignableTo").run ZJ w=.ok (243,.agg #[h]) w:=by kernel_rfl
def Tryz.elemP (w:ZU):(ReflectliteType.method ReflectliteType.elem #[.agg #[Z6 (ZX ⟨3,92,ZY⟩)]]).run ZJ w=.ok (.iface 148 (.agg #[Z6 (ZX ⟨3,58,ZY⟩)])) w:=by kernel_rfl
def Tryz.SF (w:ZU):(ReflectliteType.relation "Implements" ReflectliteType.implements_ #[.agg #[Z6 (ZX ⟨3,58,ZY⟩)],.iface 148 (.agg #[Z6 (ZX ⟨3,53,ZY⟩)])]).run ZJ w=.ok (Z2 ZW) w:=by kernel_rfl
def Tryz.SD (v:ZT) (w:ZU):(ReflectliteType.typeOf #[.iface 58 v]).run ZJ w=.ok (.iface 148 (.agg #[Z6 (ZX ⟨3,58,ZY⟩)])) w:=by kernel_rfl
def Tryz.SM (w:ZU):(ReflectliteType.relation "AssignableTo" ReflectliteType.assignableTo #[.agg #[Z6 (ZX ⟨3,58,ZY⟩)],.iface 148 (.agg #[Z6 (ZX ⟨3,58,ZY⟩)])]).run ZJ w=.ok (Z2 ZW) w:=by kernel_rfl
def Tryz.TE (x:Int) (w:ZU):(ReflectliteValue.unpack (.iface 58 (Z7 Z9 x))).run ZJ w
 = .ok (.agg #[Z6 (ZX ⟨3,58,ZY⟩),Z6 (ZX ⟨w.heap.size,0,ZY⟩),Z7 Z8 130]) (w.alloc (Z4 #[Z7 Z9 x] 58)):=by kernel_rfl
def Tryz.TN (w:ZU):(Rtype.elem? 92).run ZJ w=.ok (ZX 58) w:=by kernel_rfl
def Tryz.mkE (p:ZQ) (w:ZU):(ReflectliteValue.mk 58 p ReflectliteValue.flagAddr).run ZJ w=.ok (.agg #[Z6 (ZX ⟨3,58,ZY⟩),Z6 (ZX p),Z7 Z8 386]) w:=by kernel_rfl
theorem Tryz.elemVP (a p:ZQ) (W:ZU) (b:W.cell? a=ZX (Z6 (ZX p))) :
 (ReflectliteValue.method (ReflectliteValue.valueError "reflectlite.Value.Elem" 0) ReflectliteValue.elem #[.agg #[Z6 (ZX ⟨3,92,ZY⟩),Z6 (ZX a),Z7 Z8 150]]).run ZJ W
  = .ok (.agg #[Z6 (ZX ⟨3,58,ZY⟩),Z6 (ZX p),Z7 Z8 386]) W:=by
 refine Xf (congrArg (λz=>Sem.run ZJ z W) (show ReflectliteValue.method _ _ #[.agg #[Z6 (ZX ⟨3,92,ZY⟩),Z6 (ZX a),Z7 Z8 150]]=(ReflectliteValue.parts (.agg #[Z6 (ZX ⟨3,92,ZY⟩),Z6 (ZX a),Z7 Z8 150]) >>= _) from rfl)) ?_;simp only [Uo,Tryz.TA,Result.andThen];simp [ReflectliteValue.elem,loadVar,isAgg,underlying,underlying92,b,Result.andThen,Tryz.TN,Tryz.mkE]
def Tryz.TQ (a:ZQ) (w:ZU):(ReflectliteValue.parts (.agg #[Z6 (ZX ⟨3,58,ZY⟩),Z6 (ZX a),Z7 Z8 386])).run ZJ w=.ok (ZX (58,a,386)) w:=by kernel_rfl
def Tryz.partsE (a:ZQ) (w:ZU):(ReflectliteValue.parts (.agg #[Z6 (ZX ⟨3,58,ZY⟩),Z6 (ZX a),Z7 Z8 130])).run ZJ w=.ok (ZX (58,a,130)) w:=by kernel_rfl
def Tryz.TK (w:ZU):(Rtype.directlyAssignable 58 58).run ZJ w=.ok ZW w:=by kernel_rfl
theorem Tryz.setE (a b:ZQ) (x:Int) (old:ZT) (W:ZU) (c:W.cell? b=ZX (Z7 Z9 x)) (e:W.cell? a=ZX old) (d:W.frozen? a=ZV) :
 (ReflectliteValue.set #[.agg #[Z6 (ZX ⟨3,58,ZY⟩),Z6 (ZX a),Z7 Z8 386],.agg #[Z6 (ZX ⟨3,58,ZY⟩),Z6 (ZX b),Z7 Z8 130]]).run ZJ W
  = .ok (Z0 #[]) (W.setCell a (Z7 Z9 x)):=by
 refine Xf (congrArg (λz=>Sem.run ZJ z W) (show ReflectliteValue.set #[.agg #[Z6 (ZX ⟨3,58,ZY⟩),Z6 (ZX a),Z7 Z8 386],.agg #[Z6 (ZX ⟨3,58,ZY⟩),Z6 (ZX b),Z7 Z8 130]]=(ReflectliteValue.parts (.agg #[Z6 (ZX ⟨3,58,ZY⟩),Z6 (ZX a),Z7 Z8 386]) >>= λp=>ReflectliteValue.parts (.agg #[Z6 (ZX ⟨3,58,ZY⟩),Z6 (ZX b),Z7 Z8 130]) >>= (_:_->Sem ZT)) from rfl)) ?_;simp only [Uo,Tryz.TQ,Tryz.partsE,Result.andThen];simp [ReflectliteValue.flagAddr,loadVar,isAgg,underlying,underlying58,c,Result.andThen,Tryz.TK,storeVar,Value.cells,storeCells,Addr.add];rw [run_store ZJ W a _ _ (by rfl)];simp [e,d]
theorem Pa (x:Int) (t:ZQ) (old:ZT) (w:ZU) (c:w.cell? ⟨0,0,ZY⟩=ZX (.iface 148 (.agg #[Z6 (ZX ⟨3,53,ZY⟩)]))) (a:w.cell? t=ZX old) (f:w.frozen? t=ZV) :
 ZR ZJ 33 #[.iface 58 (Z7 Z9 x),.iface 92 (Z6 (ZX t))] w λd w'=>d=Z3 (Z2 ZW)/\w'=((((w.alloc (Z4 #[Z6 (ZX t)] 92)).alloc (Z4 #[Z6 (ZX ⟨3,92,ZY⟩),Z6 (ZX ⟨w.heap.size,0,ZY⟩),Z7 Z8 150] 120)).alloc (Z4 #[Z6 (ZX ⟨3,92,ZY⟩),Z6 (ZX ⟨w.heap.size,0,ZY⟩),Z7 Z8 150] 120)).alloc (Z4 #[Z7 Z9 x] 58)).setCell t (Z7 Z9 x):=by
 have o := @run_callFunc_extern ZJ 49 _ (λargs=>ReflectliteValue.unpack (args.getD 0 (Z0 #[]))) func49 (by kernel_rfl) (by kernel_rfl) (by kernel_rfl) (by kernel_rfl);have p := @run_callFunc_extern ZJ 50 _ (ReflectliteValue.methodAny (ReflectliteValue.valueError "reflectlite.Value.Type" 0) (λt _ _ _=>ReflectliteType.toType t)) func50 (by kernel_rfl) (by kernel_rfl) (by kernel_rfl) (by kernel_rfl);have q := @run_callFunc_extern ZJ 51 _ (ReflectliteValue.method (ReflectliteValue.valueError "reflectlite.Value.IsNil" 0) ReflectliteValue.isNil) func51 (by kernel_rfl) (by kernel_rfl) (by kernel_rfl) (by kernel_rfl);have u := @run_callFunc_extern ZJ 232 _ (ReflectliteType.abiMethod λt=>do pure (Z7 .u8 (<- Rtype.kind t))) func232 (by kernel_rfl) (by kernel_rfl) (by kernel_rfl) (by kernel_rfl);have y := @run_callFunc_extern ZJ 245 _ (ReflectliteType.method ReflectliteType.elem) func245 (by kernel_rfl) (by kernel_rfl) (by kernel_rfl) (by kernel_rfl);have z := @run_callFunc_extern ZJ 246 _ (ReflectliteType.relation "Implements" ReflectliteType.implements_) func246 (by kernel_rfl) (by kernel_rfl) (by kernel_rfl) (by kernel_rfl);have n := @run_callFunc_extern ZJ 72 _ ReflectliteType.typeOf func72 (by kernel_rfl) (by kernel_rfl) (by kernel_rfl) (by kernel_rfl);have v := @run_callFunc_extern ZJ 243 _ (ReflectliteType.relation "AssignableTo" ReflectliteType.assignableTo) func243 (by kernel_rfl) (by kernel_rfl) (by kernel_rfl) (by kernel_rfl);have r := @run_callFunc_extern ZJ 73 _ (ReflectliteValue.method (ReflectliteValue.valueError "reflectlite.Value.Elem" 0) ReflectliteValue.elem) func73 (by kernel_rfl) (by kernel_rfl) (by kernel_rfl) (by kernel_rfl);have s := @run_callFunc_extern ZJ 74 _ ReflectliteValue.set func74 (by kernel_rfl) (by kernel_rfl) (by kernel_rfl) (by kernel_rfl);have I:=Tryz.SD;have D:=Tryz.Sc;have i:=Tryz.SM;have J:=Tryz.TE;have l:=Tryz.To;have m:=Tryz.typeP;have G:=Tryz.SP;have E:=Tryz.SV;have F:=Tryz.Sj;have C:=Tryz.kindP;have B:=Tryz.kindE;have j:=Tryz.elemP;have A:=Tryz.SF;have H:=Tryz.isNilP ⟨w.heap.size,0,ZY⟩ t ((w.alloc (Z4 #[Z6 (ZX t)] 92)).alloc (Z4 #[Z6 (ZX ⟨3,92,ZY⟩),Z6 (ZX ⟨w.heap.size,0,ZY⟩),Z7 Z8 150] 120)) (by simp);have g:0<w.heap.size:=by
  rcases WS w.heap.size with e|h
  . simp [World.cell?,e] at c
  . exact h
 have hi:((w.alloc (Z4 #[Z6 (ZX t)] 92)).alloc (Z4 #[Z6 (ZX ⟨3,92,ZY⟩),Z6 (ZX ⟨w.heap.size,0,ZY⟩),Z7 Z8 150] 120)).cell? ⟨0,0,ZY⟩=ZX (.iface 148 (.agg #[Z6 (ZX ⟨3,53,ZY⟩)])):=by
  rw [WE _ _ ⟨0,0,ZY⟩ (by simp),WE _ _ ⟨0,0,ZY⟩ g];exact c
 have b:t.block<w.heap.size:=by
  rcases XE t.block w.heap.size with h|h
  . exact h
  . simp [World.cell?,WT h] at a
 have k:=Tryz.elemVP ⟨w.heap.size,0,ZY⟩ t (((w.alloc (Z4 #[Z6 (ZX t)] 92)).alloc (Z4 #[Z6 (ZX ⟨3,92,ZY⟩),Z6 (ZX ⟨w.heap.size,0,ZY⟩),Z7 Z8 150] 120)).alloc (Z4 #[Z6 (ZX ⟨3,92,ZY⟩),Z6 (ZX ⟨w.heap.size,0,ZY⟩),Z7 Z8 150] 120)) (by rw [WE _ _ ⟨w.heap.size,0,ZY⟩ (by simp;omega)];simp);have st:=Tryz.setE t ⟨w.heap.size+1+1+1,0,ZY⟩ x old ((((w.alloc (Z4 #[Z6 (ZX t)] 92)).alloc (Z4 #[Z6 (ZX ⟨3,92,ZY⟩),Z6 (ZX ⟨w.heap.size,0,ZY⟩),Z7 Z8 150] 120)).alloc (Z4 #[Z6 (ZX ⟨3,92,ZY⟩),Z6 (ZX ⟨w.heap.size,0,ZY⟩),Z7 Z8 150] 120)).alloc (Z4 #[Z7 Z9 x] 58))
  (by rw [World.cell?_alloc_at _ _ _ _ (by simp)];rfl)
  (by rw [WE _ _ t (by simp;omega),WE _ _ t (by simp;omega),WE _ _ t (by simp;omega),WE _ _ t b];exact a)
  (by rw [Yb _ _ t (by simp;omega),Yb _ _ t (by simp;omega),Yb _ _ t (by simp;omega),Yb _ _ t (Nat.ne_of_lt b)];exact f)
 go_enter func33,ntmps33;go_wp2;refine VV 1 ?_;rw [Vg];go_wp2;go_ret;exact ⟨rfl,rfl⟩
theorem nS (w:ZU) :
 ZR ZJ 12 #[.nilIface] w λe w'=>e=Z3 (Z7 Z9 0)/\ZS w.heap.size w w':=by
 go_enter func12,ntmps12;go_wp2;go_ret;exact ⟨rfl,bA _ _⟩
theorem sH (x:Int) (w:ZU) (a:w.cell? ⟨0,0,ZY⟩=ZX (.iface 148 (.agg #[Z6 (ZX ⟨3,53,ZY⟩)]))) :
 ZR ZJ 12 #[.iface 58 (Z7 Z9 x)] w λe w'=>e=Z3 (Z7 Z9 x)/\ZS w.heap.size w w':=by
 have d:0<w.heap.size:=by
  rcases WS w.heap.size with b|h
  . simp [World.cell?,b] at a
  . exact h
 have c:(w.alloc (Z4 #[Z7 Z9 0] 58)).cell? ⟨0,0,ZY⟩=ZX (.iface 148 (.agg #[Z6 (ZX ⟨3,53,ZY⟩)])):=by
  rw [WE _ _ ⟨0,0,ZY⟩ d];exact a
 go_enter func12,ntmps12;go_wp2_with (go_at_call 33;refine (Pa x ⟨w.heap.size,0,ZY⟩ (Z7 Z9 0) _ c (by simp) (by simp)).mono ?_;rintro e w' ⟨rfl,rfl⟩);go_ret;refine ⟨rfl,?_⟩;repeat (first|exact TY _ _|refine WU ?_ (by simp) _|refine Below.alloc ?_ (by (try simp only [Ug]);omega) _)
theorem ja (x:Int) (w:ZU) :
 ZR ZJ 20 #[Z7 Z9 x] w λe w'=>e=Z3 (Z7 Z9 x)/\w'=w:=by
 go_enter func20,ntmps20;go_wp2;go_ret;exact ⟨rfl,rfl⟩
end
def Tryz.Te:(ZJ.info? 58).map (λi=>i.comparable)=ZX ZW:=by kernel_rfl
def wh (n m:Int) (w:ZU):(binOp .eql 53 (.iface 58 (Z7 Z9 n)) (.iface 58 (Z7 Z9 m))).run ZJ w=.ok (Z2 (n==m)) w:=by
 obtain ⟨i,hi,c⟩:=Wc.1 Tryz.Te;have a:∀ d,(Op.equalIn (d+1) 58 (Z7 Z9 n) (Z7 Z9 m)).run ZJ w=.ok (n==m) w:=λd=>run_equalIn_int (w:=w) d 58 .i64 .i64 n m underlying58;have b:∀ d,(Op.equalIn (d+1+1) 53 (.iface 58 (Z7 Z9 n)) (.iface 58 (Z7 Z9 m))).run ZJ w=.ok (n==m) w:=λd=>by
  rw [Op.equalIn];simp [Uo,UH underlying53,UE,typeInfo,hi,c,a d]
 have e:=b 9998;simp only [binOp];simp [Op.equal,Op.maxDepth,e]
theorem GA (n:Int) (hn:n≠13) (w:ZU):ZR ZJ 93 #[.iface 58 (Z7 Z9 n),.iface 58 (Z7 Z9 13),Z2 ZW] w λe w'=>e=Z3 (Z2 ZV)/\w'=w:=by
 have d:∀ w,(binOp .eql 53 (.iface 58 (Z7 Z9 n)) (.iface 58 (Z7 Z9 13))).run ZJ w=.ok (Z2 ZV) w:=λw=>by rw [wh];simp [hn]
 have a:∀ w:ZU,(Instr.typeAssert (.iface 58 (Z7 Z9 n)) 53 238 ZW).run ZJ w=.ok (Z0 #[.nilIface,Z2 ZV]) w:=λw=>WV aa1 (by kernel_rfl) (by kernel_rfl) _ _ w;have b:∀ w:ZU,(Instr.typeAssert (.iface 58 (Z7 Z9 n)) 53 156 ZW).run ZJ w=.ok (Z0 #[.nilIface,Z2 ZV]) w:=λw=>WV aa2 (by kernel_rfl) (by kernel_rfl) _ _ w;have c:∀ w:ZU,(Instr.typeAssert (.iface 58 (Z7 Z9 n)) 53 157 ZW).run ZJ w=.ok (Z0 #[.nilIface,Z2 ZV]) w:=λw=>WV underlying157 (by kernel_rfl) (by kernel_rfl) _ _ w;go_enter func93,ntmps93;go_wp2;refine VV 1 ?_;rw [Vg];go_wp2;go_ret;exact ⟨rfl,rfl⟩
theorem JJ (n:Int) (hn:n≠13) (w:ZU):ZR ZJ 64 #[.iface 58 (Z7 Z9 n),.iface 58 (Z7 Z9 13)] w λe w'=>e=Z3 (Z2 ZV)/\w'=w:=by
 have c:=Tryz.SD (Z7 Z9 13);have a := @run_callFunc_extern ZJ 72 _ Extern.ReflectliteType.typeOf func72 (by kernel_rfl) (by kernel_rfl) (by kernel_rfl) (by kernel_rfl);have d:∀ (h:ZT) (w:ZU),(YG 467 148 (.agg #[h]) "Comparable").run ZJ w=.ok (244,.agg #[h]) w:=λh w=>by kernel_rfl
 have b:∀ w:ZU,(callFunc 244 #[.agg #[Z6 (ZX ⟨3,58,ZY⟩)]]).run ZJ w=.ok (.value (Z2 ZW)) w:=λw=>by kernel_rfl
 go_enter func64,ntmps64;go_wp2_with fail;refine (GA n hn w).mono ?_;rintro e w' ⟨rfl,rfl⟩;go_wp2;go_ret;exact ⟨rfl,rfl⟩
theorem Dq (n:Int) (w:ZU):ZR ZJ 64 #[.nilIface,.iface 58 (Z7 Z9 n)] w λe w'=>e=Z3 (Z2 ZV)/\w'=w:=by
 have a:∀ d w,(Op.equalIn (d+1) 53 .nilIface (.iface 58 (Z7 Z9 n))).run ZJ w=.ok ZV w:=λd w=>by
  simp only [Op.equalIn,Uo,UH underlying53,UE];rfl
 have b:∀ w,(Op.equalIn 10000 53 .nilIface (.iface 58 (Z7 Z9 n))).run ZJ w=.ok ZV w:=λw=>a 9999 w;have hn:∀ w,(binOp .eql 53 .nilIface (.iface 58 (Z7 Z9 n))).run ZJ w=.ok (Z2 ZV) w:=λw=>by
  simp only [binOp];simp [Op.equal,Op.maxDepth,b]
 clear a b;go_enter func64,ntmps64;go_wp2;go_ret;exact ⟨rfl,rfl⟩
theorem JK (w:ZU):ZR ZJ 131 #[.nilIface] w λe w'=>e=Z3 (Z0 #[])/\w'=w:=by
 go_enter func131,ntmps131;go_wp2_with fail;refine (Dq 13 w).mono ?_;rintro e w' ⟨rfl,rfl⟩;go_wp2;first|go_end0|skip
 exact ⟨rfl,rfl⟩
def rk (q:Nat):ZT:=.iface 246 (Z6 (ZX ⟨q,0,ZY⟩))
def fR (w:ZU) (q d b:Nat) (n:Int):Prop:=w.heap[q]?=ZX (Z4 #[Z7 Z9 d,Z7 Z9 b,Z7 Z9 n] 248 (0,0))
def fR.lt {n:Int} (h:fR w q d b n):q<w.heap.size:=(TX.1 h).1
def fR.cell {n:Int} (h:fR w q d b n):w.cell? ⟨q,2,ZY⟩=ZX (Z7 Z9 n):=by
 have a:w.heap[q]?=_:=h;simp [World.cell?,a]
def fR.new (w:ZU) (d b:Nat) (n:Int):fR (w.alloc (Z4 #[Z7 Z9 d,Z7 Z9 b,Z7 Z9 n] 248)) w.heap.size d b n:=Uc w _
def fR.below {n:Int} (h:fR w q d b n) (a:ZS w.heap.size w w'):fR w' q d b n:=(a.block _ h.lt).trans h
def GB (q:Nat) (m:Int) (w:ZU):(binOp .eql 53 (rk q) (.iface 58 (Z7 Z9 m))).run ZJ w=.ok (Z2 ZV) w:=by
 have a:∀ d,(Op.equalIn (d+1) 53 (.iface 246 (Z6 (ZX ⟨q,0,ZY⟩))) (.iface 58 (Z7 Z9 m))).run ZJ w=.ok ZV w:=λd=>by
  rw [Op.equalIn];simp [Uo,UH underlying53,UE]
 have b:=a 9999;unfold rk;simp only [binOp];simp [Op.equal,Op.maxDepth,b]
theorem Dr {n:Int} (h:fR w q d b n):ZR ZJ 257 #[Z6 (ZX ⟨q,0,ZY⟩)] w λe w'=>e=Z3 (.iface 58 (Z7 Z9 n))/\w'=w:=by
 have c:=h.cell;go_enter func257,ntmps257;go_wp2;go_ret;exact ⟨rfl,rfl⟩
theorem GC {n:Int} (h:fR w q d b n) (m:Int):ZR ZJ 93 #[rk q,.iface 58 (Z7 Z9 m),Z2 ZW] w λe w'=>e=Z3 (Z2 (n==m))/\w'=w:=by
 have a:=GB q m;have c:=wh n m;have b1:∀ w:ZU,(Instr.typeAssert (rk q) 53 238 ZW).run ZJ w=.ok (Z0 #[.nilIface,Z2 ZV]) w:=λw=>WV aa1 (by kernel_rfl) (by kernel_rfl) _ _ w;have b2:∀ w:ZU,(Instr.typeAssert (rk q) 53 156 ZW).run ZJ w=.ok (Z0 #[rk q,Z2 ZW]) w:=λw=>run_typeAssert_hasB aa2 (by kernel_rfl) _ _ w;have g:∀ w:ZU,(Instr.typeAssert (.iface 58 (Z7 Z9 n)) 53 238 ZW).run ZJ w=.ok (Z0 #[.nilIface,Z2 ZV]) w:=λw=>WV aa1 (by kernel_rfl) (by kernel_rfl) _ _ w;have i:∀ w:ZU,(Instr.typeAssert (.iface 58 (Z7 Z9 n)) 53 156 ZW).run ZJ w=.ok (Z0 #[.nilIface,Z2 ZV]) w:=λw=>WV aa2 (by kernel_rfl) (by kernel_rfl) _ _ w;have j:∀ w:ZU,(Instr.typeAssert (.iface 58 (Z7 Z9 n)) 53 157 ZW).run ZJ w=.ok (Z0 #[.nilIface,Z2 ZV]) w:=λw=>WV underlying157 (by kernel_rfl) (by kernel_rfl) _ _ w;have k:∀ w:ZU,(YG 467 246 (Z6 (ZX ⟨q,0,ZY⟩)) "Unwrap").run ZJ w=.ok (257,Z6 (ZX ⟨q,0,ZY⟩)) w:=λw=>by kernel_rfl
 have f:=Dr h;unfold rk at a b1 b2 ⊢;clear h;cases h2:(n==m)<;>(
  rw [h2] at c;go_enter func93,ntmps93;go_wp2;refine VV 2 ?_;rw [Vg];go_wp2_with fail;refine f.mono ?_;rintro e w' ⟨rfl,rfl⟩;go_wp2;rw [Vg];go_wp2;go_ret;exact ⟨rfl,rfl⟩)
theorem AL {n:Int} (h:fR w q d b n) (m:Int):ZR ZJ 64 #[rk q,.iface 58 (Z7 Z9 m)] w λe w'=>e=Z3 (Z2 (n==m))/\w'=w:=by
 have f:=Tryz.SD (Z7 Z9 m);have a := @run_callFunc_extern ZJ 72 _ Extern.ReflectliteType.typeOf func72 (by kernel_rfl) (by kernel_rfl) (by kernel_rfl) (by kernel_rfl);have g:∀ (h:ZT) (w:ZU),(YG 467 148 (.agg #[h]) "Comparable").run ZJ w=.ok (244,.agg #[h]) w:=λh w=>by kernel_rfl
 have c:∀ w:ZU,(callFunc 244 #[.agg #[Z6 (ZX ⟨3,58,ZY⟩)]]).run ZJ w=.ok (.value (Z2 ZW)) w:=λw=>by kernel_rfl
 have hi:=GC h m;unfold rk at hi ⊢;clear h;generalize (n==m)=nm at hi ⊢;go_enter func64,ntmps64;go_wp2_with fail;refine hi.mono ?_;rintro e w' ⟨rfl,rfl⟩;go_wp2;go_ret;exact ⟨rfl,rfl⟩
theorem sI {n:Int} (h:fR w q d b n) (hn:n≠13):ZR ZJ 131 #[rk q] w λe w'=>e=Z3 (Z0 #[])/\w'=w:=by
 have hi:=AL h 13;rw [show (n==13)=ZV from by simpa using hn] at hi;unfold rk at hi ⊢;clear h;go_enter func131,ntmps131;go_wp2_with fail;refine hi.mono ?_;rintro e w' ⟨rfl,rfl⟩;go_wp2;first|go_end0|skip
 exact ⟨rfl,rfl⟩
section
variable {w:ZU} {p:Nat} {R:fK} {F:aR}
def Pb (w:ZU) (d b:Nat) (R:fK) (F:aR) (e:ZP) (w':ZU):Prop:=(R.lost d=ZV/\e=Z3 (Z0 #[Z6 (ZX ⟨F.g,d*4,ZY⟩),.nilIface])/\w'=w)\/(R.lost d=ZW/\e=Z3 (Z0 #[.pointer ZY,rk w.heap.size])/\w'=w.alloc (Z4 #[Z7 Z9 d,Z7 Z9 b,Z7 Z9 11] 248))
theorem Fs (h:ah w p R F) (d b:Nat) (e:d<R.n) (m:b<R.nb) :
 ZR ZJ 159 #[Z6 (ZX ⟨p,0,ZY⟩),Z7 Z9 d,Z7 Z9 b] w (Pb w d b R F):=by
 obtain ⟨c0,c1⟩:=h.RX;obtain ⟨a,d1,f,r,g⟩:=h.Sd d e;have i:¬ (d:Int)<0:=by omega
 have j:¬ (R.n:Int)<=(d:Int):=by omega
 have c:(d:Int)<(R.n:Int):=by omega
 have k:¬ (b:Int)<0:=by omega
 have l:¬ (R.nb:Int)<=(b:Int):=by omega
 clear h;cases hl:R.lost d<;>(
  rw [hl] at a;go_enter func159,ntmps159;go_wp2;go_ret2;first|exact .inl ⟨hl,rfl,rfl⟩|exact .inr ⟨hl,rfl,rfl⟩)
def Pc (w:ZU) (p d b:Nat) (R:fK) (F:aR) (e:ZP) (w':ZU):Prop:=
 ah w' p R F/\aa F.S w w'/\((R.lost d=ZV/\R.bad d b=ZV/\e=Z3 (Z0 #[.agg (az (R.blk d b)),.nilIface]))\/((R.lost d=ZW\/R.bad d b=ZW)/\∃ q,e=Z3 (Z0 #[.agg (az zb),rk q])/\w.heap.size<=q/\fR w' q d b (if R.lost d=ZW then 11 else 12)))
theorem M3 (h:ah w p R F) (d b:Nat) (D:d<R.n) (L:b<R.nb) :
 ZR ZJ 130 #[Z6 (ZX ⟨p,0,ZY⟩),Z7 Z9 d,Z7 Z9 b] w (Pc w p d b R F):=by
 have hz:=zeroBlk;have K:=(h.len d b).1;have c:=h.alloc (Z4 (az zb) 105);have z:=bJ.new w zb;have x:∀ k,F.S k->k<w.heap.size:=λk E=>h.RU E;have t:aa F.S w (w.alloc (Z4 (az zb) 105)):=aa.alloc w _;have e3:¬ (b:Int)<0:=by omega
 have e4:(b:Int)<(R.nb:Int):=by omega
 obtain ⟨w1,P⟩:=nM (w.alloc (Z4 (az zb) 105));have hs:w1.heap.size=w.heap.size+1:=by rw [<- P];simp
 rw [P] at c z t;have i:∀ (a:ZU) (l:a8),ah a p R F->aa F.S w a->ah (a.setRow w.heap.size (az l)) p R F/\aa F.S w (a.setRow w.heap.size (az l))/\∀ j,j≠w.heap.size->j<a.heap.size->(a.setRow w.heap.size (az l)).heap[j]?=a.heap[j]?:=λa l N V=>by
  have O:∀ j,j≠w.heap.size->j<a.heap.size->(a.setRow w.heap.size (az l)).heap[j]?=a.heap[j]?:=λj W hl=>(aK a w.heap.size (az l)).block j hl (λe=>by cases e;exact W rfl);exact ⟨N.keep λk E=>O k (by have:=x k E;omega) (N.RU E),V.later (T:=λk=>k=w.heap.size) (aa.setRow _ _ _ rfl) λk E e=>absurd e (by omega),O⟩
 have I:=Fs c d b D L;have H:=a6 c z t x i;clear h c z t x i;go_enter func130,ntmps130;go_wp2_with fail;refine I.mono ?_;rintro e w2 (⟨hl,rfl,rfl⟩|⟨hl,rfl,M⟩)
 . obtain ⟨c,z,t,x,i⟩:=H.out;obtain ⟨Z,d1,d2,r,d3⟩:=c.Sd d D;have hp:=c.Su (d*4+3);obtain ⟨a,G⟩:=nM (w2.setCell ⟨F.g,d*4+3,ZY⟩ (Z7 Z9 (wrap64 (r+1))));have m:=c.count d (wrap64 (r+1));rw [G] at m;obtain ⟨q0,q1,q2,_⟩:=m.Sd d D;have Q:a.cell? ⟨F.bd d,b,ZY⟩=ZX (Z2 (R.bad d b)):=(m.bad d D).cell L;have Y:a.rangeAt (F.bb d) (b*64) (aI (R.blk d b)):=m.range D L;have hv:a.heap.size=w2.heap.size:=(by rw [<- G];simp [World.setCell]);have f:bJ a w.heap.size zb:=z.keep (by rw [<- G];exact Ud _ _ _ _ (by have:=x _ c.sg;show w.heap.size≠F.g;omega));have y:aa F.S w a:=t.trans (by rw [<- G];exact aa.setCell _ _ _ c.sg);cases h6:R.bad d b with
   | false=>
    rw [h6] at Q;have u:=a5 m y i f;clear c z t x i m y f I;go_wp2_with (first|(refine Dj rfl (Z1 46) rfl (F.bb d) (b*64) (R.blk d b) rfl Y K ?_)|(refine fq rfl (Z1 6) (Z1 47) rfl w.heap.size (R.blk d b) zb rfl rfl u.out.2.2.2 bR K ?_));obtain ⟨m,y,i,f⟩:=u.out;refine Um (v:=Z0 #[.agg (az (R.blk d b)),.nilIface]) (fs results130 _ _ _ _ _ rfl rfl (lx (f.setRow _) K)) rfl ?_;obtain ⟨B,C,_⟩:=i _ (R.blk d b) m y;exact ⟨B,C,.inl ⟨hl,h6,rfl⟩⟩
   | true=>
    rw [h6] at Q;obtain ⟨U,hi⟩:=nM (a.alloc (Z4 #[Z7 Z9 d,Z7 Z9 b,Z7 Z9 12] 248));obtain ⟨q,A⟩:=nM (w.heap.size+1);have X:a.heap.size=q:=(by omega);have o:fR U q d b 12:=(by rw [<- hi,<- X];exact fR.new _ _ _ _);have s:ZS a.heap.size a U:=(by rw [<- hi];exact bA a _);have u:=a7 (m.below s lR) (y.trans (aa.RS s _)) i (f.keep (s.block _ f.lt)) o (show w.heap.size<q by omega);clear c z t x i m y f I o s;go_wp2_with (refine fq rfl (Z1 6) (Z1 35) rfl w.heap.size zb zb rfl rfl (by exact u.out.2.2.2.1) bR bR ?_);obtain ⟨m,y,i,f,o,hr⟩:=u.out;refine Um (v:=Z0 #[.agg (az zb),.iface 246 (Z6 (ZX ⟨q,0,ZY⟩))]) (fs results130 _ _ _ _ _ rfl rfl (lx (f.setRow _) bR)) rfl ?_;obtain ⟨B,C,J⟩:=i _ zb m y;exact ⟨B,C,.inr ⟨.inr h6,q,rfl,by omega,by rw [hl];exact (J q (by omega) o.lt).trans o⟩⟩
 . obtain ⟨q,A⟩:=nM (w1.heap.size);have o:fR w2 q d b 11:=(by rw [M,<- A];exact fR.new _ _ _ _);have s:ZS w1.heap.size w1 w2:=(by rw [M];exact bA w1 _);rw [A];unfold rk;have f:=H.out.2.1.keep (s.block _ H.out.2.1.lt);have u:=a5 o s f A;clear o s f A M I;go_wp2_with (refine fq rfl (Z1 6) (Z1 19) rfl w.heap.size zb zb rfl rfl u.out.2.2.1 bR bR ?_);obtain ⟨o,s,f,A⟩:=u.out;obtain ⟨c,z,t,x,i⟩:=H.out;refine Um (v:=Z0 #[.agg (az zb),.iface 246 (Z6 (ZX ⟨q,0,ZY⟩))]) (fs results130 _ _ _ _ _ rfl rfl (lx (f.setRow _) bR)) rfl ?_;obtain ⟨B,C,J⟩:=i _ zb (c.below s lR) (t.trans (aa.RS s _));exact ⟨B,C,.inr ⟨.inl hl,q,rfl,by omega,by rw [if_pos hl];exact (J q (by omega) o.lt).trans o⟩⟩
noncomputable def RWr:Array ZN:=((Tryz.f157.body.bind (pe · 9))).getD #[]
def aap:List (Op×Option Nat×a8):=[(Op.move (Z1 9),ZX 49,[]),
 (Op.nilCheck (Z1 49),ZX 50,[0]),
 (Op.fieldAddr 101 (Z1 50) 1,ZX 51,[1]),
 (Op.load 98 (Z1 51),ZX 52,[2]),
 (Op.move (Z1 2),ZX 53,[]),
 (Op.move (Z1 9),ZX 54,[]),
 (Op.nilCheck (Z1 54),ZX 55,[5]),
 (Op.fieldAddr 101 (Z1 55) 2,ZX 56,[6]),
 (Op.load 99 (Z1 56),ZX 57,[7]),
 (Op.move (Z1 2),ZX 58,[]),
 (Op.load 105 (Z1 7),ZX 59,[]),
 (Op.indexAddr 98 (Z1 52) (Z1 53),ZX 60,[3,4,0,1,2,3,4,8,10]),
 (Op.store 105 (Z1 60) (Z1 59),ZY,[11,10,0,1,2,3,4,8,10]),
 (Op.indexAddr 99 (Z1 57) (Z1 58),ZX 61,[8,9,0,1,2,3,4,5,6,7,8,9,10,11,12]),
 (Op.store 4 (Z1 61) (Operand.const (Value.bool ZV)),ZY,[13,12,0,1,2,3,4,5,6,7,8,9,10,11,12])]
def GD:aL RWr 49 62 aap:=bw (by kernel_rfl) (by kernel_rfl)
def aaq (F:aR) (nb d b:Nat) (l:a8):List ZT:=[Z6 (ZX ⟨F.g,d*4,ZY⟩),Z6 (ZX ⟨F.g,d*4,ZY⟩),Z6 (ZX ⟨F.g,d*4+1,ZY⟩),Z5 (ZX ⟨F.bb d,0,ZY⟩) nb nb,Z7 Z9 b,
 Z6 (ZX ⟨F.g,d*4,ZY⟩),Z6 (ZX ⟨F.g,d*4,ZY⟩),Z6 (ZX ⟨F.g,d*4+2,ZY⟩),Z5 (ZX ⟨F.bd d,0,ZY⟩) nb nb,Z7 Z9 b,.agg (az l),Z6 (ZX ⟨F.bb d,b*64,ZY⟩),ZZ,Z6 (ZX ⟨F.bd d,b,ZY⟩),ZZ]
def M4 (F:aR) (nb d b:Nat) (l:a8):List ZT:=[Z6 (ZX ⟨F.g,d*4,ZY⟩),Z6 (ZX ⟨F.g,d*4,ZY⟩),Z6 (ZX ⟨F.g,d*4+1,ZY⟩),Z5 (ZX ⟨F.bb d,0,ZY⟩) nb nb,Z7 Z9 b,Z6 (ZX ⟨F.g,d*4,ZY⟩),Z6 (ZX ⟨F.g,d*4,ZY⟩),Z6 (ZX ⟨F.g,d*4+2,ZY⟩),Z5 (ZX ⟨F.bd d,0,ZY⟩) nb nb,Z7 Z9 b,.agg (az l),Z6 (ZX ⟨F.bb d,b*64,ZY⟩),Z6 (ZX ⟨F.bd d,b,ZY⟩)]
def wbR (A:fK) (d b:Nat) (l:a8):fK:=A.RY d λm=>if m=b then l else A.blk d m
def Q3 (A:fK) (d b:Nat) (l:a8):fK:=(wbR A d b l).R5 d λm=>if m=b then ZV else A.bad d m
def jn (A:fK) (d b:Nat) (l:a8) (D:Nat->Bool):fK:=if D 14=ZW then Q3 A d b l else if D 12=ZW then wbR A d b l else A
def JL (A:fK) (d b:Nat) (l:a8) (D:Nat->Bool) (i:Nat) (a:i≠12) (c:i≠14):jn A d b l (fI D i)=jn A d b l D:=by
 unfold jn fI;rw [if_neg (λe:14=i=>c e.symm),if_neg (λe:12=i=>a e.symm)]
theorem yK (A:fK) (d b:Nat) (l:a8) (D:Nat->Bool):(jn A d b l D).n=A.n/\(jn A d b l D).nb=A.nb:=by
 unfold jn;split
 . exact ⟨rfl,rfl⟩
 . split<;>exact ⟨rfl,rfl⟩
theorem yL {Q:ZO->ZM->ZU->Prop} {a:ZM} {p:Nat} {A:fK} {F:aR} {box:Nat} (Y:RWr=ops) (h:ah w p A F) (C:d<A.n) (L:b<A.nb) (hl:l.length=64) (hx:∀ x∈l,x<256)
 (X:bJ w box l) (M:¬ F.S box) (hf:a.tmps.size=62) (J:a.eval (Z1 9)=Z6 (ZX ⟨F.g,d*4,ZY⟩)) (I:a.eval (Z1 2)=Z7 Z9 b) (N:a.eval (Z1 7)=Z6 (ZX ⟨box,0,ZY⟩))
 (W:∀ w',ah w' p (Q3 A d b l) F->aa (F.S) w w' ->
  Q .normal (Act.RR a 49 (M4 F A.nb d b l)) w') :
 (Code.region 9 ops ZW).wp ZJ Q a w:=by
 subst Y;have e4:(b:Int)<(A.nb:Int):=by omega
 refine fw (by kernel_rfl) GD a w (by omega) (λi v _=>v=(aaq F A.nb d b l).getD i ZZ) (λD w'=>ah w' p (jn A d b l D) F/\bJ w' box l/\aa (F.S) w w') ⟨(h.keep λ_ _=>rfl:ah w.drew p A F),X,aa.drew w⟩ ?_ ?_
 . intro i hi;have B:∀ (i:Nat),i≠12->i≠14->∀ (D:Nat->Bool) (w':ZU),(ah w' p (jn A d b l D) F/\bJ w' box l/\aa (F.S) w w')->(ah w' p (jn A d b l (fI D i)) F/\bJ w' box l/\aa (F.S) w w'):=λi O R D w' q=>by rw [JL A d b l D i O R];exact q
   match i,hi with
   | 0,_=>exact λo k w' D z ho r s u y m f j=>af (ag ho ((s.slot 9 (by omega)).trans J) w') r ⟨B 0 (by decide) (by decide) D w' f,rfl,kq⟩
   | 1,_=>
    intro o k w' D z ho r s u y m f j;have t:k.eval (Z1 49)=Z6 (ZX ⟨F.g,d*4,ZY⟩):=j 0 (m 0 (by decide));exact af (v:=Z6 (ZX ⟨F.g,d*4,ZY⟩)) (by (conv at ho=>rhs;whnf);simp only [execOp,ho,t];go_simp) r ⟨B 1 (by decide) (by decide) D w' f,rfl,kq⟩
   | 2,_=>
    intro o k w' D z ho r s u y m f j;have t:k.eval (Z1 50)=Z6 (ZX ⟨F.g,d*4,ZY⟩):=j 1 (m 1 (by decide));exact af (v:=Z6 (ZX ⟨F.g,d*4+1,ZY⟩)) (by (conv at ho=>rhs;whnf);simp only [execOp,ho,t];go_simp) r ⟨B 2 (by decide) (by decide) D w' f,rfl,kq⟩
   | 3,_=>
    intro o k w' D z ho r s u y m f j;have t:k.eval (Z1 51)=Z6 (ZX ⟨F.g,d*4+1,ZY⟩):=j 2 (m 2 (by decide));have c:=(f.1.Sd d (by rw [(yK A d b l D).1];exact C)).2.1;rw [(yK A d b l D).2] at c;exact af (v:=Z5 (ZX ⟨F.bb d,0,ZY⟩) A.nb A.nb) (by (conv at ho=>rhs;whnf);simp only [execOp,ho,t];go_simp) r ⟨B 3 (by decide) (by decide) D w' f,rfl,kq⟩
   | 4,_=>exact λo k w' D z ho r s u y m f j=>af (ag ho ((s.slot 2 (by omega)).trans I) w') r ⟨B 4 (by decide) (by decide) D w' f,rfl,kq⟩
   | 5,_=>exact λo k w' D z ho r s u y m f j=>af (ag ho ((s.slot 9 (by omega)).trans J) w') r ⟨B 5 (by decide) (by decide) D w' f,rfl,kq⟩
   | 6,_=>
    intro o k w' D z ho r s u y m f j;have t:k.eval (Z1 54)=Z6 (ZX ⟨F.g,d*4,ZY⟩):=j 5 (m 5 (by decide));exact af (v:=Z6 (ZX ⟨F.g,d*4,ZY⟩)) (by (conv at ho=>rhs;whnf);simp only [execOp,ho,t];go_simp) r ⟨B 6 (by decide) (by decide) D w' f,rfl,kq⟩
   | 7,_=>
    intro o k w' D z ho r s u y m f j;have t:k.eval (Z1 55)=Z6 (ZX ⟨F.g,d*4,ZY⟩):=j 6 (m 6 (by decide));exact af (v:=Z6 (ZX ⟨F.g,d*4+2,ZY⟩)) (by (conv at ho=>rhs;whnf);simp only [execOp,ho,t];go_simp) r ⟨B 7 (by decide) (by decide) D w' f,rfl,kq⟩
   | 8,_=>
    intro o k w' D z ho r s u y m f j;have t:k.eval (Z1 56)=Z6 (ZX ⟨F.g,d*4+2,ZY⟩):=j 7 (m 7 (by decide));have c:=(f.1.Sd d (by rw [(yK A d b l D).1];exact C)).2.2.1;rw [(yK A d b l D).2] at c;exact af (v:=Z5 (ZX ⟨F.bd d,0,ZY⟩) A.nb A.nb) (by (conv at ho=>rhs;whnf);simp only [execOp,ho,t];go_simp) r ⟨B 8 (by decide) (by decide) D w' f,rfl,kq⟩
   | 9,_=>exact λo k w' D z ho r s u y m f j=>af (ag ho ((s.slot 2 (by omega)).trans I) w') r ⟨B 9 (by decide) (by decide) D w' f,rfl,kq⟩
   | 10,_=>
    intro o k w' D z ho r s u y m f j;have t:k.eval (Z1 7)=Z6 (ZX ⟨box,0,ZY⟩):=(s.slot 7 (by omega)).trans N;exact af (v:=.agg (az l)) (by (conv at ho=>rhs;whnf);simp [execOp,ho,t,ng f.2.1 hl]) r ⟨B 10 (by decide) (by decide) D w' f,rfl,kq⟩
   | 11,_=>
    intro o k w' D z ho r s u y m f j;have t:k.eval (Z1 52)=Z5 (ZX ⟨F.bb d,0,ZY⟩) A.nb A.nb:=j 3 (m 3 (by decide));have H:k.eval (Z1 53)=Z7 Z9 b:=j 4 (m 4 (by decide));exact af (v:=Z6 (ZX ⟨F.bb d,b*64,ZY⟩)) (by (conv at ho=>rhs;whnf);simp only [execOp,ho,t,H];go_simp) r ⟨B 11 (by decide) (by decide) D w' f,rfl,kq⟩
   | 12,_=>
    intro o k w' D z ho r s u y m f j;have t:k.eval (Z1 60)=Z6 (ZX ⟨F.bb d,b*64,ZY⟩):=j 11 (m 11 (by decide));have H:k.eval (Z1 59)=.agg (az l):=j 10 (m 10 (by decide));have K:D 14=ZV:=by
     cases q:D 14 with
     | false=>rfl
     | true=>have:=(y 14 q).2 12 (by decide);rw [u] at this;cases this
    have E:jn A d b l D=A:=(by unfold jn;rw [if_neg (by rw [K];decide),if_neg (by rw [u];decide)]);have G:jn A d b l (fI D 12)=wbR A d b l:=(by unfold jn fI;rw [if_neg (by rw [if_neg (by decide),K];decide),if_pos (by rw [if_pos rfl])]);rw [E] at f;refine ig (w':=w'.setCells (F.bb d) (b*64) (aI l)) ?_ ⟨?_,rfl,kq⟩
    . have:=run_storeAt_mid (P:=ZJ) w' (F.bb d) (b*64) 105 (az l) (by rw [ix,hl];exact f.1.there C L) (eV hl) (AJ l);rw [we] at this;(conv at ho=>rhs;whnf);simp [execOp,ho,t,H,this]
    . show ah _ p (jn A d b l (fI D 12)) F/\_/\_;rw [G];refine ⟨f.1.setBlk C b hl hx,f.2.1.keep (aS _ _ _ _ _ (λe=>M (e▸h.sb C))),f.2.2.trans (aa.setCells _ _ _ _ (h.sb C))⟩
   | 13,_=>
    intro o k w' D z ho r s u y m f j;have t:k.eval (Z1 57)=Z5 (ZX ⟨F.bd d,0,ZY⟩) A.nb A.nb:=j 8 (m 8 (by decide));have H:k.eval (Z1 58)=Z7 Z9 b:=j 9 (m 9 (by decide));exact af (v:=Z6 (ZX ⟨F.bd d,b,ZY⟩)) (by (conv at ho=>rhs;whnf);simp only [execOp,ho,t,H];go_simp) r ⟨B 13 (by decide) (by decide) D w' f,rfl,kq⟩
   | 14,_=>
    intro o k w' D z ho r s u y m f j;have t:k.eval (Z1 61)=Z6 (ZX ⟨F.bd d,b,ZY⟩):=j 13 (m 13 (by decide));have T:D 12=ZW:=m 12 (by decide);have E:jn A d b l D=wbR A d b l:=(by unfold jn;rw [if_neg (by rw [u];decide),if_pos T]);have G:jn A d b l (fI D 14)=Q3 A d b l:=(by unfold jn fI;rw [if_pos (by rw [if_pos rfl])]);rw [E] at f;have c:=(f.1.bad d C).cell L;have fz:=(f.1.bad d C).frozen b;refine ig (w':=w'.setCell ⟨F.bd d,b,ZY⟩ (Z2 ZV)) ?_ ⟨?_,rfl,kq⟩
    . (conv at ho=>rhs;whnf);simp only [execOp,ho,t];go_simp
    . show ah _ p (jn A d b l (fI D 14)) F/\_/\_;rw [G];exact ⟨f.1.Ty C b ZV,f.2.1.keep (Ud _ _ _ _ (λe=>M (e▸h.sd C))),f.2.2.trans (aa.setCell _ _ _ (h.sd C))⟩
   | n+15,hn=>exact absurd hn (by show ¬ n+15<15;omega)
 . rintro k w' s ⟨D,U,E,_,V⟩ j;have G:jn A d b l D=Q3 A d b l:=(by unfold jn;rw [if_pos (U 14 (by decide))]);rw [G] at E;have Z:∀ i:Nat,i<13->k.eval (.tmp (49+i))=(M4 F A.nb d b l).getD i ZZ:=by
    intro i hi;match i,hi with
    | 0,_=>exact j 0 (by decide)
    | 1,_=>exact j 1 (by decide)
    | 2,_=>exact j 2 (by decide)
    | 3,_=>exact j 3 (by decide)
    | 4,_=>exact j 4 (by decide)
    | 5,_=>exact j 5 (by decide)
    | 6,_=>exact j 6 (by decide)
    | 7,_=>exact j 7 (by decide)
    | 8,_=>exact j 8 (by decide)
    | 9,_=>exact j 9 (by decide)
    | 10,_=>exact j 10 (by decide)
    | 11,_=>exact j 11 (by decide)
    | 12,_=>exact j 13 (by decide)
    | n+13,hn=>exact absurd hn (by show ¬ n+13<13;omega)
   rw [s.out (M4 F A.nb d b l) rfl (by omega) Z];exact W w' E V
def Pd (w:ZU) (p d b:Nat) (l:a8) (R:fK) (F:aR) (x:ZT) (w':ZU):Prop:=aa F.S w w'/\((R.lost d=ZV/\x=.nilIface/\ah w' p (Q3 R d b l) F)\/(R.lost d=ZW/\ah w' p R F/\∃ q,x=rk q/\fR w' q d b 11))
theorem JM (h:ah w p R F) (d b:Nat) (r:d<R.n) (o:b<R.nb) (l:a8) (t:l.length=64) (A:∀ x∈l,x<256) :
 ZR ZJ 157 #[Z6 (ZX ⟨p,0,ZY⟩),Z7 Z9 d,Z7 Z9 b,.agg (az l)] w λe w'=>∃ x,e=Z3 x/\Pd w p d b l R F x w':=by
 have a:=h.alloc (Z4 (az l) 105);have f:=bJ.new w l;have c:aa F.S w (w.alloc (Z4 (az l) 105)):=aa.alloc w _;have u:¬ F.S w.heap.size:=λq=>by have:=h.RU q;omega
 obtain ⟨w1,v⟩:=nM (w.alloc (Z4 (az l) 105));rw [v] at a f c;obtain ⟨c0,c1⟩:=a.RX;have k:=Fs a d b r o;have H:=aE a f c;clear h a f c;go_enter func157,ntmps157;go_wp2_with fail;refine k.mono ?_;rintro e w2 (⟨hl,rfl,rfl⟩|⟨hl,rfl,j⟩)
 . obtain ⟨a,f,c⟩:=H.out;clear k;go_wp2_with fail;refine yL (by kernel_rfl) a r o t A f u rfl rfl rfl rfl ?_;intro B y z;rename_i hK
   refine hK _ _ ?_;simp only [Act.RR,M4];go_wp2;go_ret;exact ⟨_,rfl,c.trans z,.inl ⟨hl,rfl,y⟩⟩
 . have i:fR w2 w1.heap.size d b 11:=(by rw [j];exact fR.new _ _ _ _);have m:ZS w1.heap.size w1 w2:=(by rw [j];exact bA w1 _);obtain ⟨q,s⟩:=nM (w1.heap.size);rw [s] at i ⊢;unfold rk;have g:=au i m;clear i m s j k c0 c1;go_wp2;go_ret;exact ⟨_,rfl,H.out.2.2.trans (aa.RS g.out.2 _),.inr ⟨hl,H.out.1.below g.out.2 lR,q,rfl,g.out.1⟩⟩
end
def aG (w:ZU):Prop:=∀ j,j<64->w.cell? ⟨1,j,ZY⟩=ZX (Z7 .u8 ((Lib.deBruijn64tab.getD j 0:Nat):Int))
def aG.mono (h:aG w) (a:1<B) (b:ZS B w w'):aG w':=λj c=>(b.cell (p:=⟨1,j,ZY⟩) a).trans (h j c)
def Pe (x a:Nat) (d:x<18446744073709551616) (e:x≠0) (c:x &&& (18446744073709551616-x)=a) :
 IntKind.u64.wrap (bits BinOp.and IntKind.u64 (x:Int) (IntKind.u64.wrap (-(x:Int)))*285870213051353865)/288230376151711744=((a*285870213051353865%18446744073709551616/288230376151711744:Nat):Int):=by
 have b:IntKind.u64.wrap (-(x:Int))=((18446744073709551616-x:Nat):Int):=by rw [U5];omega
 rw [b,bits_and_u64_nat x _ d (by omega),c,U5];omega
def nT (x:Nat):Nat:=Lib.ctzFrom 64 x
def sJ (a:x≠0) (b:x<65536):∃ m,x=2^nT x*(2*m+1)/\nT x<64:=Lib.ctzFrom_spec 64 x (by omega) (by omega)
theorem M5 (x k idx:Nat) (w:ZU) (b:((x:Int)==0)=ZV)
 (key:IntKind.u64.wrap (bits BinOp.and IntKind.u64 (x:Int) (IntKind.u64.wrap (-(x:Int)))*285870213051353865)/288230376151711744=(idx:Int))
 (hi:idx<64) (c:k<64) (a:w.cell? ⟨1,idx,ZY⟩=ZX (Z7 .u8 k)) :
 ZR ZJ 156 #[Z7 Z8 x] w λe w'=>e=Z3 (Z7 Z9 k)/\w'=w:=by
 go_enter func156,ntmps156;go_wp2_with (simp only [key]);go_ret;exact ⟨rfl,rfl⟩
def JN (x:Nat) (a:x≠0) (i:x<65536) (w:ZU) (h:aG w) :
 ZR ZJ 156 #[Z7 Z8 x] w λe w'=>e=Z3 (Z7 Z9 (nT x))/\w'=w:=by
 obtain ⟨m,d,c⟩:=sJ a i;have f:x &&& (18446744073709551616-x)=2^nT x:=by
  have:=Lib.and_neg 64 (nT x) m (by rw [<- d];omega);rw [<- d] at this;exact this
 obtain ⟨hi,g⟩:=Lib.deBruijn64_at _ c;have b:=h _ hi;rw [g] at b;exact M5 x _ _ w (by simp;omega) (Pe x _ (by omega) a f) hi c b
theorem Ft (n:x≠0) (p:x<65536):x &&& (x-1)=bH x (nT x):=by
 obtain ⟨m,d,_⟩:=sJ n p;generalize nT x=k at d;have:0<2^k:=VP k;have o:2^(k+1)=2*2^k:=by rw [Xa];omega
 have f:x=2^(k+1)*m+2^k:=by rw [d,o,Nat.mul_add,VW,Wl 2 (2^k),Nat.mul_assoc]
 have g:x-1=2^(k+1)*m+(2^k-1):=by omega
 apply W9;intro j;rw [Xg,g,lq];have h:=YP m (i:=k+1) (b:=2^k) (by omega) j;have l:=YP m (i:=k+1) (b:=2^k-1) (by omega) j;rw [l,f,h];by_cases a:j<k+1
 . rw [if_pos a,if_pos a,XF,We];have c:decide (k<j)=ZV:=(by simp;omega);rw [c,Bool.false_and];by_cases e:k=j
   . simp [e]
   . simp [e]
 . rw [if_neg a,if_neg a];have c:decide (k<j)=ZW:=(by simp;omega);rw [c,Bool.true_and,Bool.and_self]
theorem rO (e:x≠0) (g:x<65536):x.testBit (nT x)=ZW/\∀ j,j<nT x->x.testBit j=ZV:=by
 obtain ⟨m,d,_⟩:=sJ e g;generalize nT x=k at d;have:0<2^k:=VP k;have f:2^(k+1)=2*2^k:=by rw [Xa];omega
 have a:x=2^(k+1)*m+2^k:=by rw [d,f,Nat.mul_add,VW,Wl 2 (2^k),Nat.mul_assoc]
 have c:=λj=>YP m (i:=k+1) (b:=2^k) (by omega) j;constructor
 . rw [a,c,if_pos (by omega),Nat.testBit_two_pow_self]
 . intro j h;rw [a,c,if_pos (by omega),XF];simp;omega
def JO (b:x≠0) (a:x<65536):nT x<16:=by
 refine Nat.lt_of_not_le λh=>?_;have:=WO (x:=x) (i:=nT x) (TZ a (Vq (n:=2) (by decide) h));rw [(rO b a).1] at this;cases this
def iH (b:x≠0) (c:x<65536):ab x=nT x::ab (bH x (nT x)):=by
 have h:nT x∈ab x:=cO.2 ⟨JO b c,(rO b c).1⟩;obtain ⟨pre,R,e⟩:=List.append_of_mem h;rw [AD e];have f:=qD x;rw [e] at f;cases pre with
 | nil=>exact e
 | cons a pre=>
  have g:=(aaT.1 f).2.2 a (by simp) (nT x) (by simp);have d:=(cO.1 (show a∈ab x by rw [e];simp)).2;rw [(rO b c).2 a g] at d;cases d
def pA (x k:Nat) (a:x<65536):bH x k<65536:=by
 unfold bH;exact Yc (YW _ _) a
def wt:ab 0=[]:=by decide
def Q4 (x:Nat):Nat:=(x/2 &&& 6148914691236517205)+(x &&& 6148914691236517205)
def Q5 (x:Nat):Nat:=(x/4 &&& 3689348814741910323)+(x &&& 3689348814741910323)
def sw3 (x:Nat):Nat:=(x/16+x) &&& 1085102592571150095
def sw (x:Nat):Nat:=sw3 (Q5 (Q4 x))
def pb (b:Nat):Nat:=b%2+b/2%2+b/4%2+b/8%2+b/16%2+b/32%2+b/64%2+b/128%2
def tst (n:Nat):Nat->Bool
 | 0=>ZW
 | k+1=>(sw (n*256+k)==pb n*256+pb k)&&tst n k
def Pf:Nat->Bool
 | 0=>ZW
 | n+1=>tst n 256&&Pf n
def aar:Pf 256=ZW:=by decide +kernel
def JP:∀ {k},tst n k=ZW->∀ j,j<k->sw (n*256+j)=pb n*256+pb j
 | 0,_,j,h=>absurd h (by omega)
 | k+1,h,j,hj=>by
  obtain ⟨a,b⟩:=YI.1 h;by_cases e:j=k
  . rw [e];exact eq_of_beq a
  . exact JP b j (by omega)
def Fu:∀ {n},Pf n=ZW->∀ i,i<n->tst i 256=ZW
 | 0,_,i,h=>absurd h (by omega)
 | n+1,h,i,hi=>by
  obtain ⟨a,b⟩:=YI.1 h;by_cases e:i=n
  . rw [e];exact a
  . exact Fu b i (by omega)
def Q6 (a:x<65536):sw x=pb (x/256)*256+pb (x%256):=by
 have:=JP (Fu aar (x/256) (by omega)) (x%256) (by omega);rwa [show x/256*256+x%256=x by omega] at this
def Pg (x i:Nat):(if x.testBit i=ZW then 1 else 0)=x/2^i%2:=by
 rw [XG];by_cases h:x/2^i%2=1
 . simp [h]
 . have:=WJ (x/2^i);simp [h];omega
def OH (b:Nat):pb b<=8:=by unfold pb;omega
theorem JQ (x:Nat):(ab x).length=pb (x/256)+pb (x%256):=by
 have h:∀ n,((YD n).filter (λi=>x.testBit i)).length=((YD n).map (λi=>x/2^i%2)).sum:=by
  intro n;induction n with
  | zero=>rfl
  | succ n ih=>
   rw [Vs,Wd,T8,ih,Uw,Yd];have e:=Pg x n;have m:([n].map (λi=>x/2^i%2)).sum=x/2^n%2:=(by simp);rw [m,<- e];by_cases e:x.testBit n=ZW
   . simp [e]
   . simp [e]
 unfold ab pb;rw [h];have a:YD 16=[0,1,2,3,4,5,6,7,8,9,10,11,12,13,14,15]:=by decide
 rw [a];simp only [Uu,UY,Xh,List.sum_nil,Nat.reducePow,Nat.div_one];have b:x%256%2=x%2:=by omega
 have c:x%256/2%2=x/2%2:=by omega
 have d:x%256/4%2=x/4%2:=by omega
 have f:x%256/8%2=x/8%2:=by omega
 have g:x%256/16%2=x/16%2:=by omega
 have j:x%256/32%2=x/32%2:=by omega
 have k:x%256/64%2=x/64%2:=by omega
 have l:x%256/128%2=x/128%2:=by omega
 rw [b,c,d,f,g,j,k,l];clear b c d f g j k l h a;simp only [YQ,Nat.reduceMul];generalize x%2=o;generalize x/2%2=p;generalize x/4%2=q;generalize x/8%2=r;generalize x/16%2=s;generalize x/32%2=t;generalize x/64%2=u;generalize x/128%2=v;generalize x/256%2=b0;generalize x/512%2=b1;generalize x/1024%2=b2;generalize x/2048%2=b3;generalize x/4096%2=w;generalize x/8192%2=y;generalize x/16384%2=z;generalize x/32768%2=A;omega
def AM (h:k<64):2^k<18446744073709551616:=TZ (V0 (by decide) h) lR
def GE (k:Nat) (h:k<=16):IntKind.u64.wrap (IntKind.u64.wrap (2^k)-1)=((2^k-1:Nat):Int):=by
 have:=AM (k:=k) (by omega);have:0<2^k:=VP k;have e:((2:Int)^k)=((2^k:Nat):Int):=by rw [XH];rfl
 rw [e,U5,U5];omega
theorem mn (k:Nat) (a:k<=16) (w:ZU) :
 ZR ZJ 114 #[Z7 Z9 k] w λe w'=>e=Z3 (Z7 Z8 ((2^k-1:Nat):Int))/\w'=w:=by
 have key:=GE k a;go_enter func114,ntmps114;go_wp2;go_ret;exact ⟨rfl,rfl⟩
def gk (a b:Nat) (c:a<18446744073709551616) (d:b<18446744073709551616):bits .and .u64 (a:Int) (b:Int)=((a &&& b:Nat):Int):=bits_and_u64_nat a b c d
theorem k1 (x:Nat) (h:x<65536):IntKind.u64.wrap (bits .and .u64 ((x:Int)/2) 6148914691236517205+bits .and .u64 (x:Int) 6148914691236517205)=((Q4 x:Nat):Int)/\Q4 x<131072:=by
 have e:(x:Int)/2=((x/2:Nat):Int):=by omega
 have d:=gk (x/2) 6148914691236517205 (by omega) (by decide);have f:=gk x 6148914691236517205 (by omega) (by decide);have:=Xi (n:=x/2) (m:=6148914691236517205);have:=Xi (n:=x) (m:=6148914691236517205);unfold Q4;rw [e];refine ⟨?_,by omega⟩;have c:bits .and .u64 ((x/2:Nat):Int) 6148914691236517205=((x/2 &&& 6148914691236517205:Nat):Int):=d;have g:bits .and .u64 (x:Int) 6148914691236517205=((x &&& 6148914691236517205:Nat):Int):=f;rw [c,g,U5];generalize (x/2 &&& 6148914691236517205)=a at *;generalize (x &&& 6148914691236517205)=b at *;omega
theorem k2 (x:Nat) (h:x<131072):IntKind.u64.wrap (bits .and .u64 ((x:Int)/4) 3689348814741910323+bits .and .u64 (x:Int) 3689348814741910323)=((Q5 x:Nat):Int)/\Q5 x<262144:=by
 have e:(x:Int)/4=((x/4:Nat):Int):=by omega
 have d:=gk (x/4) 3689348814741910323 (by omega) (by decide);have f:=gk x 3689348814741910323 (by omega) (by decide);have:=Xi (n:=x/4) (m:=3689348814741910323);have:=Xi (n:=x) (m:=3689348814741910323);unfold Q5;rw [e];refine ⟨?_,by omega⟩;have c:bits .and .u64 ((x/4:Nat):Int) 3689348814741910323=((x/4 &&& 3689348814741910323:Nat):Int):=d;have g:bits .and .u64 (x:Int) 3689348814741910323=((x &&& 3689348814741910323:Nat):Int):=f;rw [c,g,U5];generalize (x/4 &&& 3689348814741910323)=a at *;generalize (x &&& 3689348814741910323)=b at *;omega
def k3 (x:Nat) (a:x<262144):bits .and .u64 (IntKind.u64.wrap ((x:Int)/16+(x:Int))) 1085102592571150095=((sw3 x:Nat):Int):=by
 have e:IntKind.u64.wrap ((x:Int)/16+(x:Int))=((x/16+x:Nat):Int):=by rw [U5];omega
 rw [e];exact gk (x/16+x) 1085102592571150095 (by omega) (by decide)
theorem k4 (x c:Nat) (a:x<1048576):IntKind.u64.wrap ((x:Int)+(x:Int)/(c:Int))=((x+x/c:Nat):Int):=by
 have:=V2 x c;have e:(x:Int)/(c:Int)=((x/c:Nat):Int):=(Ye x c).symm;rw [U5,e];generalize x/c=d at *;omega
def Ph (x:Nat):x &&& 127=x%128:=YT x 7
theorem JR (x:Nat) (u:x<65536) (w:ZU) :
 ZR ZJ 213 #[Z7 Z8 x] w λe w'=>e=Z3 (Z7 Z9 ((ab x).length:Nat))/\w'=w:=by
 obtain ⟨g,b1⟩:=k1 x u;obtain ⟨h,b2⟩:=k2 _ b1;have a:=k3 _ b2;have t:=Q6 u;have v:=OH (x/256);have y:=OH (x%256);have s:=JQ x;have e:sw3 (Q5 (Q4 x))=pb (x/256)*256+pb (x%256):=t;generalize pb (x/256)=p at *;generalize pb (x%256)=q at *;have b:=k4 (p*256+q) 256 (by omega);have n:p*256+q+(p*256+q)/256=p*257+q:=by omega
 have c:=k4 (p*257+q) 65536 (by omega);have o:p*257+q+(p*257+q)/65536=p*257+q:=by rw [Xb (by omega),VJ]
 have d:=k4 (p*257+q) 4294967296 (by omega);have r:p*257+q+(p*257+q)/4294967296=p*257+q:=by rw [Xb (by omega),VJ]
 rw [n] at b;rw [o] at c;rw [r] at d;have f:=MW (p*257+q) 127 (by omega) (by decide);rw [Ph,show (p*257+q)%128=p+q by omega,<- s] at f;have i:wrap64 ((p*257+q:Nat):Int)=((p*257+q:Nat):Int):=by unfold wrap64;omega
 rw [e] at a;clear e t s n o r;have H:=hide8 g h a b c d f i;clear g h a b c d f i;go_enter func213,ntmps213;go_wp2;obtain ⟨g,h,a,b,c,d,f,i⟩:=H.out;simp only [g];simp only [h];simp only [a];have j:IntKind.u64.wrap (((p*256+q:Nat):Int)+((p*256+q:Nat):Int)/256)=((p*257+q:Nat):Int):=b;have k:IntKind.u64.wrap (((p*257+q:Nat):Int)+((p*257+q:Nat):Int)/65536)=((p*257+q:Nat):Int):=c;have l:IntKind.u64.wrap (((p*257+q:Nat):Int)+((p*257+q:Nat):Int)/4294967296)=((p*257+q:Nat):Int):=d;have m:bits .and .i64 ((p*257+q:Nat):Int) 127=(((ab x).length:Nat):Int):=f;simp only [j,k,l,i,m];go_ret;exact ⟨rfl,rfl⟩
theorem AN (x:Nat) (a:x<65536) (w:ZU) :
 ZR ZJ 209 #[Z7 Z8 x] w λe w'=>e=Z3 (Z7 Z9 ((ab x).length:Nat))/\w'=w:=by
 go_enter func209,ntmps209;go_wp2_with fail;refine (JR x a _).mono ?_;rintro e w' ⟨rfl,rfl⟩;go_wp2;go_ret;exact ⟨rfl,rfl⟩
theorem Ds (x k:Nat) (c:x<65536) (f:k<=16):bits .andNot .u64 (x:Int) ((2^k-1:Nat):Int)=((x/2^k*2^k:Nat):Int):=by
 have d:=AM (k:=k) (by omega);have e:0<2^k:=VP k;have h:=u64_andNot_nat x (2^k-1) (by omega) (by omega);rw [h];congr 1;apply W9;intro j;rw [Xg,abg,show 18446744073709551615-(2^k-1)=2^64-(2^k-1+1) by omega,XD (by omega),We,abh];by_cases a:k<=j
 . rw [show j-k+k=j by omega];by_cases b:j<64
   . simp [a,b,show ¬ j<k by omega]
   . have:x.testBit j=ZV:=WO (TZ c (Vq (n:=2) (i:=16) (by decide) (by omega)));simp [this]
 . simp [a,show j<k by omega]
theorem Du (x k:Nat) (a:x<65536) (c:k<16) (w:ZU) :
 ZR ZJ 217 #[Z7 Z8 x,Z7 Z9 k] w λe w'=>e=Z3 (Z7 Z8 (bH x k:Nat))/\w'=w:=by
 have key:=Ds x (k+1) a (by omega);have d:wrap64 ((k:Int)+1)=((k+1:Nat):Int):=by unfold wrap64;omega
 have b:IntKind.i64.wrap ((k:Int)+1)=((k+1:Nat):Int):=by rw [Ut];omega
 have H:=al key;clear key;go_enter func217,ntmps217;go_wp2_with fail;refine (mn (k+1) (by omega) _).mono ?_;rintro e w' ⟨rfl,rfl⟩;go_wp2;rw [H.out];go_ret;exact ⟨rfl,rfl⟩
structure bj (B:Nat) (w w':ZU):Prop where
 os:w'.os=w.os
 tape:w'.tape=w.tape
 output:w'.output=w.output
 size:w.heap.size<=w'.heap.size
 block:∀ k,B<=k->k<w.heap.size->w'.heap[k]?=w.heap[k]?
def bj.refl (B:Nat) (w:ZU):bj B w w:=⟨rfl,rfl,rfl,TV _,λ_ _ _=>rfl⟩
def bj.trans {b c:ZU} (h:bj B a b) (k:bj B b c):bj B a c:=
 ⟨k.os.trans h.os,k.tape.trans h.tape,k.output.trans h.output,TW h.size k.size,λi d e=>(k.block i d (by have:=h.size;omega)).trans (h.block i d e)⟩
def bj.mono {B':Nat} (h:bj B w w') (c:B<=B'):bj B' w w':=⟨h.os,h.tape,h.output,h.size,λk b a=>h.block k (by omega) a⟩
def bj.RT (h:ZS w.heap.size w w'):bj B w w':=⟨h.os,h.tape,h.output,h.size,λk _ a=>h.block k a⟩
def bj.setCell (h:bj B a w) {p:ZQ} (d:p.block<B\/a.heap.size<=p.block) (u:ZT):bj B a (w.setCell p u):=
 ⟨h.os,h.tape,h.output,by have:=h.size;simpa [World.setCell] using this,λk b c=>(V3 _ _ _ _ (by omega)).trans (h.block k b c)⟩
def bj.putObj (h:bj B a w) {l:Nat} (d:l<B\/a.heap.size<=l) (o:Obj):bj B a (w.putObj l o):=
 ⟨h.os,h.tape,h.output,by have:=h.size;have:=(WW w l o).size;omega,λk b c=>(UV (by omega)).trans (h.block k b c)⟩
def Below.RV (h:ZS B a w) {l:Nat} (b:B<=l) (hl:l<w.heap.size) (o:Obj):ZS B a (w.putObj l o):=
 h.grown (WW w l o) (by omega) (λk e=>by cases e;exact b)
def bj.keeps {C:Nat} (h:bj B w w') (c:B<=C):KeepsFrom C w w':=
 ⟨h.size,λk o b a _=>(h.block k (by omega) (TX.1 a).1).trans a⟩
def cV (h:ZR P f args w R) (k:∀ e w',R e w'->R' e w') :
 Fence.wide.fn f/\(Fence.wide.depth.isSome=ZW->1<=n)/\CallsIn Fence.wide m P f args w R':=
 ⟨trivial,λh=>(by cases h),Vk.2 (h.mono k)⟩
def ef {l:Nat} (h:ZR P f args w R) (k:∀ e w',R e w'->R' e w') :
 (Fence.wide.inRound l).fn f/\((Fence.wide.inRound l).depth.isSome=ZW->1<=n)/\CallsIn (Fence.wide.inRound l) m P f args w R':=
 ⟨trivial,λh=>(by cases h),CallsIn.inRound l (Vk.2 (h.mono k))⟩
def Pi (Q:ZO->ZM->ZU->Prop):ZO->ZM->ZU->Prop
 | .goto _,_,_=>False
 | .exit _,_,_=>False
 | e,a,w=>Q e a w
def ij {b:Frame} {a:ZM} {k:List Item} {cs:List Frame} {c:Code}:step P (lone (b.atR a (.code (.scope c)::k)) cs w)=.next (lone (b.atR a (.code c::.inScope c::k)) cs w):=
 step_lone_go (by simp [stepG,stepG.exec,Frame.atR])
def sK {b:Frame} {a:ZM} {k:List Item} {cs:List Frame} {c:Code}:step P (lone (b.atR a (.inScope c::k)) cs w)=.next (lone (b.atR a k) cs w):=
 step_lone_go (by simp [stepG,stepG.exec,Frame.atR])
def JS {F:Fence} {c:Code} {Q:ZO->ZM->ZU->Prop} {a:ZM} (h:c.wpIn F n P (Pi Q) a w):(Code.scope c).wpIn F n P Q a w:=by
 intro b k cs p m o;have g:(lone (b.atR a (.code (.scope c)::k)) cs w).fenced P F:=fenced_calm m o rfl;obtain ⟨e,f,j,d,i⟩:=h b (.inScope c::k) cs p m o;cases e with
 | normal=>exact ⟨.normal,f,j,d,.head g ij (StepsIn.trans i (.one (fenced_calm m o rfl) sK))⟩
 | exit id=>exact d.elim
 | goto l=>exact d.elim
 | ret=>exact ⟨_,f,j,d,.of_steps (.one g ij) i⟩
 | panic q=>exact ⟨_,f,j,d,.of_steps (.one g ij) i⟩
 | outgrown=>exact ⟨_,f,j,d,.of_steps (.one g ij) i⟩
def Pj {σ:Type} (B:Nat) (I:σ->ZU->Prop) (s:σ) (W:ZU):ZO->ZM->ZU->Prop
 | .normal,_,W'=>I s W'/\bj B W W'
 | _,_,_=>False
def GF (k:Nat):Fence.wide.room k:=λd h=>by cases h
def wA {m':Nat} {l:Nat} {tmps:Array ZT} {assign body:Code} (h:RoundIn Fence.wide m P l f tmps assign body w R):RoundIn Fence.wide m' P l f tmps assign body w R:=⟨h.1,λc cs _=>h.2 c cs (GF _)⟩
theorem JT (m:Nat) {α σ:Type} {g:ZK} {ps:Array Tmp} {assign body:Code} {Q:ZO->ZM->ZU->Prop} {a:ZM} {w:ZU}
 {gf:Nat} {lb:Array ZT} (hg:a.eval g=.func (.func gf) #[] lb) (eg:∀ args w,(callFunc gf args).run P w=.ok (.enter gf args) w)
 {encs:α->Array ZT} (ka:∀ x,(encs x).size=ps.size) (step:σ->α->σ) (F:α->Prop)
 (I:σ->ZU->Prop) (j:∀ s A B,I s A->ZS w.heap.size A B->I s B) (S:σ->Prop) (s0:σ)
 (h6:∀ (l:Nat) (J:σ->ZU->Prop) (W:ZU),ZS w.heap.size w W->W.heap.size=w.heap.size+2 ->
  (∀ s A B,J s A->ZS (w.heap.size+2) A B->J s B)->(∀ s A,J s A->I s A/\w.heap.size+2<=A.heap.size) ->
  (∀ m s x b,J s b->F x->YieldAt Fence.wide m P l (encs x) b λe d=>e=Z3 (Z2 ZW)/\J (step s x) d/\bj (w.heap.size+2) b d)->J s0 W ->
  CallsIn Fence.wide (n-1) P gf (#[.func (.yield l) #[] #[]]++lb) W λe d=>(∃ v,e=Z3 v)/\∃ s,S s/\J s d)
 (h0:I s0 w) (C:Nat->α->ZM->ZU->Prop) (hv:∀ B x c A N,C B x c A->bj B A N->C B x c N)
 (h1:∀ (l:Nat) (s:σ) (x:α) (W:ZU) (K:ZM->ZU->Prop),I s W->F x->(∀ c d,ZS W.heap.size W d->C W.heap.size x c d->K c d) ->
  assign.wpIn (Fence.wide.inRound l) m P (Exit.then K (λ_ _ _=>False)) { tmps:=(ps.zip (encs x)).foldl (λt (p,v)=>t.setIfInBounds p v) a.tmps,defers:=[] } W)
 (h5:∀ (l B:Nat) (s:σ) (x:α) (c:ZM) (W:ZU),w.heap.size<=l->l<B->B<=W.heap.size->(∃ r,W.heap[l]?=ZX (.loop r))->I s W->F x->C B x c W->body.wpIn (Fence.wide.inRound l) m P (Pj w.heap.size I (step s x) W) c W)
 (h7:∀ (D:Nat) (s:σ) (W:ZU),w.heap.size<=D->S s->I s W->W.heap[D]?=ZX (.deferred (ZX []))->Q .normal { a with defers:={ target:=.collected D,args:=#[] }::a.defers } W) :
 (Code.rangeFunc g ps assign body).wpIn Fence.wide n P Q a w:=by
 refine wpIn_rangeFunc λfn k8=>?_;obtain ⟨rc,f⟩:∃ rc:LoopState->Loop,rc=λst=>{ state:=st,pending:=ZY,fn,tmps:=a.tmps,params:=ps,assign,body,defers:=w.heap.size }:=⟨_,rfl⟩;obtain ⟨b,u⟩:=nM ((w.alloc (.deferred (ZX []))).alloc (.loop (rc .ready)));have U:ZS w.heap.size w b:=by rw [<- u];exact (bA w _).alloc (by simp) _
 have kb:b.heap.size=w.heap.size+2:=by rw [<- u];simp
 have hz:b.heap[w.heap.size+1]?=ZX (.loop (rc .ready)):=by
  rw [<- u];have:=XI (w.alloc (.deferred (ZX []))) (.loop (rc .ready));rwa [Uq] at this
 have hx:b.heap[w.heap.size]?=ZX (.deferred (ZX [])):=by
  rw [<- u];exact (VY _ _ _ (by simp)).trans (XI w _)
 refine ⟨w.heap.size+1,[{ target:=.collected w.heap.size,args:=#[] }],b,{ target:=.fn (.func gf) lb,args:=#[.func (.yield (w.heap.size+1)) #[] #[]] },b,gf,
  #[.func (.yield (w.heap.size+1)) #[] #[]]++lb,b,?_,?_,λ_ _=>trivial,?_,λh=>(by cases h),?_⟩
 . rw [<- u,f];exact run_enterLoop_outer _ _ _ _ _
 . simp only [resolve,hg];simp [go_sem]
 . simp [invoke,go_sem,eg]
 refine (h6 (w.heap.size+1) (λs W=>I s W/\W.heap[w.heap.size+1]?=ZX (.loop (rc .ready))/\W.heap[w.heap.size]?=ZX (.deferred (ZX []))) b U kb ?_ ?_ ?_ ⟨j _ _ _ h0 U,hz,hx⟩).mono ?_
 . rintro s A B ⟨hi,hl,z⟩ G;exact ⟨j _ _ _ hi (G.mono (by omega)),(G.block _ (by omega)).trans hl,(G.block _ (by omega)).trans z⟩
 . rintro s A ⟨hi,hl,_⟩;exact ⟨hi,(TX.1 hl).1⟩
 ·
  rintro m' s x W ⟨hi,hl,z⟩ Z;have y:w.heap.size+1<W.heap.size:=(TX.1 hl).1;have M:=run_yield (P:=P) (args:=encs x) hl (by rw [f];exact ka x);rw [f] at M;refine ⟨fn,_,assign,body,M,wA (roundIn_of_wpIn (n:=m) k8 (h1 _ s x W _ hi Z ?_))⟩;clear M;intro c o E k0;have Y:=(E.block _ y).trans hl;have k7:=(E.block _ (by omega)).trans z;have R:w.heap.size+1<o.heap.size:=(TX.1 Y).1;refine ⟨_,run_beginRound Y (by rw [f]),?_⟩;obtain ⟨q,i⟩:=nM (o.putObj (w.heap.size+1) (.loop { rc .ready with state:=.busy }));have k5:ZS w.heap.size o q:=by rw [<- i];exact Below.RV (TY _ _) (by omega) R _
  have T:bj (w.heap.size+2) W q:=by
   rw [<- i];exact ((bj.RT E).trans ((bj.refl _ o).putObj (.inl (by omega)) _))
  have L:q.heap[w.heap.size+1]?=ZX (.loop { rc .ready with state:=.busy }):=by rw [<- i];exact World.putObj_heap_same R
  have V:q.heap[w.heap.size]?=ZX (.deferred (ZX [])):=by rw [<- i];exact (UV (by omega)).trans k7
  rw [i];refine wpIn_mono (h5 _ W.heap.size s x c q (by omega) y T.size ⟨_,L⟩ (j _ _ _ (j _ _ _ hi (E.mono (by omega))) k5) Z (hv _ _ _ _ _ k0 (by rw [<- i];exact (bj.refl _ o).putObj (.inl y) _))) ?_;rintro e a3 W3 k;cases e with
  | normal=>
   obtain ⟨k9,H⟩:=k;have X:=(H.block _ (by omega) (TX.1 L).1).trans L;have k6:=(H.block _ lR (TX.1 V).1).trans V;have O:=(TX.1 X).1;have hr:=run_endRound (P:=P) ZY X;refine ⟨_,_,hr,rfl,⟨j _ _ _ k9 (Below.RV (TY _ _) (by omega) O _),?_,(UV (by omega)).trans k6⟩,?_⟩
   . rw [World.putObj_heap_same O,f];rfl
   . exact (T.trans (H.mono (by omega))).putObj (.inl (by omega)) _
  | ret=>exact k.elim
  | exit id=>exact k.elim
  | goto t=>exact k.elim
  | panic ch=>exact k.elim
  | outgrown=>exact k.elim
 ·
  rintro e W2 ⟨⟨v,rfl⟩,s,hS,hi,hl,z⟩;have y:=(TX.1 hl).1;refine ⟨ZY,_,by have:=run_endLoop (P:=P) hl (by rw [f];simp);rw [f] at this;exact this,?_⟩;exact h7 _ s _ lR hS (j _ _ _ hi (Below.RV (TY _ _) (by omega) y _)) ((UV (by omega)).trans z)
section
attribute [local go_sem] Oper.semAt_some
def nU (b:q≠0) (c:q<65536):bH q (nT q)<q:=by
 refine Nat.lt_of_le_of_ne (YW _ _) λe=>?_;have a:=lq q (nT q) (nT q);rw [e,(rO b c).1] at a;simp at a
abbrev Sh:={ x:Nat // x<16 }
def qF (x:Sh):Array ZT:=#[Z7 Z9 (x.1:Int)]
def shs (s:Nat):List Sh:=(ab s).filterMap (λi=>if h:i<16 then ZX ⟨i,h⟩ else ZY)
def M6 (s:Nat):(shs s).map (·.1)=ab s:=by
 unfold shs;have h:∀ L:a8,(∀ i∈L,i<16)->(L.filterMap (λi=>if h:i<16 then ZX (⟨i,h⟩:Sh) else ZY)).map (·.1)=L:=by
  intro L;induction L with
  | nil=>intro _;rfl
  | cons a L ih=>
   intro c;have d:=c a UZ;rw [List.filterMap_cons_some (b:=(⟨a,d⟩:Sh)) (by simp [d]),Uu,ih (λi hi=>c i (UJ _ hi))]
 exact h _ (λi hi=>(cO.1 hi).1)
theorem dC (s:Nat) (w:ZU) :
 ZR ZJ 128 #[Z7 Z8 s] w λe w'=>e=Z3 (.func (.func 155) #[] #[Z6 (ZX ⟨w.heap.size,0,ZY⟩)])/\w'=w.alloc (Z4 #[Z7 Z8 s] 131):=by
 go_enter func128,ntmps128;go_wp2;go_ret;exact ⟨rfl,rfl⟩
theorem AO (n:Nat) (l Bs s:Nat) (A:s<65536) (J g:List Sh->ZU->Prop)
 (y:∀ pre x W,J pre W->pre.length<(ab s).length->YieldAt Fence.wide (n-1) ZJ l (qF x) W λe c=>
  (e=Z3 (Z2 ZW)/\J (pre++[x]) c/\(aG W->aG c))\/(e=Z3 (Z2 ZV)/\g (pre++[x]) c))
 (W:ZU) (F:W.cell? ⟨Bs,0,ZY⟩=ZX (Z7 Z8 s)) (w:aG W) (m:J [] W) :
 CallsIn Fence.wide n ZJ 155 #[.func (.yield l) #[] #[],Z6 (ZX ⟨Bs,0,ZY⟩)] W λe c=>(∃ v,e=Z3 v) /\
  ((∃ k,k.map (·.1)=ab s/\J k c)\/(∃ pre,pre.map (·.1)<+:ab s/\g pre c)):=by
 refine WX func155 rfl trivial ?_ rfl;simp only [ntmps155,UF,Uv,UQ,Nat.reduceAdd,Nat.reduceSub,Va,Vb,Vc,Vd,Uk,UL];gi_wp2;gi_loopw [3] (λp wr=>∃ (pre:List Sh) (q:Nat),p=Z7 Z8 q/\q<65536/\ab s=pre.map (·.1)++ab q/\J pre wr/\aG wr)
  (λp _=>(intOf p).toNat)
 case atStart=>
  exact ⟨[],s,rfl,A,rfl,m,w⟩
 case round=>
  obtain ⟨pre,q,rfl,b,d,i,j⟩:=hrel;by_cases a:q=0
  . subst a;gi_wp2;go_end0
    exact ⟨⟨_,rfl⟩,.inl ⟨pre,by rw [d,wt,Wg],i⟩⟩
  . have E:((q:Int) != 0)=ZW:=(by simp;omega);have f:=JO a b;obtain ⟨D,tmps,assign,body,B,u⟩:=y pre ⟨nT q,f⟩ wr i (by rw [d,iH a b];simp);unfold qF at B;gi_wp2;refine cV (JN q a b wr j) ?_;rintro e w' ⟨rfl,rfl⟩;gi_wp2;refine ⟨λh=>(by cases h),u.mono ?_⟩;rintro e C (⟨rfl,r,t⟩|⟨rfl,o⟩)
    . have G:IntKind.u64.wrap ((q:Int)-1)=((q-1:Nat):Int):=(by rw [U5];omega);have z:=gk q (q-1) (by omega) (by omega);rw [Ft a b] at z;gi_wp2;go_roundw
      case rel=>exact ⟨pre++[⟨nT q,f⟩],bH q (nT q),rfl,pA _ _ b,by rw [d,iH a b];simp,r,t j⟩
      case measure=>have:=nU a b;simp only [intOf];omega
    . gi_wp2;refine Um (Xj rfl _ _ _) rfl ?_;exact ⟨⟨_,rfl⟩,.inr ⟨pre++[⟨nT q,f⟩],by rw [d,iH a b];simp,o⟩⟩
def Fv (W W':ZU):Prop:=aG W->aG W'
def qG {A B C:ZU} (h:Fv A B) (k:Fv B C):Fv A C:=λx=>k (h x)
def qH (c:3<=w.heap.size) (W:ZU) (l:Nat) (o b:Obj) (hl:w.heap.size<=l) (h:W.heap[l]?=ZX o) (_:o.isCells=ZV) (_:o.isWalk=ZV):Fv W (W.putObj l b):=λa=>
 a.mono (B:=3) (by decide) (Below.RV (TY _ W) (by omega) (TX.1 h).1 _)
def Fv.RT {W W':ZU} (b:3<=B) (h:ZS B W W'):Fv W W':=λa=>a.mono (by omega) h
def Fv.refl (W:ZU):Fv W W:=λh=>h
def eI (n Bs s:Nat) (h:s<65536) (w:ZU) (d:Bs<w.heap.size) (g:w.cell? ⟨Bs,0,ZY⟩=ZX (Z7 Z8 s)) (j:3<=w.heap.size) (e:aG w) :
 SeqStopsK Fence.wide n ZJ 155 #[Z6 (ZX ⟨Bs,0,ZY⟩)] qF Fv (λi=>i.map (·.1)=ab s) (λpre=>pre.map (·.1)<+:ab s) (ab s).length w:=λl J b W a _ _ f c=>
 AO n l Bs s h J b f W ((a.cell (p:=⟨Bs,0,ZY⟩) d).trans g) (e.mono (by omega) a) c
end
section
attribute [local go_sem] Oper.semAt_some
def br (K:Nat->Prop) (w:ZU) (v:ZT) (l:a8):Prop:=
 ∃ ao c,v=.slice ao l.length c/\l.length<=1000000/\(l≠[]->∃ b off,ao=ZX ⟨b,off,ZY⟩/\K b/\b<w.heap.size/\∀ i (hi:i<l.length),w.cell? ⟨b,off+i,ZY⟩=ZX (Z7 Z9 ((l[i]:Nat):Int)))
structure Ob where
 name:ByteArray
 size:Nat
 RQ:a8
def eY (K:Nat->Prop) (w:ZU) (v:ZT) (os:List Ob):Prop:=
 ∃ ao c,v=.slice ao os.length c/\os.length<=1000000/\(os≠[]->∃ b off,ao=ZX ⟨b,off,ZY⟩/\K b/\b<w.heap.size/\∀ i (hi:i<os.length),∃ sv,
  w.cell? ⟨b,off+i*3,ZY⟩=ZX (.string os[i].name)/\w.cell? ⟨b,off+i*3+1,ZY⟩=ZX (Z7 Z9 (os[i].size:Nat))/\w.cell? ⟨b,off+i*3+2,ZY⟩=ZX sv/\br K w sv os[i].RQ)
def eB (K:Nat->Prop) (w w':ZU):Prop:=w.heap.size<=w'.heap.size/\∀ k,k<w.heap.size->K k->w'.heap[k]?=w.heap[k]?
def eB.refl (K:Nat->Prop) (w:ZU):eB K w w:=⟨TV _,λ_ _ _=>rfl⟩
def eB.trans {b c:ZU} (h:eB K a b) (k:eB K b c):eB K a c:=⟨TW h.1 k.1,λi d e=>(k.2 i (TZ d h.1) e).trans (h.2 i d e)⟩
def eB.RT (h:ZS w.heap.size w w'):eB K w w':=⟨h.size,λk a _=>h.block k a⟩
def br.keep (h:br K w v l) (a:eB K w w'):br K w' v l:=by
 obtain ⟨ao,c,f,g,j⟩:=h;refine ⟨ao,c,f,g,λhl=>?_⟩;obtain ⟨b,off,k,d,e,m⟩:=j hl;exact ⟨b,off,k,d,TZ e a.1,λi hi=>(Ul (a.2 b e d)).trans (m i hi)⟩
def eY.keep {os:List Ob} (h:eY K w v os) (d:eB K w w'):eY K w' v os:=by
 obtain ⟨ao,c,g,j,k⟩:=h;refine ⟨ao,c,g,j,λhl=>?_⟩;obtain ⟨b,off,l,e,f,m⟩:=k hl;refine ⟨b,off,l,e,TZ f d.1,λi hi=>?_⟩;obtain ⟨r,n,o,p,q⟩:=m i hi;have a:=d.2 b f e;exact ⟨r,(Ul a).trans n,(Ul a).trans o,(Ul a).trans p,q.keep d⟩
def br.nil (K:Nat->Prop) (w:ZU):br K w (Z5 ZY 0 0) []:=⟨ZY,0,rfl,by decide,λh=>absurd rfl h⟩
def eY.nil (K:Nat->Prop) (w:ZU):eY K w (Z5 ZY 0 0) []:=⟨ZY,0,rfl,by decide,λh=>absurd rfl h⟩
def ak (os:List Ob):a8:=os.flatMap (·.RQ)
def Dv (os:List Ob) (k:Nat) (a:k<os.length):ak (os.take (k+1))=ak (os.take k)++os[k].RQ:=by
 have e:os.take (k+1)=os.take k++[os[k]]:=by rw [U6,Ua a];rfl
 rw [e];unfold ak;rw [Wo];simp
def pB (x:Nat):Array ZT:=#[Z7 Z9 (x:Int)]
def AP {os:List Ob} (m:Nat) (b:k<os.length):ak (os.take k)++(os[k].RQ).take m<+:ak os:=by
 have a:ak os=ak (os.take k)++(os[k].RQ++ak (os.drop (k+1))):=by
  have e:ak (os.take k++os[k]::os.drop (k+1))=ak (os.take k)++(os[k].RQ++ak (os.drop (k+1))):=by unfold ak;rw [Wo,VE]
  rwa [<- XJ b,V4] at e
 rw [a];refine (aa3 _).2 ?_;exact (List.take_prefix m _).trans (Xw _ _)
theorem lC (K:Nat->Prop) (n l b1:Nat) (v:ZT) (os:List Ob) (J U:a8->ZU->Prop) (k7:∀ pre A B,J pre A->ZS A.heap.size A B->J pre B)
 (G:a8) (hY:∀ pre x W,J pre W->pre++[x]<+:G->YieldAt Fence.wide (n-1) ZJ l (pB x) W λe g=>(e=Z3 (Z2 ZW)/\J (pre++[x]) g/\eB K W g)\/(e=Z3 (Z2 ZV)/\U (pre++[x]) g))
 (a:a8) (k8:a++ak os<+:G) (W:ZU) (L:W.cell? ⟨b1,0,ZY⟩=ZX v) (N:eY K W v os) (V:J a W) :
 CallsIn Fence.wide n ZJ 152 #[.func (.yield l) #[] #[],Z6 (ZX ⟨b1,0,ZY⟩)] W λe g=>(∃ v,e=Z3 v) /\
  ((J (a++ak os) g)\/(∃ pre,pre<+:ak os/\U (a++pre) g)):=by
 obtain ⟨ao,c,rfl,kb,t⟩:=id N;refine WX func152 rfl trivial ?_ rfl;simp only [ntmps152,UF,Uv,UQ,Nat.reduceAdd,Nat.reduceSub,Va,Vb,Vc,Vd,Uk,UL];have T:=au N V;clear N V t;gi_wp2;gi_loopw [9] (λp wr=>∃ k:Nat,p=Z7 Z9 (k:Nat)/\k<=os.length/\J (a++ak (os.take k)) wr/\eY K wr (.slice ao os.length c) os)
  (λp _=>os.length-(intOf p).toNat)
 case atStart=>
  exact ⟨0,rfl,T9 _,by simpa [ak] using T.out.2,T.out.1⟩
 case round=>
  obtain ⟨k,rfl,hk,r,z⟩:=hrel;by_cases i:k<os.length
  . obtain ⟨hd,c',o,_,t⟩:=id z;obtain ⟨b,off,I,kh,ki,hz⟩:=t (λe=>by rw [e] at i;simp at i);simp only [Vt] at o;obtain ⟨rfl,_,rfl⟩:=o;subst I;obtain ⟨sv,r1,r2,r3,F⟩:=hz k i;obtain ⟨so,sc,rfl,ke,s⟩:=id F;obtain ⟨st,Q⟩:=nM (os[k].RQ);obtain ⟨NN,Y⟩:=nM (os.length);obtain ⟨nm,k0⟩:=nM (os[k].name);obtain ⟨sz,k6⟩:=nM (((os[k].size:Nat):Int));rw [Q] at r3 F ke s;rw [k0] at r1;rw [k6] at r2;have H:=a6 r z F Q Y;clear r z t hz F s Q Y k0 k6;gi_wp2;obtain ⟨wx,R⟩:=nM (wr.alloc (Z4 #[.string nm,Z7 Z9 sz,.slice so st.length sc] 130));have D:ZS wr.heap.size wr wx:=(by rw [<- R];exact bA wr _);rw [R];clear R;have hx:=k7 _ _ _ H.out.1 D;have hs:=H.out.2.1.keep (eB.RT D);have hv:=H.out.2.2.1.keep (eB.RT D);gi_loopw [16] (λp S=>∃ m:Nat,p=Z7 Z9 (m:Nat)/\m<=st.length/\J (a++(ak (os.take k)++st.take m)) S/\eY K S (Z5 (ZX ⟨b,off,ZY⟩) os.length c) os/\br K S (.slice so st.length sc) st)
     (λp _=>st.length-(intOf p).toNat)
    case atStart=>
     exact ⟨0,rfl,T9 _,by simpa using hx,hs,hv⟩
    case round=>
     clear hx hs hv D;obtain ⟨m,rfl,hm,f,w,C⟩:=hrel;by_cases q:m<st.length
     . obtain ⟨kk,kj,o,_,s⟩:=id C;obtain ⟨b2,hb,I,kg,k9,X⟩:=s (λe=>by rw [e] at q;simp at q);simp only [Vt] at o;obtain ⟨rfl,_,rfl⟩:=o;subst I;have g1:=X m q;obtain ⟨y,E⟩:=nM (st[m]);rw [E] at g1;have k5:(a++(ak (os.take k)++st.take m))++[y]<+:G:=by
        have L:=AP (os:=os) (m+1) i;rw [H.out.2.2.2.1,U6,Ua q,E] at L;have h2:=((aa3 a).2 L).trans k8;simpa using h2
       obtain ⟨fn,tmps,assign,body,kf,Z⟩:=hY _ y _ f k5;clear k5;unfold pB at kf;have d:=a6 f w C Z E;clear f w C Z s X E;gi_wp2;refine ⟨λh=>(by cases h),d.out.2.2.2.1.mono ?_⟩;have u:a++(ak (os.take k)++st.take m)++[y]=a++(ak (os.take k)++st.take (m+1)):=by
        have e:st.take (m+1)=st.take m++[y]:=(by rw [U6,Ua q,d.out.2.2.2.2];rfl);rw [e];simp
       rintro e W3 (⟨rfl,hi,P⟩|⟨rfl,M⟩)
       . rw [u] at hi;have j:=aE hi (d.out.2.1.keep P) (d.out.2.2.1.keep P);clear hi P u;gi_wp2;go_roundw
         case rel=>exact ⟨m+1,by go_num,by omega,j.out.1,j.out.2.1,j.out.2.2⟩
         case measure=>simp only [intOf];omega
       . rw [u] at M;have j:=al M;clear M u;gi_wp2;refine Um (Xj rfl _ _ _) rfl ?_;have hp:=AP (os:=os) (m+1) i;rw [H.out.2.2.2.1] at hp;exact ⟨⟨_,rfl⟩,.inr ⟨_,hp,j.out⟩⟩
     . have kc:m=st.length:=(by omega);subst kc;rw [VC] at f;have O:=Dv os k i;rw [H.out.2.2.2.1] at O;rw [<- O] at f;have d:=au f w;clear f w C O;gi_wp2;go_roundw
       case rel=>exact ⟨k+1,by go_num,by omega,d.out.1,d.out.2⟩
       case measure=>simp only [intOf];omega
  . have ka:k=os.length:=(by omega);subst ka;rw [VC] at r;have HJ:=al r;clear r z;gi_wp2;go_end0
    exact ⟨⟨_,rfl⟩,.inl HJ.out⟩
def OI {pre l:List α} {x:α} (h:pre++[x]<+:l):pre.length<l.length:=by
 have:=h.length_le;rw [T8,aa4] at this;omega
def sL (K:Nat->Prop) (n l b1:Nat) (v:ZT) (os:List Ob) (J c:a8->ZU->Prop) (g:∀ pre A B,J pre A->ZS A.heap.size A B->J pre B)
 (N:Nat) (j:∀ pre x W,J pre W->pre.length<N->YieldAt Fence.wide (n-1) ZJ l (pB x) W λe b=>(e=Z3 (Z2 ZW)/\J (pre++[x]) b/\eB K W b)\/(e=Z3 (Z2 ZV)/\c (pre++[x]) b))
 (a:a8) (m:a.length+(ak os).length<=N) (W:ZU) (f:W.cell? ⟨b1,0,ZY⟩=ZX v) (i:eY K W v os) (d:J a W) :
 CallsIn Fence.wide n ZJ 152 #[.func (.yield l) #[] #[],Z6 (ZX ⟨b1,0,ZY⟩)] W λe b=>(∃ v,e=Z3 v) /\
  ((J (a++ak os) b)\/(∃ pre,pre<+:ak os/\c (a++pre) b)):=
 lC K n l b1 v os J c g (a++ak os) (λpre x W h k=>j pre x W h (by have:=OI k;rw [T8] at this;omega)) a (Yf _) W f i d
end
def eF (D L G:Int):Bool:=decide (1<=D/\D<=12/\1<=L/\L<=4/\0<=G/\G<=4/\D%L=0/\D+L+G<=16)
def AQ {a b:Bool} (h:a=b):Ending.returned (Z2 a)=Z3 (Z2 b):=by rw [h]
theorem dE (D L G:Int) (w:ZU) (a:0<=D/\D<=100) (b:0<=L/\L<=100) (c:0<=G/\G<=100) :
 ZR ZJ 9 #[.agg #[Z7 Z9 D,Z7 Z9 L,Z7 Z9 G]] w λe w'=>e=Z3 (Z7 Z9 (D+L+G))/\ZS w.heap.size w w':=by
 obtain ⟨d,f⟩:=a;obtain ⟨b1,b2⟩:=b;obtain ⟨c1,g⟩:=c;go_enter func9,ntmps9;go_wp2;go_ret;exact ⟨rfl,bA _ _⟩
theorem pC (D L G:Int) (w:ZU) :
 ZR ZJ 44 #[.agg #[Z7 Z9 D,Z7 Z9 L,Z7 Z9 G]] w λe w'=>e=Z3 (Z2 (eF D L G))/\ZS w.heap.size w w':=by
 go_enter func44,ntmps44;go_wp2_with (go_at_call 9;refine (dE D L G _ (by omega) (by omega) (by omega)).mono ?_;rintro e w' ⟨rfl,a⟩);all_goals go_ret
 . refine ⟨AQ (b:=eF D L G) ?_,(bA _ _).trans (a.mono (by simp))⟩;unfold eF;rw [decide_eq_decide];constructor
   . intro h;exact ⟨by omega,by omega,by omega,by omega,by omega,by omega,by assumption,h⟩
   . intro h;exact h.2.2.2.2.2.2.2
 all_goals
  refine ⟨AQ (b:=eF D L G) ?_,bA _ _⟩;unfold eF;symm;rw [decide_eq_false_iff_not];intro h;omega
def M7 (Fc:Fence) (n:Nat) (P:Program) (Q:ZO->ZM->ZU->Prop) (lo hi:Nat) (sh:List (Op×Option Nat×a8)) (a0:ZM) (V:Nat->ZT->ZU->Prop) (B:(Nat->Bool)->ZU->Prop) (i:Nat):Prop:=
 ∀ (o:ZN) (a:ZM) (w:ZU) (D:Nat->Bool),o.guard=ZY->o.op=(bB sh i).1->o.dst=(bB sh i).2.1->dD lo hi a0 a->D i=ZV->(∀ j,D j=ZW->j<sh.length/\∀ k∈(bB sh j).2.2,D k=ZW) ->
  (∀ k∈(bB sh i).2.2,D k=ZW)->B D w->(∀ j,D j=ZW->V j (dM (bB sh j).2.1 a) w) ->
  o.wpIn Fc n P a w (λa' w'=>∃ v,a'=a.put o.dst v/\(o.dst=ZY->v=ZZ)/\B (fI D i) w'/\V i v w'/\∀ j u,D j=ZW->V j u w->V j u w') Q
def bV {Fc:Fence} {Q:ZO->ZM->ZU->Prop} (y:P.follows .mixedOrders=ZW) (v:aL ops lo hi sh) (b:ZM) (w0:ZU) (u:hi<=b.tmps.size)
 (V:Nat->ZT->ZU->Prop) (B:(Nat->Bool)->ZU->Prop) (x:B (λ_=>ZV) w0.drew) (k:∀ i,i<sh.length->M7 Fc n P Q lo hi sh b V B i)
 (t:∀ (a:ZM) (w:ZU),dD lo hi b a->(∀ s,(∀ i,i<sh.length->(bB sh i).2.1≠ZX s)->a.eval (.tmp s)=b.eval (.tmp s))->(∃ D,(∀ i,i<sh.length->D i=ZW)/\B D w)->(∀ i,i<sh.length->V i (dM (bB sh i).2.1 a) w)->Q .normal a w):(Code.region m ops ZW).wpIn Fc n P Q b w0:=
 wpIn_region_any y (py (λo a w K=>o.wpIn Fc n P a w K Q) (wpAnyIn Fc n P .any ops Q) (λ_ _ _ h q=>⟨h,q⟩) (λf l a w c d=>⟨λe=>absurd e c,λi hi=>by
  obtain ⟨o,g,j,h⟩:=d i hi;unfold wpOpIn;rw [g];show if Region.wanted o (yielded ops a.tmps)=ZW then _ else _;rw [if_pos (by simp [Region.wanted,j])];exact h⟩) (λo a w K z h=>Oper.wpIn_mono h) v b _ u V B x (λi hi o a w D c d p r _=>k i hi o a w D c d p r) t)
def av {l:Nat} {Q:ZO->ZM->ZU->Prop} {a:ZM} {B:ZU->Prop} {S:ZU->Prop} (i:(execOp a.eval o).run P w=.ok (.value v) w') (f:∀ c,o.op≠.defer c) {d:Nat} (g:o.dst=ZX d) (h:B w'/\Vi v w'/\S w') :
 o.wpIn (Fence.wide.inRound l) n P a w (λb w'=>∃ v,b=a.put o.dst v/\(o.dst=ZY->v=ZZ)/\B w'/\Vi v w'/\S w') Q:=by
 refine ⟨λ_ _=>trivial,?_⟩;rw [Wh _ _ _ f,i];exact ⟨v,rfl,λe=>(by rw [g] at e;cases e),h.1,h.2.1,h.2.2⟩
def lD {l:Nat} {Q:ZO->ZM->ZU->Prop} {a:ZM} {B:ZU->Prop} {S:ZU->Prop} (e:(execOp a.eval o).run P w=.ok .skip w') (d:∀ c,o.op≠.defer c) (h:B w'/\Vi ZZ w'/\S w') :
 o.wpIn (Fence.wide.inRound l) n P a w (λb w'=>∃ v,b=a.put o.dst v/\(o.dst=ZY->v=ZZ)/\B w'/\Vi v w'/\S w') Q:=by
 refine ⟨λ_ _=>trivial,?_⟩;rw [Wh _ _ _ d,e];exact ⟨ZZ,rfl,λ_=>rfl,h.1,h.2.1,h.2.2⟩
def jF {l:Nat} {Q:ZO->ZM->ZU->Prop} {a:ZM} {B:ZU->Prop} {S:ZU->Prop} (m:(execOp a.eval o).run P w=.ok (.enter f args) w1) (g:∀ c,o.op≠.defer c) {d:Nat} (k:o.dst=ZX d) (j:ZR P f args w1 Rr)
 (h:∀ e w',Rr e w'->∃ v,e=Z3 v/\B w'/\Vi v w'/\S w'):o.wpIn (Fence.wide.inRound l) n P a w (λb w'=>∃ v,b=a.put o.dst v/\(o.dst=ZY->v=ZZ)/\B w'/\Vi v w'/\S w') Q:=by
 refine ⟨λ_ _=>trivial,?_⟩;rw [Wh _ _ _ g,m];refine ⟨λh=>(by cases h),CallsIn.inRound l (Vk.2 (j.mono λe w' i=>?_))⟩;obtain ⟨v,rfl,p,q,r⟩:=h e w' i;exact ⟨v,rfl,λe=>(by rw [k] at e;cases e),p,q,r⟩
def rm (c j:Nat):Nat:=if j<16 then gm c j else gm c ((j-16)*16)
def tv (f:Nat->Nat) (j:Nat):ZT:=Z7 .u8 ((f j:Nat):Int)
def Pm {x y:Int} (a b:Nat) (f:x=(a:Int)) (g:y=(b:Int)) (c:a<256) (d:b<256) (w:ZU) :
 ZR ZJ 166 #[Z7 .u8 x,Z7 .u8 y] w λe w'=>e=Z3 (Z7 .u8 ((gm a b:Nat):Int))/\w'=w:=by
 subst f g;exact mi a b c d w
def fL (c n j:Nat):Nat:=if j<n then gm c j else 0
def ML (q:Nat):Prop:=q=1\/q=2\/q=4\/q=8\/q=16
def aas (w:ZU) (B c:Nat) (i d:ZT) (wr:ZU):Prop:=
 ∃ q:Nat,ML q/\i=Z7 Z9 q/\d=Z7 .u8 ((gm c q:Nat):Int)/\wr.rowIs (B+1) 264 16 (tv (fL c q))/\wr.rowIs B 264 16 (λ_=>Z7 .u8 0)/\ZS B w wr
def OJ (w:ZU) (B c q:Nat) (i:ZT) (wr:ZU):Prop:=
 ∃ k:Nat,k<=q/\i=Z7 Z9 k/\wr.rowIs (B+1) 264 16 (tv (fL c (q+k)))/\wr.rowIs B 264 16 (λ_=>Z7 .u8 0)/\ZS B w wr
def JU (w:ZU):(w.alloc (Z4 (YF 16 (Z7 .u8 0)) 264)).rowIs w.heap.size 264 16 (λ_=>Z7 .u8 0):=by
 have h:=aa5 w (YF 16 (Z7 .u8 0)) 264 (λ_=>Z7 .u8 0) (λi hi=>by simp at hi;simp [hi]);simpa using h
def Pn (w:ZU):(w.alloc (Z4 (YF 32 (Z7 .u8 0)) 305)).rowIs w.heap.size 305 32 (λ_=>Z7 .u8 0):=by
 have h:=aa5 w (YF 32 (Z7 .u8 0)) 305 (λ_=>Z7 .u8 0) (λi hi=>by simp at hi;simp [hi]);simpa using h
def JV:∀ i,i<1->i^^^1=1+i:=by decide
def JW:∀ i,i<2->i^^^2=2+i:=by decide
def JX:∀ i,i<4->i^^^4=4+i:=by decide
def JY:∀ i,i<8->i^^^8=8+i:=by decide
def M8 (a:ML q) (b:q<16) (h:i<q):i^^^q=q+i:=by
 rcases a with rfl|rfl|rfl|rfl|rfl
 . exact JV i h
 . exact JW i h
 . exact JX i h
 . exact JY i h
 . omega
def Po:∀ c,c<256->tx (gm c 1)=gm c 2:=by decide +kernel
def Pp:∀ c,c<256->tx (gm c 2)=gm c 4:=by decide +kernel
def Pr:∀ c,c<256->tx (gm c 4)=gm c 8:=by decide +kernel
def Pt:∀ c,c<256->tx (gm c 8)=gm c 16:=by decide +kernel
def Q7 (b:ML q) (d:q<16) (a:c<256):tx (gm c q)=gm c (q*2):=by
 rcases b with rfl|rfl|rfl|rfl|rfl
 . exact Po c a
 . exact Pp c a
 . exact Pr c a
 . exact Pt c a
 . omega
def JZ (b:ML q) (a:q<16):ML (q*2):=by unfold ML at *;omega
def Dw (f:ML q) (d:q<16) (e:k<q) (j:Nat):tv (fL c (q+(k+1))) j=if j=q+k then Z7 .u8 ((fL c (q+k) k^^^gm c q:Nat):Int) else tv (fL c (q+k)) j:=by
 unfold tv fL;by_cases a:j=q+k
 . rw [if_pos a,if_pos (by omega),if_pos (by omega),<- fO,M8 f d e,a]
 . rw [if_neg a];by_cases b:j<q+k
   . rw [if_pos b,if_pos (by omega)]
   . rw [if_neg b,if_neg (by omega)]
def pD {f:Nat->Nat} (a:cs.size=n) (h:∀ j,j<n->cs[j]?=ZX (tv f j)):cs.all (λv=>v.oneCell')=ZW:=by
 rw [XK];intro i hi;have:=h i (by omega);rw [VD hi] at this;simp at this;rw [this];rfl
def GG {x:Int} (a:Nat) (b:x=(a:Int)) (h:a<256) (w:ZU):ZR ZJ 182 #[Z7 .u8 x] w λe w'=>e=Z3 (Z7 .u8 (tx a:Int))/\w'=w:=by
 subst b;exact ni a h w
theorem J0 (c n j:Nat) (a:c<256):fL c n j<256:=by
 unfold fL;split
 . exact bE _ a
 . decide
def Tryz.Sy:(ZJ.info? 264).map (λi=>i.size)=ZX 16:=by kernel_rfl
theorem mT (c:Nat) (m:c<256) (w:ZU) :
 ZR ZJ 195 #[Z7 .u8 c] w λe w'=>∃ cs:Array ZT,e=Z3 (.agg cs)/\cs.size=16/\(∀ j,j<16->cs[j]?=ZX (tv (fL c 16) j))/\ZS w.heap.size w w':=by
 go_enter func195,ntmps195;go_wp2;go_loopw [4,0] (λi d wr=>aas w w.heap.size c i d wr) (λi _ _=>16-(intOf i).toNat)
 case atStart=>
  refine ⟨1,.inl rfl,rfl,by rw [gI c m],?_,?_,?_⟩
  . have h:=JU (w.alloc (Z4 (YF 16 (Z7 .u8 0)) 264));rw [Ug] at h;refine h.congr λj P=>?_;unfold tv fL;by_cases e:j<1
    . rw [if_pos e,show j=0 by omega,de];rfl
    . rw [if_neg e];rfl
  . exact (JU w).alloc _
  . exact (bA _ _).alloc (by rw [Ug];omega) _
 case round=>
  obtain ⟨q,n,rfl,rfl,b,f,g⟩:=hrel;have z:q<=16:=by unfold ML at n;omega
  have E:gm c q<256:=bE _ m;by_cases u:q<16
  . have V:q<=8:=(by unfold ML at n;omega);have l:=al n;have H:=al (show OJ w w.heap.size c q (Z7 Z9 (0:Nat)) wr from ⟨0,T9 _,rfl,b,f,g⟩);clear b f g n;have W:(q:Int)<16:=(by omega);rename ZU=>wo;go_wp2;go_loopw [11] (λi wr=>OJ w w.heap.size c q i wr) (λi _=>q-(intOf i).toNat)
    case atStart=>exact H.out
    case round=>
     obtain ⟨k,U,rfl,b,f,g⟩:=hrel;by_cases Q:k<q
     . have c1:=b.cell (i:=k) (by omega);have K:=b.cell (i:=q+k) (by omega);have S:=b.frozen (q+k);have R:=J0 c (q+k) k m;have hz:=nh _ _ R E;have A:=(b.set (q+k) (Z7 .u8 ((fL c (q+k) k^^^gm c q:Nat):Int))).congr (λj P=>(Dw l.out u Q j).symm);have B:=f.setOther (a:=⟨w.heap.size+1,q+k,ZY⟩) (by simp) (Z7 .u8 ((fL c (q+k) k^^^gm c q:Nat):Int));have C:=g.setCell (p:=⟨w.heap.size+1,q+k,ZY⟩) (by simp) (Z7 .u8 ((fL c (q+k) k^^^gm c q:Nat):Int));have o:=aE A B C;clear A B C b f g;unfold tv at c1 K;have M:(k:Int)<q:=(by omega);have T:(k:Int)<16:=(by omega);have X:(q:Int)+(k:Int)<16:=(by omega);have Z:IntKind.i64.wrap ((q:Int)+(k:Int))=((q+k:Nat):Int):=(by rw [Ut];omega);have Y:wrap64 ((q:Int)+(k:Int))=((q+k:Nat):Int):=(by unfold wrap64;omega);go_wp2;go_roundw
       case rel=>exact ⟨k+1,by omega,by go_num,o.out.1,o.out.2.1,o.out.2.2⟩
       case measure=>simp [intOf];omega
     . have N:k=q:=(by omega);have s:=aE b f g;clear b f g;have M:¬ ((k:Int)<q):=(by omega);go_wp2_with fail;refine (GG (gm c q) rfl E _).mono ?_;rintro e w' ⟨rfl,rfl⟩;go_wp2;go_roundw
       case rel=>exact ⟨q*2,JZ l.out u,by go_num,by rw [Q7 l.out u m],by have:=s.out.1;rwa [N,show q+q=q*2 by omega] at this,s.out.2.1,s.out.2.2⟩
       case measure=>have O:=l.out;unfold ML at O;simp only [intOf];omega
  . have z:q=16:=(by omega);subst z;obtain ⟨cs,D,x,t⟩:=b;obtain ⟨G,F,k0,_⟩:=f;have L:=pD x t;have J:=al t;have hi:(ZJ.info? 264).map (λi=>i.size)=ZX cs.size:=(by rw [Tryz.Sy,x]);have r:=al hi;have I:=al D;have y:=al F;clear t hi D F;go_wp2_with (first
     | refine Yg rfl 264 (Z1 3) rfl (w.heap.size+1) rfl 264 cs (0,0) _ I.out XL rfl r.out ?_
     | refine Wi rfl 264 (Z1 2) (Z1 26) rfl w.heap.size cs rfl rfl 264 G y.out r.out (by omega) L ?_)
    exact Um (v:=.agg cs) (VQ results195 _ _ w.heap.size 264 cs (0,0) _ rfl (Vf _ _ G cs _ _ y.out) XL rfl r.out) rfl ⟨cs,rfl,x,J.out,below_setRow g lR cs⟩
def Tryz.SB:(ZJ.info? 305).map (λi=>i.size)=ZX 32:=by kernel_rfl
theorem GH (c j:Nat) (a:c<256) (b:j<32):(if j<16 then fL c 16 j else fL (gm c 16) 16 (j-16))=rm c j:=by
 unfold fL rm;by_cases h:j<16
 . rw [if_pos h,if_pos h,if_pos h]
 . rw [if_neg h,if_neg h,if_pos (by omega),gq a (by decide) (by omega)];congr 1;have:∀ x,x<16->gm 16 x=x*16:=by decide +kernel
   exact this _ (by omega)
def qI (c:Nat):Array ZT:=((YD 32).map (λj=>Value.int .u8 ((if j<16 then fL c 16 j else fL (gm c 16) 16 (j-16):Nat):Int))).toArray
def j7 (c:Nat):(qI c).size=32:=by unfold qI;rw [UF,T7,UC]
def wB (c j:Nat) (b:c<256) (a:j<32):(qI c)[j]?=ZX (tv (rm c) j):=by
 unfold qI tv;simp only [WY,Un,Vw a,WD,GH c j b a]
def Dx (c:Nat):(ZJ.info? 305).map (λi=>i.size)=ZX (qI c).size:=by rw [j7,Tryz.SB]
def AR {f:Nat->Nat} (b:cs.size=16) (h:∀ j,j<16->cs[j]?=ZX (tv f j)) :
 cs=#[tv f 0,tv f 1,tv f 2,tv f 3,tv f 4,tv f 5,tv f 6,tv f 7,tv f 8,tv f 9,tv f 10,tv f 11,tv f 12,tv f 13,tv f 14,tv f 15]:=by
 have e:cs=((YD 16).map (tv f)).toArray:=by
  refine YM (by simp [b]) λi a c=>?_;have:=h i (by omega);rw [VD a] at this;simp at this ⊢;exact this
 exact e
theorem lE (c:Nat) (b:c<256) (w:ZU) :
 ZR ZJ 180 #[Z7 .u8 c] w λe w'=>∃ cs:Array ZT,e=Z3 (.agg cs)/\cs.size=32/\(∀ j,j<32->cs[j]?=ZX (tv (rm c) j))/\ZS w.heap.size w w':=by
 have B:=Pn w;have D:gm c 16<256:=bE _ b;go_enter func180,ntmps180;go_wp2_with fail;refine (mT c b _).mono ?_;rintro e w1 ⟨z,rfl,r,p,a⟩;obtain rfl:=AR r p;clear r p;simp only [tv];go_wp2_with fail;refine (Pm c 16 rfl rfl b (by decide) _).mono ?_;rintro e w' ⟨rfl,rfl⟩;go_wp2_with fail;refine (mT (gm c 16) D _).mono ?_;rintro e w2 ⟨A,rfl,s,q,g⟩;obtain rfl:=AR s q;clear s q;simp only [tv];obtain ⟨d,u,C,_⟩:=B;have t:w2.heap[w.heap.size]?=ZX (Z4 d 305 (0,0)):=(g.block _ (by have:=a.size;rw [Ug] at this;omega)).trans ((a.block _ (by rw [Ug];omega)).trans u);have n:=al t;have x:Hid (ZS w.heap.size w w2):=al (((bA w _).trans (a.mono (by rw [Ug];omega))).trans (g.mono (by have:=a.size;rw [Ug] at this;omega)));clear a g u t;have f:=al (Dx c);have m:Hid (d.size=(qI c).size):=al (by rw [C,j7]);have k:=al (pD (j7 c) (λj i=>wB c j b i));have l:Hid (∀ j,j<32->(qI c)[j]?=ZX (tv (rm c) j)):=al (λj i=>wB c j b i);have o:=al (j7 c);obtain ⟨cs,h⟩:=nM (qI c);rw [h] at f m k l o;have y:=al h;clear h;go_wp2_with (refine Wi rfl 305 (Z1 2) (Z1 8) rfl w.heap.size cs rfl (by rw [<- y.out];rfl) 305 d n.out f.out m.out k.out ?_);refine Um (v:=.agg cs) (VQ results180 _ _ w.heap.size 305 cs (0,0) _ rfl (Vf _ _ d cs _ _ n.out) underlying305 rfl f.out) rfl ?_;exact ⟨cs,rfl,o.out,l.out,below_setRow x.out lR _⟩
def mq (w:ZU) (t c:Nat):Prop:=∀ j,j<32->w.cell? ⟨t,j,ZY⟩=ZX (tv (rm c) j)
def M9:∀ b,b<256->b=(b%16)^^^(b/16*16):=by decide +kernel
def J1 (c b:Nat) (a:b<256):rm c (b%16)^^^rm c (16+b/16)=gm c b:=by
 unfold rm;rw [if_pos (by omega),if_neg (by omega),WC,<- fO,<- M9 b a]
theorem Fw (c j:Nat) (a:c<256):rm c j<256:=by
 unfold rm;split<;>exact bE _ a
def Q8 (b:Nat) (a:b<256):bits .and .u8 (b:Int) 15=((b%16:Nat):Int):=by
 rw [u8_and15 _ (by omega) (by omega)];rfl
theorem wC (t c b:Nat) (g:c<256) (f:b<256) (w:ZU) (a:mq w t c) :
 ZR ZJ 181 #[Z6 (ZX ⟨t,0,ZY⟩),Z7 .u8 b] w λe w'=>e=Z3 (Z7 .u8 ((gm c b:Nat):Int))/\∃ m,w'=w.drewN m:=by
 have c1:=a (b%16) (by omega);have h:=a (16+b/16) (by omega);have j:=Fw c (b%16) g;have k:=Fw c (16+b/16) g;have d:=J1 c b f;have l:=Q8 b f;have i:=nh _ _ j k;unfold tv at c1 h;rw [d] at i;clear a d;go_enter func181,ntmps181;go_wp2;go_quiet (fail);go_wp2;go_ret;exact ⟨rfl,_,rfl⟩
def gV (g F:Nat->Nat) (c off k j:Nat):Nat:=if off<=j/\j<off+k then g j^^^gm c (F (j-off)) else g j
def AdR (w:ZU) (b t N off k c tb fb foff:Nat) (g F:Nat->Nat) (i:ZT) (wr:ZU):Prop:=
 ∃ j:Nat,j<=k/\i=Z7 Z9 j/\wr.rowIs b t N (tv (gV g F c off j))/\mq wr tb c/\(∀ i,i<k->wr.cell? ⟨fb,foff+i,ZY⟩=ZX (Z7 .u8 ((F i:Nat):Int)))/\w.grownBy wr (ZX b)
def Dy (g F:Nat->Nat) (c off j x:Nat):tv (gV g F c off (j+1)) x=if x=off+j then Z7 .u8 ((g (off+j)^^^gm c (F j):Nat):Int) else tv (gV g F c off j) x:=by
 unfold tv gV;by_cases h:x=off+j
 . subst h;rw [if_pos rfl,if_pos (by omega),WC]
 . rw [if_neg h];by_cases a:off<=x/\x<off+j
   . rw [if_pos a,if_pos (by omega)]
   . rw [if_neg a,if_neg (by omega)]
theorem Dz (g F:Nat->Nat) (c off:Nat):gV g F c off 0=g:=by
 funext j;unfold gV;rw [if_neg (by omega)]
theorem DA (g F:Nat->Nat) (off k:Nat):gV g F 0 off k=g:=by
 funext j;unfold gV;rw [cT,U8];split<;>rfl
def qJ {t:Nat} (h:mq w t c) {a:ZQ} (b:t≠a.block) (v:ZT):mq (w.setCell a v) t c:=λj d=>by
 rw [<- h j d];exact Ul (Ud _ _ _ _ b)
def nj (w:ZU) {ops:Array ZN} {rest:List ZN} {o:ZN} {a:ZM} {Q:ZO->ZM->ZU->Prop} (h:o.guard=ZY) (x y:ZK) (ho:o.op=.store 305 x y)
 (g c:Nat) (cs old:Array ZT) (m:a.eval x=Z6 (ZX ⟨g,0,ZY⟩)) (n:a.eval y=.agg cs) (f:w.heap[g]?=ZX (Z4 old 305 (0,0))) (hold:old.size=32) (d:cs.size=32) (b:∀ j,j<32->cs[j]?=ZX (tv (rm c) j))
 (hK:∀ w2,mq w2 g c->w.grownBy w2 (ZX g)->wpList ZJ ops Q rest (a.put o.dst ZZ) w2):wpList ZJ ops Q (o::rest) a w:=by
 refine Wi h 305 x y ho g cs m n 305 old f (by rw [Tryz.SB,d]) (by omega) (pD d b) (hK _ ?_ ?_)
 . intro j l;rw [cell_of_row _ g j cs 305 (0,0) (Vf w g old cs _ _ f)];exact b j l
 . refine ⟨rfl,rfl,rfl,by simp,λk p i=>?_⟩;have:g≠k:=λe=>i (by rw [e]);simp [World.setRow,VH,this]
theorem jo (b t N off n cap l d q c:Nat) (g F:Nat->Nat) (w:ZU) (B:c<256) (z:w.rowIs b t N (tv g)) (L:∀ j,g j<256) (H:∀ j,F j<256) (hn:off+n<=N) (k5:n<=140737488355328)
 (R:∀ i,i<n->w.cell? ⟨l,d+i,ZY⟩=ZX (Z7 .u8 ((F i:Nat):Int))) (k6:l≠b\/d+n<=off\/off+n<=d) :
 ZR ZJ 165 #[Z5 (ZX ⟨b,off,ZY⟩) n cap,Z5 (ZX ⟨l,d,ZY⟩) n q,Z7 .u8 c] w λe w'=>e=Z3 (Z0 #[])/\w'.rowIs b t N (tv (gV g F c off n))/\w.grownBy w' (ZX b):=by
 by_cases E:c=0
 . subst E;go_enter func165,ntmps165;go_wp2;exact Um (v:=Z0 #[]) (by simp [results,results165]) rfl ⟨rfl,by rw [DA];exact z,Wn _ _⟩
 . have kc:((c:Int)==0)=ZV:=(by rw [beq_eq_false_iff_ne];omega);clear E;go_enter func165,ntmps165;go_wp2_with fail;refine (lE c B _).mono ?_;rintro e w1 ⟨cs,rfl,ka,G,o⟩;have k9:=o.size;go_wp2_with (refine nj _ rfl (Z1 6) (Z1 11) rfl w1.heap.size c cs _ rfl rfl (UG w1 _) rfl ka G ?_;intro w2 K p);have M:b<w.heap.size:=z.lt;have h:w.grownBy w2 ZY:=by
    refine ⟨p.os.trans o.os,p.tape.trans o.tape,p.output.trans o.output,?_,λk C _=>?_⟩
    . have:=p.size;rw [Ug] at this;omega
    . rw [p.block k (by rw [Ug];omega) (by intro e;simp at e;omega),Ux _ _ _ (by omega),o.block k C]
   have T:w2.rowIs b t N (tv g):=z.of_block (h.block b M (by simp));have P:∀ i,i<n->w2.cell? ⟨l,d+i,ZY⟩=ZX (Z7 .u8 ((F i:Nat):Int)):=λi hi=>by
    have:=R i hi;exact h.cell this (by simp)
   have W:w.grownBy w2 (ZX b):=⟨h.os,h.tape,h.output,h.size,λk C _=>h.block k C (by simp)⟩;have kb:w1.heap.size≠b:=(by omega);clear p h z R G o k9 M;go_loopw [17] (λi wr=>AdR w b t N off n c w1.heap.size l d g F i wr) (λi _=>n-(intOf i).toNat)
   case atStart=>exact ⟨0,T9 _,rfl,by rw [Dz];exact T,K,P,W⟩
   case round=>
    clear K P W T;obtain ⟨j,O,rfl,r,s,u,A⟩:=hrel;by_cases k8:j<n
    . have c1:=r.cell (i:=off+j) (by omega);have f1:=r.frozen (off+j);have Y:=u j k8;have D:tv (gV g F c off j) (off+j)=Z7 .u8 ((g (off+j):Nat):Int):=(by unfold tv gV;rw [if_neg (by omega)]);rw [D] at c1;have U:=nh (g (off+j)) (gm c (F j)) (L _) (bE _ B);have V:=(r.set (off+j) (Z7 .u8 ((g (off+j)^^^gm c (F j):Nat):Int))).congr (λx _=>(Dy g F c off j x).symm);have J:=qJ s (a:=⟨b,off+j,ZY⟩) kb (Z7 .u8 ((g (off+j)^^^gm c (F j):Nat):Int));have S:=eW A (off+j) (Z7 .u8 ((g (off+j)^^^gm c (F j):Nat):Int));have Q:∀ i,i<n->(wr.setCell ⟨b,off+j,ZY⟩ (Z7 .u8 ((g (off+j)^^^gm c (F j):Nat):Int))).cell? ⟨l,d+i,ZY⟩=ZX (Z7 .u8 ((F i:Nat):Int)):=λi hi=>by
       rw [<- u i hi];by_cases Z:l=b
       . exact World.cell?_setCell_other _ _ _ _ (by intro e;have h1:off+j=d+i:=congrArg Addr.off e;omega)
       . exact Ul (Ud _ _ _ _ Z)
      have I:=H j;have f:=a5 V J Q S;have X:=al s;generalize F j=y at Y U I f;generalize g (off+j)=x at c1 U f;clear D V J S Q r s u A L H;go_wp2;go_region_with ((go_at_call 181;refine (wC w1.heap.size c y B I _ (by exact λj O=>X.out j O)).mono ?_;rintro e w' ⟨rfl,m,rfl⟩));all_goals
       go_wp2;go_roundw
       case rel=>exact ⟨j+1,by omega,by go_num,f.out.1,f.out.2.1,f.out.2.2.1,⟨f.out.2.2.2.os,f.out.2.2.2.tape,f.out.2.2.2.output,f.out.2.2.2.size,f.out.2.2.2.block⟩⟩
       case measure=>simp [intOf];omega
    . have k7:j=n:=(by omega);subst k7;clear s u;go_wp2;go_end0
      exact ⟨rfl,r,A⟩
def AS (D:List a8) (l:a8):Prop:=l.length=(D.getD 0 []).length/\l.length<=4096
def Q9 (D:List a8):Prop:=∀ i (hi:i<D.length),AS D D[i]
def EvR (D:List a8) (i:ZT):Prop:=∃ k:Nat,k<=D.length/\i=Z7 Z9 k/\∀ j (hj:j<D.length),j<k->AS D D[j]
def Pu (D:List a8) (w:ZU) (e:ZP) (w':ZU):Prop:=∃ r:Bool,e=Z3 (Z2 r)/\(r=ZW↔Q9 D)/\w'=w
theorem J2 (v:ZT) (D:List a8) (w:ZU) (F:Rd w v D) (g:0<D.length) :
 ZR ZJ 183 #[v] w λe w'=>Pu D w e w':=by
 rcases F.cases with ⟨rfl,_⟩|⟨b,off,c,rfl,hl,l⟩
 . simp at g
 obtain ⟨u0,s,C⟩:=l 0 g;obtain ⟨A,c0,rfl,l1,G,_,_⟩:=C;have q:(D.getD 0 []).length=(D[0]).length:=by simp [g]
 have B:(D[0]).length<=140737488355328:=by omega
 rw [<- q] at s B;rw [VJ] at s;have x:=al l;clear l l1 G q;go_enter func183,ntmps183;go_wp2;go_loop [7] (λi=>EvR D i) (λi=>D.length-(intOf i).toNat)
 case atStart=>exact ⟨0,T9 _,rfl,λj m h=>absurd h (by omega)⟩
 case round=>
  obtain ⟨k,M,rfl,d⟩:=hrel;by_cases r:k<D.length
  . obtain ⟨u,N,E⟩:=x.out k r;obtain ⟨J,I,rfl,n,o,_,_⟩:=E;have L:(D[k]).length<=140737488355328:=(by omega);by_cases a:AS D D[k]
    . have t1:((((D[k]).length:Nat):Int) != (((D.getD 0 []).length:Nat):Int))=ZV:=(by rw [a.1];simp);have H:¬ (4096:Int)<(((D[k]).length:Nat):Int):=(by have:=a.2;omega);have z:Hid (∀ j (m:j<D.length),j<k+1->AS D D[j]):=by
       intro j m K;by_cases e:j=k
       . subst e;exact a
       . exact d j m (by omega)
      generalize (D.getD 0 []).length=n0 at *;generalize (D[k]).length=t at *;clear d a n o;go_wp2;go_round
      case rel=>exact ⟨k+1,by omega,by go_num,z.out⟩
      case measure=>simp [intOf];omega
    . have p:Hid (¬ Q9 D):=λh=>a (h k r);by_cases f:(D[k]).length=(D.getD 0 []).length
      . have t1:((((D[k]).length:Nat):Int) != (((D.getD 0 []).length:Nat):Int))=ZV:=(by rw [f];simp);have H:(4096:Int)<(((D[k]).length:Nat):Int):=by
         have:¬ (D[k]).length<=4096:=λh=>a ⟨f,h⟩;omega
        generalize (D.getD 0 []).length=n0 at *;generalize (D[k]).length=t at *;clear d a f n o;go_wp2;go_ret;exact ⟨ZV,rfl,⟨λh=>by simp at h,λh=>absurd h p.out⟩,rfl⟩
      . have t1:((((D[k]).length:Nat):Int) != (((D.getD 0 []).length:Nat):Int))=ZW:=(by rw [bne_iff_ne];omega);generalize (D.getD 0 []).length=n0 at *;generalize (D[k]).length=t at *;clear d a f n o;go_wp2;go_ret;exact ⟨ZV,rfl,⟨λh=>by simp at h,λh=>absurd h p.out⟩,rfl⟩
  . have y:Hid (Q9 D):=λi hi=>d i hi (by omega);clear d;go_wp2;go_ret;exact ⟨ZW,rfl,⟨λ_=>y.out,λ_=>rfl⟩,rfl⟩
def dN (D i:Nat):a8:=(YE D 0).set i 1
theorem AT (D L G i:Nat) (f:D<=12) (hi:i<D) (w:ZU) :
 ZR ZJ 136 #[.agg #[Z7 Z9 D,Z7 Z9 L,Z7 Z9 G],Z7 Z9 i] w λe w'=>∃ b,e=Z3 (Z5 (ZX ⟨b,0,ZY⟩) D D)/\w.heap.size<=b/\aM w' b (dN D i)/\ZS w.heap.size w w':=by
 go_enter func136,ntmps136;go_wp2_with (at_make;refine eA _ rfl (Z1 7) (Z1 7) rfl D D rfl rfl rfl (by omega) ?_;intro w1 a c d;rw [Ug] at a c d;have g:=a.cell i (by simpa using hi);have h:=a.frozen i);go_ret;refine ⟨w.heap.size+1,rfl,by omega,?_,?_⟩
 . exact a.set i 1
 . exact ((bA _ _).trans (c.mono (by omega))).setCell (by simp) _
def eO (D L g:Nat):a8:=(YD D).map λj=>if g*(D/L)<=j/\j<(g+1)*(D/L) then 1 else 0
def jb (D s k:Nat):a8:=(YD D).map λj=>if s<=j/\j<k then 1 else 0
theorem vk (D s:Nat):jb D s s=YE D 0:=by
 unfold jb;apply Vh
 . simp
 . intro i a b;simp
theorem yM (D s k:Nat) (d:s<=k):(jb D s k).set k 1=jb D s (k+1):=by
 unfold jb;apply Vh
 . simp
 . intro i b c;simp [YH];by_cases e:k=i
   . subst e;simp;omega
   . simp only [if_neg e];by_cases a:s<=i/\i<k
     . rw [if_pos a,if_pos ⟨a.1,by omega⟩]
     . rw [if_neg a,if_neg (by omega)]
def J3 {D L:Nat} (a:D%L=0) (b:g<L):(g+1)*(D/L)<=D:=by
 have:(g+1)*(D/L)<=L*(D/L):=WZ _ b;have:L*(D/L)=D:=Nat.mul_div_cancel' (Nat.dvd_of_mod_eq_zero a);omega
theorem yN (D L G g:Nat) (E:D<=12) (F:1<=L) (H:L<=4) (n:D%L=0) (y:g<L) (w:ZU) :
 ZR ZJ 137 #[.agg #[Z7 Z9 D,Z7 Z9 L,Z7 Z9 G],Z7 Z9 g] w λe w'=>∃ b,e=Z3 (Z5 (ZX ⟨b,0,ZY⟩) D D)/\w.heap.size<=b/\aM w' b (eO D L g)/\ZS w.heap.size w w':=by
 have M:=J3 n y;have N:D/L<=D:=V2 _ _;have f:eO D L g=jb D (g*(D/L)) ((g+1)*(D/L)):=rfl;have B:wrap64 ((D:Int)/(L:Int))=((D/L:Nat):Int):=by
  rw [<- Ye];exact sC (by omega)
 generalize D/L=q at *;have r:g*q<=(g+1)*q:=WZ _ (by omega);have m:wrap64 ((g:Int)*(q:Int))=((g*q:Nat):Int):=by
  rw [<- XM];unfold wrap64;omega
 have C:wrap64 (((g:Int)+1)*(q:Int))=(((g+1)*q:Nat):Int):=by
  have:((g:Int)+1)*(q:Int)=(((g+1)*q:Nat):Int):=by push_cast;rfl
  rw [this];unfold wrap64;omega
 generalize g*q=s at *;generalize (g+1)*q=t at *;have l:=al f;clear f;go_enter func137,ntmps137;go_wp2_with (at_make;refine eA _ rfl (Z1 9) (Z1 9) rfl D D rfl rfl rfl (by omega) ?_;intro w1 d a A;rw [Ug] at d a A;have z:=a.cell (p:=⟨w.heap.size,0,ZY⟩) (by simp);have x:=a.cell (p:=⟨w.heap.size,1,ZY⟩) (by simp));rw [<- vk D s] at d;go_loopw [7] (λi wr=>∃ k:Nat,s<=k/\k<=t/\i=Z7 Z9 k/\aM wr (w.heap.size+1) (jb D s k)/\ZS w.heap.size w wr) (λi _=>t-(intOf i).toNat)
 case atStart=>exact ⟨s,TV _,r,by rw [m],d,(bA _ _).trans (a.mono (by omega))⟩
 case round=>
  obtain ⟨k,u,J,rfl,c,j⟩:=hrel;clear d a z x;by_cases hi:k<t
  . have I:=c.cell k (by simp [jb];omega);have K:=c.frozen k;have h:=c.set k 1;rw [yM _ _ _ u] at h;have o:=j.setCell (p:=⟨w.heap.size+1,k,ZY⟩) (by simp) (Z7 .u8 1);go_wp2;go_roundw
    case rel=>exact ⟨k+1,by omega,by omega,by go_num,h,o⟩
    case measure=>simp [intOf];omega
  . have v:k=t:=(by omega);subst v;go_wp2;go_ret;exact ⟨w.heap.size+1,rfl,by omega,by rw [l.out];exact c,j⟩
def dF (D i:Nat):a8:=(YD D).map λj=>gi ((D+i)^^^j)
def fx (D i k:Nat):a8:=(YD D).map λj=>if j<k then gi ((D+i)^^^j) else 0
theorem sM (D i:Nat):fx D i 0=YE D 0:=by
 unfold fx;apply Vh
 . simp
 . intro j a b;simp
theorem yO (D i:Nat):fx D i D=dF D i:=by
 unfold fx dF;apply Vh
 . simp
 . intro j a b;simp at a;simp [a]
theorem vl (D i k:Nat):(fx D i k).set k (gi ((D+i)^^^k))=fx D i (k+1):=by
 unfold fx;apply Vh
 . simp
 . intro j b c;simp [YH];by_cases e:k=j
   . subst e;simp
   . simp only [if_neg e];by_cases a:j<k
     . rw [if_pos a,if_pos (by omega)]
     . rw [if_neg a,if_neg (by omega)]
theorem J4 (D i j:Nat) (a:D<=12) (hi:i<=4) (b:j<D):(D+i)^^^j<256/\bits .xor .i64 ((D:Int)+(i:Int)) (j:Int)=(((D+i)^^^j:Nat):Int):=by
 refine ⟨uY (by omega) (by omega),?_⟩;have:=MX (D+i) j (by omega) (by omega);rw [<- this];congr 1
theorem vq (D L G i:Nat) (s:D<=12) (hi:i<=4) (w:ZU) :
 ZR ZJ 138 #[.agg #[Z7 Z9 D,Z7 Z9 L,Z7 Z9 G],Z7 Z9 i] w λe w'=>∃ b,e=Z3 (Z5 (ZX ⟨b,0,ZY⟩) D D)/\w.heap.size<=b/\aM w' b (dF D i)/\ZS w.heap.size w w':=by
 go_enter func138,ntmps138;go_wp2_with (at_make;refine eA _ rfl (Z1 8) (Z1 8) rfl D D rfl rfl rfl (by omega) ?_;intro w1 c d t;rw [Ug] at c d t;have f:=d.cell (p:=⟨w.heap.size,0,ZY⟩) (by simp));rw [<- sM D i] at c;simp at f;go_loopw [12] (λj wr=>∃ k:Nat,k<=D/\j=Z7 Z9 k/\aM wr (w.heap.size+1) (fx D i k)/\wr.cell? ⟨w.heap.size,0,ZY⟩=ZX (Z7 Z9 D)/\ZS w.heap.size w wr) (λj _=>D-(intOf j).toNat)
 case atStart=>exact ⟨0,T9 _,rfl,c,f,(bA _ _).trans (d.mono (by omega))⟩
 case round=>
  obtain ⟨k,A,rfl,a,q,h⟩:=hrel;clear c d f;by_cases n:k<D
  . have y:=a.cell k (by simp [fx];omega);have z:=a.frozen k;obtain ⟨r,u⟩:=J4 D i k s hi n;have g:=a.set k (gi ((D+i)^^^k));rw [vl] at g;have l:=h.setCell (p:=⟨w.heap.size+1,k,ZY⟩) (by simp) (Z7 .u8 (gi ((D+i)^^^k)));have o:(wr.setCell ⟨w.heap.size+1,k,ZY⟩ (Z7 .u8 (gi ((D+i)^^^k)))).cell? ⟨w.heap.size,0,ZY⟩=ZX (Z7 Z9 D):=(by rw [<- q];exact Ul (Ud _ _ _ _ (by simp)));generalize (D+i)^^^k=x at *;have v:(x:Int)<256:=(by omega);go_wp2_with (go_at_call 164;refine (rN x r _).mono ?_;rintro e w' ⟨rfl,rfl⟩);go_roundw
    case rel=>exact ⟨k+1,by omega,by go_num,g,o,l⟩
    case measure=>simp [intOf];omega
  . have m:k=D:=(by omega);subst m;rw [yO] at a;go_wp2;go_ret;exact ⟨w.heap.size+1,rfl,by omega,a,h⟩
def aT (D L G:Nat):List a8:=(YD D).map (dN D)++(YD L).map (eO D L)++(YD G).map (dF D)
def dh (T:List (Nat×Nat×a8)) (D:Nat) (M:List a8):Prop:=T.map (λp=>p.2)=M.map (λr=>(D,r))
def dh.push {D:Nat} (h:dh T D M) (b:Nat) (r:a8):dh (T++[(b,D,r)]) D (M++[r]):=by
 unfold dh at *;simp [h]
theorem dh.length {D:Nat} (h:dh T D M):T.length=M.length:=by
 have:=congrArg YO h;simpa using this
def J5 (D i:Nat):(dN D i).length=D/\∀ x∈dN D i,x<256:=by
 refine ⟨by simp [dN],λx a=>?_⟩;rcases XN a with h|h
 . have:=VG h;omega
 . omega
theorem GJ (D L g:Nat):(eO D L g).length=D/\∀ x∈eO D L g,x<256:=by
 refine ⟨by simp [eO],λx a=>?_⟩;obtain ⟨j,_,rfl⟩:=T6.1 a;split<;>decide
def DB (D i:Nat) (c:D<=12) (hi:i<=4):(dF D i).length=D/\∀ x∈dF D i,x<256:=by
 refine ⟨by simp [dF],λx b=>?_⟩;obtain ⟨j,a,rfl⟩:=T6.1 b;exact ln (uY (by omega) (by have:=Uy.1 a;omega))
def iV.append {D:Nat} {r:a8} {o:Obj} (h:iV w base v T) (g:ZS w.heap.size w w1) (k:base<=w.heap.size) (l:w.heap.size<=b) (f:aM w1 b r) (a:r.length=D/\∀ x∈r,x<256) (m:D<=1000000)
 (i:(w1.alloc o).grownBy w2 v.ownBlock) (c:w2.ownsRow base 31 1 v' (T.length+1) (T.map jX++[Z5 (ZX ⟨b,0,ZY⟩) D D])):iV w2 base v' (T++[(b,D,r)]):=by
 have d:=(h.below g).alloc o;refine d.push i (p:=(b,D,r)) ?_ ⟨by show base<=b;omega,f.alloc o,by show D<=r.length;omega,⟨by show D<=140737488355328;omega,by show r.length<=9223372036854775807;omega⟩,a.2⟩ ?_
 . have e:jX (b,D,r)=Z5 (ZX ⟨b,0,ZY⟩) D D:=(by unfold jX;simp [a.1]);rw [e];exact c
 . intro q j;have:=(h.row q j).2.1.lt;show q.1≠b;omega
def fT {wx:ZU} {a b c:ZT} (h:ZS (w.heap.size+1) (w.alloc (Z4 #[a,b,c] t)) wx) :
 wx.cell? ⟨w.heap.size,0,ZY⟩=ZX a/\wx.cell? ⟨w.heap.size,1,ZY⟩=ZX b/\wx.cell? ⟨w.heap.size,2,ZY⟩=ZX c:=by
 have d:=h.cell (p:=⟨w.heap.size,0,ZY⟩) (by simp);have e:=h.cell (p:=⟨w.heap.size,1,ZY⟩) (by simp);have f:=h.cell (p:=⟨w.heap.size,2,ZY⟩) (by simp);rw [World.cell?_alloc_at _ _ _ _ rfl] at d e f;exact ⟨d,e,f⟩
def DC {wa wb:ZU} (c:ZS B w0 wa) (b:B<=wa.heap.size) (a:ZS wa.heap.size wa wb) (d:wb.grownBy wc ZY):ZS B w0 wc:=
 (c.trans (a.mono b)).grown d (by have:=a.size;omega) (λk e=>by simp at e)
def iV.made (h:wc.ownsRow base 31 1 (Z5 (ZX ⟨g,0,ZY⟩) 0 cap) 0 []):iV wc base (Z5 (ZX ⟨g,0,ZY⟩) 0 cap) []:=
 ⟨h,λp a=>by simp at a,by simp⟩
def dh.nil (D:Nat):dh [] D []:=rfl
def nl (f:Nat->α) (k:Nat):(YD (k+1)).map f=(YD k).map f++[f k]:=by
 rw [Vs,Uw];rfl
theorem j8 (D L G:Nat) (X:eF D L G=ZW) (C:D<=12) (R:1<=L) (U:L<=4) (W:G<=4) (S:D%L=0) (w:ZU) :
 ZR ZJ 98 #[.agg #[Z7 Z9 D,Z7 Z9 L,Z7 Z9 G]] w λe w'=>∃ v T,e=Z3 (Z0 #[v,.nilIface])/\iV w' (w.heap.size+1) v T/\dh T D (aT D L G)/\ZS w.heap.size w w':=by
 obtain ⟨I,hi,E,F,H⟩:=Us Tryz.Sl;go_enter func98,ntmps98;go_wp2_with fail;refine (pC D L G _).mono ?_;rintro e wa ⟨rfl,x⟩;rw [Ug] at x;have Q:=x.size;rw [Ug] at Q;obtain ⟨o,p,q⟩:=fT x;go_wp2_with fail;refine (dE D L G _ (by omega) (by omega) (by omega)).mono ?_;rintro e V ⟨rfl,J⟩;have Y:=J.size;clear o p q;go_wp2_with (at_make;refine aa6 _ rfl (.const (Z7 Z9 0)) (Z1 13) 174 rfl (w.heap.size+1) 31 I (Z5 ZY 0 0) 1 Wp hi E F .i64 .i64 (D+L+G) (D+L+G) rfl rfl (by omega) (by rw [H];omega) (by unfold maxLen;omega) (by omega) ?_;intro wc O M;have K:=DC x Q J M;obtain ⟨o,p,q⟩:=fT K);have a:=iV.made O;have Z:=M.size;clear O M x J;generalize Value.slice (ZX ⟨V.heap.size,0,ZY⟩) 0 (D+L+G)=v0 at *;go_loopw [4,17] (λv i wr=>∃ k T,k<=D/\i=Z7 Z9 (k:Nat)/\iV wr (w.heap.size+1) v T/\dh T D ((YD k).map (dN D))/\ZS (w.heap.size+1) (w.alloc (Z4 #[Z7 Z9 D,Z7 Z9 L,Z7 Z9 G] 26)) wr/\w.heap.size+1<=wr.heap.size) (λ_ i _=>D-(intOf i).toNat)
 case atStart=>exact ⟨0,[],T9 _,rfl,a,dh.nil D,K,by omega⟩
 case round=>
  clear a K o p q;obtain ⟨k,T,B,rfl,a,d,f,j⟩:=hrel;obtain ⟨o,p,q⟩:=fT f;by_cases r:k<D
  . have m:=d.length;rw [T7,UC] at m;have N:T.length<=12:=(by omega);clear m;have h:=al d;clear d;go_wp2_with fail;refine (AT D L G k C r _).mono ?_;rintro e w1 ⟨b,rfl,t,n,c⟩;have P:=c.size;go_wp2_with (at_builtin;refine Yh _ rfl (Z1 20) (Z1 24) 174 rfl (w.heap.size+1) 31 I (Z5 ZY 0 0) 1 24 Wp hi E F H rfl (by decide) _ T.length (T.map jX) rfl ((a.below c).alloc _).own ⟨w1.heap.size,0,ZY⟩ 1 1 [Z5 (ZX ⟨b,0,ZY⟩) D D] rfl rfl (X8 _ _ _) (by simp [Value.oneCell']) (by unfold maxLen;omega) (by omega) (by rw [Ug];omega) ?_;intro v' w2 l g z);have s:=iV.append a c j t n (J5 D k) (by omega) g l;have u:=jY a f c j g;have A:=g.size;rw [Ug] at A;clear a l g z n c f;go_roundw
    case rel=>exact ⟨k+1,_,by omega,by go_num,s,by rw [nl];exact h.out.push b _,u,by omega⟩
    case measure=>simp [intOf];omega
  . have y:D=k:=(by omega);clear r B;subst y;have h:=al d;clear d;go_wp2_with fail;go_loopw [4,29] (λv i wr=>∃ k T,k<=L/\i=Z7 Z9 (k:Nat)/\iV wr (w.heap.size+1) v T/\dh T D ((YD D).map (dN D)++(YD k).map (eO D L))/\ZS (w.heap.size+1) (w.alloc (Z4 #[Z7 Z9 D,Z7 Z9 L,Z7 Z9 G] 26)) wr/\w.heap.size+1<=wr.heap.size) (λ_ i _=>L-(intOf i).toNat)
    case atStart=>exact ⟨0,T,T9 _,rfl,a,by rw [YX,UY,Wg];exact h.out,f,j⟩
    case round=>
     clear a f o p q h j;obtain ⟨k,T,B,rfl,a,d,f,j⟩:=hrel;obtain ⟨o,p,q⟩:=fT f;by_cases r:k<L
     . have m:=d.length;simp only [T8,T7,UC] at m;have N:T.length<=20:=(by omega);clear m;have h:=al d;clear d;go_wp2_with fail;refine (yN D L G k C R U S r _).mono ?_;rintro e w1 ⟨b,rfl,t,n,c⟩;have P:=c.size;go_wp2_with (at_builtin;refine Yh _ rfl (Z1 32) (Z1 36) 174 rfl (w.heap.size+1) 31 I (Z5 ZY 0 0) 1 24 Wp hi E F H rfl (by decide) _ T.length (T.map jX) rfl ((a.below c).alloc _).own ⟨w1.heap.size,0,ZY⟩ 1 1 [Z5 (ZX ⟨b,0,ZY⟩) D D] rfl rfl (X8 _ _ _) (by simp [Value.oneCell']) (by unfold maxLen;omega) (by omega) (by rw [Ug];omega) ?_;intro v' w2 l g z);have s:=iV.append a c j t n (GJ D L k) (by omega) g l;have u:=jY a f c j g;have A:=g.size;rw [Ug] at A;clear a l g z n c f;go_roundw
       case rel=>exact ⟨k+1,_,by omega,by go_num,s,by rw [nl,<- Uz];exact h.out.push b _,u,by omega⟩
       case measure=>simp [intOf];omega
     . have y:L=k:=(by omega);clear r B;subst y;have h:=al d;clear d;go_wp2_with fail;go_loopw [4,41] (λv i wr=>∃ k T,k<=G/\i=Z7 Z9 (k:Nat)/\iV wr (w.heap.size+1) v T/\dh T D (((YD D).map (dN D)++(YD L).map (eO D L))++(YD k).map (dF D))/\ZS (w.heap.size+1) (w.alloc (Z4 #[Z7 Z9 D,Z7 Z9 L,Z7 Z9 G] 26)) wr/\w.heap.size+1<=wr.heap.size) (λ_ i _=>G-(intOf i).toNat)
       case atStart=>exact ⟨0,T,T9 _,rfl,a,by rw [YX,UY,Wg];exact h.out,f,j⟩
       case round=>
        clear a f o p q h j;obtain ⟨k,T,B,rfl,a,d,f,j⟩:=hrel;obtain ⟨o,p,q⟩:=fT f;by_cases r:k<G
        . have m:=d.length;simp only [T8,T7,UC] at m;have N:T.length<=20:=(by omega);clear m;have h:=al d;clear d;go_wp2_with fail;refine (vq D L G k C (by omega) _).mono ?_;rintro e w1 ⟨b,rfl,t,n,c⟩;have P:=c.size;go_wp2_with (at_builtin;refine Yh _ rfl (Z1 44) (Z1 48) 174 rfl (w.heap.size+1) 31 I (Z5 ZY 0 0) 1 24 Wp hi E F H rfl (by decide) _ T.length (T.map jX) rfl ((a.below c).alloc _).own ⟨w1.heap.size,0,ZY⟩ 1 1 [Z5 (ZX ⟨b,0,ZY⟩) D D] rfl rfl (X8 _ _ _) (by simp [Value.oneCell']) (by unfold maxLen;omega) (by omega) (by rw [Ug];omega) ?_;intro v' w2 l g z);have s:=iV.append a c j t n (DB D k C (by omega)) (by omega) g l;have u:=jY a f c j g;have A:=g.size;rw [Ug] at A;clear a l g z n c f;go_roundw
          case rel=>exact ⟨k+1,_,by omega,by go_num,s,by rw [nl,<- Uz];exact h.out.push b _,u,by omega⟩
          case measure=>simp [intOf];omega
        . have y:G=k:=(by omega);clear r B;subst y;have h:=al d;clear d;go_wp2;go_ret2;refine ⟨_,T,rfl,a,h.out,?_⟩;exact (bA _ _).trans (f.mono (by omega))
def dG (M:List a8) (lost k:Nat):List a8:=((YD k).filter (λi=>decide (lost/2^i%2=0))).map (λi=>M.getD i [])
def Na (M:List a8) (lost k:Nat) (h:lost/2^k%2=0):dG M lost (k+1)=dG M lost k++[M.getD k []]:=by
 simp [dG,Vs,h]
def J6 (M:List a8) (lost k:Nat) (h:lost/2^k%2≠0):dG M lost (k+1)=dG M lost k:=by
 simp [dG,Vs,h]
def sN (M:List a8) (lost k:Nat) (a:k<=M.length):∀ l∈dG M lost k,l∈M:=by
 intro l hl;simp [dG] at hl;obtain ⟨i,⟨hi,_⟩,rfl⟩:=hl;rw [Ua (by omega)];exact T4 _
def nV (M:List a8) (lost k:Nat):(dG M lost k).length<=k:=by
 unfold dG;rw [T7];exact TW (Wz _ _) (by simp)
theorem Nb (T:List a8) (v:Nat->Nat):vU T 0 v↔∃ l∈T,v=mM l:=by
 constructor
 . rintro ⟨i,hi,_,rfl⟩;exact ⟨_,T4 hi,rfl⟩
 . rintro ⟨l,hl,rfl⟩;obtain ⟨i,hi,rfl⟩:=aaY.1 hl;exact ⟨i,hi,T9 _,rfl⟩
theorem AU (M:List a8) (lost k:Nat) (v:Nat->Nat):vU (dG M lost k) 0 v↔∃ i,i<k/\lost/2^i%2=0/\v=mM (M.getD i []):=by
 rw [Nb];constructor
 . rintro ⟨l,hl,rfl⟩;simp only [dG,T6,Vz,Uy,decide_eq_true_eq] at hl;obtain ⟨i,⟨hi,a⟩,rfl⟩:=hl;exact ⟨i,hi,a,rfl⟩
 . rintro ⟨i,hi,a,rfl⟩;refine ⟨_,?_,rfl⟩;simp only [dG,T6,Vz,Uy,decide_eq_true_eq];exact ⟨i,⟨hi,a⟩,rfl⟩
theorem J7 (D i:Nat) (hi:i<D):mM (dN D i)=kX i:=by
 funext j;unfold mM dN kX;by_cases e:j=i
 . subst e;simp [hi]
 . rw [if_neg e];simp [V1 e,Wq];split<;>rfl
def J8 (D L G i:Nat) (hi:i<D):(aT D L G).getD i []=dN D i:=by
 simp [aT,List.getElem?_append,hi]
def GK (M:List a8) (lost k D:Nat) (d:1<=D) (b:∀ i,i<k->lost/2^i%2=1):¬ AA (vU (dG M lost k) 0) 0 D:=by
 intro h;have:=a9.R2 (c:=0) (λr a=>by
  obtain ⟨i,hi,e,_⟩:=(AU _ _ _ _).1 a;have:=b i hi;omega) (h (kX 0) (m8 0) (λj f=>if_neg (by omega)))
 simp [kX] at this
def Fx (lost k:Nat) (hl:lost<18446744073709551616):bits .and .u64 ((lost:Int)/2^k) 1=((lost/2^k%2:Nat):Int):=by
 have c:(lost:Int)/2^k=((lost/2^k:Nat):Int):=by simp
 have h:lost/2^k<18446744073709551616:=Yc (V2 _ _) hl;have e:=u64_and_nat (lost/2^k) 1 h (by decide);rw [QV] at e;rw [c];exact e
def Rl (w0 w:ZU) (v:ZT) (K:List a8):Prop:=
 ∃ xs:List ZT,xs.length=K.length/\(∀ i (h:i<xs.length) (h':i<K.length),Bs w0 xs[i] K[i])/\w.ownsRow w0.heap.size 31 1 v xs.length xs/\ZS w0.heap.size w0 w
def Rl.nil (w:ZU):Rl w w (Z5 ZY 0 0) []:=⟨[],rfl,λi h=>absurd h (by simp),UK _ _ _ _,TY _ _⟩
def Rl.rd {K:List a8} (h:Rl w0 w v K) (hl:K.length<=100000):Rd w v K:=by
 obtain ⟨xs,e,f,b,j⟩:=h;rcases b.2 with ⟨d,q⟩|⟨g,cap,cur,a,k,l,m,n,o,p⟩
 . have:K=[]:=UP (by omega);subst this;exact ⟨ZY,0,d,by simp,λh=>absurd rfl h⟩
 . refine ⟨ZX ⟨g,0,ZY⟩,cap,by rw [a,e],by omega,λ_=>⟨g,0,rfl,λi hi=>?_⟩⟩;have c:i<xs.length:=(by omega);have:=b.cells (g:=g) (by rw [a];rfl) i xs[i] (by simp [c]);rw [jD] at this;exact ⟨xs[i],by rw [Ue];exact this,(f i c hi).mono j⟩
def Rl.push {K:List a8} {o:Obj} (b:xs.length=K.length) (g:∀ i (h:i<xs.length) (c:i<K.length),Bs w0 xs[i] K[i])
 (f:w.ownsRow w0.heap.size 31 1 v xs.length xs) (a:ZS w0.heap.size w0 w) (p:w1=w.alloc o) (n:Bs w0 u l)
 (j:w1.grownBy w2 v.ownBlock) (d:w2.ownsRow w0.heap.size 31 1 v' (xs.length+1) (xs++[u])):Rl w0 w2 v' (K++[l]):=by
 subst p;refine ⟨xs++[u],by simp [b],λi h c=>?_,by simpa using d,(a.alloc a.size o).grown j (by rw [Ug];have:=a.size;omega) λk m=>(f.lt k m).1⟩;by_cases hi:i<xs.length
 . rw [Xu hi,Xu (by omega)];exact g i hi (by omega)
 . have e:i=xs.length:=(by simp at h;omega);subst e;rw [Xt lR,Xt (by omega)];simpa [b] using n
def Bs.one (h:Bs w u l):u.oneCell'=ZW:=by
 obtain ⟨ao,c,rfl,_⟩:=h;rfl
def KpR (w:ZU) (M:List a8) (lost:Nat) (v i:ZT) (wr:ZU):Prop:=∃ k:Nat,k<=M.length/\i=Z7 Z9 k/\Rl w wr v (dG M lost k)
theorem J9 (D:ZT) (M:List a8) (lost:Nat) (w:ZU) (z:Rd w D M) (hl:lost<18446744073709551616) (V:M.length<=64) :
 ZR ZJ 100 #[D,Z7 Z8 lost] w λe w'=>∃ v,e=Z3 v/\Rl w w' v (dG M lost M.length):=by
 obtain ⟨T,hi,Q,R,S⟩:=Us Tryz.Sl;rcases z.cases with ⟨rfl,ao,c,rfl⟩|⟨b,off,c,rfl,_,l⟩
 . go_enter func100,ntmps100;go_wp2;refine VV 1 ?_;rw [Vg];go_wp2;go_ret;exact ⟨_,rfl,Rl.nil _⟩
 . clear z;go_enter func100,ntmps100;go_wp2;go_loopw [5,10] (λv i wr=>KpR w M lost v i wr) (λ_ i _=>M.length-(intOf i).toNat)
   case atStart=>exact ⟨0,T9 _,rfl,Rl.nil _⟩
   case round=>
    rename ZU=>wo;obtain ⟨k,U,rfl,a⟩:=hrel;by_cases B:k<M.length
    . obtain ⟨u,m,j⟩:=l k B;have P:wo.cell? ⟨b,off+k,ZY⟩=ZX u:=(by rw [a.choose_spec.2.2.2.cell (Ub m)];exact m);obtain ⟨H,I,rfl,_⟩:=id j;have s:=Fx lost k hl;have E:=al (nV M lost k);have n:=al j;have t:M.getD k []=M[k]:=(by simp [B]);have J:=al t;clear l j m t;by_cases d:lost/2^k%2=0
      . rw [d] at s;have K:=al (Na M lost k d);clear d;obtain ⟨xs,f,A,g,h⟩:=a;have G:=al A;have N:=al f;have X:xs.length<=64:=(by rw [f];exact TW E.out (by omega));have W:=h.size;clear A f;go_wp2_with (at_builtin;refine Yh _ rfl (Z1 20) (Z1 22) 174 rfl w.heap.size 31 T (Z5 ZY 0 0) 1 24 Wp hi Q R S rfl (by decide) _ xs.length xs rfl (ay g (bA _ _)) ⟨wo.heap.size,0,ZY⟩ 1 1 [.slice H (M[k]).length I] rfl rfl (M1 _ _ rfl _ _) (by intro q C;simp at C;rw [C];exact n.out.one) (by unfold maxLen;omega) (by omega) (by rw [Ug];omega) ?_;intro v' w2 r o O);have x:=Rl.push N.out G.out g h rfl n.out o r;rw [<- J.out,<- K.out] at x;clear g r o O h P;go_wp2;go_roundw
        case rel=>exact ⟨k+1,by omega,by go_num,x⟩
        case measure=>simp [intOf];omega
      . have p:lost/2^k%2=1:=(by omega);rw [p] at s;have L:=al (J6 M lost k d);clear d p;have F:=al a;clear a;go_wp2;go_roundw
        case rel=>exact ⟨k+1,by omega,by go_num,by rw [L.out];exact F.out⟩
        case measure=>simp [intOf];omega
    . have y:k=M.length:=(by omega);rw [y] at a;clear l y;go_wp2;go_ret;exact ⟨_,rfl,a⟩
def vt (D:List a8):Prop:=D.length<=64/\∀ i (hi:i<D.length),(D[i]).length<=64
def Pv (D:List a8) (w:ZU) (e:ZP) (w':ZU):Prop:=(vt D->∃ k:Nat,k<=64/\e=Z3 (Z7 Z9 k)/\sm D k)/\(¬ vt D->e=Z3 (Z7 Z9 (-1)))/\ZS w.heap.size w w'
structure St where
 k:Nat
 a:Int
 b:Int
 c:Nat
def GL (kk:IntKind) (s:St):List ZT:=[.int kk s.k,Z7 Z9 s.a,Z7 Z9 s.b,Z7 .u8 s.c]
def yP (s:St):Prop:=s.k<256/\-9223372036854775808<=s.a/\s.a<=9223372036854775807/\-9223372036854775808<=s.b/\s.b<=9223372036854775807/\s.c<256
def Ps (kk:IntKind) (w:ZU) (v:ZT) (P:List St):Prop:=
 ∃ ao c,v=.slice ao P.length c/\P.length<=4398046511104/\(P≠[]->∃ b off,ao=ZX ⟨b,off,ZY⟩/\∀ i (hi:i<P.length),
  w.cell? ⟨b,off+i*4,ZY⟩=ZX (.int kk P[i].k)/\w.cell? ⟨b,off+i*4+1,ZY⟩=ZX (Z7 Z9 P[i].a)/\w.cell? ⟨b,off+i*4+2,ZY⟩=ZX (Z7 Z9 P[i].b)/\w.cell? ⟨b,off+i*4+3,ZY⟩=ZX (Z7 .u8 P[i].c))
def Ps.mono {P:List St} (h:Ps kk w v P) (a:ZS w.heap.size w w'):Ps kk w' v P:=by
 obtain ⟨ao,c,g,j,k⟩:=h;refine ⟨ao,c,g,j,λl=>?_⟩;obtain ⟨b,off,e,m⟩:=k l;refine ⟨b,off,e,λi hi=>?_⟩;obtain ⟨c0,c1,d,f⟩:=m i hi;exact ⟨by rw [a.cell (Ub c0)];exact c0,by rw [a.cell (Ub c1)];exact c1,by rw [a.cell (Ub d)];exact d,by rw [a.cell (Ub f)];exact f⟩
def Ps.cases {P:List St} (h:Ps kk w v P):(P=[]/\∃ ao c,v=.slice ao 0 c)\/∃ b off c,v=Z5 (ZX ⟨b,off,ZY⟩) P.length c/\P.length<=4398046511104/\∀ i (hi:i<P.length),
 w.cell? ⟨b,off+i*4,ZY⟩=ZX (.int kk P[i].k)/\w.cell? ⟨b,off+i*4+1,ZY⟩=ZX (Z7 Z9 P[i].a)/\w.cell? ⟨b,off+i*4+2,ZY⟩=ZX (Z7 Z9 P[i].b)/\w.cell? ⟨b,off+i*4+3,ZY⟩=ZX (Z7 .u8 P[i].c):=by
 obtain ⟨ao,c,d,f,g⟩:=h;by_cases e:P=[]
 . subst e;exact .inl ⟨rfl,ao,c,d⟩
 . obtain ⟨b,off,rfl,j⟩:=g e;exact .inr ⟨b,off,c,d,f,j⟩
def Ps.slice {P:List St} (h:Ps kk w v P):∃ ao c,v=.slice ao P.length c:=by
 obtain ⟨ao,c,a,_⟩:=h;exact ⟨ao,c,a⟩
def iI (s:St) (regs shards:Int):Prop:=(s.k=0\/s.k=2)/\0<=s.a/\s.a<regs/\0<=s.b/\s.b<shards\/s.k=1/\0<=s.a/\s.a<regs/\0<=s.b/\s.b<regs/\s.a≠s.b
def yQ (regs:Int) (P:List St):Prop:=0<=regs/\regs<=32/\P.length<=2000
def iJ (regs:Int) (P:List St) (shards:Int):Prop:=yQ regs P/\∀ i (hi:i<P.length),iI P[i] regs shards
def BIs (p:Prop) (w:ZU) (r:ZP) (w':ZU):Prop:=∃ b:Bool,r=Z3 (Z2 b)/\(b=ZW↔p)/\ZS w.heap.size w w'
def aat (p:Prop) (w:ZU) (r:ZP) (w':ZU):Prop:=∃ b:Bool,r=Z3 (Z2 b)/\(b=ZW↔p)/\w'=w
def Ar (n e:Int):Prop:=0<=n/\n<e
theorem sO (n e:Int) (w:ZU) :
 ZR ZJ 204 #[Z7 Z9 n,Z7 Z9 e] w λr w'=>aat (Ar n e) w r w':=by
 by_cases a:0<=n
 . go_enter func204,ntmps204;go_wp2;go_ret;exact ⟨_,rfl,by unfold Ar;simp [a],rfl⟩
 . go_enter func204,ntmps204;go_wp2;go_ret;exact ⟨_,rfl,by unfold Ar;simp;omega,rfl⟩
def eQ (n e:Int) (h:Ar n e) (w:ZU) :
 ZR ZJ 204 #[Z7 Z9 n,Z7 Z9 e] w λr w'=>r=Z3 (Z2 ZW)/\w'=w:=by
 refine (sO n e w).mono ?_;rintro r w' ⟨b,rfl,a,rfl⟩;exact ⟨by rw [a.2 h],rfl⟩
def jG (n e:Int) (h:¬ Ar n e) (w:ZU) :
 ZR ZJ 204 #[Z7 Z9 n,Z7 Z9 e] w λr w'=>r=Z3 (Z2 ZV)/\w'=w:=by
 refine (sO n e w).mono ?_;rintro r w' ⟨b,rfl,a,rfl⟩;cases b
 . exact ⟨rfl,rfl⟩
 . exact absurd (a.1 rfl) h
theorem AV (regs:Int) (v:ZT) (P:List St) (w:ZU) (h:Ps .u8 w v P) :
 ZR ZJ 192 #[.agg #[Z7 Z9 regs,v]] w λr w'=>BIs (yQ regs P) w r w':=by
 obtain ⟨ao,c,rfl⟩:=h.slice;clear h;have d:ZS w.heap.size w (w.alloc (Z4 #[Z7 Z9 regs,.slice ao P.length c] 187)):=bA _ _;by_cases b:Ar regs 33
 . have a:=al b;clear b;go_enter func192,ntmps192;go_wp2_with (go_at_call 204;refine (eQ _ _ a.out _).mono ?_;rintro e w' ⟨rfl,rfl⟩);go_ret;refine ⟨_,rfl,?_,d⟩;have:=a.out;unfold Ar at this;unfold yQ;simp;omega
 . have a:=al b;clear b;go_enter func192,ntmps192;go_wp2_with (go_at_call 204;refine (jG _ _ a.out _).mono ?_;rintro e w' ⟨rfl,rfl⟩);go_ret;refine ⟨_,rfl,?_,d⟩;have:=a.out;unfold Ar at this;unfold yQ;simp;omega
theorem GM (s:St) (regs d:Int) (w:ZU) :
 ZR ZJ 193 #[.agg #[Z7 .u8 s.k,Z7 Z9 s.a,Z7 Z9 s.b,Z7 .u8 s.c],Z7 Z9 regs,Z7 Z9 d] w λr w'=>BIs (iI s regs d) w r w':=by
 obtain ⟨k,a,b,c⟩:=s;have j:ZS w.heap.size w (w.alloc (Z4 #[Z7 .u8 k,Z7 Z9 a,Z7 Z9 b,Z7 .u8 c] 292)):=bA _ _;by_cases l:k=0\/k=2
 . by_cases g:Ar a regs
   . by_cases i:Ar b d
     . have f:=al g;have h:=al i;clear g i;rcases l with rfl|rfl;all_goals
        go_enter func193,ntmps193;go_wp2_with fail;refine (eQ _ _ f.out _).mono ?_;rintro e w' ⟨rfl,rfl⟩;go_wp2_with fail;refine (eQ _ _ h.out _).mono ?_;rintro e w' ⟨rfl,rfl⟩;go_wp2;go_ret;refine ⟨_,rfl,?_,j⟩;have:=f.out;have:=h.out;unfold Ar at *;unfold iI;simp;omega
     . have f:=al g;have h:=al i;clear g i;rcases l with rfl|rfl;all_goals
        go_enter func193,ntmps193;go_wp2_with fail;refine (eQ _ _ f.out _).mono ?_;rintro e w' ⟨rfl,rfl⟩;go_wp2_with fail;refine (jG _ _ h.out _).mono ?_;rintro e w' ⟨rfl,rfl⟩;go_wp2;go_ret;refine ⟨_,rfl,?_,j⟩;have:=f.out;have:=h.out;unfold Ar at *;unfold iI;simp;omega
   . have f:=al g;clear g;rcases l with rfl|rfl;all_goals
      go_enter func193,ntmps193;go_wp2_with (go_at_call 204;refine (jG _ _ f.out _).mono ?_;rintro e w' ⟨rfl,rfl⟩);go_ret;refine ⟨_,rfl,?_,j⟩;have:=f.out;unfold Ar at *;unfold iI;simp;omega
 . by_cases k1:k=1
   . subst k1;clear l;by_cases g:Ar a regs
     . by_cases i:Ar b regs
       . have f:=al g;have h:=al i;clear g i;go_enter func193,ntmps193;go_wp2_with fail;refine (eQ _ _ f.out _).mono ?_;rintro e w' ⟨rfl,rfl⟩;go_wp2_with fail;refine (eQ _ _ h.out _).mono ?_;rintro e w' ⟨rfl,rfl⟩;go_wp2;go_ret;refine ⟨_,rfl,?_,j⟩;have:=f.out;have:=h.out;unfold Ar at *;unfold iI;simp;omega
       . have f:=al g;have h:=al i;clear g i;go_enter func193,ntmps193;go_wp2_with fail;refine (eQ _ _ f.out _).mono ?_;rintro e w' ⟨rfl,rfl⟩;go_wp2_with fail;refine (jG _ _ h.out _).mono ?_;rintro e w' ⟨rfl,rfl⟩;go_wp2;go_ret;refine ⟨_,rfl,?_,j⟩;have:=f.out;have:=h.out;unfold Ar at *;unfold iI;simp;omega
     . have f:=al g;clear g;go_enter func193,ntmps193;go_wp2_with (go_at_call 204;refine (jG _ _ f.out _).mono ?_;rintro e w' ⟨rfl,rfl⟩);go_ret;refine ⟨_,rfl,?_,j⟩;have:=f.out;unfold Ar at *;unfold iI;simp;omega
   . have o:((k:Int)==0)=ZV:=(by rw [beq_eq_false_iff_ne];omega);have p:((k:Int)==1)=ZV:=(by rw [beq_eq_false_iff_ne];omega);have q:((k:Int)==2)=ZV:=(by rw [beq_eq_false_iff_ne];omega);have m:=al l;have n:=al k1;clear l k1;go_enter func193,ntmps193;go_wp2;go_ret;refine ⟨_,rfl,?_,j⟩;have:=m.out;have:=n.out;unfold iI;simp;omega
def Pw (regs:Int) (P:List St) (shards:Int) (w:ZU) (r:ZP) (w':ZU):Prop:=(iJ regs P shards->r=Z3 .nilIface)/\(¬ iJ regs P shards->r=Z3 (.iface 58 (Z7 Z9 4)))/\ZS w.heap.size w w'
def ChR (w:ZU) (regs shards:Int) (P:List St) (i:ZT) (wr:ZU):Prop:=∃ k:Nat,k<=P.length/\i=Z7 Z9 k/\(∀ j (hj:j<P.length),j<k->iI P[j] regs shards)/\ZS w.heap.size w wr
theorem Ra {x:ZT} (h:ZS (n+1) (w.alloc (Z4 #[x,y] t)) w') (hn:n=w.heap.size):w'.cell? ⟨n,0,ZY⟩=ZX x/\w'.cell? ⟨n,1,ZY⟩=ZX y:=by
 subst hn;constructor
 . rw [h.cell (by simp)];simp
 . rw [h.cell (by simp)];simp
theorem GN (regs d:Int) (v:ZT) (P:List St) (w:ZU) (h:Ps .u8 w v P) :
 ZR ZJ 174 #[.agg #[Z7 Z9 regs,v],Z7 Z9 d] w λr w'=>Pw regs P d w r w':=by
 have n:ZS w.heap.size w (w.alloc (Z4 #[Z7 Z9 regs,v] 187)):=bA _ _;have t:=h.mono n;obtain ⟨ao,c,rfl⟩:=h.slice;go_enter func174,ntmps174;go_wp2_with fail;refine (AV regs _ P _ t).mono ?_;rintro r w1 ⟨b,rfl,p,l⟩;rw [Ug] at l;obtain ⟨J,W⟩:=Ra l rfl;have S:=l.size;rw [Ug] at S;have m:=n.trans (l.mono (by omega));cases b
 . have K:=al (show ¬ iJ regs P d from λg=>by have:=p.2 g.1;simp at this);clear p l t h n;go_wp2;go_ret;exact ⟨λg=>absurd g K.out,λ_=>rfl,m⟩
 . have E:=al (p.1 rfl);have u:=h.mono m;clear p l t n h;rcases u.cases with ⟨rfl,L,M,e⟩|⟨b,off,M,e,_,z⟩
   . simp at e;obtain ⟨rfl,rfl⟩:=e;clear u;go_wp2;refine VV 1 ?_;rw [Vg];go_wp2;go_ret;exact ⟨λ_=>rfl,λg=>absurd ⟨E.out,λi hi=>by simp at hi⟩ g,m⟩
   . simp at e;obtain ⟨rfl,rfl⟩:=e;clear u;go_wp2;go_loopw [14] (λi wr=>ChR w1 regs d P i wr) (λi _=>P.length-(intOf i).toNat)
     case atStart=>exact ⟨0,T9 _,rfl,λj _ B=>absurd B (by omega),TY _ _⟩
     case round=>
      rename ZU=>wo;obtain ⟨k,T,rfl,o,f⟩:=hrel;have C:=(f.cell (Ub J)).trans J;by_cases I:k<P.length
      . obtain ⟨c0,c1,q,s⟩:=z k I;have N:=(f.cell (Ub c0)).trans c0;have d1:=(f.cell (Ub c1)).trans c1;have O:=(f.cell (Ub q)).trans q;have Q:=(f.cell (Ub s)).trans s;have y:=al o;clear z o c0 c1 q s;have D:=(((TY wo.heap.size wo).alloc lR (Z4 #[Z7 .u8 P[k].k,Z7 Z9 P[k].a,Z7 Z9 P[k].b,Z7 .u8 P[k].c] 292)).cell (Ub C)).trans C;have F:=f.alloc f.size (Z4 #[Z7 .u8 P[k].k,Z7 Z9 P[k].a,Z7 Z9 P[k].b,Z7 .u8 P[k].c] 292);have V:=f.size;go_wp2_with fail;refine (GM P[k] regs d _).mono ?_;rintro r w2 ⟨b2,rfl,H,A⟩;rw [Ug] at A;have G:=F.trans (A.mono (by omega));have x:=al H;clear A H N d1 O Q C D f F;cases b2
        . go_wp2;go_ret;exact ⟨λg=>absurd (x.out.2 (g.2 k I)) (by simp),λ_=>rfl,m.trans (G.mono (by omega))⟩
        . go_wp2;go_roundw
          case rel=>
           refine ⟨k+1,by omega,by go_num,λj B U=>?_,G⟩;by_cases e:j=k
           . subst e;first|exact x.out.1 rfl|exact x.out.1 trivial
           . exact y.out j B (by omega)
          case measure=>simp [intOf];omega
      . have R:k=P.length:=(by omega);subst R;have y:=al o;clear z o;go_wp2;go_ret;exact ⟨λ_=>rfl,λg=>absurd ⟨E.out,λi hi=>y.out i hi hi⟩ g,m.trans (f.mono (by omega))⟩
def eh (kk:IntKind):List St->List ZT
 | []=>[]
 | s::P=>GL kk s++eh kk P
def qK (kk:IntKind):∀ P Q,eh kk (P++Q)=eh kk P++eh kk Q
 | [],_=>rfl
 | s::P,Q=>by simp [eh,qK kk P Q]
def Fy (kk:IntKind):∀ (P:List St) (i:Nat) (hi:i<P.length) (j:Nat),j<4->(eh kk P)[i*4+j]?=(GL kk P[i])[j]?
 | s::P,0,_,j,a=>by
  simp only [eh,Yi,Ue,aa7];rw [Vx (by simpa [GL] using a)]
 | s::P,i+1,hi,j,a=>by
  have e:(i+1)*4+j=(GL kk s).length+(i*4+j):=by simp [GL];omega
  simp only [eh,XO];rw [e,U3 (Nat.le_add_right _ _),WC];exact Fy kk P i (by simpa using hi) j a
def AW (w:ZU) (n:Nat) (hn:n=w.heap.size) (x y z u:ZT) (t:ZL):∀ j v,[x,y,z,u][j]?=ZX v->(w.alloc (Z4 #[x,y,z,u] t)).cell? ((⟨n,0,ZY⟩:ZQ).add j)=ZX v:=by
 subst hn;intro j v a;rw [jD];rcases j with _|_|_|_|j;all_goals simp at a
 all_goals subst a;simp
def Nc {P:List St} (h:w.ownsRow base e 4 v P.length (eh kk P)) (hl:P.length<=4398046511104):Ps kk w v P:=by
 rcases h.2 with ⟨b,c⟩|⟨g,cap,cur,a,f,k,l,m,n,o⟩
 . have:P=[]:=UP c;subst this;exact ⟨ZY,0,b,by simp,λh=>absurd rfl h⟩
 . subst a;refine ⟨ZX ⟨g,0,ZY⟩,cap,rfl,hl,λ_=>⟨g,0,rfl,λi hi=>?_⟩⟩;have at':∀ j,j<4->w.cell? ⟨g,0+i*4+j,ZY⟩=(GL kk P[i])[j]?:=λj d=>by
    rw [Ue,h.cellAt (i*4+j) (by omega),Fy kk P i hi j d]
   exact ⟨at' 0 (by decide),at' 1 (by decide),at' 2 (by decide),at' 3 (by decide)⟩
def AX {ob:Option Nat} (h:w0.grownBy w ob) (o:Obj):w0.grownBy (w.alloc o) ob:=
 ⟨h.os,h.tape,h.output,by rw [Ug];have:=h.size;omega,λk a b=>by rw [<- h.block k a b];exact ((TY w.heap.size w).alloc lR o).block k (TZ a h.size)⟩
def dk (w:ZU) (b i:Nat) (v:ZT):w.grownBy (w.setCell ⟨b,i,ZY⟩ v) (ZX b):=
 ⟨rfl,rfl,rfl,by simp,λk _ a=>by
  have:b≠k:=λe=>a (by rw [e]);simp [World.setCell,VH,this]⟩
def nW (w:ZU) (o:Obj) (k:Nat) (h:k<w.heap.size):(w.alloc o).heap[k]?=w.heap[k]?:=((TY w.heap.size w).alloc lR o).block k h
def Ka (w:ZU) (a b c:Obj):(((w.alloc a).alloc b).alloc c).heap.size=w.heap.size+3/\(((w.alloc a).alloc b).alloc c).heap[w.heap.size]?=ZX a/\(((w.alloc a).alloc b).alloc c).heap[w.heap.size+1]?=ZX b/\(((w.alloc a).alloc b).alloc c).heap[w.heap.size+1+1]?=ZX c:=by
 have d:=Ug w a;have e:=Ug (w.alloc a) b;have:=Ug ((w.alloc a).alloc b) c;refine ⟨by omega,?_,?_,?_⟩
 . rw [nW _ _ _ (by omega),nW _ _ _ (by omega)];exact UG w a
 . rw [nW _ _ _ (by omega),<- d];exact UG _ b
 . rw [<- d,<- e];exact UG _ c
def aw {ob:Nat} {x:ZT} (h:w.heap[ob]?=ZX (Z4 #[x,y] t (0,0))):w.cell? ⟨ob,0,ZY⟩=ZX x/\w.cell? ⟨ob,1,ZY⟩=ZX y/\w.frozen? ⟨ob,1,ZY⟩=ZV/\w.frozen? ⟨ob,0,ZY⟩=ZV:=by
 simp [World.cell?,World.frozen?,h]
def bI (P:List St) (k:Nat):St:=P.getD k ⟨3,0,0,0⟩
def dO (P:List St) (k:Nat) (h:k<P.length):bI P k=P[k]:=by simp [bI,h]
def fl (P:List St) (D:List a8):Nat->Option Nat
 | 0=>ZY
 | k+1=>match fl P D k with
  | some n=>ZX n
  | none=>if (bI P k).k=0 then ZX (D.getD (bI P k).b.toNat []).length else ZY
def nX (gone i:Nat):Prop:=gone/2^i%2=1
def Nd (P:List St) (D:List a8) (gone i:Nat):Prop:=(bI P i).k=0->¬ nX gone (bI P i).b.toNat/\fl P D (i+1)=ZX (D.getD (bI P i).b.toNat []).length/\(D.getD (bI P i).b.toNat []).length<=4096
def gz (P:List St) (D:List a8) (gone:Nat):Prop:=∀ i,i<P.length->Nd P D gone i
def eo (P:List St) (D:List a8):Nat:=(fl P D P.length).getD 0
def nY (P:List St) (D:List a8) (k n:Nat) (h:fl P D k=ZX n):fl P D (k+1)=ZX n:=by simp [fl,h]
def yR (P:List St) (D:List a8) (k:Nat) (h:fl P D k=ZY) (a:(bI P k).k=0):fl P D (k+1)=ZX (D.getD (bI P k).b.toNat []).length:=by simp [fl,h,a]
def sP (P:List St) (D:List a8) (k:Nat) (a:(bI P k).k≠0):fl P D (k+1)=fl P D k:=by
 cases h:fl P D k<;>simp [fl,h,a]
def Fz (P:List St) (D:List a8) (k n:Nat) (h:fl P D k=ZX n):∀ m,k<=m->fl P D m=ZX n:=by
 intro m a;induction m with
 | zero => have:k=0:=by omega
           subst this;exact h
 | succ m ih=>
  by_cases e:k=m+1
  . subst e;exact h
  . exact nY P D m n (ih (by omega))
def Px {P:List St} (h:gz P D gone) (i:Nat) (hi:i<P.length) (a:(bI P i).k=0):(D.getD (bI P i).b.toNat []).length=eo P D:=by
 have:=(h i hi a).2.1;have:=Fz P D (i+1) _ this P.length (by omega);simp [eo,this]
def OK {P:List St} (h:gz P D gone):∀ k,k<=P.length->∀ n,fl P D k=ZX n->n<=4096
 | 0,_,n,e=>by simp [fl] at e
 | k+1,hk,n,e=>by
  cases a:fl P D k with
  | some m=>
   have:=OK h k (by omega) m a;rw [nY P D k m a] at e;simp at e;omega
  | none=>
   by_cases b:(bI P k).k=0
   . have q:=(h k (by omega) b);rw [q.2.1] at e;have:=UI e;omega
   . rw [sP P D k b,a] at e;simp at e
def GO {P:List St} (h:gz P D gone):eo P D<=4096:=by
 unfold eo;cases hf:fl P D P.length with
 | none=>simp
 | some n=>exact OK h P.length lR n hf
def iK (x y:a8) (c:Nat):a8:=(YD x.length).map λj=>x.getD j 0^^^gm c (y.getD j 0)
def dH (D:List a8) (s:St) (R:List a8):List a8:=
 if s.k=0 then R.set s.a.toNat (D.getD s.b.toNat []) else if s.k=1 then R.set s.a.toNat (iK (R.getD s.a.toNat []) (R.getD s.b.toNat []) s.c) else R
def ik (s:St) (R:List a8) (O:List (Int×a8)):List (Int×a8):=if s.k=2 then O++[(s.b,R.getD s.a.toNat [])] else O
def bP (P:List St) (D:List a8) (R0:List a8):Nat->List a8
 | 0=>R0
 | k+1=>dH D (bI P k) (bP P D R0 k)
def dq (P:List St) (D:List a8) (R0:List a8):Nat->List (Int×a8)
 | 0=>[]
 | k+1=>ik (bI P k) (bP P D R0 k) (dq P D R0 k)
def eJ (r n:Nat):List a8:=YE r (YE n 0)
def In (w:ZU) (b:Nat) (D:List a8) (gone:Nat):Prop:=∀ i (hi:i<D.length),(nX gone i->w.cell? ⟨b,i,ZY⟩=ZX (Z5 ZY 0 0))/\(¬ nX gone i->∃ a c,w.cell? ⟨b,i,ZY⟩=ZX (Z5 (ZX a) (D[i]).length c)/\Bs w (Z5 (ZX a) (D[i]).length c) D[i])
def In.mono (h:In w b D gone) (d:ZS w.heap.size w w'):In w' b D gone:=λi hi=>by
 obtain ⟨g,j⟩:=h i hi;refine ⟨λf=>by have:=g f;rw [d.cell (Ub this)];exact this,λf=>?_⟩;obtain ⟨a,c,e,k⟩:=j f;exact ⟨a,c,by rw [d.cell (Ub e)];exact e,k.mono d⟩
def bv (l:a8):List ZT:=l.map λx=>Value.int .u8 ((x:Nat):Int)
theorem Kb (h:w.heap[g]?=ZX (Z4 (((bv l).toArray)++Builtin.zeroCells #[Z7 .u8 0] m) 5 (0,0))):aM w g (l++YE m 0):=by
 have e:((bv l).toArray++Builtin.zeroCells #[Z7 .u8 0] m)=((l++YE m 0).map (λx=>Value.int .u8 ((x:Nat):Int))).toArray:=by
  apply Array.ext';simp [bv,Builtin.zeroCells,Nat.mod_one,List.map_const']
 rw [e] at h;refine ⟨_,h,by simp,λi hi=>?_⟩;rw [WY,Un,Ua hi];simp [vb,Ua hi]
def DD {a:ZM} {Q:ZO->ZM->ZU->Prop} (b:o.guard=ZY) (s x:ZK) (t:ZL) (ho:o.op=.call { callee:=.builtin .append,args:=#[s,x],argTypes:=#[t,t] })
 (vs vx v':ZT) (hs:a.eval s=vs) (hx:a.eval x=vx) (h0:(Builtin.append_ #[t,t] o.type #[vs,vx]).run ZJ w=.ok v' w') (h:wpList ZJ ops Q rest (a.put o.dst v') w'):wpList ZJ ops Q (o::rest) a w:=by
 refine VO b λK hK=>?_;unfold Oper.wp;simp [execOp,ho,resolve,invoke,builtin,hs,hx,h0,Result.andThen];exact hK _ _ h
theorem DE (f:ZQ) (c:Nat) (l:a8) (w:ZU) (h:Bs w (Z5 (ZX f) l.length c) l) (hl:l.length<=100000) :
 ZR ZJ 177 #[Z5 (ZX f) l.length c] w λe w'=>∃ b m,e=Z3 (Z5 (ZX ⟨b,0,ZY⟩) l.length (l.length+m))/\w.heap.size<=b/\aM w' b (l++YE m 0)/\l.length+m<=9223372036854775807/\ZS w.heap.size w w':=by
 obtain ⟨M,F,I,J,K⟩:=Us Tryz.R6;have E:=λN=>W0 (P:=ZJ) N 31 5 (ZX f) l.length c 0 0 Uh;have o:∀ j u,(bv l)[j]?=ZX u->(w.alloc (Z4 #[] 5)).cell? (f.add j)=ZX u:=by
  intro j u t;obtain ⟨x,O,e,_,_,_,A⟩:=h.mono ((TY _ _).alloc lR (Z4 #[] 5));have k:j<l.length:=by
   obtain ⟨q,_⟩:=U1.1 t;simpa [bv] using q
  obtain ⟨r,a,n,H⟩:=A (by intro e;rw [e] at k;simp at k);simp at e;rw [<- e.1] at n;simp at n;subst n;have y:(⟨r,a,ZY⟩:ZQ).add j=⟨r,a+j,ZY⟩:=by unfold Addr.add;split<;>simp_all
  rw [y,H j k,<- t];simp [bv,k]
 have g:ZS w.heap.size w (w.alloc (Z4 #[] 5)):=bA _ _;by_cases z:l.length=0
 . have G:l=[]:=UP z;subst G;clear h o;go_enter func177,ntmps177;simp only [UQ] at E;go_wp2;go_ret;exact ⟨w.heap.size,0,rfl,TV _,⟨#[],UG w _,rfl,λi hi=>by simp at hi⟩,by omega,g⟩
 . have s:=run_append_grow (P:=ZJ) (w:=w.alloc (Z4 #[] 5)) 31 31 5 M (Z7 .u8 0) Uh F I ⟨w.heap.size,0,ZY⟩ 0 0 [] (by simp) (λj v L=>by simp at L) f l.length c (bv l) (by rw [J];simp [bv]) o (by omega) (by omega) (by rw [K];have:=Yj (need:=0+l.length) (old:=0) (bytes:=1) (by omega) (by omega);omega);obtain ⟨d,Q,D,p⟩:∃ d,l.length<=d/\d<=9223372036854775807/\(Builtin.append_ #[31,31] 31 #[Z5 (ZX ⟨w.heap.size,0,ZY⟩) 0 0,Z5 (ZX f) l.length c]).run ZJ (w.alloc (Z4 #[] 5))=.ok (Z5 (ZX ⟨w.heap.size+1,0,ZY⟩) l.length d) ((w.alloc (Z4 #[] 5)).drew.alloc (Z4 ((bv l).toArray++Builtin.zeroCells #[Z7 .u8 0] (d-l.length)) 5)):=by
    refine ⟨grownCap (w.alloc (Z4 #[] 5)) (0+l.length) 0 5,by have:=Yk (w.alloc (Z4 #[] 5)) (0+l.length) 0 5;omega,by have:=Yl (w.alloc (Z4 #[] 5)) (0+l.length) 0 5 (by unfold maxLen;omega);unfold maxLen at this;omega,?_⟩;rw [s,Ug];simp [Value.cells]
   obtain ⟨m,rfl⟩:∃ m,d=l.length+m:=⟨d-l.length,by omega⟩;rw [WC] at p;have B:=al p;clear p s o h;go_enter func177,ntmps177;go_wp2_with (at_builtin;refine DD rfl (Z1 5) (Z1 6) 31 rfl _ _ _ rfl rfl B.out ?_);go_ret;have C:aM ((w.alloc (Z4 #[] 5)).drew.alloc (Z4 ((bv l).toArray++Builtin.zeroCells #[Z7 .u8 0] m) 5)) (w.heap.size+1) (l++YE m 0):=by
    refine Kb ?_;have:=UG (w.alloc (Z4 #[] 5)).drew (Z4 ((bv l).toArray++Builtin.zeroCells #[Z7 .u8 0] m) 5);rwa [show (w.alloc (Z4 #[] 5)).drew.heap.size=w.heap.size+1 from Ug _ _] at this
   exact ⟨w.heap.size+1,m,rfl,by omega,C,D,((show ZS w.heap.size w (w.alloc (Z4 #[] 5)).drew from ⟨g.os,g.tape,g.output,g.size,g.block⟩).alloc (show w.heap.size<=(w.alloc _).heap.size by rw [Ug];omega) _)⟩
def LlR (w:ZU) (P:List St) (D:List a8) (gone:Nat) (lv sv iv:ZT) (wr:ZU):Prop:=
 ∃ k:Nat,k<=P.length/\iv=Z7 Z9 k/\lv=Z7 Z9 ((fl P D k).getD 0:Nat)/\sv=Z2 (fl P D k).isSome/\(∀ i,i<k->Nd P D gone i)/\ZS w.heap.size w wr
def Py (P:List St) (D:List a8) (gone:Nat) (w:ZU) (r:ZP) (w':ZU):Prop:=
 (gz P D gone->r=Z3 (Z0 #[Z7 Z9 (eo P D:Nat),.nilIface]))/\(¬ gz P D gone->r=Z3 (Z0 #[Z7 Z9 0,.iface 58 (Z7 Z9 2)]))/\ZS w.heap.size w w'
theorem pE (v:ZT) (P:List St) (T ci:Nat) (D:List a8) (gone:Nat) (w:ZU) (h:Ps .u8 w v P) (I:In w T D gone) (hq:∀ l∈D,l.length<=100000)
 (K:∀ i,i<P.length->(bI P i).k=0->0<=(bI P i).b/\(bI P i).b<(D.length:Int)) (hl:P.length<=5000) :
 ZR ZJ 175 #[v,Z5 (ZX ⟨T,0,ZY⟩) D.length ci] w λr w'=>Py P D gone w r w':=by
 obtain ⟨ao,c,rfl⟩:=h.slice;go_enter func175,ntmps175;go_wp2;go_loopw [6,7,13] (λlv sv O wr=>LlR w P D gone lv sv O wr) (λ_ _ O _=>P.length-(intOf O).toNat)
 case atStart=>exact ⟨0,T9 _,rfl,rfl,rfl,λi hi=>absurd hi (by omega),TY _ _⟩
 case round=>
  rename ZU=>wo;obtain ⟨k,hk,rfl,rfl,rfl,G,F⟩:=hrel;have k8:=F.size;by_cases t:k<P.length
  . rcases (h.mono F).cases with ⟨rfl,_⟩|⟨b,off,cc,e,_,U⟩
    . simp at t
    simp at e;obtain ⟨rfl,rfl⟩:=e;obtain ⟨d0,d1,d2,d3⟩:=U k t;have X:=dO P k t;have H:=K k t;have A:=al G;have s:=al (nY P D k);have o:=al (yR P D k);have E:=al (sP P D k);have d:Hid (Nd P D gone k↔((bI P k).k=0->¬ nX gone (bI P k).b.toNat/\fl P D (k+1)=ZX (D.getD (bI P k).b.toNat []).length/\(D.getD (bI P k).b.toNat []).length<=4096)):=Iff.rfl;rw [X] at H o E d;have g:=F.alloc k8 (Z4 #[Z7 .u8 P[k].k,Z7 Z9 P[k].a,Z7 Z9 P[k].b,Z7 .u8 P[k].c] 292);have J:=I.mono g;clear U G I h K X;generalize P[k].k=Q at *;generalize P[k].b=sb at *;by_cases u:Q=0
    . have tk:((Q:Int) != 0)=ZV:=(by simp [u]);obtain ⟨q1,q2⟩:=H u;have C:=al u;clear u;obtain ⟨x,rfl⟩:∃ x:Nat,sb=(x:Int):=⟨sb.toNat,by omega⟩;have L:x<D.length:=(by omega);obtain ⟨M,N⟩:=J x L;have V:D.getD x []=D[x]:=(by simp [L]);have k9:=hq _ (T4 L);rw [Vy,V] at o d;clear H q1 q2 J V E;by_cases B:nX gone x
      . have ha:=M B;have p:Hid (¬ gz P D gone):=λhl=>((d.out.1 (hl k t)) C.out).1 B;have k5:=λR=>W0 (P:=ZJ) R 31 5 ZY 0 0 0 0 Uh;clear M N d o s;cases hf:fl P D k
        . go_wp2;go_ret2;exact ⟨λhl=>absurd hl p.out,λ_=>rfl,g⟩
        . go_wp2;go_ret2;exact ⟨λhl=>absurd hl p.out,λ_=>rfl,g⟩
      . obtain ⟨Z,cx,ha,hz⟩:=N B;have k5:=λR=>W0 (P:=ZJ) R 31 5 (ZX Z) (D[x]).length cx 0 0 Uh;clear M N hz;generalize D[x].length=n at *;cases hf:fl P D k with
        | none=>
         have f:=o.out hf C.out;by_cases hn:n<=4096
         . have z:=d.out.2 (λ_=>⟨B,f,hn⟩);have y:=al z;have j:=al f;clear d o s f z;go_wp2;go_roundw
           case rel=>
            refine ⟨k+1,by omega,by go_num,by first|(rw [j.out];rfl)|rw [j.out],by first|(rw [j.out];rfl)|rw [j.out],λi hi=>?_,g⟩;by_cases e:i=k
            . subst e;exact y.out
            . exact A.out i (by omega)
           case measure=>simp [intOf];omega
         . have p:Hid (¬ gz P D gone):=λhl=>hn ((d.out.1 (hl k t)) C.out).2.2;have k7:(4096:Int)<(n:Int):=(by omega);clear d o s f;go_wp2;go_ret2;exact ⟨λhl=>absurd hl p.out,λ_=>rfl,g⟩
        | some m=>
         have f:=s.out m hf;by_cases hn:n=m/\n<=4096
         . obtain ⟨rfl,hn⟩:=hn;have z:=d.out.2 (λ_=>⟨B,f,hn⟩);have y:=al z;have j:=al f;have Y:(((n:Nat):Int) != (n:Int))=ZV:=(by simp);clear d o s f z;go_wp2;go_roundw
           case rel=>
            refine ⟨k+1,by omega,by go_num,by first|(rw [j.out];rfl)|rw [j.out],by first|(rw [j.out];rfl)|rw [j.out],λi hi=>?_,g⟩;by_cases e:i=k
            . subst e;exact y.out
            . exact A.out i (by omega)
           case measure=>simp [intOf];omega
         . have p:Hid (¬ gz P D gone):=λhl=>by
            have q:=(d.out.1 (hl k t)) C.out;rw [f] at q;have:=q.2.1;simp at this;omega
           clear d o s f;by_cases W:n=m
           . have k7:(4096:Int)<(m:Int):=(by omega);have Y:(((n:Nat):Int) != (m:Int))=ZV:=(by simp;omega);clear hn W;go_wp2;go_ret2;exact ⟨λhl=>absurd hl p.out,λ_=>rfl,g⟩
           . have Y:(((n:Nat):Int) != (m:Int))=ZW:=(by simp;omega);clear hn W;go_wp2;go_ret2;exact ⟨λhl=>absurd hl p.out,λ_=>rfl,g⟩
    . have tk:((Q:Int) != 0)=ZW:=(by simp;omega);have S:=al (E.out u);have y:=al (d.out.2 (λe=>absurd e u));clear E o s d H J u;go_wp2;go_roundw
      case rel=>
       refine ⟨k+1,by omega,by go_num,by rw [S.out],by rw [S.out],λi hi=>?_,g⟩;by_cases e:i=k
       . subst e;exact y.out
       . exact A.out i (by omega)
      case measure=>simp [intOf];omega
  . have k6:k=P.length:=(by omega);subst k6;have A:=al G;clear h I K G;go_wp2;go_ret2;exact ⟨λ_=>rfl,λhn=>absurd (λi hi=>A.out i hi) hn,F⟩
theorem DF {a:Nat} (h:a^^^c=b^^^c):a=b:=by
 have:=congrArg (·^^^c) h;simpa [Vo] using this
def Pz {a:Nat} (h:c^^^a=c^^^b):a=b:=DF (c:=c) (by rw [Xr a,Xr b];exact h)
def AY (h:r<4294967296):dg r/2^28=cG.getD (r%16) 0/2^28:=by
 unfold dg;rw [Nat.xor_div_two_pow,Xb (show r/16<2^28 by omega),VL]
def AZ (d:r<4294967296) (e:s<4294967296) (h:dg r=dg s):r=s:=by
 have a:cG.getD (r%16) 0/2^28=cG.getD (s%16) 0/2^28:=by rw [<- AY d,<- AY e,h]
 have c:∀ i j:Fin 16,cG.getD i.1 0/2^28=cG.getD j.1 0/2^28->i.1=j.1:=by decide
 have b:r%16=s%16:=c ⟨r%16,VT _ (by decide)⟩ ⟨s%16,VT _ (by decide)⟩ a;unfold dg at h;rw [b] at h;have:r/16=s/16:=DF h;omega
def A3 (e:r<4294967296) (f:s<4294967296) (g:b<256) (i:c<256) (h:du r b=du s c):r^^^b=s^^^c:=
 have a:r^^^b<4294967296:=V8 (n:=32) e (by omega);have d:s^^^c<4294967296:=V8 (n:=32) f (by omega)
 AZ a d (AZ (gv a) (gv d) h)
def A4:∀ (l:a8) {r s:Nat},r<4294967296->s<4294967296->(∀ x∈l,x<256)->l.foldl du r=l.foldl du s->r=s
 | [],_,_,_,_,_,h=>h
 | b::l,r,s,c,d,hl,h=>by
  have a:=hl b (by simp);exact DF (A3 c d a a (A4 l (eN c a) (eN d a) (λx e=>hl x (by simp [e])) h))
def Kc {p q:a8} (j:∀ x∈p,x<256) (f:∀ x∈q,x<256) (d:b<256) (e:c<256) (h:nH (p++b::q)=nH (p++c::q)):b=c:=by
 have a:=nf j;have g:∀ y,cU (p++y::q)=q.foldl du (du (cU p) y):=λy=>by unfold cU;rw [V9,Wy]
 have:=yE q _ (eN a d) f;have:=yE q _ (eN a e) f;unfold nH at h;rw [g,g] at h;have i:q.foldl du (du (cU p) b)=q.foldl du (du (cU p) c):=by omega
 exact Pz (A3 a a d e (A4 q (eN a d) (eN a e) f i))
theorem FA (a:m<4294967296) (hn:n<4294967296) (h:be m 4=be n 4):m=n:=by
 have:=congrArg fG h;rwa [lu m 4 (by decide) a,lu n 4 (by decide) hn] at this
theorem sQ (hl:l.length=64) (h:(ri l).blk=l):l=YE 64 0\/∃ t,t.length=60/\l=be (nH t) 4++t/\1<=t.getD 0 0/\t.getD 0 0<=3:=by
 by_cases a:(ri l).body.length=0
 . left;unfold bC.blk at h;rw [if_pos a] at h;exact h.symm
 . right;have b:1<=l.getD 4 0/\l.getD 4 0<=3:=by
    unfold ri at a;by_cases d:l.getD 4 0=1
    . omega
    . by_cases e:l.getD 4 0=2
      . omega
      . by_cases f:l.getD 4 0=3
        . omega
        . rw [if_neg d,if_neg e,if_neg f] at a;exact absurd rfl a
   unfold bC.blk at h;rw [if_neg a] at h;unfold cH at h;obtain ⟨t,g⟩:=nM ((ri l).body++YE (60-(ri l).body.length) 0);rw [g] at h;have c:=congrArg YO h;rw [T8,aF,hl] at c;refine ⟨t,by omega,h.symm,?_⟩;rw [<- h,T5,U3 (by rw [aF];decide),aF] at b;rw [T5];exact b
def Nf (l:a8) {j:Nat} (h:j<l.length) (x:Nat):l.set j x=l.take j++x::l.drop (j+1):=by rw [List.set_eq_take_append_cons_drop,if_pos h]
def Ng (l:a8) {j:Nat} (h:j<l.length):l=l.take j++l.getD j 0::l.drop (j+1):=by
 rw [T5,Ua h];show l=l.take j++l[j]::l.drop (j+1);rw [<- XJ h,V4]
theorem qM (p:j<64) (w:x<256) (v:x≠0):¬ ∃ t,t.length=60/\(YE 64 0).set j x=be (nH t) 4++t/\1<=t.getD 0 0/\t.getD 0 0<=3:=by
 rintro ⟨t,r,h,c,f⟩;have a:∀ i,t.getD i 0=((YE 64 0).set j x).getD (i+4) 0:=λi=>by
  rw [h,T5,T5,U3 (by rw [aF];omega),aF,Nat.add_sub_cancel]
 have b:∀ i,((YE 64 0).set j x).getD i 0=if j=i then x else 0:=λi=>by
  rw [T5,XP];by_cases e:j=i
  . rw [if_pos e,if_pos e,Xy,if_pos p];rfl
  . rw [if_neg e,if_neg e,Wq];split<;>rfl
 have k:j=4:=by
  have:=a 0;rw [b] at this;by_cases e:j=0+4
  . exact e
  . rw [if_neg e] at this;omega
 subst k;have n:t.getD 0 0=x:=by rw [a,b];rfl
 have m:t=x::YE 59 0:=by
  refine Vh (by simp [r]) λi s z=>?_;have q:=(a i).trans (b _);rw [T5,Ua s] at q;have u:t[i]=if 4=i+4 then x else 0:=q;rw [u];match i with
  | 0=>rfl
  | i+1=>rw [if_neg (by omega),XO,List.getElem_replicate]
 have o:be (nH t) 4=[0,0,0,0]:=by
  have:=congrArg (List.take 4) h;rw [VN (by rw [aF];exact TV _),UD (l:=be (nH t) 4) (by rw [aF];exact TV _)] at this;rw [<- this];simp [YE]
 have d:nH t=0:=FA (yF _) (by decide) o;rw [n] at c f;have g:∀ y:Fin 4,1<=y.1->nH (y.1::YE 59 0)≠0:=by decide +kernel
 rw [m] at d;exact g ⟨x,by omega⟩ c d
def Ke (hl:l.length=64) (z:∀ y∈l,y<256) {j x:Nat} (c:j<64) (v:x<256) (a:x≠l.getD j 0) (h:(ri l).blk=l):(ri (l.set j x)).blk≠l.set j x:=by
 intro r;have g:j<l.length:=by omega
 have C:l.getD j 0<256:=by rw [T5,Ua g];exact z _ (T4 g)
 have s:(l.set j x).set j (l.getD j 0)=l:=by
  rw [List.set_set,T5,Ua g];exact List.set_getElem_self _
 have u:(l.set j x).getD j 0=x:=by rw [T5,Ym g];rfl
 rcases sQ hl h with e|⟨t,E,e,A,B⟩
 . rcases sQ (by rw [Wm];exact hl) r with b|w
   . have q:=u;rw [b,T5,Wq,if_pos c] at q;rw [e,T5,Wq,if_pos c] at a;exact a q.symm
   . have q:l.getD j 0=0:=(by rw [e,T5,Wq,if_pos c];rfl);rw [q] at a;rw [e] at w;exact qM c v a w
 . rcases sQ (by rw [Wm];exact hl) r with b|⟨H,I,b,_⟩
   . have q:x=0:=by
      have q:=u;rw [b,T5,Wq,if_pos c] at q;exact q.symm
     rw [b] at s;rw [q] at a;exact qM c C (λq=>a q.symm) ⟨t,E,s.trans e,A,B⟩
   . by_cases m:j<4
     . have o:(be (nH t) 4++t).set j x=(be (nH t) 4).set j x++t:=List.set_append_left _ _ (by rw [aF];exact m);rw [e,o] at b;have D:((be (nH t) 4).set j x).length=(be (nH H) 4).length:=(by rw [Wm,aF,aF]);obtain ⟨k,p⟩:=YY b D;rw [<- p] at k;have f:((be (nH t) 4).set j x).getD j 0=(be (nH t) 4).getD j 0:=(by rw [k]);rw [T5,Ym (by rw [aF];exact m)] at f;rw [e,T5,Vx (by rw [aF];exact m),<- T5] at a;exact a f
     . have o:(be (nH t) 4++t).set j x=be (nH t) 4++t.set (j-4) x:=(by rw [YN _ _ (by rw [aF];omega),aF]);rw [e,o] at b;obtain ⟨k,p⟩:=YY b (by rw [aF,aF]);have f:=FA (yF _) (yF _) k;have i:j-4<t.length:=(by omega);have n:∀ y∈t,y<256:=λy d=>z y (by rw [e];exact VK _ d);rw [<- p,Nf t i] at f;have G:nH (t.take (j-4)++t.getD (j-4) 0::t.drop (j-4+1))=nH (t.take (j-4)++x::t.drop (j-4+1)):=(by rw [<- Ng t i];exact f);have F:=Kc (λy d=>n y (UN d)) (λy d=>n y (US d)) (by rw [T5,Ua i];exact n _ (T4 i)) v G;rw [e,T5,U3 (by rw [aF];omega),aF,<- T5] at a;exact a F.symm
