import Derived.WalkKit
import Derived.Test.YtmpnnokoodjllaaGreatDoorRows
import Derived.ProofKit
import Derived.OpenShut
import Derived.WalkSpells
import Derived.Deep.OwnRows
import Derived.Deep.Slices
import Derived.Deep.Matrix
import Derived.Deep.MidRow
import Derived.Test.YtmpnnokoodjllaaGreatDoorM01
import Derived.Laws.BitsLemmas
import Derived.Deep.QuietTactic
import Derived.BigQuiet
import Derived.Maps.AppendAt
import Derived.Laws.Bits64b
import Derived.Laws.CopyOwn
import Derived.Deep.RegionWith
import Derived.RegionTactic
import Derived.Lib.TrailingZeros
import Derived.Laws.BitsAllLaws
import Derived.RangeFuncNested
import Derived.RangeFuncBound
import Derived.RangeFuncLeaves
import Derived.Shelf.Abstract
import Derived.Shelf.RegionOpen
import Derived.OwnWalkIn
import Derived.TacticsInMore
import Derived.LoopNIn
import Derived.LoopIn
import Derived.Laws.Tables
import Derived.Deep.WholeRow
import Derived.BigRegion
import Derived.Lib.SliceRun
set_option maxRecDepth 100000
set_option linter.all false
set_option maxHeartbeats 8000000
open Go.IntKind renaming i64 -> Z9, u64 -> Z8
open Go.Value renaming int -> Z7, pointer -> Z6, slice -> Z5, bool -> Z1, tuple -> ZZ
open Go.Obj renaming cells -> Z4
open Go.Ending renaming returned -> Z3
open Go.Operand renaming tmp -> Z0
open Go renaming undef -> ZY, World -> ZT, Value -> ZS, Calls -> ZQ, Ending -> ZP, Exit -> ZO, Oper -> ZN, Act -> ZM, TypeId -> ZL, Operand -> ZK
open Option renaming none -> ZX, some -> ZW
open Bool renaming true -> ZV, false -> ZU
open Go.RowKit renaming Below -> ZR
open List renaming range -> YC, replicate -> YD, getElem_set -> YG, eq_nil_or_concat -> YN, concat_eq_append -> YO, set_append_right -> YS, range_zero -> YW
open Nat renaming mod_eq_of_lt -> YE, testBit_two_pow_mul_add -> YM, div_div_eq_div_mul -> YP, and_two_pow_sub_one_eq_mod -> YR, div_mul_le_self -> YV
open Array renaming replicate -> YF, ext -> YL, all_eq_true' -> YU
open Bool renaming and_eq_true_iff -> YH
open BitVec renaming ofInt_natCast -> YI, toNat_xor -> YJ, toNat_ofNat -> YK
open Int renaming natCast_nonneg -> YQ
open Option renaming getD_some -> YT
open Go.Proofs.Tryz renaming prog -> ZJ
open Go.Proofs.Tryz
namespace Go.Proofs.YtmpnnokoodjllaaGreatDoor
variable {p q:Prop}
def ee (h:p:=by (conv at ho=>rhs;whnf);simp only [execOp,ho,u0];go_simp):p:=h
def ei (h:p:=by kernel_rfl):p:=h
def e8 (h:p:=by go_num):p:=h
def lk (h:p:=by (conv at ho=>rhs;whnf);simp only [execOp,ho];go_simp;simpa [Act.eval] using u0):p:=h
def ua (h:p:=by (conv at ho=>rhs;whnf);simp only [execOp,ho,u0,u1];go_simp):p:=h
def um (h:p:=by (conv at ho=>rhs;whnf);simp only [execOp,ho,v0];go_simp):p:=h
def Ax (h:p:=by (conv at ho=>rhs;whnf);simp only [execOp,ho];go_simp):p:=h
def Pl (h:p:=by (conv at ho=>rhs;whnf);simp only [execOp,ho,u0,bm];go_simp):p:=h
def Zk (h:p:=by simp [results,results154,go_sem,n0,n1]):p:=h
def Zu (h:p:=by simp [results,results90,go_sem]):p:=h
def abM (h:p:=by simp [go_sem]):p:=h
def ab4 (h:p:=by go_simp):p:=h
end Go.Proofs.YtmpnnokoodjllaaGreatDoor
namespace Go.Proofs.YtmpnnokoodjllaaGreatDoor
def TX:=@Go.RowKit.Below.refl
def Un:=@List.mem_cons
def V6:=@Nat.mod_lt
def W0:=@Nat.pow_succ
def VK:=@Nat.div_le_self
def Vm:=@Nat.pow_le_pow_right
def Xq:=@Nat.div_eq_of_lt
def W4:=@List.not_mem_nil
def Vn:=@List.eq_of_mem_replicate
def Vo:=@Go.World.rowIs.of_block
def Yw:=@Go.World.rowIs.cell
def Xr:=@List.length_set
def T6:=@List.getD_eq_getElem?_getD
def W5:=@Go.World.rowIs_made
def Yx:=@List.length_replicate
def TW:=@Array.getElem?_eq_some_iff
def Uu:=@List.map_append
def Vc:=@List.nodup_append
def T1:=@List.mem_map
def UK:=@List.eq_nil_of_length_eq_zero
def VD:=@Go.wpList_plain
def Xs:=@Go.run_make_row'
def Ui:=@Go.Proofs.Tryz.underlying31
def Ug:=@Go.Deep.nblk_alloc
def T7:=@Go.Deep.blk_setCell_other
def Um:=@List.length_cons
def Ul:=@List.getElem?_map
def UT:=@List.getElem?_eq_some_iff
def Vv:=@Array.getElem?_modify
def Yy:=@Array.getElem?_setIfInBounds
def TZ:=@List.length_map
def T2:=@List.getElem?_eq_getElem
def Ur:=@Go.info_parts
def Uo:=@Go.Sem.run_bind
def T9:=@Go.Deep.blk_alloc_new
def U3:=@Go.setRow_heap
def UW:=@Go.Sem.run_pure
def Uz:=@Go.Result.andThen_ok
def WE:=@Go.run_loadVar_row
def Wr:=@Go.Proofs.Tryz.underlying40
def Xt:=@Go.run_storeVar_row
def Yz:=@Go.wpList_load_mid
def Us:=@Go.IntKind.wrap_i64
def W9:=@Nat.lt_trans
def YA:=@Bool.eq_iff_iff
def T8:=@Go.block_lt_of_cell
def Ud:=@List.length_take
def US:=@List.mem_of_mem_take
def Uc:=@Nat.zero_add
def VL:=@Go.wp_loop_rounds
def Vw:=@Go.rounds_succ
def Xu:=@List.take_succ_cons
def UH:=@List.cons_append
def XW:=@Nat.sub_zero
def UU:=@List.take_of_length_le
def XX:=@Go.wpList_append_own_at
def UI:=@List.append_assoc
def Vh:=@Go.IntKind.wrap_u64
def YB:=@Go.bits_or_u64_nat
def Xw:=@Nat.testBit_two_pow_sub_succ
def Ws:=@Nat.testBit_two_pow_sub_one
def Wt:=@Nat.testBit_lt_two_pow
def Vd:=@List.take_add_one
def VE:=@List.take_length
def U4:=@List.ext_getElem
def aa7:=@List.mem_iff_getElem
def Wg:=@List.pairwise_iff_getElem
def XY:=@Go.cell_one_new
def Vr:=@Array.getElem?_eq_getElem
def aa8:=@Go.wpList_copy_splice
def Vj:=@Go.Addr.add_mid
def XZ:=@List.drop_replicate
def Wu:=@Nat.add_sub_cancel_left
def Wh:=@Go.World.grownBy.refl
def Ut:=@Go.Deep.blk_alloc_lt
def Wi:=@List.map_take
def Xx:=@List.getElem?_take
def Wj:=@List.map_drop
def VM:=@List.getElem?_drop
def VV:=@Nat.min_eq_left
def Uh:=@Go.World.cell?_of_block
def Ue:=@List.length_drop
def Xy:=@Nat.lt_of_le_of_lt
def UV:=@List.mem_of_mem_drop
def aa9:=@Go.World.rangeAt_alloc
def VF:=@List.drop_drop
def Uf:=@Go.bodyPost_ret
def VG:=@Go.results_cell_row
def WG:=@Go.Proofs.Tryz.underlying110
def X1:=@List.drop_zero
def Vx:=@Array.getD_eq_getD_getElem?
def Wv:=@Option.map_some
def aba:=@Array.toList_setIfInBounds
def UJ:=@List.set_cons_succ
def Wk:=@List.length_eq_zero_iff
def Xa:=@List.all_eq_true
def Ve:=@List.getElem?_range
def UC:=@Option.some.injEq
def WH:=@Prod.mk.injEq
def aby:=@List.eq_nil_iff_forall_not_mem
def Vy:=@List.map_toArray
def UD:=@List.map_cons
def U5:=@List.map_nil
def VH:=@Nat.two_pow_pos
def VW:=@Nat.mul_one
def Xb:=@Nat.testBit_and
def Xz:=@Nat.testBit_two_pow
def abb:=@Nat.testBit_eq_decide_div_mod_eq
def X2:=@List.sum_append
def abc:=@List.sum_cons
def X3:=@Int.natCast_pow
def WJ:=@Nat.and_le_left
def X4:=@Int.natCast_ediv
def Vs:=@Nat.add_zero
def X5:=@Go.u64_andNot_nat
def VY:=@Go.RowKit.Below.heap_setCell
def WK:=@Go.grownBy_putObj'
def UE:=@Go.World.putObj_heap_other
def U6:=@Go.callsIn_wide
def XA:=@Go.World.alloc_heap_new
def Ua:=@Go.World.size_alloc
def VN:=@Go.RowKit.Below.heap_alloc
def UO:=@List.mem_cons_self
def Ux:=@List.mem_cons_of_mem
def WL:=@Go.callsIn_of_wp
def Uy:=@List.size_toArray
def UQ:=@List.length_nil
def UX:=@Array.replicate_succ
def UY:=@Array.replicate_zero
def UZ:=@List.push_toArray
def U0:=@List.append_toArray
def Uk:=@List.nil_append
def V7:=@List.append_nil
def Xc:=@Go.results_none
def V8:=@Go.Oper.semAt_plain
def abd:=@Go.World.rowIs_alloc
def XB:=@Array.all_eq_true
def X6:=@Go.wpList_load_row
def XC:=@Go.Proofs.Tryz.underlying263
def V9:=@Go.wpList_store_row
def Uv:=@List.length_range
def WM:=@List.getElem?_toArray
def UG:=@Go.heap_alloc_last
def Xd:=@Nat.mul_le_mul_right
def XD:=@Int.natCast_mul
def XE:=@List.mem_or_eq_of_mem_set
def abe:=@Go.wpList_make_own
def Wl:=@Go.Proofs.Tryz.underlying176
def X7:=@Go.wpList_append_own
def Uw:=@Go.run_underlying
def Xe:=@Nat.zero_mul
def abf:=@List.getElem_cons_zero
def U7:=@List.getElem?_append_left
def X8:=@List.getElem_cons_succ
def Vp:=@List.getElem?_append_right
def UA:=@Option.some.inj
def Xf:=@Go.Lib.run_eql_slice_nil
def X9:=@Go.growslice_fits
def Ya:=@Go.grownCap_ge
def Yb:=@Go.grownCap_le_maxLen
def VO:=@Int.toNat_natCast
def VP:=@List.getElem?_take_of_lt
def Yc:=@Array.getElem?_toList
def abg:=@List.getElem?_replicate
def UB:=@Go.World.ownsRow_nil
end Go.Proofs.YtmpnnokoodjllaaGreatDoor
namespace Go.Proofs.YtmpnnokoodjllaaGreatDoor
open Go.RowKit Go.Deep Gf Go.Shelf
variable {listed:Array Bool} {ops:Array ZN} {cs vals args:Array ZS} {C:Ck} {R Rr R':ZP->ZT->Prop} {f:FuncId} {kk:IntKind} {D M:List a9} {L T:List (Nat×Nat×a9)} {sh:List (Op×Option Nat×a9)} {l l':a9} {rest:List ZN} {xs:List ZS} {r b n base base' p B t q k g cap off c j lo hi i m x gone nb:Nat} {S:Nat->Prop} {o:ZN} {P:Program} {α:Type} {e:ZL} {v v' y v0:ZS} {Vi:ZS->ZT->Prop} {w w' w'' a w0 w1 w2 wc wr:ZT}
def nM {α:Type _} (a:α):∃ x,a=x:=⟨a,rfl⟩
def lR {n:Nat}:n<=n:=TV n
def bA (w:Go.World) (o:Go.Obj):Go.RowKit.Below w.heap.size w (w.alloc o):=(TX _ w).alloc (TV _) o
abbrev bW (w v:Go.World):Prop:=Go.RowKit.Below w.heap.size w v
def be (n:Nat):Nat->a9
 | 0=>[]
 | s+1=>n/256^s%256::be n s
def dD (n s:Nat):(be n s).length=s:=by induction s with
 | zero=>rfl
 | succ s ih=>simp [be,ih]
def sQ (n s:Nat):∀ x∈be n s,x<256:=by induction s with
 | zero=>intro x a;simp [be] at a
 | succ s ih=>
  intro x a;simp only [be,Un] at a;rcases a with rfl|a
  . exact V6 _ ec
  . exact ih x a
def dh (l:a9):Nat:=l.foldl (λn x=>(n*256+x)%18446744073709551616) 0
def sR (l:a9) (x:Nat):dh (l++[x])=(dh l*256+x)%18446744073709551616:=by simp [dh]
def O5 (l:a9):dh l<18446744073709551616:=by
 rcases YN l with rfl|⟨l',x,rfl⟩
 . decide
 . rw [YO,sR];exact V6 _ ec
theorem MZ (n:Nat) (e:n<18446744073709551616):∀ (s a:Nat),s<=8->a=n/256^s->(be n s).foldl (λn x=>(n*256+x)%18446744073709551616) a=n:=by
 intro s;induction s with
 | zero=>intro a _ b;simpa [be] using b
 | succ s ih=>
  intro a f b;simp only [be,Wf];refine ih _ eb ?_;subst b;have c:n/256^(s+1)=n/256^s/256:=by rw [W0,YP]
  rw [c];have:n/256^s<=n:=VK _ _;generalize n/256^s=q at *;omega
def Jq (n s:Nat) (a:s<=8) (h:n<256^s):dh (be n s)=n:=by
 have:(256:Nat)^s<=256^8:=Vm ec a;exact MZ n eb s 0 a (Xq h).symm
def dI:a9:=[0x00000000,0x1db71064,0x3b6e20c8,0x26d930ac,0x76dc4190,0x6b6b51f4,0x4db26158,0x5005713c,0xedb88320,0xf00f9344,0xd6d6a3e8,0xcb61b38c,0x9b64c2b0,0x86d3d2d4,0xa00ae278,0xbdbdf21c]
def fs (r:Nat):Nat:=(r/16)^^^dI.getD (r%16) 0
def mz (r b:Nat):Nat:=fs (fs (r^^^b))
def eh (l:a9):Nat:=l.foldl mz 4294967295
def OD (l:a9):Nat:=4294967295-eh l
def pM:∀ i,dI.getD i 0<4294967296:=by
 intro i;by_cases h:i<16
 . have:∀ j:Fin 16,dI.getD j.1 0<4294967296:=by decide
   exact this ⟨i,h⟩
 . have:dI.getD i 0=0:=by simp [dI,VJ (en:([0x00000000,0x1db71064,0x3b6e20c8,0x26d930ac,0x76dc4190,0x6b6b51f4,0x4db26158,0x5005713c,0xedb88320,0xf00f9344,0xd6d6a3e8,0xcb61b38c,0x9b64c2b0,0x86d3d2d4,0xa00ae278,0xbdbdf21c]:a9).length<=i)]
   omega
def lC (h:r<4294967296):fs r<4294967296:=by
 unfold fs;exact WA (n:=32) eb (pM _)
def Dp (h:r<4294967296) (a:b<256):mz r b<4294967296:=
 lC (lC (WA (n:=32) h eb))
def M0:∀ (l:a9) (r:Nat),r<4294967296->(∀ x∈l,x<256)->l.foldl mz r<4294967296:=by
 intro l;induction l with
 | nil=>intro r h _;exact h
 | cons b l ih=>intro r h a;exact ih _ (Dp h (a b ek)) (λx c=>a x ZB)
def sS (h:∀ x∈l,x<256):eh l<4294967296:=M0 l _ ec h
def O6 (l:a9):OD l<4294967296:=by unfold OD;omega
inductive bx where
 | blank
 | root (D L G turn first len:Nat)
 | filled
 | shard (l:a9)
deriving DecidableEq
def bx.body:bx->a9
 | .blank=>[]
 | .root D L G t f n=>[1,D%256,L%256,G%256]++(be t 8++(be f 4++be n 4))
 | .filled=>[2]
 | .shard l=>3::(YD 15 0++l)
def dQ (body:a9):a9:=be (OD (body++YD (60-body.length) 0)) 4++(body++YD (60-body.length) 0)
def bx.blk (r:bx):a9:=if r.body.length=0 then YD 64 0 else dQ r.body
def bx.ok:bx->Prop
 | .blank=>True
 | .root D L G t f n=>D<256/\L<256/\G<256/\t<18446744073709551616/\f<4294967296/\n<4294967296
 | .filled=>True
 | .shard l=>l.length=44/\∀ x∈l,x<256
def Dq (b:a9):bx:=
 if b.getD 4 0=1 then .root (dh [b.getD 5 0]) (dh [b.getD 6 0]) (dh [b.getD 7 0]) (dh ((b.drop 8).take 8)) (dh ((b.drop 16).take 4)) (dh ((b.drop 20).take 4))
 else if b.getD 4 0=2 then .filled else if b.getD 4 0=3 then .shard (b.drop 20) else .blank
def jA {r:bx} (h:r.ok):r.body.length<=60:=by
 cases r with
 | blank=>simp [bx.body]
 | root D L G t f n=>simp [bx.body,dD]
 | filled=>simp [bx.body]
 | shard l=>simp [bx.body,h.1]
theorem dJ {r:bx} (h:r.ok):r.blk.length=64:=by
 have:=jA h;unfold bx.blk dQ;split
 . simp
 . simp [dD];omega
def mB {r:bx} (h:r.ok):∀ x∈r.body,x<256:=by
 cases r with
 | blank=>intro x a;simp [bx.body] at a
 | root D L G t f n=>
  intro x a;simp only [bx.body,Ub,Un,W4,or_false] at a;rcases a with (rfl|rfl|rfl|rfl)|a|a|a
  . omega
  . omega
  . omega
  . omega
  all_goals exact sQ _ _ x a
 | filled=>
  intro x a;simp only [bx.body,Un,W4,or_false] at a;omega
 | shard l=>
  intro x a;simp only [bx.body,Ub,Un] at a;rcases a with rfl|a|a
  . decide
  . have:=Vn a;omega
  . exact h.2 x a
def Gd (h:∀ x∈l,x<256):∀ x∈dQ l,x<256:=by
 intro x a;unfold dQ at a;simp only [Ub] at a;rcases a with a|a|a
 . exact sQ _ _ x a
 . exact h x a
 . have:=Vn a;omega
theorem fO {r:bx} (h:r.ok):∀ x∈r.blk,x<256:=by
 unfold bx.blk;split
 . intro x a;have:=Vn a;omega
 . exact Gd (mB h)
def aa6 (n:Nat):be n 4=[n/256^3%256,n/256^2%256,n/256^1%256,n/256^0%256]:=rfl
def M1 (x:Nat) (h:x<256):dh [x]=x:=by simp [dh];omega
def sU (h:n<=1000000000000):wrap64 (n:Int)=(n:Int):=K0
def vb (l:a9) (i:Nat):ZS:=Z7 .u8 ((l.getD i 0:Nat):Int)
def aM (w:ZT) (b:Nat) (l:a9):Prop:=w.rowIs b 5 l.length (vb l)
def jT (p:Nat×Nat×a9):ZS:=Z5 (ZW ⟨p.1,0,ZX⟩) p.2.1 p.2.2.length
structure iU (w:ZT) (base:Nat) (v:ZS) (L:List (Nat×Nat×a9)):Prop where
 own:w.ownsRow base 31 1 v L.length (L.map jT)
 row:∀ p∈L,base<=p.1/\aM w p.1 p.2.2/\p.2.1<=p.2.2.length/\(p.2.1<=140737488355328/\p.2.2.length<=9223372036854775807)/\∀ x∈p.2.2,x<256
 nodup:(L.map (λp=>p.1)).Nodup
def bh (h:∀ x∈l,x<256) (i:Nat):l.getD i 0<256:=by
 by_cases hi:i<l.length
 . have e:l.getD i 0=l[i]:=(by simp [hi]);rw [e];exact h _ (T4 hi)
 . have e:l.getD i 0=0:=(by simp [VJ (eb:l.length<=i)]);rw [e];decide
def aM.below (h:aM w b l) (a:ZR w.heap.size w w'):aM w' b l:=
 Vo h (a.block b h.lt)
def aM.cell (h:aM w b l) (i:Nat) (hi:i<l.length):w.cell? ⟨b,i,ZX⟩=ZW (Z7 .u8 ((l.getD i 0:Nat):Int)):=
 Yw h hi
def aM.frozen (h:aM w b l) (i:Nat):w.frozen? ⟨b,i,ZX⟩=ZU:=World.rowIs.frozen h i
theorem aM.set (h:aM w b l) (i x:Nat):aM (w.setCell ⟨b,i,ZX⟩ (Z7 .u8 (x:Int))) b (l.set i x):=by
 have a:=World.rowIs.set h i (Z7 .u8 (x:Int));unfold aM;rw [Xr];refine a.congr λj c=>?_;unfold vb;by_cases e:j=i
 . subst e;simp [c]
 . simp only [if_neg e];rw [T6,T6,List.getElem?_set_ne (λh=>e h.symm)]
def aM.other (h:aM w b l) {a:Addr} (c:b≠a.block) (v:ZS):aM (w.setCell a v) b l:=World.rowIs.setOther h c v
def aM.alloc (h:aM w b l) (o:Obj):aM (w.alloc o) b l:=World.rowIs.alloc h o
def aM.lt (h:aM w b l):b<w.heap.size:=World.rowIs.lt h
def aM.grown {row:Option Nat} (h:aM w b l) (c:w.grownBy w' row) (a:ZW b≠row):aM w' b l:=
 Vo h (c.block b h.lt a)
theorem aM.made (w:ZT) (n:Nat):aM (w.alloc (Z4 (madeCells #[Z7 .u8 0] n) 5)) w.heap.size (YD n 0):=by
 have h:=W5 w (Z7 .u8 0) n 5;unfold aM;rw [Yx];refine h.congr λi hi=>?_;simp [vb,hi]
def aB {size:Nat} (h:w.ownsRow base e size v n xs) (j:ZR w.heap.size w w'):w'.ownsRow base e size v n xs:=by
 refine ⟨h.1,?_⟩;rcases h.2 with f|⟨g,cap,cur,b,c,a,d⟩
 . exact .inl f
 . refine .inr ⟨g,cap,cur,b,c,?_,d⟩;obtain ⟨i,_⟩:=TW.1 a;rw [j.block g i];exact a
def cE {size:Nat} (h:w.ownsRow base e size v n xs) (f:base'<=base):w.ownsRow base' e size v n xs:=by
 refine ⟨h.1,?_⟩;rcases h.2 with c|⟨g,cap,cur,a,d,b⟩
 . exact .inl c
 . exact .inr ⟨g,cap,cur,a,eb,b⟩
def yW (h:w.ownsRow base 31 1 v n xs) {b:Nat} {l:a9} (i:aM w b l):v.ownBlock≠ZW b:=by
 intro e;rcases h.2 with ⟨f,_⟩|⟨g,cap,cur,d,k,a,m⟩
 . rw [f] at e;simp [Value.ownBlock] at e
 . rw [d] at e;simp [Value.ownBlock] at e;subst e;obtain ⟨c,j,_⟩:=i;rw [j] at a;simp at a
def iU.weaken (h:iU w base v L) (c:base'<=base):iU w base' v L:=
 ⟨cE h.own c,λp d=>by obtain ⟨a,b⟩:=h.row p d;exact ⟨eb,b⟩,h.nodup⟩
def iU.below (h:iU w base v L) (d:ZR w.heap.size w w'):iU w' base v L:=
 ⟨aB h.own d,λp e=>by obtain ⟨a,b,c⟩:=h.row p e;exact ⟨a,b.below d,c⟩,h.nodup⟩
def iU.alloc (h:iU w base v L) (o:Obj):iU (w.alloc o) base v L:=
 h.below (bA _ _)
def iU.push {p:Nat×Nat×a9} (h:iU w base v L) (i:w.grownBy w' v.ownBlock) (j:w'.ownsRow base 31 1 v' (L.length+1) (L.map jT++[jT p]))
 (f:base<=p.1/\aM w p.1 p.2.2/\p.2.1<=p.2.2.length/\(p.2.1<=140737488355328/\p.2.2.length<=9223372036854775807)/\∀ x∈p.2.2,x<256) (k:∀ q∈L,q.1≠p.1):iU w' base v' (L++[p]):=by
 refine ⟨vE j,λq d=>?_,?_⟩
 . rcases Ub.1 d with d|d
   . obtain ⟨a,b,c⟩:=h.row q d;exact ⟨a,b.grown i (λe=>yW h.own b e.symm),c⟩
   . simp at d;subst d;exact ⟨f.1,f.2.1.grown i (λe=>yW h.own f.2.1 e.symm),f.2.2⟩
 . rw [Uu,Vc];refine ⟨h.nodup,ek,?_⟩;intro a l b g;obtain ⟨q,d,rfl⟩:=T1.1 l;simp at g;subst g;exact k q d
theorem jU (g i:Nat):(⟨g,0,ZX⟩:Addr).add i=⟨g,i,ZX⟩:=by
 unfold Addr.add;split
 . rename_i h;simp_all
 . simp
def iU.shape (h:iU w base v L):(v=Z5 ZX 0 0/\L=[])\/∃ g cap,v=Z5 (ZW ⟨g,0,ZX⟩) L.length cap/\base<=g/\L.length<=cap/\cap<=maxLen/\g<w.heap.size/\(∀ i (hi:i<L.length),w.cell? ⟨g,i,ZX⟩=ZW (jT L[i]))/\(∀ i,w.frozen? ⟨g,i,ZX⟩=ZU)/\∀ p∈L,p.1≠g:=by
 rcases h.own.2 with ⟨j,k⟩|⟨g,cap,cur,a,c,b,d,f,n,o⟩
 . exact .inl ⟨j,UK k⟩
 . obtain ⟨l,_⟩:=TW.1 b;refine .inr ⟨g,cap,a,c,d,f,l,λi hi=>?_,λi=>?_,λp m e=>?_⟩
   . have:=h.own.cells (g:=g) Zw i (jT L[i]) (by simp [hi]);rw [jU] at this;exact this
   . simp [World.frozen?,b]
   . have:=yW h.own (h.row p m).2.1;rw [a] at this;exact this (by rw [e];rfl)
def Tryz.Sg:(ZJ.info? 5).map (λi=>(i.zero,i.size,i.bytes))=ZW (ZW (Z7 .u8 0),1,1):=ei
def Tryz.Sy:(ZJ.info? 31).map (λi=>(i.zero,i.size,i.bytes))=ZW (ZW (Z5 ZX 0 0),1,24):=ei
def eo (w:ZT) {ops:Array ZN} {rest:List ZN} {o:ZN} {a:ZM} {Q:ZO->ZM->ZT->Prop}
 (h:o.guard=ZX) (l c:ZK) (e:o.op=Op.makeSlice 31 l c) (C:Int) (n:Nat) (i:a.eval l=Z7 Z9 C) (g:a.eval c=Z7 Z9 C) (f:C=(n:Int)) (j:n<=140737488355328)
 (hK:∀ w',aM w' w.heap.size (YD n 0)->ZR w.heap.size w w'->w'.heap.size=w.heap.size+1->wpList ZJ ops Q rest (a.put o.dst (Z5 (ZW ⟨w.heap.size,0,ZX⟩) n n)) w') :
 wpList ZJ ops Q (o::rest) a w:=by
 refine VD h λK d=>?_;have b:=Xs (P:=ZJ) 31 5 (Z7 .u8 0) 1 Ui Tryz.Sg rfl .i64 .i64 n eb eb w;subst f;unfold Oper.wp;simp [execOp,e,i,g,b,Result.andThen];exact d _ _ (hK _ (aM.made w n) (bA _ _) (Ug _ _))
section
structure aa (S:Nat->Prop) (w w':ZT):Prop where
 os:w'.os=w.os
 tape:w'.tape=w.tape
 output:w'.output=w.output
 size:w.heap.size<=w'.heap.size
 block:∀ k,k<w.heap.size->¬ S k->w'.heap[k]?=w.heap[k]?
def aa.refl (S:Nat->Prop) (w:ZT):aa S w w:=⟨rfl,rfl,rfl,TV _,λ_ _ _=>rfl⟩
def aa.mono {T:Nat->Prop} (h:aa S w w') (b:∀ k,k<w.heap.size->S k->T k):aa T w w':=
 ⟨h.os,h.tape,h.output,h.size,λk a ht=>h.block k a (λs=>ht (b k a s))⟩
def aa.trans (h:aa S w w') (a:aa S w' w''):aa S w w'':=
 ⟨a.os.trans h.os,a.tape.trans h.tape,a.output.trans h.output,TU h.size a.size,λk b c=>(a.block k (TY b h.size) c).trans (h.block k b c)⟩
def aa.later {T:Nat->Prop} (h:aa S w w') (a:aa T w' w'') (d:∀ k,k<w.heap.size->T k->S k):aa S w w'':=
 ⟨a.os.trans h.os,a.tape.trans h.tape,a.output.trans h.output,TU h.size a.size,λk b c=>(a.block k (TY b h.size) (λt=>c (d k b t))).trans (h.block k b c)⟩
def aa.RN (h:ZR B w w') (S:Nat->Prop) (a:∀ k,k<w.heap.size->¬ S k->k<B):aa S w w':=
 ⟨h.os,h.tape,h.output,h.size,λk b c=>h.block k (a k b c)⟩
def aa.RO (h:ZR w.heap.size w w') (S:Nat->Prop):aa S w w':=.RN h S λ_ a _=>a
def aa.below (h:aa S w w') {B:Nat} (a:∀ k,k<B->k<w.heap.size/\¬ S k):ZR B w w':=
 ⟨h.os,h.tape,h.output,h.size,λk b=>h.block k (a k b).1 (a k b).2⟩
def aa.setCell (w:ZT) (a:Addr) (v:ZS) (h:S a.block):aa S w (w.setCell a v):=
 ⟨rfl,rfl,rfl,l7,λk _ b=>T7 _ _ _ _ (λe=>b (e▸h))⟩
def aa.alloc (w:ZT) (o:Obj):aa S w (w.alloc o):=.RO (bA _ _) S
def aa.drew (w:ZT):aa S w w.drew:=⟨rfl,rfl,rfl,TV _,λ_ _ _=>rfl⟩
def aU (b:Nat):∀ (a:List ZS) (o:Nat) (w:ZT) (k:Nat),k≠b->(w.setCells b o a).heap[k]?=w.heap[k]?
 | [],_,_,_,_=>rfl
 | v::r,o,w,k,h=>by
  show ((w.setCell ⟨b,o,ZX⟩ v).setCells b (o+1) r).heap[k]?=_;rw [aU b r _ _ k h];exact T7 _ _ _ _ (by exact h)
def jm (b:Nat):∀ (a:List ZS) (o:Nat) (w:ZT),(w.setCells b o a).heap.size=w.heap.size
 | [],_,_=>rfl
 | v::r,o,w=>by
  show ((w.setCell ⟨b,o,ZX⟩ v).setCells b (o+1) r).heap.size=_;rw [jm b r];simp [World.setCell]
def jn (b:Nat):∀ (a:List ZS) (o:Nat) (w:ZT),(w.setCells b o a).os=w.os/\(w.setCells b o a).tape=w.tape/\(w.setCells b o a).output=w.output
 | [],_,_=>⟨rfl,rfl,rfl⟩
 | v::r,o,w=>jn b r (o+1) (w.setCell ⟨b,o,ZX⟩ v)
def aa.setCells (w:ZT) (b o:Nat) (a:List ZS) (h:S b):aa S w (w.setCells b o a):=by
 obtain ⟨c,d,f⟩:=jn b a o w;exact ⟨c,d,f,by rw [jm];exact TV _,λk _ g=>aU b a o w k (λe=>g (e▸h))⟩
theorem ft:∀ (a:List ZS) (o:Nat) (w:ZT) (f:Nat->ZS),w.rowIs b t n f ->
 (w.setCells b o a).rowIs b t n (λk=>if o<=k/\k<o+a.length then a.getD (k-o) ZY else f k)
 | [],o,w,f,h=>h.congr λi hi=>by
  show f i=if o<=i/\i<o+0 then _ else f i;rw [if_neg eb]
 | v::r,o,w,f,h=>by
  have d:=ft r (o+1) _ _ (h.set o v);refine World.rowIs.congr d λk g=>?_;simp only [Um];by_cases e:k=o
  . subst e;rw [if_neg eb,if_pos rfl,if_pos eb,Wp];rfl
  . by_cases c:o+1<=k/\k<o+1+r.length
    . rw [if_pos c,if_pos eb,(eb:k-o=(k-(o+1))+1)];rfl
    . rw [if_neg c,if_neg e,if_neg eb]
structure aA where
 n:Nat
 nb:Nat
 wait:Int
 lost:Nat->Bool
 bad:Nat->Nat->Bool
 blk:Nat->Nat->a9
 reads:Nat->Int
structure aR where
 g:Nat
 cap:Nat
 bb:Nat->Nat
 bd:Nat->Nat
def aR.has (F:aR) (p n k:Nat):Prop:=k=p\/k=F.g\/∃ i,i<n/\(k=F.bb i\/k=F.bd i)
def nB (A:aA) (F:aR) (k:Nat):ZS:=
 if k%4=0 then Z1 (A.lost (k/4)) else if k%4=1 then Z5 (ZW ⟨F.bb (k/4),0,ZX⟩) A.nb A.nb else if k%4=2 then Z5 (ZW ⟨F.bd (k/4),0,ZX⟩) A.nb A.nb else Z7 Z9 (A.reads (k/4))
def QX (A:aA) (i k:Nat):ZS:=Z7 .u8 (((A.blk i (k/64)).getD (k%64) 0:Nat):Int)
structure aq (X:ZT) (p:Nat) (A:aA) (F:aR):Prop where
 top:X.heap[p]?=ZW (Z4 #[Z5 (ZW ⟨F.g,0,ZX⟩) A.n F.cap,Z7 Z9 A.wait] 87 (0,0))
 TS:∃ cs,X.heap[F.g]?=ZW (Z4 cs 91 (0,0))/\∀ k,k<4*A.n->cs[k]?=ZW (nB A F k)
 blk:∀ i,i<A.n->X.rowIs (F.bb i) 40 (64*A.nb) (QX A i)
 bad:∀ i,i<A.n->X.rowIs (F.bd i) 4 A.nb (λj=>Z1 (A.bad i j))
 inj:∀ i j,i<A.n->j<A.n->(F.bb i=F.bb j->i=j)/\(F.bd i=F.bd j->i=j)
structure aA.fit (A:aA):Prop where
 n:A.n<=1000
 nb:A.nb<=1000000
 len:∀ i j,(A.blk i j).length=64
 byt:∀ i j,∀ x∈A.blk i j,x<256
variable {X Y:ZT} {p:Nat} {A:aA} {F:aR}
def aq.p_lt (h:aq X p A F):p<X.heap.size:=(TW.1 h.top).1
def aq.g_lt (h:aq X p A F):F.g<X.heap.size:=by obtain ⟨cs,a,_⟩:=h.TS;exact (TW.1 a).1
def aq.RQ (h:aq X p A F) {k:Nat} (a:F.has p A.n k):k<X.heap.size:=by
 rcases a with rfl|rfl|⟨i,hi,rfl|rfl⟩
 . exact h.p_lt
 . exact h.g_lt
 . exact (h.blk i hi).lt
 . exact (h.bad i hi).lt
def aq.keep (h:aq X p A F) (a:∀ k,F.has p A.n k->Y.heap[k]?=X.heap[k]?):aq Y p A F:=by
 obtain ⟨cs,b,c⟩:=h.TS;exact ⟨(a _ (.inl rfl)).trans h.top,⟨cs,(a _ (.inr (.inl rfl))).trans b,c⟩,λi hi=>(h.blk i hi).of_block (a _ (.inr (.inr ⟨i,hi,.inl rfl⟩))),λi hi=>(h.bad i hi).of_block (a _ (.inr (.inr ⟨i,hi,.inr rfl⟩))),h.inj⟩
def aq.below (h:aq X p A F) {B:Nat} (b:ZR B X Y) (a:X.heap.size<=B):aq Y p A F:=h.keep λk c=>b.block k (TY (h.RQ c) a)
def aq.alloc (h:aq X p A F) (o:Obj):aq (X.alloc o) p A F:=h.below (bA _ _) lR
def aq.apart (h:aq X p A F):p≠F.g/\(∀ i,i<A.n->F.bb i≠p/\F.bb i≠F.g/\F.bd i≠p/\F.bd i≠F.g)/\∀ i j,i<A.n->j<A.n->F.bb i≠F.bd j:=by
 obtain ⟨cs,f,_⟩:=h.TS;have ht:=h.top;refine ⟨λe=>?_,λi hi=>?_,λi j hi k e=>?_⟩
 . rw [e,f] at ht;simp at ht
 . obtain ⟨c,a,_⟩:=h.blk i hi;obtain ⟨d,b,_⟩:=h.bad i hi;refine ⟨λe=>?_,λe=>?_,λe=>?_,λe=>?_⟩
   . rw [e,ht] at a;simp at a
   . rw [e,f] at a;simp at a
   . rw [e,ht] at b;simp at b
   . rw [e,f] at b;simp at b
 . obtain ⟨c,a,_⟩:=h.blk i hi;obtain ⟨d,b,_⟩:=h.bad j k;rw [e,b] at a;simp at a
def aq.Sd (h:aq X p A F) (i:Nat) (hi:i<A.n):X.cell? ⟨F.g,i*4,ZX⟩=ZW (Z1 (A.lost i))/\X.cell? ⟨F.g,i*4+1,ZX⟩=ZW (Z5 (ZW ⟨F.bb i,0,ZX⟩) A.nb A.nb) /\
 X.cell? ⟨F.g,i*4+2,ZX⟩=ZW (Z5 (ZW ⟨F.bd i,0,ZX⟩) A.nb A.nb)/\X.cell? ⟨F.g,i*4+3,ZX⟩=ZW (Z7 Z9 (A.reads i)):=by
 obtain ⟨cs,b,c⟩:=h.TS;have a:∀ k,k<4*A.n->X.cell? ⟨F.g,k,ZX⟩=ZW (nB A F k):=λk d=>by simp [World.cell?,b,c k d]
 refine ⟨?_,?_,?_,?_⟩
 . rw [a _ eb];unfold nB;rw [if_pos eb,(eb:i*4/4=i)]
 . rw [a _ eb];unfold nB;rw [if_neg eb,if_pos eb,(eb:(i*4+1)/4=i)]
 . rw [a _ eb];unfold nB;rw [if_neg eb,if_neg eb,if_pos eb,(eb:(i*4+2)/4=i)]
 . rw [a _ eb];unfold nB;rw [if_neg eb,if_neg eb,if_neg eb,(eb:(i*4+3)/4=i)]
def aq.SB (h:aq X p A F) (k:Nat):X.frozen? ⟨F.g,k,ZX⟩=ZU:=by obtain ⟨cs,a,_⟩:=h.TS;simp [World.frozen?,a]
def aq.R4 (h:aq X p A F):X.cell? ⟨p,0,ZX⟩=ZW (Z5 (ZW ⟨F.g,0,ZX⟩) A.n F.cap)/\X.cell? ⟨p,1,ZX⟩=ZW (Z7 Z9 A.wait)/\X.frozen? ⟨p,0,ZX⟩=ZU/\X.frozen? ⟨p,1,ZX⟩=ZU:=by simp [World.cell?,World.frozen?,h.top]
def aq.badC (h:aq X p A F) (i j:Nat) (hi:i<A.n) (a:j<A.nb):X.cell? ⟨F.bd i,j,ZX⟩=ZW (Z1 (A.bad i j)):=(h.bad i hi).cell a
def aJ (l:a9):List ZS:=l.map λ(x:Nat)=>Value.int .u8 (x:Int)
def aq.range (h:aq X p A F) (b:A.fit) (i j:Nat) (hi:i<A.n) (d:j<A.nb):X.rangeAt (F.bb i) (j*64) (aJ (A.blk i j)):=by
 intro k v hv;unfold aJ at hv;rw [Ul,VU] at hv;obtain ⟨x,a,rfl⟩:=hv;obtain ⟨c,e⟩:=UT.1 a;rw [b.len] at c;rw [(h.blk i hi).cell (i:=j*64+k) eb];unfold QX;rw [(eb:(j*64+k)/64=j),(eb:(j*64+k)%64=k),T6,a];rfl
def aq.there (h:aq X p A F) (i j:Nat) (hi:i<A.n) (a:j<A.nb):X.there (F.bb i) (j*64) 64:=λk b=>by
 rw [(h.blk i hi).cell (i:=j*64+k) eb];exact ⟨rfl,(h.blk i hi).frozen _⟩
def aA.RS (A:aA) (i:Nat) (r:Int):aA:={ A with reads:=λk=>if k=i then r else A.reads k }
def aA.R6 (A:aA) (i:Nat) (t:Bool):aA:={ A with lost:=λk=>if k=i then t else A.lost k }
def aA.RU (A:aA) (i j:Nat) (t:Bool):aA:={ A with bad:=λk m=>if k=i/\m=j then t else A.bad k m }
def aA.RX (A:aA) (i j:Nat) (l:a9):aA:={ A with blk:=λk m=>if k=i/\m=j then l else A.blk k m }
theorem aq.TQ (h:aq X p A F) (k:Nat) (v:ZS) (b:aA) (c:b.n=A.n) (l:b.nb=A.nb) (r:b.wait=A.wait) (s:b.bad=A.bad) (t:b.blk=A.blk) (hv:∀ j,j<4*A.n->nB b F j=if j=k then v else nB A F j) :
 aq (X.setCell ⟨F.g,k,ZX⟩ v) p b F:=by
 obtain ⟨o,f,w⟩:=h.apart;have d:∀ j,j≠F.g->(X.setCell ⟨F.g,k,ZX⟩ v).heap[j]?=X.heap[j]?:=λj a=>T7 _ _ _ _ a;obtain ⟨cs,u,m⟩:=h.TS;refine ⟨?_,⟨cs.setIfInBounds k v,by simp [World.setCell,Vv,u],λj a=>?_⟩,λi hi=>?_,λi hi=>?_,λi j hi a=>h.inj i j eb eb⟩
 . rw [c,r];exact (d _ o).trans h.top
 . rw [c] at a;rw [hv j a,Yy];by_cases e:k=j
   . subst e;rw [if_pos rfl,if_pos rfl];have:=m k a;obtain ⟨q,_⟩:=TW.1 this;simp [q]
   . rw [if_neg e,if_neg (λq=>e q.symm)];exact m j a
 . rw [c] at hi;have:=(h.blk i hi).of_block (d _ (f i hi).2.1);rw [l];exact this.congr λj a=>by unfold QX;rw [t]
 . rw [c] at hi;rw [l,s];exact (h.bad i hi).of_block (d _ (f i hi).2.2.2)
def aq.RS (h:aq X p A F) (i:Nat) (r:Int):aq (X.setCell ⟨F.g,i*4+3,ZX⟩ (Z7 Z9 r)) p (A.RS i r) F:=
 h.TQ (i*4+3) (Z7 Z9 r) (A.RS i r) rfl rfl rfl rfl rfl λj c=>by
  by_cases e:j=i*4+3
  . subst e;rw [if_pos rfl];unfold nB;rw [if_neg eb,if_neg eb,if_neg eb];show Value.int .i64 (if (i*4+3)/4=i then r else _)=_;rw [if_pos eb]
  . rw [if_neg e];unfold nB;show (if j%4=0 then Value.bool (A.lost (j/4)) else if j%4=1 then _ else if j%4=2 then _ else Value.int .i64 (if j/4=i then r else A.reads (j/4)))=_;by_cases q:j%4=3
    . rw [if_neg (eb:¬ j/4=i)];rfl
    . by_cases a:j%4=0
      . rw [if_pos a,if_pos a]
      . by_cases b:j%4=1
        . rw [if_neg a,if_neg a,if_pos b,if_pos b];rfl
        . rw [if_neg a,if_neg a,if_neg b,if_neg b,if_pos eb,if_pos eb];rfl
def aq.R6 (h:aq X p A F) (i:Nat) (t:Bool):aq (X.setCell ⟨F.g,i*4,ZX⟩ (Z1 t)) p (A.R6 i t) F:=
 h.TQ (i*4) (Z1 t) (A.R6 i t) rfl rfl rfl rfl rfl λj a=>by
  by_cases e:j=i*4
  . subst e;rw [if_pos rfl];unfold nB;rw [if_pos eb];show Value.bool (if (i*4)/4=i then t else _)=_;rw [if_pos eb]
  . rw [if_neg e];unfold nB;show (if j%4=0 then Value.bool (if j/4=i then t else A.lost (j/4)) else _)=_;by_cases q:j%4=0
    . rw [if_pos q,if_pos q,if_neg (eb:¬ j/4=i)]
    . rw [if_neg q,if_neg q];rfl
theorem aq.RU (h:aq X p A F) (i j:Nat) (hi:i<A.n) (t:Bool):aq (X.setCell ⟨F.bd i,j,ZX⟩ (Z1 t)) p (A.RU i j t) F:=by
 obtain ⟨r,d,f⟩:=h.apart;have b:∀ k,k≠F.bd i->(X.setCell ⟨F.bd i,j,ZX⟩ (Z1 t)).heap[k]?=X.heap[k]?:=λk b=>T7 _ _ _ _ b;obtain ⟨cs,g,l⟩:=h.TS;refine ⟨(b _ (λe=>(d i hi).2.2.1 e.symm)).trans h.top,⟨cs,(b _ (λe=>(d i hi).2.2.2 e.symm)).trans g,l⟩,λk a=>(h.blk k a).of_block (b _ (f k i a hi)),λk a=>?_,h.inj⟩;by_cases e:k=i
 . subst e;refine ((h.bad k a).set j (Z1 t)).congr λm o=>?_;show _=Value.bool (if k=k/\m=j then t else A.bad k m);by_cases c:m=j
   . rw [if_pos c,if_pos ⟨rfl,c⟩]
   . rw [if_neg c,if_neg (λq=>c q.2)]
 . refine ((h.bad k a).of_block (b _ (λq=>e ((h.inj k i a hi).2 q)))).congr λm o=>?_;show _=Value.bool (if k=i/\m=j then t else A.bad k m);rw [if_neg (λq=>e q.1)]
theorem aq.RX (h:aq X p A F) (i j:Nat) (hi:i<A.n) (l:a9) (t:l.length=64):aq (X.setCells (F.bb i) (j*64) (aJ l)) p (A.RX i j l) F:=by
 obtain ⟨v,c,f⟩:=h.apart;have b:∀ k,k≠F.bb i->(X.setCells (F.bb i) (j*64) (aJ l)).heap[k]?=X.heap[k]?:=λk b=>aU _ _ _ _ _ b;obtain ⟨cs,g,o⟩:=h.TS;refine ⟨(b _ (λe=>(c i hi).1 e.symm)).trans h.top,⟨cs,(b _ (λe=>(c i hi).2.1 e.symm)).trans g,o⟩,λk a=>?_,λk a=>(h.bad k a).of_block (b _ (λe=>f i k hi a e.symm)),h.inj⟩;by_cases e:k=i
 . subst e;refine (ft (aJ l) (j*64) X _ (h.blk k a)).congr λm u=>?_;have r:(aJ l).length=64:=(by unfold aJ;rw [TZ,t]);rw [r];unfold QX;show _=Value.int .u8 (((if k=k/\m/64=j then l else A.blk k (m/64)).getD (m%64) 0:Nat):Int);by_cases d:m/64=j
   . rw [if_pos eb,if_pos ⟨rfl,d⟩,(eb:m-j*64=m%64)];unfold aJ;have s:m%64<l.length:=eb;rw [T6,Ul,T6,T2 s];rfl
   . rw [if_neg eb,if_neg (λq=>d q.2)]
 . refine ((h.blk k a).of_block (b _ (λq=>e ((h.inj k i a hi).1 q)))).congr λm u=>?_;unfold QX;show _=Value.int .u8 (((if k=i/\m/64=j then l else A.blk k (m/64)).getD (m%64) 0:Nat):Int);rw [if_neg (λq=>e q.1)]
def aA.fit.RS (h:A.fit) (i:Nat) (r:Int):(A.RS i r).fit:=⟨h.n,h.nb,h.len,h.byt⟩
def aA.fit.RU (h:A.fit) (i j:Nat) (t:Bool):(A.RU i j t).fit:=⟨h.n,h.nb,h.len,h.byt⟩
theorem aA.fit.RX (h:A.fit) (i j:Nat) (l:a9) (b:l.length=64) (a:∀ x∈l,x<256):(A.RX i j l).fit:=by
 refine ⟨h.n,h.nb,λk m=>?_,λk m=>?_⟩
 . show (if k=i/\m=j then l else A.blk k m).length=64;split
   . exact b
   . exact h.len k m
 . show ∀ x∈(if k=i/\m=j then l else A.blk k m),x<256;split
   . exact a
   . exact h.byt k m
structure jB (R A:aA):Prop where
 n:R.n=A.n
 nb:R.nb=A.nb
 wait:R.wait=A.wait
 lost:R.lost=A.lost
 reads:R.reads=A.reads
 here:∀ i,A.lost i=ZU->R.blk i=A.blk i/\R.bad i=A.bad i
def jB.refl (A:aA):jB A A:=⟨rfl,rfl,rfl,rfl,rfl,λ_ _=>⟨rfl,rfl⟩⟩
def aj (X:ZT) (p:Nat) (A:aA) (F:aR):Prop:=∃ R,aq X p R F/\R.fit/\jB R A
def aq.at (h:aq X p A F) (a:A.fit):aj X p A F:=⟨A,h,a,jB.refl A⟩
def aj.RQ (h:aj X p A F) {k:Nat} (c:F.has p A.n k):k<X.heap.size:=by
 obtain ⟨R,a,_,b⟩:=h;exact a.RQ (by rw [b.n];exact c)
def aj.keep (h:aj X p A F) (d:∀ k,F.has p A.n k->Y.heap[k]?=X.heap[k]?):aj Y p A F:=by
 obtain ⟨R,b,c,a⟩:=h;exact ⟨R,b.keep (by rw [a.n];exact d),c,a⟩
def aj.below (h:aj X p A F) {B:Nat} (b:ZR B X Y) (a:X.heap.size<=B):aj Y p A F:=h.keep λk c=>b.block k (TY (h.RQ c) a)
def aj.outside (h:aj X p A F) (c:aa S X Y) (b:∀ k,F.has p A.n k->¬ S k):aj Y p A F:=h.keep λk a=>c.block k (h.RQ a) (b k a)
def aj.alloc (h:aj X p A F) (o:Obj):aj (X.alloc o) p A F:=h.below (bA _ _) lR
def aj.R4 (h:aj X p A F):X.cell? ⟨p,0,ZX⟩=ZW (Z5 (ZW ⟨F.g,0,ZX⟩) A.n F.cap)/\X.cell? ⟨p,1,ZX⟩=ZW (Z7 Z9 A.wait)/\X.frozen? ⟨p,0,ZX⟩=ZU/\X.frozen? ⟨p,1,ZX⟩=ZU:=by
 obtain ⟨R,b,_,a⟩:=h;rw [<- a.n,<- a.wait];exact b.R4
def aj.Sd (h:aj X p A F) (i:Nat) (hi:i<A.n):X.cell? ⟨F.g,i*4,ZX⟩=ZW (Z1 (A.lost i))/\X.cell? ⟨F.g,i*4+1,ZX⟩=ZW (Z5 (ZW ⟨F.bb i,0,ZX⟩) A.nb A.nb) /\
 X.cell? ⟨F.g,i*4+2,ZX⟩=ZW (Z5 (ZW ⟨F.bd i,0,ZX⟩) A.nb A.nb)/\X.cell? ⟨F.g,i*4+3,ZX⟩=ZW (Z7 Z9 (A.reads i)):=by
 obtain ⟨R,b,_,a⟩:=h;rw [<- a.nb,<- a.lost,<- a.reads];exact b.Sd i (by rw [a.n];exact hi)
def jB.RS {R A:aA} (h:jB R A) (d:Nat) (x:Int):jB (R.RS d x) (A.RS d x):=⟨h.n,h.nb,h.wait,h.lost,by show (λk=>if k=d then x else R.reads k)=_;rw [h.reads];rfl,h.here⟩
theorem jB.put {R A:aA} (h:jB R A) (d b:Nat) (l:a9):jB ((R.RX d b l).RU d b ZU) ((A.RX d b l).RU d b ZU):=by
 refine ⟨h.n,h.nb,h.wait,h.lost,h.reads,λi hi=>?_⟩;obtain ⟨a,c⟩:=h.here i hi;refine ⟨funext λj=>?_,funext λj=>?_⟩
 . show (if i=d/\j=b then l else R.blk i j)=if i=d/\j=b then l else A.blk i j;rw [a]
 . show (if i=d/\j=b then ZU else R.bad i j)=if i=d/\j=b then ZU else A.bad i j;rw [c]
end
def aw (l:a9):Array ZS:=(aJ l).toArray
def iw (l:a9):(aw l).size=l.length:=by unfold aw aJ;simp
def wF (l:a9):(aw l).toList=aJ l:=by unfold aw;rfl
def aW (l:a9):(aJ l).length=l.length:=by unfold aJ;simp
def AI (l:a9):(aw l).all (λv=>v.oneCell')=ZV:=all_oneCell_toArray λv hv=>by
 unfold aJ at hv;rw [T1] at hv;obtain ⟨x,_,rfl⟩:=hv;rfl
def Tryz.Ti:(ZJ.info? 40).map (λi=>i.size)=ZW 64:=ei
def eX (h:l.length=64):(ZJ.info? 40).map (λi=>i.size)=ZW (aw l).size:=by rw [iw,h];exact Tryz.Ti
def zb:a9:=YD 64 0
def bw:zb.length=64:=by simp [zb]
def Tryz.zeroBlk:(ZJ.info? 40).map (λi=>(i.zero,i.size,i.bytes))=ZW (ZW (.agg (aw zb)),64,64):=ei
def zeroBlk (w:ZT):(zeroValue 40).run ZJ w=.ok (.agg (aw zb)) w:=by
 obtain ⟨c,a,b,_,_⟩:=Ur Tryz.zeroBlk;simp [zeroValue,typeInfo,Uo,a,b]
def aS (w:ZT) (b:Nat) (l:a9):Prop:=w.heap[b]?=ZW (Z4 (aw l) 40 (0,0))
def aS.lt (h:aS w b l):b<w.heap.size:=(TW.1 h).1
def aS.new (w:ZT) (l:a9):aS (w.alloc (Z4 (aw l) 40)) w.heap.size l:=T9 _ _
def aS.keep (h:aS w b l) (e:w'.heap[b]?=w.heap[b]?):aS w' b l:=e.trans h
def aS.setRow (l:a9) (h:aS w b l'):aS (w.setRow b (aw l)) b l:=U3 w b (aw l') (aw l) _ _ h
def aF (w:ZT) (b:Nat) (cs:Array ZS):w.grownBy (w.setRow b cs) (ZW b):=
 ⟨rfl,rfl,rfl,ek,λk _ a=>by
  have:b≠k:=λe=>a Zc;simp [World.setRow,Vv,this]⟩
def aa.setRow (w:ZT) (b:Nat) (cs:Array ZS) (h:S b):aa S w (w.setRow b cs):=
 have g:=aF w b cs
 ⟨g.os,g.tape,g.output,g.size,λk a c=>g.block k a (λe=>c (by cases e;exact h))⟩
def gw (w:ZT) (b:Nat) (cs:Array ZS):(w.setRow b cs).heap.size=w.heap.size:=B2
def jV (h:aS w b l) (a:l.length=64):(Instr.loadAt 40 (Z6 (ZW ⟨b,0,ZX⟩))).run ZJ w=.ok (.agg (aw l)) w:=by
 simp only [Instr.loadAt,Instr.sureAddr,Uo,UW,Uz,WE w b 40 40 (aw l) (0,0) _ h Wr rfl (eX a)]
def iW (h:aS w b l) (a:l.length=64):(loadVar 40 ⟨b,0,ZX⟩).run ZJ w=.ok (.agg (aw l)) w:=
 WE w b 40 40 (aw l) (0,0) _ h Wr rfl (eX a)
def AJ (l:a9) (h:aS w b l') (c:l'.length=64) (a:l.length=64):(Instr.storeAt 40 (Z6 (ZW ⟨b,0,ZX⟩)) (.agg (aw l))).run ZJ w=.ok () (w.setRow b (aw l)):=by
 simp only [Instr.storeAt,Instr.sureAddr,Uo,UW,Uz,Xt w b 40 40 (aw l') (aw l) h (eX a) (by rw [iw,iw,a,c]) (AI l)]
def mD {a:ZM} {Q:ZO->ZM->ZT->Prop} (d:o.guard=ZX) (x:ZK) (ho:o.op=.load 40 x) (b:Nat) (l:a9)
 (f:a.eval x=Z6 (ZW ⟨b,0,ZX⟩)) (c:aS w b l) (e:l.length=64) (h:wpList ZJ ops Q rest (a.put o.dst (.agg (aw l))) w):wpList ZJ ops Q (o::rest) a w:=by
 refine VD d λK hK=>?_;unfold Oper.wp;simp [execOp,ho,f,jV c e,Result.andThen];exact hK _ _ h
def eG {a:ZM} {Q:ZO->ZM->ZT->Prop} (e:o.guard=ZX) (x y:ZK) (ho:o.op=.store 40 x y) (b:Nat) (l l':a9)
 (g:a.eval x=Z6 (ZW ⟨b,0,ZX⟩)) (i:a.eval y=.agg (aw l)) (d:aS w b l') (c:l'.length=64) (f:l.length=64) (h:wpList ZJ ops Q rest (a.put o.dst ZY) (w.setRow b (aw l))):wpList ZJ ops Q (o::rest) a w:=by
 refine VD e λK hK=>?_;unfold Oper.wp;simp [execOp,ho,g,i,AJ l d c f,Result.andThen];exact hK _ _ h
def Dr {a:ZM} {Q:ZO->ZM->ZT->Prop} (d:o.guard=ZX) (x:ZK) (ho:o.op=.load 40 x) (b k:Nat) (l:a9)
 (f:a.eval x=Z6 (ZW ⟨b,k,ZX⟩)) (c:w.rangeAt b k (aJ l)) (e:l.length=64) (h:wpList ZJ ops Q rest (a.put o.dst (.agg (aw l))) w):wpList ZJ ops Q (o::rest) a w:=
 Yz d 40 x ho b k f (aJ l) _ c Wr rfl (by rw [aW,e];exact Tryz.Ti) h
def dK {fn:Func} {p q:Tmp} {ty:ZL} (h:fn.results=#[.cell p ty,.tmp q]) (tmps:Array ZS) (w:ZT) (a:Addr) (v u:ZS)
 (e:tmps.getD p ZY=Z6 (ZW a)) (f:tmps.getD q ZY=u) (d:(loadVar ty a).run P w=.ok v w):(results fn tmps).run P w=.ok (ZZ #[v,u]) w:=by
 have b:tmps[p]?.getD ZY=Z6 (ZW a):=vE e
 have c:tmps[q]?.getD ZY=u:=vE f
 simp [results,h,b,c,asAddr,d]
theorem al {p:Prop} (h:p):Hid p:=h
theorem au {p0 p1:Prop} (a:p0) (b:p1):Go.RowKit.Hid (p0/\p1):=al ⟨a,b⟩
theorem aE {p0 p1 p2:Prop} (a:p0) (b:p1) (c:p2):Go.RowKit.Hid (p0/\p1/\p2):=al ⟨a,b,c⟩
theorem a5 {p0 p1 p2 p3:Prop} (a:p0) (b:p1) (c:p2) (d:p3):Go.RowKit.Hid (p0/\p1/\p2/\p3):=al ⟨a,b,c,d⟩
theorem a7 {p0 p1 p2 p3 p4:Prop} (a:p0) (b:p1) (c:p2) (d:p3) (e:p4):Go.RowKit.Hid (p0/\p1/\p2/\p3/\p4):=al ⟨a,b,c,d,e⟩
theorem a8 {p0 p1 p2 p3 p4 p5:Prop} (a:p0) (b:p1) (c:p2) (d:p3) (e:p4) (f:p5):Go.RowKit.Hid (p0/\p1/\p2/\p3/\p4/\p5):=al ⟨a,b,c,d,e,f⟩
theorem hide7 {p0 p1 p2 p3 p4 p5 p6:Prop} (a:p0) (b:p1) (c:p2) (d:p3) (e:p4) (f:p5) (g:p6):Go.RowKit.Hid (p0/\p1/\p2/\p3/\p4/\p5/\p6):=al ⟨a,b,c,d,e,f,g⟩
theorem hide8 {p0 p1 p2 p3 p4 p5 p6 p7:Prop} (a:p0) (b:p1) (c:p2) (d:p3) (e:p4) (f:p5) (g:p6) (h:p7):Go.RowKit.Hid (p0/\p1/\p2/\p3/\p4/\p5/\p6/\p7):=al ⟨a,b,c,d,e,f,g,h⟩
theorem hide9 {p0 p1 p2 p3 p4 p5 p6 p7 p8:Prop} (a:p0) (b:p1) (c:p2) (d:p3) (e:p4) (f:p5) (g:p6) (h:p7) (i:p8):Go.RowKit.Hid (p0/\p1/\p2/\p3/\p4/\p5/\p6/\p7/\p8):=al ⟨a,b,c,d,e,f,g,h,i⟩
theorem hide10 {p0 p1 p2 p3 p4 p5 p6 p7 p8 p9:Prop} (a:p0) (b:p1) (c:p2) (d:p3) (e:p4) (f:p5) (g:p6) (h:p7) (i:p8) (j:p9):Go.RowKit.Hid (p0/\p1/\p2/\p3/\p4/\p5/\p6/\p7/\p8/\p9):=al ⟨a,b,c,d,e,f,g,h,i,j⟩
theorem hide11 {p0 p1 p2 p3 p4 p5 p6 p7 p8 p9 p10:Prop} (b:p0) (c:p1) (d:p2) (e:p3) (f:p4) (g:p5) (h:p6) (i:p7) (j:p8) (k:p9) (a:p10):Go.RowKit.Hid (p0/\p1/\p2/\p3/\p4/\p5/\p6/\p7/\p8/\p9/\p10):=al ⟨b,c,d,e,f,g,h,i,j,k,a⟩
theorem hide12 {p0 p1 p2 p3 p4 p5 p6 p7 p8 p9 p10 p11:Prop} (c:p0) (d:p1) (e:p2) (f:p3) (g:p4) (h:p5) (i:p6) (j:p7) (k:p8) (l:p9) (a:p10) (b:p11):Go.RowKit.Hid (p0/\p1/\p2/\p3/\p4/\p5/\p6/\p7/\p8/\p9/\p10/\p11):=al ⟨c,d,e,f,g,h,i,j,k,l,a,b⟩
theorem hide13 {p0 p1 p2 p3 p4 p5 p6 p7 p8 p9 p10 p11 p12:Prop} (d:p0) (e:p1) (f:p2) (g:p3) (h:p4) (i:p5) (j:p6) (k:p7) (l:p8) (m:p9) (a:p10) (b:p11) (c:p12):Go.RowKit.Hid (p0/\p1/\p2/\p3/\p4/\p5/\p6/\p7/\p8/\p9/\p10/\p11/\p12):=al ⟨d,e,f,g,h,i,j,k,l,m,a,b,c⟩
theorem hide14 {p0 p1 p2 p3 p4 p5 p6 p7 p8 p9 p10 p11 p12 p13:Prop} (e:p0) (f:p1) (g:p2) (h:p3) (i:p4) (j:p5) (k:p6) (l:p7) (m:p8) (n:p9) (a:p10) (b:p11) (c:p12) (d:p13):Go.RowKit.Hid (p0/\p1/\p2/\p3/\p4/\p5/\p6/\p7/\p8/\p9/\p10/\p11/\p12/\p13):=al ⟨e,f,g,h,i,j,k,l,m,n,a,b,c,d⟩
theorem hide15 {p0 p1 p2 p3 p4 p5 p6 p7 p8 p9 p10 p11 p12 p13 p14:Prop} (f:p0) (g:p1) (h:p2) (i:p3) (j:p4) (k:p5) (l:p6) (m:p7) (n:p8) (o:p9) (a:p10) (b:p11) (c:p12) (d:p13) (e:p14):Go.RowKit.Hid (p0/\p1/\p2/\p3/\p4/\p5/\p6/\p7/\p8/\p9/\p10/\p11/\p12/\p13/\p14):=al ⟨f,g,h,i,j,k,l,m,n,o,a,b,c,d,e⟩
def rW {k:IntKind} {a b:Int} (h:a=b):Ending.returned (.int k a)=Z3 (.int k b):=by rw [h]
def Jr (a b:Nat) (c:a<256) (d:b<256):bits .and .u8 (a:Int) (b:Int)=((a &&& b:Nat):Int):=
 (bits_nat .u8 8 ec wraps_u8 a b c d).1
def nC (a b:Nat) (c:a<256) (d:b<256):bits .xor .u8 (a:Int) (b:Int)=((a^^^b:Nat):Int):=by
 have e:a%2^IntKind.u8.bits=a:=YE c;have f:b%2^IntKind.u8.bits=b:=YE d;simp only [bits,YI,YJ,YK,e,f];have:=xlt c d;exact wraps_u8 _ (YQ _) eb
def wG (n:Int) (a:0<=n) (b:n<2^62):IntKind.i64.wrap n=n:=iE
def M2 (a b:Nat) (c:a<2^62) (d:b<2^62):bits .and .i64 (a:Int) (b:Int)=((a &&& b:Nat):Int):=
 (bits_nat .i64 62 ec wG a b c d).1
def M3 (a b:Nat) (c:a<2^62) (d:b<2^62):bits .xor .i64 (a:Int) (b:Int)=((a^^^b:Nat):Int):=by
 have e:(2:Nat)^62<2^IntKind.i64.bits:=ec
 have f:a%2^IntKind.i64.bits=a:=YE (W9 c e);have g:b%2^IntKind.i64.bits=b:=YE (W9 d e);simp only [bits,YI,YJ,YK,f,g];have:=WA (n:=62) c d;exact wG _ (YQ _) (by exact_mod_cast this)
def O7:∀ a,a<256->((a &&& 128=0)↔a<128):=Lx
def M4 (a:Nat) (h:a<256):(bits .and .u8 (a:Int) 128 != 0)=decide (128<=a):=by
 have e:=Jr a 128 h ec;rw [show ((128:Nat):Int)=128 from rfl] at e;rw [e];have:=O7 a h;rw [YA];simp;omega
def Q5 (a:Nat):a &&& 1=a%2:=Nat.and_one_is_mod a
def Q6 (a:Nat) (h:a<256):(bits .and .u8 (a:Int) 1 != 0)=decide (a%2=1):=by
 have e:=Jr a 1 h ec;rw [show ((1:Nat):Int)=1 from rfl] at e;rw [e,Q5];rw [YA];simp;omega
def Q7 {a:Nat} (h:a<256) (ht:128<=a):bits .xor .u8 ((a:Int)*2%256) 29=(tx a:Int):=by
 have e:((a:Int)*2%256)=((2*a-256:Nat):Int):=eb
 rw [e,show (29:Int)=((29:Nat):Int) from rfl,nC _ _ eb ec];unfold tx;rw [if_neg eb]
def Q8 {a:Nat} (ht:a<128):(a:Int)*2=(tx a:Int):=by
 unfold tx;rw [if_pos ht];omega
theorem nD (a:Nat) (h:a<256) (w:ZT) :
 ZQ ZJ 181 #[Z7 .u8 a] w λe w'=>e=Z3 (Z7 .u8 (tx a))/\w'=w:=by
 have ht:=M4 a h;by_cases b:128<=a
 . rw [decide_eq_true b] at ht;go_enter func181,ntmps181;go_wp2;go_ret;exact ⟨rW (Q7 h b),rfl⟩
 . rw [decide_eq_false b] at ht;go_enter func181,ntmps181;go_wp2;go_ret;exact ⟨rW (Q8 eb),rfl⟩
def Js (n:Nat):∀ a p,yO n a 0 p=p:=by
 induction n with
 | zero=>intro a p;rfl
 | succ n ih=>intro a p;simp only [yO];exact ih _ _
theorem mF (a b:Nat) (m:a<256) (j:b<256) (w:ZT) :
 ZQ ZJ 165 #[Z7 .u8 a,Z7 .u8 b] w λe w'=>e=Z3 (Z7 .u8 (gm a b))/\w'=w:=by
 go_enter func165,ntmps165;go_wp2;go_loop [0,1,5] (λs t u=>∃ n x y z:Nat,x<256/\y<256/\z<256/\y<2^n/\Hid (yO n x y z=gm a b)/\s=Z7 .u8 x/\t=Z7 .u8 y/\u=Z7 .u8 z) (λ_ t _=>(intOf t).toNat)
 case atStart=>exact ⟨8,a,b,0,m,j,ec,j,rfl,rfl,rfl,rfl⟩
 case round=>
  obtain ⟨n,x,y,z,c,o,h,k,g,rfl,rfl,rfl⟩:=hrel;by_cases l:y=0
  . subst l;go_wp2;go_ret;exact ⟨rW (by rw [<- g.out,Js]),rfl⟩
  . have q:((y:Int) != 0)=ZV:=(by rw [bne_iff_ne];omega);have ht:=Q6 y o;cases n with
    | zero=>exact absurd k en
    | succ n=>
    have i:y/2<2^n:=(by rw [W0] at k;omega);by_cases d:y%2=1
    . rw [decide_eq_true d] at ht;have f:Hid (yO n (tx x) (y/2) (z^^^x)=gm a b):=(by have:=g.out;simp only [yO] at this;rw [if_pos d] at this;exact this);have p:=nC z x h c;go_wp2_with (go_at_call 181;refine (nD _ c _).mono ?_;rintro e w' ⟨rfl,rfl⟩);go_round
      case rel=>exact ⟨n,tx x,y/2,z^^^x,At c,eb,xlt h c,i,f,rfl,e8,rfl⟩
      case measure=>simp [intOf];omega
    . rw [decide_eq_false d] at ht;have f:Hid (yO n (tx x) (y/2) z=gm a b):=(by have:=g.out;simp only [yO] at this;rw [if_neg d] at this;exact this);go_wp2_with (go_at_call 181;refine (nD _ c _).mono ?_;rintro e w' ⟨rfl,rfl⟩);go_round
      case rel=>exact ⟨n,tx x,y/2,z,At c,eb,h,i,f,rfl,e8,rfl⟩
      case measure=>simp [intOf];omega
def Jt (n p v:Nat):OC (n+1) p v=OC n (gm p p) (gm v (gm p p)):=rfl
theorem rX (a:Nat) (g:a<256) (w:ZT) :
 ZQ ZJ 163 #[Z7 .u8 a] w λe w'=>e=Z3 (Z7 .u8 (gi a))/\w'=w:=by
 go_enter func163,ntmps163;go_wp2;go_loop [3,4,6] (λs t u=>∃ k p v:Nat,k<=7/\p<256/\v<256/\Hid (OC (7-k) p v=gi a)/\s=Z7 .u8 v/\t=Z7 .u8 p/\u=Z7 Z9 k) (λ_ _ u=>7-(intOf u).toNat)
 case atStart=>exact ⟨0,a,1,ec,g,ec,rfl,rfl,rfl,rfl⟩
 case round=>
  obtain ⟨k,p,v,i,b,hv,c,rfl,rfl,rfl⟩:=hrel;by_cases h:k<7
  . have d:Hid (OC (7-(k+1)) (gm p p) (gm v (gm p p))=gi a):=by
     have:=c.out;rw [(eb:7-k=(7-(k+1))+1),Jt] at this;exact this
    go_wp2_with fail;refine (mF p p b b _).mono ?_;rintro e w' ⟨rfl,rfl⟩;go_wp2_with fail;refine (mF v (gm p p) hv (bD _ b) _).mono ?_;rintro e w' ⟨rfl,rfl⟩;go_wp2_with fail;go_round
    case rel=>exact ⟨k+1,gm p p,gm v (gm p p),eb,bD _ b,bD _ hv,d,rfl,rfl,e8⟩
    case measure=>simp [intOf];omega
  . have f:k=7:=eb;subst f;go_wp2;go_ret;exact ⟨rW (by rw [<- c.out];rfl),rfl⟩
def Bs (w:ZT) (v:ZS) (l:a9):Prop:=
 ∃ ao c,v=.slice ao l.length c/\l.length<=c/\l.length<=140737488355328/\(∀ x∈l,x<256)/\(l≠[]->∃ b off,ao=ZW ⟨b,off,ZX⟩/\∀ k,k<l.length->w.cell? ⟨b,off+k,ZX⟩=ZW (Z7 .u8 ((l.getD k 0:Nat):Int)))
def Bs.mono (h:Bs w v l) (j:ZR w.heap.size w w'):Bs w' v l:=by
 obtain ⟨ao,c,a,d,f,g,i⟩:=h;refine ⟨ao,c,a,d,f,g,λo=>?_⟩;obtain ⟨b,off,e,m⟩:=i o;refine ⟨b,off,e,λk n=>?_⟩;have:=m k n;rw [j.cell (T8 this)];exact this
def Bs.SD (h:aM w b l) (f:n<=l.length) (e:n<=140737488355328) (d:∀ x∈l,x<256):Bs w (Z5 (ZW ⟨b,0,ZX⟩) n l.length) (l.take n):=by
 have c:(l.take n).length=n:=KP
 refine ⟨ZW ⟨b,0,ZX⟩,l.length,by rw [c],eb,eb,λx h=>d x (US h),λ_=>⟨b,0,rfl,λk a=>?_⟩⟩;rw [c] at a;have:=h.cell k eb;rw [Uc,this];simp [a]
def OE (w:ZT) (n:Nat) (i:ZS) (wr:ZT):Prop:=∃ k m:Nat,k<=n/\i=Z7 Z9 k/\wr=w.drewN m
theorem Fa (n vb:ZS) (l:a9) (w:ZT) (u:Bs w n l) (v:Bs w vb l) :
 ZQ ZJ 19 #[n,vb] w λe w'=>e=Z3 (Z1 ZV)/\∃ m,w'=w.drewN m:=by
 obtain ⟨ao,A,rfl,p,r,E,c⟩:=u;obtain ⟨z,B,rfl,q,s,_,d⟩:=v;have C:l.length<=140737488355328:=eb
 clear p r q s;by_cases a:l=[]
 . subst a;clear c d;go_enter func19,ntmps19;go_wp2;refine VL 1 ?_;rw [Vw];go_wp2;go_ret;exact ⟨rfl,0,rfl⟩
 . obtain ⟨b,off,rfl,f⟩:=c a;obtain ⟨y,j,rfl,g⟩:=d a;clear a c d;go_enter func19,ntmps19;go_wp2;go_loopw [5] (λi wr=>OE w l.length i wr) (λi _=>l.length-(intOf i).toNat)
   case atStart=>exact ⟨0,0,T3 _,rfl,rfl⟩
   case round=>
    obtain ⟨k,m,D,rfl,rfl⟩:=hrel;by_cases h:k<l.length
    . have c1:=f k h;have o:=g k h;have t:(((l.getD k 0:Nat):Int) != ((l.getD k 0:Nat):Int))=ZU:=ek;generalize l.getD k 0=x at c1 o t;clear f g;go_wp2;go_quiet (fail);go_wp2;go_roundw
      case rel=>exact ⟨k+1,_,eb,e8,rfl⟩
      case measure=>simp [intOf];omega
    . go_wp2;go_ret;exact ⟨rfl,_,rfl⟩
def bK (a b:a9):aJ (a++b)=aJ a++aJ b:=by simp [aJ]
def Fb (n:Nat):∀ (s k:Nat),k<s->(be n s).take (s-k)=(be n s).take (s-(k+1))++[n/256^k%256]
 | 0,k,h=>absurd h eb
 | s+1,k,h=>by
  by_cases e:k=s
  . subst e;rw [(eb:k+1-k=1),Wp];simp [be]
  . have ih:=Fb n s k eb;rw [(eb:s+1-k=(s-k)+1),(eb:s+1-(k+1)=(s-(k+1))+1)];simp only [be,Xu,UH,ih]
def M5 (n k:Nat):((n:Int)/2^(8*k)%256)=((n/256^k%256:Nat):Int):=by
 have e:(2:Nat)^(8*k)=256^k:=by rw [Nat.pow_mul]
 have a:((2:Int)^(8*k))=((256^k:Nat):Int):=by rw [<- e];norm_cast
 rw [a];omega
def lD (w:ZT) (x:ZS) (t:ZL):∀ j u,[x][j]?=ZW u->(w.alloc (Z4 #[x] t)).cell? ((⟨w.heap.size,0,ZX⟩:Addr).add j)=ZW u:=by
 intro j u h;rw [jU];match j,h with
 | 0,h=>simp at h;subst h;simp only [World.cell?,T9 w (Z4 #[x] t)];rfl
 | j+1,h=>simp at h
def aax (w:ZT) (base:Nat) (n s k0:Nat) (xs:List ZS) (v0:ZS) (b i:ZS) (wr:ZT):Prop:=
 ∃ (k:Nat) (v:ZS),k<=s/\i=Z7 Z9 ((k:Int)-1)/\b=v/\wr.ownsRow base 5 1 v (k0+(s-k)) (xs++aJ ((be n s).take (s-k)))/\aa (λj=>v0.ownBlock=ZW j) w wr/\(∀ j,v.ownBlock=ZW j->v0.ownBlock=ZW j\/w.heap.size<=j)
theorem eQ (base:Nat) (v0:ZS) (c:Nat) (xs:List ZS) (n s:Nat) (w:ZT) (x:w.ownsRow base 5 1 v0 c xs) (r:base<=w.heap.size) (o:s<=8) (H:c<=1000000000) :
 ZQ ZJ 152 #[v0,Z7 Z8 n,Z7 Z9 s] w λe w'=>∃ v',e=Z3 v'/\w'.ownsRow base 5 1 v' (c+s) (xs++aJ (be n s))/\aa (λj=>v0.ownBlock=ZW j) w w'/\(∀ j,v'.ownBlock=ZW j->v0.ownBlock=ZW j\/w.heap.size<=j):=by
 obtain ⟨E,z,B,C,D⟩:=Ur Tryz.Sg;go_enter func152,ntmps152;go_wp2;go_loopw [0,7] (λb i wr=>aax w base n s c xs v0 b i wr) (λ_ i _=>(intOf i+1).toNat)
 case atStart=>exact ⟨s,v0,TV _,e8,rfl,by rw [Wp];simpa [aJ] using x,aa.refl _ _,λj h=>.inl h⟩
 case round=>
  obtain ⟨k,v,I,rfl,rfl,g,a,d⟩:=hrel;cases k with
  | zero=>
   have m:((0:Nat):Int)-1=-1:=eb;rw [m];have q:=aE g a d;clear g a d;go_wp2;go_ret;obtain ⟨g,a,d⟩:=q.out;refine ⟨_,rfl,?_,a,d⟩;rwa [XW,UU (by rw [dD];exact TV _)] at g
  | succ k=>
   have m:((k+1:Nat):Int)-1=(k:Int):=eb;rw [m];have G:=TU r a.size;go_wp2_with (at_builtin;refine XX _ rfl (Z0 14) (Z0 20) 31 rfl base 5 E (Z7 .u8 0) 1 1 Ui z B C D rfl ec u0 (c+(s-(k+1))) _ rfl (g.alloc _) ⟨wr.heap.size,0,ZX⟩ 1 1 _ rfl rfl (lD wr _ _) (by intro u p;simp at p;subst p;rfl) eD eb en ?_;intro v' w' ho l F y);have A:(wr.alloc (Z4 #[Z7 .u8 ((n:Int)/2^(8*k)%256)] 5)).heap.size=wr.heap.size+1:=ek;have J:=a.size;have t:∀ j,v'.ownBlock=ZW j->v0.ownBlock=ZW j\/w.heap.size<=j:=λj f=>by
    rcases y with e|e
    . exact d j (e▸f)
    . rw [e] at f;cases f;rw [A];exact .inr eb
   refine ⟨⟨k,v',eb,e8,rfl,?_,?_,t⟩,by simp [intOf]⟩
   . rw [M5] at ho;rw [Fb n s k eb,bK,<- UI,(eb:c+(s-k)=c+(s-(k+1))+1)];exact ho
   . exact (a.later (aa.alloc (S:=λ_=>False) _ _) (λ_ _ h=>h.elim)).later (T:=λj=>u0.ownBlock=ZW j) ⟨l.os,l.tape,l.output,l.size,λj f o=>l.block j f (λe=>o e.symm)⟩ (λj f h=>by
      rcases d j h with e|e
      . exact e
      . omega)
theorem O8 (n x:Nat) (c:x<256):bits .or .u64 (IntKind.u64.wrap ((n:Int)*256)) (x:Int)=(((n*256+x)%18446744073709551616:Nat):Int):=by
 have a:IntKind.u64.wrap ((n:Int)*256)=((n*256%18446744073709551616:Nat):Int):=Zn
 rw [a,YB _ _ (V6 _ ec) eb];congr 1;have b:n*256%18446744073709551616=2^8*(n%72057594037927936):=eb
 rw [b,<- Nat.two_pow_add_eq_or_of_lt (i:=8) eb];omega
def Fe (a b:Nat) (c:a<4294967296) (d:b<4294967296):bits .xor .u32 (a:Int) (b:Int)=((a^^^b:Nat):Int):=by
 have e:a%2^IntKind.u32.bits=a:=YE c;have f:b%2^IntKind.u32.bits=b:=YE d;have:a^^^b<2^32:=WA c d;simp only [bits,YI,YJ,YK,e,f];rw [IntKind.wrap_u32];omega
theorem O9 (r:Nat) (a:r<4294967296):bits .xor .u32 IntKind.u32.max (r:Int)=((4294967295-r:Nat):Int):=by
 have e:IntKind.u32.max=((4294967295:Nat):Int):=rfl;rw [e,Fe _ _ ec a];congr 1;refine WD λi=>?_;have b:=Xw (n:=32) (x:=r) a i;have c:=Ws 32 i;rw [Yq,(eb:(4294967295:Nat)-r=2^32-(r+1)),b,show (4294967295:Nat)=2^32-1 from rfl,c];by_cases hi:i<32
 . simp [hi]
 . have:r.testBit i=ZU:=Wt (TY a (by have:=Vm (n:=2) ec (eb:32<=i);omega));simp [hi,this]
def OF (a b:Nat) (c:a<4294967296) (d:b<4294967296):bits .and .u32 (a:Int) (b:Int)=((a &&& b:Nat):Int):=(bits_nat .u32 32 ec (λn e f=>by rw [IntKind.wrap_u32];omega) a b c d).1
def Q9 (a:Nat):a &&& 15=a%16:=YR a 4
def Ge (l:a9) (k:Nat) (h:k<l.length):eh (l.take (k+1))=mz (eh (l.take k)) (l.getD k 0):=by
 rw [Vd,T2 h];unfold eh;rw [V3,T6,T2 h];rfl
def Ju (l:a9) (k:Nat) (h:k<l.length):dh (l.take (k+1))=(dh (l.take k)*256+l.getD k 0)%18446744073709551616:=by
 rw [Vd,T2 h,T6,T2 h];exact sR _ _
def Ra (w:ZT) (l:a9) (n i _x:ZS) (wr:ZT):Prop:=∃ k:Nat,k<=l.length/\n=Z7 Z8 (dh (l.take k):Nat)/\i=Z7 Z9 k/\wr=w
theorem pN (v:ZS) (l:a9) (w:ZT) (h:Bs w v l):ZQ ZJ 160 #[v] w λe w'=>e=Z3 (Z7 Z8 (dh l:Nat))/\w'=w:=by
 obtain ⟨ao,c,rfl,q,s,p,d⟩:=h;go_enter func160,ntmps160;go_wp2;go_loopw [3,8,5] (λn i x wr=>Ra w l n i x wr) (λ_ i _ _=>l.length-(intOf i).toNat)
 case atStart=>exact ⟨0,T3 _,rfl,rfl,rfl⟩
 case round=>
  obtain ⟨k,r,rfl,rfl,rfl⟩:=hrel;by_cases a:k<l.length
  . obtain ⟨b,off,rfl,f⟩:=d Zx;have c1:=f k a;have ho:Ra wr l (Z7 Z8 (((dh (l.take k)*256+l.getD k 0)%18446744073709551616:Nat):Int)) (Z7 Z9 ((k:Int)+1)) (Z7 .u8 (l.getD k 0:Nat)) wr:=⟨k+1,eb,by rw [Ju l k a],rfl,rfl⟩;have o:l.getD k 0<256:=bh p k;have g:=O8 (dh (l.take k)) (l.getD k 0) o;rw [<- g] at ho;have j:=al ho;clear ho g d f;generalize l.getD k 0=x at *;generalize dh (l.take k)=n at *;go_wp2;exact ⟨j.out,e9⟩
  . have m:k=l.length:=eb;subst m;rw [VE];clear d;go_wp2;go_ret;exact ⟨rfl,rfl⟩
def aY (w:ZT):Prop:=∀ j,j<16->w.cell? ⟨2,j,ZX⟩=ZW (Z7 .u32 ((dI.getD j 0:Nat):Int))
def SmR (w:ZT) (l:a9) (n i _x:ZS) (wr:ZT):Prop:=∃ k:Nat,k<=l.length/\n=Z7 .u32 (eh (l.take k):Nat)/\i=Z7 Z9 k/\wr=w
theorem M6 (v:ZS) (l:a9) (w:ZT) (h:Bs w v l) (hv:aY w):ZQ ZJ 177 #[v] w λe w'=>e=Z3 (Z7 .u32 (OD l:Nat))/\w'=w:=by
 obtain ⟨ao,c,rfl,M,O,p,o⟩:=h;go_enter func177,ntmps177;go_wp2;go_loopw [3,8,5] (λn i x wr=>SmR w l n i x wr) (λ_ i _ _=>l.length-(intOf i).toNat)
 case atStart=>exact ⟨0,T3 _,rfl,rfl,rfl⟩
 case round=>
  obtain ⟨k,N,rfl,rfl,rfl⟩:=hrel;by_cases g:k<l.length
  . obtain ⟨b,off,rfl,q⟩:=o (by intro e;rw [e] at g;simp at g);have c1:=q k g;have ho:SmR wr l (Z7 .u32 ((mz (eh (l.take k)) (l.getD k 0):Nat):Int)) (Z7 Z9 ((k:Int)+1)) (Z7 .u8 (l.getD k 0:Nat)) wr:=⟨k+1,eb,by rw [Ge l k g],rfl,rfl⟩;have L:l.getD k 0<256:=bh p k;have j:eh (l.take k)<4294967296:=sS (λx h=>p x (US h));unfold mz at ho;clear o q;generalize l.getD k 0=x at *;generalize eh (l.take k)=r at *;have y:(x:Int)%4294967296=(x:Int):=eb;have S:=Fe r x j eb;have m:r^^^x<4294967296:=WA (n:=32) j eb;generalize r^^^x=a at *;have T:bits .and .u32 (a:Int) 15=((a%16:Nat):Int):=(by have:=OF a 15 m ec;rw [Q9] at this;exact this);have U:(a:Int)/16=((a/16:Nat):Int):=eb;have E:=hv (a%16) (V6 _ ec);have s:=pM (a%16);have H:=Fe (a/16) (dI.getD (a%16) 0) eb s;have u:fs a<4294967296:=lC m;have f:a/16^^^dI.getD (a%16) 0=fs a:=rfl;rw [f] at H;have P:a%16<16:=V6 _ ec;clear f;generalize fs a=d at *;generalize dI.getD (a%16) 0=J at *;generalize a%16=A at *;generalize a/16=b1 at *;have V:bits .and .u32 (d:Int) 15=((d%16:Nat):Int):=(by have:=OF d 15 u ec;rw [Q9] at this;exact this);have W:(d:Int)/16=((d/16:Nat):Int):=eb;have F:=hv (d%16) (V6 _ ec);have t:=pM (d%16);have I:=Fe (d/16) (dI.getD (d%16) 0) eb t;have f:d/16^^^dI.getD (d%16) 0=fs d:=rfl;rw [f] at I;have Q:d%16<16:=V6 _ ec;clear f;generalize fs d=R at *;generalize dI.getD (d%16) 0=K at *;generalize d%16=C at *;generalize d/16=b2 at *;have z:=al ho;have B:(A:Int)<16:=eb;have D:(C:Int)<16:=eb;clear ho m u s t;go_wp2;exact ⟨z.out,e9⟩
  . have G:k=l.length:=eb;subst G;rw [VE];have j:eh l<4294967296:=sS p;clear o;have y:=O9 (eh l) j;rw [show 4294967295-eh l=OD l from rfl] at y;generalize eh l=r at *;go_wp2;go_ret;exact ⟨rfl,rfl⟩
def eY (h:w.grownBy w' (ZW b)) (i:Nat) (v:ZS):w.grownBy (w'.setCell ⟨b,i,ZX⟩ v) (ZW b):=
 ⟨h.os,h.tape,h.output,by rw [nblk_setCell];exact h.size,λk c a=>by
  rw [T7 _ _ _ _ (by intro e;exact a Zc)];exact h.block k c a⟩
def Ds {r:Option Nat} (h:w.grownBy w' r) (n:Nat):w.grownBy (w'.drewN n) r:=
 ⟨h.os,h.tape,h.output,h.size,h.block⟩
def gx {r:Option Nat} (h:w.grownBy w' r) (k:w'.grownBy w'' r):w.grownBy w'' r:=
 ⟨k.os.trans h.os,k.tape.trans h.tape,k.output.trans h.output,TU h.size k.size,λj b a=>(k.block j (TY b h.size) a).trans (h.block j b a)⟩
def iX (h:ZR B w0 w) (c:w.grownBy w' (ZW b)) (a:B<=w.heap.size) (e:B<=b):ZR B w0 w':=
 h.grown c a (λk d=>by simp at d;omega)
def Du (h:w.ownsRow base 31 1 v n xs) (c:w.grownBy w' (ZW b)) (a:v.ownBlock≠ZW b):w'.ownsRow base 31 1 v n xs:=
 h.kept c (.inr a)
theorem iU.wrote (h:iU w base v L) {i:Nat} (hi:i<L.length) {l':a9} (d:w.grownBy w' (ZW L[i].1)) (s:aM w' L[i].1 l') (o:l'.length=L[i].2.2.length) (t:∀ x∈l',x<256) :
 iU w' base v (L.set i (L[i].1,L[i].2.1,l')):=by
 have r:=T4 hi;obtain ⟨f,g,u,y,z⟩:=h.row _ r;have n:(L.set i (L[i].1,L[i].2.1,l')).map jT=L.map jT:=by
  apply U4
  . simp
  . intro j l m;simp [YG];by_cases e:i=j
    . subst e;simp [jT,o]
    . simp [e]
 have k:(L.set i (L[i].1,L[i].2.1,l')).map (λp=>p.1)=L.map (λp=>p.1):=by
  apply U4
  . simp
  . intro j l m;simp [YG];by_cases e:i=j
    . subst e;simp
    . simp [e]
 refine ⟨?_,λp b=>?_,by rw [k];exact h.nodup⟩
 . rw [n,Xr];exact Du h.own d (yW h.own g)
 . obtain ⟨j,a,rfl⟩:=aa7.1 b;rw [Xr] at a;rw [YG];by_cases e:i=j
   . rw [if_pos e];exact ⟨f,s,by show L[i].2.1<=l'.length;omega,⟨by show L[i].2.1<=140737488355328;omega,by show l'.length<=9223372036854775807;omega⟩,t⟩
   . rw [if_neg e];obtain ⟨b1,b2,b3⟩:=h.row _ (T4 a);refine ⟨b1,b2.grown d ?_,b3⟩;intro q;simp at q;have b:=Wg.1 h.nodup;rcases Nat.lt_or_gt_of_ne e with c|c
     . exact b i j (vE hi) (vE a) c (by simp [q])
     . exact b j i (vE a) (vE hi) c (by simp [q])
def iU.Tb (h:iU w base v L) {i:Nat} (hi:i<L.length):Bs w (jT L[i]) (L[i].2.2.take L[i].2.1):=by
 obtain ⟨e,a,b,c,d⟩:=h.row _ (T4 hi);exact Bs.SD a b c.1 d
def M7 (w:ZT) (n:Nat) (a:n=w.heap.size) (x:ZS) (t:ZL):∀ j u,[x][j]?=ZW u->(w.alloc (Z4 #[x] t)).cell? ((⟨n,0,ZX⟩:Addr).add j)=ZW u:=by
 subst a;exact XY _ _ _
def jW {o:Obj} (h:iU w B v T) (b:ZR B w0 w) (a:ZR w.heap.size w w1) (d:B<=w.heap.size) (e:(w1.alloc o).grownBy w2 v.ownBlock):ZR B w0 w2:=by
 have c:=b.trans (a.mono d);have:=a.size;refine (c.alloc eb o).grown e K1 ?_;intro k f;exact (h.own.lt k f).1
def xr (c:Nat) (l:a9):a9:=l.map (λx=>x^^^c)
def rJ (c k:Nat) (l:a9):a9:=(YC l.length).map λj=>if j<k then l.getD j 0^^^c else l.getD j 0
theorem Gg (c:Nat) (l:a9):rJ c 0 l=l:=by
 unfold rJ;apply U4
 . simp
 . intro j b a;simp [a]
theorem Jv (c:Nat) (l:a9):rJ c l.length l=xr c l:=by
 unfold rJ xr;apply U4
 . simp
 . intro j a b;simp at a;simp [a]
def Jw (c k:Nat) (l:a9):(rJ c k l).length=l.length:=by simp [rJ]
def Jy (c k:Nat) (l:a9) (a:k<l.length):(rJ c k l).getD k 0=l.getD k 0:=by simp [rJ,a]
theorem Gh (c k:Nat) (l:a9):(rJ c k l).set k (l.getD k 0^^^c)=rJ c (k+1) l:=by
 unfold rJ;apply U4
 . simp
 . intro j b d;simp [YG];by_cases e:k=j
   . subst e;simp
   . simp only [if_neg e];by_cases a:j<k
     . rw [if_pos a,if_pos eb]
     . rw [if_neg a,if_neg eb]
def SA2 (wo:ZT) (b c:Nat) (l:a9) (i:ZS) (wr:ZT):Prop:=
 ∃ k:Nat,k<=l.length/\i=Z7 Z9 k/\wo.grownBy wr (ZW b)/\aM wr b (rJ c k l)
def Rd (w:ZT) (v:ZS) (D:List a9):Prop:=
 ∃ ao c,v=.slice ao D.length c/\D.length<=5864062014805/\(D≠[]->∃ b off,ao=ZW ⟨b,off,ZX⟩/\∀ i (hi:i<D.length),∃ u,w.cell? ⟨b,off+i,ZX⟩=ZW u/\Bs w u D[i])
def Bs.lt (h:Bs w v l):∀ x∈l,x<256:=by
 obtain ⟨_,_,_,_,_,a,_⟩:=h;exact a
def Rd.mono (h:Rd w v D) (a:ZR w.heap.size w w'):Rd w' v D:=by
 obtain ⟨ao,c,f,g,j⟩:=h;refine ⟨ao,c,f,g,λl=>?_⟩;obtain ⟨b,off,e,m⟩:=j l;refine ⟨b,off,e,λi hi=>?_⟩;obtain ⟨u,d,k⟩:=m i hi;exact ⟨u,by rw [a.cell (T8 d)];exact d,k.mono a⟩
def Rd.cases (h:Rd w v D):(D=[]/\∃ ao c,v=.slice ao 0 c)\/∃ b off c,v=Z5 (ZW ⟨b,off,ZX⟩) D.length c/\D.length<=5864062014805/\∀ i (hi:i<D.length),∃ u,w.cell? ⟨b,off+i,ZX⟩=ZW u/\Bs w u D[i]:=by
 obtain ⟨ao,c,a,e,f⟩:=h;by_cases d:D=[]
 . subst d;exact .inl ⟨rfl,ao,c,a⟩
 . obtain ⟨b,off,rfl,g⟩:=f d;exact .inr ⟨b,off,c,a,e,g⟩
theorem aM.heap (h:aM w b l):w.heap[b]?=ZW (Z4 (l.map (λx=>Value.int .u8 ((x:Nat):Int))).toArray 5 (0,0)):=by
 obtain ⟨c,d,f,e⟩:=h;have:c=(l.map (λx=>Value.int .u8 ((x:Nat):Int))).toArray:=by
  apply YL
  . simp [f]
  . intro i a g;have:=e i eb;rw [Vr a] at this;simp [vb] at this;have hi:i<l.length:=eb;simp [this,hi]
 rw [<- this];exact d
def aM.of_heap (h:w.heap[b]?=ZW (Z4 (l.map (λx=>Value.int .u8 ((x:Nat):Int))).toArray 5 (0,0))):aM w b l:=
 ⟨_,h,ek,λi hi=>by simp [vb,hi]⟩
def Gi {a:ZM} {Q:ZO->ZM->ZT->Prop} (r:o.guard=ZX) (d s:ZK)
 (ho:o.op=.call { callee:=.builtin .copy,args:=#[d,s],argTypes:=#[31,31] }) (g n cap:Nat) (v:ZS) (hd:a.eval d=Z5 (ZW ⟨g,0,ZX⟩) n cap) (hs:a.eval s=v)
 (old src:a9) (hB:aM w g old) (hS:Bs w v src) (h9:src.length<=n) (hn:n<=old.length) (B:Nat) (w0:ZT) (hb:ZR B w0 w) (h5:B<=g)
 (h:∀ w',aM w' g (src++old.drop src.length)->ZR B w0 w'->wpList ZJ ops Q rest (a.put o.dst (goInt src.length)) w'):wpList ZJ ops Q (o::rest) a w:=by
 obtain ⟨ao,c,rfl,A,C,D,m⟩:=hS;refine aa8 r d s 31 31 ho 5 Ui ei (ZW ⟨g,0,ZX⟩) ao n cap src.length c hd hs g 0 _ 5 hB.heap (src.map (λx=>Value.int .u8 ((x:Nat):Int))) ?_ ?_ ?_ ?_ B w0 hb h5 ?_
 . rw [TZ];show src.length=min src.length n;omega
 . intro k;rw [TZ] at k;obtain ⟨b,off,rfl,y⟩:=m (by intro e;rw [e] at k;simp at k);refine ⟨rfl,_,rfl,λj u i=>?_⟩;have f:j<src.length:=by
    have:=UT.1 i;obtain ⟨q,_⟩:=this;simpa using q
   rw [Vj,y j f];simp [f] at i;simp [f,i]
 . simp;omega
 . intro u z;obtain ⟨x,_,rfl⟩:=T1.1 z;rfl
 . intro w' t p;have e:(splice (old.map (λx=>Value.int .u8 ((x:Nat):Int))) 0 (src.map (λx=>Value.int .u8 ((x:Nat):Int))))=(src++old.drop src.length).map (λx=>Value.int .u8 ((x:Nat):Int)):=by
    simp [splice]
   have l:=t.out;rw [e] at l;rw [TZ];exact h w' (aM.of_heap l) p
def Dv (l:a9):l++(YD (l.length+2) 0).drop l.length=l++[0,0]:=by
 rw [XZ,Wu];rfl
def Jz (l:a9):((l++[0,0]).set l.length 71).set (l.length+1) 72=l++[71,72]:=by
 rw [YS _ _ lR,YS _ _ eb];simp
theorem Gj (v:ZS) (l:a9) (w:ZT) (h:Bs w v l) (r:l.length<=1000000) :
 ZQ ZJ 33 #[v] w λe w'=>∃ b,e=Z3 (Z5 (ZW ⟨b,0,ZX⟩) l.length (l.length+2))/\w.heap.size<=b/\aM w' b (l++[71,72])/\ZR w.heap.size w w':=by
 have n:=h;obtain ⟨ao,c,rfl,f,g,i,j⟩:=h;clear f g i j;go_enter func33,ntmps33;go_wp2_with (first
  | (at_make;refine eo _ rfl (Z0 8) (Z0 8) rfl _ (l.length+2) rfl rfl eb eb ?_;intro w1 m d o;clear o)
  | (refine Gi rfl (Z0 10) (Z0 11) rfl w.heap.size (l.length+2) (l.length+2) _ rfl rfl _ l m (n.mono d) eb ek w.heap.size w d lR ?_;intro w2 a k;rw [Dv] at a;have c1:=a.cell l.length ek;have p:=a.cell (l.length+1) ek;have f1:=a.frozen l.length;have q:=a.frozen (l.length+1)))
 go_ret;refine ⟨w.heap.size,rfl,TV _,?_,?_⟩
 . have:=(a.set l.length 71).set (l.length+1) 72;rw [Jz] at this;exact this
 . exact (k.setCell ek _).setCell ek _
theorem Gk (b:Nat) (vb:ZS) (l:a9) (w:ZT) (g:aM w b (l++[71,72])) (o:Bs w vb l) (J:l.length<=1000000) :
 ZQ ZJ 35 #[Z5 (ZW ⟨b,0,ZX⟩) l.length (l.length+2),vb] w λe w'=>e=Z3 (Z1 ZV)/\w.grownBy w' (ZW b)/\aM w' b (xr 85 (l++[71,72])):=by
 have z:=o.lt;have i:(l++[71,72]).length=l.length+2:=ek
 have t:Bs w (Z5 (ZW ⟨b,0,ZX⟩) l.length (l.length+2)) l:=by
  have:=Bs.SD (n:=l.length) g ek eb (by intro x d;rcases Ub.1 d with q|q;exact z x q;simp at q;omega);rw [i,List.take_left'] at this;exact this;rfl
 have c1:=g.cell l.length ek;have p:=g.cell (l.length+1) ek;have r:(l++[71,72]).getD l.length 0=71:=ek
 have s:(l++[71,72]).getD (l.length+1) 0=72:=ek
 rw [r] at c1;rw [s] at p;have u:=o;have d:∀ x∈l++[71,72],x<256:=by intro x d;rcases Ub.1 d with q|q;exact z x q;simp at q;omega
 obtain ⟨ao,c,rfl,A,B,C,D⟩:=o;clear A B C D r s;generalize hL:l++[71,72]=L at *;go_enter func35,ntmps35;go_wp2_with fail;refine (Fa _ _ l _ t u).mono ?_;rintro e w1 ⟨rfl,m,rfl⟩;clear t u hL;have h:=al i;clear i;go_wp2;clear c1 p;go_loopw [8] (λj wr=>SA2 w b 85 L j wr) (λj _=>L.length-(intOf j).toNat)
 case atStart=>exact ⟨0,T3 _,rfl,Ds (Wh _ _) _,by rw [Gg];exact g⟩
 case round=>
  obtain ⟨j,H,rfl,k,a⟩:=hrel;have I:j<=l.length+2:=by rw [<- h.out];exact H
  by_cases F:j<l.length+2
  . have v:j<L.length:=(by rw [h.out];exact F);have d1:=a.cell j (by rw [Jw];exact v);have f1:=a.frozen j;rw [Jy 85 j L v] at d1;have G:=bh d j;have f:=a.set j (L.getD j 0^^^85);rw [Gh] at f;have E:=eY k j (Z7 .u8 ((L.getD j 0^^^85:Nat):Int));have hi:bits .xor .u8 ((L.getD j 0:Nat):Int) 85=((L.getD j 0^^^85:Nat):Int):=nC (L.getD j 0) 85 G ec;generalize L.getD j 0=x at *;clear a k;go_wp2;go_roundw
    case rel=>exact ⟨j+1,eb,e8,E,f⟩
    case measure=>simp [intOf];omega
  . have y:j=L.length:=(by rw [h.out];omega);have f:aM wr b (xr 85 L):=(by rw [y,Jv] at a;exact a);clear a y;go_wp2;go_ret;exact ⟨rfl,k,f⟩
def iU.SN (h:iU w base (Z5 (ZW ⟨g,0,ZX⟩) n cap) L) {i:Nat} (hi:i<L.length):w.cell? ⟨g,i,ZX⟩=ZW (jT L[i]):=by
 have:=h.own.cells (g:=g) rfl i (jT L[i]) (by simp [hi]);rw [jU] at this;exact this
def iU.slice (h:iU w base v L):∃ ao cap,v=.slice ao L.length cap/\(L≠[]->∃ g,ao=ZW ⟨g,0,ZX⟩):=by
 rcases h.shape with ⟨rfl,rfl⟩|⟨g,cap,rfl,_⟩
 . exact ⟨ZX,0,rfl,λh=>absurd rfl h⟩
 . exact ⟨_,cap,rfl,λ_=>⟨g,rfl⟩⟩
def av (D L G t f n:Nat):Array ZS:=#[Z7 Z9 D,Z7 Z9 L,Z7 Z9 G,Z7 Z8 t,Z7 Z9 f,Z7 Z9 n]
def Bs.Sq (h:w.ownsRow base 5 1 v n (aJ l)) (c:∀ x∈l,x<256) (p:l.length<=1000000):Bs w v l:=by
 have b:l.length=n:=by have:=h.1;rw [aW] at this;omega
 rcases h.2 with ⟨rfl,d⟩|⟨g,cap,cur,rfl,e,f,i,j,m,o⟩
 . subst d;have:l=[]:=UK b;subst this;exact ⟨ZX,0,rfl,ek,ek,c,λh=>absurd rfl h⟩
 . refine ⟨ZW ⟨g,0,ZX⟩,cap,by rw [b],eb,eb,c,λ_=>⟨g,0,rfl,λk a=>?_⟩⟩;have:=h.cells (g:=g) rfl k (Z7 .u8 ((l.getD k 0:Nat):Int)) Zp;rw [jU] at this;rw [Uc];exact this
def Gl (w:ZT) (a b c d:Nat):(w.alloc (Z4 #[Z7 .u8 (a:Int),Z7 .u8 (b:Int),Z7 .u8 (c:Int),Z7 .u8 (d:Int)] 5)).ownsRow w.heap.size 5 1 (Z5 (ZW ⟨w.heap.size,0,ZX⟩) 4 4) 4 (aJ [a,b,c,d]):=
 ⟨rfl,.inr ⟨w.heap.size,4,_,rfl,TV _,T9 _ _,TV _,eD,rfl,rfl⟩⟩
theorem Dw (w:ZT):ZQ ZJ 255 #[.agg #[]] w λe w'=>e=Z3 (Z5 ZX 0 0)/\ZR w.heap.size w w':=by
 go_enter func255,ntmps255;go_wp2;go_ret;exact ⟨rfl,bA w _⟩
theorem Gm (D L G t f n:Nat) (w:ZT) (Y:(bx.root D L G t f n).ok) :
 ZQ ZJ 239 #[.agg (av D L G t f n)] w λe w'=>∃ v,e=Z3 v/\Bs w' v (bx.root D L G t f n).body/\ZR w.heap.size w w':=by
 obtain ⟨l,m,o,B,C,E⟩:=Y;have M:(w.alloc (Z4 (av D L G t f n) 110)).heap[w.heap.size]?=ZW (Z4 (av D L G t f n) 110 (0,0)):=T9 _ _;have R:(w.alloc (Z4 (av D L G t f n) 110)).heap.size=w.heap.size+1:=ek
 have y:=Gl (w.alloc (Z4 (av D L G t f n) 110)) 1 D L G;have i:((w.alloc (Z4 (av D L G t f n) 110)).alloc (Z4 #[Z7 .u8 1,Z7 .u8 (D:Int),Z7 .u8 (L:Int),Z7 .u8 (G:Int)] 5)).heap[w.heap.size]?=ZW (Z4 (av D L G t f n) 110 (0,0)):=(Ut _ _ _ ek).trans M;have x:ZR w.heap.size w ((w.alloc (Z4 (av D L G t f n) 110)).alloc (Z4 #[Z7 .u8 1,Z7 .u8 (D:Int),Z7 .u8 (L:Int),Z7 .u8 (G:Int)] 5)):=(bA w _).alloc ek _;have A:((w.alloc (Z4 (av D L G t f n) 110)).alloc (Z4 #[Z7 .u8 1,Z7 .u8 (D:Int),Z7 .u8 (L:Int),Z7 .u8 (G:Int)] 5)).heap.size=w.heap.size+2:=ek
 rw [R] at y;unfold av at *;obtain ⟨w1,z⟩:=nM ((w.alloc (Z4 #[Z7 Z9 D,Z7 Z9 L,Z7 Z9 G,Z7 Z8 t,Z7 Z9 f,Z7 Z9 n] 110)).alloc (Z4 #[Z7 .u8 1,Z7 .u8 (D:Int),Z7 .u8 (L:Int),Z7 .u8 (G:Int)] 5));have J:w1.ownsRow (w.heap.size+1) 5 1 (Z5 (ZW ⟨w.heap.size+1,0,ZX⟩) 4 4) 4 (aJ [1,D,L,G]):=by rw [<- z];exact y
 rw [z] at i x A;have c1:w1.cell? ⟨w.heap.size,3,ZX⟩=ZW (Z7 Z8 t):=by simp [World.cell?,i]
 have a:=a5 J i x A;clear y J i x M R A;go_enter func239,ntmps239;go_wp2_with fail;refine (eQ (w.heap.size+1) _ 4 (aJ [1,D,L,G]) t 8 w1 a.out.1 (eT a.out.2.2.2) ec ec).mono ?_;rintro e w2 ⟨Z,rfl,N,h,F⟩;have p:w2.heap[w.heap.size]?=ZW (Z4 #[Z7 Z9 D,Z7 Z9 L,Z7 Z9 G,Z7 Z8 t,Z7 Z9 f,Z7 Z9 n] 110 (0,0)):=(h.block _ (eT a.out.2.2.2) (λe=>abB)).trans a.out.2.1;have H:ZR w.heap.size w w2:=a.out.2.2.1.trans (h.below λk u=>⟨eT a.out.2.2.2,λe=>by simp [Value.ownBlock] at e;omega⟩);have P:=h.size;have T:w2.cell? ⟨w.heap.size,4,ZX⟩=ZW (Z7 Z9 f):=by simp [World.cell?,p]
 have b:=a7 N p H P F;clear N h F p H P z;go_wp2_with fail;refine (eQ (w.heap.size+1) _ (4+8) (aJ [1,D,L,G]++aJ (be t 8)) f 4 w2 b.out.1 Zb ec ec).mono ?_;rintro e j ⟨v3,rfl,O,hi,W⟩;have s:∀ k,k<=w.heap.size->¬ Z.ownBlock=ZW k:=λk u e=>eT ((b.out.1.lt k e).1)
 have q:j.heap[w.heap.size]?=ZW (Z4 #[Z7 Z9 D,Z7 Z9 L,Z7 Z9 G,Z7 Z8 t,Z7 Z9 f,Z7 Z9 n] 110 (0,0)):=(hi.block _ Zb (s _ lR)).trans b.out.2.1;have I:ZR w.heap.size w j:=b.out.2.2.1.trans (hi.below λk u=>⟨Zb,s k eb⟩);have Q:=TU b.out.2.2.2.1 hi.size;have U:j.cell? ⟨w.heap.size,5,ZX⟩=ZW (Z7 Z9 n):=by simp [World.cell?,q]
 have c:=a5 O q I Q;clear O hi W q I Q T s;go_wp2_with fail;refine (eQ (w.heap.size+1) _ (4+8+4) (aJ [1,D,L,G]++aJ (be t 8)++aJ (be f 4)) n 4 j c.out.1 (by have:=a.out.2.2.2;have:=c.out.2.2.2;omega) ec ec).mono ?_;rintro e w4 ⟨v4,rfl,d,K,X⟩;have g:ZR w.heap.size w w4:=c.out.2.2.1.trans (K.below λk u=>⟨by have:=a.out.2.2.2;have:=c.out.2.2.2;omega,λe=>eT ((c.out.1.lt k e).1)⟩);have S:=au d g;clear d K X g U;go_wp2;go_ret;obtain ⟨d,g⟩:=S.out;refine ⟨v4,rfl,?_,g⟩;have V:aJ [1,D,L,G]++aJ (be t 8)++aJ (be f 4)++aJ (be n 4)=aJ (bx.root D L G t f n).body:=by
  rw [<- bK,<- bK,<- bK];simp only [bx.body,YE l,YE m,YE o,UI]
 rw [V] at d;exact Bs.Sq d (mB (r:=.root D L G t f n) ⟨l,m,o,B,C,E⟩) (TU (jA (r:=.root D L G t f n) ⟨l,m,o,B,C,E⟩) ec)
def Bs.mid (d:l.length<=c) (f:l.length<=1000000) (e:∀ x∈l,x<256) (h:w.rangeAt b off (aJ l)):Bs w (Z5 (ZW ⟨b,off,ZX⟩) l.length c) l:=
 ⟨_,c,rfl,d,eb,e,λ_=>⟨b,off,rfl,λk a=>h k _ Zp⟩⟩
theorem nE (s:Nat) (h:w.rangeAt b off (aJ l)):w.rangeAt b off (aJ (l.take s)):=λj v hv=>by
 unfold aJ at hv;rw [Wi,Xx] at hv;split at hv
 . exact h j v hv
 . cases hv
def fP (s:Nat) (h:w.rangeAt b off (aJ l)):w.rangeAt b (off+s) (aJ (l.drop s)):=λj v hv=>by
 unfold aJ at hv;rw [Wj,VM] at hv;rw [Vb];exact h (s+j) v hv
theorem jC (q b off c s:Nat) (l:a9) (w:ZT) (d:w.heap[q]?=ZW (Z4 #[Z5 (ZW ⟨b,off,ZX⟩) l.length c] 31 (0,0))) (m:c<=1000) (g:∀ x∈l,x<256) (f:w.rangeAt b off (aJ l)) (i:s<=l.length) (o:s<c) :
 ZQ ZJ 193 #[Z7 Z9 s,Z6 (ZW ⟨q,0,ZX⟩)] w λe w'=>e=Z3 (Z7 Z8 (dh (l.take s):Nat))/\w'=w.setCell ⟨q,0,ZX⟩ (Z5 (ZW ⟨b,off+s,ZX⟩) (l.length-s) (c-s)):=by
 have a:Bs w (Z5 (ZW ⟨b,off,ZX⟩) (l.take s).length c) (l.take s):=Bs.mid KP KP (λx h=>g x (US h)) (nE s f);rw [Ud,VV i] at a;have j:w.cell? ⟨q,0,ZX⟩=ZW (Z5 (ZW ⟨b,off,ZX⟩) l.length c):=Ok
 have k:w.frozen? ⟨q,0,ZX⟩=ZU:=by simp [World.frozen?,d]
 go_enter func193,ntmps193;go_wp2_with fail;refine (pN _ (l.take s) w a).mono ?_;rintro e w' ⟨rfl,rfl⟩;have n:¬ c=s:=eb
 clear a f g;go_wp2;go_ret;exact ⟨rfl,rfl⟩
structure Gn (w0 w:ZT) (q b off c:Nat) (l:a9) (vals:Array ZS):Prop where
 box:w.heap[q]?=ZW (Z4 #[Z5 (ZW ⟨b,off,ZX⟩) l.length c] 31 (0,0))
 res:w.heap[q+1]?=ZW (Z4 #[Z7 Z9 0,Z7 Z9 0,Z7 Z9 0,Z7 Z8 0,Z7 Z9 0,Z7 Z9 0] 110 (0,0))
 rv:w.heap[q+1+1]?=ZW (Z4 vals 110 (0,0))
 below:ZR q w0 w
 rng:w.rangeAt b off (aJ l)
 lt:b<q
def ai {t:ZL} (h:w.heap[b]?=ZW (Z4 cs t (0,0))) (v:ZS):(w.setCell ⟨b,j,ZX⟩ v).heap[b]?=ZW (Z4 (cs.setIfInBounds j v) t (0,0)):=by
 simp [World.setCell,Vv,h]
def wH {l:List ZS} (h:w.rangeAt b off l) {a:Addr} (c:b≠a.block) (v:ZS):(w.setCell a v).rangeAt b off l:=λj u d=>by
 have:=h j u d;rw [<- this];exact Uh (T7 _ _ _ _ c)
def Gn.step (h:Gn w0 w q b off c l vals) (s j:Nat) (v:ZS) :
 Gn w0 ((w.setCell ⟨q,0,ZX⟩ (Z5 (ZW ⟨b,off+s,ZX⟩) (l.length-s) (c-s))).setCell ⟨q+1+1,j,ZX⟩ v) q b (off+s) (c-s) (l.drop s) (vals.setIfInBounds j v):=by
 obtain ⟨a,d,e,f,g,i⟩:=h;refine ⟨?_,?_,?_,?_,?_,i⟩
 . rw [T7 _ _ _ _ (by show q≠q+1+1;omega),ai a,Ue];rfl
 . rw [T7 _ _ _ _ (by show q+1≠q+1+1;omega),T7 _ _ _ _ (by show q+1≠q;omega)];exact d
 . exact ai ((T7 _ _ _ _ (by show q+1+1≠q;omega)).trans e) v
 . exact (f.setCell (p:=⟨q,0,ZX⟩) lR _).setCell (p:=⟨q+1+1,j,ZX⟩) (by show q<=q+1+1;omega) _
 . exact wH (wH (fP s g) (by show b≠q;omega) _) (by show b≠q+1+1;omega) _
def Gn.cells (h:Gn w0 w q b off c l vals) (s j:Nat) (u:ZS) (a:vals[j]?=ZW u) :
 (w.setCell ⟨q,0,ZX⟩ (Z5 (ZW ⟨b,off+s,ZX⟩) (l.length-s) (c-s))).cell? ⟨q+1+1,j,ZX⟩=ZW u/\(w.setCell ⟨q,0,ZX⟩ (Z5 (ZW ⟨b,off+s,ZX⟩) (l.length-s) (c-s))).frozen? ⟨q+1+1,j,ZX⟩=ZU:=by
 have e:(w.setCell ⟨q,0,ZX⟩ (Z5 (ZW ⟨b,off+s,ZX⟩) (l.length-s) (c-s))).heap[q+1+1]?=_:=(T7 _ _ _ _ (by show q+1+1≠q;omega)).trans h.rv;exact ⟨by simp [World.cell?,e,a],by simp [World.frozen?,e]⟩
def wI:∀ (l:a9),l.length<=7->(∀ x∈l,x<256)->dh l<256^l.length:=by
 intro l c a;induction hn:l.length generalizing l with
 | zero=>
  have:l=[]:=UK hn;subst this;decide
 | succ n ih=>
  rcases YN l with rfl|⟨l',x,rfl⟩
  . simp at hn
  . rw [YO] at *;simp at hn;have b:l'.length<=7:=(by simp at c;omega);have e:=ih l' b (λy d=>a y (by simp [d])) hn;have f:=a x ek;rw [sR,W0];exact Xy (Nat.mod_le _ _) eb
theorem Dx (b off:Nat) (l:a9) (w:ZT) (hl:l.length=59) (hx:∀ x∈l,x<256) (hr:w.rangeAt b off (aJ l)) (hb:b<w.heap.size) :
 ZQ ZJ 178 #[Z5 (ZW ⟨b,off,ZX⟩) l.length 59] w λe w'=>e=Z3 (.agg (av (dh (l.take 1)) (dh ((l.drop 1).take 1)) (dh ((l.drop 2).take 1)) (dh ((l.drop 3).take 8)) (dh ((l.drop 11).take 4)) (dh ((l.drop 15).take 4))))/\ZR w.heap.size w w':=by
 have V:∀ s,∀ x∈l.drop s,x<256:=λs x h=>hx x (UV h);have k6:∀ s k,k<=7->dh ((l.drop s).take k)<256^k:=λs k hk=>by
  have hf:((l.drop s).take k).length<=k:=KP
  exact TY (wI _ eb (λx h=>V s x (US h))) (Vm ec hf)
 have U:Gn w (((w.alloc (Z4 #[Z5 (ZW ⟨b,off,ZX⟩) l.length 59] 31)).alloc (Z4 #[Z7 Z9 0,Z7 Z9 0,Z7 Z9 0,Z7 Z8 0,Z7 Z9 0,Z7 Z9 0] 110)).alloc (Z4 #[Z7 Z9 0,Z7 Z9 0,Z7 Z9 0,Z7 Z8 0,Z7 Z9 0,Z7 Z9 0] 110)) w.heap.size b off 59 l #[Z7 Z9 0,Z7 Z9 0,Z7 Z9 0,Z7 Z8 0,Z7 Z9 0,Z7 Z9 0]:=by
  refine ⟨?_,?_,?_,((bA w _).alloc ek _).alloc en _,aa9 (aa9 (aa9 hr _) _) _,hb⟩
  . rw [Ut _ _ _ en,Ut _ _ _ ek];exact T9 _ _
  . rw [Ut _ _ _ ek];have:=T9 (w.alloc (Z4 #[Z5 (ZW ⟨b,off,ZX⟩) l.length 59] 31)) (Z4 #[Z7 Z9 0,Z7 Z9 0,Z7 Z9 0,Z7 Z8 0,Z7 Z9 0,Z7 Z9 0] 110);simpa using this
  . have:=T9 ((w.alloc (Z4 #[Z5 (ZW ⟨b,off,ZX⟩) l.length 59] 31)).alloc (Z4 #[Z7 Z9 0,Z7 Z9 0,Z7 Z9 0,Z7 Z8 0,Z7 Z9 0,Z7 Z9 0] 110)) (Z4 #[Z7 Z9 0,Z7 Z9 0,Z7 Z9 0,Z7 Z8 0,Z7 Z9 0,Z7 Z9 0] 110);simpa using this
 obtain ⟨w1,k7⟩:=nM (((w.alloc (Z4 #[Z5 (ZW ⟨b,off,ZX⟩) l.length 59] 31)).alloc (Z4 #[Z7 Z9 0,Z7 Z9 0,Z7 Z9 0,Z7 Z8 0,Z7 Z9 0,Z7 Z9 0] 110)).alloc (Z4 #[Z7 Z9 0,Z7 Z9 0,Z7 Z9 0,Z7 Z8 0,Z7 Z9 0,Z7 Z9 0] 110));rw [k7] at U;have a:=aE V k6 hl;have H0:Hid (Gn w w1 w.heap.size b (off+0) 59 (l.drop 0) #[Z7 Z9 0,Z7 Z9 0,Z7 Z9 0,Z7 Z8 0,Z7 Z9 0,Z7 Z9 0]):=U;clear U hr hx V k6 hl hb;go_enter func178,ntmps178;go_wp2_with fail;obtain ⟨f,hi⟩:∃ x,dh ((l.drop 0).take 1)=x:=⟨_,rfl⟩;have b0:f<4294967296:=TY (hi▸a.out.2.1 0 1 ec) ec;have M:=H0.out;refine (jC w.heap.size b (off+0) 59 1 (l.drop 0) w1 M.box ec (a.out.1 0) M.rng Wa ec).mono ?_;rintro e y0 ⟨rfl,kf⟩;rw [hi];have G:=M.step 1 0 (Z7 Z9 (f:Nat));obtain ⟨r,B⟩:=M.cells 1 0 _ rfl;rw [<- kf] at G r B;clear kf;obtain ⟨w2,k8⟩:∃ z,y0.setCell ⟨w.heap.size+1+1,0,ZX⟩ (Z7 Z9 (f:Nat))=z:=⟨_,rfl⟩;rw [k8] at G;have hq:Gn w w2 w.heap.size b (off+1) 58 (l.drop 1) #[Z7 Z9 (f:Nat),Z7 Z9 0,Z7 Z9 0,Z7 Z8 0,Z7 Z9 0,Z7 Z9 0]:=by
  rw [VF,Vb off] at G;exact G
 have H1:=al hq;clear M G hq;go_wp2_with fail;obtain ⟨g,W⟩:∃ x,dh ((l.drop 1).take 1)=x:=⟨_,rfl⟩;have b1:g<4294967296:=TY (W▸a.out.2.1 1 1 ec) ec;have N:=H1.out;refine (jC w.heap.size b (off+1) 58 1 (l.drop 1) w2 N.box ec (a.out.1 1) N.rng Wa ec).mono ?_;rintro e y1 ⟨rfl,kg⟩;rw [W];have H:=N.step 1 1 (Z7 Z9 (g:Nat));obtain ⟨t,C⟩:=N.cells 1 1 _ rfl;rw [<- kg] at H t C;clear kg;obtain ⟨w3,k9⟩:∃ z,y1.setCell ⟨w.heap.size+1+1,1,ZX⟩ (Z7 Z9 (g:Nat))=z:=⟨_,rfl⟩;rw [k9] at H;have hs:Gn w w3 w.heap.size b (off+2) 57 (l.drop 2) #[Z7 Z9 (f:Nat),Z7 Z9 (g:Nat),Z7 Z9 0,Z7 Z8 0,Z7 Z9 0,Z7 Z9 0]:=by
  rw [VF,Vb off] at H;exact H
 have H2:=al hs;clear N H hs;go_wp2_with fail;obtain ⟨i,X⟩:∃ x,dh ((l.drop 2).take 1)=x:=⟨_,rfl⟩;have b2:i<4294967296:=TY (X▸a.out.2.1 2 1 ec) ec;have O:=H2.out;refine (jC w.heap.size b (off+2) 57 1 (l.drop 2) w3 O.box ec (a.out.1 2) O.rng Wa ec).mono ?_;rintro e y2 ⟨rfl,kh⟩;rw [X];have I:=O.step 1 2 (Z7 Z9 (i:Nat));obtain ⟨u,D⟩:=O.cells 1 2 _ rfl;rw [<- kh] at I u D;clear kh;obtain ⟨w4,ka⟩:∃ z,y2.setCell ⟨w.heap.size+1+1,2,ZX⟩ (Z7 Z9 (i:Nat))=z:=⟨_,rfl⟩;rw [ka] at I;have hy:Gn w w4 w.heap.size b (off+3) 56 (l.drop 3) #[Z7 Z9 (f:Nat),Z7 Z9 (g:Nat),Z7 Z9 (i:Nat),Z7 Z8 0,Z7 Z9 0,Z7 Z9 0]:=by
  rw [VF,Vb off] at I;exact I
 have H3:=al hy;clear O I hy;go_wp2_with fail;obtain ⟨m,ke⟩:∃ x,dh ((l.drop 3).take 8)=x:=⟨_,rfl⟩;have P:=H3.out;refine (jC w.heap.size b (off+3) 56 8 (l.drop 3) w4 P.box ec (a.out.1 3) P.rng Wa ec).mono ?_;rintro e y3 ⟨rfl,ki⟩;rw [ke];have J:=P.step 8 3 (Z7 Z8 (m:Nat));obtain ⟨y,E⟩:=P.cells 8 3 _ rfl;rw [<- ki] at J y E;clear ki;obtain ⟨w5,kb⟩:∃ z,y3.setCell ⟨w.heap.size+1+1,3,ZX⟩ (Z7 Z8 (m:Nat))=z:=⟨_,rfl⟩;rw [kb] at J;have hz:Gn w w5 w.heap.size b (off+11) 48 (l.drop 11) #[Z7 Z9 (f:Nat),Z7 Z9 (g:Nat),Z7 Z9 (i:Nat),Z7 Z8 (m:Nat),Z7 Z9 0,Z7 Z9 0]:=by
  rw [VF,Vb off] at J;exact J
 have H4:=al hz;clear P J hz;go_wp2_with fail;obtain ⟨n,Y⟩:∃ x,dh ((l.drop 11).take 4)=x:=⟨_,rfl⟩;have b4:n<4294967296:=TY (Y▸a.out.2.1 11 4 ec) ec;have Q:=H4.out;refine (jC w.heap.size b (off+11) 48 4 (l.drop 11) w5 Q.box ec (a.out.1 11) Q.rng Wa ec).mono ?_;rintro e y4 ⟨rfl,kj⟩;rw [Y];have K:=Q.step 4 4 (Z7 Z9 (n:Nat));obtain ⟨A,F⟩:=Q.cells 4 4 _ rfl;rw [<- kj] at K A F;clear kj;obtain ⟨w6,kc⟩:∃ z,y4.setCell ⟨w.heap.size+1+1,4,ZX⟩ (Z7 Z9 (n:Nat))=z:=⟨_,rfl⟩;rw [kc] at K;have k0:Gn w w6 w.heap.size b (off+15) 44 (l.drop 15) #[Z7 Z9 (f:Nat),Z7 Z9 (g:Nat),Z7 Z9 (i:Nat),Z7 Z8 (m:Nat),Z7 Z9 (n:Nat),Z7 Z9 0]:=by
  rw [VF,Vb off] at K;exact K
 have H5:=al k0;clear Q K k0;go_wp2_with fail;obtain ⟨o,Z⟩:∃ x,dh ((l.drop 15).take 4)=x:=⟨_,rfl⟩;have b5:o<4294967296:=TY (Z▸a.out.2.1 15 4 ec) ec;have R:=H5.out;refine (jC w.heap.size b (off+15) 44 4 (l.drop 15) w6 R.box ec (a.out.1 15) R.rng Wa ec).mono ?_;rintro e y5 ⟨rfl,kk⟩;rw [Z];have L:=R.step 4 5 (Z7 Z9 (o:Nat));obtain ⟨S,T⟩:=R.cells 4 5 _ rfl;rw [<- kk] at L S T;clear kk;obtain ⟨d,ko⟩:∃ z,y5.setCell ⟨w.heap.size+1+1,5,ZX⟩ (Z7 Z9 (o:Nat))=z:=⟨_,rfl⟩;rw [ko] at L;have k5:Gn w d w.heap.size b (off+19) 40 (l.drop 19) #[Z7 Z9 (f:Nat),Z7 Z9 (g:Nat),Z7 Z9 (i:Nat),Z7 Z8 (m:Nat),Z7 Z9 (n:Nat),Z7 Z9 (o:Nat)]:=by
  rw [VF,Vb off] at L;exact L
 have c:=al k5;clear R L k5;have g0:d.cell? ⟨w.heap.size+1+1,0,ZX⟩=ZW (Z7 Z9 (f:Nat)):=V2
 have g1:d.cell? ⟨w.heap.size+1+1,1,ZX⟩=ZW (Z7 Z9 (g:Nat)):=V2
 have g2:d.cell? ⟨w.heap.size+1+1,2,ZX⟩=ZW (Z7 Z9 (i:Nat)):=V2
 have g3:d.cell? ⟨w.heap.size+1+1,3,ZX⟩=ZW (Z7 Z8 (m:Nat)):=V2
 have g4:d.cell? ⟨w.heap.size+1+1,4,ZX⟩=ZW (Z7 Z9 (n:Nat)):=V2
 have g5:d.cell? ⟨w.heap.size+1+1,5,ZX⟩=ZW (Z7 Z9 (o:Nat)):=V2
 have r0:d.cell? ⟨w.heap.size+1,0,ZX⟩=ZW (Z7 Z9 0):=V1
 have r1:d.cell? ⟨w.heap.size+1,1,ZX⟩=ZW (Z7 Z9 0):=V1
 have r2:d.cell? ⟨w.heap.size+1,2,ZX⟩=ZW (Z7 Z9 0):=V1
 have r3:d.cell? ⟨w.heap.size+1,3,ZX⟩=ZW (Z7 Z8 0):=V1
 have r4:d.cell? ⟨w.heap.size+1,4,ZX⟩=ZW (Z7 Z9 0):=V1
 have r5:d.cell? ⟨w.heap.size+1,5,ZX⟩=ZW (Z7 Z9 0):=V1
 have q:∀ k,d.frozen? ⟨w.heap.size+1,k,ZX⟩=ZU:=λk=>by simp [World.frozen?,c.out.res]
 have f0:=q 0;have f1:=q 1;have f2:=q 2;have f3:=q 3;have f4:=q 4;have f5:=q 5;clear q k7 k8 k9 ka kb kc r t u y A B C D E F H0 H1 H2 H3 H4 H5;go_wp2;have hh:=ai (j:=5) (ai (j:=4) (ai (j:=3) (ai (j:=2) (ai (j:=1) (ai (j:=0) c.out.res (Z7 Z9 (f:Nat))) (Z7 Z9 (g:Nat))) (Z7 Z9 (i:Nat))) (Z7 Z8 (m:Nat))) (Z7 Z9 (n:Nat))) (Z7 Z9 (o:Nat));refine Uf (v:=.agg (av f g i m n o)) (VG results178 _ _ (w.heap.size+1) 110 (av f g i m n o) (0,0) _ rfl hh WG rfl ei) rfl ?_;have km:=c.out.below;refine ⟨?_,(((((km.setCell (p:=⟨w.heap.size+1,0,ZX⟩) eP _).setCell (p:=⟨w.heap.size+1,1,ZX⟩) eP _).setCell (p:=⟨w.heap.size+1,2,ZX⟩) eP _).setCell (p:=⟨w.heap.size+1,3,ZX⟩) eP _).setCell (p:=⟨w.heap.size+1,4,ZX⟩) eP _).setCell (p:=⟨w.heap.size+1,5,ZX⟩) eP _⟩;rw [<- hi,<- W,<- X,<- ke,<- Y,<- Z,X1]
def yX (a:ZM) (i:Nat) (v:ZS) (h:i<a.tmps.size):(a.put (ZW i) v).eval (.tmp i)=v:=by simp [Act.put,Act.eval,h]
def lE (a:ZM) (i j:Nat) (v:ZS) (h:i≠j):(a.put (ZW i) v).eval (.tmp j)=a.eval (.tmp j):=by
 simp [Act.put,Act.eval,Vx,h]
def ou (a:ZM) (d:Option Nat) (v:ZS):(a.put d v).tmps.size=a.tmps.size:=by
 cases d<;>simp [Act.put]
structure dE (lo hi:Nat) (a a':ZM):Prop where
 size:a'.tmps.size=a.tmps.size
 defers:a'.defers=a.defers
 slot:∀ s,s<lo\/hi<=s->a'.eval (.tmp s)=a.eval (.tmp s)
def dE.refl (lo hi:Nat) (a:ZM):dE lo hi a a:=⟨rfl,rfl,λ_ _=>rfl⟩
def dE.put {a a':ZM} (h:dE lo hi a a') {d:Option Nat} (v:ZS) (b:∀ i,d=ZW i->lo<=i/\i<hi):dE lo hi a (a'.put d v):=by
 cases d with
 | none=>exact h
 | some d=>
  obtain ⟨e,f⟩:=b d rfl;exact ⟨by rw [ou];exact h.size,h.defers,λs c=>by rw [lE _ _ _ _ eb];exact h.slot s c⟩
def Act.RL (a:ZM):Nat->List ZS->ZM
 | _,[]=>a
 | d,v::r=>Act.RL (a.put (ZW d) v) (d+1) r
def fu:∀ (b:List ZS) (a:ZM) (d:Nat),(Act.RL a d b).tmps.size=a.tmps.size/\(Act.RL a d b).defers=a.defers
 | [],_,_=>⟨rfl,rfl⟩
 | v::r,a,d=>by
  obtain ⟨c,e⟩:=fu r (a.put (ZW d) v) (d+1);exact ⟨c.trans (ou _ _ _),e⟩
def fv:∀ (b:List ZS) (a:ZM) (d s:Nat),d+b.length<=a.tmps.size->(Act.RL a d b).eval (.tmp s)=if d<=s/\s<d+b.length then b.getD (s-d) ZY else a.eval (.tmp s)
 | [],a,d,s,_=>by
  show a.eval (.tmp s)=if d<=s/\s<d+0 then _ else _;rw [if_neg eb]
 | v::r,a,d,s,h=>by
  simp only [Um] at h ⊢;show (Act.RL (a.put (ZW d) v) (d+1) r).eval (.tmp s)=_;rw [fv r _ _ _ (by rw [ou];omega)];by_cases e:s=d
  . subst e;rw [if_neg eb,if_pos eb,Wp,yX _ _ _ eb];rfl
  . rw [lE _ _ _ _ (λq=>e q.symm)];by_cases c:d+1<=s/\s<d+1+r.length
    . rw [if_pos c,if_pos eb,(eb:s-d=(s-(d+1))+1)];rfl
    . rw [if_neg c,if_neg eb]
theorem yY {a b:ZM} (c:a.tmps.size=b.tmps.size) (d:a.defers=b.defers) (f:∀ s,s<a.tmps.size->a.eval (.tmp s)=b.eval (.tmp s)):a=b:=by
 obtain ⟨k,h⟩:=a;obtain ⟨l,j⟩:=b;simp only at c d;subst d;congr 1;refine YL c λi e g=>?_;have:=f i e;simpa [Act.eval,e,g] using this
def dE.out {a a':ZM} (h:dE lo hi a a') (b:List ZS) (f:lo+b.length=hi) (g:hi<=a.tmps.size) (hv:∀ i,i<b.length->a'.eval (.tmp (lo+i))=b.getD i ZY):a'=Act.RL a lo b:=by
 obtain ⟨c,d⟩:=fu b a lo;refine yY (h.size.trans c.symm) (h.defers.trans d.symm) λs _=>?_;rw [fv b a lo s eb];by_cases e:lo<=s/\s<lo+b.length
 . rw [if_pos e];have:=hv (s-lo) eb;rwa [(eb:lo+(s-lo)=s)] at this
 . rw [if_neg e];exact h.slot s eb
def sV (ops:Array ZN) (i:Nat):a9:=match ops[i]? with
 | some o=>(o.after.toList.filter (λe=>Region.binds .any e)).map (λe=>e.on)
 | none=>[]
theorem pO:i∈Region.ready .any ops listed↔i<ops.size/\listed.getD i ZV=ZU/\∀ k∈sV ops i,listed.getD k ZU=ZV:=by
 unfold Region.ready sV;rw [Vq,Uq,YH];constructor
 . rintro ⟨b,c,a⟩;refine ⟨b,vE c,λk f=>?_⟩;rw [Vr b] at a f;simp only [Wv,YT] at a;rw [T1] at f;obtain ⟨e,d,rfl⟩:=f;obtain ⟨h,j⟩:=Vq.1 d;have:=YU.1 a e (vE h);simpa [j] using this
 . rintro ⟨b,c,a⟩;refine ⟨b,vE c,?_⟩;rw [Vr b] at a ⊢;simp only [Wv,YT];rw [YU];intro e d;by_cases g:Region.binds .any e=ZV
   . have:=a e.on (T1.2 ⟨e,Vq.2 ⟨vE d,g⟩,rfl⟩);simp [this]
   . simp [g]
def jX (listed:Array Bool):Nat:=(listed.toList.filter (λb=>!b)).length
theorem Dy (h:listed.getD i ZV=ZU):jX (listed.setIfInBounds i ZV)+1=jX listed:=by
 have hi:i<listed.size:=by
  by_cases c:i<listed.size
  . exact c
  . simp [Vx,c] at h
 unfold jX;rw [aba];have a:listed.toList[i]?=ZW ZU:=by
  simp [Vx,hi] at h;simp [hi,h]
 generalize listed.toList=l at a;clear h hi;induction l generalizing i with
 | nil=>simp at a
 | cons b l ih=>
  cases i with
  | zero=>
   simp at a;subst a;simp
  | succ i=>
   simp at a;have:=ih a;cases b<;>simp [UJ]<;>omega
def lF (h:jX listed=0) (i:Nat) (hi:i<listed.size):listed.getD i ZU=ZV:=by
 unfold jX at h;have a:=Wk.1 h;rw [Yu] at a;have:=a listed[i] ek;simpa [Vx,hi] using this
def wJ (a:α) (l:List α) (d:α):(a::l).getD 0 d=a:=rfl
def wK (a:α) (l:List α) (n:Nat) (d:α):(a::l).getD (n+1) d=l.getD n d:=rfl
def dy (d:Option Nat) (a:ZM):ZS:=match d with
 | some d=>a.eval (.tmp d)
 | none=>ZY
structure aL (ops:Array ZN) (lo hi:Nat) (sh:List (Op×Option Nat×a9)):Prop where
 at_:(YC ops.size).map (λi=>((ops[i]?.map λo=>(o.op,o.dst,o.guard)),sV ops i))=sh.map (λx=>(ZW (x.1,x.2.1,ZX),x.2.2))
 early:∀ i,i<sh.length->∀ k∈(sh.getD i (.move (.const ZY),ZX,[])).2.2,k<i
 slots:∀ i j d,i<sh.length->j<sh.length->(sh.getD i (.move (.const ZY),ZX,[])).2.1=ZW d->(lo<=d/\d<hi)/\((sh.getD j (.move (.const ZY),ZX,[])).2.1=ZW d->i=j)
def Rb (lo hi:Nat) (sh:List (Op×Option Nat×a9)):Bool:=(YC sh.length).all λi=>(sh.getD i (.move (.const ZY),ZX,[])).2.2.all (λk=>decide (k<i))&&match (sh.getD i (.move (.const ZY),ZX,[])).2.1 with
 | none=>ZV
 | some d=>decide (lo<=d)&&decide (d<hi)&&(YC sh.length).all λj=>(sh.getD j (.move (.const ZY),ZX,[])).2.1 != ZW d || i==j
def bj (c:(YC ops.size).map (λi=>((ops[i]?.map λo=>(o.op,o.dst,o.guard)),sV ops i))=sh.map (λx=>(ZW (x.1,x.2.1,ZX),x.2.2))) (a:Rb lo hi sh=ZV):aL ops lo hi sh:=by
 unfold Rb at a;rw [Xa] at a;refine ⟨c,λi b k h=>?_,λi j d b g f=>?_⟩
 . have:=a i (Uq.2 b);rw [YH,Xa] at this;exact of_decide_eq_true (this.1 k h)
 . have:=(YH.1 (a i (Uq.2 b))).2;rw [f] at this;simp only [YH,decide_eq_true_eq,Xa] at this;refine ⟨this.1,λe=>?_⟩;have q:=this.2 j (Uq.2 g);rw [e] at q;simpa using q
theorem aL.size (h:aL ops lo hi sh):ops.size=sh.length:=by
 have:=congrArg List.length h.at_;simpa using this
theorem aL.get (h:aL ops lo hi sh) (i:Nat) (hi:i<sh.length) :
 ∃ o,ops[i]?=ZW o/\o.op=(sh.getD i (.move (.const ZY),ZX,[])).1/\o.dst=(sh.getD i (.move (.const ZY),ZX,[])).2.1/\o.guard=ZX/\sV ops i=(sh.getD i (.move (.const ZY),ZX,[])).2.2:=by
 have j:=h.size;have:=congrArg (λl=>l[i]?) h.at_;have a:i<ops.size:=eb
 simp only [Ul,Ve a,Wv,T2 hi,UC,WH,VU] at this;obtain ⟨⟨o,b,c,d,f⟩,g⟩:=this;have e:sh.getD i (.move (.const ZY),ZX,[])=sh[i]:=by simp [hi]
 rw [e];exact ⟨o,b,c,d,f,g⟩
def du (D:Nat->Bool) (i:Nat):Nat->Bool:=λj=>if j=i then ZV else D j
def dm {D:Nat->Bool} (h:j≠i):du D i j=D j:=if_neg h
abbrev bT (sh:List (Op×Option Nat×a9)) (i:Nat):Op×Option Nat×a9:=sh.getD i (.move (.const ZY),ZX,[])
def JA (O:ZN->ZM->ZT->(ZM->ZT->Prop)->Prop) (lo hi:Nat) (sh:List (Op×Option Nat×a9)) (a0:ZM) (V:Nat->ZS->ZT->Prop) (B:(Nat->Bool)->ZT->Prop) (i:Nat):Prop:=
 ∀ (o:ZN) (a:ZM) (w:ZT) (D:Nat->Bool),o.guard=ZX->o.op=(bT sh i).1->o.dst=(bT sh i).2.1->dE lo hi a0 a->(∀ s,(∀ i,i<sh.length->(bT sh i).2.1≠ZW s)->a.eval (.tmp s)=a0.eval (.tmp s))->D i=ZU->(∀ j,D j=ZV->j<sh.length/\∀ k∈(bT sh j).2.2,D k=ZV) ->
  (∀ k∈(bT sh i).2.2,D k=ZV)->B D w->(∀ j,D j=ZV->V j (dy (bT sh j).2.1 a) w) ->
  O o a w λa' w'=>∃ v,a'=a.put o.dst v/\(o.dst=ZX->v=ZY)/\B (du D i) w'/\V i v w'/\∀ j u,D j=ZV->V j u w->V j u w'
theorem Gp {Q:ZM->ZT->Prop} (O:ZN->ZM->ZT->(ZM->ZT->Prop)->Prop) (W:Nat->Array Bool->ZM->ZT->Prop) (Z:∀ l a w,Region.ready .any ops l=[]->Q a w->W 0 l a w)
 (hS:∀ f l a w,Region.ready .any ops l≠[]->(∀ i∈Region.ready .any ops l,∃ o,ops[i]?=ZW o/\o.guard=ZX/\O o a w (W f (l.setIfInBounds i ZV)))->W (f+1) l a w) (hO:∀ o a w (K M:ZM->ZT->Prop),(∀ a w,K a w->M a w)->O o a w K->O o a w M)
 (x:aL ops lo hi sh) (p:ZM) (k0:hi<=p.tmps.size) (V:Nat->ZS->ZT->Prop) (B:(Nat->Bool)->ZT->Prop) (hf:∀ i,i<sh.length->JA O lo hi sh p V B i)
 (hn:∀ (a:ZM) (w:ZT),dE lo hi p a->(∀ s,(∀ i,i<sh.length->(bT sh i).2.1≠ZW s)->a.eval (.tmp s)=p.eval (.tmp s))->(∃ D,(∀ i,i<sh.length->D i=ZV)/\B D w)->(∀ i,i<sh.length->V i (dy (bT sh i).2.1 a) w)->Q a w) :
 ∀ (f:Nat) (listed:Array Bool) (a:ZM) (w:ZT),listed.size=sh.length->jX listed=f->dE lo hi p a->(∀ s,(∀ i,i<sh.length->(bT sh i).2.1≠ZW s)->a.eval (.tmp s)=p.eval (.tmp s))->(∀ j,listed.getD j ZU=ZV->j<sh.length/\∀ k∈(bT sh j).2.2,listed.getD k ZU=ZV)->B (λj=>listed.getD j ZU) w ->
  (∀ i,listed.getD i ZU=ZV->V i (dy (bT sh i).2.1 a) w)->W f listed a w:=by
 have k7:=x.size;have h7:∀ listed:Array Bool,listed.size=sh.length->jX listed≠0->Region.ready .any ops listed≠[]:=by
  intro listed J y hr;have hh:∀ i,i<sh.length->listed.getD i ZU=ZV:=by
   intro i;induction i using Nat.strongRecOn with
   | ind i ih=>
    intro c;by_cases g:listed.getD i ZU=ZV
    . exact g
    . exfalso;have z:i∈Region.ready .any ops listed:=pO.2 ⟨eb,by simpa [Vx,(eb:i<listed.size)] using g,λk n=>by
       obtain ⟨o,_,_,_,_,e⟩:=x.get i c;rw [e] at n;have:=x.early i c k n;exact ih k this eb⟩
      rw [hr] at z;cases z
  apply y;unfold jX;rw [Wk,Yu];intro b hb;obtain ⟨i,c,rfl⟩:=Va hb;have k5:i<listed.size:=vE c
  have:=hh i eb;simp [Vx,k5] at this;simp [this]
 intro f;induction f with
 | zero=>
  intro listed a w J y n F H L G;refine Z _ _ _ ?_ (hn a w n F ⟨_,λi c=>lF y i eb,L⟩ λi c=>G i (lF y i eb));rw [aby];intro i z;obtain ⟨h1,r,_⟩:=pO.1 z;have:=lF y i eb;simp [Vx,(eb:i<listed.size)] at this r;rw [this] at r;cases r
 | succ f ih=>
  intro listed a w J y n F H L G;refine hS _ _ _ _ (h7 listed J eb) λi z=>?_;obtain ⟨h1,r,R⟩:=pO.1 z;have c:i<sh.length:=eb
  have T:i<listed.size:=eb
  obtain ⟨o,X,Y,A,N,P⟩:=x.get i c;have hx:listed.getD i ZU=ZU:=by simpa [Vx,T] using r
  have E:∀ j,(listed.setIfInBounds i ZV).getD j ZU=du (λj=>listed.getD j ZU) i j:=by
   intro j;unfold du;by_cases m:j=i
   . subst m;rw [if_pos rfl];simp [Vx,T]
   . rw [if_neg m,Vx,Yy,if_neg (λq:i=j=>m q.symm),<- Vx]
  refine ⟨o,X,N,hO _ _ _ _ _ (λa' w' h=>?_) (hf i c o a w (λj=>listed.getD j ZU) N Y A n F hx H (λk t=>?_) L G)⟩
  . obtain ⟨v,rfl,hu,hq,hy,k6⟩:=h;have S:∀ d,o.dst=ZW d->lo<=d/\d<hi:=λd g=>by rw [A] at g;exact (x.slots i i d c c g).1
    refine ih _ _ _ (vE J) (eT (Dy r)) (n.put v S) (λs U=>?_) (λj I=>?_) ?_ λj u=>?_
    . refine Eq.trans ?_ (F s U);cases g:o.dst with
      | none=>rfl
      | some d=>exact lE _ _ _ _ (λe=>U i c (by rw [show (bT sh i).2.1=o.dst from A.symm,g,e]))
    . rw [E] at I;unfold du at I;by_cases m:j=i
      . subst m;refine ⟨c,λk t=>?_⟩;rw [E];unfold du;by_cases C:k=j
        . rw [if_pos C]
        . rw [if_neg C];rw [<- P] at t;exact R k t
      . rw [if_neg m] at I;obtain ⟨q1,q2⟩:=H j I;refine ⟨q1,λk t=>?_⟩;rw [E];unfold du;by_cases C:k=i
        . rw [if_pos C]
        . rw [if_neg C];exact q2 k t
    . have e:(λj=>(listed.setIfInBounds i ZV).getD j ZU)=du (λj=>listed.getD j ZU) i:=funext E;rw [e];exact hq
    . rw [E] at u;unfold du at u;by_cases m:j=i
      . subst m;have:dy (bT sh j).2.1 (a.put o.dst v)=v:=by
         show dy (sh.getD j (.move (.const ZY),ZX,[])).2.1 (a.put o.dst v)=v;rw [<- A];cases g:o.dst with
         | none=>exact (hu g).symm
         | some d=>exact yX _ _ _ (TY (S d g).2 (by rw [n.size];exact k0))
        rw [this];exact hy
      . rw [if_neg m] at u;have:dy (bT sh j).2.1 (a.put o.dst v)=dy (bT sh j).2.1 a:=by
         cases hz:(bT sh j).2.1 with
         | none=>rfl
         | some d'=>
          cases g:o.dst with
          | none=>rfl
          | some d=>
           refine lE _ _ _ _ λq=>m ?_;subst q;rw [A] at g;exact (x.slots j i d (H j u).1 c hz).2 g
        rw [this];exact k6 j _ u (G j u)
  . exact R k (by rw [P];exact t)
theorem wL {Q:ZM->ZT->Prop} (O:ZN->ZM->ZT->(ZM->ZT->Prop)->Prop) (W:Nat->Array Bool->ZM->ZT->Prop) (m:∀ l a w,Region.ready .any ops l=[]->Q a w->W 0 l a w)
 (v:∀ f l a w,Region.ready .any ops l≠[]->(∀ i∈Region.ready .any ops l,∃ o,ops[i]?=ZW o/\o.guard=ZX/\O o a w (W f (l.setIfInBounds i ZV)))->W (f+1) l a w) (u:∀ o a w (K d:ZM->ZT->Prop),(∀ a w,K a w->d a w)->O o a w K->O o a w d)
 (g:aL ops lo hi sh) (b:ZM) (w0:ZT) (q:hi<=b.tmps.size) (V:Nat->ZS->ZT->Prop) (B:(Nat->Bool)->ZT->Prop) (t:B (λ_=>ZU) w0) (n:∀ i,i<sh.length->JA O lo hi sh b V B i)
 (p:∀ (a:ZM) (w:ZT),dE lo hi b a->(∀ s,(∀ i,i<sh.length->(bT sh i).2.1≠ZW s)->a.eval (.tmp s)=b.eval (.tmp s))->(∃ D,(∀ i,i<sh.length->D i=ZV)/\B D w)->(∀ i,i<sh.length->V i (dy (bT sh i).2.1 a) w)->Q a w):W ops.size (YF ops.size ZU) b w0:=by
 have r:=g.size;have c:∀ i,(YF ops.size ZU).getD i ZU=ZU:=λi=>by
  simp only [Vx,Array.getElem?_replicate];split<;>rfl
 refine Gp O W m v u g b q V B n p _ _ b w0 (by simp [r]) ?_ (dE.refl _ _ _) (λ_ _=>rfl) (λj k=>?_) ?_ λi h=>?_
 . unfold jX;simp
 . rw [c] at k;cases k
 . have e:(λj=>(YF ops.size ZU).getD j ZU)=λ_=>ZU:=funext c;rw [e];exact t
 . rw [c] at h;cases h
def M8 (P:Program) (Q:ZO->ZM->ZT->Prop):=JA λo a w K=>o.wp P a w K Q
def lG {Q:ZO->ZM->ZT->Prop} (u:P.follows .mixedOrders=ZV) (r:aL ops lo hi sh) (b:ZM) (w0:ZT) (p:hi<=b.tmps.size)
 (V:Nat->ZS->ZT->Prop) (B:(Nat->Bool)->ZT->Prop) (t:B (λ_=>ZU) w0.drew) (g:∀ i,i<sh.length->M8 P Q lo hi sh b V B i)
 (n:∀ (a:ZM) (w:ZT),dE lo hi b a->(∀ s,(∀ i,i<sh.length->(bT sh i).2.1≠ZW s)->a.eval (.tmp s)=b.eval (.tmp s))->(∃ D,(∀ i,i<sh.length->D i=ZV)/\B D w)->(∀ i,i<sh.length->V i (dy (bT sh i).2.1 a) w)->Q .normal a w):(Code.region m ops ZV).wp P Q b w0:=
 wp_region_any u (wL (λo a w K=>o.wp P a w K Q) (wpAny P .any ops Q) (λ_ _ _ h q=>⟨h,q⟩) (λf l a w j k=>⟨λe=>absurd e j,λi hi=>by
  obtain ⟨o,c,d,h⟩:=k i hi;unfold wpOp;rw [c];show if Region.wanted o (yielded ops a.tmps)=ZV then _ else _;rw [if_pos (by simp [Region.wanted,d])];exact .inl h⟩) (λo a w K v h=>Oper.wp_mono h) r b _ p V B t g n)
def JB (P:Program) (Q:ZO->ZM->ZT->Prop) (lo hi:Nat) (sh:List (Op×Option Nat×a9)) (a0:ZM) (V:Nat->ZS->ZT->Prop) (B:(Nat->Bool)->ZT->Prop) (i:Nat):Prop:=
 ∀ (o:ZN) (a:ZM) (w:ZT) (D:Nat->Bool),o.guard=ZX->o.op=(bT sh i).1->o.dst=(bT sh i).2.1->dE lo hi a0 a->D i=ZU->(∀ j,D j=ZV->j<sh.length/\∀ k∈(bT sh j).2.2,D k=ZV) ->
  (∀ k∈(bT sh i).2.2,D k=ZV)->B D w->(∀ j,D j=ZV->V j (dy (bT sh j).2.1 a) w) ->
  o.wp P a w (λa' w'=>∃ v,a'=a.put o.dst v/\(o.dst=ZX->v=ZY)/\B (du D i) w'/\V i v w'/\∀ j u,D j=ZV->V j u w->V j u w') Q
def cQ {Q:ZO->ZM->ZT->Prop} (n:P.follows .mixedOrders=ZV) (k:aL ops lo hi sh) (b:ZM) (w0:ZT) (j:hi<=b.tmps.size)
 (V:Nat->ZS->ZT->Prop) (B:(Nat->Bool)->ZT->Prop) (l:B (λ_=>ZU) w0.drew) (c:∀ i,i<sh.length->JB P Q lo hi sh b V B i)
 (h:∀ (a:ZM) (w:ZT),dE lo hi b a->(∀ s,(∀ i,i<sh.length->(bT sh i).2.1≠ZW s)->a.eval (.tmp s)=b.eval (.tmp s))->(∃ D,(∀ i,i<sh.length->D i=ZV)/\B D w)->(∀ i,i<sh.length->V i (dy (bT sh i).2.1 a) w)->Q .normal a w):(Code.region m ops ZV).wp P Q b w0:=
 lG n k b w0 j V B l (λi hi o a w D d e f g _=>c i hi o a w D d e f g) h
def fw {Q:ZO->ZM->ZT->Prop} (l:P.follows .mixedOrders=ZV) (j:aL ops lo hi sh) (b:ZM) (w0:ZT) (h:hi<=b.tmps.size)
 (V:Nat->ZS->ZT->Prop) (B:(Nat->Bool)->ZT->Prop) (k:B (λ_=>ZU) w0.drew) (c:∀ i,i<sh.length->JB P Q lo hi sh b V B i)
 (g:∀ (a:ZM) (w:ZT),dE lo hi b a->(∃ D,(∀ i,i<sh.length->D i=ZV)/\B D w)->(∀ i,i<sh.length->V i (dy (bT sh i).2.1 a) w)->Q .normal a w):(Code.region m ops ZV).wp P Q b w0:=
 cQ l j b w0 h V B k c λa w d _ e f=>g a w d e f
def ag {Q:ZO->ZM->ZT->Prop} {a:ZM} {B:ZT->Prop} {S:ZT->Prop} (e:(execOp a.eval o).run P w=.ok (.value v) w') {d:Nat} (c:o.dst=ZW d) (h:B w'/\Vi v w'/\S w') :
 o.wp P a w (λb w'=>∃ v,b=a.put o.dst v/\(o.dst=ZX->v=ZY)/\B w'/\Vi v w'/\S w') Q:=by
 unfold Oper.wp;rw [e];exact ⟨v,rfl,λh=>(by rw [c] at h;cases h),h⟩
def iY {Q:ZO->ZM->ZT->Prop} {a:ZM} {B:ZT->Prop} {S:ZT->Prop} (c:(execOp a.eval o).run P w=.ok .skip w') (h:B w'/\Vi ZY w'/\S w') :
 o.wp P a w (λb w'=>∃ v,b=a.put o.dst v/\(o.dst=ZX->v=ZY)/\B w'/\Vi v w'/\S w') Q:=by
 unfold Oper.wp;rw [c];exact ⟨ZY,rfl,λ_=>rfl,h⟩
def mG {Q:ZO->ZM->ZT->Prop} {a:ZM} {B:ZT->Prop} {S:ZT->Prop} (k:(execOp a.eval o).run P w=.ok (.enter f args) w1) {d:Nat} (i:o.dst=ZW d) (g:ZQ P f args w1 Rr)
 (h:∀ e w',Rr e w'->∃ v,e=Z3 v/\B w'/\Vi v w'/\S w'):o.wp P a w (λb w'=>∃ v,b=a.put o.dst v/\(o.dst=ZX->v=ZY)/\B w'/\Vi v w'/\S w') Q:=by
 unfold Oper.wp;rw [k];refine g.mono λe w' j=>?_;obtain ⟨v,rfl,c⟩:=h e w' j;exact ⟨v,rfl,λh=>(by rw [i] at h;cases h),c⟩
def ah {a:ZM} {x:ZK} (ho:o.op=.move x) (b:a.eval x=v) (w:ZT):(execOp a.eval o).run P w=.ok (.value v) w:=by simp [execOp,ho,b]
theorem dR {a:ZM} {x:ZK} {ad:Addr} (ho:o.op=.nilCheck x) (b:a.eval x=Z6 (ZW ad)) (w:ZT):(execOp a.eval o).run P w=.ok (.value (Z6 (ZW ad))) w:=by simp only [execOp,ho,b];go_simp
def kq {D:Nat->Bool} {V:Nat->ZS->Prop}:∀ j u,D j=ZV->V j u->V j u:=λ_ _ _ q=>q
def lH (a:Array ZL) (b:ZL) (x y:Int) (w:ZT):(Builtin.max_ a b #[Z7 Z9 x,Z7 Z9 y]).run P w=.ok (Z7 Z9 (if y>x then y else x)) w:=by
 simp [Builtin.max_,Builtin.max2]
def gy (a:Array ZL) (b:ZL) (x y:Int) (w:ZT):(Builtin.min_ a b #[Z7 Z9 x,Z7 Z9 y]).run P w=.ok (Z7 Z9 (if y<x then y else x)) w:=by
 simp [Builtin.min_,Builtin.min2]
def sW {a:ZM} {s t:ZK} {ats:Array ZL} (ho:o.op=.call { callee:=.builtin .max,args:=#[s,t],argTypes:=ats }) {x y:Int} (hx:a.eval s=Z7 Z9 x) (hy:a.eval t=Z7 Z9 y) (w:ZT) :
 (execOp a.eval o).run P w=.ok (.value (Z7 Z9 (if y>x then y else x))) w:=by
 unfold execOp;simp only [ho,resolve,invoke,builtin,Uo,UW,Uz,Vy,UD,U5,hx,hy,lH]
def nZ:Code->Nat->Option (Array ZN)
 | .region i ops _,n=>if i=n then ZW ops else ZX
 | .seq a b,n=>(nZ a n).orElse λ_=>nZ b n
 | .cond _ a b,n=>(nZ a n).orElse λ_=>nZ b n
 | .block _ a,n=>nZ a n
 | .loop a,n=>nZ a n
 | .scope a,n=>nZ a n
 | .rangeFunc _ _ a b,n=>(nZ a n).orElse λ_=>nZ b n
 | _,_=>ZX
theorem sX {A:aA} {F:aR} (h:aq w p A F) (s:A.fit) (d b:Nat) (c:d<A.n) (r:b<A.nb) (u:A.wait≠0) (t:A.lost d=ZU) :
 ZQ ZJ 28 #[Z6 (ZW ⟨p,0,ZX⟩),Z7 Z9 d,Z7 Z9 b] w λe w'=>e=Z3 (ZZ #[Z6 (ZW ⟨F.g,d*4,ZX⟩),.nilIface])/\w'=w:=by
 obtain ⟨f,c1,_,_⟩:=h.R4;obtain ⟨i,d1,j,k⟩:=h.Sd d c;have l:¬ (d:Int)<0:=eb
 have m:¬ (A.n:Int)<=(d:Int):=eb
 have a:(d:Int)<(A.n:Int):=eb
 have o:¬ (b:Int)<0:=eb
 have q:¬ (A.nb:Int)<=(b:Int):=eb
 go_enter func28,ntmps28;go_wp2;go_ret2;exact ⟨rfl,rfl⟩
theorem JC {A:aA} {F:aR} (h:aq w p A F) (m:A.fit) (d b:Nat) (f:d<A.n) (l:b<A.nb) (B:A.wait≠0) (z:A.lost d=ZU) (I:A.bad d b=ZU) :
 ZQ ZJ 131 #[Z6 (ZW ⟨p,0,ZX⟩),Z7 Z9 d,Z7 Z9 b] w λe w'=>e=Z3 (ZZ #[.agg (aw (A.blk d b)),.nilIface]) /\
  aq w' p (A.RS d (wrap64 (A.reads d+1))) F/\aa (F.has p A.n) w w':=by
 have L:=zeroBlk;have i:=m.len d b;have a:=h.alloc (Z4 (aw zb) 40);have r:=aS.new w zb;have K:=h.g_lt;have o:aa (F.has p A.n) w (w.alloc (Z4 (aw zb) 40)):=aa.alloc w _;obtain ⟨w1,y⟩:=nM (w.alloc (Z4 (aw zb) 40));rw [y] at a r o;go_enter func131,ntmps131;go_wp2_with fail;refine (sX a m d b f l B z).mono ?_;rintro e w' ⟨rfl,rfl⟩;have c:=a.RS d (wrap64 (A.reads d+1));obtain ⟨D,d1,E,G⟩:=a.Sd d f;have J:=a.SB (d*4+3);obtain ⟨w2,j⟩:=nM (w'.setCell ⟨F.g,d*4+3,ZX⟩ (Z7 Z9 (wrap64 (A.reads d+1))));rw [j] at c;obtain ⟨M,N,O,P⟩:=c.Sd d f;have Q:w2.cell? ⟨F.bd d,b,ZX⟩=ZW (Z1 (A.bad d b)):=c.badC d b f l;have C:w2.rangeAt (F.bb d) (b*64) (aJ (A.blk d b)):=c.range (m.RS _ _) d b f l;have s:aS w2 w.heap.size zb:=r.keep (by rw [<- j];exact T7 _ _ _ _ (by show w.heap.size≠F.g;omega));have q:aa (F.has p A.n) w w2:=o.trans (by rw [<- j];exact aa.setCell _ _ _ (.inr (.inl rfl)));have H:¬ (b:Int)<0:=eb
 go_wp2_with (first|(refine Dr rfl (Z0 46) rfl (F.bb d) (b*64) (A.blk d b) rfl C i ?_)|(refine eG rfl (Z0 6) (Z0 47) rfl w.heap.size (A.blk d b) zb rfl rfl s bw i ?_));have u:=s.setRow (A.blk d b);have x:=iW u i;refine Uf (v:=ZZ #[.agg (aw (A.blk d b)),.nilIface]) (dK results131 _ _ _ _ _ rfl rfl x) rfl ?_;refine ⟨rfl,c.keep λk t=>?_,q.later (T:=λk=>k=w.heap.size) (aa.setRow _ _ _ rfl) λk t e=>absurd e eb⟩
 . have:=h.RQ (k:=k) t;exact (aF w2 w.heap.size (aw (A.blk d b))).block k (TY this q.size) (λe=>Zf)
noncomputable def RWr:Array ZN:=((Tryz.f9.body.bind (nZ · 9))).getD #[]
def aay:List (Op×Option Nat×a9):=[(Op.move (Z0 9),ZW 49,[]),
 (Op.nilCheck (Z0 49),ZW 50,[0]),
 (Op.fieldAddr 91 (Z0 50) 1,ZW 51,[1]),
 (Op.load 88 (Z0 51),ZW 52,[2]),
 (Op.move (Z0 2),ZW 53,[]),
 (Op.move (Z0 9),ZW 54,[]),
 (Op.nilCheck (Z0 54),ZW 55,[5]),
 (Op.fieldAddr 91 (Z0 55) 2,ZW 56,[6]),
 (Op.load 89 (Z0 56),ZW 57,[7]),
 (Op.move (Z0 2),ZW 58,[]),
 (Op.load 40 (Z0 7),ZW 59,[]),
 (Op.indexAddr 88 (Z0 52) (Z0 53),ZW 60,[3,4,0,1,2,3,4,8,10]),
 (Op.store 40 (Z0 60) (Z0 59),ZX,[11,10,0,1,2,3,4,8,10]),
 (Op.indexAddr 89 (Z0 57) (Z0 58),ZW 61,[8,9,0,1,2,3,4,5,6,7,8,9,10,11,12]),
 (Op.store 4 (Z0 61) (Operand.const (Value.bool ZU)),ZX,[13,12,0,1,2,3,4,5,6,7,8,9,10,11,12])]
def Gq:aL RWr 49 62 aay:=bj ei ei
def aaz (F:aR) (nb d b:Nat) (l:a9):List ZS:=[Z6 (ZW ⟨F.g,d*4,ZX⟩),Z6 (ZW ⟨F.g,d*4,ZX⟩),Z6 (ZW ⟨F.g,d*4+1,ZX⟩),Z5 (ZW ⟨F.bb d,0,ZX⟩) nb nb,Z7 Z9 b,
 Z6 (ZW ⟨F.g,d*4,ZX⟩),Z6 (ZW ⟨F.g,d*4,ZX⟩),Z6 (ZW ⟨F.g,d*4+2,ZX⟩),Z5 (ZW ⟨F.bd d,0,ZX⟩) nb nb,Z7 Z9 b,.agg (aw l),Z6 (ZW ⟨F.bb d,b*64,ZX⟩),ZY,Z6 (ZW ⟨F.bd d,b,ZX⟩),ZY]
def M9 (F:aR) (nb d b:Nat) (l:a9):List ZS:=[Z6 (ZW ⟨F.g,d*4,ZX⟩),Z6 (ZW ⟨F.g,d*4,ZX⟩),Z6 (ZW ⟨F.g,d*4+1,ZX⟩),Z5 (ZW ⟨F.bb d,0,ZX⟩) nb nb,Z7 Z9 b,Z6 (ZW ⟨F.g,d*4,ZX⟩),Z6 (ZW ⟨F.g,d*4,ZX⟩),Z6 (ZW ⟨F.g,d*4+2,ZX⟩),Z5 (ZW ⟨F.bd d,0,ZX⟩) nb nb,Z7 Z9 b,.agg (aw l),Z6 (ZW ⟨F.bb d,b*64,ZX⟩),Z6 (ZW ⟨F.bd d,b,ZX⟩)]
def jo (A:aA) (d b:Nat) (l:a9) (D:Nat->Bool):aA:=if D 14=ZV then (A.RX d b l).RU d b ZU else if D 12=ZV then A.RX d b l else A
def JD (A:aA) (d b:Nat) (l:a9) (D:Nat->Bool) (i:Nat) (a:i≠12) (c:i≠14):jo A d b l (du D i)=jo A d b l D:=by
 unfold jo du;rw [if_neg (λe:14=i=>c e.symm),if_neg (λe:12=i=>a e.symm)]
theorem yZ (A:aA) (d b:Nat) (l:a9) (D:Nat->Bool):(jo A d b l D).n=A.n/\(jo A d b l D).nb=A.nb:=by
 unfold jo;split
 . exact ⟨rfl,rfl⟩
 . split<;>exact ⟨rfl,rfl⟩
theorem zd {Q:ZO->ZM->ZT->Prop} {a:ZM} {A:aA} {F:aR} {d box:Nat} (W:RWr=ops) (h:aq w p A F) (Z:A.fit) (z:d<A.n) (K:b<A.nb) (G:l.length=64)
 (V:aS w box l) (L:¬ F.has p A.n box) (hh:a.tmps.size=62) (I:a.eval (Z0 9)=Z6 (ZW ⟨F.g,d*4,ZX⟩)) (H:a.eval (Z0 2)=Z7 Z9 b) (M:a.eval (Z0 7)=Z6 (ZW ⟨box,0,ZX⟩))
 (U:∀ w',aq w' p ((A.RX d b l).RU d b ZU) F->aa (F.has p A.n) w w' ->
  Q .normal (Act.RL a 49 (M9 F A.nb d b l)) w') :
 (Code.region 9 ops ZV).wp ZJ Q a w:=by
 subst W;have X:(b:Int)<(A.nb:Int):=eb
 refine fw ei Gq a w eb (λi v _=>v=(aaz F A.nb d b l).getD i ZY) (λD w'=>aq w' p (jo A d b l D) F/\aS w' box l/\aa (F.has p A.n) w w') ⟨(h.keep λ_ _=>rfl:aq w.drew p A F),V,aa.drew w⟩ ?_ ?_
 . intro i hi;have y:∀ (i:Nat),i≠12->i≠14->∀ (D:Nat->Bool) (w':ZT),(aq w' p (jo A d b l D) F/\aS w' box l/\aa (F.has p A.n) w w')->(aq w' p (jo A d b l (du D i)) F/\aS w' box l/\aa (F.has p A.n) w w'):=λi N O D w' q=>by rw [JD A d b l D i N O];exact q
   match i,hi with
   | 0,_=>exact λo k w' D x ho r s t u m f j=>ag (ah ho ((s.slot 9 eb).trans I) w') r ⟨y 0 ec ec D w' f,rfl,kq⟩
   | 1,_=>
    intro o k w' D x ho r s t u m f j;have v0:k.eval (Z0 49)=Z6 (ZW ⟨F.g,d*4,ZX⟩):=j 0 (m 0 ec);exact ag (v:=Z6 (ZW ⟨F.g,d*4,ZX⟩)) um r ⟨y 1 ec ec D w' f,rfl,kq⟩
   | 2,_=>
    intro o k w' D x ho r s t u m f j;have v0:k.eval (Z0 50)=Z6 (ZW ⟨F.g,d*4,ZX⟩):=j 1 (m 1 ec);exact ag (v:=Z6 (ZW ⟨F.g,d*4+1,ZX⟩)) um r ⟨y 2 ec ec D w' f,rfl,kq⟩
   | 3,_=>
    intro o k w' D x ho r s t u m f j;have v0:k.eval (Z0 51)=Z6 (ZW ⟨F.g,d*4+1,ZX⟩):=j 2 (m 2 ec);have c:=(f.1.Sd d (by rw [(yZ A d b l D).1];exact z)).2.1;rw [(yZ A d b l D).2] at c;exact ag (v:=Z5 (ZW ⟨F.bb d,0,ZX⟩) A.nb A.nb) um r ⟨y 3 ec ec D w' f,rfl,kq⟩
   | 4,_=>exact λo k w' D x ho r s t u m f j=>ag (ah ho ((s.slot 2 eb).trans H) w') r ⟨y 4 ec ec D w' f,rfl,kq⟩
   | 5,_=>exact λo k w' D x ho r s t u m f j=>ag (ah ho ((s.slot 9 eb).trans I) w') r ⟨y 5 ec ec D w' f,rfl,kq⟩
   | 6,_=>
    intro o k w' D x ho r s t u m f j;have v0:k.eval (Z0 54)=Z6 (ZW ⟨F.g,d*4,ZX⟩):=j 5 (m 5 ec);exact ag (v:=Z6 (ZW ⟨F.g,d*4,ZX⟩)) um r ⟨y 6 ec ec D w' f,rfl,kq⟩
   | 7,_=>
    intro o k w' D x ho r s t u m f j;have v0:k.eval (Z0 55)=Z6 (ZW ⟨F.g,d*4,ZX⟩):=j 6 (m 6 ec);exact ag (v:=Z6 (ZW ⟨F.g,d*4+2,ZX⟩)) um r ⟨y 7 ec ec D w' f,rfl,kq⟩
   | 8,_=>
    intro o k w' D x ho r s t u m f j;have v0:k.eval (Z0 56)=Z6 (ZW ⟨F.g,d*4+2,ZX⟩):=j 7 (m 7 ec);have c:=(f.1.Sd d (by rw [(yZ A d b l D).1];exact z)).2.2.1;rw [(yZ A d b l D).2] at c;exact ag (v:=Z5 (ZW ⟨F.bd d,0,ZX⟩) A.nb A.nb) um r ⟨y 8 ec ec D w' f,rfl,kq⟩
   | 9,_=>exact λo k w' D x ho r s t u m f j=>ag (ah ho ((s.slot 2 eb).trans H) w') r ⟨y 9 ec ec D w' f,rfl,kq⟩
   | 10,_=>
    intro o k w' D x ho r s t u m f j;have v0:k.eval (Z0 7)=Z6 (ZW ⟨box,0,ZX⟩):=(s.slot 7 eb).trans M;exact ag (v:=.agg (aw l)) (by (conv at ho=>rhs;whnf);simp [execOp,ho,v0,jV f.2.1 G]) r ⟨y 10 ec ec D w' f,rfl,kq⟩
   | 11,_=>
    intro o k w' D x ho r s t u m f j;have v0:k.eval (Z0 52)=Z5 (ZW ⟨F.bb d,0,ZX⟩) A.nb A.nb:=j 3 (m 3 ec);have E:k.eval (Z0 53)=Z7 Z9 b:=j 4 (m 4 ec);exact ag (v:=Z6 (ZW ⟨F.bb d,b*64,ZX⟩)) (by (conv at ho=>rhs;whnf);simp only [execOp,ho,v0,E];go_simp) r ⟨y 11 ec ec D w' f,rfl,kq⟩
   | 12,_=>
    intro o k w' D x ho r s t u m f j;have v0:k.eval (Z0 60)=Z6 (ZW ⟨F.bb d,b*64,ZX⟩):=j 11 (m 11 ec);have E:k.eval (Z0 59)=.agg (aw l):=j 10 (m 10 ec);have J:D 14=ZU:=by
     cases q:D 14 with
     | false=>rfl
     | true=>have:=(u 14 q).2 12 ec;rw [t] at this;cases this
    have B:jo A d b l D=A:=(by unfold jo;rw [if_neg (by rw [J];decide),if_neg abF]);have C:jo A d b l (du D 12)=A.RX d b l:=(by unfold jo du;rw [if_neg (by rw [if_neg ec,J];decide),if_pos (by rw [if_pos rfl])]);rw [B] at f;refine iY (w':=w'.setCells (F.bb d) (b*64) (aJ l)) ?_ ⟨?_,rfl,kq⟩
    . have:=run_storeAt_mid (P:=ZJ) w' (F.bb d) (b*64) 40 (aw l) (by rw [iw,G];exact f.1.there d b z K) (eX G) (AI l);rw [wF] at this;(conv at ho=>rhs;whnf);simp [execOp,ho,v0,E,this]
    . show aq _ p (jo A d b l (du D 12)) F/\_/\_;rw [C];refine ⟨f.1.RX d b z l G,f.2.1.keep (aU _ _ _ _ _ (λe=>L (.inr (.inr ⟨d,z,.inl e⟩)))),f.2.2.trans (aa.setCells _ _ _ _ (.inr (.inr ⟨d,z,.inl rfl⟩)))⟩
   | 13,_=>
    intro o k w' D x ho r s t u m f j;have v0:k.eval (Z0 57)=Z5 (ZW ⟨F.bd d,0,ZX⟩) A.nb A.nb:=j 8 (m 8 ec);have E:k.eval (Z0 58)=Z7 Z9 b:=j 9 (m 9 ec);exact ag (v:=Z6 (ZW ⟨F.bd d,b,ZX⟩)) (by (conv at ho=>rhs;whnf);simp only [execOp,ho,v0,E];go_simp) r ⟨y 13 ec ec D w' f,rfl,kq⟩
   | 14,_=>
    intro o k w' D x ho r s t u m f j;have v0:k.eval (Z0 61)=Z6 (ZW ⟨F.bd d,b,ZX⟩):=j 13 (m 13 ec);have R:D 12=ZV:=m 12 ec;have B:jo A d b l D=A.RX d b l:=(by unfold jo;rw [if_neg abF,if_pos R]);have C:jo A d b l (du D 14)=(A.RX d b l).RU d b ZU:=(by unfold jo du;rw [if_pos (by rw [if_pos rfl])]);rw [B] at f;have c:=f.1.badC d b z K;have Y:=(f.1.bad d z).frozen b;refine iY (w':=w'.setCell ⟨F.bd d,b,ZX⟩ (Z1 ZU)) ?_ ⟨?_,rfl,kq⟩
    . (conv at ho=>rhs;whnf);simp only [execOp,ho,v0];go_simp
    . show aq _ p (jo A d b l (du D 14)) F/\_/\_;rw [C];exact ⟨f.1.RU d b z ZU,f.2.1.keep (T7 _ _ _ _ (λe=>L (.inr (.inr ⟨d,z,.inr e⟩)))),f.2.2.trans (aa.setCell _ _ _ (.inr (.inr ⟨d,z,.inr rfl⟩)))⟩
   | n+15,hn=>exact absurd hn abV
 . rintro k w' s ⟨D,S,B,_,T⟩ j;have C:jo A d b l D=(A.RX d b l).RU d b ZU:=(by unfold jo;rw [if_pos (S 14 ec)]);rw [C] at B;have hv:∀ i:Nat,i<13->k.eval (.tmp (49+i))=(M9 F A.nb d b l).getD i ZY:=by
    intro i hi;match i,hi with
    | 0,_=>exact j 0 ec
    | 1,_=>exact j 1 ec
    | 2,_=>exact j 2 ec
    | 3,_=>exact j 3 ec
    | 4,_=>exact j 4 ec
    | 5,_=>exact j 5 ec
    | 6,_=>exact j 6 ec
    | 7,_=>exact j 7 ec
    | 8,_=>exact j 8 ec
    | 9,_=>exact j 9 ec
    | 10,_=>exact j 10 ec
    | 11,_=>exact j 11 ec
    | 12,_=>exact j 13 ec
    | n+13,hn=>exact absurd hn abW
   rw [s.out (M9 F A.nb d b l) rfl eb hv];exact U w' B T
theorem Gr {A:aA} {F:aR} (h:aq w p A F) (j:A.fit) (d b:Nat) (i:d<A.n) (g:b<A.nb) (v:A.wait<0) (t:A.lost d=ZU) (l:a9) (k:l.length=64) :
 ZQ ZJ 9 #[Z6 (ZW ⟨p,0,ZX⟩),Z7 Z9 d,Z7 Z9 b,.agg (aw l)] w λe w'=>e=Z3 .nilIface /\
  aq w' p ((A.RX d b l).RU d b ZU) F/\aa (F.has p A.n) w w':=by
 have a:=h.alloc (Z4 (aw l) 40);have f:=aS.new w l;have c:aa (F.has p A.n) w (w.alloc (Z4 (aw l) 40)):=aa.alloc w _;have m:¬ F.has p A.n w.heap.size:=λq=>eT (h.RQ q)
 obtain ⟨w1,o⟩:=nM (w.alloc (Z4 (aw l) 40));rw [o] at a f c;obtain ⟨u,c1,_,_⟩:=a.R4;go_enter func9,ntmps9;go_wp2_with fail;refine (sX a j d b i g eb t).mono ?_;rintro e w' ⟨rfl,rfl⟩;go_wp2_with fail;refine zd ei a j i g k f m rfl rfl rfl rfl ?_;intro x r s;rename_i hK
 refine hK _ _ ?_;simp only [Act.RL,M9];go_wp2;go_ret;exact ⟨rfl,r,c.trans s⟩
def Na {A:aA} {F:aR} (h:aj w p A F) (_hf:A.fit) (d b:Nat) (m:d<A.n) (l:b<A.nb) (o:A.wait≠0) (g:A.lost d=ZU) (i:A.bad d b=ZU) :
 ZQ ZJ 131 #[Z6 (ZW ⟨p,0,ZX⟩),Z7 Z9 d,Z7 Z9 b] w λe w'=>e=Z3 (ZZ #[.agg (aw (A.blk d b)),.nilIface]) /\
  aj w' p (A.RS d (wrap64 (A.reads d+1))) F/\aa (F.has p A.n) w w':=by
 obtain ⟨R,j,c,a⟩:=h;obtain ⟨q,r⟩:=a.here d g;refine (JC j c d b (by rw [a.n];exact m) (by rw [a.nb];exact l) (by rw [a.wait];exact o) (by rw [a.lost];exact g) (by rw [r];exact i)).mono ?_;rintro e w' ⟨rfl,k,f⟩;rw [a.n] at f;exact ⟨by rw [q],⟨_,k,c.RS _ _,by rw [a.reads];exact a.RS _ _⟩,f⟩
def AK {A:aA} {F:aR} (h:aj w p A F) (_hf:A.fit) (d b:Nat) (o:d<A.n) (m:b<A.nb) (r:A.wait<0) (q:A.lost d=ZU) (l:a9) (c:l.length=64) (j:∀ x∈l,x<256) :
 ZQ ZJ 9 #[Z6 (ZW ⟨p,0,ZX⟩),Z7 Z9 d,Z7 Z9 b,.agg (aw l)] w λe w'=>e=Z3 .nilIface /\
  aj w' p ((A.RX d b l).RU d b ZU) F/\aa (F.has p A.n) w w':=by
 obtain ⟨R,i,f,a⟩:=h;refine (Gr i f d b (by rw [a.n];exact o) (by rw [a.nb];exact m) (by rw [a.wait];exact r) (by rw [a.lost];exact q) l c).mono ?_;rintro e w' ⟨rfl,k,g⟩;rw [a.n] at g;exact ⟨rfl,⟨_,k,(f.RX d b l c j).RU d b ZU,a.put d b l⟩,g⟩
def aK (w:ZT):Prop:=∀ j,j<64->w.cell? ⟨1,j,ZX⟩=ZW (Z7 .u8 ((Lib.deBruijn64tab.getD j 0:Nat):Int))
def aK.mono (h:aK w) (a:1<B) (b:ZR B w w'):aK w':=λj c=>(b.cell (p:=⟨1,j,ZX⟩) a).trans (h j c)
def Pa (x a:Nat) (d:x<18446744073709551616) (e:x≠0) (c:x &&& (18446744073709551616-x)=a) :
 IntKind.u64.wrap (bits BinOp.and IntKind.u64 (x:Int) (IntKind.u64.wrap (-(x:Int)))*285870213051353865)/288230376151711744=((a*285870213051353865%18446744073709551616/288230376151711744:Nat):Int):=by
 have b:IntKind.u64.wrap (-(x:Int))=((18446744073709551616-x:Nat):Int):=Zn
 rw [b,bits_and_u64_nat x _ d eb,c,Vh];omega
def ox (x:Nat):Nat:=Lib.ctzFrom 64 x
def sY (a:x≠0) (b:x<65536):∃ m,x=2^ox x*(2*m+1)/\ox x<64:=Lib.ctzFrom_spec 64 x eb eb
theorem Nb (x k idx:Nat) (w:ZT) (b:((x:Int)==0)=ZU)
 (key:IntKind.u64.wrap (bits BinOp.and IntKind.u64 (x:Int) (IntKind.u64.wrap (-(x:Int)))*285870213051353865)/288230376151711744=(idx:Int))
 (hi:idx<64) (c:k<64) (a:w.cell? ⟨1,idx,ZX⟩=ZW (Z7 .u8 k)) :
 ZQ ZJ 157 #[Z7 Z8 x] w λe w'=>e=Z3 (Z7 Z9 k)/\w'=w:=by
 go_enter func157,ntmps157;go_wp2_with (simp only [key]);go_ret;exact ⟨rfl,rfl⟩
def JE (x:Nat) (a:x≠0) (i:x<65536) (w:ZT) (h:aK w) :
 ZQ ZJ 157 #[Z7 Z8 x] w λe w'=>e=Z3 (Z7 Z9 (ox x))/\w'=w:=by
 obtain ⟨m,d,c⟩:=sY a i;have f:x &&& (18446744073709551616-x)=2^ox x:=by
  have:=Lib.and_neg 64 (ox x) m (by rw [<- d];omega);rw [<- d] at this;exact this
 obtain ⟨hi,g⟩:=Lib.deBruijn64_at _ c;have b:=h _ hi;rw [g] at b;exact Nb x _ _ w en (Pa x _ eb a f) hi c b
theorem Ff (n:x≠0) (p:x<65536):x &&& (x-1)=bI x (ox x):=by
 obtain ⟨m,d,_⟩:=sY n p;generalize ox x=k at d;have:0<2^k:=VH k;have o:2^(k+1)=2*2^k:=by rw [W0];omega
 have f:x=2^(k+1)*m+2^k:=by rw [d,o,Nat.mul_add,VW,WB 2 (2^k),Nat.mul_assoc]
 have g:x-1=2^(k+1)*m+(2^k-1):=eb
 apply WD;intro j;rw [Xb,g,lA];have h:=YM m (i:=k+1) (b:=2^k) eb j;have l:=YM m (i:=k+1) (b:=2^k-1) eb j;rw [l,f,h];by_cases a:j<k+1
 . rw [if_pos a,if_pos a,Xz,Ws];have c:decide (k<j)=ZU:=en;rw [c,Bool.false_and];by_cases e:k=j
   . simp [e]
   . simp [e]
 . rw [if_neg a,if_neg a];have c:decide (k<j)=ZV:=en;rw [c,Bool.true_and,Bool.and_self]
theorem rY (e:x≠0) (g:x<65536):x.testBit (ox x)=ZV/\∀ j,j<ox x->x.testBit j=ZU:=by
 obtain ⟨m,d,_⟩:=sY e g;generalize ox x=k at d;have:0<2^k:=VH k;have f:2^(k+1)=2*2^k:=by rw [W0];omega
 have a:x=2^(k+1)*m+2^k:=by rw [d,f,Nat.mul_add,VW,WB 2 (2^k),Nat.mul_assoc]
 have c:=λj=>YM m (i:=k+1) (b:=2^k) eb j;constructor
 . rw [a,c,if_pos eb,Nat.testBit_two_pow_self]
 . intro j h;rw [a,c,if_pos eb,Xz];simp;omega
def JF (b:x≠0) (a:x<65536):ox x<16:=by
 refine Nat.lt_of_not_le λh=>?_;have:=Wt (x:=x) (i:=ox x) (TY a (Vm (n:=2) ec h));rw [(rY b a).1] at this;cases this
def iG (b:x≠0) (c:x<65536):ae x=ox x::ae (bI x (ox x)):=by
 have h:ox x∈ae x:=bS.2 ⟨JF b c,(rY b c).1⟩;obtain ⟨pre,R,e⟩:=List.append_of_mem h;rw [AC e];have f:=qV x;rw [e] at f;cases pre with
 | nil=>exact e
 | cons a pre=>
  have g:=(Yt.1 f).2.2 a ek (ox x) ek;have d:=(bS.1 (show a∈ae x by rw [e];simp)).2;rw [(rY b c).2 a g] at d;cases d
def pP (x k:Nat) (a:x<65536):bI x k<65536:=by
 unfold bI;exact Xy (YV _ _) a
def wM:ae 0=[]:=ec
def Rc (x:Nat):Nat:=(x/2 &&& 6148914691236517205)+(x &&& 6148914691236517205)
def Re (x:Nat):Nat:=(x/4 &&& 3689348814741910323)+(x &&& 3689348814741910323)
def sw3 (x:Nat):Nat:=(x/16+x) &&& 1085102592571150095
def sw (x:Nat):Nat:=sw3 (Re (Rc x))
def pb (b:Nat):Nat:=b%2+b/2%2+b/4%2+b/8%2+b/16%2+b/32%2+b/64%2+b/128%2
def tst (n:Nat):Nat->Bool
 | 0=>ZV
 | k+1=>(sw (n*256+k)==pb n*256+pb k)&&tst n k
def Pb:Nat->Bool
 | 0=>ZV
 | n+1=>tst n 256&&Pb n
def aaA:Pb 256=ZV:=Lx
def JG:∀ {k},tst n k=ZV->∀ j,j<k->sw (n*256+j)=pb n*256+pb j
 | 0,_,j,h=>absurd h eb
 | k+1,h,j,hj=>by
  obtain ⟨a,b⟩:=YH.1 h;by_cases e:j=k
  . rw [e];exact eq_of_beq a
  . exact JG b j eb
def Fg:∀ {n},Pb n=ZV->∀ i,i<n->tst i 256=ZV
 | 0,_,i,h=>absurd h eb
 | n+1,h,i,hi=>by
  obtain ⟨a,b⟩:=YH.1 h;by_cases e:i=n
  . rw [e];exact a
  . exact Fg b i eb
def Rf (a:x<65536):sw x=pb (x/256)*256+pb (x%256):=by
 have:=JG (Fg aaA (x/256) eb) (x%256) eb;rwa [(eb:x/256*256+x%256=x)] at this
def Pc (x i:Nat):(if x.testBit i=ZV then 1 else 0)=x/2^i%2:=by
 rw [abb];by_cases h:x/2^i%2=1
 . simp [h]
 . have:=WC (x/2^i);simp [h];omega
def OG (b:Nat):pb b<=8:=by unfold pb;omega
theorem JH (x:Nat):(ae x).length=pb (x/256)+pb (x%256):=by
 have h:∀ n,((YC n).filter (λi=>x.testBit i)).length=((YC n).map (λi=>x/2^i%2)).sum:=by
  intro n;induction n with
  | zero=>rfl
  | succ n ih=>
   rw [Vl,V4,T5,ih,Uu,X2];have e:=Pc x n;have m:([n].map (λi=>x/2^i%2)).sum=x/2^n%2:=ek;rw [m,<- e];by_cases e:x.testBit n=ZV
   . simp [e]
   . simp [e]
 unfold ae pb;rw [h];have a:YC 16=[0,1,2,3,4,5,6,7,8,9,10,11,12,13,14,15]:=ec
 rw [a];simp only [UD,U5,abc,List.sum_nil,Nat.reducePow,Nat.div_one];have b:x%256%2=x%2:=eb
 have c:x%256/2%2=x/2%2:=eb
 have d:x%256/4%2=x/4%2:=eb
 have f:x%256/8%2=x/8%2:=eb
 have g:x%256/16%2=x/16%2:=eb
 have j:x%256/32%2=x/32%2:=eb
 have k:x%256/64%2=x/64%2:=eb
 have l:x%256/128%2=x/128%2:=eb
 rw [b,c,d,f,g,j,k,l];clear b c d f g j k l h a;simp only [YP,Nat.reduceMul];generalize x%2=o;generalize x/2%2=p;generalize x/4%2=q;generalize x/8%2=r;generalize x/16%2=s;generalize x/32%2=t;generalize x/64%2=u;generalize x/128%2=v;generalize x/256%2=b0;generalize x/512%2=b1;generalize x/1024%2=b2;generalize x/2048%2=b3;generalize x/4096%2=b4;generalize x/8192%2=b5;generalize x/16384%2=b6;generalize x/32768%2=b7;omega
def AL (h:k<64):2^k<18446744073709551616:=TY (VC ec h) lR
def Gs (k:Nat) (h:k<=16):IntKind.u64.wrap (IntKind.u64.wrap (2^k)-1)=((2^k-1:Nat):Int):=by
 have:=AL (k:=k) eb;have:0<2^k:=VH k;have e:((2:Int)^k)=((2^k:Nat):Int):=by rw [X3];rfl
 rw [e,Vh,Vh];omega
theorem mH (k:Nat) (a:k<=16) (w:ZT) :
 ZQ ZJ 115 #[Z7 Z9 k] w λe w'=>e=Z3 (Z7 Z8 ((2^k-1:Nat):Int))/\w'=w:=by
 have key:=Gs k a;go_enter func115,ntmps115;go_wp2;go_ret;exact ⟨rfl,rfl⟩
def gh (a b:Nat) (c:a<18446744073709551616) (d:b<18446744073709551616):bits .and .u64 (a:Int) (b:Int)=((a &&& b:Nat):Int):=bits_and_u64_nat a b c d
theorem k1 (x:Nat) (h:x<65536):IntKind.u64.wrap (bits .and .u64 ((x:Int)/2) 6148914691236517205+bits .and .u64 (x:Int) 6148914691236517205)=((Rc x:Nat):Int)/\Rc x<131072:=by
 have e:(x:Int)/2=((x/2:Nat):Int):=eb
 have d:=gh (x/2) 6148914691236517205 eb ec;have f:=gh x 6148914691236517205 eb ec;have:=WJ (n:=x/2) (m:=6148914691236517205);have:=WJ (n:=x) (m:=6148914691236517205);unfold Rc;rw [e];refine ⟨?_,eb⟩;have c:bits .and .u64 ((x/2:Nat):Int) 6148914691236517205=((x/2 &&& 6148914691236517205:Nat):Int):=d;have g:bits .and .u64 (x:Int) 6148914691236517205=((x &&& 6148914691236517205:Nat):Int):=f;rw [c,g,Vh];generalize (x/2 &&& 6148914691236517205)=a at *;generalize (x &&& 6148914691236517205)=b at *;omega
theorem k2 (x:Nat) (h:x<131072):IntKind.u64.wrap (bits .and .u64 ((x:Int)/4) 3689348814741910323+bits .and .u64 (x:Int) 3689348814741910323)=((Re x:Nat):Int)/\Re x<262144:=by
 have e:(x:Int)/4=((x/4:Nat):Int):=eb
 have d:=gh (x/4) 3689348814741910323 eb ec;have f:=gh x 3689348814741910323 eb ec;have:=WJ (n:=x/4) (m:=3689348814741910323);have:=WJ (n:=x) (m:=3689348814741910323);unfold Re;rw [e];refine ⟨?_,eb⟩;have c:bits .and .u64 ((x/4:Nat):Int) 3689348814741910323=((x/4 &&& 3689348814741910323:Nat):Int):=d;have g:bits .and .u64 (x:Int) 3689348814741910323=((x &&& 3689348814741910323:Nat):Int):=f;rw [c,g,Vh];generalize (x/4 &&& 3689348814741910323)=a at *;generalize (x &&& 3689348814741910323)=b at *;omega
def k3 (x:Nat) (a:x<262144):bits .and .u64 (IntKind.u64.wrap ((x:Int)/16+(x:Int))) 1085102592571150095=((sw3 x:Nat):Int):=by
 have e:IntKind.u64.wrap ((x:Int)/16+(x:Int))=((x/16+x:Nat):Int):=Zn
 rw [e];exact gh (x/16+x) 1085102592571150095 eb ec
theorem k4 (x c:Nat) (a:x<1048576):IntKind.u64.wrap ((x:Int)+(x:Int)/(c:Int))=((x+x/c:Nat):Int):=by
 have:=VK x c;have e:(x:Int)/(c:Int)=((x/c:Nat):Int):=(X4 x c).symm;rw [Vh,e];generalize x/c=d at *;omega
def Pd (x:Nat):x &&& 127=x%128:=YR x 7
theorem JI (x:Nat) (u:x<65536) (w:ZT) :
 ZQ ZJ 212 #[Z7 Z8 x] w λe w'=>e=Z3 (Z7 Z9 ((ae x).length:Nat))/\w'=w:=by
 obtain ⟨g,b1⟩:=k1 x u;obtain ⟨h,b2⟩:=k2 _ b1;have a:=k3 _ b2;have t:=Rf u;have v:=OG (x/256);have y:=OG (x%256);have s:=JH x;have e:sw3 (Re (Rc x))=pb (x/256)*256+pb (x%256):=t;generalize pb (x/256)=p at *;generalize pb (x%256)=q at *;have b:=k4 (p*256+q) 256 eb;have n:p*256+q+(p*256+q)/256=p*257+q:=eb
 have c:=k4 (p*257+q) 65536 eb;have o:p*257+q+(p*257+q)/65536=p*257+q:=by rw [Xq eb,Vs]
 have d:=k4 (p*257+q) 4294967296 eb;have r:p*257+q+(p*257+q)/4294967296=p*257+q:=by rw [Xq eb,Vs]
 rw [n] at b;rw [o] at c;rw [r] at d;have f:=M2 (p*257+q) 127 eb ec;rw [Pd,(eb:(p*257+q)%128=p+q),<- s] at f;have i:wrap64 ((p*257+q:Nat):Int)=((p*257+q:Nat):Int):=K0
 rw [e] at a;clear e t s n o r;have H:=hide8 g h a b c d f i;clear g h a b c d f i;go_enter func212,ntmps212;go_wp2;obtain ⟨g,h,a,b,c,d,f,i⟩:=H.out;simp only [g];simp only [h];simp only [a];have j:IntKind.u64.wrap (((p*256+q:Nat):Int)+((p*256+q:Nat):Int)/256)=((p*257+q:Nat):Int):=b;have k:IntKind.u64.wrap (((p*257+q:Nat):Int)+((p*257+q:Nat):Int)/65536)=((p*257+q:Nat):Int):=c;have l:IntKind.u64.wrap (((p*257+q:Nat):Int)+((p*257+q:Nat):Int)/4294967296)=((p*257+q:Nat):Int):=d;have m:bits .and .i64 ((p*257+q:Nat):Int) 127=(((ae x).length:Nat):Int):=f;simp only [j,k,l,i,m];go_ret;exact ⟨rfl,rfl⟩
theorem AM (x:Nat) (a:x<65536) (w:ZT) :
 ZQ ZJ 208 #[Z7 Z8 x] w λe w'=>e=Z3 (Z7 Z9 ((ae x).length:Nat))/\w'=w:=by
 go_enter func208,ntmps208;go_wp2_with fail;refine (JI x a _).mono ?_;rintro e w' ⟨rfl,rfl⟩;go_wp2;go_ret;exact ⟨rfl,rfl⟩
theorem Dz (x k:Nat) (c:x<65536) (f:k<=16):bits .andNot .u64 (x:Int) ((2^k-1:Nat):Int)=((x/2^k*2^k:Nat):Int):=by
 have d:=AL (k:=k) eb;have e:0<2^k:=VH k;have h:=X5 x (2^k-1) eb eb;rw [h];congr 1;apply WD;intro j;rw [Xb,abw,(eb:18446744073709551615-(2^k-1)=2^64-(2^k-1+1)),Xw eb,Ws,abx];by_cases a:k<=j
 . rw [(eb:j-k+k=j)];by_cases b:j<64
   . simp [a,b,(eb:¬ j<k)]
   . have:x.testBit j=ZU:=Wt (TY c (Vm (n:=2) (i:=16) ec eb));simp [this]
 . simp [a,(eb:j<k)]
theorem DA (x k:Nat) (a:x<65536) (c:k<16) (w:ZT) :
 ZQ ZJ 216 #[Z7 Z8 x,Z7 Z9 k] w λe w'=>e=Z3 (Z7 Z8 (bI x k:Nat))/\w'=w:=by
 have key:=Dz x (k+1) a eb;have d:wrap64 ((k:Int)+1)=((k+1:Nat):Int):=K0
 have b:IntKind.i64.wrap ((k:Int)+1)=((k+1:Nat):Int):=iE
 have H:=al key;clear key;go_enter func216,ntmps216;go_wp2_with fail;refine (mH (k+1) eb _).mono ?_;rintro e w' ⟨rfl,rfl⟩;go_wp2;rw [H.out];go_ret;exact ⟨rfl,rfl⟩
structure br (B:Nat) (w w':ZT):Prop where
 os:w'.os=w.os
 tape:w'.tape=w.tape
 output:w'.output=w.output
 size:w.heap.size<=w'.heap.size
 block:∀ k,B<=k->k<w.heap.size->w'.heap[k]?=w.heap[k]?
def br.refl (B:Nat) (w:ZT):br B w w:=⟨rfl,rfl,rfl,TV _,λ_ _ _=>rfl⟩
def br.trans {b c:ZT} (h:br B a b) (k:br B b c):br B a c:=
 ⟨k.os.trans h.os,k.tape.trans h.tape,k.output.trans h.output,TU h.size k.size,λi d e=>(k.block i d (eT h.size)).trans (h.block i d e)⟩
def br.mono {B':Nat} (h:br B w w') (c:B<=B'):br B' w w':=⟨h.os,h.tape,h.output,h.size,λk b a=>h.block k eb a⟩
def br.RN (h:ZR w.heap.size w w'):br B w w':=⟨h.os,h.tape,h.output,h.size,λk _ a=>h.block k a⟩
def br.setCell (h:br B a w) {p:Addr} (d:p.block<B\/a.heap.size<=p.block) (u:ZS):br B a (w.setCell p u):=
 ⟨h.os,h.tape,h.output,by have:=h.size;simpa [World.setCell] using this,λk b c=>(VY _ _ _ _ eb).trans (h.block k b c)⟩
def br.putObj (h:br B a w) {l:Nat} (d:l<B\/a.heap.size<=l) (o:Obj):br B a (w.putObj l o):=
 ⟨h.os,h.tape,h.output,by have:=h.size;have:=(WK w l o).size;omega,λk b c=>(UE eb).trans (h.block k b c)⟩
def Below.RY (h:ZR B a w) {l:Nat} (b:B<=l) (c:l<w.heap.size) (o:Obj):ZR B a (w.putObj l o):=
 h.grown (WK w l o) eb (λk e=>by cases e;exact b)
def br.keeps {C:Nat} (h:br B w w') (c:B<=C):KeepsFrom C w w':=
 ⟨h.size,λk o b a _=>(h.block k eb (TW.1 a).1).trans a⟩
def bX (h:ZQ P f args w R) (k:∀ e w',R e w'->R' e w') :
 Fence.wide.fn f/\(Fence.wide.depth.isSome=ZV->1<=n)/\CallsIn Fence.wide m P f args w R':=
 ⟨trivial,λh=>Bf,U6.2 (h.mono k)⟩
def dS {l:Nat} (h:ZQ P f args w R) (k:∀ e w',R e w'->R' e w') :
 (Fence.wide.inRound l).fn f/\((Fence.wide.inRound l).depth.isSome=ZV->1<=n)/\CallsIn (Fence.wide.inRound l) m P f args w R':=
 ⟨trivial,λh=>Bf,CallsIn.inRound l (U6.2 (h.mono k))⟩
def Pe (Q:ZO->ZM->ZT->Prop):ZO->ZM->ZT->Prop
 | .goto _,_,_=>False
 | .exit _,_,_=>False
 | e,a,w=>Q e a w
def il {b:Frame} {a:ZM} {k:List Item} {cs:List Frame} {c:Code}:step P (lone (b.atR a (.code (.scope c)::k)) cs w)=.next (lone (b.atR a (.code c::.inScope c::k)) cs w):=
 step_lone_go (by simp [stepG,stepG.exec,Frame.atR])
def sZ {b:Frame} {a:ZM} {k:List Item} {cs:List Frame} {c:Code}:step P (lone (b.atR a (.inScope c::k)) cs w)=.next (lone (b.atR a k) cs w):=
 step_lone_go (by simp [stepG,stepG.exec,Frame.atR])
def JJ {F:Fence} {c:Code} {Q:ZO->ZM->ZT->Prop} {a:ZM} (h:c.wpIn F n P (Pe Q) a w):(Code.scope c).wpIn F n P Q a w:=by
 intro b k cs p m o;have g:(lone (b.atR a (.code (.scope c)::k)) cs w).fenced P F:=fenced_calm m o rfl;obtain ⟨e,f,j,d,i⟩:=h b (.inScope c::k) cs p m o;cases e with
 | normal=>exact ⟨.normal,f,j,d,.head g il (StepsIn.trans i (.one (fenced_calm m o rfl) sZ))⟩
 | exit id=>exact d.elim
 | goto l=>exact d.elim
 | ret=>exact ⟨_,f,j,d,.of_steps (.one g il) i⟩
 | panic q=>exact ⟨_,f,j,d,.of_steps (.one g il) i⟩
 | outgrown=>exact ⟨_,f,j,d,.of_steps (.one g il) i⟩
def Pf {σ:Type} (B:Nat) (I:σ->ZT->Prop) (s:σ) (W:ZT):ZO->ZM->ZT->Prop
 | .normal,_,W'=>I s W'/\br B W W'
 | _,_,_=>False
def Gt (k:Nat):Fence.wide.room k:=λd h=>Bf
def wN {m':Nat} {l:Nat} {tmps:Array ZS} {assign body:Code} (h:RoundIn Fence.wide m P l f tmps assign body w R):RoundIn Fence.wide m' P l f tmps assign body w R:=⟨h.1,λc cs _=>h.2 c cs (Gt _)⟩
theorem JK (m:Nat) {α σ:Type} {g:ZK} {ps:Array Tmp} {assign body:Code} {Q:ZO->ZM->ZT->Prop} {a:ZM} {w:ZT}
 {gf:Nat} {lb:Array ZS} (hg:a.eval g=.func (.func gf) #[] lb) (eg:∀ args w,(callFunc gf args).run P w=.ok (.enter gf args) w)
 {encs:α->Array ZS} (ka:∀ x,(encs x).size=ps.size) (step:σ->α->σ) (H:α->Prop)
 (I:σ->ZT->Prop) (o:∀ s A B,I s A->ZR w.heap.size A B->I s B) (S:σ->Prop) (s0:σ)
 (h6:∀ (l:Nat) (J:σ->ZT->Prop) (W:ZT),ZR w.heap.size w W->W.heap.size=w.heap.size+2 ->
  (∀ s A B,J s A->ZR (w.heap.size+2) A B->J s B)->(∀ s A,J s A->I s A/\w.heap.size+2<=A.heap.size) ->
  (∀ m s x b,J s b->H x->YieldAt Fence.wide m P l (encs x) b λe f=>e=Z3 (Z1 ZV)/\J (step s x) f/\br (w.heap.size+2) b f)->J s0 W ->
  CallsIn Fence.wide (n-1) P gf (#[.func (.yield l) #[] #[]]++lb) W λe f=>(∃ v,e=Z3 v)/\∃ s,S s/\J s f)
 (h0:I s0 w) (F:Nat->α->ZM->ZT->Prop) (hs:∀ B x c A R,F B x c A->br B A R->F B x c R)
 (h1:∀ (l:Nat) (s:σ) (x:α) (W:ZT) (K:ZM->ZT->Prop),I s W->H x->(∀ c f,ZR W.heap.size W f->F W.heap.size x c f->K c f) ->
  assign.wpIn (Fence.wide.inRound l) m P (Exit.then K (λ_ _ _=>False)) { tmps:=(ps.zip (encs x)).foldl (λt (p,v)=>t.setIfInBounds p v) a.tmps,defers:=[] } W)
 (h5:∀ (l B:Nat) (s:σ) (x:α) (c:ZM) (W:ZT),w.heap.size<=l->l<B->B<=W.heap.size->(∃ r,W.heap[l]?=ZW (.loop r))->I s W->H x->F B x c W->body.wpIn (Fence.wide.inRound l) m P (Pf w.heap.size I (step s x) W) c W)
 (h7:∀ (D:Nat) (s:σ) (W:ZT),w.heap.size<=D->S s->I s W->W.heap[D]?=ZW (.deferred (ZW []))->Q .normal { a with defers:={ target:=.collected D,args:=#[] }::a.defers } W) :
 (Code.rangeFunc g ps assign body).wpIn Fence.wide n P Q a w:=by
 refine wpIn_rangeFunc λfn k8=>?_;obtain ⟨i,j⟩:∃ i:LoopState->Loop,i=λst=>{ state:=st,pending:=ZX,fn,tmps:=a.tmps,params:=ps,assign,body,defers:=w.heap.size }:=⟨_,rfl⟩;obtain ⟨b,z⟩:=nM ((w.alloc (.deferred (ZW []))).alloc (.loop (i .ready)));have X:ZR w.heap.size w b:=by rw [<- z];exact (bA w _).alloc ek _
 have kb:b.heap.size=w.heap.size+2:=by rw [<- z];simp
 have hz:b.heap[w.heap.size+1]?=ZW (.loop (i .ready)):=by
  rw [<- z];have:=XA (w.alloc (.deferred (ZW []))) (.loop (i .ready));rwa [Ua] at this
 have hx:b.heap[w.heap.size]?=ZW (.deferred (ZW [])):=by
  rw [<- z];exact (VN _ _ _ ek).trans (XA w _)
 refine ⟨w.heap.size+1,[{ target:=.collected w.heap.size,args:=#[] }],b,{ target:=.fn (.func gf) lb,args:=#[.func (.yield (w.heap.size+1)) #[] #[]] },b,gf,
  #[.func (.yield (w.heap.size+1)) #[] #[]]++lb,b,?_,?_,λ_ _=>trivial,?_,λh=>Bf,?_⟩
 . rw [<- z,j];exact run_enterLoop_outer _ _ _ _ _
 . simp only [resolve,hg];simp [go_sem]
 . simp [invoke,go_sem,eg]
 refine (h6 (w.heap.size+1) (λs W=>I s W/\W.heap[w.heap.size+1]?=ZW (.loop (i .ready))/\W.heap[w.heap.size]?=ZW (.deferred (ZW []))) b X kb ?_ ?_ ?_ ⟨o _ _ _ h0 X,hz,hx⟩).mono ?_
 . rintro s A B ⟨hi,d,E⟩ L;exact ⟨o _ _ _ hi (L.mono eb),(L.block _ eb).trans d,(L.block _ eb).trans E⟩
 . rintro s A ⟨hi,d,_⟩;exact ⟨hi,(TW.1 d).1⟩
 ·
  rintro m' s x W ⟨hi,d,E⟩ hq;have C:w.heap.size+1<W.heap.size:=(TW.1 d).1;have O:=run_yield (P:=P) (args:=encs x) d (by rw [j];exact ka x);rw [j] at O;refine ⟨fn,_,assign,body,O,wN (roundIn_of_wpIn (n:=m) k8 (h1 _ s x W _ hi hq ?_))⟩;clear O;intro c u G k0;have hn:=(G.block _ C).trans d;have k7:=(G.block _ eb).trans E;have U:w.heap.size+1<u.heap.size:=(TW.1 hn).1;refine ⟨_,run_beginRound hn (by rw [j]),?_⟩;obtain ⟨y,k⟩:=nM (u.putObj (w.heap.size+1) (.loop { i .ready with state:=.busy }));have k5:ZR w.heap.size u y:=by rw [<- k];exact Below.RY (TX _ _) eb U _
  have V:br (w.heap.size+2) W y:=by
   rw [<- k];exact ((br.RN G).trans ((br.refl _ u).putObj (.inl eb) _))
  have N:y.heap[w.heap.size+1]?=ZW (.loop { i .ready with state:=.busy }):=by rw [<- k];exact World.putObj_heap_same U
  have Y:y.heap[w.heap.size]?=ZW (.deferred (ZW [])):=by rw [<- k];exact (UE eb).trans k7
  rw [k];refine wpIn_mono (h5 _ W.heap.size s x c y eb C V.size ⟨_,N⟩ (o _ _ _ (o _ _ _ hi (G.mono eb)) k5) hq (hs _ _ _ _ _ k0 (by rw [<- k];exact (br.refl _ u).putObj (.inl C) _))) ?_;rintro e a3 W3 q;cases e with
  | normal=>
   obtain ⟨k9,M⟩:=q;have Z:=(M.block _ eb (TW.1 N).1).trans N;have k6:=(M.block _ lR (TW.1 Y).1).trans Y;have T:=(TW.1 Z).1;have hr:=run_endRound (P:=P) ZX Z;refine ⟨_,_,hr,rfl,⟨o _ _ _ k9 (Below.RY (TX _ _) eb T _),?_,(UE eb).trans k6⟩,?_⟩
   . rw [World.putObj_heap_same T,j];rfl
   . exact (V.trans (M.mono eb)).putObj (.inl eb) _
  | ret=>exact q.elim
  | exit id=>exact q.elim
  | goto t=>exact q.elim
  | panic ch=>exact q.elim
  | outgrown=>exact q.elim
 ·
  rintro e W2 ⟨⟨v,rfl⟩,s,hS,hi,d,E⟩;have C:=(TW.1 d).1;refine ⟨ZX,_,by have:=run_endLoop (P:=P) d (by rw [j];simp);rw [j] at this;exact this,?_⟩;exact h7 _ s _ lR hS (o _ _ _ hi (Below.RY (TX _ _) eb C _)) ((UE eb).trans E)
section
attribute [local go_sem] Oper.semAt_some
def oy (b:q≠0) (c:q<65536):bI q (ox q)<q:=by
 refine Nat.lt_of_le_of_ne (YV _ _) λe=>?_;have a:=lA q (ox q) (ox q);rw [e,(rY b c).1] at a;simp at a
abbrev Sh:={ x:Nat // x<16 }
def qW (x:Sh):Array ZS:=#[Z7 Z9 (x.1:Int)]
def shs (s:Nat):List Sh:=(ae s).filterMap (λi=>if h:i<16 then ZW ⟨i,h⟩ else ZX)
def Nc (s:Nat):(shs s).map (·.1)=ae s:=by
 unfold shs;have h:∀ L:a9,(∀ i∈L,i<16)->(L.filterMap (λi=>if h:i<16 then ZW (⟨i,h⟩:Sh) else ZX)).map (·.1)=L:=by
  intro L;induction L with
  | nil=>intro _;rfl
  | cons a L ih=>
   intro c;have d:=c a UO;rw [List.filterMap_cons_some (b:=(⟨a,d⟩:Sh)) (by simp [d]),UD,ih (λi hi=>c i (Ux _ hi))]
 exact h _ (λi hi=>(bS.1 hi).1)
theorem dj (s:Nat) (w:ZT) :
 ZQ ZJ 129 #[Z7 Z8 s] w λe w'=>e=Z3 (.func (.func 156) #[] #[Z6 (ZW ⟨w.heap.size,0,ZX⟩)])/\w'=w.alloc (Z4 #[Z7 Z8 s] 131):=by
 go_enter func129,ntmps129;go_wp2;go_ret;exact ⟨rfl,rfl⟩
theorem AN (n:Nat) (l Bs s:Nat) (A:s<65536) (J g:List Sh->ZT->Prop)
 (y:∀ pre x W,J pre W->pre.length<(ae s).length->YieldAt Fence.wide (n-1) ZJ l (qW x) W λe c=>
  (e=Z3 (Z1 ZV)/\J (pre++[x]) c/\(aK W->aK c))\/(e=Z3 (Z1 ZU)/\g (pre++[x]) c))
 (W:ZT) (F:W.cell? ⟨Bs,0,ZX⟩=ZW (Z7 Z8 s)) (w:aK W) (m:J [] W) :
 CallsIn Fence.wide n ZJ 156 #[.func (.yield l) #[] #[],Z6 (ZW ⟨Bs,0,ZX⟩)] W λe c=>(∃ v,e=Z3 v) /\
  ((∃ k,k.map (·.1)=ae s/\J k c)\/(∃ pre,pre.map (·.1)<+:ae s/\g pre c)):=by
 refine WL func156 rfl trivial ?_ rfl;simp only [ntmps156,Uy,Um,UQ,Nat.reduceAdd,Nat.reduceSub,UX,UY,UZ,U0,Uk,UH];gi_wp2;gi_loopw [3] (λp wr=>∃ (pre:List Sh) (q:Nat),p=Z7 Z8 q/\q<65536/\ae s=pre.map (·.1)++ae q/\J pre wr/\aK wr)
  (λp _=>(intOf p).toNat)
 case atStart=>
  exact ⟨[],s,rfl,A,rfl,m,w⟩
 case round=>
  obtain ⟨pre,q,rfl,b,d,i,j⟩:=hrel;by_cases a:q=0
  . subst a;gi_wp2;go_end0
    exact ⟨⟨_,rfl⟩,.inl ⟨pre,by rw [d,wM,V7],i⟩⟩
  . have E:((q:Int) != 0)=ZV:=en;have f:=JF a b;obtain ⟨D,tmps,assign,body,B,u⟩:=y pre ⟨ox q,f⟩ wr i Zd;unfold qW at B;gi_wp2;refine bX (JE q a b wr j) ?_;rintro e w' ⟨rfl,rfl⟩;gi_wp2;refine ⟨λh=>Bf,u.mono ?_⟩;rintro e C (⟨rfl,r,t⟩|⟨rfl,o⟩)
    . have G:IntKind.u64.wrap ((q:Int)-1)=((q-1:Nat):Int):=Zn;have z:=gh q (q-1) eb eb;rw [Ff a b] at z;gi_wp2;go_roundw
      case rel=>exact ⟨pre++[⟨ox q,f⟩],bI q (ox q),rfl,pP _ _ b,Zd,r,t j⟩
      case measure=>have:=oy a b;simp only [intOf];omega
    . gi_wp2;refine Uf (Xc rfl _ _ _) rfl ?_;exact ⟨⟨_,rfl⟩,.inr ⟨pre++[⟨ox q,f⟩],Zd,o⟩⟩
def Fh (W W':ZT):Prop:=aK W->aK W'
def qX {A B C:ZT} (h:Fh A B) (k:Fh B C):Fh A C:=λx=>k (h x)
def qY (d:3<=w.heap.size) (W:ZT) (l:Nat) (o b:Obj) (c:w.heap.size<=l) (h:W.heap[l]?=ZW o) (_:o.isCells=ZU) (_:o.isWalk=ZU):Fh W (W.putObj l b):=λa=>
 a.mono (B:=3) ec (Below.RY (TX _ W) eb (TW.1 h).1 _)
def Fh.RN {W W':ZT} (b:3<=B) (h:ZR B W W'):Fh W W':=λa=>a.mono eb h
def Fh.refl (W:ZT):Fh W W:=λh=>h
def eH (n Bs s:Nat) (h:s<65536) (w:ZT) (d:Bs<w.heap.size) (g:w.cell? ⟨Bs,0,ZX⟩=ZW (Z7 Z8 s)) (j:3<=w.heap.size) (e:aK w) :
 SeqStopsK Fence.wide n ZJ 156 #[Z6 (ZW ⟨Bs,0,ZX⟩)] qW Fh (λi=>i.map (·.1)=ae s) (λpre=>pre.map (·.1)<+:ae s) (ae s).length w:=λl J b W a _ _ f c=>
 AN n l Bs s h J b f W ((a.cell (p:=⟨Bs,0,ZX⟩) d).trans g) (e.mono eb a) c
end
def cJ (D L G:Int):Bool:=decide (1<=D/\D<=12/\1<=L/\L<=4/\0<=G/\G<=4/\D%L=0/\D+L+G<=16)
def AO {a b:Bool} (h:a=b):Ending.returned (Z1 a)=Z3 (Z1 b):=by rw [h]
theorem dU (D L G:Int) (w:ZT) (a:0<=D/\D<=100) (b:0<=L/\L<=100) (c:0<=G/\G<=100) :
 ZQ ZJ 8 #[.agg #[Z7 Z9 D,Z7 Z9 L,Z7 Z9 G]] w λe w'=>e=Z3 (Z7 Z9 (D+L+G))/\ZR w.heap.size w w':=by
 obtain ⟨d,f⟩:=a;obtain ⟨b1,b2⟩:=b;obtain ⟨c1,g⟩:=c;go_enter func8,ntmps8;go_wp2;go_ret;exact ⟨rfl,bA _ _⟩
theorem pQ (D L G:Int) (w:ZT) :
 ZQ ZJ 42 #[.agg #[Z7 Z9 D,Z7 Z9 L,Z7 Z9 G]] w λe w'=>e=Z3 (Z1 (cJ D L G))/\ZR w.heap.size w w':=by
 go_enter func42,ntmps42;go_wp2_with (go_at_call 8;refine (dU D L G _ eb eb eb).mono ?_;rintro e w' ⟨rfl,a⟩);all_goals go_ret
 . refine ⟨AO (b:=cJ D L G) ?_,(bA _ _).trans (a.mono ek)⟩;unfold cJ;rw [decide_eq_decide];constructor
   . intro h;exact ⟨eb,eb,eb,eb,eb,eb,by assumption,h⟩
   . intro h;exact h.2.2.2.2.2.2.2
 all_goals
  refine ⟨AO (b:=cJ D L G) ?_,bA _ _⟩;unfold cJ;symm;rw [decide_eq_false_iff_not];intro h;omega
def Nd (Fc:Fence) (n:Nat) (P:Program) (Q:ZO->ZM->ZT->Prop) (lo hi:Nat) (sh:List (Op×Option Nat×a9)) (a0:ZM) (V:Nat->ZS->ZT->Prop) (B:(Nat->Bool)->ZT->Prop) (i:Nat):Prop:=
 ∀ (o:ZN) (a:ZM) (w:ZT) (D:Nat->Bool),o.guard=ZX->o.op=(bT sh i).1->o.dst=(bT sh i).2.1->dE lo hi a0 a->D i=ZU->(∀ j,D j=ZV->j<sh.length/\∀ k∈(bT sh j).2.2,D k=ZV) ->
  (∀ k∈(bT sh i).2.2,D k=ZV)->B D w->(∀ j,D j=ZV->V j (dy (bT sh j).2.1 a) w) ->
  o.wpIn Fc n P a w (λa' w'=>∃ v,a'=a.put o.dst v/\(o.dst=ZX->v=ZY)/\B (du D i) w'/\V i v w'/\∀ j u,D j=ZV->V j u w->V j u w') Q
def bu {Fc:Fence} {Q:ZO->ZM->ZT->Prop} (y:P.follows .mixedOrders=ZV) (v:aL ops lo hi sh) (b:ZM) (w0:ZT) (u:hi<=b.tmps.size)
 (V:Nat->ZS->ZT->Prop) (B:(Nat->Bool)->ZT->Prop) (x:B (λ_=>ZU) w0.drew) (k:∀ i,i<sh.length->Nd Fc n P Q lo hi sh b V B i)
 (t:∀ (a:ZM) (w:ZT),dE lo hi b a->(∀ s,(∀ i,i<sh.length->(bT sh i).2.1≠ZW s)->a.eval (.tmp s)=b.eval (.tmp s))->(∃ D,(∀ i,i<sh.length->D i=ZV)/\B D w)->(∀ i,i<sh.length->V i (dy (bT sh i).2.1 a) w)->Q .normal a w):(Code.region m ops ZV).wpIn Fc n P Q b w0:=
 wpIn_region_any y (wL (λo a w K=>o.wpIn Fc n P a w K Q) (wpAnyIn Fc n P .any ops Q) (λ_ _ _ h q=>⟨h,q⟩) (λf l a w c d=>⟨λe=>absurd e c,λi hi=>by
  obtain ⟨o,g,j,h⟩:=d i hi;unfold wpOpIn;rw [g];show if Region.wanted o (yielded ops a.tmps)=ZV then _ else _;rw [if_pos (by simp [Region.wanted,j])];exact h⟩) (λo a w K z h=>Oper.wpIn_mono h) v b _ u V B x (λi hi o a w D c d p r _=>k i hi o a w D c d p r) t)
def ak {l:Nat} {Q:ZO->ZM->ZT->Prop} {a:ZM} {B:ZT->Prop} {S:ZT->Prop} (i:(execOp a.eval o).run P w=.ok (.value v) w') (f:∀ c,o.op≠.defer c) {d:Nat} (g:o.dst=ZW d) (h:B w'/\Vi v w'/\S w') :
 o.wpIn (Fence.wide.inRound l) n P a w (λb w'=>∃ v,b=a.put o.dst v/\(o.dst=ZX->v=ZY)/\B w'/\Vi v w'/\S w') Q:=by
 refine ⟨λ_ _=>trivial,?_⟩;rw [V8 _ _ _ f,i];exact ⟨v,rfl,λe=>(by rw [g] at e;cases e),h.1,h.2.1,h.2.2⟩
def jD {l:Nat} {Q:ZO->ZM->ZT->Prop} {a:ZM} {B:ZT->Prop} {S:ZT->Prop} (e:(execOp a.eval o).run P w=.ok .skip w') (d:∀ c,o.op≠.defer c) (h:B w'/\Vi ZY w'/\S w') :
 o.wpIn (Fence.wide.inRound l) n P a w (λb w'=>∃ v,b=a.put o.dst v/\(o.dst=ZX->v=ZY)/\B w'/\Vi v w'/\S w') Q:=by
 refine ⟨λ_ _=>trivial,?_⟩;rw [V8 _ _ _ d,e];exact ⟨ZY,rfl,λ_=>rfl,h.1,h.2.1,h.2.2⟩
def gz {l:Nat} {Q:ZO->ZM->ZT->Prop} {a:ZM} {B:ZT->Prop} {S:ZT->Prop} (m:(execOp a.eval o).run P w=.ok (.enter f args) w1) (g:∀ c,o.op≠.defer c) {d:Nat} (k:o.dst=ZW d) (j:ZQ P f args w1 Rr)
 (h:∀ e w',Rr e w'->∃ v,e=Z3 v/\B w'/\Vi v w'/\S w'):o.wpIn (Fence.wide.inRound l) n P a w (λb w'=>∃ v,b=a.put o.dst v/\(o.dst=ZX->v=ZY)/\B w'/\Vi v w'/\S w') Q:=by
 refine ⟨λ_ _=>trivial,?_⟩;rw [V8 _ _ _ g,m];refine ⟨λh=>Bf,CallsIn.inRound l (U6.2 (j.mono λe w' i=>?_))⟩;obtain ⟨v,rfl,p,q,r⟩:=h e w' i;exact ⟨v,rfl,λe=>(by rw [k] at e;cases e),p,q,r⟩
def rM (c j:Nat):Nat:=if j<16 then gm c j else gm c ((j-16)*16)
def tv (f:Nat->Nat) (j:Nat):ZS:=Z7 .u8 ((f j:Nat):Int)
def Pg {x y:Int} (a b:Nat) (f:x=(a:Int)) (g:y=(b:Int)) (c:a<256) (d:b<256) (w:ZT) :
 ZQ ZJ 165 #[Z7 .u8 x,Z7 .u8 y] w λe w'=>e=Z3 (Z7 .u8 ((gm a b:Nat):Int))/\w'=w:=by
 subst f g;exact mF a b c d w
def fH (c n j:Nat):Nat:=if j<n then gm c j else 0
def MP (q:Nat):Prop:=q=1\/q=2\/q=4\/q=8\/q=16
def aaB (w:ZT) (B c:Nat) (i d:ZS) (wr:ZT):Prop:=
 ∃ q:Nat,MP q/\i=Z7 Z9 q/\d=Z7 .u8 ((gm c q:Nat):Int)/\wr.rowIs (B+1) 263 16 (tv (fH c q))/\wr.rowIs B 263 16 (λ_=>Z7 .u8 0)/\ZR B w wr
def OH (w:ZT) (B c q:Nat) (i:ZS) (wr:ZT):Prop:=
 ∃ k:Nat,k<=q/\i=Z7 Z9 k/\wr.rowIs (B+1) 263 16 (tv (fH c (q+k)))/\wr.rowIs B 263 16 (λ_=>Z7 .u8 0)/\ZR B w wr
def JL (w:ZT):(w.alloc (Z4 (YF 16 (Z7 .u8 0)) 263)).rowIs w.heap.size 263 16 (λ_=>Z7 .u8 0):=by
 have h:=abd w (YF 16 (Z7 .u8 0)) 263 (λ_=>Z7 .u8 0) (λi hi=>by simp at hi;simp [hi]);simpa using h
def Ph (w:ZT):(w.alloc (Z4 (YF 32 (Z7 .u8 0)) 301)).rowIs w.heap.size 301 32 (λ_=>Z7 .u8 0):=by
 have h:=abd w (YF 32 (Z7 .u8 0)) 301 (λ_=>Z7 .u8 0) (λi hi=>by simp at hi;simp [hi]);simpa using h
def JM:∀ i,i<1->i^^^1=1+i:=ec
def JN:∀ i,i<2->i^^^2=2+i:=ec
def JO:∀ i,i<4->i^^^4=4+i:=ec
def JP:∀ i,i<8->i^^^8=8+i:=ec
def Nf (a:MP q) (b:q<16) (h:i<q):i^^^q=q+i:=by
 rcases a with rfl|rfl|rfl|rfl|rfl
 . exact JM i h
 . exact JN i h
 . exact JO i h
 . exact JP i h
 . omega
def Pi:∀ c,c<256->tx (gm c 1)=gm c 2:=Lx
def Pj:∀ c,c<256->tx (gm c 2)=gm c 4:=Lx
def Pm:∀ c,c<256->tx (gm c 4)=gm c 8:=Lx
def Pn:∀ c,c<256->tx (gm c 8)=gm c 16:=Lx
def Rh (b:MP q) (d:q<16) (a:c<256):tx (gm c q)=gm c (q*2):=by
 rcases b with rfl|rfl|rfl|rfl|rfl
 . exact Pi c a
 . exact Pj c a
 . exact Pm c a
 . exact Pn c a
 . omega
def JQ (b:MP q) (a:q<16):MP (q*2):=by unfold MP at *;omega
def DB (f:MP q) (d:q<16) (e:k<q) (j:Nat):tv (fH c (q+(k+1))) j=if j=q+k then Z7 .u8 ((fH c (q+k) k^^^gm c q:Nat):Int) else tv (fH c (q+k)) j:=by
 unfold tv fH;by_cases a:j=q+k
 . rw [if_pos a,if_pos eb,if_pos eb,<- fL,Nf f d e,a]
 . rw [if_neg a];by_cases b:j<q+k
   . rw [if_pos b,if_pos eb]
   . rw [if_neg b,if_neg eb]
def pR {f:Nat->Nat} (a:cs.size=n) (h:∀ j,j<n->cs[j]?=ZW (tv f j)):cs.all (λv=>v.oneCell')=ZV:=by
 rw [XB];intro i hi;have:=h i eb;rw [Vr hi] at this;simp at this;rw [this];rfl
def Gu {x:Int} (a:Nat) (b:x=(a:Int)) (h:a<256) (w:ZT):ZQ ZJ 181 #[Z7 .u8 x] w λe w'=>e=Z3 (Z7 .u8 (tx a:Int))/\w'=w:=by
 subst b;exact nD a h w
theorem JR (c n j:Nat) (a:c<256):fH c n j<256:=by
 unfold fH;split
 . exact bD _ a
 . decide
def Tryz.SL:(ZJ.info? 263).map (λi=>i.size)=ZW 16:=ei
theorem nj (c:Nat) (m:c<256) (w:ZT) :
 ZQ ZJ 194 #[Z7 .u8 c] w λe w'=>∃ cs:Array ZS,e=Z3 (.agg cs)/\cs.size=16/\(∀ j,j<16->cs[j]?=ZW (tv (fH c 16) j))/\ZR w.heap.size w w':=by
 go_enter func194,ntmps194;go_wp2;go_loopw [4,0] (λi d wr=>aaB w w.heap.size c i d wr) (λi _ _=>16-(intOf i).toNat)
 case atStart=>
  refine ⟨1,.inl rfl,rfl,by rw [iA c m],?_,?_,?_⟩
  . have h:=JL (w.alloc (Z4 (YF 16 (Z7 .u8 0)) 263));rw [Ug] at h;refine h.congr λj P=>?_;unfold tv fH;by_cases e:j<1
    . rw [if_pos e,(eb:j=0),cL];rfl
    . rw [if_neg e];rfl
  . exact (JL w).alloc _
  . exact (bA _ _).alloc K1 _
 case round=>
  obtain ⟨q,n,rfl,rfl,b,f,g⟩:=hrel;have z:q<=16:=by unfold MP at n;omega
  have E:gm c q<256:=bD _ m;by_cases u:q<16
  . have V:q<=8:=(by unfold MP at n;omega);have l:=al n;have H:=al (show OH w w.heap.size c q (Z7 Z9 (0:Nat)) wr from ⟨0,T3 _,rfl,b,f,g⟩);clear b f g n;have W:(q:Int)<16:=eb;rename ZT=>wo;go_wp2;go_loopw [11] (λi wr=>OH w w.heap.size c q i wr) (λi _=>q-(intOf i).toNat)
    case atStart=>exact H.out
    case round=>
     obtain ⟨k,U,rfl,b,f,g⟩:=hrel;by_cases Q:k<q
     . have c1:=b.cell (i:=k) eb;have K:=b.cell (i:=q+k) eb;have S:=b.frozen (q+k);have R:=JR c (q+k) k m;have hz:=nC _ _ R E;have A:=(b.set (q+k) (Z7 .u8 ((fH c (q+k) k^^^gm c q:Nat):Int))).congr (λj P=>(DB l.out u Q j).symm);have B:=f.setOther (a:=⟨w.heap.size+1,q+k,ZX⟩) ek (Z7 .u8 ((fH c (q+k) k^^^gm c q:Nat):Int));have C:=g.setCell (p:=⟨w.heap.size+1,q+k,ZX⟩) ek (Z7 .u8 ((fH c (q+k) k^^^gm c q:Nat):Int));have o:=aE A B C;clear A B C b f g;unfold tv at c1 K;have M:(k:Int)<q:=eb;have T:(k:Int)<16:=eb;have X:(q:Int)+(k:Int)<16:=eb;have Z:IntKind.i64.wrap ((q:Int)+(k:Int))=((q+k:Nat):Int):=iE;have Y:wrap64 ((q:Int)+(k:Int))=((q+k:Nat):Int):=K0;go_wp2;go_roundw
       case rel=>exact ⟨k+1,eb,e8,o.out.1,o.out.2.1,o.out.2.2⟩
       case measure=>simp [intOf];omega
     . have N:k=q:=eb;have s:=aE b f g;clear b f g;have M:¬ ((k:Int)<q):=eb;go_wp2_with fail;refine (Gu (gm c q) rfl E _).mono ?_;rintro e w' ⟨rfl,rfl⟩;go_wp2;go_roundw
       case rel=>exact ⟨q*2,JQ l.out u,e8,by rw [Rh l.out u m],by have:=s.out.1;rwa [N,(eb:q+q=q*2)] at this,s.out.2.1,s.out.2.2⟩
       case measure=>have O:=l.out;unfold MP at O;simp only [intOf];omega
  . have z:q=16:=eb;subst z;obtain ⟨cs,D,x,t⟩:=b;obtain ⟨G,F,k0,_⟩:=f;have L:=pR x t;have J:=al t;have hi:(ZJ.info? 263).map (λi=>i.size)=ZW cs.size:=(by rw [Tryz.SL,x]);have r:=al hi;have I:=al D;have y:=al F;clear t hi D F;go_wp2_with (first
     | refine X6 rfl 263 (Z0 3) rfl (w.heap.size+1) rfl 263 cs (0,0) _ I.out XC rfl r.out ?_
     | refine V9 rfl 263 (Z0 2) (Z0 26) rfl w.heap.size cs rfl rfl 263 G y.out r.out eb L ?_)
    exact Uf (v:=.agg cs) (VG results194 _ _ w.heap.size 263 cs (0,0) _ rfl (U3 _ _ G cs _ _ y.out) XC rfl r.out) rfl ⟨cs,rfl,x,J.out,below_setRow g lR cs⟩
def Tryz.SJ:(ZJ.info? 301).map (λi=>i.size)=ZW 32:=ei
theorem Gv (c j:Nat) (a:c<256) (b:j<32):(if j<16 then fH c 16 j else fH (gm c 16) 16 (j-16))=rM c j:=by
 unfold fH rM;by_cases h:j<16
 . rw [if_pos h,if_pos h,if_pos h]
 . rw [if_neg h,if_neg h,if_pos eb,gu a ec eb];congr 1;have:∀ x,x<16->gm 16 x=x*16:=by decide +kernel
   exact this _ eb
def qZ (c:Nat):Array ZS:=((YC 32).map (λj=>Value.int .u8 ((if j<16 then fH c 16 j else fH (gm c 16) 16 (j-16):Nat):Int))).toArray
def jY (c:Nat):(qZ c).size=32:=by unfold qZ;rw [Uy,TZ,Uv]
def wO (c j:Nat) (b:c<256) (a:j<32):(qZ c)[j]?=ZW (tv (rM c) j):=by
 unfold qZ tv;simp only [WM,Ul,Ve a,Wv,Gv c j b a]
def DC (c:Nat):(ZJ.info? 301).map (λi=>i.size)=ZW (qZ c).size:=by rw [jY,Tryz.SJ]
def AP {f:Nat->Nat} (b:cs.size=16) (h:∀ j,j<16->cs[j]?=ZW (tv f j)) :
 cs=#[tv f 0,tv f 1,tv f 2,tv f 3,tv f 4,tv f 5,tv f 6,tv f 7,tv f 8,tv f 9,tv f 10,tv f 11,tv f 12,tv f 13,tv f 14,tv f 15]:=by
 have e:cs=((YC 16).map (tv f)).toArray:=by
  refine YL abQ λi a c=>?_;have:=h i eb;rw [Vr a] at this;simp at this ⊢;exact this
 exact e
theorem lI (c:Nat) (b:c<256) (w:ZT) :
 ZQ ZJ 179 #[Z7 .u8 c] w λe w'=>∃ cs:Array ZS,e=Z3 (.agg cs)/\cs.size=32/\(∀ j,j<32->cs[j]?=ZW (tv (rM c) j))/\ZR w.heap.size w w':=by
 have B:=Ph w;have D:gm c 16<256:=bD _ b;go_enter func179,ntmps179;go_wp2_with fail;refine (nj c b _).mono ?_;rintro e w1 ⟨z,rfl,r,p,a⟩;obtain rfl:=AP r p;clear r p;simp only [tv];go_wp2_with fail;refine (Pg c 16 rfl rfl b ec _).mono ?_;rintro e w' ⟨rfl,rfl⟩;go_wp2_with fail;refine (nj (gm c 16) D _).mono ?_;rintro e w2 ⟨A,rfl,s,q,g⟩;obtain rfl:=AP s q;clear s q;simp only [tv];obtain ⟨d,u,C,_⟩:=B;have t:w2.heap[w.heap.size]?=ZW (Z4 d 301 (0,0)):=(g.block _ (by have:=a.size;rw [Ug] at this;omega)).trans ((a.block _ K1).trans u);have n:=al t;have x:Hid (ZR w.heap.size w w2):=al (((bA w _).trans (a.mono K1)).trans (g.mono (by have:=a.size;rw [Ug] at this;omega)));clear a g u t;have f:=al (DC c);have m:Hid (d.size=(qZ c).size):=al (by rw [C,jY]);have k:=al (pR (jY c) (λj i=>wO c j b i));have l:Hid (∀ j,j<32->(qZ c)[j]?=ZW (tv (rM c) j)):=al (λj i=>wO c j b i);have o:=al (jY c);obtain ⟨cs,h⟩:=nM (qZ c);rw [h] at f m k l o;have y:=al h;clear h;go_wp2_with (refine V9 rfl 301 (Z0 2) (Z0 8) rfl w.heap.size cs rfl (by rw [<- y.out];rfl) 301 d n.out f.out m.out k.out ?_);refine Uf (v:=.agg cs) (VG results179 _ _ w.heap.size 301 cs (0,0) _ rfl (U3 _ _ d cs _ _ n.out) underlying301 rfl f.out) rfl ?_;exact ⟨cs,rfl,o.out,l.out,below_setRow x.out lR _⟩
def mJ (w:ZT) (t c:Nat):Prop:=∀ j,j<32->w.cell? ⟨t,j,ZX⟩=ZW (tv (rM c) j)
def Ng:∀ b,b<256->b=(b%16)^^^(b/16*16):=Lx
def JS (c b:Nat) (a:b<256):rM c (b%16)^^^rM c (16+b/16)=gm c b:=by
 unfold rM;rw [if_pos eb,if_neg eb,Wu,<- fL,<- Ng b a]
theorem Fi (c j:Nat) (a:c<256):rM c j<256:=by
 unfold rM;split<;>exact bD _ a
def Ri (b:Nat) (a:b<256):bits .and .u8 (b:Int) 15=((b%16:Nat):Int):=by
 rw [u8_and15 _ eb eb];rfl
theorem wP (t c b:Nat) (f:c<256) (d:b<256) (w:ZT) (ht:mJ w t c) :
 ZQ ZJ 180 #[Z6 (ZW ⟨t,0,ZX⟩),Z7 .u8 b] w λe w'=>e=Z3 (Z7 .u8 ((gm c b:Nat):Int))/\∃ m,w'=w.drewN m:=by
 have c1:=ht (b%16) eb;have g:=ht (16+b/16) eb;have i:=Fi c (b%16) f;have j:=Fi c (16+b/16) f;have a:=JS c b d;have k:=Ri b d;have h:=nC _ _ i j;unfold tv at c1 g;rw [a] at h;clear ht a;go_enter func180,ntmps180;go_wp2;go_quiet (fail);go_wp2;go_ret;exact ⟨rfl,_,rfl⟩
def gW (g F:Nat->Nat) (c off k j:Nat):Nat:=if off<=j/\j<off+k then g j^^^gm c (F (j-off)) else g j
def AdR (w:ZT) (b t N off k c tb fb foff:Nat) (g F:Nat->Nat) (i:ZS) (wr:ZT):Prop:=
 ∃ j:Nat,j<=k/\i=Z7 Z9 j/\wr.rowIs b t N (tv (gW g F c off j))/\mJ wr tb c/\(∀ i,i<k->wr.cell? ⟨fb,foff+i,ZX⟩=ZW (Z7 .u8 ((F i:Nat):Int)))/\w.grownBy wr (ZW b)
def DD (g F:Nat->Nat) (c off j x:Nat):tv (gW g F c off (j+1)) x=if x=off+j then Z7 .u8 ((g (off+j)^^^gm c (F j):Nat):Int) else tv (gW g F c off j) x:=by
 unfold tv gW;by_cases h:x=off+j
 . subst h;rw [if_pos rfl,if_pos eb,Wu]
 . rw [if_neg h];by_cases a:off<=x/\x<off+j
   . rw [if_pos a,if_pos eb]
   . rw [if_neg a,if_neg eb]
theorem DE (g F:Nat->Nat) (c off:Nat):gW g F c off 0=g:=by
 funext j;unfold gW;rw [if_neg eb]
theorem DF (g F:Nat->Nat) (off k:Nat):gW g F 0 off k=g:=by
 funext j;unfold gW;rw [cM,Vg];split<;>rfl
def rh (h:mJ w t c) {a:Addr} (b:t≠a.block) (v:ZS):mJ (w.setCell a v) t c:=λj d=>by
 rw [<- h j d];exact Uh (T7 _ _ _ _ b)
def nF (w:ZT) {ops:Array ZN} {rest:List ZN} {o:ZN} {a:ZM} {Q:ZO->ZM->ZT->Prop} (h:o.guard=ZX) (x y:ZK) (ho:o.op=.store 301 x y)
 (g c:Nat) (cs old:Array ZS) (m:a.eval x=Z6 (ZW ⟨g,0,ZX⟩)) (n:a.eval y=.agg cs) (f:w.heap[g]?=ZW (Z4 old 301 (0,0))) (hold:old.size=32) (d:cs.size=32) (b:∀ j,j<32->cs[j]?=ZW (tv (rM c) j))
 (hK:∀ w2,mJ w2 g c->w.grownBy w2 (ZW g)->wpList ZJ ops Q rest (a.put o.dst ZY) w2):wpList ZJ ops Q (o::rest) a w:=by
 refine V9 h 301 x y ho g cs m n 301 old f (by rw [Tryz.SJ,d]) eb (pR d b) (hK _ ?_ ?_)
 . intro j l;rw [cell_of_row _ g j cs 301 (0,0) (U3 w g old cs _ _ f)];exact b j l
 . refine ⟨rfl,rfl,rfl,ek,λk p i=>?_⟩;have:g≠k:=λe=>i Zc;simp [World.setRow,Vv,this]
theorem jq (b t N off n cap l d q c:Nat) (g F:Nat->Nat) (w:ZT) (B:c<256) (z:w.rowIs b t N (tv g)) (L:∀ j,g j<256) (H:∀ j,F j<256) (hn:off+n<=N) (k6:n<=140737488355328)
 (R:∀ i,i<n->w.cell? ⟨l,d+i,ZX⟩=ZW (Z7 .u8 ((F i:Nat):Int))) (k7:l≠b\/d+n<=off\/off+n<=d) :
 ZQ ZJ 164 #[Z5 (ZW ⟨b,off,ZX⟩) n cap,Z5 (ZW ⟨l,d,ZX⟩) n q,Z7 .u8 c] w λe w'=>e=Z3 (ZZ #[])/\w'.rowIs b t N (tv (gW g F c off n))/\w.grownBy w' (ZW b):=by
 by_cases E:c=0
 . subst E;go_enter func164,ntmps164;go_wp2;exact Uf (v:=ZZ #[]) ZG rfl ⟨rfl,by rw [DF];exact z,Wh _ _⟩
 . have ke:((c:Int)==0)=ZU:=B8;clear E;go_enter func164,ntmps164;go_wp2_with fail;refine (lI c B _).mono ?_;rintro e w1 ⟨cs,rfl,kb,G,o⟩;have ka:=o.size;go_wp2_with (refine nF _ rfl (Z0 6) (Z0 11) rfl w1.heap.size c cs _ rfl rfl (UG w1 _) rfl kb G ?_;intro w2 K p);have M:b<w.heap.size:=z.lt;have h:w.grownBy w2 ZX:=by
    refine ⟨p.os.trans o.os,p.tape.trans o.tape,p.output.trans o.output,?_,λk C _=>?_⟩
    . have:=p.size;rw [Ug] at this;omega
    . rw [p.block k K1 (by intro e;simp at e;omega),Ut _ _ _ eb,o.block k C]
   have U:w2.rowIs b t N (tv g):=z.of_block (h.block b M ek);have P:∀ i,i<n->w2.cell? ⟨l,d+i,ZX⟩=ZW (Z7 .u8 ((F i:Nat):Int)):=λi hi=>by
    have:=R i hi;exact h.cell this ek
   have W:w.grownBy w2 (ZW b):=⟨h.os,h.tape,h.output,h.size,λk C _=>h.block k C ek⟩;have kc:w1.heap.size≠b:=eb;clear p h z R G o ka M;go_loopw [17] (λi wr=>AdR w b t N off n c w1.heap.size l d g F i wr) (λi _=>n-(intOf i).toNat)
   case atStart=>exact ⟨0,T3 _,rfl,by rw [DE];exact U,K,P,W⟩
   case round=>
    clear K P W U;obtain ⟨j,O,rfl,r,s,u,A⟩:=hrel;by_cases k9:j<n
    . have c1:=r.cell (i:=off+j) eb;have f1:=r.frozen (off+j);have Y:=u j k9;have D:tv (gW g F c off j) (off+j)=Z7 .u8 ((g (off+j):Nat):Int):=(by unfold tv gW;rw [if_neg eb]);rw [D] at c1;have T:=nC (g (off+j)) (gm c (F j)) (L _) (bD _ B);have V:=(r.set (off+j) (Z7 .u8 ((g (off+j)^^^gm c (F j):Nat):Int))).congr (λx _=>(DD g F c off j x).symm);have J:=rh s (a:=⟨b,off+j,ZX⟩) kc (Z7 .u8 ((g (off+j)^^^gm c (F j):Nat):Int));have S:=eY A (off+j) (Z7 .u8 ((g (off+j)^^^gm c (F j):Nat):Int));have Q:∀ i,i<n->(wr.setCell ⟨b,off+j,ZX⟩ (Z7 .u8 ((g (off+j)^^^gm c (F j):Nat):Int))).cell? ⟨l,d+i,ZX⟩=ZW (Z7 .u8 ((F i:Nat):Int)):=λi hi=>by
       rw [<- u i hi];by_cases Z:l=b
       . exact World.cell?_setCell_other _ _ _ _ (by intro e;have h1:off+j=d+i:=congrArg Addr.off e;omega)
       . exact Uh (T7 _ _ _ _ Z)
      have I:=H j;have f:=a5 V J Q S;have X:=al s;generalize F j=y at Y T I f;generalize g (off+j)=x at c1 T f;clear D V J S Q r s u A L H;go_wp2;go_region_with ((go_at_call 180;refine (wP w1.heap.size c y B I _ (by exact λj O=>X.out j O)).mono ?_;rintro e w' ⟨rfl,m,rfl⟩));all_goals
       go_wp2;go_roundw
       case rel=>exact ⟨j+1,eb,e8,f.out.1,f.out.2.1,f.out.2.2.1,⟨f.out.2.2.2.os,f.out.2.2.2.tape,f.out.2.2.2.output,f.out.2.2.2.size,f.out.2.2.2.block⟩⟩
       case measure=>simp [intOf];omega
    . have k8:j=n:=eb;subst k8;clear s u;go_wp2;go_end0
      exact ⟨rfl,r,A⟩
def fI (D i:Nat):a9:=(YD D 0).set i 1
theorem AQ (D L G i:Nat) (f:D<=12) (hi:i<D) (w:ZT) :
 ZQ ZJ 137 #[.agg #[Z7 Z9 D,Z7 Z9 L,Z7 Z9 G],Z7 Z9 i] w λe w'=>∃ b,e=Z3 (Z5 (ZW ⟨b,0,ZX⟩) D D)/\w.heap.size<=b/\aM w' b (fI D i)/\ZR w.heap.size w w':=by
 go_enter func137,ntmps137;go_wp2_with (at_make;refine eo _ rfl (Z0 7) (Z0 7) rfl D D rfl rfl rfl eb ?_;intro w1 a c d;rw [Ug] at a c d;have g:=a.cell i (vE hi);have h:=a.frozen i);go_ret;refine ⟨w.heap.size+1,rfl,eb,?_,?_⟩
 . exact a.set i 1
 . exact ((bA _ _).trans (c.mono eb)).setCell ek _
def eR (D L g:Nat):a9:=(YC D).map λj=>if g*(D/L)<=j/\j<(g+1)*(D/L) then 1 else 0
def iZ (D s k:Nat):a9:=(YC D).map λj=>if s<=j/\j<k then 1 else 0
theorem vD (D s:Nat):iZ D s s=YD D 0:=by
 unfold iZ;apply U4
 . simp
 . intro i a b;simp
theorem ze (D s k:Nat) (d:s<=k):(iZ D s k).set k 1=iZ D s (k+1):=by
 unfold iZ;apply U4
 . simp
 . intro i b c;simp [YG];by_cases e:k=i
   . subst e;simp;omega
   . simp only [if_neg e];by_cases a:s<=i/\i<k
     . rw [if_pos a,if_pos ⟨a.1,eb⟩]
     . rw [if_neg a,if_neg eb]
def JT {D L:Nat} (a:D%L=0) (b:g<L):(g+1)*(D/L)<=D:=by
 have:(g+1)*(D/L)<=L*(D/L):=Xd _ b;have:L*(D/L)=D:=Nat.mul_div_cancel' (Nat.dvd_of_mod_eq_zero a);omega
theorem zf (D L G g:Nat) (E:D<=12) (F:1<=L) (H:L<=4) (n:D%L=0) (y:g<L) (w:ZT) :
 ZQ ZJ 138 #[.agg #[Z7 Z9 D,Z7 Z9 L,Z7 Z9 G],Z7 Z9 g] w λe w'=>∃ b,e=Z3 (Z5 (ZW ⟨b,0,ZX⟩) D D)/\w.heap.size<=b/\aM w' b (eR D L g)/\ZR w.heap.size w w':=by
 have M:=JT n y;have N:D/L<=D:=VK _ _;have f:eR D L g=iZ D (g*(D/L)) ((g+1)*(D/L)):=rfl;have B:wrap64 ((D:Int)/(L:Int))=((D/L:Nat):Int):=by
  rw [<- X4];exact sU eb
 generalize D/L=q at *;have r:g*q<=(g+1)*q:=Xd _ eb;have m:wrap64 ((g:Int)*(q:Int))=((g*q:Nat):Int):=by
  rw [<- XD];unfold wrap64;omega
 have C:wrap64 (((g:Int)+1)*(q:Int))=(((g+1)*q:Nat):Int):=by
  have:((g:Int)+1)*(q:Int)=(((g+1)*q:Nat):Int):=by push_cast;rfl
  rw [this];unfold wrap64;omega
 generalize g*q=s at *;generalize (g+1)*q=t at *;have l:=al f;clear f;go_enter func138,ntmps138;go_wp2_with (at_make;refine eo _ rfl (Z0 9) (Z0 9) rfl D D rfl rfl rfl eb ?_;intro w1 d a A;rw [Ug] at d a A;have z:=a.cell (p:=⟨w.heap.size,0,ZX⟩) ek;have x:=a.cell (p:=⟨w.heap.size,1,ZX⟩) ek);rw [<- vD D s] at d;go_loopw [7] (λi wr=>∃ k:Nat,s<=k/\k<=t/\i=Z7 Z9 k/\aM wr (w.heap.size+1) (iZ D s k)/\ZR w.heap.size w wr) (λi _=>t-(intOf i).toNat)
 case atStart=>exact ⟨s,TV _,r,by rw [m],d,(bA _ _).trans (a.mono eb)⟩
 case round=>
  obtain ⟨k,u,J,rfl,c,j⟩:=hrel;clear d a z x;by_cases hi:k<t
  . have I:=c.cell k (by simp [iZ];omega);have K:=c.frozen k;have h:=c.set k 1;rw [ze _ _ _ u] at h;have o:=j.setCell (p:=⟨w.heap.size+1,k,ZX⟩) ek (Z7 .u8 1);go_wp2;go_roundw
    case rel=>exact ⟨k+1,eb,eb,e8,h,o⟩
    case measure=>simp [intOf];omega
  . have v:k=t:=eb;subst v;go_wp2;go_ret;exact ⟨w.heap.size+1,rfl,eb,by rw [l.out];exact c,j⟩
def dn (D i:Nat):a9:=(YC D).map λj=>gi ((D+i)^^^j)
def fx (D i k:Nat):a9:=(YC D).map λj=>if j<k then gi ((D+i)^^^j) else 0
theorem tc (D i:Nat):fx D i 0=YD D 0:=by
 unfold fx;apply U4
 . simp
 . intro j a b;simp
theorem zg (D i:Nat):fx D i D=dn D i:=by
 unfold fx dn;apply U4
 . simp
 . intro j a b;simp at a;simp [a]
theorem vF (D i k:Nat):(fx D i k).set k (gi ((D+i)^^^k))=fx D i (k+1):=by
 unfold fx;apply U4
 . simp
 . intro j b c;simp [YG];by_cases e:k=j
   . subst e;simp
   . simp only [if_neg e];by_cases a:j<k
     . rw [if_pos a,if_pos eb]
     . rw [if_neg a,if_neg eb]
theorem JU (D i j:Nat) (a:D<=12) (hi:i<=4) (b:j<D):(D+i)^^^j<256/\bits .xor .i64 ((D:Int)+(i:Int)) (j:Int)=(((D+i)^^^j:Nat):Int):=by
 refine ⟨xlt eb eb,?_⟩;have:=M3 (D+i) j eb eb;rw [<- this];congr 1
theorem vG (D L G i:Nat) (s:D<=12) (hi:i<=4) (w:ZT) :
 ZQ ZJ 139 #[.agg #[Z7 Z9 D,Z7 Z9 L,Z7 Z9 G],Z7 Z9 i] w λe w'=>∃ b,e=Z3 (Z5 (ZW ⟨b,0,ZX⟩) D D)/\w.heap.size<=b/\aM w' b (dn D i)/\ZR w.heap.size w w':=by
 go_enter func139,ntmps139;go_wp2_with (at_make;refine eo _ rfl (Z0 8) (Z0 8) rfl D D rfl rfl rfl eb ?_;intro w1 c d t;rw [Ug] at c d t;have f:=d.cell (p:=⟨w.heap.size,0,ZX⟩) ek);rw [<- tc D i] at c;simp at f;go_loopw [12] (λj wr=>∃ k:Nat,k<=D/\j=Z7 Z9 k/\aM wr (w.heap.size+1) (fx D i k)/\wr.cell? ⟨w.heap.size,0,ZX⟩=ZW (Z7 Z9 D)/\ZR w.heap.size w wr) (λj _=>D-(intOf j).toNat)
 case atStart=>exact ⟨0,T3 _,rfl,c,f,(bA _ _).trans (d.mono eb)⟩
 case round=>
  obtain ⟨k,A,rfl,a,q,h⟩:=hrel;clear c d f;by_cases n:k<D
  . have y:=a.cell k (by simp [fx];omega);have z:=a.frozen k;obtain ⟨r,u⟩:=JU D i k s hi n;have g:=a.set k (gi ((D+i)^^^k));rw [vF] at g;have l:=h.setCell (p:=⟨w.heap.size+1,k,ZX⟩) ek (Z7 .u8 (gi ((D+i)^^^k)));have o:(wr.setCell ⟨w.heap.size+1,k,ZX⟩ (Z7 .u8 (gi ((D+i)^^^k)))).cell? ⟨w.heap.size,0,ZX⟩=ZW (Z7 Z9 D):=(by rw [<- q];exact Uh (T7 _ _ _ _ ek));generalize (D+i)^^^k=x at *;have v:(x:Int)<256:=eb;go_wp2_with (go_at_call 163;refine (rX x r _).mono ?_;rintro e w' ⟨rfl,rfl⟩);go_roundw
    case rel=>exact ⟨k+1,eb,e8,g,o,l⟩
    case measure=>simp [intOf];omega
  . have m:k=D:=eb;subst m;rw [zg] at a;go_wp2;go_ret;exact ⟨w.heap.size+1,rfl,eb,a,h⟩
def bE (D L G:Nat):List a9:=(YC D).map (fI D)++(YC L).map (eR D L)++(YC G).map (dn D)
def cO (T:List (Nat×Nat×a9)) (D:Nat) (M:List a9):Prop:=T.map (λp=>p.2)=M.map (λr=>(D,r))
def cO.push {D:Nat} (h:cO T D M) (b:Nat) (r:a9):cO (T++[(b,D,r)]) D (M++[r]):=by
 unfold cO at *;simp [h]
theorem cO.length {D:Nat} (h:cO T D M):T.length=M.length:=by
 have:=congrArg List.length h;simpa using this
def JV (D i:Nat):(fI D i).length=D/\∀ x∈fI D i,x<256:=by
 refine ⟨by simp [fI],λx a=>?_⟩;rcases XE a with h|h
 . have:=Vn h;omega
 . omega
theorem Gw (D L g:Nat):(eR D L g).length=D/\∀ x∈eR D L g,x<256:=by
 refine ⟨by simp [eR],λx a=>?_⟩;obtain ⟨j,_,rfl⟩:=T1.1 a;split<;>decide
def DG (D i:Nat) (c:D<=12) (hi:i<=4):(dn D i).length=D/\∀ x∈dn D i,x<256:=by
 refine ⟨by simp [dn],λx b=>?_⟩;obtain ⟨j,a,rfl⟩:=T1.1 b;exact lz (xlt eb (eT (Uq.1 a)))
def iU.append {D:Nat} {r:a9} {o:Obj} (h:iU w base v T) (g:ZR w.heap.size w w1) (k:base<=w.heap.size) (l:w.heap.size<=b) (f:aM w1 b r) (a:r.length=D/\∀ x∈r,x<256) (m:D<=1000000)
 (i:(w1.alloc o).grownBy w2 v.ownBlock) (c:w2.ownsRow base 31 1 v' (T.length+1) (T.map jT++[Z5 (ZW ⟨b,0,ZX⟩) D D])):iU w2 base v' (T++[(b,D,r)]):=by
 have d:=(h.below g).alloc o;refine d.push i (p:=(b,D,r)) ?_ ⟨by show base<=b;omega,f.alloc o,by show D<=r.length;omega,⟨by show D<=140737488355328;omega,by show r.length<=9223372036854775807;omega⟩,a.2⟩ ?_
 . have e:jT (b,D,r)=Z5 (ZW ⟨b,0,ZX⟩) D D:=(by unfold jT;simp [a.1]);rw [e];exact c
 . intro q j;have:=(h.row q j).2.1.lt;show q.1≠b;omega
def fQ {wx:ZT} {a b c:ZS} {t:ZL} (h:ZR (w.heap.size+1) (w.alloc (Z4 #[a,b,c] t)) wx) :
 wx.cell? ⟨w.heap.size,0,ZX⟩=ZW a/\wx.cell? ⟨w.heap.size,1,ZX⟩=ZW b/\wx.cell? ⟨w.heap.size,2,ZX⟩=ZW c:=by
 have d:=h.cell (p:=⟨w.heap.size,0,ZX⟩) ek;have e:=h.cell (p:=⟨w.heap.size,1,ZX⟩) ek;have f:=h.cell (p:=⟨w.heap.size,2,ZX⟩) ek;rw [World.cell?_alloc_at _ _ _ _ rfl] at d e f;exact ⟨d,e,f⟩
def DH {wa wb:ZT} (c:ZR B w0 wa) (b:B<=wa.heap.size) (a:ZR wa.heap.size wa wb) (d:wb.grownBy wc ZX):ZR B w0 wc:=
 (c.trans (a.mono b)).grown d (eT a.size) (λk e=>by simp at e)
def iU.made (h:wc.ownsRow base 31 1 (Z5 (ZW ⟨g,0,ZX⟩) 0 cap) 0 []):iU wc base (Z5 (ZW ⟨g,0,ZX⟩) 0 cap) []:=
 ⟨h,λp a=>ZH,ek⟩
def cO.nil (D:Nat):cO [] D []:=rfl
def nG (f:Nat->α) (k:Nat):(YC (k+1)).map f=(YC k).map f++[f k]:=by
 rw [Vl,Uu];rfl
theorem jZ (D L G:Nat) (X:cJ D L G=ZV) (C:D<=12) (R:1<=L) (U:L<=4) (W:G<=4) (S:D%L=0) (w:ZT) :
 ZQ ZJ 100 #[.agg #[Z7 Z9 D,Z7 Z9 L,Z7 Z9 G]] w λe w'=>∃ v T,e=Z3 (ZZ #[v,.nilIface])/\iU w' (w.heap.size+1) v T/\cO T D (bE D L G)/\ZR w.heap.size w w':=by
 obtain ⟨I,hi,E,F,H⟩:=Ur Tryz.Sy;go_enter func100,ntmps100;go_wp2_with fail;refine (pQ D L G _).mono ?_;rintro e wa ⟨rfl,x⟩;rw [Ug] at x;have Q:=x.size;rw [Ug] at Q;obtain ⟨o,p,q⟩:=fQ x;go_wp2_with fail;refine (dU D L G _ eb eb eb).mono ?_;rintro e V ⟨rfl,J⟩;have Y:=J.size;clear o p q;go_wp2_with (at_make;refine abe _ rfl (.const (Z7 Z9 0)) (Z0 13) 176 rfl (w.heap.size+1) 31 I (Z5 ZX 0 0) 1 Wl hi E F .i64 .i64 (D+L+G) (D+L+G) rfl rfl eb (by rw [H];omega) eD eb ?_;intro wc O M;have K:=DH x Q J M;obtain ⟨o,p,q⟩:=fQ K);have a:=iU.made O;have Z:=M.size;clear O M x J;generalize Value.slice (ZW ⟨V.heap.size,0,ZX⟩) 0 (D+L+G)=v0 at *;go_loopw [4,17] (λv i wr=>∃ k T,k<=D/\i=Z7 Z9 (k:Nat)/\iU wr (w.heap.size+1) v T/\cO T D ((YC k).map (fI D))/\ZR (w.heap.size+1) (w.alloc (Z4 #[Z7 Z9 D,Z7 Z9 L,Z7 Z9 G] 26)) wr/\w.heap.size+1<=wr.heap.size) (λ_ i _=>D-(intOf i).toNat)
 case atStart=>exact ⟨0,[],T3 _,rfl,a,cO.nil D,K,eb⟩
 case round=>
  clear a K o p q;obtain ⟨k,T,B,rfl,a,d,f,j⟩:=hrel;obtain ⟨o,p,q⟩:=fQ f;by_cases r:k<D
  . have m:=d.length;rw [TZ,Uv] at m;have N:T.length<=12:=eb;clear m;have h:=al d;clear d;go_wp2_with fail;refine (AQ D L G k C r _).mono ?_;rintro e w1 ⟨b,rfl,t,n,c⟩;have P:=c.size;go_wp2_with (at_builtin;refine X7 _ rfl (Z0 20) (Z0 24) 176 rfl (w.heap.size+1) 31 I (Z5 ZX 0 0) 1 24 Wl hi E F H rfl ec _ T.length (T.map jT) rfl ((a.below c).alloc _).own ⟨w1.heap.size,0,ZX⟩ 1 1 [Z5 (ZW ⟨b,0,ZX⟩) D D] rfl rfl (XY _ _ _) Zm eD eb K1 ?_;intro v' w2 l g z);have s:=iU.append a c j t n (JV D k) eb g l;have u:=jW a f c j g;have A:=g.size;rw [Ug] at A;clear a l g z n c f;go_roundw
    case rel=>exact ⟨k+1,_,eb,e8,s,by rw [nG];exact h.out.push b _,u,eb⟩
    case measure=>simp [intOf];omega
  . have y:D=k:=eb;clear r B;subst y;have h:=al d;clear d;go_wp2_with fail;go_loopw [4,29] (λv i wr=>∃ k T,k<=L/\i=Z7 Z9 (k:Nat)/\iU wr (w.heap.size+1) v T/\cO T D ((YC D).map (fI D)++(YC k).map (eR D L))/\ZR (w.heap.size+1) (w.alloc (Z4 #[Z7 Z9 D,Z7 Z9 L,Z7 Z9 G] 26)) wr/\w.heap.size+1<=wr.heap.size) (λ_ i _=>L-(intOf i).toNat)
    case atStart=>exact ⟨0,T,T3 _,rfl,a,by rw [YW,U5,V7];exact h.out,f,j⟩
    case round=>
     clear a f o p q h j;obtain ⟨k,T,B,rfl,a,d,f,j⟩:=hrel;obtain ⟨o,p,q⟩:=fQ f;by_cases r:k<L
     . have m:=d.length;simp only [T5,TZ,Uv] at m;have N:T.length<=20:=eb;clear m;have h:=al d;clear d;go_wp2_with fail;refine (zf D L G k C R U S r _).mono ?_;rintro e w1 ⟨b,rfl,t,n,c⟩;have P:=c.size;go_wp2_with (at_builtin;refine X7 _ rfl (Z0 32) (Z0 36) 176 rfl (w.heap.size+1) 31 I (Z5 ZX 0 0) 1 24 Wl hi E F H rfl ec _ T.length (T.map jT) rfl ((a.below c).alloc _).own ⟨w1.heap.size,0,ZX⟩ 1 1 [Z5 (ZW ⟨b,0,ZX⟩) D D] rfl rfl (XY _ _ _) Zm eD eb K1 ?_;intro v' w2 l g z);have s:=iU.append a c j t n (Gw D L k) eb g l;have u:=jW a f c j g;have A:=g.size;rw [Ug] at A;clear a l g z n c f;go_roundw
       case rel=>exact ⟨k+1,_,eb,e8,s,by rw [nG,<- UI];exact h.out.push b _,u,eb⟩
       case measure=>simp [intOf];omega
     . have y:L=k:=eb;clear r B;subst y;have h:=al d;clear d;go_wp2_with fail;go_loopw [4,41] (λv i wr=>∃ k T,k<=G/\i=Z7 Z9 (k:Nat)/\iU wr (w.heap.size+1) v T/\cO T D (((YC D).map (fI D)++(YC L).map (eR D L))++(YC k).map (dn D))/\ZR (w.heap.size+1) (w.alloc (Z4 #[Z7 Z9 D,Z7 Z9 L,Z7 Z9 G] 26)) wr/\w.heap.size+1<=wr.heap.size) (λ_ i _=>G-(intOf i).toNat)
       case atStart=>exact ⟨0,T,T3 _,rfl,a,by rw [YW,U5,V7];exact h.out,f,j⟩
       case round=>
        clear a f o p q h j;obtain ⟨k,T,B,rfl,a,d,f,j⟩:=hrel;obtain ⟨o,p,q⟩:=fQ f;by_cases r:k<G
        . have m:=d.length;simp only [T5,TZ,Uv] at m;have N:T.length<=20:=eb;clear m;have h:=al d;clear d;go_wp2_with fail;refine (vG D L G k C eb _).mono ?_;rintro e w1 ⟨b,rfl,t,n,c⟩;have P:=c.size;go_wp2_with (at_builtin;refine X7 _ rfl (Z0 44) (Z0 48) 176 rfl (w.heap.size+1) 31 I (Z5 ZX 0 0) 1 24 Wl hi E F H rfl ec _ T.length (T.map jT) rfl ((a.below c).alloc _).own ⟨w1.heap.size,0,ZX⟩ 1 1 [Z5 (ZW ⟨b,0,ZX⟩) D D] rfl rfl (XY _ _ _) Zm eD eb K1 ?_;intro v' w2 l g z);have s:=iU.append a c j t n (DG D k C eb) eb g l;have u:=jW a f c j g;have A:=g.size;rw [Ug] at A;clear a l g z n c f;go_roundw
          case rel=>exact ⟨k+1,_,eb,e8,s,by rw [nG,<- UI];exact h.out.push b _,u,eb⟩
          case measure=>simp [intOf];omega
        . have y:G=k:=eb;clear r B;subst y;have h:=al d;clear d;go_wp2;go_ret2;refine ⟨_,T,rfl,a,h.out,?_⟩;exact (bA _ _).trans (f.mono eb)
def vH (D:List a9):Prop:=D.length<=64/\∀ i (hi:i<D.length),(D[i]).length<=64
def Po (D:List a9) (w:ZT) (e:ZP) (w':ZT):Prop:=(vH D->∃ k:Nat,k<=64/\e=Z3 (Z7 Z9 k)/\sH D k)/\(¬ vH D->e=Z3 (Z7 Z9 (-1)))/\ZR w.heap.size w w'
def bC {Q:ZO->ZM->ZT->Prop} {a:ZM} {B:ZT->Prop} {S:ZT->Prop} (i:(execOp a.eval o).run P w=.ok (.value v) w') (f:∀ c,o.op≠.defer c) {d:Nat} (g:o.dst=ZW d) (h:B w'/\Vi v w'/\S w') :
 o.wpIn Fence.wide n P a w (λb w'=>∃ v,b=a.put o.dst v/\(o.dst=ZX->v=ZY)/\B w'/\Vi v w'/\S w') Q:=by
 refine ⟨λ_ _=>trivial,?_⟩;rw [V8 _ _ _ f,i];exact ⟨v,rfl,λe=>(by rw [g] at e;cases e),h.1,h.2.1,h.2.2⟩
def oz {Q:ZO->ZM->ZT->Prop} {a:ZM} {B:ZT->Prop} {S:ZT->Prop} (e:(execOp a.eval o).run P w=.ok .skip w') (d:∀ c,o.op≠.defer c) (h:B w'/\Vi ZY w'/\S w') :
 o.wpIn Fence.wide n P a w (λb w'=>∃ v,b=a.put o.dst v/\(o.dst=ZX->v=ZY)/\B w'/\Vi v w'/\S w') Q:=by
 refine ⟨λ_ _=>trivial,?_⟩;rw [V8 _ _ _ d,e];exact ⟨ZY,rfl,λ_=>rfl,h.1,h.2.1,h.2.2⟩
def oA {Q:ZO->ZM->ZT->Prop} {a:ZM} {B:ZT->Prop} {S:ZT->Prop} (l:(execOp a.eval o).run P w=.ok (.enter f args) w1) (g:∀ c,o.op≠.defer c) {d:Nat} (k:o.dst=ZW d) (j:ZQ P f args w1 Rr)
 (h:∀ e w',Rr e w'->∃ v,e=Z3 v/\B w'/\Vi v w'/\S w'):o.wpIn Fence.wide n P a w (λb w'=>∃ v,b=a.put o.dst v/\(o.dst=ZX->v=ZY)/\B w'/\Vi v w'/\S w') Q:=by
 refine ⟨λ_ _=>trivial,?_⟩;rw [V8 _ _ _ g,l];refine ⟨λh=>Bf,(U6.2 (j.mono λe w' i=>?_))⟩;obtain ⟨v,rfl,m,p,q⟩:=h e w' i;exact ⟨v,rfl,λe=>(by rw [k] at e;cases e),m,p,q⟩
def OI (ds:List (Option Nat)) (l1 n1 l2 n2:Nat):Bool:=ds.all λx=>match x with
 | none=>ZV
 | some d=>(decide (l1<=d)&&decide (d<l1+n1)) || (decide (l2<=d)&&decide (d<l2+n2))
def Rj {a a':ZM} {l1 l2:Nat} {vs1 vs2:List ZS} {ds:List (Option Nat)} (g:a'.tmps.size=a.tmps.size) (h:a'.defers=a.defers) (f:∀ s,(∀ x∈ds,x≠ZW s)->a'.eval (.tmp s)=a.eval (.tmp s)) (b:OI ds l1 vs1.length l2 vs2.length=ZV)
 (r:l1+vs1.length<=l2) (m:l2+vs2.length<=a.tmps.size) (j:∀ i,i<vs1.length->a'.eval (.tmp (l1+i))=vs1.getD i ZY) (k:∀ i,i<vs2.length->a'.eval (.tmp (l2+i))=vs2.getD i ZY):a'=Act.RL (Act.RL a l1 vs1) l2 vs2:=by
 obtain ⟨d,o⟩:=fu vs1 a l1;obtain ⟨p,q⟩:=fu vs2 (Act.RL a l1 vs1) l2;refine yY (g.trans (p.trans d).symm) (h.trans (q.trans o).symm) λs _=>?_;rw [fv vs2 _ l2 s (by rw [d];exact m)];by_cases e:l2<=s/\s<l2+vs2.length
 . rw [if_pos e];have:=k (s-l2) eb;rwa [(eb:l2+(s-l2)=s)] at this
 . rw [if_neg e,fv vs1 a l1 s eb];by_cases c:l1<=s/\s<l1+vs1.length
   . rw [if_pos c];have:=j (s-l1) eb;rwa [(eb:l1+(s-l1)=s)] at this
   . rw [if_neg c];refine f s λx n l=>?_;unfold OI at b;rw [Xa] at b;have:=b x n;rw [l] at this;simp at this;omega
def Fj {a a':ZM} (h:∀ s,(∀ i,i<sh.length->(bT sh i).2.1≠ZW s)->a'.eval (.tmp s)=a.eval (.tmp s)):∀ s,(∀ x∈sh.map (λx=>x.2.1),x≠ZW s)->a'.eval (.tmp s)=a.eval (.tmp s):=λs b=>h s λi hi e=>b _ (T1.2 ⟨sh[i],T4 hi,rfl⟩) (by
 have:bT sh i=sh[i]:=by simp [bT,hi]
 rw [<- this];exact e)
def mid (f:Nat->ZS) (g F:Nat->Nat) (c off k j:Nat):ZS:=if off<=j/\j<off+k then Z7 .u8 ((g j^^^gm c (F (j-off)):Nat):Int) else f j
def AdM (w:ZT) (b t N off k c tb fb foff:Nat) (f:Nat->ZS) (g F:Nat->Nat) (i:ZS) (wr:ZT):Prop:=
 ∃ j:Nat,j<=k/\i=Z7 Z9 j/\wr.rowIs b t N (mid f g F c off j)/\mJ wr tb c/\(∀ i,i<k->wr.cell? ⟨fb,foff+i,ZX⟩=ZW (Z7 .u8 ((F i:Nat):Int)))/\w.grownBy wr (ZW b)
def JW (f:Nat->ZS) (g F:Nat->Nat) (c off j x:Nat):mid f g F c off (j+1) x=if x=off+j then Z7 .u8 ((g (off+j)^^^gm c (F j):Nat):Int) else mid f g F c off j x:=by
 unfold mid;by_cases h:x=off+j
 . subst h;rw [if_pos rfl,if_pos eb,Wu]
 . rw [if_neg h];by_cases a:off<=x/\x<off+j
   . rw [if_pos a,if_pos eb]
   . rw [if_neg a,if_neg eb]
theorem JX (f:Nat->ZS) (g F:Nat->Nat) (c off:Nat):mid f g F c off 0=f:=by
 funext j;unfold mid;rw [if_neg eb]
theorem JY {f:Nat->ZS} {g F:Nat->Nat} (a:∀ j,off<=j->j<off+n->f j=Z7 .u8 ((g j:Nat):Int)) (j:Nat):mid f g F 0 off n j=f j:=by
 unfold mid;split
 . rename_i h;rw [cM,Vg,a j h.1 h.2]
 . rfl
theorem zh (b t N off n cap o d r c:Nat) (f:Nat->ZS) (g F:Nat->Nat) (w:ZT) (D:c<256) (A:w.rowIs b t N f) (B:∀ j,off<=j->j<off+n->f j=Z7 .u8 ((g j:Nat):Int)) (M:∀ j,g j<256) (J:∀ j,F j<256) (hn:off+n<=N) (k7:n<=140737488355328)
 (T:∀ i,i<n->w.cell? ⟨o,d+i,ZX⟩=ZW (Z7 .u8 ((F i:Nat):Int))) (k8:o≠b\/d+n<=off\/off+n<=d) :
 ZQ ZJ 164 #[Z5 (ZW ⟨b,off,ZX⟩) n cap,Z5 (ZW ⟨o,d,ZX⟩) n r,Z7 .u8 c] w λe w'=>e=Z3 (ZZ #[])/\w'.rowIs b t N (mid f g F c off n)/\w.grownBy w' (ZW b):=by
 by_cases H:c=0
 . subst H;go_enter func164,ntmps164;go_wp2;exact Uf (v:=ZZ #[]) ZG rfl ⟨rfl,A.congr (λj _=>(JY B j).symm),Wh _ _⟩
 . have kf:((c:Int)==0)=ZU:=B8;clear H;go_enter func164,ntmps164;go_wp2_with fail;refine (lI c D _).mono ?_;rintro e w1 ⟨cs,rfl,kc,I,p⟩;have kb:=p.size;go_wp2_with (refine nF _ rfl (Z0 6) (Z0 11) rfl w1.heap.size c cs _ rfl rfl (UG w1 _) rfl kc I ?_;intro w2 O q);have Q:b<w.heap.size:=A.lt;have l:w.grownBy w2 ZX:=by
    refine ⟨q.os.trans p.os,q.tape.trans p.tape,q.output.trans p.output,?_,λk E _=>?_⟩
    . have:=q.size;rw [Ug] at this;omega
    . rw [q.block k K1 (by intro e;simp at e;omega),Ut _ _ _ eb,p.block k E]
   have W:w2.rowIs b t N f:=A.of_block (l.block b Q ek);have R:∀ i,i<n->w2.cell? ⟨o,d+i,ZX⟩=ZW (Z7 .u8 ((F i:Nat):Int)):=λi hi=>by
    have:=T i hi;exact l.cell this ek
   have Y:w.grownBy w2 (ZW b):=⟨l.os,l.tape,l.output,l.size,λk E _=>l.block k E ek⟩;have ke:w1.heap.size≠b:=eb;clear q l A T I p kb Q;go_loopw [17] (λi wr=>AdM w b t N off n c w1.heap.size o d f g F i wr) (λi _=>n-(intOf i).toNat)
   case atStart=>exact ⟨0,T3 _,rfl,by rw [JX];exact W,O,R,Y⟩
   case round=>
    clear O R Y W;obtain ⟨j,P,rfl,s,u,z,C⟩:=hrel;by_cases ka:j<n
    . have c1:=s.cell (i:=off+j) eb;have f1:=s.frozen (off+j);have c2:=z j ka;have G:mid f g F c off j (off+j)=Z7 .u8 ((g (off+j):Nat):Int):=(by unfold mid;rw [if_neg eb];exact B _ eb eb);rw [G] at c1;have U:=nC (g (off+j)) (gm c (F j)) (M _) (bD _ D);have X:=(s.set (off+j) (Z7 .u8 ((g (off+j)^^^gm c (F j):Nat):Int))).congr (λx _=>(JW f g F c off j x).symm);have L:=rh u (a:=⟨b,off+j,ZX⟩) ke (Z7 .u8 ((g (off+j)^^^gm c (F j):Nat):Int));have V:=eY C (off+j) (Z7 .u8 ((g (off+j)^^^gm c (F j):Nat):Int));have S:∀ i,i<n->(wr.setCell ⟨b,off+j,ZX⟩ (Z7 .u8 ((g (off+j)^^^gm c (F j):Nat):Int))).cell? ⟨o,d+i,ZX⟩=ZW (Z7 .u8 ((F i:Nat):Int)):=λi hi=>by
       rw [<- z i hi];by_cases k6:o=b
       . exact World.cell?_setCell_other _ _ _ _ (by intro e;have h1:off+j=d+i:=congrArg Addr.off e;omega)
       . exact Uh (T7 _ _ _ _ k6)
      have K:=J j;have h:=a5 X L S V;have Z:=al u;generalize F j=y at c2 U K h;generalize g (off+j)=x at c1 U h;clear G X L V S s u z C M J B;go_wp2;go_region_with ((go_at_call 180;refine (wP w1.heap.size c y D K _ (by exact λj P=>Z.out j P)).mono ?_;rintro e w' ⟨rfl,m,rfl⟩));all_goals
       go_wp2;go_roundw
       case rel=>exact ⟨j+1,eb,e8,h.out.1,h.out.2.1,h.out.2.2.1,⟨h.out.2.2.2.os,h.out.2.2.2.tape,h.out.2.2.2.output,h.out.2.2.2.size,h.out.2.2.2.block⟩⟩
       case measure=>simp [intOf];omega
    . have k9:j=n:=eb;subst k9;clear u z;go_wp2;go_end0
      exact ⟨rfl,s,C⟩
def od (C:Ck) (k:Nat):ZS:=if k<128 then Z7 .u8 ((C.m (k/16) (k%16):Nat):Int) else if k=128 then Z7 Z9 (C.told:Int) else Z7 Z9 (C.count:Int)
def aH (w:ZT) (b:Nat) (C:Ck):Prop:=w.rowIs b 322 130 (od C)
structure dV (C:Ck):Prop where
 byt:yR C
 le:C.told<=C.count
 So:C.count<=8
def aH.at (h:aH w b C) (r i:Nat) (a:r<8) (hi:i<16):w.cell? ⟨b,r*16+i,ZX⟩=ZW (Z7 .u8 ((C.m r i:Nat):Int)):=by
 have:=h.cell (i:=r*16+i) eb;rw [this];unfold od;rw [if_pos eb,(eb:(r*16+i)/16=r),(eb:(r*16+i)%16=i)]
def aH.SE (h:aH w b C):w.cell? ⟨b,128,ZX⟩=ZW (Z7 Z9 (C.told:Int)):=h.cell (i:=128) ec
def aH.SG (h:aH w b C):w.cell? ⟨b,129,ZX⟩=ZW (Z7 Z9 (C.count:Int)):=h.cell (i:=129) ec
def aaC (C:Ck) (i:Nat) (wo:ZT) (v:ZS) (wr:ZT):Prop:=∃ r:Nat,v=Z7 Z9 r/\C.told<=r/\r<=C.count/\(∀ k,C.told<=k->k<r->C.m k i=0)/\wr=wo
def Rk:Option Nat->ZS
 | some r=>ZZ #[Z7 Z9 (r:Int),Z1 ZV]
 | none=>ZZ #[Z7 Z9 0,Z1 ZU]
theorem wQ (b i:Nat) (C:Ck) (w:ZT) (h:aH w b C) (l:dV C) (hi:i<16) :
 ZQ ZJ 205 #[Z6 (ZW ⟨b,0,ZX⟩),Z7 Z9 i] w λe w'=>e=Z3 (Rk (dH C i))/\w'=w:=by
 have t:=h.SE;have s:=h.SG;have n:=l.le;have u:=l.So;have x:(i:Int)<16:=eb
 go_enter func205,ntmps205;go_wp2;go_loopw [6] (λv wr=>aaC C i w v wr) (λv _=>C.count-(intOf v).toNat)
 case atStart=>exact ⟨C.told,rfl,TV _,n,λk a b=>absurd b eb,rfl⟩
 case round=>
  obtain ⟨r,rfl,q,A,f,rfl⟩:=hrel;by_cases p:r<C.count
  . have c1:=h.at r i eb hi;have j:=al f;clear f;have o:(r:Int)<C.count:=eb;have z:(r:Int)<8:=eb;by_cases d:C.m r i=0
    . rw [d] at c1;go_wp2;go_roundw
      case rel=>exact ⟨r+1,e8,eb,eb,λk a b=>by
       by_cases e:k=r
       . rw [e];exact d
       . exact j.out k a eb,rfl⟩
      case measure=>simp [intOf];omega
    . have y:((C.m r i:Nat):Int)≠0:=eb;have c:=vA q p d j.out;have g:=al c;clear c d;go_wp2;refine Uf (v:=ZZ #[Z7 Z9 (r:Int),Z1 ZV]) (by simp [results,results205]) rfl ?_;rw [g.out];exact ⟨rfl,rfl⟩
  . have o:¬ (r:Int)<C.count:=eb;have c:=vC (C:=C) (i:=i) (λk a b=>f k a eb);have g:=al c;clear c f;go_wp2;refine Uf (v:=ZZ #[Z7 Z9 0,Z1 ZU]) (by simp [results,results205]) rfl ?_;rw [g.out];exact ⟨rfl,rfl⟩
def RdR (C:Ck) (i:Nat) (wo:ZT) (v:ZS) (wr:ZT):Prop:=∃ r:Nat,v=Z7 Z9 r/\r<=C.told/\(∀ k,k<r->C.m k i=0)/\wr=wo
theorem wR (b i:Nat) (C:Ck) (w:ZT) (j:aH w b C) (l:dV C) (hi:i<16) :
 ZQ ZJ 209 #[Z6 (ZW ⟨b,0,ZX⟩),Z7 Z9 i] w λe w'=>e=Z3 (Z1 (cy C i))/\w'=w:=by
 have q:=j.SE;have s:=l.le;have t:=l.So;have u:(i:Int)<16:=eb
 go_enter func209,ntmps209;go_wp2;go_loopw [10] (λv wr=>RdR C i w v wr) (λv _=>C.told-(intOf v).toNat)
 case atStart=>exact ⟨0,rfl,T3 _,λk h=>absurd h eb,rfl⟩
 case round=>
  obtain ⟨r,rfl,z,f,rfl⟩:=hrel;by_cases p:r<C.told
  . have c1:=j.at r i eb hi;have n:=al f;clear f;have o:(r:Int)<C.told:=eb;have y:(r:Int)<8:=eb;by_cases d:C.m r i=0
    . rw [d] at c1;go_wp2;go_roundw
      case rel=>exact ⟨r+1,e8,eb,λk b=>by
       by_cases e:k=r
       . rw [e];exact d
       . exact n.out k eb,rfl⟩
      case measure=>simp [intOf];omega
    . have x:((C.m r i:Nat):Int)≠0:=eb;have c:=qU p d;have g:=al c;clear c d;go_wp2;go_ret;rw [g.out];exact ⟨rfl,rfl⟩
  . have o:¬ (r:Int)<C.told:=eb;have c:=(ij (C:=C) (i:=i)).2 (λk a=>f k eb);have g:=al c;clear c f;go_wp2;go_ret;rw [g.out];exact ⟨rfl,rfl⟩
def lJ (C:Ck) (k r i:Nat):Ck:=⟨cD C.m k r i,C.told,C.count⟩
theorem Gx (m:Nat->Nat->Nat) (r i:Nat):cD m 0 r i=m:=by funext k j;unfold cD;rw [if_neg eb]
def Gy (m:Nat->Nat->Nat) (k r i:Nat):cD m k r i r=m r:=oi eb
def wS (m:Nat->Nat->Nat) (k r i:Nat):cD m k r i k=m k:=oi eb
theorem Gz (m:Nat->Nat->Nat) (r i:Nat):cD m (r+1) r i=cD m r r i:=by
 funext k j;unfold cD;by_cases h:k<r/\k≠r
 . rw [if_pos h,if_pos eb]
 . rw [if_neg h,if_neg eb]
def JZ (C:Ck) (k r i:Nat) (e:k≠r) (f:k<8) (x:Nat) :
 mid (od (lJ C k r i)) (λx=>cD C.m k r i (x/16) (x%16)) (λj=>C.m r j) (gm (C.m k i) (gi (C.m r i))) (k*16) 16 x=od (lJ C (k+1) r i) x:=by
 unfold mid;by_cases h:k*16<=x/\x<k*16+16
 . rw [if_pos h];have c:x/16=k:=eb;have d:x-k*16=x%16:=eb;unfold od;rw [if_pos eb];show Value.int .u8 ((cD C.m k r i (x/16) (x%16)^^^gm _ (C.m r (x-k*16)):Nat):Int)=Z7 .u8 ((cD C.m (k+1) r i (x/16) (x%16):Nat):Int);rw [c,d,wS];have:cD C.m (k+1) r i k (x%16)=C.m k (x%16)^^^gm (gm (C.m k i) (gi (C.m r i))) (C.m r (x%16)):=by unfold cD;rw [if_pos ⟨eb,e⟩]
   rw [this]
 . rw [if_neg h];unfold od;by_cases a:x<128
   . rw [if_pos a,if_pos a];have:cD C.m k r i (x/16) (x%16)=cD C.m (k+1) r i (x/16) (x%16):=by
      unfold cD;by_cases b:x/16<k/\x/16≠r
      . rw [if_pos b,if_pos eb]
      . rw [if_neg b,if_neg eb]
     show Value.int .u8 ((cD C.m k r i (x/16) (x%16):Nat):Int)=Z7 .u8 ((cD C.m (k+1) r i (x/16) (x%16):Nat):Int);rw [this]
   . rw [if_neg a,if_neg a];rfl
def OfR (w:ZT) (b r i:Nat) (C:Ck) (v:ZS) (wr:ZT):Prop:=
 ∃ k:Nat,v=Z7 Z9 k/\k<=C.count/\aH wr b (lJ C k r i)/\w.grownBy wr (ZW b)
theorem pS (w:ZT) (b o:Nat):(Instr.sliceAt 263 (Z6 (ZW ⟨b,o,ZX⟩)) ZX ZX ZX).run ZJ w=.ok (Z5 (ZW ⟨b,o,ZX⟩) 16 16) w:=by
 go_simp
theorem wT (b r i:Nat) (C:Ck) (w:ZT) (f:aH w b C) (d:dV C) (t:r<8) (hi:i<16) :
 ZQ ZJ 207 #[Z6 (ZW ⟨b,0,ZX⟩),Z7 Z9 r,Z7 Z9 i] w λe w'=>e=Z3 (ZZ #[])/\aH w' b (lJ C C.count r i)/\w.grownBy w' (ZW b):=by
 have B:=f.SG;have A:=f.at r i t hi;have E:=d.So;have y:=d.byt r i;have V:(i:Int)<16:=eb
 have Y:(r:Int)<8:=eb
 have l:=al (show aH w b (lJ C 0 r i) by unfold lJ;rw [Gx];exact f);clear f;go_enter func207,ntmps207;go_wp2_with fail;refine (rX (C.m r i) y _).mono ?_;rintro e w1 ⟨rfl,Q⟩;have S:=Q.symm;subst S;go_wp2;go_loopw [21] (λv wr=>OfR w b r i C v wr) (λv _=>C.count-(intOf v).toNat)
 case atStart=>exact ⟨0,rfl,T3 _,l.out,Wh _ _⟩
 case round=>
  clear B A l;rename ZT=>wo;obtain ⟨k,rfl,U,a,g⟩:=hrel;by_cases X:k<C.count
  . have G:(k:Int)<C.count:=eb;by_cases h:k=r
    . have F:(k:Int)=(r:Int):=eb;have z:Hid (aH wo b (lJ C (k+1) r i)):=al (by unfold lJ at *;rw [h] at a ⊢;rw [Gz];exact a);clear h a;go_wp2;go_roundw
      case rel=>exact ⟨k+1,e8,eb,z.out,g⟩
      case measure=>simp [intOf];omega
    . have F:(k:Int)≠(r:Int):=eb;have W:(k:Int)<8:=eb;have c1:=a.at k i eb hi;have n:(lJ C k r i).m k i=C.m k i:=(by show cD C.m k r i k i=_;rw [wS]);rw [n] at c1;have u:=d.byt k i;have o:∀ j,j<16->wo.cell? ⟨b,r*16+j,ZX⟩=ZW (Z7 .u8 ((C.m r j:Nat):Int)):=λj K=>by
       have:=a.at r j t K;have D:(lJ C k r i).m r j=C.m r j:=(by show cD C.m k r i r j=_;rw [Gy]);rwa [D] at this
      have O:gm (C.m k i) (gi (C.m r i))<256:=bD _ u;have s:=JZ C k r i h eb;have N:∀ x,cD C.m k r i (x/16) (x%16)<256:=λx=>oj d.byt _ _;have J:=al o;have M:=al s;have L:=al a;clear o s n a;have H:=λw=>pS w b (k*16);have I:=λw=>pS w b (r*16);go_wp2;go_region_with (first
       | (go_at_call 165;refine (mF (C.m k i) (gi (C.m r i)) u (lz y) _).mono ?_;rintro e w' ⟨rfl,rfl⟩)
       | (go_at_call 164;refine (zh b 322 130 (k*16) 16 16 b (r*16) 16 (gm (C.m k i) (gi (C.m r i))) (od (lJ C k r i)) (λx=>cD C.m k r i (x/16) (x%16)) (λj=>C.m r j) _ O (by exact L.out) (λj T E=>by unfold od;rw [if_pos eb];rfl) N (λj=>d.byt r j) eb eb (by exact J.out) (.inr eb)).mono ?_;rintro e w' ⟨rfl,q,c⟩))
      all_goals
       have R:aH w' b (lJ C (k+1) r i):=q.congr (λx _=>M.out x);have P:w.grownBy w' (ZW b):=gx g ⟨c.os,c.tape,c.output,c.size,c.block⟩;clear q c H I;go_wp2;go_roundw
       case rel=>exact ⟨k+1,e8,eb,R,P⟩
       case measure=>simp [intOf];omega
  . have p:k=C.count:=eb;rw [p] at a;have G:¬ (k:Int)<C.count:=eb;clear p;go_wp2;go_end0
    exact ⟨rfl,a,g⟩
def pT (m:Nat->Nat->Nat) (r i j:Nat):Nat->Nat->Nat:=λk x=>if k=r/\x<j then gm (m r x) (gi (m r i)) else m k x
def OJ (C:Ck) (r i j:Nat):Ck:=⟨pT C.m r i j,C.told,C.count⟩
theorem GA (m:Nat->Nat->Nat) (r i:Nat):pT m r i 0=m:=by funext k x;unfold pT;rw [if_neg eb]
def Nh (C:Ck) (r i j:Nat) (d:r<8) (c:j<16) (x:Nat):od (OJ C r i (j+1)) x=if x=r*16+j then Z7 .u8 ((gm (C.m r j) (gi (C.m r i)):Nat):Int) else od (OJ C r i j) x:=by
 unfold od;by_cases h:x=r*16+j
 . rw [if_pos h,if_pos eb];show Value.int .u8 ((pT C.m r i (j+1) (x/16) (x%16):Nat):Int)=_;unfold pT;rw [if_pos eb,(eb:x%16=j)]
 . rw [if_neg h];by_cases a:x<128
   . rw [if_pos a,if_pos a];have:pT C.m r i (j+1) (x/16) (x%16)=pT C.m r i j (x/16) (x%16):=by
      unfold pT;by_cases b:x/16=r/\x%16<j
      . rw [if_pos b,if_pos eb]
      . rw [if_neg b,if_neg eb]
     show Value.int .u8 ((pT C.m r i (j+1) (x/16) (x%16):Nat):Int)=Z7 .u8 ((pT C.m r i j (x/16) (x%16):Nat):Int);rw [this]
   . rw [if_neg a,if_neg a];rfl
def Pp (C:Ck) (r i x:Nat):od (OJ C r i 16) x=od ⟨ez C.m r i,C.told,C.count⟩ x:=by
 unfold od;by_cases a:x<128
 . rw [if_pos a,if_pos a];have:pT C.m r i 16 (x/16) (x%16)=ez C.m r i (x/16) (x%16):=by
    unfold pT ez;by_cases b:x/16=r
    . rw [if_pos b,if_pos eb]
    . rw [if_neg b,if_neg eb]
   show Value.int .u8 ((pT C.m r i 16 (x/16) (x%16):Nat):Int)=Z7 .u8 ((ez C.m r i (x/16) (x%16):Nat):Int);rw [this]
 . rw [if_neg a,if_neg a];rfl
theorem GB (cs:List ZS) (k:Nat) (v:ZS) (a:k<16) (hv:cs[k]?=ZW v) (w:ZT):(Instr.index 263 (.agg cs.toArray) (Z7 Z9 (k:Int))).run ZJ w=.ok v w:=by
 simp [Instr.index,Uw XC,asIntOf,go_sem,part];rw [if_pos a,hv];rfl
def cj (f:Nat->Nat):List ZS:=(YC 16).map (λj=>Value.int .u8 ((f j:Nat):Int))
def jE (f:Nat->Nat):(cj f).length=16:=by unfold cj;rw [TZ,Uv]
def rZ (f:Nat->Nat) (j:Nat) (a:j<16):(cj f)[j]?=ZW (Z7 .u8 ((f j:Nat):Int)):=by
 unfold cj;rw [Ul,Ve a];rfl
def j7 (h:aH w b C) (r:Nat) (c:r<8):w.rangeAt b (r*16) (cj (C.m r)):=λj v hv=>by
 have a:j<16:=by
  have:=(UT.1 hv).1;rwa [jE] at this
 rw [rZ _ _ a] at hv;rw [<- hv];exact h.at r j c a
def Tryz.Sv (f:Nat->Nat):(ZJ.info? 263).map (λi=>i.size)=ZW (cj f).length:=by rw [jE];exact Tryz.SL
def ScR (w:ZT) (b r i:Nat) (C:Ck) (v:ZS) (wr:ZT):Prop:=
 ∃ k:Nat,v=Z7 Z9 k/\k<=16/\aH wr b (OJ C r i k)/\w.grownBy wr (ZW b)
theorem AR (b r i:Nat) (C:Ck) (w:ZT) (f:aH w b C) (t:dV C) (g:r<8) (hi:i<16) :
 ZQ ZJ 206 #[Z6 (ZW ⟨b,0,ZX⟩),Z7 Z9 r,Z7 Z9 i] w λe w'=>e=Z3 (ZZ #[])/\aH w' b ⟨ez C.m r i,C.told,C.count⟩/\w.grownBy w' (ZW b):=by
 have B:=f.at r i g hi;have u:=t.byt r i;have J:(i:Int)<16:=eb
 have K:(r:Int)<8:=eb
 have l:=al (show aH w b (OJ C r i 0) by unfold OJ;rw [GA];exact f);have n:=al (j7 f r g);have y:Hid (∀ j,j<16->(cj (C.m r))[j]?=ZW (Z7 .u8 ((C.m r j:Nat):Int))):=al (rZ (C.m r));have I:=al (jE (C.m r));have A:=al (Tryz.Sv (C.m r));generalize cj (C.m r)=cs at *;clear f;go_enter func206,ntmps206;go_wp2_with fail;refine (rX (C.m r i) u _).mono ?_;rintro e w1 ⟨rfl,G⟩;have F:=G.symm;subst F;go_wp2_with (refine Yz rfl 263 (Z0 22) rfl b (r*16) rfl cs _ n.out XC rfl A.out ?_);go_loopw [24] (λv wr=>ScR w b r i C v wr) (λv _=>16-(intOf v).toNat)
 case atStart=>exact ⟨0,rfl,T3 _,l.out,Wh _ _⟩
 case round=>
  clear B l n;rename ZT=>wo;obtain ⟨k,rfl,L,c,h⟩:=hrel;by_cases d:k<16
  . have E:(k:Int)<16:=eb;have s:=y.out k d;have c1:=c.at r k g d;have f1:=c.frozen (r*16+k);have H:=t.byt r k;have q:aH (wo.setCell ⟨b,r*16+k,ZX⟩ (Z7 .u8 ((gm (C.m r k) (gi (C.m r i)):Nat):Int))) b (OJ C r i (k+1)):=
     (c.set (r*16+k) (Z7 .u8 ((gm (C.m r k) (gi (C.m r i)):Nat):Int))).congr (λx _=>(Nh C r i k g d x).symm)
    have o:=eY h (r*16+k) (Z7 .u8 ((gm (C.m r k) (gi (C.m r i)):Nat):Int));have a:=au q o;clear q o c h;generalize (OJ C r i k).m r k=z at c1;have D:=GB cs k _ d s;clear s;go_wp2;go_region_with ((go_at_call 165;refine (mF (C.m r k) (gi (C.m r i)) H (lz u) _).mono ?_;rintro e w' ⟨rfl,rfl⟩));all_goals
     clear D;go_wp2;go_roundw
     case rel=>exact ⟨k+1,e8,eb,a.out.1,⟨a.out.2.os,a.out.2.tape,a.out.2.output,a.out.2.size,a.out.2.block⟩⟩
     case measure=>simp [intOf];omega
  . have p:k=16:=eb;rw [p] at c;have E:¬ (k:Int)<16:=eb;clear p;go_wp2;go_end0
    exact ⟨rfl,c.congr (λx _=>Pp C r i x),h⟩
theorem ri:∀ (a:List ZS) (o:Nat) (w:ZT) (f:Nat->ZS),w.rowIs b t n f->(w.setCells b o a).rowIs b t n (λx=>if o<=x/\x<o+a.length then a.getD (x-o) ZY else f x)
 | [],o,w,f,h=>h.congr (λi _=>by rw [if_neg ek])
 | v::a,o,w,f,h=>(ri a (o+1) _ _ (h.set o v)).congr (λi _=>by
  by_cases c:i=o
  . subst c;rw [if_neg eb,if_pos rfl,if_pos ek];simp
  . by_cases d:o+1<=i/\i<o+1+a.length
    . rw [if_pos d,if_pos en,(eb:i-o=(i-(o+1))+1)];simp
    . rw [if_neg d,if_neg c,if_neg en])
def oB:∀ (a:List ZS) (o:Nat) (w w':ZT),w.grownBy w' (ZW b)->w.grownBy (w'.setCells b o a) (ZW b)
 | [],_,_,_,h=>h
 | v::a,o,w,_,h=>oB a (o+1) w _ (eY h o v)
def vI (m:Nat->Nat->Nat) (q:Nat) (f:Nat->Nat):Nat->Nat->Nat:=λk=>if k=q then f else m k
theorem zi (h:aH w b C) (q:Nat) (d:q<8) (f:Nat->Nat):aH (w.setCells b (q*16) (cj f)) b ⟨vI C.m q f,C.told,C.count⟩:=by
 refine (ri (cj f) (q*16) w (od C) h).congr (λx _=>?_);rw [jE];unfold od;by_cases c:q*16<=x/\x<q*16+16
 . rw [if_pos c,if_pos eb];show (cj f).getD (x-q*16) ZY=Z7 .u8 ((vI C.m q f (x/16) (x%16):Nat):Int);have e:x/16=q:=eb;unfold vI;rw [if_pos e,T6,rZ _ _ eb,(eb:x-q*16=x%16)];rfl
 . rw [if_neg c];by_cases a:x<128
   . rw [if_pos a,if_pos a];show _=Value.int .u8 ((vI C.m q f (x/16) (x%16):Nat):Int);unfold vI;rw [if_neg eb]
   . rw [if_neg a,if_neg a]
def J0 (f:Nat->Nat):(cj f).toArray.all (λv=>v.oneCell')=ZV:=by
 rw [XB];intro i hi;have a:i<16:=by simpa [jE] using hi
 have:=rZ f i a;have e:(cj f).toArray[i]?=ZW (Z7 .u8 ((f i:Nat):Int)):=vE this
 rw [Vr hi] at e;simp only [UC] at e;rw [e];rfl
def td (h:aH w b C) (q:Nat) (c:q<8):w.there b (q*16) 16:=λj a=>⟨by rw [h.at q j c a];rfl,h.frozen _⟩
theorem wU (h:aH w b C) (n:Nat):aH (w.setCell ⟨b,129,ZX⟩ (Z7 Z9 (n:Int))) b ⟨C.m,C.told,n⟩:=
 (h.set 129 (Z7 Z9 (n:Int))).congr (λx d=>by
  unfold od;by_cases e:x=129
  . subst e;rw [if_pos rfl,if_neg ec,if_neg ec]
  . rw [if_neg e];by_cases a:x<128
    . rw [if_pos a,if_pos a]
    . rw [if_neg a,if_neg a];by_cases c:x=128
      . rw [if_pos c,if_pos c]
      . omega)
theorem J1 (h:aH w b C) (n:Nat):aH (w.setCell ⟨b,128,ZX⟩ (Z7 Z9 (n:Int))) b ⟨C.m,n,C.count⟩:=
 (h.set 128 (Z7 Z9 (n:Int))).congr (λx c=>by
  unfold od;by_cases e:x=128
  . subst e;rw [if_pos rfl,if_neg ec,if_pos rfl]
  . rw [if_neg e];by_cases a:x<128
    . rw [if_pos a,if_pos a]
    . rw [if_neg a,if_neg a,if_neg e,if_neg e])
structure St where
 k:Nat
 a:Int
 b:Int
 c:Nat
def GC (kk:IntKind) (s:St):List ZS:=[.int kk s.k,Z7 Z9 s.a,Z7 Z9 s.b,Z7 .u8 s.c]
def zj (s:St):Prop:=s.k<256/\-9223372036854775808<=s.a/\s.a<=9223372036854775807/\-9223372036854775808<=s.b/\s.b<=9223372036854775807/\s.c<256
def Ps (kk:IntKind) (w:ZT) (v:ZS) (P:List St):Prop:=
 ∃ ao c,v=.slice ao P.length c/\P.length<=4398046511104/\(P≠[]->∃ b off,ao=ZW ⟨b,off,ZX⟩/\∀ i (hi:i<P.length),
  w.cell? ⟨b,off+i*4,ZX⟩=ZW (.int kk P[i].k)/\w.cell? ⟨b,off+i*4+1,ZX⟩=ZW (Z7 Z9 P[i].a)/\w.cell? ⟨b,off+i*4+2,ZX⟩=ZW (Z7 Z9 P[i].b)/\w.cell? ⟨b,off+i*4+3,ZX⟩=ZW (Z7 .u8 P[i].c))
def Ps.mono {P:List St} (h:Ps kk w v P) (a:ZR w.heap.size w w'):Ps kk w' v P:=by
 obtain ⟨ao,c,j,k,l⟩:=h;refine ⟨ao,c,j,k,λm=>?_⟩;obtain ⟨b,off,e,n⟩:=l m;refine ⟨b,off,e,λi hi=>?_⟩;obtain ⟨d,c1,f,g⟩:=n i hi;exact ⟨by rw [a.cell (T8 d)];exact d,by rw [a.cell (T8 c1)];exact c1,by rw [a.cell (T8 f)];exact f,by rw [a.cell (T8 g)];exact g⟩
def Ps.cases {P:List St} (h:Ps kk w v P):(P=[]/\∃ ao c,v=.slice ao 0 c)\/∃ b off c,v=Z5 (ZW ⟨b,off,ZX⟩) P.length c/\P.length<=4398046511104/\∀ i (hi:i<P.length),
 w.cell? ⟨b,off+i*4,ZX⟩=ZW (.int kk P[i].k)/\w.cell? ⟨b,off+i*4+1,ZX⟩=ZW (Z7 Z9 P[i].a)/\w.cell? ⟨b,off+i*4+2,ZX⟩=ZW (Z7 Z9 P[i].b)/\w.cell? ⟨b,off+i*4+3,ZX⟩=ZW (Z7 .u8 P[i].c):=by
 obtain ⟨ao,c,d,f,g⟩:=h;by_cases e:P=[]
 . subst e;exact .inl ⟨rfl,ao,c,d⟩
 . obtain ⟨b,off,rfl,j⟩:=g e;exact .inr ⟨b,off,c,d,f,j⟩
def Ps.slice {P:List St} (h:Ps kk w v P):∃ ao c,v=.slice ao P.length c:=by
 obtain ⟨ao,c,a,_⟩:=h;exact ⟨ao,c,a⟩
def iH (s:St) (regs shards:Int):Prop:=(s.k=0\/s.k=2)/\0<=s.a/\s.a<regs/\0<=s.b/\s.b<shards\/s.k=1/\0<=s.a/\s.a<regs/\0<=s.b/\s.b<regs/\s.a≠s.b
def zk (regs:Int) (P:List St):Prop:=0<=regs/\regs<=32/\P.length<=2000
def iI (regs:Int) (P:List St) (shards:Int):Prop:=zk regs P/\∀ i (hi:i<P.length),iH P[i] regs shards
def BIs (p:Prop) (w:ZT) (r:ZP) (w':ZT):Prop:=∃ b:Bool,r=Z3 (Z1 b)/\(b=ZV↔p)/\ZR w.heap.size w w'
def aaD (p:Prop) (w:ZT) (r:ZP) (w':ZT):Prop:=∃ b:Bool,r=Z3 (Z1 b)/\(b=ZV↔p)/\w'=w
def As (n e:Int):Prop:=0<=n/\n<e
theorem te (n e:Int) (w:ZT) :
 ZQ ZJ 203 #[Z7 Z9 n,Z7 Z9 e] w λr w'=>aaD (As n e) w r w':=by
 by_cases a:0<=n
 . go_enter func203,ntmps203;go_wp2;go_ret;exact ⟨_,rfl,by unfold As;simp [a],rfl⟩
 . go_enter func203,ntmps203;go_wp2;go_ret;exact ⟨_,rfl,by unfold As;simp;omega,rfl⟩
def eS (n e:Int) (h:As n e) (w:ZT) :
 ZQ ZJ 203 #[Z7 Z9 n,Z7 Z9 e] w λr w'=>r=Z3 (Z1 ZV)/\w'=w:=by
 refine (te n e w).mono ?_;rintro r w' ⟨b,rfl,a,rfl⟩;exact ⟨by rw [a.2 h],rfl⟩
def jF (n e:Int) (h:¬ As n e) (w:ZT) :
 ZQ ZJ 203 #[Z7 Z9 n,Z7 Z9 e] w λr w'=>r=Z3 (Z1 ZU)/\w'=w:=by
 refine (te n e w).mono ?_;rintro r w' ⟨b,rfl,a,rfl⟩;cases b
 . exact ⟨rfl,rfl⟩
 . exact absurd (a.1 rfl) h
theorem AT (regs:Int) (v:ZS) (P:List St) (w:ZT) (h:Ps .u8 w v P) :
 ZQ ZJ 191 #[.agg #[Z7 Z9 regs,v]] w λr w'=>BIs (zk regs P) w r w':=by
 obtain ⟨ao,c,rfl⟩:=h.slice;clear h;have d:ZR w.heap.size w (w.alloc (Z4 #[Z7 Z9 regs,.slice ao P.length c] 189)):=bA _ _;by_cases b:As regs 33
 . have a:=al b;clear b;go_enter func191,ntmps191;go_wp2_with (go_at_call 203;refine (eS _ _ a.out _).mono ?_;rintro e w' ⟨rfl,rfl⟩);go_ret;refine ⟨_,rfl,?_,d⟩;have:=a.out;unfold As at this;unfold zk;simp;omega
 . have a:=al b;clear b;go_enter func191,ntmps191;go_wp2_with (go_at_call 203;refine (jF _ _ a.out _).mono ?_;rintro e w' ⟨rfl,rfl⟩);go_ret;refine ⟨_,rfl,?_,d⟩;have:=a.out;unfold As at this;unfold zk;simp;omega
theorem GD (s:St) (regs d:Int) (w:ZT) :
 ZQ ZJ 192 #[.agg #[Z7 .u8 s.k,Z7 Z9 s.a,Z7 Z9 s.b,Z7 .u8 s.c],Z7 Z9 regs,Z7 Z9 d] w λr w'=>BIs (iH s regs d) w r w':=by
 obtain ⟨k,a,b,c⟩:=s;have j:ZR w.heap.size w (w.alloc (Z4 #[Z7 .u8 k,Z7 Z9 a,Z7 Z9 b,Z7 .u8 c] 288)):=bA _ _;by_cases l:k=0\/k=2
 . by_cases g:As a regs
   . by_cases i:As b d
     . have f:=al g;have h:=al i;clear g i;rcases l with rfl|rfl;all_goals
        go_enter func192,ntmps192;go_wp2_with fail;refine (eS _ _ f.out _).mono ?_;rintro e w' ⟨rfl,rfl⟩;go_wp2_with fail;refine (eS _ _ h.out _).mono ?_;rintro e w' ⟨rfl,rfl⟩;go_wp2;go_ret;refine ⟨_,rfl,?_,j⟩;have:=f.out;have:=h.out;unfold As at *;unfold iH;simp;omega
     . have f:=al g;have h:=al i;clear g i;rcases l with rfl|rfl;all_goals
        go_enter func192,ntmps192;go_wp2_with fail;refine (eS _ _ f.out _).mono ?_;rintro e w' ⟨rfl,rfl⟩;go_wp2_with fail;refine (jF _ _ h.out _).mono ?_;rintro e w' ⟨rfl,rfl⟩;go_wp2;go_ret;refine ⟨_,rfl,?_,j⟩;have:=f.out;have:=h.out;unfold As at *;unfold iH;simp;omega
   . have f:=al g;clear g;rcases l with rfl|rfl;all_goals
      go_enter func192,ntmps192;go_wp2_with (go_at_call 203;refine (jF _ _ f.out _).mono ?_;rintro e w' ⟨rfl,rfl⟩);go_ret;refine ⟨_,rfl,?_,j⟩;have:=f.out;unfold As at *;unfold iH;simp;omega
 . by_cases k1:k=1
   . subst k1;clear l;by_cases g:As a regs
     . by_cases i:As b regs
       . have f:=al g;have h:=al i;clear g i;go_enter func192,ntmps192;go_wp2_with fail;refine (eS _ _ f.out _).mono ?_;rintro e w' ⟨rfl,rfl⟩;go_wp2_with fail;refine (eS _ _ h.out _).mono ?_;rintro e w' ⟨rfl,rfl⟩;go_wp2;go_ret;refine ⟨_,rfl,?_,j⟩;have:=f.out;have:=h.out;unfold As at *;unfold iH;simp;omega
       . have f:=al g;have h:=al i;clear g i;go_enter func192,ntmps192;go_wp2_with fail;refine (eS _ _ f.out _).mono ?_;rintro e w' ⟨rfl,rfl⟩;go_wp2_with fail;refine (jF _ _ h.out _).mono ?_;rintro e w' ⟨rfl,rfl⟩;go_wp2;go_ret;refine ⟨_,rfl,?_,j⟩;have:=f.out;have:=h.out;unfold As at *;unfold iH;simp;omega
     . have f:=al g;clear g;go_enter func192,ntmps192;go_wp2_with (go_at_call 203;refine (jF _ _ f.out _).mono ?_;rintro e w' ⟨rfl,rfl⟩);go_ret;refine ⟨_,rfl,?_,j⟩;have:=f.out;unfold As at *;unfold iH;simp;omega
   . have o:((k:Int)==0)=ZU:=B8;have p:((k:Int)==1)=ZU:=B8;have q:((k:Int)==2)=ZU:=B8;have m:=al l;have n:=al k1;clear l k1;go_enter func192,ntmps192;go_wp2;go_ret;refine ⟨_,rfl,?_,j⟩;have:=m.out;have:=n.out;unfold iH;simp;omega
def Pr (regs:Int) (P:List St) (shards:Int) (w:ZT) (r:ZP) (w':ZT):Prop:=(iI regs P shards->r=Z3 .nilIface)/\(¬ iI regs P shards->r=Z3 (.iface 54 (Z7 Z9 4)))/\ZR w.heap.size w w'
def ChR (w:ZT) (regs shards:Int) (P:List St) (i:ZS) (wr:ZT):Prop:=∃ k:Nat,k<=P.length/\i=Z7 Z9 k/\(∀ j (hj:j<P.length),j<k->iH P[j] regs shards)/\ZR w.heap.size w wr
theorem Rm {x:ZS} {t:ZL} (h:ZR (n+1) (w.alloc (Z4 #[x,y] t)) w') (a:n=w.heap.size):w'.cell? ⟨n,0,ZX⟩=ZW x/\w'.cell? ⟨n,1,ZX⟩=ZW y:=by
 subst a;constructor
 . rw [h.cell ek];simp
 . rw [h.cell ek];simp
theorem GE (regs d:Int) (v:ZS) (P:List St) (w:ZT) (h:Ps .u8 w v P) :
 ZQ ZJ 173 #[.agg #[Z7 Z9 regs,v],Z7 Z9 d] w λr w'=>Pr regs P d w r w':=by
 have n:ZR w.heap.size w (w.alloc (Z4 #[Z7 Z9 regs,v] 189)):=bA _ _;have u:=h.mono n;obtain ⟨ao,c,rfl⟩:=h.slice;go_enter func173,ntmps173;go_wp2_with fail;refine (AT regs _ P _ u).mono ?_;rintro r w1 ⟨b,rfl,p,l⟩;rw [Ug] at l;obtain ⟨K,X⟩:=Rm l rfl;have T:=l.size;rw [Ug] at T;have m:=n.trans (l.mono eb);cases b
 . have L:=al (show ¬ iI regs P d from λg=>by have:=p.2 g.1;simp at this);clear p l u h n;go_wp2;go_ret;exact ⟨λg=>absurd g L.out,λ_=>rfl,m⟩
 . have F:=al (p.1 rfl);have x:=h.mono m;clear p l u n h;rcases x.cases with ⟨rfl,M,N,e⟩|⟨b,off,N,e,_,A⟩
   . simp at e;obtain ⟨rfl,rfl⟩:=e;clear x;go_wp2;refine VL 1 ?_;rw [Vw];go_wp2;go_ret;exact ⟨λ_=>rfl,λg=>absurd ⟨F.out,λi hi=>by simp at hi⟩ g,m⟩
   . simp at e;obtain ⟨rfl,rfl⟩:=e;clear x;go_wp2;go_loopw [14] (λi wr=>ChR w1 regs d P i wr) (λi _=>P.length-(intOf i).toNat)
     case atStart=>exact ⟨0,T3 _,rfl,λj _ C=>absurd C eb,TX _ _⟩
     case round=>
      rename ZT=>wo;obtain ⟨k,U,rfl,o,f⟩:=hrel;have D:=(f.cell (T8 K)).trans K;by_cases J:k<P.length
      . obtain ⟨q,c1,s,t⟩:=A k J;have O:=(f.cell (T8 q)).trans q;have d1:=(f.cell (T8 c1)).trans c1;have Q:=(f.cell (T8 s)).trans s;have R:=(f.cell (T8 t)).trans t;have z:=al o;clear A o q c1 s t;have E:=(((TX wo.heap.size wo).alloc lR (Z4 #[Z7 .u8 P[k].k,Z7 Z9 P[k].a,Z7 Z9 P[k].b,Z7 .u8 P[k].c] 288)).cell (T8 D)).trans D;have G:=f.alloc f.size (Z4 #[Z7 .u8 P[k].k,Z7 Z9 P[k].a,Z7 Z9 P[k].b,Z7 .u8 P[k].c] 288);have W:=f.size;go_wp2_with fail;refine (GD P[k] regs d _).mono ?_;rintro r w2 ⟨b2,rfl,I,B⟩;rw [Ug] at B;have H:=G.trans (B.mono eb);have y:=al I;clear B I O d1 Q R D E f G;cases b2
        . go_wp2;go_ret;exact ⟨λg=>absurd (y.out.2 (g.2 k J)) ek,λ_=>rfl,m.trans (H.mono eb)⟩
        . go_wp2;go_roundw
          case rel=>
           refine ⟨k+1,eb,e8,λj C V=>?_,H⟩;by_cases e:j=k
           . subst e;first|exact y.out.1 rfl|exact y.out.1 trivial
           . exact z.out j C eb
          case measure=>simp [intOf];omega
      . have S:k=P.length:=eb;subst S;have z:=al o;clear A o;go_wp2;go_ret;exact ⟨λ_=>rfl,λg=>absurd ⟨F.out,λi hi=>z.out i hi hi⟩ g,m.trans (f.mono eb)⟩
def dW (kk:IntKind):List St->List ZS
 | []=>[]
 | s::P=>GC kk s++dW kk P
def rj (kk:IntKind):∀ P Q,dW kk (P++Q)=dW kk P++dW kk Q
 | [],_=>rfl
 | s::P,Q=>by simp [dW,rj kk P Q]
def Fk (kk:IntKind):∀ (P:List St) (i:Nat) (hi:i<P.length) (j:Nat),j<4->(dW kk P)[i*4+j]?=(GC kk P[i])[j]?
 | s::P,0,_,j,a=>by
  simp only [dW,Xe,Uc,abf];rw [U7 (by simpa [GC] using a)]
 | s::P,i+1,hi,j,a=>by
  have e:(i+1)*4+j=(GC kk s).length+(i*4+j):=by simp [GC];omega
  simp only [dW,X8];rw [e,Vp (Nat.le_add_right _ _),Wu];exact Fk kk P i (vE hi) j a
def AU (w:ZT) (n:Nat) (a:n=w.heap.size) (x y z u:ZS) (t:ZL):∀ j v,[x,y,z,u][j]?=ZW v->(w.alloc (Z4 #[x,y,z,u] t)).cell? ((⟨n,0,ZX⟩:Addr).add j)=ZW v:=by
 subst a;intro j v hv;rw [jU];rcases j with _|_|_|_|j;all_goals simp at hv
 all_goals subst hv;simp
def Ni {P:List St} (h:w.ownsRow base e 4 v P.length (dW kk P)) (f:P.length<=4398046511104):Ps kk w v P:=by
 rcases h.2 with ⟨b,c⟩|⟨g,cap,cur,a,k,l,m,n,o,p⟩
 . have:P=[]:=UK c;subst this;exact ⟨ZX,0,b,ek,λh=>absurd rfl h⟩
 . subst a;refine ⟨ZW ⟨g,0,ZX⟩,cap,rfl,f,λ_=>⟨g,0,rfl,λi hi=>?_⟩⟩;have at':∀ j,j<4->w.cell? ⟨g,0+i*4+j,ZX⟩=(GC kk P[i])[j]?:=λj d=>by
    rw [Uc,h.cellAt (i*4+j) eb,Fk kk P i hi j d]
   exact ⟨at' 0 ec,at' 1 ec,at' 2 ec,at' 3 ec⟩
def AV {ob:Option Nat} (h:w0.grownBy w ob) (o:Obj):w0.grownBy (w.alloc o) ob:=
 ⟨h.os,h.tape,h.output,by rw [Ug];have:=h.size;omega,λk a b=>by rw [<- h.block k a b];exact ((TX w.heap.size w).alloc lR o).block k (TY a h.size)⟩
def cT (w:ZT) (b i:Nat) (v:ZS):w.grownBy (w.setCell ⟨b,i,ZX⟩ v) (ZW b):=
 ⟨rfl,rfl,rfl,ek,λk _ a=>by
  have:b≠k:=λe=>a Zc;simp [World.setCell,Vv,this]⟩
def oC (w:ZT) (o:Obj) (k:Nat) (h:k<w.heap.size):(w.alloc o).heap[k]?=w.heap[k]?:=((TX w.heap.size w).alloc lR o).block k h
def J2 (w:ZT) (a b c:Obj):(((w.alloc a).alloc b).alloc c).heap.size=w.heap.size+3/\(((w.alloc a).alloc b).alloc c).heap[w.heap.size]?=ZW a/\(((w.alloc a).alloc b).alloc c).heap[w.heap.size+1]?=ZW b/\(((w.alloc a).alloc b).alloc c).heap[w.heap.size+1+1]?=ZW c:=by
 have n1:=Ug w a;have d:=Ug (w.alloc a) b;have:=Ug ((w.alloc a).alloc b) c;refine ⟨eb,?_,?_,?_⟩
 . rw [oC _ _ _ eb,oC _ _ _ eb];exact UG w a
 . rw [oC _ _ _ eb,<- n1];exact UG _ b
 . rw [<- n1,<- d];exact UG _ c
def az {ob:Nat} {x:ZS} {t:ZL} (h:w.heap[ob]?=ZW (Z4 #[x,y] t (0,0))):w.cell? ⟨ob,0,ZX⟩=ZW x/\w.cell? ⟨ob,1,ZX⟩=ZW y/\w.frozen? ⟨ob,1,ZX⟩=ZU/\w.frozen? ⟨ob,0,ZX⟩=ZU:=by
 simp [World.cell?,World.frozen?,h]
def cF (P:List St) (k:Nat):St:=P.getD k ⟨3,0,0,0⟩
def eI (P:List St) (k:Nat) (h:k<P.length):cF P k=P[k]:=by simp [cF,h]
def fl (P:List St) (D:List a9):Nat->Option Nat
 | 0=>ZX
 | k+1=>match fl P D k with
  | some n=>ZW n
  | none=>if (cF P k).k=0 then ZW (D.getD (cF P k).b.toNat []).length else ZX
def rk (gone i:Nat):Prop:=gone/2^i%2=1
def Nj (P:List St) (D:List a9) (gone i:Nat):Prop:=(cF P i).k=0->¬ rk gone (cF P i).b.toNat/\fl P D (i+1)=ZW (D.getD (cF P i).b.toNat []).length/\(D.getD (cF P i).b.toNat []).length<=4096
def ja (P:List St) (D:List a9) (gone:Nat):Prop:=∀ i,i<P.length->Nj P D gone i
def gN (P:List St) (D:List a9):Nat:=(fl P D P.length).getD 0
def oD (P:List St) (D:List a9) (k n:Nat) (h:fl P D k=ZW n):fl P D (k+1)=ZW n:=by simp [fl,h]
def zl (P:List St) (D:List a9) (k:Nat) (h:fl P D k=ZX) (a:(cF P k).k=0):fl P D (k+1)=ZW (D.getD (cF P k).b.toNat []).length:=by simp [fl,h,a]
def tf (P:List St) (D:List a9) (k:Nat) (a:(cF P k).k≠0):fl P D (k+1)=fl P D k:=by
 cases h:fl P D k<;>simp [fl,h,a]
def Fl (P:List St) (D:List a9) (k n:Nat) (h:fl P D k=ZW n):∀ m,k<=m->fl P D m=ZW n:=by
 intro m a;induction m with
 | zero => have:k=0:=by omega
           subst this;exact h
 | succ m ih=>
  by_cases e:k=m+1
  . subst e;exact h
  . exact oD P D m n (ih eb)
def Pt {P:List St} (h:ja P D gone) (i:Nat) (hi:i<P.length) (a:(cF P i).k=0):(D.getD (cF P i).b.toNat []).length=gN P D:=by
 have:=(h i hi a).2.1;have:=Fl P D (i+1) _ this P.length eb;simp [gN,this]
def OK {P:List St} (h:ja P D gone):∀ k,k<=P.length->∀ n,fl P D k=ZW n->n<=4096
 | 0,_,n,e=>by simp [fl] at e
 | k+1,hk,n,e=>by
  cases a:fl P D k with
  | some m=>
   have:=OK h k eb m a;rw [oD P D k m a] at e;simp at e;omega
  | none=>
   by_cases b:(cF P k).k=0
   . have q:=(h k eb b);rw [q.2.1] at e;have:=UA e;omega
   . rw [tf P D k b,a] at e;simp at e
def GF {P:List St} (h:ja P D gone):gN P D<=4096:=by
 unfold gN;cases hf:fl P D P.length with
 | none=>simp
 | some n=>exact OK h P.length lR n hf
def iJ (x y:a9) (c:Nat):a9:=(YC x.length).map λj=>x.getD j 0^^^gm c (y.getD j 0)
def dL (D:List a9) (s:St) (R:List a9):List a9:=
 if s.k=0 then R.set s.a.toNat (D.getD s.b.toNat []) else if s.k=1 then R.set s.a.toNat (iJ (R.getD s.a.toNat []) (R.getD s.b.toNat []) s.c) else R
def im (s:St) (R:List a9) (O:List (Int×a9)):List (Int×a9):=if s.k=2 then O++[(s.b,R.getD s.a.toNat [])] else O
def bU (P:List St) (D:List a9) (R0:List a9):Nat->List a9
 | 0=>R0
 | k+1=>dL D (cF P k) (bU P D R0 k)
def dM (P:List St) (D:List a9) (R0:List a9):Nat->List (Int×a9)
 | 0=>[]
 | k+1=>im (cF P k) (bU P D R0 k) (dM P D R0 k)
def eZ (r n:Nat):List a9:=YD r (YD n 0)
def In (w:ZT) (b:Nat) (D:List a9) (gone:Nat):Prop:=∀ i (hi:i<D.length),(rk gone i->w.cell? ⟨b,i,ZX⟩=ZW (Z5 ZX 0 0))/\(¬ rk gone i->∃ a c,w.cell? ⟨b,i,ZX⟩=ZW (Z5 (ZW a) (D[i]).length c)/\Bs w (Z5 (ZW a) (D[i]).length c) D[i])
def In.mono (h:In w b D gone) (d:ZR w.heap.size w w'):In w' b D gone:=λi hi=>by
 obtain ⟨g,j⟩:=h i hi;refine ⟨λf=>by have:=g f;rw [d.cell (T8 this)];exact this,λf=>?_⟩;obtain ⟨a,c,e,k⟩:=j f;exact ⟨a,c,by rw [d.cell (T8 e)];exact e,k.mono d⟩
def bv (l:a9):List ZS:=l.map λx=>Value.int .u8 ((x:Nat):Int)
theorem J3 (h:w.heap[g]?=ZW (Z4 (((bv l).toArray)++Builtin.zeroCells #[Z7 .u8 0] m) 5 (0,0))):aM w g (l++YD m 0):=by
 have e:((bv l).toArray++Builtin.zeroCells #[Z7 .u8 0] m)=((l++YD m 0).map (λx=>Value.int .u8 ((x:Nat):Int))).toArray:=by
  apply Array.ext';simp [bv,Builtin.zeroCells,Nat.mod_one,List.map_const']
 rw [e] at h;refine ⟨_,h,ek,λi hi=>?_⟩;rw [WM,Ul,T2 hi];simp [vb,T2 hi]
def DI {a:ZM} {Q:ZO->ZM->ZT->Prop} (b:o.guard=ZX) (s x:ZK) (t:ZL) (ho:o.op=.call { callee:=.builtin .append,args:=#[s,x],argTypes:=#[t,t] })
 (vs vx v':ZS) (hs:a.eval s=vs) (hx:a.eval x=vx) (h0:(Builtin.append_ #[t,t] o.type #[vs,vx]).run ZJ w=.ok v' w') (h:wpList ZJ ops Q rest (a.put o.dst v') w'):wpList ZJ ops Q (o::rest) a w:=by
 refine VD b λK hK=>?_;unfold Oper.wp;simp [execOp,ho,resolve,invoke,builtin,hs,hx,h0,Result.andThen];exact hK _ _ h
theorem DJ (d:Addr) (c:Nat) (l:a9) (w:ZT) (h:Bs w (Z5 (ZW d) l.length c) l) (O:l.length<=100000) :
 ZQ ZJ 176 #[Z5 (ZW d) l.length c] w λe w'=>∃ b m,e=Z3 (Z5 (ZW ⟨b,0,ZX⟩) l.length (l.length+m))/\w.heap.size<=b/\aM w' b (l++YD m 0)/\l.length+m<=9223372036854775807/\ZR w.heap.size w w':=by
 obtain ⟨K,E,H,I,J⟩:=Ur Tryz.Sg;have D:=λL=>Xf (P:=ZJ) L 31 5 (ZW d) l.length c 0 0 Ui;have n:∀ j u,(bv l)[j]?=ZW u->(w.alloc (Z4 #[] 5)).cell? (d.add j)=ZW u:=by
  intro j u s;obtain ⟨t,M,e,_,_,_,z⟩:=h.mono ((TX _ _).alloc lR (Z4 #[] 5));have g:j<l.length:=by
   obtain ⟨q,_⟩:=UT.1 s;simpa [bv] using q
  obtain ⟨p,a,k,G⟩:=z (by intro e;rw [e] at g;simp at g);simp at e;rw [<- e.1] at k;simp at k;subst k;have x:(⟨p,a,ZX⟩:Addr).add j=⟨p,a+j,ZX⟩:=by unfold Addr.add;split<;>simp_all
  rw [x,G j g,<- s];simp [bv,g]
 have f:ZR w.heap.size w (w.alloc (Z4 #[] 5)):=bA _ _;by_cases y:l.length=0
 . have F:l=[]:=UK y;subst F;clear h n;go_enter func176,ntmps176;simp only [UQ] at D;go_wp2;go_ret;exact ⟨w.heap.size,0,rfl,TV _,⟨#[],UG w _,rfl,λi hi=>by simp at hi⟩,eb,f⟩
 . have r:=run_append_grow (P:=ZJ) (w:=w.alloc (Z4 #[] 5)) 31 31 5 K (Z7 .u8 0) Ui E H ⟨w.heap.size,0,ZX⟩ 0 0 [] ek (λj v hv=>by simp at hv) d l.length c (bv l) (by rw [I];simp [bv]) n eb eb (by rw [J];have:=X9 (need:=0+l.length) (old:=0) (bytes:=1) eb eb;omega);obtain ⟨cp,N,C,o⟩:∃ cp,l.length<=cp/\cp<=9223372036854775807/\(Builtin.append_ #[31,31] 31 #[Z5 (ZW ⟨w.heap.size,0,ZX⟩) 0 0,Z5 (ZW d) l.length c]).run ZJ (w.alloc (Z4 #[] 5))=.ok (Z5 (ZW ⟨w.heap.size+1,0,ZX⟩) l.length cp) ((w.alloc (Z4 #[] 5)).drew.alloc (Z4 ((bv l).toArray++Builtin.zeroCells #[Z7 .u8 0] (cp-l.length)) 5)):=by
    refine ⟨grownCap (w.alloc (Z4 #[] 5)) (0+l.length) 0 5,eT (Ya (w.alloc (Z4 #[] 5)) (0+l.length) 0 5),by have:=Yb (w.alloc (Z4 #[] 5)) (0+l.length) 0 5 eD;unfold maxLen at this;omega,?_⟩;rw [r,Ug];simp [Value.cells]
   obtain ⟨m,rfl⟩:∃ m,cp=l.length+m:=⟨cp-l.length,eb⟩;rw [Wu] at o;have A:=al o;clear o r n h;go_enter func176,ntmps176;go_wp2_with (at_builtin;refine DI rfl (Z0 5) (Z0 6) 31 rfl _ _ _ rfl rfl A.out ?_);go_ret;have B:aM ((w.alloc (Z4 #[] 5)).drew.alloc (Z4 ((bv l).toArray++Builtin.zeroCells #[Z7 .u8 0] m) 5)) (w.heap.size+1) (l++YD m 0):=by
    refine J3 ?_;have:=UG (w.alloc (Z4 #[] 5)).drew (Z4 ((bv l).toArray++Builtin.zeroCells #[Z7 .u8 0] m) 5);rwa [show (w.alloc (Z4 #[] 5)).drew.heap.size=w.heap.size+1 from Ug _ _] at this
   exact ⟨w.heap.size+1,m,rfl,eb,B,C,((show ZR w.heap.size w (w.alloc (Z4 #[] 5)).drew from ⟨f.os,f.tape,f.output,f.size,f.block⟩).alloc (K1:w.heap.size<=(w.alloc _).heap.size) _)⟩
def LlR (w:ZT) (P:List St) (D:List a9) (gone:Nat) (lv sv iv:ZS) (wr:ZT):Prop:=
 ∃ k:Nat,k<=P.length/\iv=Z7 Z9 k/\lv=Z7 Z9 ((fl P D k).getD 0:Nat)/\sv=Z1 (fl P D k).isSome/\(∀ i,i<k->Nj P D gone i)/\ZR w.heap.size w wr
def Pu (P:List St) (D:List a9) (gone:Nat) (w:ZT) (r:ZP) (w':ZT):Prop:=
 (ja P D gone->r=Z3 (ZZ #[Z7 Z9 (gN P D:Nat),.nilIface]))/\(¬ ja P D gone->r=Z3 (ZZ #[Z7 Z9 0,.iface 54 (Z7 Z9 2)]))/\ZR w.heap.size w w'
theorem pU (v:ZS) (P:List St) (V ci:Nat) (D:List a9) (gone:Nat) (w:ZT) (h:Ps .u8 w v P) (K:In w V D gone) (hq:∀ l∈D,l.length<=100000)
 (M:∀ i,i<P.length->(cF P i).k=0->0<=(cF P i).b/\(cF P i).b<(D.length:Int)) (d:P.length<=5000) :
 ZQ ZJ 174 #[v,Z5 (ZW ⟨V,0,ZX⟩) D.length ci] w λr w'=>Pu P D gone w r w':=by
 obtain ⟨ao,c,rfl⟩:=h.slice;go_enter func174,ntmps174;go_wp2;go_loopw [6,7,13] (λlv sv R wr=>LlR w P D gone lv sv R wr) (λ_ _ R _=>P.length-(intOf R).toNat)
 case atStart=>exact ⟨0,T3 _,rfl,rfl,rfl,λi hi=>absurd hi eb,TX _ _⟩
 case round=>
  rename ZT=>wo;obtain ⟨k,hk,rfl,rfl,rfl,I,H⟩:=hrel;have k9:=H.size;by_cases y:k<P.length
  . rcases (h.mono H).cases with ⟨rfl,_⟩|⟨b,off,cc,e,_,W⟩
    . simp at y
    simp at e;obtain ⟨rfl,rfl⟩:=e;obtain ⟨d0,d1,d2,d3⟩:=W k y;have Z:=eI P k y;have J:=M k y;have C:=al I;have u:=al (oD P D k);have s:=al (zl P D k);have G:=al (tf P D k);have f:Hid (Nj P D gone k↔((cF P k).k=0->¬ rk gone (cF P k).b.toNat/\fl P D (k+1)=ZW (D.getD (cF P k).b.toNat []).length/\(D.getD (cF P k).b.toNat []).length<=4096)):=Iff.rfl;rw [Z] at J s G f;have o:=H.alloc k9 (Z4 #[Z7 .u8 P[k].k,Z7 Z9 P[k].a,Z7 Z9 P[k].b,Z7 .u8 P[k].c] 288);have L:=K.mono o;clear W I K h M Z;generalize P[k].k=S at *;generalize P[k].b=sb at *;by_cases z:S=0
    . have tk:((S:Int) != 0)=ZU:=(by simp [z]);obtain ⟨q1,q2⟩:=J z;have F:=al z;clear z;obtain ⟨x,rfl⟩:∃ x:Nat,sb=(x:Int):=⟨sb.toNat,eb⟩;have N:x<D.length:=eb;obtain ⟨O,Q⟩:=L x N;have X:D.getD x []=D[x]:=(by simp [N]);have ka:=hq _ (T4 N);rw [VO,X] at s f;clear J q1 q2 L X G;by_cases E:rk gone x
      . have ha:=O E;have t:Hid (¬ ja P D gone):=λd=>((f.out.1 (d k y)) F.out).1 E;have k6:=λT=>Xf (P:=ZJ) T 31 5 ZX 0 0 0 0 Ui;clear O Q f s u;cases hf:fl P D k
        . go_wp2;go_ret2;exact ⟨λd=>absurd d t.out,λ_=>rfl,o⟩
        . go_wp2;go_ret2;exact ⟨λd=>absurd d t.out,λ_=>rfl,o⟩
      . obtain ⟨ax,cx,ha,k5⟩:=Q E;have k6:=λT=>Xf (P:=ZJ) T 31 5 (ZW ax) (D[x]).length cx 0 0 Ui;clear O Q k5;generalize D[x].length=n at *;cases hf:fl P D k with
        | none=>
         have g:=s.out hf F.out;by_cases j:n<=4096
         . have B:=f.out.2 (λ_=>⟨E,g,j⟩);have A:=al B;have p:=al g;clear f s u g B;go_wp2;go_roundw
           case rel=>
            refine ⟨k+1,eb,e8,by first|(rw [p.out];rfl)|rw [p.out],by first|(rw [p.out];rfl)|rw [p.out],λi hi=>?_,o⟩;by_cases e:i=k
            . subst e;exact A.out
            . exact C.out i eb
           case measure=>simp [intOf];omega
         . have t:Hid (¬ ja P D gone):=λd=>j ((f.out.1 (d k y)) F.out).2.2;have k8:(4096:Int)<(n:Int):=eb;clear f s u g;go_wp2;go_ret2;exact ⟨λd=>absurd d t.out,λ_=>rfl,o⟩
        | some m=>
         have g:=u.out m hf;by_cases j:n=m/\n<=4096
         . obtain ⟨rfl,j⟩:=j;have B:=f.out.2 (λ_=>⟨E,g,j⟩);have A:=al B;have p:=al g;have tt:(((n:Nat):Int) != (n:Int))=ZU:=ek;clear f s u g B;go_wp2;go_roundw
           case rel=>
            refine ⟨k+1,eb,e8,by first|(rw [p.out];rfl)|rw [p.out],by first|(rw [p.out];rfl)|rw [p.out],λi hi=>?_,o⟩;by_cases e:i=k
            . subst e;exact A.out
            . exact C.out i eb
           case measure=>simp [intOf];omega
         . have t:Hid (¬ ja P D gone):=λd=>by
            have q:=(f.out.1 (d k y)) F.out;rw [g] at q;have:=q.2.1;simp at this;omega
           clear f s u g;by_cases Y:n=m
           . have k8:(4096:Int)<(m:Int):=eb;have tt:(((n:Nat):Int) != (m:Int))=ZU:=en;clear j Y;go_wp2;go_ret2;exact ⟨λd=>absurd d t.out,λ_=>rfl,o⟩
           . have tt:(((n:Nat):Int) != (m:Int))=ZV:=en;clear j Y;go_wp2;go_ret2;exact ⟨λd=>absurd d t.out,λ_=>rfl,o⟩
    . have tk:((S:Int) != 0)=ZV:=en;have U:=al (G.out z);have A:=al (f.out.2 (λe=>absurd e z));clear G s u f J L z;go_wp2;go_roundw
      case rel=>
       refine ⟨k+1,eb,e8,by rw [U.out],by rw [U.out],λi hi=>?_,o⟩;by_cases e:i=k
       . subst e;exact A.out
       . exact C.out i eb
      case measure=>simp [intOf];omega
  . have k7:k=P.length:=eb;subst k7;have C:=al I;clear h K M I;go_wp2;go_ret2;exact ⟨λ_=>rfl,λj=>absurd (λi hi=>C.out i hi) j,H⟩
def iK (n nb:Nat):aA:=⟨n,nb,-1,λ_=>ZU,λ_ _=>ZU,λ_ _=>zb,λ_=>0⟩
def nH (a:n<=1000) (b:nb<=1000000):(iK n nb).fit:=⟨a,b,λ_ _=>bw,λ_ _ x c=>by have:=Vn c;show x<256;omega⟩
def rN (w:ZT) (b nb:Nat):Prop:=w.rowIs b 40 (64*nb) (λ_=>Z7 .u8 0)
def tg (w:ZT) (b nb:Nat):Prop:=w.rowIs b 4 nb (λ_=>Z1 ZU)
def dF (nb:Nat) (q:Nat×Nat):List ZS:=[Z1 ZU,Z5 (ZW ⟨q.1,0,ZX⟩) nb nb,Z5 (ZW ⟨q.2,0,ZX⟩) nb nb,Z7 Z9 0]
def zm (nb:Nat) (l:List (Nat×Nat)):List ZS:=l.flatMap (dF nb)
def Tryz.Ts:(ZJ.info? 91).map (λi=>(i.zero,i.size,i.bytes))=ZW (ZW (.agg #[Z1 ZU,Z5 ZX 0 0,Z5 ZX 0 0,Z7 Z9 0]),4,64):=ei
def Tryz.Tw:(ZJ.info? 4).map (λi=>(i.zero,i.size,i.bytes))=ZW (ZW (Z1 ZU),1,1):=ei
def J4 (w:ZT) (nb:Nat):rN (w.alloc (Z4 (madeCells (aw zb) (nb*64)) 40)) w.heap.size nb:=by
 refine ⟨_,T9 _ _,by rw [size_madeCells];omega,λi hi=>?_⟩;have b:(aw zb).size=64:=by rw [iw,bw]
 have:i%64<64:=V6 _ ec;have a:(aw zb)[i%64]! = Z7 .u8 0:=by
  have e:aw zb=YF 64 (Z7 .u8 0):=by simp only [aw,aJ,zb,List.map_replicate,List.toArray_replicate];rfl
  rw [getElem!_pos (aw zb) (i%64) eb];simp only [e,Array.getElem_replicate]
 simp [madeCells,b,a,(eb:i<nb*64)]
noncomputable def RNa:Array ZN:=((Tryz.f14.body.bind (nZ · 4))).getD #[]
def aaE:List (Op×Option Nat×a9):=[(Op.move (Z0 5),ZW 11,[]),
 (Op.move (Z0 5),ZW 12,[]),
 (Op.nilCheck (Z0 12),ZW 13,[1]),
 (Op.fieldAddr 87 (Z0 13) 0,ZW 14,[2]),
 (Op.load 85 (Z0 14),ZW 15,[3]),
 (Op.move (Z0 1),ZW 16,[]),
 (Op.call { callee:=Callee.builtin Builtin.max,args:=#[Z0 16,Operand.const (Value.int IntKind.i64 0)],argTypes:=#[3,3] },ZW 17,[5]),
 (Op.makeSlice 88 (Z0 17) (Z0 17),ZW 18,[6,6]),
 (Op.move (Z0 1),ZW 19,[]),
 (Op.call { callee:=Callee.builtin Builtin.max,args:=#[Z0 19,Operand.const (Value.int IntKind.i64 0)],argTypes:=#[3,3] },ZW 20,[8]),
 (Op.makeSlice 89 (Z0 20) (Z0 20),ZW 21,[9,9]),
 (Op.build 91 #[(1,Z0 18),(2,Z0 21)],ZW 22,[7,10]),
 (Op.buildSlice 85 1 #[(0,Z0 22)],ZW 23,[11]),
 (Op.call { callee:=Callee.builtin Builtin.append,args:=#[Z0 15,Z0 23],argTypes:=#[85,85] },ZW 24,[4,12]),
 (Op.nilCheck (Z0 11),ZW 25,[0,0,1,2,3,4,5,6,7,8,9,10,11,12,13]),
 (Op.fieldAddr 87 (Z0 25) 0,ZW 26,[14,0,1,2,3,4,5,6,7,8,9,10,11,12,13]),
 (Op.store 85 (Z0 26) (Z0 24),ZX,[15,13,13,0,1,2,3,4,5,6,7,8,9,10,11,12,13])]
def GG:aL RNa 11 27 aaE:=bj ei ei
def Nk (w0:ZT) (p nb:Nat) (v0:ZS) (xs:List ZS) (k:Nat) (i:Nat) (u:ZS) (w:ZT):Prop:=match i with
 | 0|1|2|3|14|15=>u=Z6 (ZW ⟨p,0,ZX⟩)
 | 4=>u=v0
 | 5|6|8|9=>u=Z7 Z9 nb
 | 7=>∃ b,w0.heap.size<=b/\u=Z5 (ZW ⟨b,0,ZX⟩) nb nb/\rN w b nb
 | 10=>∃ b,w0.heap.size<=b/\u=Z5 (ZW ⟨b,0,ZX⟩) nb nb/\tg w b nb
 | 11=>∃ q:Nat×Nat,w0.heap.size<=q.1/\w0.heap.size<=q.2/\u=.agg (dF nb q).toArray/\rN w q.1 nb/\tg w q.2 nb
 | 12=>∃ (c:Nat) (q:Nat×Nat),w0.heap.size<=c/\w0.heap.size<=q.1/\w0.heap.size<=q.2/\u=Z5 (ZW ⟨c,0,ZX⟩) 1 1/\w.heap[c]?=ZW (Z4 (dF nb q).toArray 91 (0,0))/\rN w q.1 nb/\tg w q.2 nb
 | 13=>∃ q:Nat×Nat,w0.heap.size<=q.1/\w0.heap.size<=q.2/\w.ownsRow (p+1) 91 4 u (k+1) (xs++dF nb q)/\rN w q.1 nb/\tg w q.2 nb
 | 16=>∃ (v':ZS) (q:Nat×Nat),w.heap[p]?=ZW (Z4 #[v',Z7 Z9 (-1)] 87 (0,0))/\w0.heap.size<=q.1/\w0.heap.size<=q.2/\w.ownsRow (p+1) 91 4 v' (k+1) (xs++dF nb q)/\rN w q.1 nb/\tg w q.2 nb
 | _=>True
def lK (j:∀ b,w0.heap.size<=b->b<w.heap.size->w'.heap[b]?=w.heap[b]?) (i:Nat) (u:ZS) (hi:i≠13/\i≠16) (h:Nk w0 p nb v0 xs k i u w):Nk w0 p nb v0 xs k i u w':=by
 have l:∀ b,w0.heap.size<=b->rN w b nb->rN w' b nb:=λb e q=>Vo q (j b e q.lt);have e:∀ b,w0.heap.size<=b->tg w b nb->tg w' b nb:=λb e q=>Vo q (j b e q.lt);match i with
 | 0|1|2|3|14|15|4|5|6|8|9=>exact h
 | 7=>obtain ⟨b,a,d,f⟩:=h;exact ⟨b,a,d,l b a f⟩
 | 10=>obtain ⟨b,a,d,f⟩:=h;exact ⟨b,a,d,e b a f⟩
 | 11=>obtain ⟨q,a,d,f,g,m⟩:=h;exact ⟨q,a,d,f,l _ a g,e _ d m⟩
 | 12=>obtain ⟨c,q,o,a,d,f,g,m,r⟩:=h;exact ⟨c,q,o,a,d,f,(j c o (TW.1 g).1).trans g,l _ a m,e _ d r⟩
 | 13=>exact absurd rfl hi.1
 | 16=>exact absurd rfl hi.2
 | n+17=>trivial
def Pv (w0:ZT) (p:Nat) (v0:ZS) (D:Nat->Bool) (w:ZT):Prop:=(∀ k,k<w0.heap.size->(D 13=ZV->v0.ownBlock≠ZW k)->(D 16=ZV->k≠p)->w.heap[k]?=w0.heap[k]?)/\w0.heap.size<=w.heap.size/\w.os=w0.os/\w.tape=w0.tape/\w.output=w0.output
theorem r6 {D:Nat->Bool} (h:Pv w0 p v0 D w) (i:Nat) (a:w.heap.size<=w'.heap.size/\w'.os=w.os/\w'.tape=w.tape/\w'.output=w.output) (f:∀ k,k<w0.heap.size->(i=13->v0.ownBlock≠ZW k)->(i=16->k≠p)->w'.heap[k]?=w.heap[k]?):Pv w0 p v0 (du D i) w':=by
 obtain ⟨g,j,l,m,n⟩:=h;refine ⟨λk d b c=>?_,TU j a.1,a.2.1.trans l,a.2.2.1.trans m,a.2.2.2.trans n⟩;unfold du at b c;refine (f k d (λe=>b (by rw [if_pos e.symm])) (λe=>c (by rw [if_pos e.symm]))).trans (g k d (λe=>b ?_) (λe=>c ?_))
 . split
   . rfl
   . exact e
 . split
   . rfl
   . exact e
def dz {D:Nat->Bool} (h:Pv w0 p v0 D w) (i:Nat):Pv w0 p v0 (du D i) w:=r6 h i ⟨TV _,rfl,rfl,rfl⟩ (λ_ _ _ _=>rfl)
def pV {D:Nat->Bool} (h:Pv w0 p v0 D w) (i:Nat) (o:Obj):Pv w0 p v0 (du D i) (w.alloc o):=
 r6 h i ⟨ek,rfl,rfl,rfl⟩ (λk a _ _=>Ut _ _ _ (TY a h.2.1))
theorem DK {Q:ZO->ZM->ZT->Prop} {a:ZM} (hy:RNa=ops) (ko:nb<=1000000) (B:k<=1000) (T:w.ownsRow (p+1) 91 4 v0 k xs)
 (U:w.heap[p]?=ZW (Z4 #[v0,Z7 Z9 (-1)] 87 (0,0))) (kp:a.tmps.size=29) (X:a.eval (Z0 5)=Z6 (ZW ⟨p,0,ZX⟩)) (W:a.eval (Z0 1)=Z7 Z9 nb)
 (hQ:∀ (w':ZT) (vs:List ZS) (v':ZS) (q:Nat×Nat),vs.length=16->w.heap.size<=q.1->w.heap.size<=q.2->w'.ownsRow (p+1) 91 4 v' (k+1) (xs++dF nb q)->rN w' q.1 nb->tg w' q.2 nb->w'.heap[p]?=ZW (Z4 #[v',Z7 Z9 (-1)] 87 (0,0)) ->
  aa (λj=>j=p\/v0.ownBlock=ZW j) w w'->Q .normal (Act.RL a 11 vs) w'):(Code.region 4 ops ZV).wp ZJ Q a w:=by
 subst hy;have V:p<w.heap.size:=(TW.1 U).1;have n1:¬ (nb:Int)<0:=eb
 obtain ⟨ib,ki,ka,k9,k8⟩:=Ur Tryz.zeroBlk;obtain ⟨ic,kj,ke,kc,kb⟩:=Ur Tryz.Tw;obtain ⟨id,S,kh,kg,kf⟩:=Ur Tryz.Ts;refine fw ei GG a w eb (Nk w p nb v0 xs k) (Pv w p v0) ⟨λ_ _ _ _=>rfl,TV _,rfl,rfl,rfl⟩ ?_ ?_
 . intro i hi;match i,hi with
   | 0,_=>exact λo f w' D C ho m B y z l d h=>ag (ah ho ((B.slot 5 eb).trans X) w') m ⟨dz d _,rfl,kq⟩
   | 1,_=>exact λo f w' D C ho m B y z l d h=>ag (ah ho ((B.slot 5 eb).trans X) w') m ⟨dz d _,rfl,kq⟩
   | 2,_=>
    intro o f w' D C ho m B y z l d h;have u0:f.eval (Z0 12)=Z6 (ZW ⟨p,0,ZX⟩):=h 1 (l 1 ec);exact ag (dR ho u0 w') m ⟨dz d _,rfl,kq⟩
   | 3,_=>
    intro o f w' D C ho m B y z l d h;have u0:f.eval (Z0 13)=Z6 (ZW ⟨p,0,ZX⟩):=h 2 (l 2 ec);exact ag (v:=Z6 (ZW ⟨p,0,ZX⟩)) ee m ⟨dz d _,rfl,kq⟩
   | 4,_=>
    intro o f w' D C ho m B y z l d h;have u0:f.eval (Z0 14)=Z6 (ZW ⟨p,0,ZX⟩):=h 3 (l 3 ec);have hx:D 13=ZU:=by
     cases q:D 13 with
     | false=>rfl
     | true=>have:=(z 13 q).2 4 ec;rw [y] at this;cases this
    have O:D 16=ZU:=by
     cases q:D 16 with
     | false=>rfl
     | true=>have:=(z 16 q).2 4 ec;rw [y] at this;cases this
    have c:w'.cell? ⟨p,0,ZX⟩=ZW v0:=by
     have:=(d.1 p V (λq=>by rw [hx] at q;cases q) (λq=>by rw [O] at q;cases q)).trans U;simp [World.cell?,this]
    exact ag (v:=v0) ee m ⟨dz d _,rfl,kq⟩
   | 5,_=>exact λo f w' D C ho m B y z l d h=>ag (ah ho ((B.slot 1 eb).trans W) w') m ⟨dz d _,rfl,kq⟩
   | 6,_=>
    intro o f w' D C ho m B y z l d h;have u0:f.eval (Z0 16)=Z7 Z9 nb:=h 5 (l 5 ec);exact ag (v:=Z7 Z9 nb) (by have:=sW (P:=ZJ) (s:=Z0 16) (t:=.const (Z7 Z9 0)) ho u0 rfl w';rwa [if_neg (eb:¬ (0:Int)>(nb:Int))] at this) m ⟨dz d _,rfl,kq⟩
   | 7,_=>
    intro o f w' D C ho m B y z l d h;have u0:f.eval (Z0 17)=Z7 Z9 nb:=h 6 (l 6 ec);have N:=run_make (P:=ZJ) w' 88 40 ib (.agg (aw zb)) underlying88 ki ka .i64 .i64 nb nb eb (Int.le_refl _) (by rw [k8];omega) eb;rw [k9,VO] at N;refine ag (v:=Z5 (ZW ⟨w'.heap.size,0,ZX⟩) nb nb) (w':=w'.alloc (Z4 (madeCells (aw zb) (nb*64)) 40)) (by (conv at ho=>rhs;whnf);simp [execOp,ho,u0,N,Value.cells]) m ⟨pV d _ _,⟨_,d.2.1,rfl,J4 w' nb⟩,λj u A q=>?_⟩;refine lK (λb _ I=>Ut _ _ _ I) j u ⟨λe=>?_,λe=>?_⟩ q
    . subst e;have:=(z 13 A).2 12 ec;have:=(z 12 this).2 11 ec;have:=(z 11 this).2 7 ec;rw [y] at this;cases this
    . subst e;have:=(z 16 A).2 7 ec;rw [y] at this;cases this
   | 8,_=>exact λo f w' D C ho m B y z l d h=>ag (ah ho ((B.slot 1 eb).trans W) w') m ⟨dz d _,rfl,kq⟩
   | 9,_=>
    intro o f w' D C ho m B y z l d h;have u0:f.eval (Z0 19)=Z7 Z9 nb:=h 8 (l 8 ec);exact ag (v:=Z7 Z9 nb) (by have:=sW (P:=ZJ) (s:=Z0 19) (t:=.const (Z7 Z9 0)) ho u0 rfl w';rwa [if_neg (eb:¬ (0:Int)>(nb:Int))] at this) m ⟨dz d _,rfl,kq⟩
   | 10,_=>
    intro o f w' D C ho m B y z l d h;have u0:f.eval (Z0 20)=Z7 Z9 nb:=h 9 (l 9 ec);have N:=run_make (P:=ZJ) w' 89 4 ic (Z1 ZU) underlying89 kj ke .i64 .i64 nb nb eb (Int.le_refl _) (by rw [kb];omega) eb;rw [kc,VO,VW] at N;refine ag (v:=Z5 (ZW ⟨w'.heap.size,0,ZX⟩) nb nb) (w':=w'.alloc (Z4 (madeCells #[Z1 ZU] nb) 4)) (by (conv at ho=>rhs;whnf);simp [execOp,ho,u0,N,Value.cells]) m ⟨pV d _ _,⟨_,d.2.1,rfl,W5 w' (Z1 ZU) nb _⟩,λj u A q=>?_⟩;refine lK (λb _ I=>Ut _ _ _ I) j u ⟨λe=>?_,λe=>?_⟩ q
    . subst e;have:=(z 13 A).2 12 ec;have:=(z 12 this).2 11 ec;have:=(z 11 this).2 10 ec;rw [y] at this;cases this
    . subst e;have:=(z 16 A).2 10 ec;rw [y] at this;cases this
   | 11,_=>
    intro o f w' D C ho m B y z l d h;obtain ⟨b1,E,u0,G⟩:Nk w p nb v0 xs k 7 (f.eval (Z0 18)) w':=h 7 (l 7 ec);obtain ⟨b2,F,u1,H⟩:Nk w p nb v0 xs k 10 (f.eval (Z0 21)) w':=h 10 (l 10 ec);exact ag (v:=.agg (dF nb (b1,b2)).toArray) (by (conv at ho=>rhs;whnf);simp only [execOp,ho,Vy,UD,U5,u0,u1,dF];go_simp) m ⟨dz d _,⟨(b1,b2),E,F,rfl,G,H⟩,kq⟩
   | 12,_=>
    intro o f w' D C ho m B y z l d h;obtain ⟨q,E,F,u0,G,H⟩:Nk w p nb v0 xs k 11 (f.eval (Z0 22)) w':=h 11 (l 11 ec);refine ag (v:=Z5 (ZW ⟨w'.heap.size,0,ZX⟩) 1 1) (w':=w'.alloc (Z4 (dF nb q).toArray 91)) (by (conv at ho=>rhs;whnf);simp only [execOp,ho,Vy,UD,U5,u0,dF];go_simp) m ⟨pV d _ _,⟨_,q,d.2.1,E,F,rfl,T9 _ _,G.alloc _,H.alloc _⟩,λj u A r=>?_⟩;refine lK (λb _ I=>Ut _ _ _ I) j u ⟨λe=>?_,λe=>?_⟩ r
    . subst e;have:=(z 13 A).2 12 ec;rw [y] at this;cases this
    . subst e;have:=(z 16 A).2 12 ec;rw [y] at this;cases this
   | 13,_=>
    intro o f w' D C ho m Z y z l d h;have u0:f.eval (Z0 15)=v0:=h 4 (l 4 ec);obtain ⟨c,q,q0,E,F,u1,hc,G,H⟩:Nk w p nb v0 xs k 12 (f.eval (Z0 23)) w':=h 12 (l 12 ec);have O:D 16=ZU:=by
     cases q:D 16 with
     | false=>rfl
     | true=>have:=(z 16 q).2 13 ec;rw [y] at this;cases this
    have K:w'.ownsRow (p+1) 91 4 v0 k xs:=T.kept (row:=ZX) ⟨d.2.2.1,d.2.2.2.1,d.2.2.2.2,d.2.1,λj A _=>d.1 j A (λq=>by rw [y] at q;cases q) (λq=>by rw [O] at q;cases q)⟩ (by cases v0.ownBlock<;>simp);refine wp_append_own w' (Z0 15) (Z0 23) 85 ho (p+1) 91 id _ 4 64 underlying85 S kh kg kf rfl ec v0 k xs u0 K ⟨c,0,ZX⟩ 1 1 (dF nb q) u1 rfl (λj u A=>?_) (λu M=>?_) (by simp [maxLen];omega) eb (TU V d.2.1) ?_
    . rw [jU];simp only [World.cell?,hc];simpa using A
    . simp [dF] at M;rcases M with rfl|rfl|rfl|rfl<;>rfl
    . intro v' w'' kk L _;have J:∀ b,w.heap.size<=b->b<w'.heap.size->w''.heap[b]?=w'.heap[b]?:=λb I k7=>L.block b k7 (λe=>eT ((T.lt b e.symm).2));refine ⟨v',rfl,λe=>(by rw [m] at e;cases e),r6 d 13 ⟨L.size,L.os,L.tape,L.output⟩ (λj A k5 _=>L.block j (TY A d.2.1) (λe=>k5 rfl e.symm)),⟨q,E,F,kk,Vo G (J _ E G.lt),Vo H (J _ F H.lt)⟩,λj u A r=>lK J j u ⟨λe=>(by subst e;rw [y] at A;cases A),λe=>(by subst e;rw [O] at A;cases A)⟩ r⟩
   | 14,_=>
    intro o f w' D C ho m B y z l d h;have u0:f.eval (Z0 11)=Z6 (ZW ⟨p,0,ZX⟩):=h 0 (l 0 ec);exact ag (dR ho u0 w') m ⟨dz d _,rfl,kq⟩
   | 15,_=>
    intro o f w' D C ho m B y z l d h;have u0:f.eval (Z0 25)=Z6 (ZW ⟨p,0,ZX⟩):=h 14 (l 14 ec);exact ag (v:=Z6 (ZW ⟨p,0,ZX⟩)) ee m ⟨dz d _,rfl,kq⟩
   | 16,_=>
    intro o f w' D C ho m B y z l d h;have u0:f.eval (Z0 26)=Z6 (ZW ⟨p,0,ZX⟩):=h 15 (l 15 ec);obtain ⟨q,E,F,K,G,H⟩:Nk w p nb v0 xs k 13 (f.eval (Z0 24)) w':=h 13 (l 13 ec);have R:w'.heap[p]?=ZW (Z4 #[v0,Z7 Z9 (-1)] 87 (0,0)):=(d.1 p V (λ_ e=>eT ((T.lt p e).1)) (λq=>by rw [y] at q;cases q)).trans U;obtain ⟨u,M⟩:=nM (f.eval (Z0 24));have c:w'.cell? ⟨p,0,ZX⟩=ZW v0:=(by simp [World.cell?,R]);have fz:w'.frozen? ⟨p,0,ZX⟩=ZU:=(by simp [World.frozen?,R]);rw [M] at K;obtain ⟨so,sl,sc,km⟩:∃ so sl sc,u=.slice so sl sc:=by
     rcases K.2 with ⟨e,_⟩|⟨g,cap,cur,e,_⟩
     . exact ⟨_,_,_,e⟩
     . exact ⟨_,_,_,e⟩
    refine iY (w':=w'.setCell ⟨p,0,ZX⟩ u) (by rw [km] at M ⊢;(conv at ho=>rhs;whnf);simp only [execOp,ho,u0,M];go_simp) ⟨r6 d 16 ⟨l7,rfl,rfl,rfl⟩ (λj _ _ k6=>T7 _ _ _ _ (k6 rfl)),?_,λj x A r=>?_⟩
    . refine ⟨u,q,by simp [World.setCell,Vv,R],E,F,K.kept (row:=ZW p) ⟨rfl,rfl,rfl,l7,λi _ hi=>T7 _ _ _ _ (λe=>hi Zc)⟩ (.inr λe=>eT ((K.lt p e).1)),Vo G (T7 _ _ _ _ (by show q.1≠p;omega)),Vo H (T7 _ _ _ _ (by show q.2≠p;omega))⟩
    have J:∀ b,w.heap.size<=b->b<w'.heap.size->(w'.setCell ⟨p,0,ZX⟩ u).heap[b]?=w'.heap[b]?:=λb I _=>T7 _ _ _ _ (by show b≠p;omega);by_cases e:j=13
    . subst e;obtain ⟨q,E,F,r1,r2,r3⟩:=r;refine ⟨q,E,F,r1.kept (row:=ZW p) ⟨rfl,rfl,rfl,l7,λi _ hi=>T7 _ _ _ _ (λe=>hi Zc)⟩ (.inr λe=>eT ((r1.lt p e).1)),Vo r2 (J _ E r2.lt),Vo r3 (J _ F r3.lt)⟩
    . exact lK J j x ⟨e,λe=>(by subst e;rw [y] at A;cases A)⟩ r
   | n+17,hn=>exact absurd hn (by show ¬ n+17<17;omega)
 . rintro f w' Z ⟨D,hD,d⟩ h;obtain ⟨v',q,h1,h2,h3,h4,h5,h6⟩:Nk w p nb v0 xs k 16 ZY w':=h 16 ec;have e:f=Act.RL a 11 ((YC 16).map λi=>f.eval (.tmp (11+i))):=Z.out _ Y5 eb (λi hi=>by
    rw [TZ,Uv] at hi;rw [T6,Ul,Ve hi];rfl)
   rw [e];refine hQ w' _ v' q Y5 h2 h3 h4 h5 h6 h1 ⟨d.2.2.1,d.2.2.2.1,d.2.2.2.2,d.2.1,λj A Y=>d.1 j A (λ_ e=>Y (.inr e)) (λ_ e=>Y (.inl e))⟩
def Pw (w:ZT) (p nb k:Nat) (L:List (Nat×Nat)) (v:ZS) (wr:ZT):Prop:=
 L.length=k/\wr.heap[p]?=ZW (Z4 #[v,Z7 Z9 (-1)] 87 (0,0))/\wr.ownsRow (p+1) 91 4 v k (zm nb L)/\(∀ q∈L,(p<q.1/\p<q.2)/\rN wr q.1 nb/\tg wr q.2 nb)/\(L.map (λq=>q.1)).Nodup/\(L.map (λq=>q.2)).Nodup/\ZR p w wr
def NaR (w:ZT) (p nb n:Nat) (i:ZS) (wr:ZT):Prop:=∃ k L v,k<=n/\i=Z7 Z9 (k:Nat)/\Pw w p nb k L v wr
def Fm {f:Nat->ZS} (h:w.ownsRow base 91 4 v n xs) (j:w.rowIs b t m f) (ht:t≠91):v.ownBlock≠ZW b:=by
 intro e;rcases h.2 with ⟨i,_⟩|⟨g,cap,cur,d,l,a,o⟩
 . rw [i] at e;simp [Value.ownBlock] at e
 . rw [d] at e;simp [Value.ownBlock] at e;subst e;obtain ⟨c,k,_⟩:=j;rw [k] at a;simp at a;exact ht a.2
def th (h:l.Nodup) (a:∀ x∈l,x<b) (c:Nat) (g:b<=c):(l++[c]).Nodup:=by
 rw [Vc];refine ⟨h,ek,λx d y f e=>?_⟩;simp at f;have:=a x d;omega
def Pw.next {L:List (Nat×Nat)} {q:Nat×Nat} (h:Pw w p nb k L v wr) (u:wr.heap.size<=q.1) (z:wr.heap.size<=q.2) (ho:w'.ownsRow (p+1) 91 4 v' (k+1) (zm nb L++dF nb q))
 (A:rN w' q.1 nb) (B:tg w' q.2 nb) (ht:w'.heap[p]?=ZW (Z4 #[v',Z7 Z9 (-1)] 87 (0,0))) (b:aa (λj=>j=p\/v.ownBlock=ZW j) wr w'):Pw w p nb (k+1) (L++[q]) v' w':=by
 obtain ⟨n,o,i,d,r,s,c⟩:=h;have:p<wr.heap.size:=(TW.1 o).1;have m:∀ x∈L,rN w' x.1 nb/\tg w' x.2 nb:=λx a=>by
  obtain ⟨⟨C,D⟩,f,g⟩:=d x a;refine ⟨Vo f (b.block _ f.lt ?_),Vo g (b.block _ g.lt ?_)⟩
  . rintro (e|e)
    . omega
    . exact Fm i f ec e
  . rintro (e|e)
    . omega
    . exact Fm i g ec e
 refine ⟨by simp [n],ht,?_,λx a=>?_,?_,?_,⟨b.os.trans c.os,b.tape.trans c.tape,b.output.trans c.output,TU c.size b.size,λj t=>(b.block j eb (λe=>?_)).trans (c.block j t)⟩⟩
 . have e:zm nb (L++[q])=zm nb L++dF nb q:=(by simp [zm]);rw [e];exact ho
 . rcases Ub.1 a with a|a
   . exact ⟨(d x a).1,m x a⟩
   . simp at a;subst a;exact ⟨⟨eb,eb⟩,A,B⟩
 . rw [Uu];exact th r (λx a=>by obtain ⟨y,l,rfl⟩:=T1.1 a;exact (d y l).2.1.lt) _ u
 . rw [Uu];exact th s (λx a=>by obtain ⟨y,l,rfl⟩:=T1.1 a;exact (d y l).2.2.lt) _ z
 . rcases e with e|e
   . omega
   . have:=(i.lt j e).1;omega
def J5 (n nb:Nat) (w:ZT) (e:ZP) (w':ZT):Prop:=e=Z3 (Z6 (ZW ⟨w.heap.size,0,ZX⟩))/\ZR w.heap.size w w' /\
 ((n=0/\∃ ao cap,w'.heap[w.heap.size]?=ZW (Z4 #[.slice ao 0 cap,Z7 Z9 (-1)] 87 (0,0)))\/(0<n/\∃ F:aR,aq w' w.heap.size (iK n nb) F/\∀ k,F.has w.heap.size n k->w.heap.size<=k))
def AW (nb:Nat):∀ (L:List (Nat×Nat)) (k:Nat),k<4*L.length->(zm nb L)[k]?=ZW (nB (iK L.length nb) ⟨0,0,λi=>(L.getD i (0,0)).1,λi=>(L.getD i (0,0)).2⟩ k)
 | [],k,h=>absurd h ek
 | q::L,k,h=>by
  simp only [Um] at h;have e:zm nb (q::L)=dF nb q++zm nb L:=by simp [zm]
  rw [e];by_cases a:k<4
  . rw [U7 (by simpa [dF] using a)];match k,a with
    | 0,_=>rfl
    | 1,_=>rfl
    | 2,_=>rfl
    | 3,_=>rfl
  . rw [Vp (by simp [dF];omega)];have ih:=AW nb L (k-4) eb;rw [show (dF nb q).length=4 from rfl,ih];obtain ⟨j,rfl⟩:∃ j,k=j+4:=⟨k-4,eb⟩;rw [Nat.add_sub_cancel];unfold nB;rw [(eb:(j+4)%4=j%4),(eb:(j+4)/4=j/4+1)];rfl
def AX (h:l.Nodup) {i j:Nat} (hi:i<l.length) (a:j<l.length) (e:l[i]=l[j]):i=j:=(List.getElem_inj h).1 e
theorem Pw.post {L:List (Nat×Nat)} (h:Pw w w.heap.size nb n L v wr):J5 n nb w (Z3 (Z6 (ZW ⟨w.heap.size,0,ZX⟩))) wr:=by
 obtain ⟨a,p,x,d,y,z,A⟩:=h;refine ⟨rfl,A,?_⟩;rcases x.2 with ⟨rfl,u⟩|⟨g,cap,cur,rfl,b,s,E,F,G,t⟩
 . exact .inl ⟨u,_,_,p⟩
 . by_cases C:n=0
   . subst C;exact .inl ⟨rfl,_,_,p⟩
   . have f:∀ i,i<n->(L.getD i (0,0))∈L:=λi hi=>by
      rw [T6,T2 (eb:i<L.length)];exact T4 _
     refine .inr ⟨eb,⟨g,cap,λi=>(L.getD i (0,0)).1,λi=>(L.getD i (0,0)).2⟩,⟨p,⟨cur,s,λk B=>?_⟩,λi hi=>?_,λi hi=>?_,λi j hi c=>⟨λe=>?_,λe=>?_⟩⟩,?_⟩
     . have r:k<4*L.length:=(by rw [a];exact B);have q:=AW nb L k r;rw [<- t,VP (by rw [a] at r;omega)] at q;rw [<- Yc,q];unfold nB;rfl
     . refine World.rowIs.congr (d _ (f i hi)).2.1 λj c=>?_;show Value.int .u8 0=Value.int .u8 ((zb.getD (j%64) 0:Nat):Int);have D:zb.getD (j%64) 0=0:=by
        unfold zb;rw [T6,abg];split<;>rfl
       rw [D];rfl
     . exact (d _ (f i hi)).2.2
     . have o:i<(L.map (λq=>q.1)).length:=(by rw [TZ,a];exact hi);have b:j<(L.map (λq=>q.1)).length:=(by rw [TZ,a];exact c);refine AX y o b ?_;have l:i<L.length:=(by rw [a];exact hi);have m:j<L.length:=(by rw [a];exact c);simpa [l,m] using e
     . have o:i<(L.map (λq=>q.2)).length:=(by rw [TZ,a];exact hi);have b:j<(L.map (λq=>q.2)).length:=(by rw [TZ,a];exact c);refine AX z o b ?_;have l:i<L.length:=(by rw [a];exact hi);have m:j<L.length:=(by rw [a];exact c);simpa [l,m] using e
     . rintro k (rfl|rfl|⟨i,hi,rfl|rfl⟩)
       . exact TV _
       . exact Nat.le_of_succ_le b
       . exact Nat.le_of_lt (d _ (f i hi)).1.1
       . exact Nat.le_of_lt (d _ (f i hi)).1.2
def Px {vs:List ZS} (h:vs.length=16):∃ a b c d e f g i j k l m n o p q,vs=[a,b,c,d,e,f,g,i,j,k,l,m,n,o,p,q]:=by
 match vs,h with
 | [a,b,c,d,e,f,g,i,j,k,l,m,n,o,p,q],_=>exact ⟨_,_,_,_,_,_,_,_,_,_,_,_,_,_,_,_,rfl⟩
theorem oE (n nb:Nat) (w:ZT) (x:n<=1000) (r:nb<=1000000) :
 ZQ ZJ 14 #[Z7 Z9 n,Z7 Z9 nb] w λe w'=>J5 n nb w e w':=by
 go_enter func14,ntmps14;have c:Pw w w.heap.size nb 0 [] (Z5 ZX 0 0) (w.alloc (Z4 #[Z5 ZX 0 0,Z7 Z9 (-1)] 87)):=⟨rfl,T9 _ _,UB _ _ _ _,λq s=>(by simp at s),ek,ek,bA w _⟩;go_wp2_with fail;go_loopw [9] (λi wr=>NaR w w.heap.size nb n i wr) (λi _=>n-(intOf i).toNat)
 case atStart=>exact ⟨0,[],_,T3 _,rfl,c⟩
 case round=>
  clear c;obtain ⟨k,L,v,u,rfl,b⟩:=hrel;by_cases t:k<n
  . have a:=al b;clear b;go_wp2_with fail;refine DK ei r eb a.out.2.2.1 a.out.2.1 rfl rfl rfl ?_;intro w' y v' q d h j ho l m ht g;obtain ⟨z,A,B,C,D,E,F,G,H,I,J,K,M,N,O,P,rfl⟩:=Px d;have f:=a.out.next h j ho l m ht g;have o:=al f;clear f ho l m ht g a h j d;rename_i hK
    refine hK _ _ ?_;clear hK;simp only [Act.RL];go_wp2;exact ⟨⟨k+1,_,_,eb,e8,o.out⟩,e9⟩
  . have p:k=n:=eb;subst p;have a:=al b;clear b;go_wp2;go_ret;exact a.out.post
def Py (n nb:Nat) (w:ZT) (e:ZP) (w':ZT):Prop:=e=Z3 (Z6 (ZW ⟨w.heap.size,0,ZX⟩))/\ZR w.heap.size w w' /\
 ((n=0/\∃ ao cap,w'.heap[w.heap.size]?=ZW (Z4 #[.slice ao 0 cap,Z7 Z9 (-1)] 87 (0,0)))\/(0<n/\∃ F:aR,aj w' w.heap.size (iK n nb) F/\∀ k,F.has w.heap.size n k->w.heap.size<=k))
def zn (n nb:Nat) (w:ZT) (b:n<=1000) (a:nb<=1000000) :
 ZQ ZJ 14 #[Z7 Z9 n,Z7 Z9 nb] w λe w'=>Py n nb w e w':=by
 refine (oE n nb w b a).mono ?_;rintro e w' ⟨c,d,f⟩;refine ⟨c,d,f.imp_right ?_⟩;rintro ⟨g,F,h,i⟩;exact ⟨g,F,h.at (nH b a),i⟩
