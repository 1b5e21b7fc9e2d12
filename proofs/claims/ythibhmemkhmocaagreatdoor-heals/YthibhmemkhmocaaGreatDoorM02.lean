import Derived.WalkKit
import Derived.Test.YthibhmemkhmocaaGreatDoorRows
import Derived.ProofKit
import Derived.OpenShut
import Derived.WalkSpells
import Derived.Deep.OwnRows
import Derived.Deep.Slices
import Derived.Deep.Matrix
import Derived.Deep.MidRow
import Derived.Test.YthibhmemkhmocaaGreatDoorM01
import Derived.Laws.BitsLemmas
import Derived.Deep.QuietTactic
import Derived.BigQuiet
import Derived.Maps.AppendAt
import Derived.Laws.Bits64b
import Derived.RangeFuncNested
import Derived.RangeFuncBound
import Derived.RangeFuncLeaves
import Derived.Shelf.Abstract
import Derived.Shelf.RegionOpen
import Derived.OwnWalkIn
import Derived.TacticsInMore
import Derived.LoopNIn
import Derived.LoopIn
import Derived.RegionTactic
import Derived.OrdersHeld
set_option maxRecDepth 100000
set_option linter.all false
set_option maxHeartbeats 8000000
open Go.IntKind renaming i64 -> Z9
open Go.Value renaming int -> Z8, pointer -> Z7, slice -> Z6, bool -> Z3
open Go.Obj renaming cells -> Z5
open Go.Ending renaming returned -> Z4
open Go renaming undef -> Z1, World -> ZW, Value -> ZV, Calls -> ZT, Oper -> ZS, Act -> ZR, TypeId -> ZQ, Operand -> ZP
open Option renaming none -> Z0, some -> ZZ
open Bool renaming true -> ZY, false -> ZX
open Go.RowKit renaming Below -> ZU
open List renaming replicate -> YE, range -> YG, append_inj -> YR
open Array renaming replicate -> YF, getElem?_replicate -> YK, mem_toList_iff -> YN, all_eq_true' -> YQ
open BitVec renaming ofInt_natCast -> YH, toNat_xor -> YI, toNat_ofNat -> YJ
open Int renaming natCast_nonneg -> YL
open Bool renaming or_eq_true_iff -> YM, false_eq_true -> YO
open Option renaming getD_some -> YP
open Go.Proofs.Tryz renaming prog -> ZO
open Go.Proofs.Tryz
namespace Go.Proofs.YthibhmemkhmocaaGreatDoor
variable {p q:Prop}
def ei (h:p:=by kernel_rfl):p:=h
def eT (h:p:=by go_num):p:=h
def ua (h:p:=by go_simp):p:=h
def Y5 (h:p:=by simp [results,results145,go_sem,n0,n1]):p:=h
end Go.Proofs.YthibhmemkhmocaaGreatDoor
namespace Go.Proofs.YthibhmemkhmocaaGreatDoor
def TW:=@Go.RowKit.Below.refl
def Uv:=@List.mem_cons
def Wc:=@Nat.mod_lt
def XX:=@Nat.pow_succ
def VV:=@Nat.div_le_self
def Xx:=@Nat.div_eq_of_lt
def Xd:=@List.not_mem_nil
def VF:=@List.eq_of_mem_replicate
def Ua:=@List.length_append
def UA:=@List.length_cons
def UV:=@List.length_nil
def US:=@List.cons_append
def Uq:=@List.nil_append
def abL:=@List.drop_succ_cons
def Xy:=@List.drop_zero
def VW:=@List.take_append_of_le_length
def UI:=@List.take_of_length_le
def Xe:=@List.drop_append_of_le_length
def WT:=@List.drop_of_length_le
def VG:=@List.drop_drop
def VY:=@Nat.mod_eq_of_lt
def XY:=@List.length_replicate
def Wd:=@Go.World.rowIs.of_block
def abM:=@Go.World.rowIs.cell
def VZ:=@List.length_set
def Ub:=@List.getD_eq_getElem?_getD
def Xz:=@Go.World.rowIs_made
def TX:=@Array.getElem?_eq_some_iff
def UK:=@Go.World.ownsRow_nil
def Uw:=@List.map_append
def T9:=@List.mem_map
def UW:=@List.eq_nil_of_length_eq_zero
def V0:=@Go.wpList_plain
def XZ:=@Go.run_make_row'
def Un:=@Go.Proofs.Tryz.underlying40
def Uh:=@Go.Deep.nblk_alloc
def Ud:=@Go.Deep.blk_setCell_other
def UD:=@List.getElem?_map
def Va:=@List.getElem?_eq_some_iff
def abN:=@Array.getElem?_setIfInBounds
def Vy:=@Array.getElem?_modify
def Ue:=@List.length_map
def Uc:=@List.getElem?_eq_getElem
def Uu:=@Go.info_parts
def UE:=@Go.Sem.run_bind
def Ug:=@Go.Deep.blk_alloc_new
def Vt:=@Go.setRow_heap
def VP:=@Go.Sem.run_pure
def UT:=@Go.Result.andThen_ok
def Xf:=@Go.run_loadVar_row
def XA:=@Go.Proofs.Tryz.underlying114
def X1:=@Go.run_storeVar_row
def abO:=@Go.wpList_load_mid
def Uy:=@Go.IntKind.wrap_i64
def Xg:=@Nat.lt_trans
def Ys:=@Bool.eq_iff_iff
def UZ:=@decide_eq_true
def Vr:=@decide_eq_false
def Uf:=@Go.block_lt_of_cell
def Uo:=@List.length_take
def UX:=@List.mem_of_mem_take
def Uj:=@Nat.zero_add
def VH:=@Go.wp_loop_rounds
def Vz:=@Go.rounds_succ
def abP:=@List.take_succ_cons
def Yt:=@Nat.sub_zero
def Yu:=@Go.wpList_append_own_at
def Vb:=@Go.IntKind.wrap_u64
def abQ:=@Go.bits_or_u64_nat
def XB:=@Nat.testBit_two_pow_sub_succ
def XC:=@Nat.testBit_two_pow_sub_one
def WD:=@Nat.testBit_lt_two_pow
def abR:=@Nat.and_two_pow_sub_one_eq_mod
def Ve:=@List.take_add_one
def VA:=@List.take_length
def Yv:=@Go.Deep.nblk_setCell
def Vc:=@List.ext_getElem
def Wl:=@List.getElem_set
def XD:=@List.mem_iff_getElem
def V3:=@List.pairwise_iff_getElem
def Yw:=@Nat.lt_or_gt_of_ne
def Yx:=@Go.cell_one_new
def Wm:=@Go.RowKit.Below.heap_setCell
def Xh:=@Go.grownBy_putObj'
def UP:=@Go.World.putObj_heap_other
def Vd:=@Go.callsIn_wide
def abS:=@Go.CallsIn.inRound
def X2:=@Go.World.alloc_heap_new
def Ul:=@Go.World.size_alloc
def We:=@Go.RowKit.Below.heap_alloc
def Vf:=@Array.getD_eq_getD_getElem?
def X3:=@Nat.lt_or_ge
def WU:=@List.all_eq_true
def acm:=@Array.setIfInBounds_comm
def VJ:=@Bool.and_eq_true
def Xj:=@Bool.or_eq_true
def V4:=@decide_eq_true_eq
def abT:=@Bool.true_and
def Yy:=@Go.Region.noSelect_spec
def Vu:=@Go.Oper.semAt_plain
def Xk:=@Go.Act.put_comm
def Ut:=@Go.bodyPost_ret
def XE:=@Bool.and_eq_true_iff
def VK:=@Array.getElem?_eq_getElem
def WV:=@Option.map_some
def Yz:=@Array.toList_setIfInBounds
def TY:=@List.set_cons_succ
def Xl:=@List.length_eq_zero_iff
def WE:=@of_decide_eq_true
def Ww:=@List.getElem?_range
def UB:=@Option.some.injEq
def WW:=@Prod.mk.injEq
def acn:=@List.eq_nil_iff_forall_not_mem
def X4:=@Eq.trans
def WX:=@Nat.lt_of_le_of_lt
def Xm:=@Nat.mul_le_mul
def WG:=@Nat.eq_zero_or_pos
def U7:=@List.getElem?_append_right
def X5:=@List.drop_eq_getElem_cons
def Wn:=@List.take_append_drop
def Xn:=@List.getElem?_set
def WH:=@List.getElem?_replicate
def X6:=@List.getElem_cons_succ
def YA:=@List.getElem?_set_self
def VC:=@List.getElem?_append_left
def abU:=@List.set_append_right
def VQ:=@List.mem_append_right
def U0:=@List.mem_of_mem_drop
end Go.Proofs.YthibhmemkhmocaaGreatDoor
namespace Go.Proofs.YthibhmemkhmocaaGreatDoor
def nM {α:Type _} (a:α):∃ x,a=x:=⟨a,rfl⟩
def lR {n:Nat}:n<=n:=TV n
def bA (w:Go.World) (o:Go.Obj):Go.RowKit.Below w.heap.size w (w.alloc o):=(TW _ w).alloc (TV _) o
abbrev bW (w v:Go.World):Prop:=Go.RowKit.Below w.heap.size w v
def b9 (p : Prop) : Prop := p
def b9.out {p : Prop} (h : b9 p) : p := h
def b9.o {p : Prop} (h : b9 p) : p := h
open Go.RowKit Go.Deep Gf Go.Shelf
variable {x listed:Array Bool} {ops:Array ZS} {args:Array ZV} {R R':Ending->ZW->Prop} {f:FuncId} {L:List (Nat×Nat×a8)} {sh:List (Op×Option Nat×a8)} {cs:List Frame} {k:List Item} {l l':a8} {rest:List ZS} {r b n base base' B j a m c i lo hi s:Nat} {D:Nat->Bool} {S T:Nat->Prop} {o:ZS} {P:Program} {α:Type} {e:ZQ} {v v':ZV} {w w' w'' w0 w1 w2:ZW}
def be (n:Nat):Nat->a8
 | 0=>[]
 | s+1=>n/256^s%256::be n s
def aD (n s:Nat):(be n s).length=s:=by induction s with
 | zero=>rfl
 | succ s ih=>simp [be,ih]
def qT (n s:Nat):∀ x∈be n s,x<256:=by induction s with
 | zero=>intro x a;simp [be] at a
 | succ s ih=>
  intro x a;simp only [be,Uv] at a;rcases a with rfl|a
  . exact Wc _ ee
  . exact ih x a
def fT (l:a8):Nat:=l.foldl (λn x=>(n*256+x)%18446744073709551616) 0
def sU (l:a8) (x:Nat):fT (l++[x])=(fT l*256+x)%18446744073709551616:=by simp [fT]
def P9 (l:a8):fT l<18446744073709551616:=by
 rcases List.eq_nil_or_concat l with rfl|⟨l',x,rfl⟩
 . decide
 . rw [List.concat_eq_append,sU];exact Wc _ ee
theorem NS (n:Nat) (e:n<18446744073709551616):∀ (s a:Nat),s<=8->a=n/256^s->(be n s).foldl (λn x=>(n*256+x)%18446744073709551616) a=n:=by
 intro s;induction s with
 | zero=>intro a _ b;simpa [be] using b
 | succ s ih=>
  intro a f b;simp only [be,Xc];refine ih _ ec ?_;subst b;have c:n/256^(s+1)=n/256^s/256:=by rw [XX,Nat.div_div_eq_div_mul]
  rw [c];have:n/256^s<=n:=VV _ _;generalize n/256^s=q at *;omega
def lu (n s:Nat) (a:s<=8) (h:n<256^s):fT (be n s)=n:=by
 have:(256:Nat)^s<=256^8:=UY ee a;exact NS n ec s 0 a (Xx h).symm
def cG:a8:=[0x00000000,0x1db71064,0x3b6e20c8,0x26d930ac,0x76dc4190,0x6b6b51f4,0x4db26158,0x5005713c,0xedb88320,0xf00f9344,0xd6d6a3e8,0xcb61b38c,0x9b64c2b0,0x86d3d2d4,0xa00ae278,0xbdbdf21c]
def dj (r:Nat):Nat:=(r/16)^^^cG.getD (r%16) 0
def dB (r b:Nat):Nat:=dj (dj (r^^^b))
def db (l:a8):Nat:=l.foldl dB 4294967295
def nR (l:a8):Nat:=4294967295-db l
def px:∀ i,cG.getD i 0<4294967296:=by
 intro i;by_cases h:i<16
 . have:∀ j:Fin 16,cG.getD j.1 0<4294967296:=by decide
   exact this ⟨i,h⟩
 . have:cG.getD i 0=0:=by simp [cG,Vm (en:([0x00000000,0x1db71064,0x3b6e20c8,0x26d930ac,0x76dc4190,0x6b6b51f4,0x4db26158,0x5005713c,0xedb88320,0xf00f9344,0xd6d6a3e8,0xcb61b38c,0x9b64c2b0,0x86d3d2d4,0xa00ae278,0xbdbdf21c]:a8).length<=i)]
   omega
def gC (h:r<4294967296):dj r<4294967296:=by
 unfold dj;exact V9 (n:=32) ec (px _)
def fm (h:r<4294967296) (a:b<256):dB r b<4294967296:=
 gC (gC (V9 (n:=32) h ec))
def zv:∀ (l:a8) (r:Nat),r<4294967296->(∀ x∈l,x<256)->l.foldl dB r<4294967296:=by
 intro l;induction l with
 | nil=>intro r h _;exact h
 | cons b l ih=>intro r h hl;exact ih _ (fm h (hl b ek)) (λx a=>hl x Zg)
def ng (h:∀ x∈l,x<256):db l<4294967296:=zv l _ ee h
def zw (l:a8):nR l<4294967296:=by unfold nR;omega
inductive bG where
 | blank
 | root (D L G turn first len:Nat)
 | filled
 | shard (l:a8)
deriving DecidableEq
def bG.body:bG->a8
 | .blank=>[]
 | .root D L G t f n=>[1,D%256,L%256,G%256]++(be t 8++(be f 4++be n 4))
 | .filled=>[2]
 | .shard l=>3::(YE 15 0++l)
def eI (body:a8):a8:=be (nR (body++YE (60-body.length) 0)) 4++(body++YE (60-body.length) 0)
def bG.blk (r:bG):a8:=if r.body.length=0 then YE 64 0 else eI r.body
def bG.ok:bG->Prop
 | .blank=>True
 | .root D L G t f n=>D<256/\L<256/\G<256/\t<18446744073709551616/\f<4294967296/\n<4294967296
 | .filled=>True
 | .shard l=>l.length=44/\∀ x∈l,x<256
def rP (b:a8):bG:=
 if b.getD 4 0=1 then .root (fT [b.getD 5 0]) (fT [b.getD 6 0]) (fT [b.getD 7 0]) (fT ((b.drop 8).take 8)) (fT ((b.drop 16).take 4)) (fT ((b.drop 20).take 4))
 else if b.getD 4 0=2 then .filled else if b.getD 4 0=3 then .shard (b.drop 20) else .blank
def nS {r:bG} (h:r.ok):r.body.length<=60:=by
 cases r with
 | blank=>simp [bG.body]
 | root D L G t f n=>simp [bG.body,aD]
 | filled=>simp [bG.body]
 | shard l=>simp [bG.body,h.1]
theorem F8 {r:bG} (h:r.ok):r.blk.length=64:=by
 have:=nS h;unfold bG.blk eI;split
 . simp
 . simp [aD];omega
def rZ {r:bG} (h:r.ok):∀ x∈r.body,x<256:=by
 cases r with
 | blank=>intro x a;simp [bG.body] at a
 | root D L G t f n=>
  intro x a;simp only [bG.body,Ui,Uv,Xd,or_false] at a;rcases a with (rfl|rfl|rfl|rfl)|a|a|a
  . omega
  . omega
  . omega
  . omega
  all_goals exact qT _ _ x a
 | filled=>
  intro x a;simp only [bG.body,Uv,Xd,or_false] at a;omega
 | shard l=>
  intro x a;simp only [bG.body,Ui,Uv] at a;rcases a with rfl|a|a
  . decide
  . have:=VF a;omega
  . exact h.2 x a
def Hi (h:∀ x∈l,x<256):∀ x∈eI l,x<256:=by
 intro x a;unfold eI at a;simp only [Ui] at a;rcases a with a|a|a
 . exact qT _ _ x a
 . exact h x a
 . have:=VF a;omega
theorem Qa {r:bG} (h:r.ok):∀ x∈r.blk,x<256:=by
 unfold bG.blk;split
 . intro x a;have:=VF a;omega
 . exact Hi (rZ h)
def Qb (n:Nat):be n 4=[n/256^3%256,n/256^2%256,n/256^1%256,n/256^0%256]:=rfl
def r6 (x:Nat) (h:x<256):fT [x]=x:=by simp [fT];omega
theorem NT {r:bG} (h:r.ok):rP r.blk=r:=by
 cases r with
 | blank=>rfl
 | root D L G t f n=>
  obtain ⟨d,g,i,j,k,o⟩:=h;have e:bG.blk (.root D L G t f n)=eI (bG.body (.root D L G t f n)):=by unfold bG.blk;rw [TS Zh]
  rw [e];unfold eI;generalize nR _=c;simp only [bG.body,Qb c,Ua,UA,UV,aD];unfold rP;simp only [US,Uq,List.getD_cons_succ,List.getD_cons_zero,if_true,abL,Xy,Uz];have t8:∀ R:a8,(be t 8++R).take 8=be t 8:=λR=>by rw [VW Zn];exact UI Zn
  have a:∀ R:a8,(be t 8++R).drop 8=R:=λR=>by rw [Xe Zn,WT Zn];rfl
  have b:∀ (m:Nat) (R:a8),(be m 4++R).take 4=be m 4:=λm R=>by rw [VW Zn];exact UI Zn
  have d12:∀ R:a8,(be t 8++(be f 4++R)).drop 12=R:=λR=>by
   rw [show (12:Nat)=8+4 from rfl,<- VG,a,Xe Zn,WT Zn];rfl
  rw [t8,a,b,d12,b,lu t 8 ee j,lu f 4 ee k,lu n 4 ee o];rw [r6 _ ec,r6 _ ec,r6 _ ec,VY d,VY g,VY i]
 | filled=>
  have e:bG.blk .filled=eI (bG.body .filled):=by unfold bG.blk;rw [TS Zh]
  rw [e];unfold eI;generalize nR _=c;simp only [bG.body,Qb c,UA,UV];unfold rP;simp
 | shard l=>
  have e:bG.blk (.shard l)=eI (bG.body (.shard l)):=by unfold bG.blk;rw [TS Zh]
  rw [e];unfold eI;generalize nR _=c;have hl:=h.1;simp only [bG.body,Qb c,Ua,UA,XY,hl];unfold rP;simp [YE]
def JW (l:a8):Option bG:=if (rP l).blk=l then ZZ (rP l) else Z0
def zx {r:bG} (h:r.ok):JW r.blk=ZZ r:=by unfold JW;rw [NT h,TT rfl]
def iG (h:n<=1000000000000):wrap64 (n:Int)=(n:Int):=E3
def vb (l:a8) (i:Nat):ZV:=Z8 .u8 ((l.getD i 0:Nat):Int)
def aM (w:ZW) (b:Nat) (l:a8):Prop:=w.rowIs b 5 l.length (vb l)
def fX (p:Nat×Nat×a8):ZV:=Z6 (ZZ ⟨p.1,0,Z0⟩) p.2.1 p.2.2.length
structure eh (w:ZW) (base:Nat) (v:ZV) (L:List (Nat×Nat×a8)):Prop where
 own:w.ownsRow base 40 1 v L.length (L.map fX)
 row:∀ p∈L,base<=p.1/\aM w p.1 p.2.2/\p.2.1<=p.2.2.length/\(p.2.1<=140737488355328/\p.2.2.length<=9223372036854775807)/\∀ x∈p.2.2,x<256
 nodup:(L.map (λp=>p.1)).Nodup
def dm (h:∀ x∈l,x<256) (i:Nat):l.getD i 0<256:=by
 by_cases hi:i<l.length
 . have e:l.getD i 0=l[i]:=(by simp [hi]);rw [e];exact h _ (T6 hi)
 . have e:l.getD i 0=0:=(by simp [Vm (ec:l.length<=i)]);rw [e];decide
def aM.below (h:aM w b l) (a:ZU w.heap.size w w'):aM w' b l:=
 Wd h (a.block b h.lt)
def aM.cell (h:aM w b l) (i:Nat) (hi:i<l.length):w.cell? ⟨b,i,Z0⟩=ZZ (Z8 .u8 ((l.getD i 0:Nat):Int)):=
 abM h hi
def aM.frozen (h:aM w b l) (i:Nat):w.frozen? ⟨b,i,Z0⟩=ZX:=World.rowIs.frozen h i
theorem aM.set (h:aM w b l) (i x:Nat):aM (w.setCell ⟨b,i,Z0⟩ (Z8 .u8 (x:Int))) b (l.set i x):=by
 have a:=World.rowIs.set h i (Z8 .u8 (x:Int));unfold aM;rw [VZ];refine a.congr λj c=>?_;unfold vb;by_cases e:j=i
 . subst e;simp [c]
 . simp only [TS e];rw [Ub,Ub,List.getElem?_set_ne (λh=>e h.symm)]
def aM.other (h:aM w b l) {a:Addr} (c:b≠a.block) (v:ZV):aM (w.setCell a v) b l:=World.rowIs.setOther h c v
def aM.alloc (h:aM w b l) (o:Obj):aM (w.alloc o) b l:=World.rowIs.alloc h o
def aM.lt (h:aM w b l):b<w.heap.size:=World.rowIs.lt h
def aM.grown {row:Option Nat} (h:aM w b l) (c:w.grownBy w' row) (a:ZZ b≠row):aM w' b l:=
 Wd h (c.block b h.lt a)
theorem aM.made (w:ZW) (n:Nat):aM (w.alloc (Z5 (madeCells #[Z8 .u8 0] n) 5)) w.heap.size (YE n 0):=by
 have h:=Xz w (Z8 .u8 0) n 5;unfold aM;rw [XY];refine h.congr λi hi=>?_;simp [vb,hi]
def aq {size:Nat} {xs:List ZV} (h:w.ownsRow base e size v n xs) (j:ZU w.heap.size w w'):w'.ownsRow base e size v n xs:=by
 refine ⟨h.1,?_⟩;rcases h.2 with f|⟨g,cap,cur,b,c,a,d⟩
 . exact .inl f
 . refine .inr ⟨g,cap,cur,b,c,?_,d⟩;obtain ⟨i,_⟩:=TX.1 a;rw [j.block g i];exact a
def cV {size:Nat} {xs:List ZV} (h:w.ownsRow base e size v n xs) (f:base'<=base):w.ownsRow base' e size v n xs:=by
 refine ⟨h.1,?_⟩;rcases h.2 with c|⟨g,cap,cur,a,d,b⟩
 . exact .inl c
 . exact .inr ⟨g,cap,cur,a,ec,b⟩
def py {xs:List ZV} (h:w.ownsRow base 40 1 v n xs) {b:Nat} {l:a8} (i:aM w b l):v.ownBlock≠ZZ b:=by
 intro e;rcases h.2 with ⟨f,_⟩|⟨g,cap,cur,d,k,a,m⟩
 . rw [f] at e;simp [Value.ownBlock] at e
 . rw [d] at e;simp [Value.ownBlock] at e;subst e;obtain ⟨c,j,_⟩:=i;rw [j] at a;simp at a
def eh.weaken (h:eh w base v L) (c:base'<=base):eh w base' v L:=
 ⟨cV h.own c,λp d=>by obtain ⟨a,b⟩:=h.row p d;exact ⟨ec,b⟩,h.nodup⟩
def eh.nil (w:ZW) (base:Nat):eh w base (Z6 Z0 0 0) []:=
 ⟨UK _ _ _ _,λp a=>Zm,ek⟩
def eh.below (h:eh w base v L) (d:ZU w.heap.size w w'):eh w' base v L:=
 ⟨aq h.own d,λp e=>by obtain ⟨a,b,c⟩:=h.row p e;exact ⟨a,b.below d,c⟩,h.nodup⟩
def eh.alloc (h:eh w base v L) (o:Obj):eh (w.alloc o) base v L:=
 h.below (bA _ _)
def eh.push {p:Nat×Nat×a8} (h:eh w base v L) (i:w.grownBy w' v.ownBlock) (j:w'.ownsRow base 40 1 v' (L.length+1) (L.map fX++[fX p]))
 (f:base<=p.1/\aM w p.1 p.2.2/\p.2.1<=p.2.2.length/\(p.2.1<=140737488355328/\p.2.2.length<=9223372036854775807)/\∀ x∈p.2.2,x<256) (k:∀ q∈L,q.1≠p.1):eh w' base v' (L++[p]):=by
 refine ⟨oD j,λq d=>?_,?_⟩
 . rcases Ui.1 d with d|d
   . obtain ⟨a,b,c⟩:=h.row q d;exact ⟨a,b.grown i (λe=>py h.own b e.symm),c⟩
   . simp at d;subst d;exact ⟨f.1,f.2.1.grown i (λe=>py h.own f.2.1 e.symm),f.2.2⟩
 . rw [Uw,U9];refine ⟨h.nodup,ek,?_⟩;intro a l b g;obtain ⟨q,d,rfl⟩:=T9.1 l;simp at g;subst g;exact k q d
theorem jG (g i:Nat):(⟨g,0,Z0⟩:Addr).add i=⟨g,i,Z0⟩:=by
 unfold Addr.add;split
 . rename_i h;simp_all
 . simp
def eh.shape (h:eh w base v L):(v=Z6 Z0 0 0/\L=[])\/∃ g cap,v=Z6 (ZZ ⟨g,0,Z0⟩) L.length cap/\base<=g/\L.length<=cap/\cap<=maxLen/\g<w.heap.size/\(∀ i (hi:i<L.length),w.cell? ⟨g,i,Z0⟩=ZZ (fX L[i]))/\(∀ i,w.frozen? ⟨g,i,Z0⟩=ZX)/\∀ p∈L,p.1≠g:=by
 rcases h.own.2 with ⟨j,k⟩|⟨g,cap,cur,a,c,b,d,f,n,o⟩
 . exact .inl ⟨j,UW k⟩
 . obtain ⟨l,_⟩:=TX.1 b;refine .inr ⟨g,cap,a,c,d,f,l,λi hi=>?_,λi=>?_,λp m e=>?_⟩
   . have:=h.own.cells (g:=g) T2 i (fX L[i]) (by simp [hi]);rw [jG] at this;exact this
   . simp [World.frozen?,b]
   . have:=py h.own (h.row p m).2.1;rw [a] at this;exact this (by rw [e];rfl)
def Tryz.R4:(ZO.info? 5).map (λi=>(i.zero,i.size,i.bytes))=ZZ (ZZ (Z8 .u8 0),1,1):=ei
def Tryz.RU:(ZO.info? 40).map (λi=>(i.zero,i.size,i.bytes))=ZZ (ZZ (Z6 Z0 0 0),1,24):=ei
def cP (w:ZW) {ops:Array ZS} {rest:List ZS} {o:ZS} {a:ZR} {Q:Exit->ZR->ZW->Prop}
 (h:o.guard=Z0) (l c:ZP) (e:o.op=Op.makeSlice 40 l c) (C:Int) (n:Nat) (hl:a.eval l=Z8 Z9 C) (g:a.eval c=Z8 Z9 C) (f:C=(n:Int)) (i:n<=140737488355328)
 (hK:∀ w',aM w' w.heap.size (YE n 0)->ZU w.heap.size w w'->w'.heap.size=w.heap.size+1->wpList ZO ops Q rest (a.put o.dst (Z6 (ZZ ⟨w.heap.size,0,Z0⟩) n n)) w') :
 wpList ZO ops Q (o::rest) a w:=by
 refine V0 h λK d=>?_;have b:=XZ (P:=ZO) 40 5 (Z8 .u8 0) 1 Un Tryz.R4 rfl .i64 .i64 n ec ec w;subst f;unfold Oper.wp;simp [execOp,e,hl,g,b,Result.andThen];exact d _ _ (hK _ (aM.made w n) (bA _ _) (Uh _ _))
section
structure aa (S:Nat->Prop) (w w':ZW):Prop where
 os:w'.os=w.os
 tape:w'.tape=w.tape
 output:w'.output=w.output
 size:w.heap.size<=w'.heap.size
 block:∀ k,k<w.heap.size->¬ S k->w'.heap[k]?=w.heap[k]?
def aa.refl (S:Nat->Prop) (w:ZW):aa S w w:=⟨rfl,rfl,rfl,TV _,λ_ _ _=>rfl⟩
def aa.mono (h:aa S w w') (b:∀ k,k<w.heap.size->S k->T k):aa T w w':=
 ⟨h.os,h.tape,h.output,h.size,λk a c=>h.block k a (λs=>c (b k a s))⟩
def aa.trans (h:aa S w w') (a:aa S w' w''):aa S w w'':=
 ⟨a.os.trans h.os,a.tape.trans h.tape,a.output.trans h.output,TU h.size a.size,λk b c=>(a.block k (T7 b h.size) c).trans (h.block k b c)⟩
def aa.later (h:aa S w w') (a:aa T w' w'') (d:∀ k,k<w.heap.size->T k->S k):aa S w w'':=
 ⟨a.os.trans h.os,a.tape.trans h.tape,a.output.trans h.output,TU h.size a.size,λk b c=>(a.block k (T7 b h.size) (λt=>c (d k b t))).trans (h.block k b c)⟩
def aa.RM (h:ZU B w w') (S:Nat->Prop) (a:∀ k,k<w.heap.size->¬ S k->k<B):aa S w w':=
 ⟨h.os,h.tape,h.output,h.size,λk b c=>h.block k (a k b c)⟩
def aa.RL (h:ZU w.heap.size w w') (S:Nat->Prop):aa S w w':=.RM h S λ_ a _=>a
def aa.below (h:aa S w w') {B:Nat} (a:∀ k,k<B->k<w.heap.size/\¬ S k):ZU B w w':=
 ⟨h.os,h.tape,h.output,h.size,λk b=>h.block k (a k b).1 (a k b).2⟩
def aa.setCell (w:ZW) (a:Addr) (v:ZV) (h:S a.block):aa S w (w.setCell a v):=
 ⟨rfl,rfl,rfl,oB,λk _ b=>Ud _ _ _ _ (λe=>b (e▸h))⟩
def aa.alloc (w:ZW) (o:Obj):aa S w (w.alloc o):=.RL (bA _ _) S
def aa.drew (w:ZW):aa S w w.drew:=⟨rfl,rfl,rfl,TV _,λ_ _ _=>rfl⟩
def aQ (b:Nat):∀ (a:List ZV) (o:Nat) (w:ZW) (k:Nat),k≠b->(w.setCells b o a).heap[k]?=w.heap[k]?
 | [],_,_,_,_=>rfl
 | v::r,o,w,k,h=>by
  show ((w.setCell ⟨b,o,Z0⟩ v).setCells b (o+1) r).heap[k]?=_;rw [aQ b r _ _ k h];exact Ud _ _ _ _ (by exact h)
def jr (b:Nat):∀ (a:List ZV) (o:Nat) (w:ZW),(w.setCells b o a).heap.size=w.heap.size
 | [],_,_=>rfl
 | v::r,o,w=>by
  show ((w.setCell ⟨b,o,Z0⟩ v).setCells b (o+1) r).heap.size=_;rw [jr b r];simp [World.setCell]
def js (b:Nat):∀ (a:List ZV) (o:Nat) (w:ZW),(w.setCells b o a).os=w.os/\(w.setCells b o a).tape=w.tape/\(w.setCells b o a).output=w.output
 | [],_,_=>⟨rfl,rfl,rfl⟩
 | v::r,o,w=>js b r (o+1) (w.setCell ⟨b,o,Z0⟩ v)
def aa.setCells (w:ZW) (b o:Nat) (a:List ZV) (h:S b):aa S w (w.setCells b o a):=by
 obtain ⟨c,d,f⟩:=js b a o w;exact ⟨c,d,f,by rw [jr];exact TV _,λk _ g=>aQ b a o w k (λe=>g (e▸h))⟩
theorem fE {t:Nat}:∀ (a:List ZV) (o:Nat) (w:ZW) (f:Nat->ZV),w.rowIs b t n f ->
 (w.setCells b o a).rowIs b t n (λk=>if o<=k/\k<o+a.length then a.getD (k-o) Z1 else f k)
 | [],o,w,f,h=>h.congr λi hi=>by
  show f i=if o<=i/\i<o+0 then _ else f i;rw [TS ec]
 | v::r,o,w,f,h=>by
  have d:=fE r (o+1) _ _ (h.set o v);refine World.rowIs.congr d λk g=>?_;simp only [UA];by_cases e:k=o
  . subst e;rw [TS ec,TT rfl,TT ec,Xb];rfl
  . by_cases c:o+1<=k/\k<o+1+r.length
    . rw [TT c,TT ec,(ec:k-o=(k-(o+1))+1)];rfl
    . rw [TS c,TS e,TS ec]
structure eQ where
 n:Nat
 nb:Nat
 lost:Nat->Bool
 bad:Nat->Nat->Bool
 blk:Nat->Nat->a8
structure aK where
 g:Nat
 cap:Nat
 bb:Nat->Nat
 bd:Nat->Nat
 S:Nat->Prop
def NU (f:Nat->a8) (k:Nat):ZV:=Z8 .u8 (((f (k/64)).getD (k%64) 0:Nat):Int)
def Qc (R:eQ) (F:aK) (cs:Array ZV) (i:Nat):Prop:=cs[i*4]?=ZZ (Z3 (R.lost i))/\cs[i*4+1]?=ZZ (Z6 (ZZ ⟨F.bb i,0,Z0⟩) R.nb R.nb)/\cs[i*4+2]?=ZZ (Z6 (ZZ ⟨F.bd i,0,Z0⟩) R.nb R.nb)/\∃ r,cs[i*4+3]?=ZZ (Z8 Z9 r)
structure ah (X:ZW) (p:Nat) (R:eQ) (F:aK):Prop where
 top:X.heap[p]?=ZZ (Z5 #[Z6 (ZZ ⟨F.g,0,Z0⟩) R.n F.cap,Z8 Z9 (-1)] 75 (0,0))
 drv:∃ cs,X.heap[F.g]?=ZZ (Z5 cs 79 (0,0))/\∀ i,i<R.n->Qc R F cs i
 blk:∀ i,i<R.n->X.rowIs (F.bb i) 114 (64*R.nb) (NU (R.blk i))
 bad:∀ i,i<R.n->X.rowIs (F.bd i) 4 R.nb (λj=>Z3 (R.bad i j))
 inj:∀ i j,i<R.n->j<R.n->(F.bb i=F.bb j->i=j)/\(F.bd i=F.bd j->i=j)
 S:∀ k,F.S k↔k=p\/k=F.g\/∃ i,i<R.n/\(k=F.bb i\/k=F.bd i)
 n:R.n<=1000
 nb:R.nb<=1000000
 len:∀ i j,(R.blk i j).length=64/\∀ x∈R.blk i j,x<256
variable {X Y:ZW} {p:Nat} {R:eQ} {F:aK}
def ah.sp (h:ah X p R F):F.S p:=(h.S p).2 (.inl rfl)
def ah.sg (h:ah X p R F):F.S F.g:=(h.S _).2 (.inr (.inl rfl))
def ah.sb (h:ah X p R F) {i:Nat} (hi:i<R.n):F.S (F.bb i):=(h.S _).2 (.inr (.inr ⟨i,hi,.inl rfl⟩))
def ah.sd (h:ah X p R F) {i:Nat} (hi:i<R.n):F.S (F.bd i):=(h.S _).2 (.inr (.inr ⟨i,hi,.inr rfl⟩))
def ah.RN (h:ah X p R F) {k:Nat} (b:F.S k):k<X.heap.size:=by
 rcases (h.S k).1 b with rfl|rfl|⟨i,hi,rfl|rfl⟩
 . exact (TX.1 h.top).1
 . obtain ⟨cs,a,_⟩:=h.drv;exact (TX.1 a).1
 . exact (h.blk i hi).lt
 . exact (h.bad i hi).lt
def ah.keep (h:ah X p R F) (a:∀ k,F.S k->Y.heap[k]?=X.heap[k]?):ah Y p R F:=by
 obtain ⟨cs,b,c⟩:=h.drv;exact ⟨(a _ h.sp).trans h.top,⟨cs,(a _ h.sg).trans b,c⟩,λi hi=>(h.blk i hi).of_block (a _ (h.sb hi)),λi hi=>(h.bad i hi).of_block (a _ (h.sd hi)),h.inj,h.S,h.n,h.nb,h.len⟩
def ah.below (h:ah X p R F) {B:Nat} (b:ZU B X Y) (a:X.heap.size<=B):ah Y p R F:=h.keep λk c=>b.block k (T7 (h.RN c) a)
def ah.alloc (h:ah X p R F) (o:Obj):ah (X.alloc o) p R F:=h.below (bA _ _) lR
def ah.apart (h:ah X p R F):p≠F.g/\(∀ i,i<R.n->F.bb i≠p/\F.bb i≠F.g/\F.bd i≠p/\F.bd i≠F.g)/\∀ i j,i<R.n->j<R.n->F.bb i≠F.bd j:=by
 obtain ⟨cs,k,_⟩:=h.drv;have f:=h.top;refine ⟨λe=>?_,λi hi=>?_,λi j hi l e=>?_⟩
 . rw [e,k] at f;simp at f
 . obtain ⟨c,a,_⟩:=h.blk i hi;obtain ⟨d,b,_⟩:=h.bad i hi;refine ⟨λe=>?_,λe=>?_,λe=>?_,λe=>?_⟩
   . rw [e,f] at a;simp at a
   . rw [e,k] at a;simp at a
   . rw [e,f] at b;simp at b
   . rw [e,k] at b;simp at b
 . obtain ⟨c,a,_⟩:=h.blk i hi;obtain ⟨d,b,_⟩:=h.bad j l;rw [e,b] at a;simp at a
def ah.R3 (h:ah X p R F) (i:Nat) (hi:i<R.n):X.cell? ⟨F.g,i*4,Z0⟩=ZZ (Z3 (R.lost i))/\X.cell? ⟨F.g,i*4+1,Z0⟩=ZZ (Z6 (ZZ ⟨F.bb i,0,Z0⟩) R.nb R.nb) /\
 X.cell? ⟨F.g,i*4+2,Z0⟩=ZZ (Z6 (ZZ ⟨F.bd i,0,Z0⟩) R.nb R.nb)/\∃ r,X.cell? ⟨F.g,i*4+3,Z0⟩=ZZ (Z8 Z9 r):=by
 obtain ⟨cs,a,b⟩:=h.drv;obtain ⟨c,d,e,r,f⟩:=b i hi;simp only [World.cell?,a];exact ⟨c,d,e,r,f⟩
def ah.Sa (h:ah X p R F) (k:Nat):X.frozen? ⟨F.g,k,Z0⟩=ZX:=by obtain ⟨cs,a,_⟩:=h.drv;simp [World.frozen?,a]
def ah.RQ (h:ah X p R F):X.cell? ⟨p,0,Z0⟩=ZZ (Z6 (ZZ ⟨F.g,0,Z0⟩) R.n F.cap)/\X.cell? ⟨p,1,Z0⟩=ZZ (Z8 Z9 (-1)):=by simp [World.cell?,h.top]
def aJ (l:a8):List ZV:=l.map λ(x:Nat)=>Value.int .u8 (x:Int)
def ah.range (h:ah X p R F) {i j:Nat} (hi:i<R.n) (d:j<R.nb):X.rangeAt (F.bb i) (j*64) (aJ (R.blk i j)):=by
 intro k v a;unfold aJ at a;rw [UD,Wk] at a;obtain ⟨x,b,rfl⟩:=a;obtain ⟨c,e⟩:=Va.1 b;rw [(h.len i j).1] at c;rw [(h.blk i hi).cell (i:=j*64+k) ec];unfold NU;rw [(ec:(j*64+k)/64=j),(ec:(j*64+k)%64=k),Ub,b];rfl
def ah.there (h:ah X p R F) {i j:Nat} (hi:i<R.n) (a:j<R.nb):X.there (F.bb i) (j*64) 64:=λk b=>by
 rw [(h.blk i hi).cell (i:=j*64+k) ec];exact ⟨rfl,(h.blk i hi).frozen _⟩
def bE {cs:Array ZV} {k:Nat} {u:ZV} (h:cs[j]?=ZZ u) (v:ZV):(cs.setIfInBounds k v)[j]?=ZZ (if j=k then v else u):=by
 rw [abN];obtain ⟨q,_⟩:=TX.1 h;by_cases e:k=j
 . subst e;simp [q]
 . rw [TS e,TS (λq=>e q.symm),h]
def ah.Tr (h:ah X p R F) (k:Nat) (v:ZV) (l:Nat->Bool) (m:∀ cs i,i<R.n->Qc R F cs i->Qc { R with lost:=l } F (cs.setIfInBounds k v) i):ah (X.setCell ⟨F.g,k,Z0⟩ v) p { R with lost:=l } F:=by
 obtain ⟨c,b,o⟩:=h.apart;have a:∀ j,j≠F.g->(X.setCell ⟨F.g,k,Z0⟩ v).heap[j]?=X.heap[j]?:=λj f=>Ud _ _ _ _ f;obtain ⟨cs,d,e⟩:=h.drv;exact ⟨(a _ c).trans h.top,⟨cs.setIfInBounds k v,by simp [World.setCell,Vy,d],λi hi=>m cs i hi (e i hi)⟩,λi hi=>(h.blk i hi).of_block (a _ (b i hi).2.1),λi hi=>(h.bad i hi).of_block (a _ (b i hi).2.2.2),h.inj,h.S,h.n,h.nb,h.len⟩
def ah.count (h:ah X p R F) (d:Nat) (x:Int):ah (X.setCell ⟨F.g,d*4+3,Z0⟩ (Z8 Z9 x)) p R F:=
 h.Tr _ _ R.lost λcs i _ q=>by
  obtain ⟨a,b,c,r,f⟩:=q;refine ⟨(bE a _).trans (by rw [TS ec]),(bE b _).trans (by rw [TS ec]),(bE c _).trans (by rw [TS ec]),if i=d then x else r,(bE f _).trans ?_⟩;by_cases e:i=d
  . rw [TT ec,TT e]
  . rw [TS ec,TS e]
def ah.S5 (h:ah X p R F) (d:Nat) (t:Bool):ah (X.setCell ⟨F.g,d*4,Z0⟩ (Z3 t)) p { R with lost:=λk=>if k=d then t else R.lost k } F:=
 h.Tr _ _ _ λcs i _ q=>by
  obtain ⟨a,b,c,r,f⟩:=q;refine ⟨(bE a _).trans ?_,(bE b _).trans (by rw [TS ec]),(bE c _).trans (by rw [TS ec]),r,(bE f _).trans (by rw [TS ec])⟩;show _=ZZ (Value.bool (if i=d then t else R.lost i));by_cases e:i=d
  . rw [TT ec,TT e]
  . rw [TS ec,TS e]
def eQ.RT (R:eQ) (d:Nat) (f:Nat->a8):eQ:={ R with blk:=λi=>if i=d then f else R.blk i }
def eQ.RZ (R:eQ) (d:Nat) (f:Nat->Bool):eQ:={ R with bad:=λi=>if i=d then f else R.bad i }
theorem ah.RT (h:ah X p R F) {d:Nat} (c:d<R.n) {f:Nat->a8} (r:Y.rowIs (F.bb d) 114 (64*R.nb) (NU f)) (b:∀ k,k≠F.bb d->Y.heap[k]?=X.heap[k]?) (hl:∀ j,(f j).length=64/\∀ x∈f j,x<256):ah Y p (R.RT d f) F:=by
 obtain ⟨s,g,i⟩:=h.apart;obtain ⟨cs,l,o⟩:=h.drv;refine ⟨(b _ (g d c).1.symm).trans h.top,⟨cs,(b _ (g d c).2.1.symm).trans l,o⟩,λk a=>?_,λk a=>(h.bad k a).of_block (b _ (i d k c a).symm),h.inj,h.S,h.n,h.nb,λk m=>?_⟩
 . show Y.rowIs _ _ _ (NU (if k=d then f else R.blk k));by_cases e:k=d
   . rw [TT e,e];exact r
   . rw [TS e];exact (h.blk k a).of_block (b _ λq=>e ((h.inj k d a c).1 q))
 . show ((if k=d then f else R.blk k) m).length=64/\∀ x∈(if k=d then f else R.blk k) m,x<256;split
   . exact hl m
   . exact h.len k m
def ah.RZ (h:ah X p R F) {d:Nat} (c:d<R.n) {f:Nat->Bool} (o:Y.rowIs (F.bd d) 4 R.nb (λj=>Z3 (f j))) (b:∀ k,k≠F.bd d->Y.heap[k]?=X.heap[k]?):ah Y p (R.RZ d f) F:=by
 obtain ⟨r,g,i⟩:=h.apart;obtain ⟨cs,l,m⟩:=h.drv;refine ⟨(b _ (g d c).2.2.1.symm).trans h.top,⟨cs,(b _ (g d c).2.2.2.symm).trans l,m⟩,λk a=>(h.blk k a).of_block (b _ (i k d a c)),λk a=>?_,h.inj,h.S,h.n,h.nb,h.len⟩;show Y.rowIs _ _ _ (λj=>Z3 ((if k=d then f else R.bad k) j));by_cases e:k=d
 . rw [TT e,e];exact o
 . rw [TS e];exact (h.bad k a).of_block (b _ λq=>e ((h.inj k d a c).2 q))
theorem ah.setBlk (h:ah X p R F) {d:Nat} (a:d<R.n) (b:Nat) {l:a8} (hl:l.length=64) (g:∀ x∈l,x<256):ah (X.setCells (F.bb d) (b*64) (aJ l)) p (R.RT d λm=>if m=b then l else R.blk d m) F:=by
 refine h.RT a ((fE (aJ l) (b*64) X _ (h.blk d a)).congr λm _=>?_) (λk f=>aQ _ _ _ _ _ f) λj=>?_
 . have c:(aJ l).length=64:=(by unfold aJ;rw [Ue,hl]);rw [c];unfold NU;show _=Value.int .u8 (((if m/64=b then l else R.blk d (m/64)).getD (m%64) 0:Nat):Int);by_cases e:m/64=b
   . rw [TT ec,TT e,(ec:m-b*64=m%64)];unfold aJ;rw [Ub,UD,Ub,Uc (ec:m%64<l.length)];rfl
   . rw [TS ec,TS e]
 . split
   . exact ⟨hl,g⟩
   . exact h.len d j
theorem ah.Tx (h:ah X p R F) {d:Nat} (a:d<R.n) (b:Nat) (t:Bool):ah (X.setCell ⟨F.bd d,b,Z0⟩ (Z3 t)) p (R.RZ d λm=>if m=b then t else R.bad d m) F:=
 h.RZ a (((h.bad d a).set b (Z3 t)).congr λm _=>by split<;>rfl) λk c=>Ud _ _ _ _ c
structure az where
 n:Nat
 nb:Nat
 tn:Nat->Nat->Bool
 lost:Nat->Bool
 bad:Nat->Nat->Bool
 bl:Nat->Nat->Bool
 rc:Nat->Nat->bG
 sv:Nat
def eQ.rd (R:eQ) (i b:Nat):Option bG:=if R.bad i b=ZY then Z0 else JW (R.blk i b)
def az.rd (A:az) (i b:Nat):Option bG:=if A.bad i b=ZY then Z0 else ZZ (if A.bl i b=ZY then .blank else A.rc i b)
structure jc (R:eQ) (A:az):Prop where
 n:R.n=A.n
 nb:R.nb=A.nb
 lost:∀ i,i<A.n->R.lost i=A.lost i
 rd:∀ i b,i<A.n->A.lost i=ZX->R.rd i b=A.rd i b
 tn:∀ i b,i<A.n->A.lost i=ZX->A.bad i b=ZY->A.tn i b=ZX->R.bad i b=ZY
def aA (X:ZW) (p:Nat) (A:az) (F:aK):Prop:=∃ R,ah X p R F/\jc R A
variable {A:az}
def aA.RN (h:aA X p A F) {k:Nat} (b:F.S k):k<X.heap.size:=by
 obtain ⟨R,a,_⟩:=h;exact a.RN b
def aA.keep (h:aA X p A F) (c:∀ k,F.S k->Y.heap[k]?=X.heap[k]?):aA Y p A F:=by
 obtain ⟨R,a,b⟩:=h;exact ⟨R,a.keep c,b⟩
def aA.below (h:aA X p A F) {B:Nat} (b:ZU B X Y) (a:X.heap.size<=B):aA Y p A F:=h.keep λk c=>b.block k (T7 (h.RN c) a)
def aA.outside (h:aA X p A F) (c:aa S X Y) (b:∀ k,F.S k->¬ S k):aA Y p A F:=h.keep λk a=>c.block k (h.RN a) (b k a)
def aA.Sv (h:aA X p A F):A.n<=1000/\A.nb<=1000000:=by
 obtain ⟨R,a,b⟩:=h;rw [<- b.n,<- b.nb];exact ⟨a.n,a.nb⟩
def gnB (A:az) (b i:Nat):Bool:=A.lost i || A.bad i b || A.bl i b
def az.putAt (A:az) (ds:a8) (b:Nat) (f:Nat->bG):az:={ A with bad:=λi m=>if m=b/\i∈ds then ZX else A.bad i m,bl:=λi m=>if m=b/\i∈ds then ZX else A.bl i m,rc:=λi m=>if m=b/\i∈ds then f i else A.rc i m }
def wV (A:az) (b:Nat) (f:Nat->bG):A.putAt [] b f=A:=by simp [az.putAt]
theorem sV (A:az) (ds:a8) (d b:Nat) (f:Nat->bG):(A.putAt ds b f).putAt [d] b (λ_=>f d)=A.putAt (ds++[d]) b f:=by
 unfold az.putAt;simp only [az.mk.injEq,true_and,and_true,Ui,U6];refine ⟨funext λi=>funext λm=>?_,funext λi=>funext λm=>?_,funext λi=>funext λm=>?_⟩
 . by_cases a:m=b<;>by_cases c:i=d<;>by_cases e:i∈ds<;>simp [a,c,e]
 . by_cases a:m=b<;>by_cases c:i=d<;>by_cases e:i∈ds<;>simp [a,c,e]
 . by_cases a:m=b<;>by_cases c:i=d<;>by_cases e:i∈ds<;>simp_all
def jc.put (h:jc R A) (d b:Nat) {r:bG} (c:r.ok):jc ((R.RT d λm=>if m=b then r.blk else R.blk d m).RZ d λm=>if m=b then ZX else R.bad d m) (A.putAt [d] b λ_=>r):=by
 refine ⟨h.n,h.nb,h.lost,λi m hi hl=>?_,λi m hi hl=>?_⟩
 . have q:=h.rd i m hi hl;unfold eQ.rd az.rd at q;unfold eQ.rd az.rd az.putAt eQ.RZ eQ.RT;by_cases e:i=d
   . subst e;by_cases a:m=b
     . subst a;simp [zx c]
     . simpa [a] using q
   . simpa [e] using q
 . have q:=h.tn i m hi hl;unfold az.putAt eQ.RZ eQ.RT;by_cases e:i=d
   . subst e;by_cases a:m=b
     . subst a;simp
     . simpa [a] using q
   . simpa [e] using q
def jc.lostPut (h:jc R A) {d:Nat} (hl:A.lost d=ZY) (b:Nat) (r:bG):jc R (A.putAt [d] b λ_=>r):=by
 have c:∀ i,A.lost i=ZX->i≠d:=λi h e=>by rw [e,hl] at h;cases h
 refine ⟨h.n,h.nb,h.lost,λi m hi a=>?_,λi m hi a=>?_⟩
 . rw [h.rd i m hi a];unfold az.rd az.putAt;simp [c i a]
 . have q:=h.tn i m hi a;unfold az.putAt;simpa [c i a] using q
variable {w w' w'':ZW} {n:Nat} {k k':Nat->Nat}
end
def aH (l:a8):Array ZV:=(aJ l).toArray
def iu (l:a8):(aH l).size=l.length:=by unfold aH aJ;simp
def wW (l:a8):(aH l).toList=aJ l:=by unfold aH;rfl
def aX (l:a8):(aJ l).length=l.length:=by unfold aJ;simp
def Be (l:a8):(aH l).all (λv=>v.oneCell')=ZY:=all_oneCell_toArray λv a=>by
 unfold aJ at a;rw [T9] at a;obtain ⟨x,_,rfl⟩:=a;rfl
def Tryz.S6:(ZO.info? 114).map (λi=>i.size)=ZZ 64:=ei
def iw (h:l.length=64):(ZO.info? 114).map (λi=>i.size)=ZZ (aH l).size:=by rw [iu,h];exact Tryz.S6
def zb:a8:=YE 64 0
def dD:zb.length=64:=by simp [zb]
def Tryz.zeroBlk:(ZO.info? 114).map (λi=>(i.zero,i.size,i.bytes))=ZZ (ZZ (.agg (aH zb)),64,64):=ei
def zeroBlk (w:ZW):(zeroValue 114).run ZO w=.ok (.agg (aH zb)) w:=by
 obtain ⟨c,a,b,_,_⟩:=Uu Tryz.zeroBlk;simp [zeroValue,typeInfo,UE,a,b]
def cL (w:ZW) (b:Nat) (l:a8):Prop:=w.heap[b]?=ZZ (Z5 (aH l) 114 (0,0))
def cL.lt (h:cL w b l):b<w.heap.size:=(TX.1 h).1
def cL.new (w:ZW) (l:a8):cL (w.alloc (Z5 (aH l) 114)) w.heap.size l:=Ug _ _
def cL.keep (h:cL w b l) (e:w'.heap[b]?=w.heap[b]?):cL w' b l:=e.trans h
def cL.setRow (l:a8) (h:cL w b l'):cL (w.setRow b (aH l)) b l:=Vt w b (aH l') (aH l) _ _ h
def aY (w:ZW) (b:Nat) (cs:Array ZV):w.grownBy (w.setRow b cs) (ZZ b):=
 ⟨rfl,rfl,rfl,ek,λk _ a=>by
  have:b≠k:=λe=>a Wb;simp [World.setRow,Vy,this]⟩
def aa.setRow (w:ZW) (b:Nat) (cs:Array ZV) (h:S b):aa S w (w.setRow b cs):=
 have g:=aY w b cs
 ⟨g.os,g.tape,g.output,g.size,λk a c=>g.block k a (λe=>c (by cases e;exact h))⟩
def jd (w:ZW) (b:Nat) (cs:Array ZV):(w.setRow b cs).heap.size=w.heap.size:=V1
def nh (h:cL w b l) (hl:l.length=64):(Instr.loadAt 114 (Z7 (ZZ ⟨b,0,Z0⟩))).run ZO w=.ok (.agg (aH l)) w:=by
 simp only [Instr.loadAt,Instr.sureAddr,UE,VP,UT,Xf w b 114 114 (aH l) (0,0) _ h XA rfl (iw hl)]
def lx (h:cL w b l) (hl:l.length=64):(loadVar 114 ⟨b,0,Z0⟩).run ZO w=.ok (.agg (aH l)) w:=
 Xf w b 114 114 (aH l) (0,0) _ h XA rfl (iw hl)
def Bh (l:a8) (h:cL w b l') (a:l'.length=64) (hl:l.length=64):(Instr.storeAt 114 (Z7 (ZZ ⟨b,0,Z0⟩)) (.agg (aH l))).run ZO w=.ok () (w.setRow b (aH l)):=by
 simp only [Instr.storeAt,Instr.sureAddr,UE,VP,UT,X1 w b 114 114 (aH l') (aH l) h (iw hl) (by rw [iu,iu,hl,a]) (Be l)]
def r9 {a:ZR} {Q:Exit->ZR->ZW->Prop} (d:o.guard=Z0) (x:ZP) (ho:o.op=.load 114 x) (b:Nat) (l:a8)
 (e:a.eval x=Z7 (ZZ ⟨b,0,Z0⟩)) (c:cL w b l) (hl:l.length=64) (h:wpList ZO ops Q rest (a.put o.dst (.agg (aH l))) w):wpList ZO ops Q (o::rest) a w:=by
 refine V0 d λK hK=>?_;unfold Oper.wp;simp [execOp,ho,e,nh c hl,Result.andThen];exact hK _ _ h
def iH {a:ZR} {Q:Exit->ZR->ZW->Prop} (e:o.guard=Z0) (x y:ZP) (ho:o.op=.store 114 x y) (b:Nat) (l l':a8)
 (f:a.eval x=Z7 (ZZ ⟨b,0,Z0⟩)) (g:a.eval y=.agg (aH l)) (d:cL w b l') (c:l'.length=64) (hl:l.length=64) (h:wpList ZO ops Q rest (a.put o.dst Z1) (w.setRow b (aH l))):wpList ZO ops Q (o::rest) a w:=by
 refine V0 e λK hK=>?_;unfold Oper.wp;simp [execOp,ho,f,g,Bh l d c hl,Result.andThen];exact hK _ _ h
def D7 {a:ZR} {Q:Exit->ZR->ZW->Prop} (d:o.guard=Z0) (x:ZP) (ho:o.op=.load 114 x) (b k:Nat) (l:a8)
 (e:a.eval x=Z7 (ZZ ⟨b,k,Z0⟩)) (c:w.rangeAt b k (aJ l)) (hl:l.length=64) (h:wpList ZO ops Q rest (a.put o.dst (.agg (aH l))) w):wpList ZO ops Q (o::rest) a w:=
 abO d 114 x ho b k e (aJ l) _ c XA rfl (by rw [aX,hl];exact Tryz.S6) h
def fF {fn:Func} {p q:Tmp} {ty:ZQ} (h:fn.results=#[.cell p ty,.tmp q]) (tmps:Array ZV) (w:ZW) (a:Addr) (v u:ZV)
 (d:tmps.getD p Z1=Z7 (ZZ a)) (e:tmps.getD q Z1=u) (hl:(loadVar ty a).run P w=.ok v w):(results fn tmps).run P w=.ok (.tuple #[v,u]) w:=by
 have b:tmps[p]?.getD Z1=Z7 (ZZ a):=oD d
 have c:tmps[q]?.getD Z1=u:=oD e
 simp [results,h,b,c,asAddr,hl]
theorem ak {p:Prop} (h:p):b9 p:=h
theorem al {p0 p1:Prop} (a:p0) (b:p1):b9 (p0/\p1):=ak ⟨a,b⟩
theorem aE {p0 p1 p2:Prop} (a:p0) (b:p1) (c:p2):b9 (p0/\p1/\p2):=ak ⟨a,b,c⟩
theorem a5 {p0 p1 p2 p3:Prop} (a:p0) (b:p1) (c:p2) (d:p3):b9 (p0/\p1/\p2/\p3):=ak ⟨a,b,c,d⟩
theorem a6 {p0 p1 p2 p3 p4:Prop} (a:p0) (b:p1) (c:p2) (d:p3) (e:p4):b9 (p0/\p1/\p2/\p3/\p4):=ak ⟨a,b,c,d,e⟩
theorem a7 {p0 p1 p2 p3 p4 p5:Prop} (a:p0) (b:p1) (c:p2) (d:p3) (e:p4) (f:p5):b9 (p0/\p1/\p2/\p3/\p4/\p5):=ak ⟨a,b,c,d,e,f⟩
theorem hide7 {p0 p1 p2 p3 p4 p5 p6:Prop} (a:p0) (b:p1) (c:p2) (d:p3) (e:p4) (f:p5) (g:p6):b9 (p0/\p1/\p2/\p3/\p4/\p5/\p6):=ak ⟨a,b,c,d,e,f,g⟩
theorem hide8 {p0 p1 p2 p3 p4 p5 p6 p7:Prop} (a:p0) (b:p1) (c:p2) (d:p3) (e:p4) (f:p5) (g:p6) (h:p7):b9 (p0/\p1/\p2/\p3/\p4/\p5/\p6/\p7):=ak ⟨a,b,c,d,e,f,g,h⟩
theorem hide9 {p0 p1 p2 p3 p4 p5 p6 p7 p8:Prop} (a:p0) (b:p1) (c:p2) (d:p3) (e:p4) (f:p5) (g:p6) (h:p7) (i:p8):b9 (p0/\p1/\p2/\p3/\p4/\p5/\p6/\p7/\p8):=ak ⟨a,b,c,d,e,f,g,h,i⟩
theorem hide10 {p0 p1 p2 p3 p4 p5 p6 p7 p8 p9:Prop} (a:p0) (b:p1) (c:p2) (d:p3) (e:p4) (f:p5) (g:p6) (h:p7) (i:p8) (j:p9):b9 (p0/\p1/\p2/\p3/\p4/\p5/\p6/\p7/\p8/\p9):=ak ⟨a,b,c,d,e,f,g,h,i,j⟩
theorem hide11 {p0 p1 p2 p3 p4 p5 p6 p7 p8 p9 p10:Prop} (b:p0) (c:p1) (d:p2) (e:p3) (f:p4) (g:p5) (h:p6) (i:p7) (j:p8) (k:p9) (a:p10):b9 (p0/\p1/\p2/\p3/\p4/\p5/\p6/\p7/\p8/\p9/\p10):=ak ⟨b,c,d,e,f,g,h,i,j,k,a⟩
theorem hide12 {p0 p1 p2 p3 p4 p5 p6 p7 p8 p9 p10 p11:Prop} (c:p0) (d:p1) (e:p2) (f:p3) (g:p4) (h:p5) (i:p6) (j:p7) (k:p8) (l:p9) (a:p10) (b:p11):b9 (p0/\p1/\p2/\p3/\p4/\p5/\p6/\p7/\p8/\p9/\p10/\p11):=ak ⟨c,d,e,f,g,h,i,j,k,l,a,b⟩
theorem hide13 {p0 p1 p2 p3 p4 p5 p6 p7 p8 p9 p10 p11 p12:Prop} (d:p0) (e:p1) (f:p2) (g:p3) (h:p4) (i:p5) (j:p6) (k:p7) (l:p8) (m:p9) (a:p10) (b:p11) (c:p12):b9 (p0/\p1/\p2/\p3/\p4/\p5/\p6/\p7/\p8/\p9/\p10/\p11/\p12):=ak ⟨d,e,f,g,h,i,j,k,l,m,a,b,c⟩
theorem hide15 {p0 p1 p2 p3 p4 p5 p6 p7 p8 p9 p10 p11 p12 p13 p14:Prop} (f:p0) (g:p1) (h:p2) (i:p3) (j:p4) (k:p5) (l:p6) (m:p7) (n:p8) (o:p9) (a:p10) (b:p11) (c:p12) (d:p13) (e:p14):b9 (p0/\p1/\p2/\p3/\p4/\p5/\p6/\p7/\p8/\p9/\p10/\p11/\p12/\p13/\p14):=ak ⟨f,g,h,i,j,k,l,m,n,o,a,b,c,d,e⟩
def kt {k:IntKind} {a b:Int} (h:a=b):Ending.returned (.int k a)=Z4 (.int k b):=by rw [h]
def Ke (a b:Nat) (c:a<256) (d:b<256):bits .and .u8 (a:Int) (b:Int)=((a &&& b:Nat):Int):=
 (bits_nat .u8 8 ee wraps_u8 a b c d).1
def ly (a b:Nat) (c:a<256) (d:b<256):bits .xor .u8 (a:Int) (b:Int)=((a^^^b:Nat):Int):=by
 have e:a%2^IntKind.u8.bits=a:=VY c;have f:b%2^IntKind.u8.bits=b:=VY d;simp only [bits,YH,YI,YJ,e,f];have:=rO c d;exact wraps_u8 _ (YL _) ec
def wX (n:Int) (a:0<=n) (b:n<2^62):IntKind.i64.wrap n=n:=l3
def F9 (a b:Nat) (c:a<2^62) (d:b<2^62):bits .and .i64 (a:Int) (b:Int)=((a &&& b:Nat):Int):=
 (bits_nat .i64 62 ee wX a b c d).1
def zy (a b:Nat) (c:a<2^62) (d:b<2^62):bits .xor .i64 (a:Int) (b:Int)=((a^^^b:Nat):Int):=by
 have e:(2:Nat)^62<2^IntKind.i64.bits:=ee
 have f:a%2^IntKind.i64.bits=a:=VY (Xg c e);have g:b%2^IntKind.i64.bits=b:=VY (Xg d e);simp only [bits,YH,YI,YJ,f,g];have:=V9 (n:=62) c d;exact wX _ (YL _) (by exact_mod_cast this)
def Qd:∀ a,a<256->((a &&& 128=0)↔a<128):=Ax
def NV (a:Nat) (h:a<256):(bits .and .u8 (a:Int) 128 != 0)=decide (128<=a):=by
 have e:=Ke a 128 h ee;rw [show ((128:Nat):Int)=128 from rfl] at e;rw [e];have:=Qd a h;rw [Ys];simp;omega
def Qe (a:Nat):a &&& 1=a%2:=Nat.and_one_is_mod a
def aaj (a:Nat) (h:a<256):(bits .and .u8 (a:Int) 1 != 0)=decide (a%2=1):=by
 have e:=Ke a 1 h ee;rw [show ((1:Nat):Int)=1 from rfl] at e;rw [e,Qe];rw [Ys];simp;omega
def aak (h:a<256) (b:128<=a):bits .xor .u8 ((a:Int)*2%256) 29=(tx a:Int):=by
 have e:((a:Int)*2%256)=((2*a-256:Nat):Int):=ec
 rw [e,show (29:Int)=((29:Nat):Int) from rfl,ly _ _ ec ee];unfold tx;rw [TS ec]
def aal (b:a<128):(a:Int)*2=(tx a:Int):=by
 unfold tx;rw [TT b];omega
theorem ni (a:Nat) (h:a<256) (w:ZW) :
 ZT ZO 202 #[Z8 .u8 a] w λe w'=>e=Z4 (Z8 .u8 (tx a))/\w'=w:=by
 have c:=NV a h;by_cases b:128<=a
 . rw [UZ b] at c;go_enter func202,ntmps202;go_wp2;go_ret;exact ⟨kt (aak h b),rfl⟩
 . rw [Vr b] at c;go_enter func202,ntmps202;go_wp2;go_ret;exact ⟨kt (aal ec),rfl⟩
def Kf (n:Nat):∀ a p,zk n a 0 p=p:=by
 induction n with
 | zero=>intro a p;rfl
 | succ n ih=>intro a p;simp only [zk];exact ih _ _
theorem l8 (a b:Nat) (o:a<256) (j:b<256) (w:ZW) :
 ZT ZO 188 #[Z8 .u8 a,Z8 .u8 b] w λe w'=>e=Z4 (Z8 .u8 (gm a b))/\w'=w:=by
 go_enter func188,ntmps188;go_wp2;go_loop [0,1,5] (λs t u=>∃ n x y z:Nat,x<256/\y<256/\z<256/\y<2^n/\b9 (zk n x y z=gm a b)/\s=Z8 .u8 x/\t=Z8 .u8 y/\u=Z8 .u8 z) (λ_ t _=>(intOf t).toNat)
 case atStart=>exact ⟨8,a,b,0,o,j,ee,j,rfl,rfl,rfl,rfl⟩
 case round=>
  obtain ⟨n,x,y,z,c,p,h,k,g,rfl,rfl,rfl⟩:=hrel;by_cases m:y=0
  . subst m;go_wp2;go_ret;exact ⟨kt (by rw [<- g.out,Kf]),rfl⟩
  . have r:((y:Int) != 0)=ZY:=Zl;have l:=aaj y p;cases n with
    | zero=>exact absurd k en
    | succ n=>
    have i:y/2<2^n:=(by rw [XX] at k;omega);by_cases d:y%2=1
    . rw [UZ d] at l;have f:b9 (zk n (tx x) (y/2) (z^^^x)=gm a b):=(by have:=g.out;simp only [zk] at this;rw [TT d] at this;exact this);have q:=ly z x h c;go_wp2_with (go_at_call 202;refine (ni _ c _).mono ?_;rintro e w' ⟨rfl,rfl⟩);go_round
      case rel=>exact ⟨n,tx x,y/2,z^^^x,A3 c,ec,rO h c,i,f,rfl,eT,rfl⟩
      case measure=>simp [intOf];omega
    . rw [Vr d] at l;have f:b9 (zk n (tx x) (y/2) z=gm a b):=(by have:=g.out;simp only [zk] at this;rw [TS d] at this;exact this);go_wp2_with (go_at_call 202;refine (ni _ c _).mono ?_;rintro e w' ⟨rfl,rfl⟩);go_round
      case rel=>exact ⟨n,tx x,y/2,z,A3 c,ec,h,i,f,rfl,eT,rfl⟩
      case measure=>simp [intOf];omega
def Kg (n p v:Nat):PD (n+1) p v=PD n (gm p p) (gm v (gm p p)):=rfl
theorem se (a:Nat) (h:a<256) (w:ZW) :
 ZT ZO 187 #[Z8 .u8 a] w λe w'=>e=Z4 (Z8 .u8 (gi a))/\w'=w:=by
 go_enter func187,ntmps187;go_wp2;go_loop [3,4,6] (λs t u=>∃ k p v:Nat,k<=7/\p<256/\v<256/\b9 (PD (7-k) p v=gi a)/\s=Z8 .u8 v/\t=Z8 .u8 p/\u=Z8 Z9 k) (λ_ _ u=>7-(intOf u).toNat)
 case atStart=>exact ⟨0,a,1,ee,h,ee,rfl,rfl,rfl,rfl⟩
 case round=>
  obtain ⟨k,p,v,j,b,d,c,rfl,rfl,rfl⟩:=hrel;by_cases i:k<7
  . have f:b9 (PD (7-(k+1)) (gm p p) (gm v (gm p p))=gi a):=by
     have:=c.out;rw [(ec:7-k=(7-(k+1))+1),Kg] at this;exact this
    go_wp2_with fail;refine (l8 p p b b _).mono ?_;rintro e w' ⟨rfl,rfl⟩;go_wp2_with fail;refine (l8 v (gm p p) d (bu _ b) _).mono ?_;rintro e w' ⟨rfl,rfl⟩;go_wp2_with fail;go_round
    case rel=>exact ⟨k+1,gm p p,gm v (gm p p),ec,bu _ b,bu _ d,f,rfl,rfl,eT⟩
    case measure=>simp [intOf];omega
  . have g:k=7:=ec;subst g;go_wp2;go_ret;exact ⟨kt (by rw [<- c.out];rfl),rfl⟩
def Bs (w:ZW) (v:ZV) (l:a8):Prop:=
 ∃ ao c,v=.slice ao l.length c/\l.length<=c/\l.length<=140737488355328/\(∀ x∈l,x<256)/\(l≠[]->∃ b off,ao=ZZ ⟨b,off,Z0⟩/\∀ k,k<l.length->w.cell? ⟨b,off+k,Z0⟩=ZZ (Z8 .u8 ((l.getD k 0:Nat):Int)))
def Bs.mono (h:Bs w v l) (j:ZU w.heap.size w w'):Bs w' v l:=by
 obtain ⟨ao,c,a,d,f,g,i⟩:=h;refine ⟨ao,c,a,d,f,g,λhl=>?_⟩;obtain ⟨b,off,e,m⟩:=i hl;refine ⟨b,off,e,λk n=>?_⟩;have:=m k n;rw [j.cell (Uf this)];exact this
def Bs.Sl (h:aM w b l) (e:n<=l.length) (d:n<=140737488355328) (c:∀ x∈l,x<256):Bs w (Z6 (ZZ ⟨b,0,Z0⟩) n l.length) (l.take n):=by
 have hl:(l.take n).length=n:=Jx
 refine ⟨ZZ ⟨b,0,Z0⟩,l.length,by rw [hl],ec,ec,λx h=>c x (UX h),λ_=>⟨b,0,rfl,λk a=>?_⟩⟩;rw [hl] at a;have:=h.cell k ec;rw [Uj,this];simp [a]
def aam (w:ZW) (n:Nat) (i:ZV) (wr:ZW):Prop:=∃ k m:Nat,k<=n/\i=Z8 Z9 k/\wr=w.drewN m
theorem Ga (j vb:ZV) (l:a8) (w:ZW) (t:Bs w j l) (u:Bs w vb l) :
 ZT ZO 29 #[j,vb] w λe w'=>e=Z4 (Z3 ZY)/\∃ m,w'=w.drewN m:=by
 obtain ⟨ao,z,rfl,o,q,C,a⟩:=t;obtain ⟨y,cb,rfl,p,r,_,c⟩:=u;have A:l.length<=140737488355328:=ec
 clear o q p r;by_cases hl:l=[]
 . subst hl;clear a c;go_enter func29,ntmps29;go_wp2;refine VH 1 ?_;rw [Vz];go_wp2;go_ret;exact ⟨rfl,0,rfl⟩
 . obtain ⟨b,off,rfl,d⟩:=a hl;obtain ⟨v,h,rfl,f⟩:=c hl;clear hl a c;go_enter func29,ntmps29;go_wp2;go_loopw [5] (λi wr=>aam w l.length i wr) (λi _=>l.length-(intOf i).toNat)
   case atStart=>exact ⟨0,0,T8 _,rfl,rfl⟩
   case round=>
    obtain ⟨k,m,B,rfl,rfl⟩:=hrel;by_cases g:k<l.length
    . have c1:=d k g;have n:=f k g;have s:(((l.getD k 0:Nat):Int) != ((l.getD k 0:Nat):Int))=ZX:=ek;generalize l.getD k 0=x at c1 n s;clear d f;go_wp2;go_quiet (fail);go_wp2;go_roundw
      case rel=>exact ⟨k+1,_,ec,eT,rfl⟩
      case measure=>simp [intOf];omega
    . go_wp2;go_ret;exact ⟨rfl,_,rfl⟩
def bJ (a b:a8):aJ (a++b)=aJ a++aJ b:=by simp [aJ]
def Gb (n:Nat):∀ (s k:Nat),k<s->(be n s).take (s-k)=(be n s).take (s-(k+1))++[n/256^k%256]
 | 0,k,h=>absurd h ec
 | s+1,k,h=>by
  by_cases e:k=s
  . subst e;rw [(ec:k+1-k=1),Xb];simp [be]
  . have ih:=Gb n s k ec;rw [(ec:s+1-k=(s-k)+1),(ec:s+1-(k+1)=(s-(k+1))+1)];simp only [be,abP,US,ih]
def NW (n k:Nat):((n:Int)/2^(8*k)%256)=((n/256^k%256:Nat):Int):=by
 have e:(2:Nat)^(8*k)=256^k:=by rw [Nat.pow_mul]
 have a:((2:Int)^(8*k))=((256^k:Nat):Int):=by rw [<- e];norm_cast
 rw [a];omega
def nT (w:ZW) (x:ZV) (t:ZQ):∀ j u,[x][j]?=ZZ u->(w.alloc (Z5 #[x] t)).cell? ((⟨w.heap.size,0,Z0⟩:Addr).add j)=ZZ u:=by
 intro j u h;rw [jG];match j,h with
 | 0,h=>simp at h;subst h;simp only [World.cell?,Ug w (Z5 #[x] t)];rfl
 | j+1,h=>simp at h
def aa1 (w:ZW) (base:Nat) (n s k0:Nat) (xs:List ZV) (v0:ZV) (b i:ZV) (wr:ZW):Prop:=
 ∃ (k:Nat) (v:ZV),k<=s/\i=Z8 Z9 ((k:Int)-1)/\b=v/\wr.ownsRow base 5 1 v (k0+(s-k)) (xs++aJ ((be n s).take (s-k)))/\aa (λj=>v0.ownBlock=ZZ j) w wr/\(∀ j,v.ownBlock=ZZ j->v0.ownBlock=ZZ j\/w.heap.size<=j)
theorem fY (base:Nat) (d:ZV) (c:Nat) (xs:List ZV) (n s:Nat) (w:ZW) (z:w.ownsRow base 5 1 d c xs) (x:base<=w.heap.size) (q:s<=8) (J:c<=1000000000) :
 ZT ZO 172 #[d,Z8 .u64 n,Z8 Z9 s] w λe w'=>∃ v',e=Z4 v'/\w'.ownsRow base 5 1 v' (c+s) (xs++aJ (be n s))/\aa (λj=>d.ownBlock=ZZ j) w w'/\(∀ j,v'.ownBlock=ZZ j->d.ownBlock=ZZ j\/w.heap.size<=j):=by
 obtain ⟨G,B,D,E,F⟩:=Uu Tryz.R4;go_enter func172,ntmps172;go_wp2;go_loopw [0,7] (λb i wr=>aa1 w base n s c xs d b i wr) (λ_ i _=>(intOf i+1).toNat)
 case atStart=>exact ⟨s,d,TV _,eT,rfl,by rw [Xb];simpa [aJ] using z,aa.refl _ _,λj h=>.inl h⟩
 case round=>
  obtain ⟨k,v,K,rfl,rfl,l,a,f⟩:=hrel;cases k with
  | zero=>
   have p:((0:Nat):Int)-1=-1:=ec;rw [p];have t:=aE l a f;clear l a f;go_wp2;go_ret;obtain ⟨l,a,f⟩:=t.o;refine ⟨_,rfl,?_,a,f⟩;rwa [Yt,UI Bf] at l
  | succ k=>
   have p:((k+1:Nat):Int)-1=(k:Int):=ec;rw [p];have I:=TU x a.size;go_wp2_with (at_builtin;refine Yu _ rfl (.tmp 14) (.tmp 20) 40 rfl base 5 G (Z8 .u8 0) 1 1 Un B D E F rfl ee u0 (c+(s-(k+1))) _ rfl (l.alloc _) ⟨wr.heap.size,0,Z0⟩ 1 1 _ rfl rfl (nT wr _ _) (by intro u r;simp at r;subst r;rfl) eD ec en ?_;intro v' w' ho m H A);have C:(wr.alloc (Z5 #[Z8 .u8 ((n:Int)/2^(8*k)%256)] 5)).heap.size=wr.heap.size+1:=ek;have L:=a.size;have y:∀ j,v'.ownBlock=ZZ j->d.ownBlock=ZZ j\/w.heap.size<=j:=λj g=>by
    rcases A with e|e
    . exact f j (e▸g)
    . rw [e] at g;cases g;rw [C];exact .inr ec
   refine ⟨⟨k,v',ec,eT,rfl,?_,?_,y⟩,by simp [intOf]⟩
   . rw [NW] at ho;rw [Gb n s k ec,bJ,<- Uz,(ec:c+(s-k)=c+(s-(k+1))+1)];exact ho
   . exact (a.later (aa.alloc (S:=λ_=>False) _ _) (λ_ _ h=>h.elim)).later (T:=λj=>u0.ownBlock=ZZ j) ⟨m.os,m.tape,m.output,m.size,λj g q=>m.block j g (λe=>q e.symm)⟩ (λj g h=>by
      rcases f j h with e|e
      . exact e
      . omega)
theorem Qf (n x:Nat) (c:x<256):bits .or .u64 (IntKind.u64.wrap ((n:Int)*256)) (x:Int)=(((n*256+x)%18446744073709551616:Nat):Int):=by
 have a:IntKind.u64.wrap ((n:Int)*256)=((n*256%18446744073709551616:Nat):Int):=K1
 rw [a,abQ _ _ (Wc _ ee) ec];congr 1;have b:n*256%18446744073709551616=2^8*(n%72057594037927936):=ec
 rw [b,<- Nat.two_pow_add_eq_or_of_lt (i:=8) ec];omega
def Gc (a b:Nat) (c:a<4294967296) (d:b<4294967296):bits .xor .u32 (a:Int) (b:Int)=((a^^^b:Nat):Int):=by
 have e:a%2^IntKind.u32.bits=a:=VY c;have f:b%2^IntKind.u32.bits=b:=VY d;have:a^^^b<2^32:=V9 c d;simp only [bits,YH,YI,YJ,e,f];rw [IntKind.wrap_u32];omega
theorem Qg (r:Nat) (a:r<4294967296):bits .xor .u32 IntKind.u32.max (r:Int)=((4294967295-r:Nat):Int):=by
 have e:IntKind.u32.max=((4294967295:Nat):Int):=rfl;rw [e,Gc _ _ ee a];congr 1;refine Xw λi=>?_;have b:=XB (n:=32) (x:=r) a i;have c:=XC 32 i;rw [abI,(ec:(4294967295:Nat)-r=2^32-(r+1)),b,show (4294967295:Nat)=2^32-1 from rfl,c];by_cases hi:i<32
 . simp [hi]
 . have:r.testBit i=ZX:=WD (T7 a (by have:=UY (n:=2) ee (ec:32<=i);omega));simp [hi,this]
def PF (a b:Nat) (c:a<4294967296) (d:b<4294967296):bits .and .u32 (a:Int) (b:Int)=((a &&& b:Nat):Int):=(bits_nat .u32 32 ee (λn e f=>by rw [IntKind.wrap_u32];omega) a b c d).1
def aan (a:Nat):a &&& 15=a%16:=abR a 4
def Hk (l:a8) (k:Nat) (h:k<l.length):db (l.take (k+1))=dB (db (l.take k)) (l.getD k 0):=by
 rw [Ve,Uc h];unfold db;rw [Wu,Ub,Uc h];rfl
def Kh (l:a8) (k:Nat) (h:k<l.length):fT (l.take (k+1))=(fT (l.take k)*256+l.getD k 0)%18446744073709551616:=by
 rw [Ve,Uc h,Ub,Uc h];exact sU _ _
def aao (w:ZW) (l:a8) (n i _x:ZV) (wr:ZW):Prop:=∃ k:Nat,k<=l.length/\n=Z8 .u64 (fT (l.take k):Nat)/\i=Z8 Z9 k/\wr=w
theorem zA (v:ZV) (l:a8) (w:ZW) (h:Bs w v l):ZT ZO 184 #[v] w λe w'=>e=Z4 (Z8 .u64 (fT l:Nat))/\w'=w:=by
 obtain ⟨ao,c,rfl,r,t,q,d⟩:=h;go_enter func184,ntmps184;go_wp2;go_loopw [3,8,5] (λn i x wr=>aao w l n i x wr) (λ_ i _ _=>l.length-(intOf i).toNat)
 case atStart=>exact ⟨0,T8 _,rfl,rfl,rfl⟩
 case round=>
  obtain ⟨k,s,rfl,rfl,rfl⟩:=hrel;by_cases a:k<l.length
  . obtain ⟨b,off,rfl,f⟩:=d Zk;have c1:=f k a;have ho:aao wr l (Z8 .u64 (((fT (l.take k)*256+l.getD k 0)%18446744073709551616:Nat):Int)) (Z8 Z9 ((k:Int)+1)) (Z8 .u8 (l.getD k 0:Nat)) wr:=⟨k+1,ec,by rw [Kh l k a],rfl,rfl⟩;have p:l.getD k 0<256:=dm q k;have g:=Qf (fT (l.take k)) (l.getD k 0) p;rw [<- g] at ho;have j:=ak ho;clear ho g d f;generalize l.getD k 0=x at *;generalize fT (l.take k)=n at *;go_wp2;exact ⟨j.o,l7⟩
  . have m:k=l.length:=ec;subst m;rw [VA];clear d;go_wp2;go_ret;exact ⟨rfl,rfl⟩
def bV (w:ZW):Prop:=∀ j,j<16->w.cell? ⟨2,j,Z0⟩=ZZ (Z8 .u32 ((cG.getD j 0:Nat):Int))
def SmR (w:ZW) (l:a8) (n i _x:ZV) (wr:ZW):Prop:=∃ k:Nat,k<=l.length/\n=Z8 .u32 (db (l.take k):Nat)/\i=Z8 Z9 k/\wr=w
theorem NX (v:ZV) (l:a8) (w:ZW) (h:Bs w v l) (z:bV w):ZT ZO 182 #[v] w λe w'=>e=Z4 (Z8 .u32 (nR l:Nat))/\w'=w:=by
 obtain ⟨ao,c,rfl,O,Q,q,p⟩:=h;go_enter func182,ntmps182;go_wp2;go_loopw [3,8,5] (λn i x wr=>SmR w l n i x wr) (λ_ i _ _=>l.length-(intOf i).toNat)
 case atStart=>exact ⟨0,T8 _,rfl,rfl,rfl⟩
 case round=>
  obtain ⟨k,P,rfl,rfl,rfl⟩:=hrel;by_cases g:k<l.length
  . obtain ⟨b,off,rfl,s⟩:=p (by intro e;rw [e] at g;simp at g);have c1:=s k g;have ho:SmR wr l (Z8 .u32 ((dB (db (l.take k)) (l.getD k 0):Nat):Int)) (Z8 Z9 ((k:Int)+1)) (Z8 .u8 (l.getD k 0:Nat)) wr:=⟨k+1,ec,by rw [Hk l k g],rfl,rfl⟩;have N:l.getD k 0<256:=dm q k;have j:db (l.take k)<4294967296:=ng (λx h=>q x (UX h));unfold dB at ho;clear p s;generalize l.getD k 0=x at *;generalize db (l.take k)=r at *;have A:(x:Int)%4294967296=(x:Int):=ec;have U:=Gc r x j ec;have m:r^^^x<4294967296:=V9 (n:=32) j ec;generalize r^^^x=a at *;have V:bits .and .u32 (a:Int) 15=((a%16:Nat):Int):=(by have:=PF a 15 m ee;rw [aan] at this;exact this);have W:(a:Int)/16=((a/16:Nat):Int):=ec;have G:=z (a%16) (Wc _ ee);have t:=px (a%16);have J:=Gc (a/16) (cG.getD (a%16) 0) ec t;have y:dj a<4294967296:=gC m;have f:a/16^^^cG.getD (a%16) 0=dj a:=rfl;rw [f] at J;have R:a%16<16:=Wc _ ee;clear f;generalize dj a=d at *;generalize cG.getD (a%16) 0=L at *;generalize a%16=C at *;generalize a/16=b1 at *;have X:bits .and .u32 (d:Int) 15=((d%16:Nat):Int):=(by have:=PF d 15 y ee;rw [aan] at this;exact this);have Y:(d:Int)/16=((d/16:Nat):Int):=ec;have H:=z (d%16) (Wc _ ee);have u:=px (d%16);have K:=Gc (d/16) (cG.getD (d%16) 0) ec u;have f:d/16^^^cG.getD (d%16) 0=dj d:=rfl;rw [f] at K;have S:d%16<16:=Wc _ ee;clear f;generalize dj d=T at *;generalize cG.getD (d%16) 0=M at *;generalize d%16=E at *;generalize d/16=b2 at *;have B:=ak ho;have D:(C:Int)<16:=ec;have F:(E:Int)<16:=ec;clear ho m y t u;go_wp2;exact ⟨B.o,l7⟩
  . have I:k=l.length:=ec;subst I;rw [VA];have j:db l<4294967296:=ng q;clear p;have A:=Qg (db l) j;rw [show 4294967295-db l=nR l from rfl] at A;generalize db l=r at *;go_wp2;go_ret;exact ⟨rfl,rfl⟩
def eF (h:w.grownBy w' (ZZ b)) (i:Nat) (v:ZV):w.grownBy (w'.setCell ⟨b,i,Z0⟩ v) (ZZ b):=
 ⟨h.os,h.tape,h.output,by rw [Yv];exact h.size,λk c a=>by
  rw [Ud _ _ _ _ (by intro e;exact a Wb)];exact h.block k c a⟩
def sW {r:Option Nat} (h:w.grownBy w' r) (n:Nat):w.grownBy (w'.drewN n) r:=
 ⟨h.os,h.tape,h.output,h.size,h.block⟩
def gD {r:Option Nat} (h:w.grownBy w' r) (k:w'.grownBy w'' r):w.grownBy w'' r:=
 ⟨k.os.trans h.os,k.tape.trans h.tape,k.output.trans h.output,TU h.size k.size,λj b a=>(k.block j (T7 b h.size) a).trans (h.block j b a)⟩
def gE (h:ZU B w0 w) (c:w.grownBy w' (ZZ b)) (a:B<=w.heap.size) (e:B<=b):ZU B w0 w':=
 h.grown c a (λk d=>by simp at d;omega)
def D8 {xs:List ZV} (h:w.ownsRow base 40 1 v n xs) (c:w.grownBy w' (ZZ b)) (a:v.ownBlock≠ZZ b):w'.ownsRow base 40 1 v n xs:=
 h.kept c (.inr a)
theorem eh.wrote (h:eh w base v L) {i:Nat} (hi:i<L.length) {l':a8} (d:w.grownBy w' (ZZ L[i].1)) (s:aM w' L[i].1 l') (o:l'.length=L[i].2.2.length) (t:∀ x∈l',x<256) :
 eh w' base v (L.set i (L[i].1,L[i].2.1,l')):=by
 have r:=T6 hi;obtain ⟨f,g,u,y,z⟩:=h.row _ r;have n:(L.set i (L[i].1,L[i].2.1,l')).map fX=L.map fX:=by
  apply Vc
  . simp
  . intro j l m;simp [Wl];by_cases e:i=j
    . subst e;simp [fX,o]
    . simp [e]
 have k:(L.set i (L[i].1,L[i].2.1,l')).map (λp=>p.1)=L.map (λp=>p.1):=by
  apply Vc
  . simp
  . intro j l m;simp [Wl];by_cases e:i=j
    . subst e;simp
    . simp [e]
 refine ⟨?_,λp b=>?_,by rw [k];exact h.nodup⟩
 . rw [n,VZ];exact D8 h.own d (py h.own g)
 . obtain ⟨j,a,rfl⟩:=XD.1 b;rw [VZ] at a;rw [Wl];by_cases e:i=j
   . rw [TT e];exact ⟨f,s,by show L[i].2.1<=l'.length;omega,⟨by show L[i].2.1<=140737488355328;omega,by show l'.length<=9223372036854775807;omega⟩,t⟩
   . rw [TS e];obtain ⟨b1,b2,b3⟩:=h.row _ (T6 a);refine ⟨b1,b2.grown d ?_,b3⟩;intro q;simp at q;have b:=V3.1 h.nodup;rcases Yw e with c|c
     . exact b i j (oD hi) (oD a) c (by simp [q])
     . exact b j i (oD a) (oD hi) c (by simp [q])
def eh.SU (h:eh w base v L) {i:Nat} (hi:i<L.length):Bs w (fX L[i]) (L[i].2.2.take L[i].2.1):=by
 obtain ⟨e,a,b,c,d⟩:=h.row _ (T6 hi);exact Bs.Sl a b c.1 d
def l9 (w:ZW) (n:Nat) (a:n=w.heap.size) (x:ZV) (t:ZQ):∀ j u,[x][j]?=ZZ u->(w.alloc (Z5 #[x] t)).cell? ((⟨n,0,Z0⟩:Addr).add j)=ZZ u:=by
 subst a;exact Yx _ _ _
def eh.append2 {T:List (Nat×Nat×a8)} {o:Obj} (h:eh w base v T) (e:ZU w.heap.size w w1) (r:base<=w.heap.size) (s:w.heap.size<=b) (d:aM w1 b l) (g:m=l.length) (i:n<=l.length) (hl:l.length<=140737488355328) (k:∀ x∈l,x<256)
 (f:(w1.alloc o).grownBy w2 v.ownBlock) (a:w2.ownsRow base 40 1 v' (T.length+1) (T.map fX++[Z6 (ZZ ⟨b,0,Z0⟩) n m])):eh w2 base v' (T++[(b,n,l)]):=by
 subst g;have c:=(h.below e).alloc o;refine c.push f (p:=(b,n,l)) a ⟨by show base<=b;omega,d.alloc o,i,⟨Zo,by show l.length<=9223372036854775807;omega⟩,k⟩ ?_;intro q j;have:=(h.row q j).2.1.lt;show q.1≠b;omega
def dM {T:List (Nat×Nat×a8)} {o:Obj} (h:eh w B v T) (b:ZU B w0 w) (a:ZU w.heap.size w w1) (d:B<=w.heap.size) (e:(w1.alloc o).grownBy w2 v.ownBlock):ZU B w0 w2:=by
 have c:=b.trans (a.mono d);have:=a.size;refine (c.alloc ec o).grown e B8 ?_;intro k f;exact (h.own.lt k f).1
structure bh (B:Nat) (w w':ZW):Prop where
 os:w'.os=w.os
 tape:w'.tape=w.tape
 output:w'.output=w.output
 size:w.heap.size<=w'.heap.size
 block:∀ k,B<=k->k<w.heap.size->w'.heap[k]?=w.heap[k]?
def bh.refl (B:Nat) (w:ZW):bh B w w:=⟨rfl,rfl,rfl,TV _,λ_ _ _=>rfl⟩
def bh.trans {a b c:ZW} (h:bh B a b) (k:bh B b c):bh B a c:=
 ⟨k.os.trans h.os,k.tape.trans h.tape,k.output.trans h.output,TU h.size k.size,λi d e=>(k.block i d (e9 h.size)).trans (h.block i d e)⟩
def bh.mono {B':Nat} (h:bh B w w') (c:B<=B'):bh B' w w':=⟨h.os,h.tape,h.output,h.size,λk b a=>h.block k ec a⟩
def bh.RM (h:ZU w.heap.size w w'):bh B w w':=⟨h.os,h.tape,h.output,h.size,λk _ a=>h.block k a⟩
def bh.setCell {a:ZW} (h:bh B a w) {p:Addr} (d:p.block<B\/a.heap.size<=p.block) (u:ZV):bh B a (w.setCell p u):=
 ⟨h.os,h.tape,h.output,by have:=h.size;simpa [World.setCell] using this,λk b c=>(Wm _ _ _ _ ec).trans (h.block k b c)⟩
def bh.putObj {a:ZW} (h:bh B a w) {l:Nat} (d:l<B\/a.heap.size<=l) (o:Obj):bh B a (w.putObj l o):=
 ⟨h.os,h.tape,h.output,by have:=h.size;have:=(Xh w l o).size;omega,λk b c=>(UP ec).trans (h.block k b c)⟩
def Below.RO {a:ZW} (h:ZU B a w) {l:Nat} (b:B<=l) (hl:l<w.heap.size) (o:Obj):ZU B a (w.putObj l o):=
 h.grown (Xh w l o) ec (λk e=>by cases e;exact b)
def bh.keeps {C:Nat} (h:bh B w w') (c:B<=C):KeepsFrom C w w':=
 ⟨h.size,λk o b a _=>(h.block k ec (TX.1 a).1).trans a⟩
def cd (h:ZT P f args w R) (k:∀ e w',R e w'->R' e w') :
 Fence.wide.fn f/\(Fence.wide.depth.isSome=ZY->1<=n)/\CallsIn Fence.wide m P f args w R':=
 ⟨trivial,λh=>vE,Vd.2 (h.mono k)⟩
def dq {l:Nat} (h:ZT P f args w R) (k:∀ e w',R e w'->R' e w') :
 (Fence.wide.inRound l).fn f/\((Fence.wide.inRound l).depth.isSome=ZY->1<=n)/\CallsIn (Fence.wide.inRound l) m P f args w R':=
 ⟨trivial,λh=>vE,abS l (Vd.2 (h.mono k))⟩
def Qh (Q:Exit->ZR->ZW->Prop):Exit->ZR->ZW->Prop
 | .goto _,_,_=>False
 | .exit _,_,_=>False
 | e,a,w=>Q e a w
def gZ {b:Frame} {a:ZR} {c:Code}:step P (lone (b.atR a (.code (.scope c)::k)) cs w)=.next (lone (b.atR a (.code c::.inScope c::k)) cs w):=
 step_lone_go (by simp [stepG,stepG.exec,Frame.atR])
def sX {b:Frame} {a:ZR} {c:Code}:step P (lone (b.atR a (.inScope c::k)) cs w)=.next (lone (b.atR a k) cs w):=
 step_lone_go (by simp [stepG,stepG.exec,Frame.atR])
def Ki {F:Fence} {c:Code} {Q:Exit->ZR->ZW->Prop} {a:ZR} (h:c.wpIn F n P (Qh Q) a w):(Code.scope c).wpIn F n P Q a w:=by
 intro b k cs p m o;have g:(lone (b.atR a (.code (.scope c)::k)) cs w).fenced P F:=fenced_calm m o rfl;obtain ⟨e,f,j,d,i⟩:=h b (.inScope c::k) cs p m o;cases e with
 | normal=>exact ⟨.normal,f,j,d,.head g gZ (StepsIn.trans i (.one (fenced_calm m o rfl) sX))⟩
 | exit id=>exact d.elim
 | goto l=>exact d.elim
 | ret=>exact ⟨_,f,j,d,.of_steps (.one g gZ) i⟩
 | panic q=>exact ⟨_,f,j,d,.of_steps (.one g gZ) i⟩
 | outgrown=>exact ⟨_,f,j,d,.of_steps (.one g gZ) i⟩
def Qi {σ:Type} (B:Nat) (I:σ->ZW->Prop) (s:σ) (W:ZW):Exit->ZR->ZW->Prop
 | .normal,_,W'=>I s W'/\bh B W W'
 | _,_,_=>False
def Hl (k:Nat):Fence.wide.room k:=λd h=>vE
def wY {m':Nat} {l:Nat} {tmps:Array ZV} {assign body:Code} (h:RoundIn Fence.wide m P l f tmps assign body w R):RoundIn Fence.wide m' P l f tmps assign body w R:=⟨h.1,λc cs _=>h.2 c cs (Hl _)⟩
theorem Kj (m:Nat) {α σ:Type} {g:ZP} {ps:Array Tmp} {assign body:Code} {Q:Exit->ZR->ZW->Prop} {a:ZR} {w:ZW}
 {gf:Nat} {lb:Array ZV} (hg:a.eval g=.func (.func gf) #[] lb) (eg:∀ args w,(callFunc gf args).run P w=.ok (.enter gf args) w)
 {encs:α->Array ZV} (k9:∀ x,(encs x).size=ps.size) (step:σ->α->σ) (F:α->Prop)
 (I:σ->ZW->Prop) (j:∀ s A B,I s A->ZU w.heap.size A B->I s B) (S:σ->Prop) (s0:σ)
 (h6:∀ (l:Nat) (J:σ->ZW->Prop) (W:ZW),ZU w.heap.size w W->W.heap.size=w.heap.size+2 ->
  (∀ s A B,J s A->ZU (w.heap.size+2) A B->J s B)->(∀ s A,J s A->I s A/\w.heap.size+2<=A.heap.size) ->
  (∀ m s x b,J s b->F x->YieldAt Fence.wide m P l (encs x) b λe d=>e=Z4 (Z3 ZY)/\J (step s x) d/\bh (w.heap.size+2) b d)->J s0 W ->
  CallsIn Fence.wide (n-1) P gf (#[.func (.yield l) #[] #[]]++lb) W λe d=>(∃ v,e=Z4 v)/\∃ s,S s/\J s d)
 (h0:I s0 w) (C:Nat->α->ZR->ZW->Prop) (hs:∀ B x c A N,C B x c A->bh B A N->C B x c N)
 (h1:∀ (l:Nat) (s:σ) (x:α) (W:ZW) (K:ZR->ZW->Prop),I s W->F x->(∀ c d,ZU W.heap.size W d->C W.heap.size x c d->K c d) ->
  assign.wpIn (Fence.wide.inRound l) m P (Exit.then K (λ_ _ _=>False)) { tmps:=(ps.zip (encs x)).foldl (λt (p,v)=>t.setIfInBounds p v) a.tmps,defers:=[] } W)
 (h5:∀ (l B:Nat) (s:σ) (x:α) (c:ZR) (W:ZW),w.heap.size<=l->l<B->B<=W.heap.size->(∃ r,W.heap[l]?=ZZ (.loop r))->I s W->F x->C B x c W->body.wpIn (Fence.wide.inRound l) m P (Qi w.heap.size I (step s x) W) c W)
 (h7:∀ (D:Nat) (s:σ) (W:ZW),w.heap.size<=D->S s->I s W->W.heap[D]?=ZZ (.deferred (ZZ []))->Q .normal { a with defers:={ target:=.collected D,args:=#[] }::a.defers } W) :
 (Code.rangeFunc g ps assign body).wpIn Fence.wide n P Q a w:=by
 refine wpIn_rangeFunc λfn k7=>?_;obtain ⟨rc,f⟩:∃ rc:LoopState->Loop,rc=λst=>{ state:=st,pending:=Z0,fn,tmps:=a.tmps,params:=ps,assign,body,defers:=w.heap.size }:=⟨_,rfl⟩;obtain ⟨b,u⟩:=nM ((w.alloc (.deferred (ZZ []))).alloc (.loop (rc .ready)));have U:ZU w.heap.size w b:=by rw [<- u];exact (bA w _).alloc ek _
 have ka:b.heap.size=w.heap.size+2:=by rw [<- u];simp
 have hx:b.heap[w.heap.size+1]?=ZZ (.loop (rc .ready)):=by
  rw [<- u];have:=X2 (w.alloc (.deferred (ZZ []))) (.loop (rc .ready));rwa [Ul] at this
 have hv:b.heap[w.heap.size]?=ZZ (.deferred (ZZ [])):=by
  rw [<- u];exact (We _ _ _ ek).trans (X2 w _)
 refine ⟨w.heap.size+1,[{ target:=.collected w.heap.size,args:=#[] }],b,{ target:=.fn (.func gf) lb,args:=#[.func (.yield (w.heap.size+1)) #[] #[]] },b,gf,
  #[.func (.yield (w.heap.size+1)) #[] #[]]++lb,b,?_,?_,λ_ _=>trivial,?_,λh=>vE,?_⟩
 . rw [<- u,f];exact run_enterLoop_outer _ _ _ _ _
 . simp only [resolve,hg];simp [go_sem]
 . simp [invoke,go_sem,eg]
 refine (h6 (w.heap.size+1) (λs W=>I s W/\W.heap[w.heap.size+1]?=ZZ (.loop (rc .ready))/\W.heap[w.heap.size]?=ZZ (.deferred (ZZ []))) b U ka ?_ ?_ ?_ ⟨j _ _ _ h0 U,hx,hv⟩).mono ?_
 . rintro s A B ⟨hi,hl,z⟩ G;exact ⟨j _ _ _ hi (G.mono ec),(G.block _ ec).trans hl,(G.block _ ec).trans z⟩
 . rintro s A ⟨hi,hl,_⟩;exact ⟨hi,(TX.1 hl).1⟩
 ·
  rintro m' s x W ⟨hi,hl,z⟩ Z;have y:w.heap.size+1<W.heap.size:=(TX.1 hl).1;have M:=run_yield (P:=P) (args:=encs x) hl (by rw [f];exact k9 x);rw [f] at M;refine ⟨fn,_,assign,body,M,wY (roundIn_of_wpIn (n:=m) k7 (h1 _ s x W _ hi Z ?_))⟩;clear M;intro c o E hz;have Y:=(E.block _ y).trans hl;have k6:=(E.block _ ec).trans z;have R:w.heap.size+1<o.heap.size:=(TX.1 Y).1;refine ⟨_,run_beginRound Y (by rw [f]),?_⟩;obtain ⟨q,i⟩:=nM (o.putObj (w.heap.size+1) (.loop { rc .ready with state:=.busy }));have k0:ZU w.heap.size o q:=by rw [<- i];exact Below.RO (TW _ _) ec R _
  have T:bh (w.heap.size+2) W q:=by
   rw [<- i];exact ((bh.RM E).trans ((bh.refl _ o).putObj (.inl ec) _))
  have L:q.heap[w.heap.size+1]?=ZZ (.loop { rc .ready with state:=.busy }):=by rw [<- i];exact World.putObj_heap_same R
  have V:q.heap[w.heap.size]?=ZZ (.deferred (ZZ [])):=by rw [<- i];exact (UP ec).trans k6
  rw [i];refine wpIn_mono (h5 _ W.heap.size s x c q ec y T.size ⟨_,L⟩ (j _ _ _ (j _ _ _ hi (E.mono ec)) k0) Z (hs _ _ _ _ _ hz (by rw [<- i];exact (bh.refl _ o).putObj (.inl y) _))) ?_;rintro e a3 W3 k;cases e with
  | normal=>
   obtain ⟨k8,H⟩:=k;have X:=(H.block _ ec (TX.1 L).1).trans L;have k5:=(H.block _ lR (TX.1 V).1).trans V;have O:=(TX.1 X).1;have hr:=run_endRound (P:=P) Z0 X;refine ⟨_,_,hr,rfl,⟨j _ _ _ k8 (Below.RO (TW _ _) ec O _),?_,(UP ec).trans k5⟩,?_⟩
   . rw [World.putObj_heap_same O,f];rfl
   . exact (T.trans (H.mono ec)).putObj (.inl ec) _
  | ret=>exact k.elim
  | exit id=>exact k.elim
  | goto t=>exact k.elim
  | panic ch=>exact k.elim
  | outgrown=>exact k.elim
 ·
  rintro e W2 ⟨⟨v,rfl⟩,s,hS,hi,hl,z⟩;have y:=(TX.1 hl).1;refine ⟨Z0,_,by have:=run_endLoop (P:=P) hl (by rw [f];simp);rw [f] at this;exact this,?_⟩;exact h7 _ s _ lR hS (j _ _ _ hi (Below.RO (TW _ _) ec y _)) ((UP ec).trans z)
section
def sY (ops:Array ZS) (i:Nat):a8:=match ops[i]? with
 | some o=>(o.after.toList.filter (λe=>Region.binds .any e)).map (λe=>e.on)
 | none=>[]
def Kl (ops:Array ZS):Nat->Nat->Nat->Bool
 | 0,_,_=>ZX
 | f+1,j,k=>(sY ops j).any λm=>m==k || Kl ops f m k
def nj (ops:Array ZS) (z:Nat):Bool:=(YG ops.size).all λk=>k==z || Kl ops ops.size z k
def mP (ops:Array ZS) (x:Array Bool):Prop:=∀ j,x.getD j ZX=ZY->∀ k∈sY ops j,x.getD k ZX=ZY
def Bi (h:mP ops x):∀ (f j k:Nat),Kl ops f j k=ZY->(∀ m∈sY ops j,x.getD m ZX=ZY)->x.getD k ZX=ZY
 | 0,_,_,h0,_=>by cases h0
 | f+1,j,k,h0,hj=>by
  obtain ⟨m,a,q⟩:=List.any_eq_true.1 h0;rcases YM.1 q with q|q
  . rw [<- eq_of_beq q];exact hj m a
  . exact Bi h f m k q (h m (hj m a))
def zB (h:i∈Region.ready .any ops x):i<ops.size/\∀ m∈sY ops i,x.getD m ZX=ZY:=by
 obtain ⟨_,o,ho,b⟩:=mem_ready.1 h;refine ⟨(TX.1 ho).1,λm a=>?_⟩;unfold sY at a;rw [ho] at a;obtain ⟨e,c,rfl⟩:=T9.1 a;obtain ⟨d,f⟩:=Vq.1 c;exact b e (YN.1 d) f
def mP.set (h:mP ops x) (hi:i∈Region.ready .any ops x):mP ops (x.setIfInBounds i ZY):=λj a k b=>by
 have key:∀ k,x.getD k ZX=ZY->(x.setIfInBounds i ZY).getD k ZX=ZY:=λk q=>by
  by_cases e:i=k
  . subst e;have:i<x.size:=by
     by_cases c:i<x.size
     . exact c
     . simp [Vf,c] at q
    simp [Vf,this]
  . rw [getD_set_ne ZX e];exact q
 by_cases e:i=j
 . subst e;exact key k ((zB hi).2 k b)
 . rw [getD_set_ne ZX e] at a;exact key k (h j a k b)
def Xp (P:Program) (ops:Array ZS) (Q:ZR->ZW->Prop) (i:Nat) (a:ZR) (w:ZW) (K:ZR->ZW->Prop):Prop:=wpOp P ops (λe a w=>e=.normal/\Q a w) i K a w
def Xi (Fc:Fence) (n:Nat) (P:Program) (ops:Array ZS) (Q:ZR->ZW->Prop) (i:Nat) (a:ZR) (w:ZW) (K:ZR->ZW->Prop):Prop:=wpOpIn Fc n P ops (λe a w=>e=.normal/\Q a w) i K a w
section
variable {P:Program} {ops:Array ZS} {S:ZW->Prop} {Q:ZR->ZW->Prop} {X:Nat->ZR->ZW->(ZR->ZW->Prop)->Prop} {z:Nat}
structure Bj (P:Program) (ops:Array ZS) (X:Nat->ZR->ZW->(ZR->ZW->Prop)->Prop):Prop where
 mono:∀ {i:Nat} {a:ZR} {w:ZW} {K K':ZR->ZW->Prop},(∀ a w,K a w->K' a w)->X i a w K->X i a w K'
 yes:∀ {S:ZW->Prop} {i:Nat} {o:ZS} {v:ZV} {a:ZR} {w:ZW} {K:ZR->ZW->Prop},ops[i]?=ZZ o->YieldsIf P ops S o v a->S w->K (a.put o.dst v) w->X i a w K
 put:∀ {S:ZW->Prop} {i j:Nat} {oi oj:ZS} {v:ZV} {a:ZR} {w:ZW} {K:ZR->ZW->Prop},ops[i]?=ZZ oi->ops[j]?=ZZ oj->oi.apart ops oj=ZY->YieldsIf P ops S oi v a->X j (a.put oi.dst v) w K->X j a w λa' w'=>YieldsIf P ops S oi v a'/\K (a'.put oi.dst v) w'
def sZ (ops:Array ZS) (S:ZW->Prop) (Q:ZR->ZW->Prop) (X:Nat->ZR->ZW->(ZR->ZW->Prop)->Prop) (z:Nat):Nat->Array Bool->ZR->ZW->Prop
 | 0,x,a,w=>Region.ready .any ops x=[]/\Q a w
 | f+1,x,a,w=>(Region.ready .any ops x=[]->Q a w)/\∀ i∈Region.ready .any ops x,X i a w λa' w'=>(i≠z->S w')/\sZ ops S Q X z f (x.setIfInBounds i ZY) a' w'
def td (n:Bj P ops X) (V:z<ops.size->nj ops z=ZY) {i:Nat} {oi:ZS} {v:ZV} (hi:ops[i]?=ZZ oi) (M:i≠z):∀ (f:Nat) (x:Array Bool) (a:ZR) (w:ZW),mP ops x ->
 (∀ j g,ops[j]?=ZZ g->j≠i->x.getD j ZY=ZX->(∀ e∈g.after,Region.binds .any e=ZY->e.on≠i)->oi.apart ops g=ZY)->i∈Region.ready .any ops x->YieldsIf P ops S oi v a->S w->sZ ops S Q X z f (x.setIfInBounds i ZY) (a.put oi.dst v) w->sZ ops S Q X z (f+1) x a w:=by
 intro f;induction f with
 | zero=>
  intro x a w _ _ c o l H;refine ⟨λh=>(by rw [h] at c;cases c),λj d=>?_⟩;by_cases b:j=i
  . subst b;exact n.yes hi o l ⟨λ_=>l,H⟩
  . have:=ready_mono d b;rw [H.1] at this;cases this
 | succ f ih=>
  intro x a w y t c o l H;refine ⟨λh=>(by rw [h] at c;cases c),λj d=>?_⟩;by_cases b:j=i
  . subst b;exact n.yes hi o l ⟨λ_=>l,H⟩
  . obtain ⟨u,g,B,F⟩:=mem_ready.1 d;have E:=(mem_ready.1 c).1;have r:x.getD i ZX=ZX:=by
     rcases X3 i x.size with p|p
     . simpa [Vf,p] using E
     . simp [Vf,p]
    have G:∀ e∈g.after,Region.binds .any e=ZY->e.on≠i:=λe K I L=>by
     have s:=F e K I;rw [L,r] at s;cases s
    have R:j≠z:=λe=>by
     obtain ⟨O,J⟩:=zB d;have q:=WU.1 (V (e▸O)) i (Ur.2 (zB c).1);rcases YM.1 q with q|q
     . exact M (eq_of_beq q)
     . rw [<- e] at q;rw [Bi y _ _ _ q J] at r;cases r
    refine n.mono (λD w' m=>⟨m.2.1,ih (x.setIfInBounds j ZY) D w' (y.set d) (λk ok N T C U=>t k ok N T ?_ U) (ready_mono c (Vn b)) m.1 (m.2.1 R) ?_⟩) (n.put hi B (t j g B b u G) o (H.2 j (ready_mono d b)))
    . by_cases A:j=k
      . subst A;exact u
      . rw [getD_set_ne ZY A] at C;exact C
    . rw [acm _ _ b];exact m.2.2
def LW (P:Program) (ops:Array ZS) (Q:ZR->ZW->Prop) (S:ZW->Prop) (X:Nat->ZR->ZW->(ZR->ZW->Prop)->Prop) (z:Nat):List (Nat×Bool)->ZR->ZW->Prop
 | [],a,w=>Q a w
 | (i,ZY)::l,a,w=>∃ o v,ops[i]?=ZZ o/\YieldsIf P ops S o v a/\LW P ops Q S X z l (a.put o.dst v) w
 | (i,ZX)::l,a,w=>X i a w λa' w'=>(i≠z->S w')/\LW P ops Q S X z l a' w'
def D9 (ops:Array ZS) (z:Nat):List (Nat×Bool)->Array Bool->Bool
 | [],x=>(Region.ready .any ops x).isEmpty
 | (i,b)::l,x=>(if b then Region.free .any ops x i&&(Region.ready .any ops x).contains i&&i != z else Region.ready .any ops x==[i]&&(i != z || l.isEmpty))&&D9 ops z l (x.setIfInBounds i ZY)
def zC (b:Bj P ops X) (e:z<ops.size->nj ops z=ZY):∀ (l:List (Nat×Bool)) (x:Array Bool) (a:ZR) (w:ZW),mP ops x->D9 ops z l x=ZY->(l≠[]->S w)->LW P ops Q S X z l a w->sZ ops S Q X z l.length x a w
 | [],x,a,w,_,hk,_,h=>⟨by simpa [D9] using hk,h⟩
 | (i,ZY)::l,x,a,w,hc,hk,hS,h=>by
  simp only [D9,if_true,VJ,bne_iff_ne] at hk;obtain ⟨o,v,f,g,k⟩:=h;have c:i∈Region.ready .any ops x:=oD hk.1.1.2
  exact td b e f hk.1.2 _ _ _ _ hc (Region.free_spec f hk.1.1.1) c g (hS ek) (zC b e l _ _ _ (hc.set c) hk.2 (λ_=>hS ek) k)
 | (i,ZX)::l,x,a,w,hc,hk,hS,h=>by
  simp only [D9,YO,if_false,VJ,beq_iff_eq,Xj,bne_iff_ne,List.isEmpty_iff] at hk;refine ⟨λq=>absurd (hk.1.1▸q) ek,λj d=>?_⟩;have c:=d;rw [hk.1.1] at d;obtain rfl:=U6.1 d;exact b.mono (λm w' q=>⟨q.1,zC b e l _ _ _ (hc.set c) hk.2 (λhl=>q.1 (hk.1.2.resolve_right hl)) q.2⟩) h
def wZ (ops:Array ZS) (z:Nat) (l:List (Nat×Bool)):Bool:=Region.noSelect ops&&D9 ops z l (YF ops.size ZX)&&l.length==ops.size&&(decide (ops.size<=z) || nj ops z)
theorem xt (e:Bj P ops X) {l:List (Nat×Bool)} (b:wZ ops z l=ZY) {a:ZR} {w:ZW} (d:S w) (h:LW P ops Q S X z l a w):sZ ops S Q X z ops.size (YF ops.size ZX) a w:=by
 simp only [wZ,VJ,beq_iff_eq,Xj,V4] at b;have:=zC e (λq=>b.2.resolve_left ec) l (YF ops.size ZX) a w (λj c=>by
  simp only [Vf,YK] at c;split at c<;>cases c) b.1.1.2 (λ_=>d) h
 rwa [b.1.2] at this
def Bk (ops:Array ZS) (z:Nat):List (Nat×Bool)->Array Bool->Bool
 | [],_=>ZY
 | (i,b)::l,x=>b&&(Region.free .any ops x i&&(Region.ready .any ops x).contains i&&i != z)&&Bk ops z l (x.setIfInBounds i ZY)
def Gd:List (Nat×Bool)->Array Bool->Array Bool
 | [],x=>x
 | (i,_)::l,x=>Gd l (x.setIfInBounds i ZY)
def PG (ops:Array ZS) (z n:Nat) (x:Array Bool):List (Nat×Bool)->Bool
 | (i,ZX)::l=>i != z&&D9 ops z l (x.setIfInBounds i ZY)&&l.length==n
 | _=>ZX
def Ea (ops:Array ZS) (z n:Nat) (x:Array Bool) (fk:List (List (Nat×Bool))):Bool:=Region.ready .any ops x==fk.map (λl=>(l.headD (0,ZY)).1)&&fk.all (PG ops z n x) && !fk.isEmpty
def NY (e:Bj P ops X) (j:z<ops.size->nj ops z=ZY) {d:List (List (Nat×Bool))} {n:Nat} {x:Array Bool} {a:ZR} {w:ZW} (f:mP ops x) (c:Ea ops z n x d=ZY) (h:∀ l∈d,LW P ops Q S X z l a w):sZ ops S Q X z (n+1) x a w:=by
 simp only [Ea,VJ,beq_iff_eq,Bool.not_eq_true',List.isEmpty_eq_false_iff] at c;refine ⟨λq=>absurd (List.map_eq_nil_iff.1 (c.1.1▸q)) c.2,λi hi=>?_⟩;have g:=hi;rw [c.1.1] at hi;obtain ⟨l,hl,rfl⟩:=T9.1 hi;have b:=WU.1 c.1.2 l hl;have h:=h l hl;rcases l with _|⟨⟨i,_|_⟩,l⟩
 . cases b
 . simp only [PG,VJ,bne_iff_ne,beq_iff_eq] at b;exact e.mono (λk w' q=>⟨q.1,b.2▸zC e j l _ _ _ (f.set g) b.1.2 (λ_=>q.1 b.1.1) q.2⟩) h
 . cases b
def Km (c:Bj P ops X) (e:z<ops.size->nj ops z=ZY) {n:Nat} {E:ZR->ZW->Prop}:∀ (l:List (Nat×Bool)) (x:Array Bool) (a:ZR) (w:ZW),(∀ a w,mP ops (Gd l x)->E a w->sZ ops S Q X z n (Gd l x) a w)->mP ops x->Bk ops z l x=ZY->S w->LW P ops E S X z l a w->sZ ops S Q X z (n+l.length) x a w
 | [],_,_,_,H,hc,_,_,h=>H _ _ hc h
 | (i,ZX)::_,_,_,_,_,_,hk,_,_=>by simp [Bk] at hk
 | (i,ZY)::l,x,a,w,H,hc,hk,hS,h=>by
  simp only [Bk,abT,VJ,bne_iff_ne] at hk;obtain ⟨o,v,b,f,g⟩:=h;have d:i∈Region.ready .any ops x:=oD hk.1.1.2
  exact td c e b hk.1.2 _ _ _ _ hc (Region.free_spec b hk.1.1.1) d f hS (Km c e l _ _ _ H (hc.set d) hk.2 hS g)
def zD (ops:Array ZS) (z n:Nat) (l:List (Nat×Bool)) (fk:List (List (Nat×Bool))):Bool:=Region.noSelect ops&&Bk ops z l (YF ops.size ZX)&&Ea ops z n (Gd l (YF ops.size ZX)) fk&&n+1+l.length==ops.size&&(decide (ops.size<=z) || nj ops z)
theorem aap (n:Nat):mP ops (YF n ZX):=λj a=>by
 simp only [Vf,YK] at a;split at a<;>cases a
def Eb (d:Bj P ops X) {n:Nat} {l:List (Nat×Bool)} {c:List (List (Nat×Bool))} (b:zD ops z n l c=ZY) {a:ZR} {w:ZW} (f:S w) (h:LW P ops (λa w=>∀ l∈c,LW P ops Q S X z l a w) S X z l a w):sZ ops S Q X z ops.size (YF ops.size ZX) a w:=by
 simp only [zD,VJ,beq_iff_eq,Xj,V4] at b;have e:z<ops.size->nj ops z=ZY:=λq=>b.2.resolve_left ec;have:=Km d e l _ a w (λ_ _ g h=>NY d e g b.1.1.2 h) (aap _) b.1.1.1.2 f h;rwa [b.1.2] at this
def Bm {P:α->Prop} {a b:α} (c:P a) (d:P b):∀ l∈[a,b],P l:=λl hl=>by
 rcases Uv.1 hl with rfl|hl
 . exact c
 . rw [U6.1 hl];exact d
def cH {a:ZR} (h:Q a w):LW P ops Q S X z [] a w:=h
def aF {l:List (Nat×Bool)} {a:ZR} (ho:ops.toList[i]?=ZZ o) (b:Region.wanted o (yielded ops a.tmps)=ZY) (h:∃ v,(∀ w,S w->(execOp a.eval o).run P w=.ok (.value v) w)/\LW P ops Q S X z l (a.put o.dst v) w):LW P ops Q S X z ((i,ZY)::l) a w:=h.elim λv h=>⟨o,v,oD ho,.inl ⟨b,h.1⟩,h.2⟩
end
section
variable {P:Program} {ops:Array ZS} {S:ZW->Prop} {Q:ZR->ZW->Prop} {z i:Nat} {l:List (Nat×Bool)} {a:ZR} {w w1:ZW} {o:ZS}
def aaq (a:Region.noSelect ops=ZY):Bj P ops (Xp P ops Q) where
 mono h:=wpOp_mono h
 yes hi hy hS h:=hy.wpOp hi hS h
 put hi hj h0 hy h:=wpOp_putIf hj h0 (λcs b=>Yy a _ _ cs b hi) (λcs b=>Yy a _ _ cs b hj) (λ_ _ _ q=>absurd q.1 nofun) hy h
def zE:∀ (f:Nat) (x:Array Bool) (a:ZR) (w:ZW),sZ ops S Q (Xp P ops Q) z f x a w->wpAny P .any ops (λe a w=>e=.normal/\Q a w) f x a w
 | 0,_,_,_,h=>⟨h.1,rfl,h.2⟩
 | f+1,_,_,_,h=>⟨λq=>⟨rfl,h.1 q⟩,λi hi=>wpOp_mono (λb w' q=>zE f _ b w' q.2) (h.2 i hi)⟩
def dr {U:Exit->ZR->ZW->Prop} (z:Nat) (l:List (Nat×Bool)) (S:ZW->Prop) (d:P.follows .mixedOrders=ZY) (b:wZ ops z l=ZY) (c:S w.drew) (h:LW P ops (λa w=>U .normal a w) S (Xp P ops λa w=>U .normal a w) z l a w.drew):(Code.region m ops ZY).wp P U a w:=
 Code.wp_mono (Q:=λe a w=>e=.normal/\U .normal a w) (λe a w q=>Zp) (wp_region_any d (zE _ _ _ _ (xt (aaq (by simp only [wZ,VJ] at b;exact b.1.1.1)) b c h)))
def qU {U:Exit->ZR->ZW->Prop} (z:Nat) (l:List (Nat×Bool)) (c:List (List (Nat×Bool))) (S:ZW->Prop) (f:P.follows .mixedOrders=ZY) (b:zD ops z n l c=ZY) (d:S w.drew) (h:LW P ops (λa w=>∀ l∈c,LW P ops (λa w=>U .normal a w) S (Xp P ops λa w=>U .normal a w) z l a w) S (Xp P ops λa w=>U .normal a w) z l a w.drew):(Code.region m ops ZY).wp P U a w:=
 Code.wp_mono (Q:=λe a w=>e=.normal/\U .normal a w) (λe a w q=>Zp) (wp_region_any f (zE _ _ _ _ (Eb (aaq (by simp only [zD,VJ] at b;exact b.1.1.1.1)) b d h)))
def te (ho:ops.toList[i]?=ZZ o) (c:Region.wanted o (yielded ops a.tmps)=ZY) (h:∀ K:ZR->ZW->Prop,(∀ b w',(i≠z->S w')->LW P ops Q S (Xp P ops Q) z l b w'->K b w')->o.wp P a w K (λe a w=>e=.normal/\Q a w)):LW P ops Q S (Xp P ops Q) z ((i,ZX)::l) a w:=by
 show Xp P ops Q i a w _;unfold Xp wpOp;rw [(oD ho:ops[i]?=ZZ o)];show if _ then _ else _;rw [TT c];exact .inl (h _ λ_ _ d f=>⟨d,f⟩)
def eJ (ho:ops.toList[i]?=ZZ o) (d:Region.wanted o (yielded ops a.tmps)=ZY) (c:(execOp a.eval o).run P w=.ok (.value v) w1) (b:i≠z->S w1) (h:LW P ops Q S (Xp P ops Q) z l (a.put o.dst v) w1):LW P ops Q S (Xp P ops Q) z ((i,ZX)::l) a w:=te ho d λK hK=>by
 unfold Oper.wp;rw [c];exact hK _ _ b h
def ku (ho:ops.toList[i]?=ZZ o) (d:Region.wanted o (yielded ops a.tmps)=ZY) (c:(execOp a.eval o).run P w=.ok .skip w1) (b:i≠z->S w1) (h:LW P ops Q S (Xp P ops Q) z l (a.put o.dst Z1) w1):LW P ops Q S (Xp P ops Q) z ((i,ZX)::l) a w:=te ho d λK hK=>by
 unfold Oper.wp;rw [c];exact hK _ _ b h
def fG (b:ZT P f args w1 R) (ho:ops.toList[i]?=ZZ o) (d:Region.wanted o (yielded ops a.tmps)=ZY) (c:(execOp a.eval o).run P w=.ok (.enter f args) w1) (h:∀ e w',R e w'->∃ v,e=Z4 v/\(i≠z->S w')/\LW P ops Q S (Xp P ops Q) z l (a.put o.dst v) w'):LW P ops Q S (Xp P ops Q) z ((i,ZX)::l) a w:=te ho d λK hK=>by
 unfold Oper.wp;rw [c];refine b.mono λe w' q=>?_;obtain ⟨v,rfl,g,j⟩:=h e w' q;exact hK _ _ g j
end
structure Qj (Fc:Fence):Prop where
 fn:∀ f,Fc.fn f
 dp:Fc.depth.isSome=ZY->False
 cl:∀ {n:Nat} {P:Program} {f:FuncId} {args:Array ZV} {w:ZW} {R:Ending->ZW->Prop},ZT P f args w R->CallsIn Fc n P f args w R
def nU:Qj Fence.wide:=⟨λ_=>trivial,λh=>vE,λh=>Vd.2 h⟩
def eG (l:Nat):Qj (Fence.wide.inRound l):=⟨λ_=>trivial,λh=>vE,λh=>abS l (Vd.2 h)⟩
def zF (ops:Array ZS):Bool:=ops.toList.all λo=>match o.op with|.defer _=>ZX|_=>ZY
def tf (h:zF ops=ZY) {i:Nat} {o:ZS} (ho:ops[i]?=ZZ o) (c:Call):o.op≠.defer c:=λe=>by
 have:=WU.1 h o (YN.2 (Array.mem_of_getElem? ho));rw [e] at this;cases this
section
variable {Fc:Fence} {n:Nat} {P:Program} {ops:Array ZS} {S:ZW->Prop} {Q:ZR->ZW->Prop} {z i:Nat} {l:List (Nat×Bool)} {a:ZR} {w w1:ZW} {o:ZS}
theorem aar (q:Qj Fc) (A:Region.noSelect ops=ZY) (z:zF ops=ZY):Bj P ops (Xi Fc n P ops Q) where
 mono h:=wpOpIn_mono h
 yes {_ i o v a w K} hi hy hS h:=by
  unfold Xi wpOpIn;simp only [hi];rcases hy with ⟨m,C⟩|⟨m,rfl⟩
  . simp only [m,if_true,Oper.wpIn,Vu _ _ _ (tf z hi),C w hS,Oper.uponIn];exact ⟨λf _=>q.fn f,h⟩
  . simp only [m,YO,if_false];exact ⟨λf _=>q.fn f,h⟩
 put {S i j oi oj v a w K} hi hj h5 hy h:=by
  have y:=λcs b=>Yy A _ _ cs b hi;have B:=λcs b=>Yy A _ _ cs b hj;have s:=tf z hj;obtain ⟨t,k,p⟩:=Oper.apart_spec h5;have keep:∀ u,YieldsIf P ops S oi v (a.put oj.dst u):=λu=>hy.of_same (execOp_put oi y a oj.dst u p) (wanted_put oi a oj.dst u p);unfold Xi wpOpIn at *;simp only [hj] at *;rw [wanted_put oj a oi.dst v t] at h;split
  . rename_i m
    simp only [m,if_true] at h;refine ⟨λf _=>q.fn f,?_⟩;have h:=h.2;rw [Vu _ _ _ s,execOp_put oj B a oi.dst v t] at h;rw [Vu _ _ _ s];generalize (execOp a.eval oj).run P w=r at *;cases r with
    | ok x w'=>
     cases x<;>simp only [Oper.uponIn] at h ⊢
     case value u=>exact ⟨keep u,by rw [<- Xk a v u k];exact h⟩
     case skip=>exact ⟨keep _,by rw [<- Xk a v Z1 k];exact h⟩
     case defer d=>exact ⟨(hy.of_same rfl rfl:YieldsIf P ops S oi v { a with defers:=d::a.defers }).of_same (execOp_put oi y _ oj.dst _ p) (wanted_put oi _ oj.dst _ p),by rw [<- Xk _ v Z1 k,<- Act.put_defers];exact h⟩
     case enter f args=>
      refine ⟨h.1,CallsIn.mono h.2 λe w'' g=>?_⟩;cases e with
      | returned u=>exact ⟨keep u,Zu⟩
      | panicked c=>exact absurd g.1 nofun
      | outgrown=>exact g
     case row row args=>exact ⟨h.1,RowsIn.mono h.2 λu w'' g=>⟨keep u,Zu⟩⟩
     case round l f tmps assign body=>
      refine ⟨h.1,RoundIn.mono h.2 λe w'' g=>?_⟩;cases e with
      | returned u=>exact ⟨keep u,Zu⟩
      | panicked c=>exact absurd g.1 nofun
      | outgrown=>exact g
    | _=>
     rename_i x _
     cases x<;>simp only [Oper.uponIn] at h ⊢
     case panic u=>exact absurd h.1 nofun
  . rename_i m
    simp only [m] at h;exact ⟨λf _=>q.fn f,keep _,by rw [<- Xk a v Z1 k];exact h.2⟩
def xu:∀ (f:Nat) (x:Array Bool) (a:ZR) (w:ZW),sZ ops S Q (Xi Fc n P ops Q) z f x a w->wpAnyIn Fc n P .any ops (λe a w=>e=.normal/\Q a w) f x a w
 | 0,_,_,_,h=>⟨h.1,rfl,h.2⟩
 | f+1,_,_,_,h=>⟨λq=>⟨rfl,h.1 q⟩,λi hi=>wpOpIn_mono (λb w' q=>xu f _ b w' q.2) (h.2 i hi)⟩
def bX (c:Qj Fc) {U:Exit->ZR->ZW->Prop} {m:Nat} (z:Nat) (l:List (Nat×Bool)) (S:ZW->Prop) (f:P.follows .mixedOrders=ZY) (b:(wZ ops z l&&zF ops)=ZY) (d:S w.drew) (h:LW P ops (λa w=>U .normal a w) S (Xi Fc n P ops λa w=>U .normal a w) z l a w.drew):(Code.region m ops ZY).wpIn Fc n P U a w:=by
 rw [VJ] at b;have g:Region.noSelect ops=ZY:=by have:=b.1;simp only [wZ,VJ] at this;exact this.1.1.1
 exact Code.wpIn_mono (Q:=λe a w=>e=.normal/\U .normal a w) (λe a w q=>Zp) (wpIn_region_any f (xu _ _ _ _ (xt (aar c g b.2) b.1 d h)))
def Ec (ho:ops.toList[i]?=ZZ o) (c:Region.wanted o (yielded ops a.tmps)=ZY) (h:∀ K:ZR->ZW->Prop,(∀ b w',(i≠z->S w')->LW P ops Q S (Xi Fc n P ops Q) z l b w'->K b w')->o.wpIn Fc n P a w K (λe a w=>e=.normal/\Q a w)):LW P ops Q S (Xi Fc n P ops Q) z ((i,ZX)::l) a w:=by
 show Xi Fc n P ops Q i a w _;unfold Xi wpOpIn;rw [(oD ho:ops[i]?=ZZ o)];show if _ then _ else _;rw [TT c];exact h _ λ_ _ d f=>⟨d,f⟩
def zG (d:Qj Fc) {v:ZV} (ho:ops.toList[i]?=ZZ o) (j:Region.wanted o (yielded ops a.tmps)=ZY) (b:∀ c,o.op≠.defer c) (g:(execOp a.eval o).run P w=.ok (.value v) w1) (e:i≠z->S w1) (h:LW P ops Q S (Xi Fc n P ops Q) z l (a.put o.dst v) w1):LW P ops Q S (Xi Fc n P ops Q) z ((i,ZX)::l) a w:=Ec ho j λK hK=>⟨λf _=>d.fn f,by
 rw [Vu _ _ _ b,g];exact hK _ _ e h⟩
def iI (d:Qj Fc) (ho:ops.toList[i]?=ZZ o) (j:Region.wanted o (yielded ops a.tmps)=ZY) (b:∀ c,o.op≠.defer c) (g:(execOp a.eval o).run P w=.ok .skip w1) (e:i≠z->S w1) (h:LW P ops Q S (Xi Fc n P ops Q) z l (a.put o.dst Z1) w1):LW P ops Q S (Xi Fc n P ops Q) z ((i,ZX)::l) a w:=Ec ho j λK hK=>⟨λf _=>d.fn f,by
 rw [Vu _ _ _ b,g];exact hK _ _ e h⟩
def eR (b:Qj Fc) {f:FuncId} {args:Array ZV} {R:Ending->ZW->Prop} (g:ZT P f args w1 R) (ho:ops.toList[i]?=ZZ o) (k:Region.wanted o (yielded ops a.tmps)=ZY) (d:∀ c,o.op≠.defer c) (j:(execOp a.eval o).run P w=.ok (.enter f args) w1) (h:∀ e w',R e w'->∃ v,e=Z4 v/\(i≠z->S w')/\LW P ops Q S (Xi Fc n P ops Q) z l (a.put o.dst v) w'):LW P ops Q S (Xi Fc n P ops Q) z ((i,ZX)::l) a w:=Ec ho k λK hK=>⟨λf _=>b.fn f,by
 rw [Vu _ _ _ d,j];refine ⟨λh=>(b.dp h).elim,b.cl (g.mono λe w' q=>?_)⟩;obtain ⟨v,rfl,m,p⟩:=h e w' q;exact hK _ _ m p⟩
end
end
def cW (D L G:Int):Bool:=decide (1<=D/\D<=12/\1<=L/\L<=4/\0<=G/\G<=4/\D%L=0/\D+L+G<=16)
def nV {a b:Bool} (h:a=b):Ending.returned (Z3 a)=Z4 (Z3 b):=by rw [h]
theorem du (D L G:Int) (w:ZW) (a:0<=D/\D<=100) (b:0<=L/\L<=100) (c:0<=G/\G<=100) :
 ZT ZO 9 #[.agg #[Z8 Z9 D,Z8 Z9 L,Z8 Z9 G]] w λe w'=>e=Z4 (Z8 Z9 (D+L+G))/\ZU w.heap.size w w':=by
 obtain ⟨d,f⟩:=a;obtain ⟨b1,b2⟩:=b;obtain ⟨c1,g⟩:=c;go_enter func9,ntmps9;go_wp2;go_ret;exact ⟨rfl,bA _ _⟩
theorem pA (D L G:Int) (w:ZW) :
 ZT ZO 65 #[.agg #[Z8 Z9 D,Z8 Z9 L,Z8 Z9 G]] w λe w'=>e=Z4 (Z3 (cW D L G))/\ZU w.heap.size w w':=by
 go_enter func65,ntmps65;go_wp2_with (go_at_call 9;refine (du D L G _ ec ec ec).mono ?_;rintro e w' ⟨rfl,a⟩);all_goals go_ret
 . refine ⟨nV (b:=cW D L G) ?_,(bA _ _).trans (a.mono ek)⟩;unfold cW;rw [decide_eq_decide];constructor
   . intro h;exact ⟨ec,ec,ec,ec,ec,ec,by assumption,h⟩
   . intro h;exact h.2.2.2.2.2.2.2
 all_goals
  refine ⟨nV (b:=cW D L G) ?_,bA _ _⟩;unfold cW;symm;rw [decide_eq_false_iff_not];intro h;omega
theorem Ed (D L G:Int) (w:ZW) :
 ZT ZO 62 #[.agg #[Z8 Z9 D,Z8 Z9 L,Z8 Z9 G]] w λe w'=>e=Z4 (Z3 (cW D L G))/\ZU w.heap.size w w':=by
 go_enter func62,ntmps62;go_wp2;all_goals go_ret
 rotate_left
 . refine ⟨nV (b:=cW D L G) ?_,bA _ _⟩;unfold cW;rw [decide_eq_decide];constructor
   . intro h;exact ⟨ec,ec,ec,ec,ec,ec,by assumption,h⟩
   . intro h;exact h.2.2.2.2.2.2.2
 all_goals
  refine ⟨nV (b:=cW D L G) ?_,bA _ _⟩;unfold cW;symm;rw [decide_eq_false_iff_not];intro h;omega
theorem Ee (D L G:Int) (w:ZW) :
 ZT ZO 22 #[.agg #[Z8 Z9 D,Z8 Z9 L,Z8 Z9 G]] w λe w'=>e=Z4 (.agg #[Z8 Z9 D,Z8 Z9 L,Z8 Z9 G])/\ZU w.heap.size w w':=by
 go_enter func22,ntmps22;go_wp2;exact Ut (v:=.agg #[Z8 Z9 D,Z8 Z9 L,Z8 Z9 G]) (by simp [results,results22,go_sem]) rfl ⟨rfl,(bA _ _).alloc ek _⟩
def NZ (a:ZR) (i:Nat) (v:ZV) (h:i<a.tmps.size):(a.put (ZZ i) v).eval (.tmp i)=v:=by simp [Act.put,Act.eval,h]
def tg (a:ZR) (i j:Nat) (v:ZV) (h:i≠j):(a.put (ZZ i) v).eval (.tmp j)=a.eval (.tmp j):=by
 simp [Act.put,Act.eval,Vf,h]
def N0 (a:ZR) (d:Option Nat) (v:ZV):(a.put d v).tmps.size=a.tmps.size:=by
 cases d<;>simp [Act.put]
structure gN (lo hi:Nat) (a a':ZR):Prop where
 size:a'.tmps.size=a.tmps.size
 defers:a'.defers=a.defers
 slot:∀ s,s<lo\/hi<=s->a'.eval (.tmp s)=a.eval (.tmp s)
def gN.refl (lo hi:Nat) (a:ZR):gN lo hi a a:=⟨rfl,rfl,λ_ _=>rfl⟩
def gN.put {a a':ZR} (h:gN lo hi a a') {d:Option Nat} (v:ZV) (b:∀ i,d=ZZ i->lo<=i/\i<hi):gN lo hi a (a'.put d v):=by
 cases d with
 | none=>exact h
 | some d=>
  obtain ⟨e,f⟩:=b d rfl;exact ⟨by rw [N0];exact h.size,h.defers,λs c=>by rw [tg _ _ _ _ ec];exact h.slot s c⟩
def th (ops:Array ZS) (i:Nat):a8:=match ops[i]? with
 | some o=>(o.after.toList.filter (λe=>Region.binds .any e)).map (λe=>e.on)
 | none=>[]
theorem pB:i∈Region.ready .any ops listed↔i<ops.size/\listed.getD i ZY=ZX/\∀ k∈th ops i,listed.getD k ZX=ZY:=by
 unfold Region.ready th;rw [Vq,Ur,XE];constructor
 . rintro ⟨b,c,a⟩;refine ⟨b,oD c,λk f=>?_⟩;rw [VK b] at a f;simp only [WV,YP] at a;rw [T9] at f;obtain ⟨e,d,rfl⟩:=f;obtain ⟨h,j⟩:=Vq.1 d;have:=YQ.1 a e (oD h);simpa [j] using this
 . rintro ⟨b,c,a⟩;refine ⟨b,oD c,?_⟩;rw [VK b] at a ⊢;simp only [WV,YP];rw [YQ];intro e d;by_cases g:Region.binds .any e=ZY
   . have:=a e.on (T9.2 ⟨e,Vq.2 ⟨oD d,g⟩,rfl⟩);simp [this]
   . simp [g]
def kA (listed:Array Bool):Nat:=(listed.toList.filter (λb=>!b)).length
theorem Ef (h:listed.getD i ZY=ZX):kA (listed.setIfInBounds i ZY)+1=kA listed:=by
 have hi:i<listed.size:=by
  by_cases c:i<listed.size
  . exact c
  . simp [Vf,c] at h
 unfold kA;rw [Yz];have a:listed.toList[i]?=ZZ ZX:=by
  simp [Vf,hi] at h;simp [hi,h]
 generalize listed.toList=l at a;clear h hi;induction l generalizing i with
 | nil=>simp at a
 | cons b l ih=>
  cases i with
  | zero=>
   simp at a;subst a;simp
  | succ i=>
   simp at a;have:=ih a;cases b<;>simp [TY]<;>omega
def lz (h:kA listed=0) (i:Nat) (hi:i<listed.size):listed.getD i ZX=ZY:=by
 unfold kA at h;have a:=Xl.1 h;rw [abK] at a;have:=a listed[i] ek;simpa [Vf,hi] using this
def gdz (a:α) (l:List α) (d:α):(a::l).getD 0 d=a:=rfl
def gds (a:α) (l:List α) (n:Nat) (d:α):(a::l).getD (n+1) d=l.getD n d:=rfl
def mQ (d:Option Nat) (a:ZR):ZV:=match d with
 | some d=>a.eval (.tmp d)
 | none=>Z1
structure eu (ops:Array ZS) (lo hi:Nat) (sh:List (Op×Option Nat×a8)):Prop where
 at_:(YG ops.size).map (λi=>((ops[i]?.map λo=>(o.op,o.dst,o.guard)),th ops i))=sh.map (λx=>(ZZ (x.1,x.2.1,Z0),x.2.2))
 early:∀ i,i<sh.length->∀ k∈(sh.getD i (.move (.const Z1),Z0,[])).2.2,k<i
 slots:∀ i j d,i<sh.length->j<sh.length->(sh.getD i (.move (.const Z1),Z0,[])).2.1=ZZ d->(lo<=d/\d<hi)/\((sh.getD j (.move (.const Z1),Z0,[])).2.1=ZZ d->i=j)
def aas (lo hi:Nat) (sh:List (Op×Option Nat×a8)):Bool:=(YG sh.length).all λi=>(sh.getD i (.move (.const Z1),Z0,[])).2.2.all (λk=>decide (k<i))&&match (sh.getD i (.move (.const Z1),Z0,[])).2.1 with
 | none=>ZY
 | some d=>decide (lo<=d)&&decide (d<hi)&&(YG sh.length).all λj=>(sh.getD j (.move (.const Z1),Z0,[])).2.1 != ZZ d || i==j
def ti (c:(YG ops.size).map (λi=>((ops[i]?.map λo=>(o.op,o.dst,o.guard)),th ops i))=sh.map (λx=>(ZZ (x.1,x.2.1,Z0),x.2.2))) (a:aas lo hi sh=ZY):eu ops lo hi sh:=by
 unfold aas at a;rw [WU] at a;refine ⟨c,λi b k h=>?_,λi j d b g f=>?_⟩
 . have:=a i (Ur.2 b);rw [XE,WU] at this;exact WE (this.1 k h)
 . have:=(XE.1 (a i (Ur.2 b))).2;rw [f] at this;simp only [XE,V4,WU] at this;refine ⟨this.1,λe=>?_⟩;have q:=this.2 j (Ur.2 g);rw [e] at q;simpa using q
def eu.size (h:eu ops lo hi sh):ops.size=sh.length:=by
 have:=Ux List.length h.at_;simpa using this
def eu.get (h:eu ops lo hi sh) (i:Nat) (hi:i<sh.length) :
 ∃ o,ops[i]?=ZZ o/\o.op=(sh.getD i (.move (.const Z1),Z0,[])).1/\o.dst=(sh.getD i (.move (.const Z1),Z0,[])).2.1/\o.guard=Z0/\th ops i=(sh.getD i (.move (.const Z1),Z0,[])).2.2:=by
 have j:=h.size;have:=Ux (λl=>l[i]?) h.at_;have a:i<ops.size:=ec
 simp only [UD,Ww a,WV,Uc hi,UB,WW,Wk] at this;obtain ⟨⟨o,b,c,d,f⟩,g⟩:=this;have e:sh.getD i (.move (.const Z1),Z0,[])=sh[i]:=by simp [hi]
 rw [e];exact ⟨o,b,c,d,f,g⟩
def Ge (D:Nat->Bool) (i:Nat):Nat->Bool:=λj=>if j=i then ZY else D j
def iJ (h:j≠i):Ge D i j=D j:=TS h
abbrev gG (sh:List (Op×Option Nat×a8)) (i:Nat):Op×Option Nat×a8:=sh.getD i (.move (.const Z1),Z0,[])
def PH (O:ZS->ZR->ZW->(ZR->ZW->Prop)->Prop) (lo hi:Nat) (sh:List (Op×Option Nat×a8)) (a0:ZR) (V:Nat->ZV->ZW->Prop) (B:(Nat->Bool)->ZW->Prop) (i:Nat):Prop:=
 ∀ (o:ZS) (a:ZR) (w:ZW) (D:Nat->Bool),o.guard=Z0->o.op=(gG sh i).1->o.dst=(gG sh i).2.1->gN lo hi a0 a->(∀ s,(∀ i,i<sh.length->(gG sh i).2.1≠ZZ s)->a.eval (.tmp s)=a0.eval (.tmp s))->D i=ZX->(∀ j,D j=ZY->j<sh.length/\∀ k∈(gG sh j).2.2,D k=ZY) ->
  (∀ k∈(gG sh i).2.2,D k=ZY)->B D w->(∀ j,D j=ZY->V j (mQ (gG sh j).2.1 a) w) ->
  O o a w λa' w'=>∃ v,a'=a.put o.dst v/\(o.dst=Z0->v=Z1)/\B (Ge D i) w'/\V i v w'/\∀ j u,D j=ZY->V j u w->V j u w'
theorem Hm {Q:ZR->ZW->Prop} (O:ZS->ZR->ZW->(ZR->ZW->Prop)->Prop) (W:Nat->Array Bool->ZR->ZW->Prop) (Y:∀ l a w,Region.ready .any ops l=[]->Q a w->W 0 l a w)
 (hS:∀ f l a w,Region.ready .any ops l≠[]->(∀ i∈Region.ready .any ops l,∃ o,ops[i]?=ZZ o/\o.guard=Z0/\O o a w (W f (l.setIfInBounds i ZY)))->W (f+1) l a w) (hO:∀ o a w (K L:ZR->ZW->Prop),(∀ a w,K a w->L a w)->O o a w K->O o a w L)
 (x:eu ops lo hi sh) (p:ZR) (hz:hi<=p.tmps.size) (V:Nat->ZV->ZW->Prop) (B:(Nat->Bool)->ZW->Prop) (hf:∀ i,i<sh.length->PH O lo hi sh p V B i)
 (hn:∀ (a:ZR) (w:ZW),gN lo hi p a->(∀ s,(∀ i,i<sh.length->(gG sh i).2.1≠ZZ s)->a.eval (.tmp s)=p.eval (.tmp s))->(∃ D,(∀ i,i<sh.length->D i=ZY)/\B D w)->(∀ i,i<sh.length->V i (mQ (gG sh i).2.1 a) w)->Q a w) :
 ∀ (f:Nat) (listed:Array Bool) (a:ZR) (w:ZW),listed.size=sh.length->kA listed=f->gN lo hi p a->(∀ s,(∀ i,i<sh.length->(gG sh i).2.1≠ZZ s)->a.eval (.tmp s)=p.eval (.tmp s))->(∀ j,listed.getD j ZX=ZY->j<sh.length/\∀ k∈(gG sh j).2.2,listed.getD k ZX=ZY)->B (λj=>listed.getD j ZX) w ->
  (∀ i,listed.getD i ZX=ZY->V i (mQ (gG sh i).2.1 a) w)->W f listed a w:=by
 have k6:=x.size;have h7:∀ listed:Array Bool,listed.size=sh.length->kA listed≠0->Region.ready .any ops listed≠[]:=by
  intro listed hl y hr;have hh:∀ i,i<sh.length->listed.getD i ZX=ZY:=by
   intro i;induction i using Nat.strongRecOn with
   | ind i ih=>
    intro c;by_cases g:listed.getD i ZX=ZY
    . exact g
    . exfalso;have z:i∈Region.ready .any ops listed:=pB.2 ⟨ec,by simpa [Vf,(ec:i<listed.size)] using g,λk n=>by
       obtain ⟨o,_,_,_,_,e⟩:=x.get i c;rw [e] at n;have:=x.early i c k n;exact ih k this ec⟩
      rw [hr] at z;cases z
  apply y;unfold kA;rw [Xl,abK];intro b hb;obtain ⟨i,c,rfl⟩:=UR hb;have k0:i<listed.size:=oD c
  have:=hh i ec;simp [Vf,k0] at this;simp [this]
 intro f;induction f with
 | zero=>
  intro listed a w hl y n F H J G;refine Y _ _ _ ?_ (hn a w n F ⟨_,λi c=>lz y i ec,J⟩ λi c=>G i (lz y i ec));rw [acn];intro i z;obtain ⟨Z,r,_⟩:=pB.1 z;have:=lz y i ec;simp [Vf,(ec:i<listed.size)] at this r;rw [this] at r;cases r
 | succ f ih=>
  intro listed a w hl y n F H J G;refine hS _ _ _ _ (h7 listed hl ec) λi z=>?_;obtain ⟨Z,r,P⟩:=pB.1 z;have c:i<sh.length:=ec
  have S:i<listed.size:=ec
  obtain ⟨o,U,X,A,M,N⟩:=x.get i c;have hv:listed.getD i ZX=ZX:=by simpa [Vf,S] using r
  have E:∀ j,(listed.setIfInBounds i ZY).getD j ZX=Ge (λj=>listed.getD j ZX) i j:=by
   intro j;unfold Ge;by_cases m:j=i
   . subst m;rw [TT rfl];simp [Vf,S]
   . rw [TS m,Vf,abN,TS (λq:i=j=>m q.symm),<- Vf]
  refine ⟨o,U,M,hO _ _ _ _ _ (λa' w' h=>?_) (hf i c o a w (λj=>listed.getD j ZX) M X A n F hv H (λk t=>?_) J G)⟩
  . obtain ⟨v,rfl,hu,hq,hx,k5⟩:=h;have R:∀ d,o.dst=ZZ d->lo<=d/\d<hi:=λd g=>by rw [A] at g;exact (x.slots i i d c c g).1
    refine ih _ _ _ (oD hl) (e9 (Ef r)) (n.put v R) (λs T=>?_) (λj I=>?_) ?_ λj u=>?_
    . refine X4 ?_ (F s T);cases g:o.dst with
      | none=>rfl
      | some d=>exact tg _ _ _ _ (λe=>T i c (by rw [show (gG sh i).2.1=o.dst from A.symm,g,e]))
    . rw [E] at I;unfold Ge at I;by_cases m:j=i
      . subst m;refine ⟨c,λk t=>?_⟩;rw [E];unfold Ge;by_cases C:k=j
        . rw [TT C]
        . rw [TS C];rw [<- N] at t;exact P k t
      . rw [TS m] at I;obtain ⟨q1,q2⟩:=H j I;refine ⟨q1,λk t=>?_⟩;rw [E];unfold Ge;by_cases C:k=i
        . rw [TT C]
        . rw [TS C];exact q2 k t
    . have e:(λj=>(listed.setIfInBounds i ZY).getD j ZX)=Ge (λj=>listed.getD j ZX) i:=funext E;rw [e];exact hq
    . rw [E] at u;unfold Ge at u;by_cases m:j=i
      . subst m;have:mQ (gG sh j).2.1 (a.put o.dst v)=v:=by
         show mQ (sh.getD j (.move (.const Z1),Z0,[])).2.1 (a.put o.dst v)=v;rw [<- A];cases g:o.dst with
         | none=>exact (hu g).symm
         | some d=>exact NZ _ _ _ (T7 (R d g).2 (by rw [n.size];exact hz))
        rw [this];exact hx
      . rw [TS m] at u;have:mQ (gG sh j).2.1 (a.put o.dst v)=mQ (gG sh j).2.1 a:=by
         cases hy:(gG sh j).2.1 with
         | none=>rfl
         | some d'=>
          cases g:o.dst with
          | none=>rfl
          | some d=>
           refine tg _ _ _ _ λq=>m ?_;subst q;rw [A] at g;exact (x.slots j i d (H j u).1 c hy).2 g
        rw [this];exact k5 j _ u (G j u)
  . exact P k (by rw [N];exact t)
theorem Hn {Q:ZR->ZW->Prop} (O:ZS->ZR->ZW->(ZR->ZW->Prop)->Prop) (W:Nat->Array Bool->ZR->ZW->Prop) (m:∀ l a w,Region.ready .any ops l=[]->Q a w->W 0 l a w)
 (v:∀ f l a w,Region.ready .any ops l≠[]->(∀ i∈Region.ready .any ops l,∃ o,ops[i]?=ZZ o/\o.guard=Z0/\O o a w (W f (l.setIfInBounds i ZY)))->W (f+1) l a w) (u:∀ o a w (K d:ZR->ZW->Prop),(∀ a w,K a w->d a w)->O o a w K->O o a w d)
 (g:eu ops lo hi sh) (b:ZR) (w0:ZW) (q:hi<=b.tmps.size) (V:Nat->ZV->ZW->Prop) (B:(Nat->Bool)->ZW->Prop) (t:B (λ_=>ZX) w0) (n:∀ i,i<sh.length->PH O lo hi sh b V B i)
 (p:∀ (a:ZR) (w:ZW),gN lo hi b a->(∀ s,(∀ i,i<sh.length->(gG sh i).2.1≠ZZ s)->a.eval (.tmp s)=b.eval (.tmp s))->(∃ D,(∀ i,i<sh.length->D i=ZY)/\B D w)->(∀ i,i<sh.length->V i (mQ (gG sh i).2.1 a) w)->Q a w):W ops.size (YF ops.size ZX) b w0:=by
 have r:=g.size;have c:∀ i,(YF ops.size ZX).getD i ZX=ZX:=λi=>by
  simp only [Vf,YK];split<;>rfl
 refine Hm O W m v u g b q V B n p _ _ b w0 (by simp [r]) ?_ (gN.refl _ _ _) (λ_ _=>rfl) (λj k=>?_) ?_ λi h=>?_
 . unfold kA;simp
 . rw [c] at k;cases k
 . have e:(λj=>(YF ops.size ZX).getD j ZX)=λ_=>ZX:=funext c;rw [e];exact t
 . rw [c] at h;cases h
def Bn {a:ZR} {x:ZP} (ho:o.op=.move x) (b:a.eval x=v) (w:ZW):(execOp a.eval o).run P w=.ok (.value v) w:=by simp [execOp,ho,b]
theorem Qk {a:ZR} {x:ZP} {ad:Addr} (ho:o.op=.nilCheck x) (b:a.eval x=Z7 (ZZ ad)) (w:ZW):(execOp a.eval o).run P w=.ok (.value (Z7 (ZZ ad))) w:=by simp only [execOp,ho,b];go_simp
def kq {V:Nat->ZV->Prop}:∀ j u,D j=ZY->V j u->V j u:=λ_ _ _ q=>q
def qV (a:Array ZQ) (b:ZQ) (x y:Int) (w:ZW):(Builtin.max_ a b #[Z8 Z9 x,Z8 Z9 y]).run P w=.ok (Z8 Z9 (if y>x then y else x)) w:=by
 simp [Builtin.max_,Builtin.max2]
def je (a:Array ZQ) (b:ZQ) (x y:Int) (w:ZW):(Builtin.min_ a b #[Z8 Z9 x,Z8 Z9 y]).run P w=.ok (Z8 Z9 (if y<x then y else x)) w:=by
 simp [Builtin.min_,Builtin.min2]
def Bo (b k:Nat) (a:b<65536):(bits .and .i64 ((b:Int)/2^k) 1==1)=decide (b/2^k%2=1):=by
 have h:b/2^k<2^62:=WX (VV _ _) (Xg a ee);have e:=F9 (b/2^k) 1 h ee;rw [Qe] at e;have c:((b/2^k:Nat):Int)=(b:Int)/2^k:=ek
 rw [c,show ((1:Nat):Int)=1 from rfl] at e;rw [e,Ys];simp;omega
def Ql (a b k:Nat) (d:a<256) (g:k<8) (h:b/2^k%2=1) :
 bits .xor .i64 (pm a b k:Int) (wrap64 ((a:Int)*2^k))=(pm a b (k+1):Int):=by
 have c:2^k<=2^7:=UY ee ec;have f:a*2^k<=256*2^7:=Xm ec c;have i:=PE a b d k ec;have e:wrap64 ((a:Int)*2^k)=((a*2^k:Nat):Int):=by
  have:((a*2^k:Nat):Int)=(a:Int)*2^k:=ek
  rw [<- this];unfold wrap64;omega
 rw [e,zy _ _ ec ec];simp only [pm,h,if_true]
def aat (a b k:Nat) (h:¬ b/2^k%2=1):(pm a b k:Int)=(pm a b (k+1):Int):=by
 simp only [pm,h,if_false]
theorem aau (k p:Nat) (b:k<=6) (a:p<65536):(if p/2^(k+8)%2=1 then p^^^(285*2^k) else p)<65536:=by
 split
 . refine V9 (n:=16) a ?_;have:2^k<=2^6:=UY ee b;omega
 . exact a
def Qm (k p:Nat) (a:k<=6) (c:p<65536) (h:p/2^(k+8)%2=1) :
 bits .xor .i64 (p:Int) (wrap64 (285*2^k))=((if p/2^(k+8)%2=1 then p^^^(285*2^k) else p:Nat):Int):=by
 have b:2^k<=2^6:=UY ee a;have e:wrap64 (285*2^k)=((285*2^k:Nat):Int):=by
  have:((285*2^k:Nat):Int)=285*2^k:=ek
  rw [<- this];unfold wrap64;omega
 rw [TT h,e,zy _ _ ec ec]
theorem tj (a b:Nat) (f:a<256) (z:b<256) (w:ZW) :
 ZT ZO 64 #[Z8 .u8 a,Z8 .u8 b] w λe w'=>e=Z4 (Z8 .u8 (gm a b))/\w'=w:=by
 go_enter func64,ntmps64;go_wp2;go_loop [5,7] (λs t=>∃ k:Nat,k<=8/\s=Z8 Z9 (pm a b k)/\t=Z8 Z9 k) (λ_ t=>8-(intOf t).toNat)
 case atStart=>exact ⟨0,ee,rfl,rfl⟩
 case round=>
  obtain ⟨k,A,rfl,rfl⟩:=hrel;have B:=PE a b f k A;by_cases y:k<8
  . have d:=Bo b k ec;by_cases c:b/2^k%2=1
    . rw [UZ c] at d;have i:=Ql a b k f y c;clear c;go_wp2;go_round
      case rel=>exact ⟨k+1,ec,rfl,eT⟩
      case measure=>simp [intOf];omega
    . rw [Vr c] at d;have r:b9 (¬ b/2^k%2=1):=c;clear c;go_wp2;go_round
      case rel=>exact ⟨k+1,ec,by rw [aat a b k r.o],eT⟩
      case measure=>simp [intOf];omega
  . have x:k=8:=ec;subst x;have m := @P7 a b f z;have u:b9 (rd 7 (pm a b 8)=gm a b):=m;clear m;generalize pm a b 8=p at *;go_wp2;go_loop [5,8] (λs t=>∃ j p:Nat,j<=7/\p<65536/\b9 (rd j p=gm a b)/\s=Z8 Z9 p/\t=Z8 Z9 ((j+7:Nat):Int)) (λ_ t=>(intOf t).toNat)
    case atStart=>exact ⟨7,p,ee,B,u,rfl,rfl⟩
    case round=>
     obtain ⟨j,q,C,g,n,rfl,rfl⟩:=hrel;cases j with
     | zero=>
      have hl := @bu a b f;go_wp2;go_ret;exact ⟨kt (by have:=n.out;simp only [rd] at this;omega),rfl⟩
     | succ j=>
      have hl:=aau j q ec g;have d:=Bo q (j+1+7) g;have l:b9 (rd j (if q/2^(j+8)%2=1 then q^^^(285*2^j) else q)=gm a b):=n.out;by_cases c:q/2^(j+8)%2=1
      . rw [show j+8=j+1+7 from rfl] at c;rw [UZ c] at d;have i:=Qm j q ec g c;have v:=ak i;have h:=ak hl;clear c i hl;go_wp2;go_round
        case rel=>exact ⟨j,_,ec,h.o,l,by rw [v.o],eT⟩
        case measure=>simp [intOf];omega
      . have h:b9 (rd j q=gm a b):=(by have:=l.out;rw [TS c] at this;exact this);rw [show j+8=j+1+7 from rfl] at c;rw [Vr c] at d;clear c hl;go_wp2;go_round
        case rel=>exact ⟨j,q,ec,g,h,rfl,eT⟩
        case measure=>simp [intOf];omega
theorem Bp (a:Nat) (b:a<256) (w:ZW) :
 ZT ZO 63 #[Z8 .u8 a] w λe w'=>e=Z4 (Z8 .u8 (gi a))/\w'=w:=by
 go_enter func63,ntmps63;go_wp2;go_loop [3] (λs=>∃ k:Nat,1<=k/\k<=256/\b9 (∀ c,1<=c->c<k->gm a c≠1)/\s=Z8 Z9 k) (λs=>256-(intOf s).toNat)
 case atStart=>exact ⟨1,ee,ee,(λc h m=>absurd h ec),rfl⟩
 case round=>
  obtain ⟨k,r,t,f,rfl⟩:=hrel;by_cases i:k<256
  . have q:(k:Int)%256=(k:Int):=ec;by_cases d:gm a k=1
    . have j:=Ha b i d;have HK:=ak j;have p:((gm a k:Int)==1)=ZY:=(by rw [d];rfl);clear j d;go_wp2_with (go_at_call 64;refine (tj a k b i _).mono ?_;rintro e w' ⟨rfl,rfl⟩);go_ret;exact ⟨kt (by rw [<- HK.o]),rfl⟩
    . have n:b9 (∀ c,1<=c->c<k+1->gm a c≠1):=by
       intro c h m;by_cases e:c=k
       . rw [e];exact d
       . exact f.out c h ec
      have p:((gm a k:Int)==1)=ZX:=vy;clear d f;go_wp2_with (go_at_call 64;refine (tj a k b i _).mono ?_;rintro e w' ⟨rfl,rfl⟩);go_round
      case rel=>exact ⟨k+1,ec,ec,n,eT⟩
      case measure=>simp [intOf];omega
  . have l:b9 (0=gi a):=by
     by_cases e:a=0
     . rw [e,NO];exact (rfl:(0:Nat)=0)
     . have g:=sK a b e;have hl:=iz b;refine absurd g (f.out (gi a) ?_ ec);rcases WG (gi a) with z|z
       . rw [z,bD] at g;exact absurd g ee
       . exact z
    clear f;go_wp2;go_ret;exact ⟨kt (by rw [<- l.out];rfl),rfl⟩
def Eg (h:a^^^c=b^^^c):a=b:=by
 have:=Ux (·^^^c) h;simpa [U3] using this
def Qn (h:c^^^a=c^^^b):a=b:=Eg (c:=c) (by rw [Xa a,Xa b];exact h)
def Bq (h:r<4294967296):dj r/2^28=cG.getD (r%16) 0/2^28:=by
 unfold dj;rw [abH,Xx (ec:r/16<2^28),VU]
def Br (d:r<4294967296) (e:s<4294967296) (h:dj r=dj s):r=s:=by
 have a:cG.getD (r%16) 0/2^28=cG.getD (s%16) 0/2^28:=by rw [<- Bq d,<- Bq e,h]
 have c:∀ i j:Fin 16,cG.getD i.1 0/2^28=cG.getD j.1 0/2^28->i.1=j.1:=ee
 have b:r%16=s%16:=c ⟨r%16,Wc _ ee⟩ ⟨s%16,Wc _ ee⟩ a;unfold dj at h;rw [b] at h;have:r/16=s/16:=Eg h;omega
def Bt (e:r<4294967296) (f:s<4294967296) (g:b<256) (i:c<256) (h:dB r b=dB s c):r^^^b=s^^^c:=
 have a:r^^^b<4294967296:=V9 (n:=32) e ec;have d:s^^^c<4294967296:=V9 (n:=32) f ec
 Br a d (Br (gC a) (gC d) h)
def Bu:∀ (l:a8) {r s:Nat},r<4294967296->s<4294967296->(∀ x∈l,x<256)->l.foldl dB r=l.foldl dB s->r=s
 | [],_,_,_,_,_,h=>h
 | b::l,r,s,c,d,hl,h=>by
  have a:=hl b ek;exact Eg (Bt c d a a (Bu l (fm c a) (fm d a) (λx e=>hl x (by simp [e])) h))
def Ko {p q:a8} (j:∀ x∈p,x<256) (f:∀ x∈q,x<256) (d:b<256) (e:c<256) (h:nR (p++b::q)=nR (p++c::q)):b=c:=by
 have a:=ng j;have g:∀ y,db (p++y::q)=q.foldl dB (dB (db p) y):=λy=>by unfold db;rw [Wu,Xc]
 have:=zv q _ (fm a d) f;have:=zv q _ (fm a e) f;unfold nR at h;rw [g,g] at h;have i:q.foldl dB (dB (db p) b)=q.foldl dB (dB (db p) c):=ec
 exact Qn (Bt a a d e (Bu q (fm a d) (fm a e) f i))
def Gg (a:m<4294967296) (b:n<4294967296) (h:be m 4=be n 4):m=n:=by
 have:=Ux fT h;rwa [lu m 4 ee a,lu n 4 ee b] at this
def tq (hl:l.length=64) (h:(rP l).blk=l):l=YE 64 0\/∃ t,t.length=60/\l=be (nR t) 4++t/\1<=t.getD 0 0/\t.getD 0 0<=3:=by
 by_cases a:(rP l).body.length=0
 . left;unfold bG.blk at h;rw [TT a] at h;exact h.symm
 . right;have b:1<=l.getD 4 0/\l.getD 4 0<=3:=by
    unfold rP at a;by_cases d:l.getD 4 0=1
    . omega
    . by_cases e:l.getD 4 0=2
      . omega
      . by_cases f:l.getD 4 0=3
        . omega
        . rw [TS d,TS e,TS f] at a;exact absurd rfl a
   unfold bG.blk at h;rw [TS a] at h;unfold eI at h;obtain ⟨t,g⟩:=nM ((rP l).body++YE (60-(rP l).body.length) 0);rw [g] at h;have c:=Ux List.length h;rw [Ua,aD,hl] at c;refine ⟨t,ec,h.symm,?_⟩;rw [<- h,Ub,U7 acv,aD] at b;rw [Ub];exact b
def N1 (l:a8) {j:Nat} (h:j<l.length) (x:Nat):l.set j x=l.take j++x::l.drop (j+1):=by rw [List.set_eq_take_append_cons_drop,TT h]
def N2 (l:a8) {j:Nat} (h:j<l.length):l=l.take j++l.getD j 0::l.drop (j+1):=by
 rw [Ub,Uc h];show l=l.take j++l[j]::l.drop (j+1);rw [<- X5 h,Wn]
theorem qW {x:Nat} (p:j<64) (w:x<256) (v:x≠0):¬ ∃ t,t.length=60/\(YE 64 0).set j x=be (nR t) 4++t/\1<=t.getD 0 0/\t.getD 0 0<=3:=by
 rintro ⟨t,r,h,c,f⟩;have a:∀ i,t.getD i 0=((YE 64 0).set j x).getD (i+4) 0:=λi=>by
  rw [h,Ub,Ub,U7 (by rw [aD];omega),aD,Nat.add_sub_cancel]
 have b:∀ i,((YE 64 0).set j x).getD i 0=if j=i then x else 0:=λi=>by
  rw [Ub,Xn];by_cases e:j=i
  . rw [TT e,TT e,XY,TT p];rfl
  . rw [TS e,TS e,WH];split<;>rfl
 have k:j=4:=by
  have:=a 0;rw [b] at this;by_cases e:j=0+4
  . exact e
  . rw [TS e] at this;omega
 subst k;have n:t.getD 0 0=x:=by rw [a,b];rfl
 have m:t=x::YE 59 0:=by
  refine Vc (by simp [r]) λi s z=>?_;have q:=(a i).trans (b _);rw [Ub,Uc s] at q;have u:t[i]=if 4=i+4 then x else 0:=q;rw [u];match i with
  | 0=>rfl
  | i+1=>rw [TS ec,X6,List.getElem_replicate]
 have o:be (nR t) 4=[0,0,0,0]:=by
  have:=Ux (List.take 4) h;rw [VW Bf,UI (l:=be (nR t) 4) Bf] at this;rw [<- this];simp [YE]
 have d:nR t=0:=Gg (zw _) ee o;rw [n] at c f;have g:∀ y:Fin 4,1<=y.1->nR (y.1::YE 59 0)≠0:=Ax
 rw [m] at d;exact g ⟨x,ec⟩ c d
def Kp (hl:l.length=64) (z:∀ y∈l,y<256) {j x:Nat} (c:j<64) (v:x<256) (a:x≠l.getD j 0) (h:(rP l).blk=l):(rP (l.set j x)).blk≠l.set j x:=by
 intro r;have g:j<l.length:=ec
 have C:l.getD j 0<256:=by rw [Ub,Uc g];exact z _ (T6 g)
 have s:(l.set j x).set j (l.getD j 0)=l:=by
  rw [List.set_set,Ub,Uc g];exact List.set_getElem_self _
 have u:(l.set j x).getD j 0=x:=by rw [Ub,YA g];rfl
 rcases tq hl h with e|⟨t,E,e,A,B⟩
 . rcases tq (by rw [VZ];exact hl) r with b|w
   . have q:=u;rw [b,Ub,WH,TT c] at q;rw [e,Ub,WH,TT c] at a;exact a q.symm
   . have q:l.getD j 0=0:=(by rw [e,Ub,WH,TT c];rfl);rw [q] at a;rw [e] at w;exact qW c v a w
 . rcases tq (by rw [VZ];exact hl) r with b|⟨H,I,b,_⟩
   . have q:x=0:=by
      have q:=u;rw [b,Ub,WH,TT c] at q;exact q.symm
     rw [b] at s;rw [q] at a;exact qW c C (λq=>a q.symm) ⟨t,E,s.trans e,A,B⟩
   . by_cases m:j<4
     . have o:(be (nR t) 4++t).set j x=(be (nR t) 4).set j x++t:=List.set_append_left _ _ (by rw [aD];exact m);rw [e,o] at b;have D:((be (nR t) 4).set j x).length=(be (nR H) 4).length:=(by rw [VZ,aD,aD]);obtain ⟨k,p⟩:=YR b D;rw [<- p] at k;have f:((be (nR t) 4).set j x).getD j 0=(be (nR t) 4).getD j 0:=(by rw [k]);rw [Ub,YA (by rw [aD];exact m)] at f;rw [e,Ub,VC (by rw [aD];exact m),<- Ub] at a;exact a f
     . have o:(be (nR t) 4++t).set j x=be (nR t) 4++t.set (j-4) x:=(by rw [abU _ _ (by rw [aD];omega),aD]);rw [e,o] at b;obtain ⟨k,p⟩:=YR b (by rw [aD,aD]);have f:=Gg (zw _) (zw _) k;have i:j-4<t.length:=ec;have n:∀ y∈t,y<256:=λy d=>z y (by rw [e];exact VQ _ d);rw [<- p,N1 t i] at f;have G:nR (t.take (j-4)++t.getD (j-4) 0::t.drop (j-4+1))=nR (t.take (j-4)++x::t.drop (j-4+1)):=(by rw [<- N2 t i];exact f);have F:=Ko (λy d=>n y (UX d)) (λy d=>n y (U0 d)) (by rw [Ub,Uc i];exact n _ (T6 i)) v G;rw [e,Ub,U7 (by rw [aD];omega),aD,<- Ub] at a;exact a F.symm
