import Derived.WalkKit
import Derived.Test.YtbbfiffaeikefaaGreatDoorRows
import Derived.ProofKit
import Derived.OpenShut
import Derived.WalkSpells
import Derived.Deep.OwnRows
import Derived.Deep.Slices
import Derived.Deep.Matrix
import Derived.Deep.MidRow
import Derived.Test.YtbbfiffaeikefaaGreatDoorM01
import Derived.Laws.BitsLemmas
import Derived.Deep.QuietTactic
import Derived.BigQuiet
import Derived.Laws.CopyOwn
import Derived.Deep.RegionWith
import Derived.RegionTactic
import Derived.RangeFuncNested
import Derived.RangeFuncBound
import Derived.RangeFuncLeaves
import Derived.Shelf.Abstract
import Derived.Shelf.RegionOpen
import Derived.OwnWalkIn
import Derived.TacticsInMore
import Derived.LoopNIn
import Derived.LoopIn
import Derived.BigRegion
set_option maxRecDepth 100000
set_option linter.all false
set_option maxHeartbeats 8000000
open Go.IntKind renaming i64 -> Z9
open Go.Value renaming int -> Z8, slice -> Z7
open Go.Ending renaming returned -> Z6
open Go renaming undef -> Z5, World -> ZZ, Value -> ZY, Calls -> ZW, Exit -> ZV, Oper -> ZU, Act -> ZT
open Option renaming none -> Z4, some -> Z3
open Bool renaming true -> Z1, false -> Z0
open Go.RowKit renaming Below -> ZX
open List renaming replicate -> YE, range -> YF, length -> YG, take_set -> YO
open Array renaming replicate -> YH, all_eq_true' -> YN
open BitVec renaming ofInt_natCast -> YI, toNat_xor -> YJ, toNat_ofNat -> YK
open Int renaming natCast_nonneg -> YL
open Option renaming getD_some -> YM
open Go.Proofs.Tryz renaming prog -> ZS
open Go.Proofs.Tryz
namespace Go.Proofs.YtbbfiffaeikefaaGreatDoor
def TW:=@Go.RowKit.Below.refl
def Uw:=@List.mem_cons
def V9:=@Nat.mod_lt
def Xx:=@Nat.pow_succ
def VU:=@Nat.div_le_self
def Xy:=@Nat.div_eq_of_lt
def W5:=@List.not_mem_nil
def VJ:=@List.eq_of_mem_replicate
def T8:=@List.length_append
def UD:=@List.length_cons
def UW:=@List.length_nil
def UU:=@List.cons_append
def Uo:=@List.nil_append
def abI:=@List.drop_succ_cons
def Xz:=@List.drop_zero
def VV:=@List.take_append_of_le_length
def UI:=@List.take_of_length_le
def W9:=@List.drop_append_of_le_length
def WM:=@List.drop_of_length_le
def VK:=@List.drop_drop
def VW:=@Nat.mod_eq_of_lt
def XX:=@List.length_replicate
def VA:=@Go.World.rowIs.of_block
def abJ:=@Go.World.rowIs.cell
def VY:=@List.length_set
def T6:=@List.getD_eq_getElem?_getD
def XA:=@Go.World.rowIs_made
def TX:=@Array.getElem?_eq_some_iff
def UN:=@Go.World.ownsRow_nil
def Uv:=@List.map_append
def T7:=@List.mem_map
def UX:=@List.eq_nil_of_length_eq_zero
def VZ:=@Go.wpList_plain
def XY:=@Go.run_make_row'
def Ul:=@Go.Proofs.Tryz.underlying39
def Uh:=@Go.Deep.nblk_alloc
def Ud:=@Go.Deep.blk_setCell_other
def UA:=@List.getElem?_map
def Va:=@List.getElem?_eq_some_iff
def abK:=@Array.getElem?_setIfInBounds
def VL:=@Array.getElem?_modify
def T9:=@List.length_map
def Ua:=@List.getElem?_eq_getElem
def UB:=@Go.IntKind.wrap_i64
def Xa:=@Nat.lt_trans
def Yq:=@Bool.eq_iff_iff
def UZ:=@decide_eq_true
def Vu:=@decide_eq_false
def Ub:=@Go.block_lt_of_cell
def Un:=@List.length_take
def UY:=@List.mem_of_mem_take
def Ui:=@Nat.zero_add
def VC:=@Go.wp_loop_rounds
def U5:=@Go.rounds_succ
def Yr:=@Go.Deep.nblk_setCell
def Vb:=@List.ext_getElem
def Wj:=@List.getElem_set
def XB:=@List.mem_iff_getElem
def V0:=@List.pairwise_iff_getElem
def Ys:=@Nat.lt_or_gt_of_ne
def Yt:=@Go.cell_one_new
def XZ:=@Array.ext
def VM:=@Array.getElem?_eq_getElem
def abL:=@Go.wpList_copy_splice
def Vr:=@Go.Addr.add_mid
def X1:=@List.drop_replicate
def WN:=@Nat.add_sub_cancel_left
def abM:=@List.set_append_right
def Ws:=@Go.World.grownBy.refl
def Vs:=@Array.getD_eq_getD_getElem?
def XC:=@Bool.and_eq_true_iff
def WO:=@Option.map_some
def Yu:=@Array.toList_setIfInBounds
def Uc:=@List.set_cons_succ
def Xb:=@List.length_eq_zero_iff
def Xc:=@List.all_eq_true
def Wy:=@of_decide_eq_true
def Wt:=@decide_eq_true_eq
def VP:=@List.getElem?_range
def UF:=@Option.some.injEq
def Xd:=@Prod.mk.injEq
def acb:=@List.eq_nil_iff_forall_not_mem
def X2:=@Eq.trans
def acd:=@Array.getElem?_replicate
def Ux:=@Go.Sem.run_bind
def Vf:=@Go.Sem.run_pure
def UM:=@Go.Result.andThen_ok
def V3:=@List.map_toArray
def UG:=@List.map_cons
def Vg:=@List.map_nil
def Wk:=@Go.RowKit.Below.heap_setCell
def Xe:=@Go.grownBy_putObj'
def US:=@Go.World.putObj_heap_other
def Vc:=@Go.callsIn_wide
def abN:=@Go.CallsIn.inRound
def X3:=@Go.World.alloc_heap_new
def Uq:=@Go.World.size_alloc
def Wc:=@Go.RowKit.Below.heap_alloc
def Xf:=@Nat.lt_of_le_of_lt
def Xg:=@Nat.mul_le_mul
def WQ:=@Nat.eq_zero_or_pos
def UJ:=@Option.some.inj
def Xh:=@List.getElem?_set
def UQ:=@List.getElem_map
def VD:=@List.getElem?_append_left
def U6:=@List.getElem?_append_right
def Yv:=@Nat.not_lt_zero
def Us:=@Go.info_parts
def Yw:=@List.take_succ_eq_append_getElem
def Wz:=@Go.wpList_append_own
def VQ:=@Go.Proofs.Tryz.underlying85
def VE:=@List.take_length
def abO:=@Go.World.cell?_setCell_other
end Go.Proofs.YtbbfiffaeikefaaGreatDoor
namespace Go.Proofs.YtbbfiffaeikefaaGreatDoor
def nM {α:Type _} (a:α):∃ x,a=x:=⟨a,rfl⟩
def lR {n:Nat}:n<=n:=TV n
def bA (w:Go.World) (o:Go.Obj):Go.RowKit.Below w.heap.size w (w.alloc o):=(TW _ w).alloc (TV _) o
abbrev bW (w v:Go.World):Prop:=Go.RowKit.Below w.heap.size w v
def cA (p : Prop) : Prop := p
def cA.out {p : Prop} (h : cA p) : p := h
def cA.o {p : Prop} (h : cA p) : p := h
open Go.RowKit Go.Deep Gf Go.Shelf
variable {listed:Array Bool} {ops:Array ZU} {args:Array ZY} {R R':Ending->ZZ->Prop} {f:FuncId} {D:List a8} {L T T':List (Nat×Nat×a8)} {sh:List (Op×Option Nat×a8)} {cs:List Frame} {l lp:a8} {xs:List ZY} {r b n base base' p B k j m g cap lo hi i c W:Nat} {S:Nat->Prop} {o:ZU} {x:Operand} {P:Program} {α:Type} {e:TypeId} {v v':ZY} {Vi:ZY->ZZ->Prop} {w w' w'' a w0 w1 w2 wr wr':ZZ}
def be (n:Nat):Nat->a8
 | 0=>[]
 | s+1=>n/256^s%256::be n s
def aC (n s:Nat):(be n s).length=s:=by induction s with
 | zero=>rfl
 | succ s ih=>simp [be,ih]
def qT (n s:Nat):∀ x∈be n s,x<256:=by induction s with
 | zero=>intro x a;simp [be] at a
 | succ s ih=>
  intro x a;simp only [be,Uw] at a;rcases a with rfl|a
  . exact V9 _ (by decide)
  . exact ih x a
def fL (l:a8):Nat:=l.foldl (λn x=>(n*256+x)%18446744073709551616) 0
def sW (l:a8) (x:Nat):fL (l++[x])=(fL l*256+x)%18446744073709551616:=by simp [fL]
def PP (l:a8):fL l<18446744073709551616:=by
 rcases List.eq_nil_or_concat l with rfl|⟨a,x,rfl⟩
 . decide
 . rw [List.concat_eq_append,sW];exact V9 _ (by decide)
theorem Nx (n:Nat) (e:n<18446744073709551616):∀ (s a:Nat),s<=8->a=n/256^s->(be n s).foldl (λn x=>(n*256+x)%18446744073709551616) a=n:=by
 intro s;induction s with
 | zero=>intro a _ b;simpa [be] using b
 | succ s ih=>
  intro a f b;simp only [be,W4];refine ih _ (by omega) ?_;subst b;have c:n/256^(s+1)=n/256^s/256:=by rw [Xx,Nat.div_div_eq_div_mul]
  rw [c];have:n/256^s<=n:=VU _ _;generalize n/256^s=q at *;omega
def lu (n s:Nat) (a:s<=8) (h:n<256^s):fL (be n s)=n:=by
 have:(256:Nat)^s<=256^8:=U8 (by decide) a;exact Nx n (by omega) s 0 a (Xy h).symm
def cI:a8:=[0x00000000,0x1db71064,0x3b6e20c8,0x26d930ac,0x76dc4190,0x6b6b51f4,0x4db26158,0x5005713c,0xedb88320,0xf00f9344,0xd6d6a3e8,0xcb61b38c,0x9b64c2b0,0x86d3d2d4,0xa00ae278,0xbdbdf21c]
def du (r:Nat):Nat:=(r/16)^^^cI.getD (r%16) 0
def dC (r b:Nat):Nat:=du (du (r^^^b))
def di (l:a8):Nat:=l.foldl dC 4294967295
def nI (l:a8):Nat:=4294967295-di l
def pC:∀ i,cI.getD i 0<4294967296:=by
 intro i;by_cases h:i<16
 . have:∀ j:Fin 16,cI.getD j.1 0<4294967296:=by decide
   exact this ⟨i,h⟩
 . have:cI.getD i 0=0:=by simp [cI,Vo (show ([0x00000000,0x1db71064,0x3b6e20c8,0x26d930ac,0x76dc4190,0x6b6b51f4,0x4db26158,0x5005713c,0xedb88320,0xf00f9344,0xd6d6a3e8,0xcb61b38c,0x9b64c2b0,0x86d3d2d4,0xa00ae278,0xbdbdf21c]:a8).length<=i by simp;omega)]
   omega
def gv (h:r<4294967296):du r<4294967296:=by
 unfold du;exact V7 (n:=32) (by omega) (pC _)
def fh (h:r<4294967296) (a:b<256):dC r b<4294967296:=
 gv (gv (V7 (n:=32) h (by omega)))
def zm:∀ (l:a8) (r:Nat),r<4294967296->(∀ x∈l,x<256)->l.foldl dC r<4294967296:=by
 intro l;induction l with
 | nil=>intro r h _;exact h
 | cons b l ih=>intro r h hl;exact ih _ (fh h (hl b (by simp))) (λx a=>hl x (by simp [a]))
def ni (h:∀ x∈l,x<256):di l<4294967296:=zm l _ (by decide) h
def zn (l:a8):nI l<4294967296:=by unfold nI;omega
inductive bw where
 | blank
 | root (D L G turn first len:Nat)
 | filled
 | shard (l:a8)
deriving DecidableEq
def bw.body:bw->a8
 | .blank=>[]
 | .root D L G t f n=>[1,D%256,L%256,G%256]++(be t 8++(be f 4++be n 4))
 | .filled=>[2]
 | .shard l=>3::(YE 15 0++l)
def cJ (body:a8):a8:=be (nI (body++YE (60-body.length) 0)) 4++(body++YE (60-body.length) 0)
def bw.blk (r:bw):a8:=if r.body.length=0 then YE 64 0 else cJ r.body
def bw.ok:bw->Prop
 | .blank=>True
 | .root D L G t f n=>D<256/\L<256/\G<256/\t<18446744073709551616/\f<4294967296/\n<4294967296
 | .filled=>True
 | .shard l=>l.length=44/\∀ x∈l,x<256
def rM (b:a8):bw:=
 if b.getD 4 0=1 then .root (fL [b.getD 5 0]) (fL [b.getD 6 0]) (fL [b.getD 7 0]) (fL ((b.drop 8).take 8)) (fL ((b.drop 16).take 4)) (fL ((b.drop 20).take 4))
 else if b.getD 4 0=2 then .filled else if b.getD 4 0=3 then .shard (b.drop 20) else .blank
def jB {r:bw} (h:r.ok):r.body.length<=60:=by
 cases r with
 | blank=>simp [bw.body]
 | root D L G t f n=>simp [bw.body,aC]
 | filled=>simp [bw.body]
 | shard l=>simp [bw.body,h.1]
theorem FR {r:bw} (h:r.ok):r.blk.length=64:=by
 have:=jB h;unfold bw.blk cJ;split
 . simp
 . simp [aC];omega
def me {r:bw} (h:r.ok):∀ x∈r.body,x<256:=by
 cases r with
 | blank=>intro x a;simp [bw.body] at a
 | root D L G t f n=>
  intro x a;simp only [bw.body,Uj,Uw,W5,or_false] at a;rcases a with (rfl|rfl|rfl|rfl)|a|a|a
  . omega
  . omega
  . omega
  . omega
  all_goals exact qT _ _ x a
 | filled=>
  intro x a;simp only [bw.body,Uw,W5,or_false] at a;omega
 | shard l=>
  intro x a;simp only [bw.body,Uj,Uw] at a;rcases a with rfl|a|a
  . decide
  . have:=VJ a;omega
  . exact h.2 x a
def G4 (h:∀ x∈l,x<256):∀ x∈cJ l,x<256:=by
 intro x a;unfold cJ at a;simp only [Uj] at a;rcases a with a|a|a
 . exact qT _ _ x a
 . exact h x a
 . have:=VJ a;omega
theorem PQ {r:bw} (h:r.ok):∀ x∈r.blk,x<256:=by
 unfold bw.blk;split
 . intro x a;have:=VJ a;omega
 . exact G4 (me h)
def PR (n:Nat):be n 4=[n/256^3%256,n/256^2%256,n/256^1%256,n/256^0%256]:=rfl
def rY (x:Nat) (h:x<256):fL [x]=x:=by simp [fL];omega
theorem Ny {r:bw} (h:r.ok):rM r.blk=r:=by
 cases r with
 | blank=>rfl
 | root D L G t f n=>
  obtain ⟨d,g,i,j,k,o⟩:=h;have e:bw.blk (.root D L G t f n)=cJ (bw.body (.root D L G t f n)):=by unfold bw.blk;rw [TS (by simp [bw.body])]
  rw [e];unfold cJ;generalize nI _=c;simp only [bw.body,PR c,T8,UD,UW,aC];unfold rM;simp only [UU,Uo,List.getD_cons_succ,List.getD_cons_zero,if_true,abI,Xz,Uz];have t8:∀ R:a8,(be t 8++R).take 8=be t 8:=λR=>by rw [VV (by simp [aC])];exact UI (by simp [aC])
  have a:∀ R:a8,(be t 8++R).drop 8=R:=λR=>by rw [W9 (by simp [aC]),WM (by simp [aC])];rfl
  have b:∀ (m:Nat) (R:a8),(be m 4++R).take 4=be m 4:=λm R=>by rw [VV (by simp [aC])];exact UI (by simp [aC])
  have d12:∀ R:a8,(be t 8++(be f 4++R)).drop 12=R:=λR=>by
   rw [show (12:Nat)=8+4 from rfl,<- VK,a,W9 (by simp [aC]),WM (by simp [aC])];rfl
  rw [t8,a,b,d12,b,lu t 8 (by decide) j,lu f 4 (by decide) k,lu n 4 (by decide) o];rw [rY _ (by omega),rY _ (by omega),rY _ (by omega),VW d,VW g,VW i]
 | filled=>
  have e:bw.blk .filled=cJ (bw.body .filled):=by unfold bw.blk;rw [TS (by simp [bw.body])]
  rw [e];unfold cJ;generalize nI _=c;simp only [bw.body,PR c,UD,UW];unfold rM;simp
 | shard l=>
  have e:bw.blk (.shard l)=cJ (bw.body (.shard l)):=by unfold bw.blk;rw [TS (by simp [bw.body])]
  rw [e];unfold cJ;generalize nI _=c;have hl:=h.1;simp only [bw.body,PR c,T8,UD,XX,hl];unfold rM;simp [YE]
def J4 (l:a8):Option bw:=if (rM l).blk=l then Z3 (rM l) else Z4
def FT {r:bw} (h:r.ok):J4 r.blk=Z3 r:=by unfold J4;rw [Ny h,TT rfl]
def iB (h:n<=1000000000000):wrap64 (n:Int)=(n:Int):=by unfold wrap64;omega
def vb (l:a8) (i:Nat):ZY:=Z8 .u8 ((l.getD i 0:Nat):Int)
def aI (w:ZZ) (b:Nat) (l:a8):Prop:=w.rowIs b 5 l.length (vb l)
def fP (p:Nat×Nat×a8):ZY:=Z7 (Z3 ⟨p.1,0,Z4⟩) p.2.1 p.2.2.length
structure ez (w:ZZ) (base:Nat) (v:ZY) (L:List (Nat×Nat×a8)):Prop where
 own:w.ownsRow base 39 1 v L.length (L.map fP)
 row:∀ p∈L,base<=p.1/\aI w p.1 p.2.2/\p.2.1<=p.2.2.length/\(p.2.1<=140737488355328/\p.2.2.length<=9223372036854775807)/\∀ x∈p.2.2,x<256
 nodup:(L.map (λp=>p.1)).Nodup
def dw (h:∀ x∈l,x<256) (i:Nat):l.getD i 0<256:=by
 by_cases hi:i<l.length
 . have e:l.getD i 0=l[i]:=(by simp [hi]);rw [e];exact h _ (TY hi)
 . have e:l.getD i 0=0:=(by simp [Vo (show l.length<=i by omega)]);rw [e];decide
def aI.below (h:aI w b l) (a:ZX w.heap.size w w'):aI w' b l:=
 VA h (a.block b h.lt)
def aI.cell (h:aI w b l) (i:Nat) (hi:i<l.length):w.cell? ⟨b,i,Z4⟩=Z3 (Z8 .u8 ((l.getD i 0:Nat):Int)):=
 abJ h hi
def aI.frozen (h:aI w b l) (i:Nat):w.frozen? ⟨b,i,Z4⟩=Z0:=World.rowIs.frozen h i
theorem aI.set (h:aI w b l) (i x:Nat):aI (w.setCell ⟨b,i,Z4⟩ (Z8 .u8 (x:Int))) b (l.set i x):=by
 have a:=World.rowIs.set h i (Z8 .u8 (x:Int));unfold aI;rw [VY];refine a.congr λj c=>?_;unfold vb;by_cases e:j=i
 . subst e;simp [c]
 . simp only [TS e];rw [T6,T6,List.getElem?_set_ne (λh=>e h.symm)]
def aI.other (h:aI w b l) {a:Addr} (c:b≠a.block) (v:ZY):aI (w.setCell a v) b l:=World.rowIs.setOther h c v
def aI.alloc (h:aI w b l) (o:Obj):aI (w.alloc o) b l:=World.rowIs.alloc h o
def aI.lt (h:aI w b l):b<w.heap.size:=World.rowIs.lt h
def aI.grown {row:Option Nat} (h:aI w b l) (c:w.grownBy w' row) (a:Z3 b≠row):aI w' b l:=
 VA h (c.block b h.lt a)
theorem aI.made (w:ZZ) (n:Nat):aI (w.alloc (.cells (madeCells #[Z8 .u8 0] n) 5)) w.heap.size (YE n 0):=by
 have h:=XA w (Z8 .u8 0) n 5;unfold aI;rw [XX];refine h.congr λi hi=>?_;simp [vb,hi]
def ay {size:Nat} (h:w.ownsRow base e size v n xs) (j:ZX w.heap.size w w'):w'.ownsRow base e size v n xs:=by
 refine ⟨h.1,?_⟩;rcases h.2 with f|⟨g,cap,cur,b,c,a,d⟩
 . exact .inl f
 . refine .inr ⟨g,cap,cur,b,c,?_,d⟩;obtain ⟨i,_⟩:=TX.1 a;rw [j.block g i];exact a
def cY {size:Nat} (h:w.ownsRow base e size v n xs) (f:base'<=base):w.ownsRow base' e size v n xs:=by
 refine ⟨h.1,?_⟩;rcases h.2 with c|⟨g,cap,cur,a,d,b⟩
 . exact .inl c
 . exact .inr ⟨g,cap,cur,a,by omega,b⟩
def pD (h:w.ownsRow base 39 1 v n xs) {b:Nat} {l:a8} (i:aI w b l):v.ownBlock≠Z3 b:=by
 intro e;rcases h.2 with ⟨f,_⟩|⟨g,cap,cur,d,k,a,m⟩
 . rw [f] at e;simp [Value.ownBlock] at e
 . rw [d] at e;simp [Value.ownBlock] at e;subst e;obtain ⟨c,j,_⟩:=i;rw [j] at a;simp at a
def ez.weaken (h:ez w base v L) (c:base'<=base):ez w base' v L:=
 ⟨cY h.own c,λp d=>by obtain ⟨a,b⟩:=h.row p d;exact ⟨by omega,b⟩,h.nodup⟩
def ez.nil (w:ZZ) (base:Nat):ez w base (Z7 Z4 0 0) []:=
 ⟨UN _ _ _ _,λp a=>by simp at a,by simp⟩
def ez.below (h:ez w base v L) (d:ZX w.heap.size w w'):ez w' base v L:=
 ⟨ay h.own d,λp e=>by obtain ⟨a,b,c⟩:=h.row p e;exact ⟨a,b.below d,c⟩,h.nodup⟩
def ez.alloc (h:ez w base v L) (o:Obj):ez (w.alloc o) base v L:=
 h.below (bA _ _)
def ez.push {p:Nat×Nat×a8} (h:ez w base v L) (i:w.grownBy w' v.ownBlock) (j:w'.ownsRow base 39 1 v' (L.length+1) (L.map fP++[fP p]))
 (f:base<=p.1/\aI w p.1 p.2.2/\p.2.1<=p.2.2.length/\(p.2.1<=140737488355328/\p.2.2.length<=9223372036854775807)/\∀ x∈p.2.2,x<256) (k:∀ q∈L,q.1≠p.1):ez w' base v' (L++[p]):=by
 refine ⟨by simpa using j,λq d=>?_,?_⟩
 . rcases Uj.1 d with d|d
   . obtain ⟨a,b,c⟩:=h.row q d;exact ⟨a,b.grown i (λe=>pD h.own b e.symm),c⟩
   . simp at d;subst d;exact ⟨f.1,f.2.1.grown i (λe=>pD h.own f.2.1 e.symm),f.2.2⟩
 . rw [Uv,U9];refine ⟨h.nodup,by simp,?_⟩;intro a l b g;obtain ⟨q,d,rfl⟩:=T7.1 l;simp at g;subst g;exact k q d
theorem jC (g i:Nat):(⟨g,0,Z4⟩:Addr).add i=⟨g,i,Z4⟩:=by
 unfold Addr.add;split
 . rename_i h;simp_all
 . simp
def ez.shape (h:ez w base v L):(v=Z7 Z4 0 0/\L=[])\/∃ g cap,v=Z7 (Z3 ⟨g,0,Z4⟩) L.length cap/\base<=g/\L.length<=cap/\cap<=maxLen/\g<w.heap.size/\(∀ i (hi:i<L.length),w.cell? ⟨g,i,Z4⟩=Z3 (fP L[i]))/\(∀ i,w.frozen? ⟨g,i,Z4⟩=Z0)/\∀ p∈L,p.1≠g:=by
 rcases h.own.2 with ⟨j,k⟩|⟨g,cap,cur,a,c,b,d,f,n,o⟩
 . exact .inl ⟨j,UX k⟩
 . obtain ⟨l,_⟩:=TX.1 b;refine .inr ⟨g,cap,a,c,d,f,l,λi hi=>?_,λi=>?_,λp m e=>?_⟩
   . have:=h.own.cells (g:=g) (by rw [a];rfl) i (fP L[i]) (by simp [hi]);rw [jC] at this;exact this
   . simp [World.frozen?,b]
   . have:=pD h.own (h.row p m).2.1;rw [a] at this;exact this (by rw [e];rfl)
def Tryz.R2:(ZS.info? 5).map (λi=>(i.zero,i.size,i.bytes))=Z3 (Z3 (Z8 .u8 0),1,1):=by kernel_rfl
def Tryz.RV:(ZS.info? 39).map (λi=>(i.zero,i.size,i.bytes))=Z3 (Z3 (Z7 Z4 0 0),1,24):=by kernel_rfl
def cQ (w:ZZ) {ops:Array ZU} {rest:List ZU} {o:ZU} {a:ZT} {Q:ZV->ZT->ZZ->Prop}
 (h:o.guard=Z4) (l c:Operand) (e:o.op=Op.makeSlice 39 l c) (C:Int) (n:Nat) (hl:a.eval l=Z8 Z9 C) (g:a.eval c=Z8 Z9 C) (f:C=(n:Int)) (i:n<=140737488355328)
 (hK:∀ w',aI w' w.heap.size (YE n 0)->ZX w.heap.size w w'->w'.heap.size=w.heap.size+1->wpList ZS ops Q rest (a.put o.dst (Z7 (Z3 ⟨w.heap.size,0,Z4⟩) n n)) w') :
 wpList ZS ops Q (o::rest) a w:=by
 refine VZ h λK d=>?_;have b:=XY (P:=ZS) 39 5 (Z8 .u8 0) 1 Ul Tryz.R2 rfl .i64 .i64 n (by omega) (by omega) w;subst f;unfold Oper.wp;simp [execOp,e,hl,g,b,Result.andThen];exact d _ _ (hK _ (aI.made w n) (bA _ _) (Uh _ _))
section
structure aa (S:Nat->Prop) (w w':ZZ):Prop where
 os:w'.os=w.os
 tape:w'.tape=w.tape
 output:w'.output=w.output
 size:w.heap.size<=w'.heap.size
 block:∀ k,k<w.heap.size->¬ S k->w'.heap[k]?=w.heap[k]?
def aa.refl (S:Nat->Prop) (w:ZZ):aa S w w:=⟨rfl,rfl,rfl,TV _,λ_ _ _=>rfl⟩
def aa.mono {T:Nat->Prop} (h:aa S w w') (b:∀ k,k<w.heap.size->S k->T k):aa T w w':=
 ⟨h.os,h.tape,h.output,h.size,λk a c=>h.block k a (λs=>c (b k a s))⟩
def aa.trans (h:aa S w w') (a:aa S w' w''):aa S w w'':=
 ⟨a.os.trans h.os,a.tape.trans h.tape,a.output.trans h.output,TU h.size a.size,λk b c=>(a.block k (TZ b h.size) c).trans (h.block k b c)⟩
def aa.later {T:Nat->Prop} (h:aa S w w') (a:aa T w' w'') (d:∀ k,k<w.heap.size->T k->S k):aa S w w'':=
 ⟨a.os.trans h.os,a.tape.trans h.tape,a.output.trans h.output,TU h.size a.size,λk b c=>(a.block k (TZ b h.size) (λt=>c (d k b t))).trans (h.block k b c)⟩
def aa.RM (h:ZX B w w') (S:Nat->Prop) (a:∀ k,k<w.heap.size->¬ S k->k<B):aa S w w':=
 ⟨h.os,h.tape,h.output,h.size,λk b c=>h.block k (a k b c)⟩
def aa.RN (h:ZX w.heap.size w w') (S:Nat->Prop):aa S w w':=.RM h S λ_ a _=>a
def aa.below (h:aa S w w') {B:Nat} (a:∀ k,k<B->k<w.heap.size/\¬ S k):ZX B w w':=
 ⟨h.os,h.tape,h.output,h.size,λk b=>h.block k (a k b).1 (a k b).2⟩
def aa.setCell (w:ZZ) (a:Addr) (v:ZY) (h:S a.block):aa S w (w.setCell a v):=
 ⟨rfl,rfl,rfl,by simp [World.setCell],λk _ b=>Ud _ _ _ _ (λe=>b (e▸h))⟩
def aa.alloc (w:ZZ) (o:Obj):aa S w (w.alloc o):=.RN (bA _ _) S
def aa.drew (w:ZZ):aa S w w.drew:=⟨rfl,rfl,rfl,TV _,λ_ _ _=>rfl⟩
def aU (b:Nat):∀ (a:List ZY) (o:Nat) (w:ZZ) (k:Nat),k≠b->(w.setCells b o a).heap[k]?=w.heap[k]?
 | [],_,_,_,_=>rfl
 | v::r,o,w,k,h=>by
  show ((w.setCell ⟨b,o,Z4⟩ v).setCells b (o+1) r).heap[k]?=_;rw [aU b r _ _ k h];exact Ud _ _ _ _ (by exact h)
def jj (b:Nat):∀ (a:List ZY) (o:Nat) (w:ZZ),(w.setCells b o a).heap.size=w.heap.size
 | [],_,_=>rfl
 | v::r,o,w=>by
  show ((w.setCell ⟨b,o,Z4⟩ v).setCells b (o+1) r).heap.size=_;rw [jj b r];simp [World.setCell]
def jk (b:Nat):∀ (a:List ZY) (o:Nat) (w:ZZ),(w.setCells b o a).os=w.os/\(w.setCells b o a).tape=w.tape/\(w.setCells b o a).output=w.output
 | [],_,_=>⟨rfl,rfl,rfl⟩
 | v::r,o,w=>jk b r (o+1) (w.setCell ⟨b,o,Z4⟩ v)
def aa.setCells (w:ZZ) (b o:Nat) (a:List ZY) (h:S b):aa S w (w.setCells b o a):=by
 obtain ⟨c,d,f⟩:=jk b a o w;exact ⟨c,d,f,by rw [jj];exact TV _,λk _ g=>aU b a o w k (λe=>g (e▸h))⟩
theorem fA {t:Nat}:∀ (a:List ZY) (o:Nat) (w:ZZ) (f:Nat->ZY),w.rowIs b t n f ->
 (w.setCells b o a).rowIs b t n (λk=>if o<=k/\k<o+a.length then a.getD (k-o) Z5 else f k)
 | [],o,w,f,h=>h.congr λi hi=>by
  show f i=if o<=i/\i<o+0 then _ else f i;rw [TS (by omega)]
 | v::r,o,w,f,h=>by
  have d:=fA r (o+1) _ _ (h.set o v);refine World.rowIs.congr d λk g=>?_;simp only [UD];by_cases e:k=o
  . subst e;rw [TS (by omega),TT rfl,TT (by omega),WK];rfl
  . by_cases c:o+1<=k/\k<o+1+r.length
    . rw [TT c,TT (by omega),show k-o=(k-(o+1))+1 by omega];rfl
    . rw [TS c,TS e,TS (by omega)]
structure gQ where
 n:Nat
 nb:Nat
 bad:Nat->Nat->Bool
 blk:Nat->Nat->a8
structure aQ where
 g:Nat
 cap:Nat
 bb:Nat->Nat
 bd:Nat->Nat
 S:Nat->Prop
def Pi (f:Nat->a8) (k:Nat):ZY:=Z8 .u8 (((f (k/64)).getD (k%64) 0:Nat):Int)
def PS (R:gQ) (F:aQ) (cs:Array ZY) (i:Nat):Prop:=cs[i*4]?=Z3 (.bool Z0)/\cs[i*4+1]?=Z3 (Z7 (Z3 ⟨F.bb i,0,Z4⟩) R.nb R.nb)/\cs[i*4+2]?=Z3 (Z7 (Z3 ⟨F.bd i,0,Z4⟩) R.nb R.nb)/\∃ r,cs[i*4+3]?=Z3 (Z8 Z9 r)
structure ah (X:ZZ) (p:Nat) (R:gQ) (F:aQ):Prop where
 top:X.heap[p]?=Z3 (.cells #[Z7 (Z3 ⟨F.g,0,Z4⟩) R.n F.cap,Z8 Z9 (-1)] 91 (0,0))
 drv:∃ cs,X.heap[F.g]?=Z3 (.cells cs 95 (0,0))/\∀ i,i<R.n->PS R F cs i
 blk:∀ i,i<R.n->X.rowIs (F.bb i) 102 (64*R.nb) (Pi (R.blk i))
 bad:∀ i,i<R.n->X.rowIs (F.bd i) 4 R.nb (λj=>.bool (R.bad i j))
 inj:∀ i j,i<R.n->j<R.n->(F.bb i=F.bb j->i=j)/\(F.bd i=F.bd j->i=j)
 S:∀ k,F.S k↔k=p\/k=F.g\/∃ i,i<R.n/\(k=F.bb i\/k=F.bd i)
 n:R.n<=1000
 nb:R.nb<=1000000
 len:∀ i j,(R.blk i j).length=64/\∀ x∈R.blk i j,x<256
variable {X Y:ZZ} {p:Nat} {R:gQ} {F:aQ}
def ah.sp (h:ah X p R F):F.S p:=(h.S p).2 (.inl rfl)
def ah.sg (h:ah X p R F):F.S F.g:=(h.S _).2 (.inr (.inl rfl))
def ah.sb (h:ah X p R F) {i:Nat} (hi:i<R.n):F.S (F.bb i):=(h.S _).2 (.inr (.inr ⟨i,hi,.inl rfl⟩))
def ah.sd (h:ah X p R F) {i:Nat} (hi:i<R.n):F.S (F.bd i):=(h.S _).2 (.inr (.inr ⟨i,hi,.inr rfl⟩))
def ah.RO (h:ah X p R F) {k:Nat} (b:F.S k):k<X.heap.size:=by
 rcases (h.S k).1 b with rfl|rfl|⟨i,hi,rfl|rfl⟩
 . exact (TX.1 h.top).1
 . obtain ⟨cs,a,_⟩:=h.drv;exact (TX.1 a).1
 . exact (h.blk i hi).lt
 . exact (h.bad i hi).lt
def ah.keep (h:ah X p R F) (a:∀ k,F.S k->Y.heap[k]?=X.heap[k]?):ah Y p R F:=by
 obtain ⟨cs,b,c⟩:=h.drv;exact ⟨(a _ h.sp).trans h.top,⟨cs,(a _ h.sg).trans b,c⟩,λi hi=>(h.blk i hi).of_block (a _ (h.sb hi)),λi hi=>(h.bad i hi).of_block (a _ (h.sd hi)),h.inj,h.S,h.n,h.nb,h.len⟩
def ah.below (h:ah X p R F) {B:Nat} (b:ZX B X Y) (a:X.heap.size<=B):ah Y p R F:=h.keep λk c=>b.block k (TZ (h.RO c) a)
def ah.alloc (h:ah X p R F) (o:Obj):ah (X.alloc o) p R F:=h.below (bA _ _) lR
def ah.apart (h:ah X p R F):p≠F.g/\(∀ i,i<R.n->F.bb i≠p/\F.bb i≠F.g/\F.bd i≠p/\F.bd i≠F.g)/\∀ i j,i<R.n->j<R.n->F.bb i≠F.bd j:=by
 obtain ⟨cs,k,_⟩:=h.drv;have f:=h.top;refine ⟨λe=>?_,λi hi=>?_,λi j hi l e=>?_⟩
 . rw [e,k] at f;simp at f
 . obtain ⟨c,a,_⟩:=h.blk i hi;obtain ⟨d,b,_⟩:=h.bad i hi;refine ⟨λe=>?_,λe=>?_,λe=>?_,λe=>?_⟩
   . rw [e,f] at a;simp at a
   . rw [e,k] at a;simp at a
   . rw [e,f] at b;simp at b
   . rw [e,k] at b;simp at b
 . obtain ⟨c,a,_⟩:=h.blk i hi;obtain ⟨d,b,_⟩:=h.bad j l;rw [e,b] at a;simp at a
def ah.Sc (h:ah X p R F) (i:Nat) (hi:i<R.n):X.cell? ⟨F.g,i*4,Z4⟩=Z3 (.bool Z0)/\X.cell? ⟨F.g,i*4+1,Z4⟩=Z3 (Z7 (Z3 ⟨F.bb i,0,Z4⟩) R.nb R.nb) /\
 X.cell? ⟨F.g,i*4+2,Z4⟩=Z3 (Z7 (Z3 ⟨F.bd i,0,Z4⟩) R.nb R.nb)/\∃ r,X.cell? ⟨F.g,i*4+3,Z4⟩=Z3 (Z8 Z9 r):=by
 obtain ⟨cs,a,b⟩:=h.drv;obtain ⟨c,d,e,r,f⟩:=b i hi;simp only [World.cell?,a];exact ⟨c,d,e,r,f⟩
def ah.SH (h:ah X p R F) (k:Nat):X.frozen? ⟨F.g,k,Z4⟩=Z0:=by obtain ⟨cs,a,_⟩:=h.drv;simp [World.frozen?,a]
def ah.RT (h:ah X p R F):X.cell? ⟨p,0,Z4⟩=Z3 (Z7 (Z3 ⟨F.g,0,Z4⟩) R.n F.cap)/\X.cell? ⟨p,1,Z4⟩=Z3 (Z8 Z9 (-1)):=by simp [World.cell?,h.top]
def aH (l:a8):List ZY:=l.map λ(x:Nat)=>Value.int .u8 (x:Int)
def ah.range (h:ah X p R F) {i j:Nat} (hi:i<R.n) (d:j<R.nb):X.rangeAt (F.bb i) (j*64) (aH (R.blk i j)):=by
 intro k v a;unfold aH at a;rw [UA,Wi] at a;obtain ⟨x,b,rfl⟩:=a;obtain ⟨c,e⟩:=Va.1 b;rw [(h.len i j).1] at c;rw [(h.blk i hi).cell (i:=j*64+k) (by omega)];unfold Pi;rw [show (j*64+k)/64=j by omega,show (j*64+k)%64=k by omega,T6,b];rfl
def ah.there (h:ah X p R F) {i j:Nat} (hi:i<R.n) (a:j<R.nb):X.there (F.bb i) (j*64) 64:=λk b=>by
 rw [(h.blk i hi).cell (i:=j*64+k) (by omega)];exact ⟨rfl,(h.blk i hi).frozen _⟩
def iW {cs:Array ZY} {u:ZY} (h:cs[j]?=Z3 u) (v:ZY):(cs.setIfInBounds k v)[j]?=Z3 (if j=k then v else u):=by
 rw [abK];obtain ⟨q,_⟩:=TX.1 h;by_cases e:k=j
 . subst e;simp [q]
 . rw [TS e,TS (λq=>e q.symm),h]
def ah.TF (h:ah X p R F) (k:Nat) (v:ZY) (l:∀ cs i,i<R.n->PS R F cs i->PS R F (cs.setIfInBounds k v) i):ah (X.setCell ⟨F.g,k,Z4⟩ v) p R F:=by
 obtain ⟨c,b,m⟩:=h.apart;have a:∀ j,j≠F.g->(X.setCell ⟨F.g,k,Z4⟩ v).heap[j]?=X.heap[j]?:=λj f=>Ud _ _ _ _ f;obtain ⟨cs,d,e⟩:=h.drv;exact ⟨(a _ c).trans h.top,⟨cs.setIfInBounds k v,by simp [World.setCell,VL,d],λi hi=>l cs i hi (e i hi)⟩,λi hi=>(h.blk i hi).of_block (a _ (b i hi).2.1),λi hi=>(h.bad i hi).of_block (a _ (b i hi).2.2.2),h.inj,h.S,h.n,h.nb,h.len⟩
def ah.count (h:ah X p R F) (d:Nat) (x:Int):ah (X.setCell ⟨F.g,d*4+3,Z4⟩ (Z8 Z9 x)) p R F:=
 h.TF _ _ λcs i _ q=>by
  obtain ⟨a,b,c,r,f⟩:=q;refine ⟨(iW a _).trans (by rw [TS (by omega)]),(iW b _).trans (by rw [TS (by omega)]),(iW c _).trans (by rw [TS (by omega)]),if i=d then x else r,(iW f _).trans ?_⟩;by_cases e:i=d
  . rw [TT (by omega),TT e]
  . rw [TS (by omega),TS e]
theorem ah.TP (h:ah X p R F) (d:Nat):ah (X.setCell ⟨F.g,d*4,Z4⟩ (.bool Z0)) p R F:=
 h.TF _ _ λcs i _ q=>by
  obtain ⟨a,b,c,r,e⟩:=q;exact ⟨(iW a _).trans (by split<;>rfl),(iW b _).trans (by rw [TS (by omega)]),(iW c _).trans (by rw [TS (by omega)]),r,(iW e _).trans (by rw [TS (by omega)])⟩
def gQ.RU (R:gQ) (d:Nat) (f:Nat->a8):gQ:={ R with blk:=λi=>if i=d then f else R.blk i }
def gQ.RY (R:gQ) (d:Nat) (f:Nat->Bool):gQ:={ R with bad:=λi=>if i=d then f else R.bad i }
theorem ah.RU (h:ah X p R F) {d:Nat} (c:d<R.n) {f:Nat->a8} (r:Y.rowIs (F.bb d) 102 (64*R.nb) (Pi f)) (b:∀ k,k≠F.bb d->Y.heap[k]?=X.heap[k]?) (hl:∀ j,(f j).length=64/\∀ x∈f j,x<256):ah Y p (R.RU d f) F:=by
 obtain ⟨s,g,i⟩:=h.apart;obtain ⟨cs,l,o⟩:=h.drv;refine ⟨(b _ (g d c).1.symm).trans h.top,⟨cs,(b _ (g d c).2.1.symm).trans l,o⟩,λk a=>?_,λk a=>(h.bad k a).of_block (b _ (i d k c a).symm),h.inj,h.S,h.n,h.nb,λk m=>?_⟩
 . show Y.rowIs _ _ _ (Pi (if k=d then f else R.blk k));by_cases e:k=d
   . rw [TT e,e];exact r
   . rw [TS e];exact (h.blk k a).of_block (b _ λq=>e ((h.inj k d a c).1 q))
 . show ((if k=d then f else R.blk k) m).length=64/\∀ x∈(if k=d then f else R.blk k) m,x<256;split
   . exact hl m
   . exact h.len k m
def ah.RY (h:ah X p R F) {d:Nat} (c:d<R.n) {f:Nat->Bool} (o:Y.rowIs (F.bd d) 4 R.nb (λj=>.bool (f j))) (b:∀ k,k≠F.bd d->Y.heap[k]?=X.heap[k]?):ah Y p (R.RY d f) F:=by
 obtain ⟨r,g,i⟩:=h.apart;obtain ⟨cs,l,m⟩:=h.drv;refine ⟨(b _ (g d c).2.2.1.symm).trans h.top,⟨cs,(b _ (g d c).2.2.2.symm).trans l,m⟩,λk a=>(h.blk k a).of_block (b _ (i k d a c)),λk a=>?_,h.inj,h.S,h.n,h.nb,h.len⟩;show Y.rowIs _ _ _ (λj=>.bool ((if k=d then f else R.bad k) j));by_cases e:k=d
 . rw [TT e,e];exact o
 . rw [TS e];exact (h.bad k a).of_block (b _ λq=>e ((h.inj k d a c).2 q))
theorem ah.setBlk (h:ah X p R F) {d:Nat} (a:d<R.n) (b:Nat) {l:a8} (hl:l.length=64) (g:∀ x∈l,x<256):ah (X.setCells (F.bb d) (b*64) (aH l)) p (R.RU d λm=>if m=b then l else R.blk d m) F:=by
 refine h.RU a ((fA (aH l) (b*64) X _ (h.blk d a)).congr λm _=>?_) (λk f=>aU _ _ _ _ _ f) λj=>?_
 . have c:(aH l).length=64:=(by unfold aH;rw [T9,hl]);rw [c];unfold Pi;show _=Value.int .u8 (((if m/64=b then l else R.blk d (m/64)).getD (m%64) 0:Nat):Int);by_cases e:m/64=b
   . rw [TT (by omega),TT e,show m-b*64=m%64 by omega];unfold aH;rw [T6,UA,T6,Ua (show m%64<l.length by omega)];rfl
   . rw [TS (by omega),TS e]
 . split
   . exact ⟨hl,g⟩
   . exact h.len d j
theorem ah.TB (h:ah X p R F) {d:Nat} (a:d<R.n) (b:Nat) (t:Bool):ah (X.setCell ⟨F.bd d,b,Z4⟩ (.bool t)) p (R.RY d λm=>if m=b then t else R.bad d m) F:=
 h.RY a (((h.bad d a).set b (.bool t)).congr λm _=>by split<;>rfl) λk c=>Ud _ _ _ _ c
structure aF where
 n:Nat
 nb:Nat
 tn:Nat->Nat->Bool
 bad:Nat->Nat->Bool
 rc:Nat->Nat->bw
def gQ.rd (R:gQ) (i b:Nat):Option bw:=if R.bad i b=Z1 then Z4 else J4 (R.blk i b)
def aF.rd (A:aF) (i b:Nat):Option bw:=if A.bad i b=Z1 then Z4 else Z3 (A.rc i b)
structure qU (R:gQ) (A:aF):Prop where
 n:R.n=A.n
 nb:R.nb=A.nb
 rd:∀ i b,i<A.n->R.rd i b=A.rd i b
 tn:∀ i b,i<A.n->A.bad i b=Z1->A.tn i b=Z0->R.bad i b=Z1
def aA (X:ZZ) (p:Nat) (A:aF) (F:aQ):Prop:=∃ R,ah X p R F/\qU R A
variable {A:aF}
def aA.RO (h:aA X p A F) {k:Nat} (b:F.S k):k<X.heap.size:=by
 obtain ⟨R,a,_⟩:=h;exact a.RO b
def aA.keep (h:aA X p A F) (c:∀ k,F.S k->Y.heap[k]?=X.heap[k]?):aA Y p A F:=by
 obtain ⟨R,a,b⟩:=h;exact ⟨R,a.keep c,b⟩
def aA.below (h:aA X p A F) {B:Nat} (b:ZX B X Y) (a:X.heap.size<=B):aA Y p A F:=h.keep λk c=>b.block k (TZ (h.RO c) a)
def aA.outside (h:aA X p A F) (c:aa S X Y) (b:∀ k,F.S k->¬ S k):aA Y p A F:=h.keep λk a=>c.block k (h.RO a) (b k a)
def aA.Sx (h:aA X p A F):A.n<=1000/\A.nb<=1000000:=by
 obtain ⟨R,a,b⟩:=h;rw [<- b.n,<- b.nb];exact ⟨a.n,a.nb⟩
def aF.putAt (A:aF) (ds:a8) (b:Nat) (f:Nat->bw):aF:={ A with bad:=λi m=>if m=b/\i∈ds then Z0 else A.bad i m,rc:=λi m=>if m=b/\i∈ds then f i else A.rc i m }
def wR (A:aF) (b:Nat) (f:Nat->bw):A.putAt [] b f=A:=by simp [aF.putAt]
theorem sX (A:aF) (ds:a8) (d b:Nat) (f:Nat->bw):(A.putAt ds b f).putAt [d] b (λ_=>f d)=A.putAt (ds++[d]) b f:=by
 unfold aF.putAt;simp only [aF.mk.injEq,true_and,Uj,Vp];refine ⟨funext λi=>funext λm=>?_,funext λi=>funext λm=>?_⟩
 . by_cases a:m=b<;>by_cases c:i=d<;>by_cases e:i∈ds<;>simp [a,c,e]
 . by_cases a:m=b<;>by_cases c:i=d<;>by_cases e:i∈ds<;>simp_all
def qU.put (h:qU R A) (d b:Nat) {r:bw} (c:r.ok):qU ((R.RU d λm=>if m=b then r.blk else R.blk d m).RY d λm=>if m=b then Z0 else R.bad d m) (A.putAt [d] b λ_=>r):=by
 refine ⟨h.n,h.nb,λi m hi=>?_,λi m hi=>?_⟩
 . have q:=h.rd i m hi;unfold gQ.rd aF.rd at q;unfold gQ.rd aF.rd aF.putAt gQ.RY gQ.RU;by_cases e:i=d
   . subst e;by_cases a:m=b
     . subst a;simp [FT c]
     . simpa [a] using q
   . simpa [e] using q
 . have q:=h.tn i m hi;unfold aF.putAt gQ.RY gQ.RU;by_cases e:i=d
   . subst e;by_cases a:m=b
     . subst a;simp
     . simpa [a] using q
   . simpa [e] using q
end
theorem ak {p:Prop} (h:p):cA p:=h
theorem al {p0 p1:Prop} (a:p0) (b:p1):cA (p0/\p1):=ak ⟨a,b⟩
theorem aE {p0 p1 p2:Prop} (a:p0) (b:p1) (c:p2):cA (p0/\p1/\p2):=ak ⟨a,b,c⟩
theorem a5 {p0 p1 p2 p3:Prop} (a:p0) (b:p1) (c:p2) (d:p3):cA (p0/\p1/\p2/\p3):=ak ⟨a,b,c,d⟩
theorem a6 {p0 p1 p2 p3 p4:Prop} (a:p0) (b:p1) (c:p2) (d:p3) (e:p4):cA (p0/\p1/\p2/\p3/\p4):=ak ⟨a,b,c,d,e⟩
theorem a7 {p0 p1 p2 p3 p4 p5:Prop} (a:p0) (b:p1) (c:p2) (d:p3) (e:p4) (f:p5):cA (p0/\p1/\p2/\p3/\p4/\p5):=ak ⟨a,b,c,d,e,f⟩
theorem hide7 {p0 p1 p2 p3 p4 p5 p6:Prop} (a:p0) (b:p1) (c:p2) (d:p3) (e:p4) (f:p5) (g:p6):cA (p0/\p1/\p2/\p3/\p4/\p5/\p6):=ak ⟨a,b,c,d,e,f,g⟩
theorem hide8 {p0 p1 p2 p3 p4 p5 p6 p7:Prop} (a:p0) (b:p1) (c:p2) (d:p3) (e:p4) (f:p5) (g:p6) (h:p7):cA (p0/\p1/\p2/\p3/\p4/\p5/\p6/\p7):=ak ⟨a,b,c,d,e,f,g,h⟩
theorem hide9 {p0 p1 p2 p3 p4 p5 p6 p7 p8:Prop} (a:p0) (b:p1) (c:p2) (d:p3) (e:p4) (f:p5) (g:p6) (h:p7) (i:p8):cA (p0/\p1/\p2/\p3/\p4/\p5/\p6/\p7/\p8):=ak ⟨a,b,c,d,e,f,g,h,i⟩
theorem hide10 {p0 p1 p2 p3 p4 p5 p6 p7 p8 p9:Prop} (a:p0) (b:p1) (c:p2) (d:p3) (e:p4) (f:p5) (g:p6) (h:p7) (i:p8) (j:p9):cA (p0/\p1/\p2/\p3/\p4/\p5/\p6/\p7/\p8/\p9):=ak ⟨a,b,c,d,e,f,g,h,i,j⟩
theorem hide11 {p0 p1 p2 p3 p4 p5 p6 p7 p8 p9 p10:Prop} (b:p0) (c:p1) (d:p2) (e:p3) (f:p4) (g:p5) (h:p6) (i:p7) (j:p8) (k:p9) (a:p10):cA (p0/\p1/\p2/\p3/\p4/\p5/\p6/\p7/\p8/\p9/\p10):=ak ⟨b,c,d,e,f,g,h,i,j,k,a⟩
theorem hide12 {p0 p1 p2 p3 p4 p5 p6 p7 p8 p9 p10 p11:Prop} (c:p0) (d:p1) (e:p2) (f:p3) (g:p4) (h:p5) (i:p6) (j:p7) (k:p8) (l:p9) (a:p10) (b:p11):cA (p0/\p1/\p2/\p3/\p4/\p5/\p6/\p7/\p8/\p9/\p10/\p11):=ak ⟨c,d,e,f,g,h,i,j,k,l,a,b⟩
theorem hide13 {p0 p1 p2 p3 p4 p5 p6 p7 p8 p9 p10 p11 p12:Prop} (d:p0) (e:p1) (f:p2) (g:p3) (h:p4) (i:p5) (j:p6) (k:p7) (l:p8) (m:p9) (a:p10) (b:p11) (c:p12):cA (p0/\p1/\p2/\p3/\p4/\p5/\p6/\p7/\p8/\p9/\p10/\p11/\p12):=ak ⟨d,e,f,g,h,i,j,k,l,m,a,b,c⟩
theorem hide15 {p0 p1 p2 p3 p4 p5 p6 p7 p8 p9 p10 p11 p12 p13 p14:Prop} (f:p0) (g:p1) (h:p2) (i:p3) (j:p4) (k:p5) (l:p6) (m:p7) (n:p8) (o:p9) (a:p10) (b:p11) (c:p12) (d:p13) (e:p14):cA (p0/\p1/\p2/\p3/\p4/\p5/\p6/\p7/\p8/\p9/\p10/\p11/\p12/\p13/\p14):=ak ⟨f,g,h,i,j,k,l,m,n,o,a,b,c,d,e⟩
def jZ {k:IntKind} {a b:Int} (h:a=b):Ending.returned (.int k a)=Z6 (.int k b):=by rw [h]
def J5 (a b:Nat) (c:a<256) (d:b<256):bits .and .u8 (a:Int) (b:Int)=((a &&& b:Nat):Int):=
 (bits_nat .u8 8 (by decide) wraps_u8 a b c d).1
def lx (a b:Nat) (c:a<256) (d:b<256):bits .xor .u8 (a:Int) (b:Int)=((a^^^b:Nat):Int):=by
 have e:a%2^IntKind.u8.bits=a:=VW c;have f:b%2^IntKind.u8.bits=b:=VW d;simp only [bits,YI,YJ,YK,e,f];have:=rJ c d;exact wraps_u8 _ (YL _) (by omega)
def wS (n:Int) (a:0<=n) (b:n<2^62):IntKind.i64.wrap n=n:=by rw [UB];omega
def FU (a b:Nat) (c:a<2^62) (d:b<2^62):bits .and .i64 (a:Int) (b:Int)=((a &&& b:Nat):Int):=
 (bits_nat .i64 62 (by decide) wS a b c d).1
def zo (a b:Nat) (c:a<2^62) (d:b<2^62):bits .xor .i64 (a:Int) (b:Int)=((a^^^b:Nat):Int):=by
 have e:(2:Nat)^62<2^IntKind.i64.bits:=by decide
 have f:a%2^IntKind.i64.bits=a:=VW (Xa c e);have g:b%2^IntKind.i64.bits=b:=VW (Xa d e);simp only [bits,YI,YJ,YK,f,g];have:=V7 (n:=62) c d;exact wS _ (YL _) (by exact_mod_cast this)
def PT:∀ a,a<256->((a &&& 128=0)↔a<128):=by decide +kernel
def Nz (a:Nat) (h:a<256):(bits .and .u8 (a:Int) 128 != 0)=decide (128<=a):=by
 have e:=J5 a 128 h (by decide);rw [show ((128:Nat):Int)=128 from rfl] at e;rw [e];have:=PT a h;rw [Yq];simp;omega
def PU (a:Nat):a &&& 1=a%2:=Nat.and_one_is_mod a
def aac (a:Nat) (h:a<256):(bits .and .u8 (a:Int) 1 != 0)=decide (a%2=1):=by
 have e:=J5 a 1 h (by decide);rw [show ((1:Nat):Int)=1 from rfl] at e;rw [e,PU];rw [Yq];simp;omega
def aad {a:Nat} (h:a<256) (b:128<=a):bits .xor .u8 ((a:Int)*2%256) 29=(tx a:Int):=by
 have e:((a:Int)*2%256)=((2*a-256:Nat):Int):=by omega
 rw [e,show (29:Int)=((29:Nat):Int) from rfl,lx _ _ (by omega) (by decide)];unfold tx;rw [TS (by omega)]
def aae {a:Nat} (b:a<128):(a:Int)*2=(tx a:Int):=by
 unfold tx;rw [TT b];omega
theorem nj (a:Nat) (h:a<256) (w:ZZ) :
 ZW ZS 200 #[Z8 .u8 a] w λe w'=>e=Z6 (Z8 .u8 (tx a))/\w'=w:=by
 have c:=Nz a h;by_cases b:128<=a
 . rw [UZ b] at c;go_enter func200,ntmps200;go_wp2;go_ret;exact ⟨jZ (aad h b),rfl⟩
 . rw [Vu b] at c;go_enter func200,ntmps200;go_wp2;go_ret;exact ⟨jZ (aae (by omega)),rfl⟩
def J6 (n:Nat):∀ a p,ze n a 0 p=p:=by
 induction n with
 | zero=>intro a p;rfl
 | succ n ih=>intro a p;simp only [ze];exact ih _ _
theorem mh (a b:Nat) (o:a<256) (j:b<256) (w:ZZ) :
 ZW ZS 185 #[Z8 .u8 a,Z8 .u8 b] w λe w'=>e=Z6 (Z8 .u8 (gm a b))/\w'=w:=by
 go_enter func185,ntmps185;go_wp2;go_loop [0,1,5] (λs t u=>∃ n x y z:Nat,x<256/\y<256/\z<256/\y<2^n/\cA (ze n x y z=gm a b)/\s=Z8 .u8 x/\t=Z8 .u8 y/\u=Z8 .u8 z) (λ_ t _=>(intOf t).toNat)
 case atStart=>exact ⟨8,a,b,0,o,j,by decide,j,rfl,rfl,rfl,rfl⟩
 case round=>
  obtain ⟨n,x,y,z,c,p,h,k,g,rfl,rfl,rfl⟩:=hrel;by_cases m:y=0
  . subst m;go_wp2;go_ret;exact ⟨jZ (by rw [<- g.out,J6]),rfl⟩
  . have r:((y:Int) != 0)=Z1:=(by rw [bne_iff_ne];omega);have l:=aac y p;cases n with
    | zero=>exact absurd k (by simp;omega)
    | succ n=>
    have i:y/2<2^n:=(by rw [Xx] at k;omega);by_cases d:y%2=1
    . rw [UZ d] at l;have f:cA (ze n (tx x) (y/2) (z^^^x)=gm a b):=(by have:=g.out;simp only [ze] at this;rw [TT d] at this;exact this);have q:=lx z x h c;go_wp2_with (go_at_call 200;refine (nj _ c _).mono ?_;rintro e w' ⟨rfl,rfl⟩);go_round
      case rel=>exact ⟨n,tx x,y/2,z^^^x,AO c,by omega,rJ h c,i,f,rfl,by go_num,rfl⟩
      case measure=>simp [intOf];omega
    . rw [Vu d] at l;have f:cA (ze n (tx x) (y/2) z=gm a b):=(by have:=g.out;simp only [ze] at this;rw [TS d] at this;exact this);go_wp2_with (go_at_call 200;refine (nj _ c _).mono ?_;rintro e w' ⟨rfl,rfl⟩);go_round
      case rel=>exact ⟨n,tx x,y/2,z,AO c,by omega,h,i,f,rfl,by go_num,rfl⟩
      case measure=>simp [intOf];omega
def J7 (n p v:Nat):Pg (n+1) p v=Pg n (gm p p) (gm v (gm p p)):=rfl
theorem rZ (a:Nat) (h:a<256) (w:ZZ) :
 ZW ZS 184 #[Z8 .u8 a] w λe w'=>e=Z6 (Z8 .u8 (gi a))/\w'=w:=by
 go_enter func184,ntmps184;go_wp2;go_loop [3,4,6] (λs t u=>∃ k p v:Nat,k<=7/\p<256/\v<256/\cA (Pg (7-k) p v=gi a)/\s=Z8 .u8 v/\t=Z8 .u8 p/\u=Z8 Z9 k) (λ_ _ u=>7-(intOf u).toNat)
 case atStart=>exact ⟨0,a,1,by decide,h,by decide,rfl,rfl,rfl,rfl⟩
 case round=>
  obtain ⟨k,p,v,j,b,d,c,rfl,rfl,rfl⟩:=hrel;by_cases i:k<7
  . have f:cA (Pg (7-(k+1)) (gm p p) (gm v (gm p p))=gi a):=by
     have:=c.out;rw [show 7-k=(7-(k+1))+1 from by omega,J7] at this;exact this
    go_wp2_with fail;refine (mh p p b b _).mono ?_;rintro e w' ⟨rfl,rfl⟩;go_wp2_with fail;refine (mh v (gm p p) d (bx _ b) _).mono ?_;rintro e w' ⟨rfl,rfl⟩;go_wp2_with fail;go_round
    case rel=>exact ⟨k+1,gm p p,gm v (gm p p),by omega,bx _ b,bx _ d,f,rfl,rfl,by go_num⟩
    case measure=>simp [intOf];omega
  . have g:k=7:=(by omega);subst g;go_wp2;go_ret;exact ⟨jZ (by rw [<- c.out];rfl),rfl⟩
def Bs (w:ZZ) (v:ZY) (l:a8):Prop:=
 ∃ ao c,v=.slice ao l.length c/\l.length<=c/\l.length<=140737488355328/\(∀ x∈l,x<256)/\(l≠[]->∃ b off,ao=Z3 ⟨b,off,Z4⟩/\∀ k,k<l.length->w.cell? ⟨b,off+k,Z4⟩=Z3 (Z8 .u8 ((l.getD k 0:Nat):Int)))
def Bs.mono (h:Bs w v l) (j:ZX w.heap.size w w'):Bs w' v l:=by
 obtain ⟨ao,c,a,d,f,g,i⟩:=h;refine ⟨ao,c,a,d,f,g,λhl=>?_⟩;obtain ⟨b,off,e,m⟩:=i hl;refine ⟨b,off,e,λk n=>?_⟩;have:=m k n;rw [j.cell (Ub this)];exact this
def Bs.Sq (h:aI w b l) (e:n<=l.length) (d:n<=140737488355328) (c:∀ x∈l,x<256):Bs w (Z7 (Z3 ⟨b,0,Z4⟩) n l.length) (l.take n):=by
 have hl:(l.take n).length=n:=by rw [Un];omega
 refine ⟨Z3 ⟨b,0,Z4⟩,l.length,by rw [hl],by omega,by omega,λx h=>c x (UY h),λ_=>⟨b,0,rfl,λk a=>?_⟩⟩;rw [hl] at a;have:=h.cell k (by omega);rw [Ui,this];simp [a]
def aaf (w:ZZ) (n:Nat) (i:ZY) (wr:ZZ):Prop:=∃ k m:Nat,k<=n/\i=Z8 Z9 k/\wr=w.drewN m
theorem FV (j vb:ZY) (l:a8) (w:ZZ) (t:Bs w j l) (u:Bs w vb l) :
 ZW ZS 24 #[j,vb] w λe w'=>e=Z6 (.bool Z1)/\∃ m,w'=w.drewN m:=by
 obtain ⟨ao,z,rfl,o,q,D,a⟩:=t;obtain ⟨y,A,rfl,p,r,_,c⟩:=u;have B:l.length<=140737488355328:=by omega
 clear o q p r;by_cases hl:l=[]
 . subst hl;clear a c;go_enter func24,ntmps24;go_wp2;refine VC 1 ?_;rw [U5];go_wp2;go_ret;exact ⟨rfl,0,rfl⟩
 . obtain ⟨b,off,rfl,d⟩:=a hl;obtain ⟨v,h,rfl,f⟩:=c hl;clear hl a c;go_enter func24,ntmps24;go_wp2;go_loopw [5] (λi wr=>aaf w l.length i wr) (λi _=>l.length-(intOf i).toNat)
   case atStart=>exact ⟨0,0,T5 _,rfl,rfl⟩
   case round=>
    obtain ⟨k,m,C,rfl,rfl⟩:=hrel;by_cases g:k<l.length
    . have c1:=d k g;have n:=f k g;have s:(((l.getD k 0:Nat):Int) != ((l.getD k 0:Nat):Int))=Z0:=(by simp);generalize l.getD k 0=x at c1 n s;clear d f;go_wp2;go_quiet (fail);go_wp2;go_roundw
      case rel=>exact ⟨k+1,_,by omega,by go_num,rfl⟩
      case measure=>simp [intOf];omega
    . go_wp2;go_ret;exact ⟨rfl,_,rfl⟩
def eI (h:w.grownBy w' (Z3 b)) (i:Nat) (v:ZY):w.grownBy (w'.setCell ⟨b,i,Z4⟩ v) (Z3 b):=
 ⟨h.os,h.tape,h.output,by rw [Yr];exact h.size,λk c a=>by
  rw [Ud _ _ _ _ (by intro e;exact a (by rw [e]))];exact h.block k c a⟩
def sY {r:Option Nat} (h:w.grownBy w' r) (n:Nat):w.grownBy (w'.drewN n) r:=
 ⟨h.os,h.tape,h.output,h.size,h.block⟩
def gw {r:Option Nat} (h:w.grownBy w' r) (k:w'.grownBy w'' r):w.grownBy w'' r:=
 ⟨k.os.trans h.os,k.tape.trans h.tape,k.output.trans h.output,TU h.size k.size,λj b a=>(k.block j (TZ b h.size) a).trans (h.block j b a)⟩
def gx (h:ZX B w0 w) (c:w.grownBy w' (Z3 b)) (a:B<=w.heap.size) (e:B<=b):ZX B w0 w':=
 h.grown c a (λk d=>by simp at d;omega)
def DN (h:w.ownsRow base 39 1 v n xs) (c:w.grownBy w' (Z3 b)) (a:v.ownBlock≠Z3 b):w'.ownsRow base 39 1 v n xs:=
 h.kept c (.inr a)
theorem ez.wrote (h:ez w base v L) {i:Nat} (hi:i<L.length) {a:a8} (f:w.grownBy w' (Z3 L[i].1)) (t:aI w' L[i].1 a) (r:a.length=L[i].2.2.length) (u:∀ x∈a,x<256) :
 ez w' base v (L.set i (L[i].1,L[i].2.1,a)):=by
 have s:=TY hi;obtain ⟨g,k,y,z,A⟩:=h.row _ s;have o:(L.set i (L[i].1,L[i].2.1,a)).map fP=L.map fP:=by
  apply Vb
  . simp
  . intro j m n;simp [Wj];by_cases e:i=j
    . subst e;simp [fP,r]
    . simp [e]
 have l:(L.set i (L[i].1,L[i].2.1,a)).map (λp=>p.1)=L.map (λp=>p.1):=by
  apply Vb
  . simp
  . intro j m n;simp [Wj];by_cases e:i=j
    . subst e;simp
    . simp [e]
 refine ⟨?_,λp c=>?_,by rw [l];exact h.nodup⟩
 . rw [o,VY];exact DN h.own f (pD h.own k)
 . obtain ⟨j,b,rfl⟩:=XB.1 c;rw [VY] at b;rw [Wj];by_cases e:i=j
   . rw [TT e];exact ⟨g,t,by show L[i].2.1<=a.length;omega,⟨by show L[i].2.1<=140737488355328;omega,by show a.length<=9223372036854775807;omega⟩,u⟩
   . rw [TS e];obtain ⟨b1,b2,b3⟩:=h.row _ (TY b);refine ⟨b1,b2.grown f ?_,b3⟩;intro q;simp at q;have c:=V0.1 h.nodup;rcases Ys e with d|d
     . exact c i j (by simpa using hi) (by simpa using b) d (by simp [q])
     . exact c j i (by simpa using b) (by simpa using hi) d (by simp [q])
def ez.SZ (h:ez w base v L) {i:Nat} (hi:i<L.length):Bs w (fP L[i]) (L[i].2.2.take L[i].2.1):=by
 obtain ⟨e,a,b,c,d⟩:=h.row _ (TY hi);exact Bs.Sq a b c.1 d
def mi (w:ZZ) (n:Nat) (a:n=w.heap.size) (x:ZY) (t:TypeId):∀ j u,[x][j]?=Z3 u->(w.alloc (.cells #[x] t)).cell? ((⟨n,0,Z4⟩:Addr).add j)=Z3 u:=by
 subst a;exact Yt _ _ _
def ez.TK {o:Obj} (h:ez w base v T) (e:ZX w.heap.size w w1) (r:base<=w.heap.size) (s:w.heap.size<=b) (d:aI w1 b l) (g:m=l.length) (i:n<=l.length) (hl:l.length<=140737488355328) (k:∀ x∈l,x<256)
 (f:(w1.alloc o).grownBy w2 v.ownBlock) (a:w2.ownsRow base 39 1 v' (T.length+1) (T.map fP++[Z7 (Z3 ⟨b,0,Z4⟩) n m])):ez w2 base v' (T++[(b,n,l)]):=by
 subst g;have c:=(h.below e).alloc o;refine c.push f (p:=(b,n,l)) a ⟨by show base<=b;omega,d.alloc o,i,⟨by show n<=140737488355328;omega,by show l.length<=9223372036854775807;omega⟩,k⟩ ?_;intro q j;have:=(h.row q j).2.1.lt;show q.1≠b;omega
def dK {o:Obj} (h:ez w B v T) (b:ZX B w0 w) (a:ZX w.heap.size w w1) (d:B<=w.heap.size) (e:(w1.alloc o).grownBy w2 v.ownBlock):ZX B w0 w2:=by
 have c:=b.trans (a.mono d);have:=a.size;refine (c.alloc (by omega) o).grown e (by rw [Uh];omega) ?_;intro k f;exact (h.own.lt k f).1
def xr (c:Nat) (l:a8):a8:=l.map (λx=>x^^^c)
def rN (c k:Nat) (l:a8):a8:=(YF l.length).map λj=>if j<k then l.getD j 0^^^c else l.getD j 0
theorem G5 (c:Nat) (l:a8):rN c 0 l=l:=by
 unfold rN;apply Vb
 . simp
 . intro j b a;simp [a]
theorem J8 (c:Nat) (l:a8):rN c l.length l=xr c l:=by
 unfold rN xr;apply Vb
 . simp
 . intro j a b;simp at a;simp [a]
def J9 (c k:Nat) (l:a8):(rN c k l).length=l.length:=by simp [rN]
def Ka (c k:Nat) (l:a8) (a:k<l.length):(rN c k l).getD k 0=l.getD k 0:=by simp [rN,a]
theorem G6 (c k:Nat) (l:a8):(rN c k l).set k (l.getD k 0^^^c)=rN c (k+1) l:=by
 unfold rN;apply Vb
 . simp
 . intro j b d;simp [Wj];by_cases e:k=j
   . subst e;simp
   . simp only [TS e];by_cases a:j<k
     . rw [TT a,TT (by omega)]
     . rw [TS a,TS (by omega)]
def SA2 (wo:ZZ) (b c:Nat) (l:a8) (i:ZY) (wr:ZZ):Prop:=
 ∃ k:Nat,k<=l.length/\i=Z8 Z9 k/\wo.grownBy wr (Z3 b)/\aI wr b (rN c k l)
def Rd (w:ZZ) (v:ZY) (D:List a8):Prop:=
 ∃ ao c,v=.slice ao D.length c/\D.length<=5864062014805/\(D≠[]->∃ b off,ao=Z3 ⟨b,off,Z4⟩/\∀ i (hi:i<D.length),∃ u,w.cell? ⟨b,off+i,Z4⟩=Z3 u/\Bs w u D[i])
def Bs.lt (h:Bs w v l):∀ x∈l,x<256:=by
 obtain ⟨_,_,_,_,_,a,_⟩:=h;exact a
def Rd.mono (h:Rd w v D) (a:ZX w.heap.size w w'):Rd w' v D:=by
 obtain ⟨ao,c,f,g,j⟩:=h;refine ⟨ao,c,f,g,λl=>?_⟩;obtain ⟨b,off,e,m⟩:=j l;refine ⟨b,off,e,λi hi=>?_⟩;obtain ⟨u,d,k⟩:=m i hi;exact ⟨u,by rw [a.cell (Ub d)];exact d,k.mono a⟩
def Rd.cases (h:Rd w v D):(D=[]/\∃ ao c,v=.slice ao 0 c)\/∃ b off c,v=Z7 (Z3 ⟨b,off,Z4⟩) D.length c/\D.length<=5864062014805/\∀ i (hi:i<D.length),∃ u,w.cell? ⟨b,off+i,Z4⟩=Z3 u/\Bs w u D[i]:=by
 obtain ⟨ao,c,a,e,f⟩:=h;by_cases d:D=[]
 . subst d;exact .inl ⟨rfl,ao,c,a⟩
 . obtain ⟨b,off,rfl,g⟩:=f d;exact .inr ⟨b,off,c,a,e,g⟩
theorem aI.heap (h:aI w b l):w.heap[b]?=Z3 (.cells (l.map (λx=>Value.int .u8 ((x:Nat):Int))).toArray 5 (0,0)):=by
 obtain ⟨c,d,f,e⟩:=h;have:c=(l.map (λx=>Value.int .u8 ((x:Nat):Int))).toArray:=by
  apply XZ
  . simp [f]
  . intro i a g;have:=e i (by omega);rw [VM a] at this;simp [vb] at this;have hi:i<l.length:=(by omega);simp [this,hi]
 rw [<- this];exact d
def aI.of_heap (h:w.heap[b]?=Z3 (.cells (l.map (λx=>Value.int .u8 ((x:Nat):Int))).toArray 5 (0,0))):aI w b l:=
 ⟨_,h,by simp,λi hi=>by simp [vb,hi]⟩
def wT {rest:List ZU} {a:ZT} {Q:ZV->ZT->ZZ->Prop} (r:o.guard=Z4) (d s:Operand)
 (ho:o.op=.call { callee:=.builtin .copy,args:=#[d,s],argTypes:=#[39,39] }) (g n cap:Nat) (v:ZY) (hd:a.eval d=Z7 (Z3 ⟨g,0,Z4⟩) n cap) (hs:a.eval s=v)
 (old src:a8) (hB:aI w g old) (hS:Bs w v src) (h9:src.length<=n) (hn:n<=old.length) (B:Nat) (w0:ZZ) (hb:ZX B w0 w) (h5:B<=g)
 (h:∀ w',aI w' g (src++old.drop src.length)->ZX B w0 w'->wpList ZS ops Q rest (a.put o.dst (goInt src.length)) w'):wpList ZS ops Q (o::rest) a w:=by
 obtain ⟨ao,c,rfl,A,C,D,m⟩:=hS;refine abL r d s 39 39 ho 5 Ul (by kernel_rfl) (Z3 ⟨g,0,Z4⟩) ao n cap src.length c hd hs g 0 _ 5 hB.heap (src.map (λx=>Value.int .u8 ((x:Nat):Int))) ?_ ?_ ?_ ?_ B w0 hb h5 ?_
 . rw [T9];show src.length=min src.length n;omega
 . intro k;rw [T9] at k;obtain ⟨b,off,rfl,y⟩:=m (by intro e;rw [e] at k;simp at k);refine ⟨rfl,_,rfl,λj u i=>?_⟩;have f:j<src.length:=by
    have:=Va.1 i;obtain ⟨q,_⟩:=this;simpa using q
   rw [Vr,y j f];simp [f] at i;simp [f,i]
 . simp;omega
 . intro u z;obtain ⟨x,_,rfl⟩:=T7.1 z;rfl
 . intro w' t p;have e:(splice (old.map (λx=>Value.int .u8 ((x:Nat):Int))) 0 (src.map (λx=>Value.int .u8 ((x:Nat):Int))))=(src++old.drop src.length).map (λx=>Value.int .u8 ((x:Nat):Int)):=by
    simp [splice]
   have l:=t.out;rw [e] at l;rw [T9];exact h w' (aI.of_heap l) p
def DO (l:a8):l++(YE (l.length+2) 0).drop l.length=l++[0,0]:=by
 rw [X1,WN];rfl
def Kb (l:a8):((l++[0,0]).set l.length 71).set (l.length+1) 72=l++[71,72]:=by
 rw [abM _ _ lR,abM _ _ (by omega)];simp
theorem G7 (v:ZY) (l:a8) (w:ZZ) (h:Bs w v l) (hl:l.length<=1000000) :
 ZW ZS 37 #[v] w λe w'=>∃ b,e=Z6 (Z7 (Z3 ⟨b,0,Z4⟩) l.length (l.length+2))/\w.heap.size<=b/\aI w' b (l++[71,72])/\ZX w.heap.size w w':=by
 have n:=h;obtain ⟨ao,c,rfl,f,g,i,j⟩:=h;clear f g i j;go_enter func37,ntmps37;go_wp2_with (first
  | (at_make;refine cQ _ rfl (.tmp 8) (.tmp 8) rfl _ (l.length+2) rfl rfl (by omega) (by omega) ?_;intro w1 m d o;clear o)
  | (refine wT rfl (.tmp 10) (.tmp 11) rfl w.heap.size (l.length+2) (l.length+2) _ rfl rfl _ l m (n.mono d) (by omega) (by simp) w.heap.size w d lR ?_;intro w2 a k;rw [DO] at a;have c1:=a.cell l.length (by simp);have p:=a.cell (l.length+1) (by simp);have q:=a.frozen l.length;have r:=a.frozen (l.length+1)))
 go_ret;refine ⟨w.heap.size,rfl,TV _,?_,?_⟩
 . have:=(a.set l.length 71).set (l.length+1) 72;rw [Kb] at this;exact this
 . exact (k.setCell (by simp) _).setCell (by simp) _
theorem G8 (b:Nat) (vb:ZY) (l:a8) (w:ZZ) (g:aI w b (l++[71,72])) (o:Bs w vb l) (hl:l.length<=1000000) :
 ZW ZS 39 #[Z7 (Z3 ⟨b,0,Z4⟩) l.length (l.length+2),vb] w λe w'=>e=Z6 (.bool Z1)/\w.grownBy w' (Z3 b)/\aI w' b (xr 85 (l++[71,72])):=by
 have z:=o.lt;have i:(l++[71,72]).length=l.length+2:=by simp
 have t:Bs w (Z7 (Z3 ⟨b,0,Z4⟩) l.length (l.length+2)) l:=by
  have:=Bs.Sq (n:=l.length) g (by simp) (by omega) (by intro x d;rcases Uj.1 d with q|q;exact z x q;simp at q;omega);rw [i,List.take_left'] at this;exact this;rfl
 have c1:=g.cell l.length (by simp);have p:=g.cell (l.length+1) (by simp);have r:(l++[71,72]).getD l.length 0=71:=by simp
 have s:(l++[71,72]).getD (l.length+1) 0=72:=by simp
 rw [r] at c1;rw [s] at p;have u:=o;have d:∀ x∈l++[71,72],x<256:=by intro x d;rcases Uj.1 d with q|q;exact z x q;simp at q;omega
 obtain ⟨ao,c,rfl,A,B,C,D⟩:=o;clear A B C D r s;generalize hL:l++[71,72]=L at *;go_enter func39,ntmps39;go_wp2_with fail;refine (FV _ _ l _ t u).mono ?_;rintro e w1 ⟨rfl,m,rfl⟩;clear t u hL;have h:=ak i;clear i;go_wp2;clear c1 p;go_loopw [8] (λj wr=>SA2 w b 85 L j wr) (λj _=>L.length-(intOf j).toNat)
 case atStart=>exact ⟨0,T5 _,rfl,sY (Ws _ _) _,by rw [G5];exact g⟩
 case round=>
  obtain ⟨j,H,rfl,k,a⟩:=hrel;have J:j<=l.length+2:=by rw [<- h.out];exact H
  by_cases F:j<l.length+2
  . have v:j<L.length:=(by rw [h.out];exact F);have d1:=a.cell j (by rw [J9];exact v);have I:=a.frozen j;rw [Ka 85 j L v] at d1;have G:=dw d j;have f:=a.set j (L.getD j 0^^^85);rw [G6] at f;have E:=eI k j (Z8 .u8 ((L.getD j 0^^^85:Nat):Int));have hi:bits .xor .u8 ((L.getD j 0:Nat):Int) 85=((L.getD j 0^^^85:Nat):Int):=lx (L.getD j 0) 85 G (by decide);generalize L.getD j 0=x at *;clear a k;go_wp2;go_roundw
    case rel=>exact ⟨j+1,by omega,by go_num,E,f⟩
    case measure=>simp [intOf];omega
  . have y:j=L.length:=(by rw [h.out];omega);have f:aI wr b (xr 85 L):=(by rw [y,J8] at a;exact a);clear a y;go_wp2;go_ret;exact ⟨rfl,k,f⟩
def ez.Sj (h:ez w base (Z7 (Z3 ⟨g,0,Z4⟩) n cap) L) {i:Nat} (hi:i<L.length):w.cell? ⟨g,i,Z4⟩=Z3 (fP L[i]):=by
 have:=h.own.cells (g:=g) rfl i (fP L[i]) (by simp [hi]);rw [jC] at this;exact this
def ez.slice (h:ez w base v L):∃ ao cap,v=.slice ao L.length cap/\(L≠[]->∃ g,ao=Z3 ⟨g,0,Z4⟩):=by
 rcases h.shape with ⟨rfl,rfl⟩|⟨g,cap,rfl,_⟩
 . exact ⟨Z4,0,rfl,λh=>absurd rfl h⟩
 . exact ⟨_,cap,rfl,λ_=>⟨g,rfl⟩⟩
def zq (a:ZT) (i:Nat) (v:ZY) (h:i<a.tmps.size):(a.put (Z3 i) v).eval (.tmp i)=v:=by simp [Act.put,Act.eval,h]
def ly (a:ZT) (i j:Nat) (v:ZY) (h:i≠j):(a.put (Z3 i) v).eval (.tmp j)=a.eval (.tmp j):=by
 simp [Act.put,Act.eval,Vs,h]
def nU (a:ZT) (d:Option Nat) (v:ZY):(a.put d v).tmps.size=a.tmps.size:=by
 cases d<;>simp [Act.put]
structure ef (lo hi:Nat) (a a':ZT):Prop where
 size:a'.tmps.size=a.tmps.size
 defers:a'.defers=a.defers
 slot:∀ s,s<lo\/hi<=s->a'.eval (.tmp s)=a.eval (.tmp s)
def ef.refl (lo hi:Nat) (a:ZT):ef lo hi a a:=⟨rfl,rfl,λ_ _=>rfl⟩
def ef.put {a a':ZT} (h:ef lo hi a a') {d:Option Nat} (v:ZY) (b:∀ i,d=Z3 i->lo<=i/\i<hi):ef lo hi a (a'.put d v):=by
 cases d with
 | none=>exact h
 | some d=>
  obtain ⟨e,f⟩:=b d rfl;exact ⟨by rw [nU];exact h.size,h.defers,λs c=>by rw [ly _ _ _ _ (by omega)];exact h.slot s c⟩
def Act.RQ (a:ZT):Nat->List ZY->ZT
 | _,[]=>a
 | d,v::r=>Act.RQ (a.put (Z3 d) v) (d+1) r
def j7:∀ (b:List ZY) (a:ZT) (d:Nat),(Act.RQ a d b).tmps.size=a.tmps.size/\(Act.RQ a d b).defers=a.defers
 | [],_,_=>⟨rfl,rfl⟩
 | v::r,a,d=>by
  obtain ⟨c,e⟩:=j7 r (a.put (Z3 d) v) (d+1);exact ⟨c.trans (nU _ _ _),e⟩
def j8:∀ (b:List ZY) (a:ZT) (d s:Nat),d+b.length<=a.tmps.size->(Act.RQ a d b).eval (.tmp s)=if d<=s/\s<d+b.length then b.getD (s-d) Z5 else a.eval (.tmp s)
 | [],a,d,s,_=>by
  show a.eval (.tmp s)=if d<=s/\s<d+0 then _ else _;rw [TS (by omega)]
 | v::r,a,d,s,h=>by
  simp only [UD] at h ⊢;show (Act.RQ (a.put (Z3 d) v) (d+1) r).eval (.tmp s)=_;rw [j8 r _ _ _ (by rw [nU];omega)];by_cases e:s=d
  . subst e;rw [TS (by omega),TT (by omega),WK,zq _ _ _ (by omega)];rfl
  . rw [ly _ _ _ _ (λq=>e q.symm)];by_cases c:d+1<=s/\s<d+1+r.length
    . rw [TT c,TT (by omega),show s-d=(s-(d+1))+1 by omega];rfl
    . rw [TS c,TS (by omega)]
theorem FW {a b:ZT} (c:a.tmps.size=b.tmps.size) (d:a.defers=b.defers) (f:∀ s,s<a.tmps.size->a.eval (.tmp s)=b.eval (.tmp s)):a=b:=by
 obtain ⟨k,h⟩:=a;obtain ⟨l,j⟩:=b;simp only at c d;subst d;congr 1;refine XZ c λi e g=>?_;have:=f i e;simpa [Act.eval,e,g] using this
def ef.out {a a':ZT} (h:ef lo hi a a') (b:List ZY) (hl:lo+b.length=hi) (g:hi<=a.tmps.size) (c:∀ i,i<b.length->a'.eval (.tmp (lo+i))=b.getD i Z5):a'=Act.RQ a lo b:=by
 obtain ⟨d,f⟩:=j7 b a lo;refine FW (h.size.trans d.symm) (h.defers.trans f.symm) λs _=>?_;rw [j8 b a lo s (by omega)];by_cases e:lo<=s/\s<lo+b.length
 . rw [TT e];have:=c (s-lo) (by omega);rwa [show lo+(s-lo)=s by omega] at this
 . rw [TS e];exact h.slot s (by omega)
def sZ (ops:Array ZU) (i:Nat):a8:=match ops[i]? with
 | some o=>(o.after.toList.filter (λe=>Region.binds .any e)).map (λe=>e.on)
 | none=>[]
theorem pE:i∈Region.ready .any ops listed↔i<ops.size/\listed.getD i Z1=Z0/\∀ k∈sZ ops i,listed.getD k Z0=Z1:=by
 unfold Region.ready sZ;rw [Vt,Uu,XC];constructor
 . rintro ⟨b,c,a⟩;refine ⟨b,by simpa using c,λk f=>?_⟩;rw [VM b] at a f;simp only [WO,YM] at a;rw [T7] at f;obtain ⟨e,d,rfl⟩:=f;obtain ⟨h,j⟩:=Vt.1 d;have:=YN.1 a e (by simpa using h);simpa [j] using this
 . rintro ⟨b,c,a⟩;refine ⟨b,by simpa using c,?_⟩;rw [VM b] at a ⊢;simp only [WO,YM];rw [YN];intro e d;by_cases g:Region.binds .any e=Z1
   . have:=a e.on (T7.2 ⟨e,Vt.2 ⟨by simpa using d,g⟩,rfl⟩);simp [this]
   . simp [g]
def j9 (listed:Array Bool):Nat:=(listed.toList.filter (λb=>!b)).length
theorem DP (h:listed.getD i Z1=Z0):j9 (listed.setIfInBounds i Z1)+1=j9 listed:=by
 have hi:i<listed.size:=by
  by_cases c:i<listed.size
  . exact c
  . simp [Vs,c] at h
 unfold j9;rw [Yu];have a:listed.toList[i]?=Z3 Z0:=by
  simp [Vs,hi] at h;simp [hi,h]
 generalize listed.toList=l at a;clear h hi;induction l generalizing i with
 | nil=>simp at a
 | cons b l ih=>
  cases i with
  | zero=>
   simp at a;subst a;simp
  | succ i=>
   simp at a;have:=ih a;cases b<;>simp [Uc]<;>omega
def lz (h:j9 listed=0) (i:Nat) (hi:i<listed.size):listed.getD i Z0=Z1:=by
 unfold j9 at h;have a:=Xb.1 h;rw [abH] at a;have:=a listed[i] (by simp);simpa [Vs,hi] using this
def gdz (a:α) (l:List α) (d:α):(a::l).getD 0 d=a:=rfl
def gds (a:α) (l:List α) (n:Nat) (d:α):(a::l).getD (n+1) d=l.getD n d:=rfl
def iX (d:Option Nat) (a:ZT):ZY:=match d with
 | some d=>a.eval (.tmp d)
 | none=>Z5
structure bD (ops:Array ZU) (lo hi:Nat) (sh:List (Op×Option Nat×a8)):Prop where
 at_:(YF ops.size).map (λi=>((ops[i]?.map λo=>(o.op,o.dst,o.guard)),sZ ops i))=sh.map (λx=>(Z3 (x.1,x.2.1,Z4),x.2.2))
 early:∀ i,i<sh.length->∀ k∈(sh.getD i (.move (.const Z5),Z4,[])).2.2,k<i
 slots:∀ i j d,i<sh.length->j<sh.length->(sh.getD i (.move (.const Z5),Z4,[])).2.1=Z3 d->(lo<=d/\d<hi)/\((sh.getD j (.move (.const Z5),Z4,[])).2.1=Z3 d->i=j)
def aag (lo hi:Nat) (sh:List (Op×Option Nat×a8)):Bool:=(YF sh.length).all λi=>(sh.getD i (.move (.const Z5),Z4,[])).2.2.all (λk=>decide (k<i))&&match (sh.getD i (.move (.const Z5),Z4,[])).2.1 with
 | none=>Z1
 | some d=>decide (lo<=d)&&decide (d<hi)&&(YF sh.length).all λj=>(sh.getD j (.move (.const Z5),Z4,[])).2.1 != Z3 d || i==j
def eQ (c:(YF ops.size).map (λi=>((ops[i]?.map λo=>(o.op,o.dst,o.guard)),sZ ops i))=sh.map (λx=>(Z3 (x.1,x.2.1,Z4),x.2.2))) (a:aag lo hi sh=Z1):bD ops lo hi sh:=by
 unfold aag at a;rw [Xc] at a;refine ⟨c,λi b k h=>?_,λi j d b g f=>?_⟩
 . have:=a i (Uu.2 b);rw [XC,Xc] at this;exact Wy (this.1 k h)
 . have:=(XC.1 (a i (Uu.2 b))).2;rw [f] at this;simp only [XC,Wt,Xc] at this;refine ⟨this.1,λe=>?_⟩;have q:=this.2 j (Uu.2 g);rw [e] at q;simpa using q
def bD.size (h:bD ops lo hi sh):ops.size=sh.length:=by
 have:=Uy YG h.at_;simpa using this
def bD.get (h:bD ops lo hi sh) (i:Nat) (hi:i<sh.length) :
 ∃ o,ops[i]?=Z3 o/\o.op=(sh.getD i (.move (.const Z5),Z4,[])).1/\o.dst=(sh.getD i (.move (.const Z5),Z4,[])).2.1/\o.guard=Z4/\sZ ops i=(sh.getD i (.move (.const Z5),Z4,[])).2.2:=by
 have j:=h.size;have:=Uy (λl=>l[i]?) h.at_;have a:i<ops.size:=by omega
 simp only [UA,VP a,WO,Ua hi,UF,Xd,Wi] at this;obtain ⟨⟨o,b,c,d,f⟩,g⟩:=this;have e:sh.getD i (.move (.const Z5),Z4,[])=sh[i]:=by simp [hi]
 rw [e];exact ⟨o,b,c,d,f,g⟩
def mj (D:Nat->Bool) (i:Nat):Nat->Bool:=λj=>if j=i then Z1 else D j
def gJ {D:Nat->Bool} (h:j≠i):mj D i j=D j:=TS h
abbrev dQ (sh:List (Op×Option Nat×a8)) (i:Nat):Op×Option Nat×a8:=sh.getD i (.move (.const Z5),Z4,[])
def Kc (O:ZU->ZT->ZZ->(ZT->ZZ->Prop)->Prop) (lo hi:Nat) (sh:List (Op×Option Nat×a8)) (a0:ZT) (V:Nat->ZY->ZZ->Prop) (B:(Nat->Bool)->ZZ->Prop) (i:Nat):Prop:=
 ∀ (o:ZU) (a:ZT) (w:ZZ) (D:Nat->Bool),o.guard=Z4->o.op=(dQ sh i).1->o.dst=(dQ sh i).2.1->ef lo hi a0 a->(∀ s,(∀ i,i<sh.length->(dQ sh i).2.1≠Z3 s)->a.eval (.tmp s)=a0.eval (.tmp s))->D i=Z0->(∀ j,D j=Z1->j<sh.length/\∀ k∈(dQ sh j).2.2,D k=Z1) ->
  (∀ k∈(dQ sh i).2.2,D k=Z1)->B D w->(∀ j,D j=Z1->V j (iX (dQ sh j).2.1 a) w) ->
  O o a w λa' w'=>∃ v,a'=a.put o.dst v/\(o.dst=Z4->v=Z5)/\B (mj D i) w'/\V i v w'/\∀ j u,D j=Z1->V j u w->V j u w'
theorem G9 {Q:ZT->ZZ->Prop} (O:ZU->ZT->ZZ->(ZT->ZZ->Prop)->Prop) (W:Nat->Array Bool->ZT->ZZ->Prop) (Y:∀ l a w,Region.ready .any ops l=[]->Q a w->W 0 l a w)
 (hS:∀ f l a w,Region.ready .any ops l≠[]->(∀ i∈Region.ready .any ops l,∃ o,ops[i]?=Z3 o/\o.guard=Z4/\O o a w (W f (l.setIfInBounds i Z1)))->W (f+1) l a w) (hO:∀ o a w (K L:ZT->ZZ->Prop),(∀ a w,K a w->L a w)->O o a w K->O o a w L)
 (x:bD ops lo hi sh) (p:ZT) (hz:hi<=p.tmps.size) (V:Nat->ZY->ZZ->Prop) (B:(Nat->Bool)->ZZ->Prop) (hf:∀ i,i<sh.length->Kc O lo hi sh p V B i)
 (hn:∀ (a:ZT) (w:ZZ),ef lo hi p a->(∀ s,(∀ i,i<sh.length->(dQ sh i).2.1≠Z3 s)->a.eval (.tmp s)=p.eval (.tmp s))->(∃ D,(∀ i,i<sh.length->D i=Z1)/\B D w)->(∀ i,i<sh.length->V i (iX (dQ sh i).2.1 a) w)->Q a w) :
 ∀ (f:Nat) (listed:Array Bool) (a:ZT) (w:ZZ),listed.size=sh.length->j9 listed=f->ef lo hi p a->(∀ s,(∀ i,i<sh.length->(dQ sh i).2.1≠Z3 s)->a.eval (.tmp s)=p.eval (.tmp s))->(∀ j,listed.getD j Z0=Z1->j<sh.length/\∀ k∈(dQ sh j).2.2,listed.getD k Z0=Z1)->B (λj=>listed.getD j Z0) w ->
  (∀ i,listed.getD i Z0=Z1->V i (iX (dQ sh i).2.1 a) w)->W f listed a w:=by
 have k6:=x.size;have h7:∀ listed:Array Bool,listed.size=sh.length->j9 listed≠0->Region.ready .any ops listed≠[]:=by
  intro listed hl y hr;have hh:∀ i,i<sh.length->listed.getD i Z0=Z1:=by
   intro i;induction i using Nat.strongRecOn with
   | ind i ih=>
    intro c;by_cases g:listed.getD i Z0=Z1
    . exact g
    . exfalso;have z:i∈Region.ready .any ops listed:=pE.2 ⟨by omega,by simpa [Vs,show i<listed.size by omega] using g,λk n=>by
       obtain ⟨o,_,_,_,_,e⟩:=x.get i c;rw [e] at n;have:=x.early i c k n;exact ih k this (by omega)⟩
      rw [hr] at z;cases z
  apply y;unfold j9;rw [Xb,abH];intro b hb;obtain ⟨i,c,rfl⟩:=UT hb;have k0:i<listed.size:=by simpa using c
  have:=hh i (by omega);simp [Vs,k0] at this;simp [this]
 intro f;induction f with
 | zero=>
  intro listed a w hl y n F H J G;refine Y _ _ _ ?_ (hn a w n F ⟨_,λi c=>lz y i (by omega),J⟩ λi c=>G i (lz y i (by omega)));rw [acb];intro i z;obtain ⟨Z,r,_⟩:=pE.1 z;have:=lz y i (by omega);simp [Vs,show i<listed.size by omega] at this r;rw [this] at r;cases r
 | succ f ih=>
  intro listed a w hl y n F H J G;refine hS _ _ _ _ (h7 listed hl (by omega)) λi z=>?_;obtain ⟨Z,r,P⟩:=pE.1 z;have c:i<sh.length:=by omega
  have S:i<listed.size:=by omega
  obtain ⟨o,U,X,A,M,N⟩:=x.get i c;have hv:listed.getD i Z0=Z0:=by simpa [Vs,S] using r
  have E:∀ j,(listed.setIfInBounds i Z1).getD j Z0=mj (λj=>listed.getD j Z0) i j:=by
   intro j;unfold mj;by_cases m:j=i
   . subst m;rw [TT rfl];simp [Vs,S]
   . rw [TS m,Vs,abK,TS (λq:i=j=>m q.symm),<- Vs]
  refine ⟨o,U,M,hO _ _ _ _ _ (λa' w' h=>?_) (hf i c o a w (λj=>listed.getD j Z0) M X A n F hv H (λk t=>?_) J G)⟩
  . obtain ⟨v,rfl,hu,hq,hx,k5⟩:=h;have R:∀ d,o.dst=Z3 d->lo<=d/\d<hi:=λd g=>by rw [A] at g;exact (x.slots i i d c c g).1
    refine ih _ _ _ (by simpa using hl) (by have:=DP r;omega) (n.put v R) (λs T=>?_) (λj I=>?_) ?_ λj u=>?_
    . refine X2 ?_ (F s T);cases g:o.dst with
      | none=>rfl
      | some d=>exact ly _ _ _ _ (λe=>T i c (by rw [show (dQ sh i).2.1=o.dst from A.symm,g,e]))
    . rw [E] at I;unfold mj at I;by_cases m:j=i
      . subst m;refine ⟨c,λk t=>?_⟩;rw [E];unfold mj;by_cases C:k=j
        . rw [TT C]
        . rw [TS C];rw [<- N] at t;exact P k t
      . rw [TS m] at I;obtain ⟨q1,q2⟩:=H j I;refine ⟨q1,λk t=>?_⟩;rw [E];unfold mj;by_cases C:k=i
        . rw [TT C]
        . rw [TS C];exact q2 k t
    . have e:(λj=>(listed.setIfInBounds i Z1).getD j Z0)=mj (λj=>listed.getD j Z0) i:=funext E;rw [e];exact hq
    . rw [E] at u;unfold mj at u;by_cases m:j=i
      . subst m;have:iX (dQ sh j).2.1 (a.put o.dst v)=v:=by
         show iX (sh.getD j (.move (.const Z5),Z4,[])).2.1 (a.put o.dst v)=v;rw [<- A];cases g:o.dst with
         | none=>exact (hu g).symm
         | some d=>exact zq _ _ _ (TZ (R d g).2 (by rw [n.size];exact hz))
        rw [this];exact hx
      . rw [TS m] at u;have:iX (dQ sh j).2.1 (a.put o.dst v)=iX (dQ sh j).2.1 a:=by
         cases hy:(dQ sh j).2.1 with
         | none=>rfl
         | some d'=>
          cases g:o.dst with
          | none=>rfl
          | some d=>
           refine ly _ _ _ _ λq=>m ?_;subst q;rw [A] at g;exact (x.slots j i d (H j u).1 c hy).2 g
        rw [this];exact k5 j _ u (G j u)
  . exact P k (by rw [N];exact t)
theorem wU {Q:ZT->ZZ->Prop} (O:ZU->ZT->ZZ->(ZT->ZZ->Prop)->Prop) (W:Nat->Array Bool->ZT->ZZ->Prop) (m:∀ l a w,Region.ready .any ops l=[]->Q a w->W 0 l a w)
 (v:∀ f l a w,Region.ready .any ops l≠[]->(∀ i∈Region.ready .any ops l,∃ o,ops[i]?=Z3 o/\o.guard=Z4/\O o a w (W f (l.setIfInBounds i Z1)))->W (f+1) l a w) (u:∀ o a w (K d:ZT->ZZ->Prop),(∀ a w,K a w->d a w)->O o a w K->O o a w d)
 (g:bD ops lo hi sh) (b:ZT) (w0:ZZ) (q:hi<=b.tmps.size) (V:Nat->ZY->ZZ->Prop) (B:(Nat->Bool)->ZZ->Prop) (t:B (λ_=>Z0) w0) (n:∀ i,i<sh.length->Kc O lo hi sh b V B i)
 (p:∀ (a:ZT) (w:ZZ),ef lo hi b a->(∀ s,(∀ i,i<sh.length->(dQ sh i).2.1≠Z3 s)->a.eval (.tmp s)=b.eval (.tmp s))->(∃ D,(∀ i,i<sh.length->D i=Z1)/\B D w)->(∀ i,i<sh.length->V i (iX (dQ sh i).2.1 a) w)->Q a w):W ops.size (YH ops.size Z0) b w0:=by
 have r:=g.size;have c:∀ i,(YH ops.size Z0).getD i Z0=Z0:=λi=>by
  simp only [Vs,acd];split<;>rfl
 refine G9 O W m v u g b q V B n p _ _ b w0 (by simp [r]) ?_ (ef.refl _ _ _) (λ_ _=>rfl) (λj k=>?_) ?_ λi h=>?_
 . unfold j9;simp
 . rw [c] at k;cases k
 . have e:(λj=>(YH ops.size Z0).getD j Z0)=λ_=>Z0:=funext c;rw [e];exact t
 . rw [c] at h;cases h
def NA (P:Program) (Q:ZV->ZT->ZZ->Prop):=Kc λo a w K=>o.wp P a w K Q
def td {Q:ZV->ZT->ZZ->Prop} (u:P.follows .mixedOrders=Z1) (r:bD ops lo hi sh) (b:ZT) (w0:ZZ) (p:hi<=b.tmps.size)
 (V:Nat->ZY->ZZ->Prop) (B:(Nat->Bool)->ZZ->Prop) (t:B (λ_=>Z0) w0.drew) (g:∀ i,i<sh.length->NA P Q lo hi sh b V B i)
 (n:∀ (a:ZT) (w:ZZ),ef lo hi b a->(∀ s,(∀ i,i<sh.length->(dQ sh i).2.1≠Z3 s)->a.eval (.tmp s)=b.eval (.tmp s))->(∃ D,(∀ i,i<sh.length->D i=Z1)/\B D w)->(∀ i,i<sh.length->V i (iX (dQ sh i).2.1 a) w)->Q .normal a w):(Code.region m ops Z1).wp P Q b w0:=
 wp_region_any u (wU (λo a w K=>o.wp P a w K Q) (wpAny P .any ops Q) (λ_ _ _ h q=>⟨h,q⟩) (λf l a w j k=>⟨λe=>absurd e j,λi hi=>by
  obtain ⟨o,c,d,h⟩:=k i hi;unfold wpOp;rw [c];show if Region.wanted o (yielded ops a.tmps)=Z1 then _ else _;rw [TT (by simp [Region.wanted,d])];exact .inl h⟩) (λo a w K v h=>Oper.wp_mono h) r b _ p V B t g n)
def Ke (P:Program) (Q:ZV->ZT->ZZ->Prop) (lo hi:Nat) (sh:List (Op×Option Nat×a8)) (a0:ZT) (V:Nat->ZY->ZZ->Prop) (B:(Nat->Bool)->ZZ->Prop) (i:Nat):Prop:=
 ∀ (o:ZU) (a:ZT) (w:ZZ) (D:Nat->Bool),o.guard=Z4->o.op=(dQ sh i).1->o.dst=(dQ sh i).2.1->ef lo hi a0 a->D i=Z0->(∀ j,D j=Z1->j<sh.length/\∀ k∈(dQ sh j).2.2,D k=Z1) ->
  (∀ k∈(dQ sh i).2.2,D k=Z1)->B D w->(∀ j,D j=Z1->V j (iX (dQ sh j).2.1 a) w) ->
  o.wp P a w (λa' w'=>∃ v,a'=a.put o.dst v/\(o.dst=Z4->v=Z5)/\B (mj D i) w'/\V i v w'/\∀ j u,D j=Z1->V j u w->V j u w') Q
def gj {Q:ZV->ZT->ZZ->Prop} (n:P.follows .mixedOrders=Z1) (k:bD ops lo hi sh) (b:ZT) (w0:ZZ) (j:hi<=b.tmps.size)
 (V:Nat->ZY->ZZ->Prop) (B:(Nat->Bool)->ZZ->Prop) (l:B (λ_=>Z0) w0.drew) (c:∀ i,i<sh.length->Ke P Q lo hi sh b V B i)
 (h:∀ (a:ZT) (w:ZZ),ef lo hi b a->(∀ s,(∀ i,i<sh.length->(dQ sh i).2.1≠Z3 s)->a.eval (.tmp s)=b.eval (.tmp s))->(∃ D,(∀ i,i<sh.length->D i=Z1)/\B D w)->(∀ i,i<sh.length->V i (iX (dQ sh i).2.1 a) w)->Q .normal a w):(Code.region m ops Z1).wp P Q b w0:=
 td n k b w0 j V B l (λi hi o a w D d e f g _=>c i hi o a w D d e f g) h
def gX {Q:ZV->ZT->ZZ->Prop} (l:P.follows .mixedOrders=Z1) (j:bD ops lo hi sh) (b:ZT) (w0:ZZ) (h:hi<=b.tmps.size)
 (V:Nat->ZY->ZZ->Prop) (B:(Nat->Bool)->ZZ->Prop) (k:B (λ_=>Z0) w0.drew) (c:∀ i,i<sh.length->Ke P Q lo hi sh b V B i)
 (g:∀ (a:ZT) (w:ZZ),ef lo hi b a->(∃ D,(∀ i,i<sh.length->D i=Z1)/\B D w)->(∀ i,i<sh.length->V i (iX (dQ sh i).2.1 a) w)->Q .normal a w):(Code.region m ops Z1).wp P Q b w0:=
 gj l j b w0 h V B k c λa w d _ e f=>g a w d e f
def aJ {Q:ZV->ZT->ZZ->Prop} {a:ZT} {B:ZZ->Prop} {S:ZZ->Prop} (e:(execOp a.eval o).run P w=.ok (.value v) w') {d:Nat} (c:o.dst=Z3 d) (h:B w'/\Vi v w'/\S w') :
 o.wp P a w (λb w'=>∃ v,b=a.put o.dst v/\(o.dst=Z4->v=Z5)/\B w'/\Vi v w'/\S w') Q:=by
 unfold Oper.wp;rw [e];exact ⟨v,rfl,λh=>(by rw [c] at h;cases h),h⟩
def FX {Q:ZV->ZT->ZZ->Prop} {a:ZT} {B:ZZ->Prop} {S:ZZ->Prop} (c:(execOp a.eval o).run P w=.ok .skip w') (h:B w'/\Vi Z5 w'/\S w') :
 o.wp P a w (λb w'=>∃ v,b=a.put o.dst v/\(o.dst=Z4->v=Z5)/\B w'/\Vi v w'/\S w') Q:=by
 unfold Oper.wp;rw [c];exact ⟨Z5,rfl,λ_=>rfl,h⟩
def r9 {Q:ZV->ZT->ZZ->Prop} {a:ZT} {Rr:Ending->ZZ->Prop} {B:ZZ->Prop} {S:ZZ->Prop} (k:(execOp a.eval o).run P w=.ok (.enter f args) w1) {d:Nat} (i:o.dst=Z3 d) (g:ZW P f args w1 Rr)
 (h:∀ e w',Rr e w'->∃ v,e=Z6 v/\B w'/\Vi v w'/\S w'):o.wp P a w (λb w'=>∃ v,b=a.put o.dst v/\(o.dst=Z4->v=Z5)/\B w'/\Vi v w'/\S w') Q:=by
 unfold Oper.wp;rw [k];refine g.mono λe w' j=>?_;obtain ⟨v,rfl,c⟩:=h e w' j;exact ⟨v,rfl,λh=>(by rw [i] at h;cases h),c⟩
def bS {a:ZT} (ho:o.op=.move x) (b:a.eval x=v) (w:ZZ):(execOp a.eval o).run P w=.ok (.value v) w:=by simp [execOp,ho,b]
theorem kl {a:ZT} {ad:Addr} (ho:o.op=.nilCheck x) (b:a.eval x=.pointer (Z3 ad)) (w:ZZ):(execOp a.eval o).run P w=.ok (.value (.pointer (Z3 ad))) w:=by simp only [execOp,ho,b];go_simp
def kq {D:Nat->Bool} {V:Nat->ZY->Prop}:∀ j u,D j=Z1->V j u->V j u:=λ_ _ _ q=>q
def lA (a:Array TypeId) (b:TypeId) (x y:Int) (w:ZZ):(Builtin.max_ a b #[Z8 Z9 x,Z8 Z9 y]).run P w=.ok (Z8 Z9 (if y>x then y else x)) w:=by
 simp [Builtin.max_,Builtin.max2]
def gy (a:Array TypeId) (b:TypeId) (x y:Int) (w:ZZ):(Builtin.min_ a b #[Z8 Z9 x,Z8 Z9 y]).run P w=.ok (Z8 Z9 (if y<x then y else x)) w:=by
 simp [Builtin.min_,Builtin.min2]
def te {a:ZT} {s t:Operand} {ats:Array TypeId} (ho:o.op=.call { callee:=.builtin .max,args:=#[s,t],argTypes:=ats }) {x y:Int} (hx:a.eval s=Z8 Z9 x) (hy:a.eval t=Z8 Z9 y) (w:ZZ) :
 (execOp a.eval o).run P w=.ok (.value (Z8 Z9 (if y>x then y else x))) w:=by
 unfold execOp;simp only [ho,resolve,invoke,builtin,Ux,Vf,UM,V3,UG,Vg,hx,hy,lA]
def DA:Code->Nat->Option (Array ZU)
 | .region i ops _,n=>if i=n then Z3 ops else Z4
 | .seq a b,n=>(DA a n).orElse λ_=>DA b n
 | .cond _ a b,n=>(DA a n).orElse λ_=>DA b n
 | .block _ a,n=>DA a n
 | .loop a,n=>DA a n
 | .scope a,n=>DA a n
 | .rangeFunc _ _ a b,n=>(DA a n).orElse λ_=>DA b n
 | _,_=>Z4
structure bj (B:Nat) (w w':ZZ):Prop where
 os:w'.os=w.os
 tape:w'.tape=w.tape
 output:w'.output=w.output
 size:w.heap.size<=w'.heap.size
 block:∀ k,B<=k->k<w.heap.size->w'.heap[k]?=w.heap[k]?
def bj.refl (B:Nat) (w:ZZ):bj B w w:=⟨rfl,rfl,rfl,TV _,λ_ _ _=>rfl⟩
def bj.trans {b c:ZZ} (h:bj B a b) (k:bj B b c):bj B a c:=
 ⟨k.os.trans h.os,k.tape.trans h.tape,k.output.trans h.output,TU h.size k.size,λi d e=>(k.block i d (by have:=h.size;omega)).trans (h.block i d e)⟩
def bj.mono {B':Nat} (h:bj B w w') (c:B<=B'):bj B' w w':=⟨h.os,h.tape,h.output,h.size,λk b a=>h.block k (by omega) a⟩
def bj.RM (h:ZX w.heap.size w w'):bj B w w':=⟨h.os,h.tape,h.output,h.size,λk _ a=>h.block k a⟩
def bj.setCell (h:bj B a w) {p:Addr} (d:p.block<B\/a.heap.size<=p.block) (u:ZY):bj B a (w.setCell p u):=
 ⟨h.os,h.tape,h.output,by have:=h.size;simpa [World.setCell] using this,λk b c=>(Wk _ _ _ _ (by omega)).trans (h.block k b c)⟩
def bj.putObj (h:bj B a w) {l:Nat} (d:l<B\/a.heap.size<=l) (o:Obj):bj B a (w.putObj l o):=
 ⟨h.os,h.tape,h.output,by have:=h.size;have:=(Xe w l o).size;omega,λk b c=>(US (by omega)).trans (h.block k b c)⟩
def Below.RR (h:ZX B a w) {l:Nat} (b:B<=l) (hl:l<w.heap.size) (o:Obj):ZX B a (w.putObj l o):=
 h.grown (Xe w l o) (by omega) (λk e=>by cases e;exact b)
def bj.keeps {C:Nat} (h:bj B w w') (c:B<=C):KeepsFrom C w w':=
 ⟨h.size,λk o b a _=>(h.block k (by omega) (TX.1 a).1).trans a⟩
def cj (h:ZW P f args w R) (k:∀ e w',R e w'->R' e w') :
 Fence.wide.fn f/\(Fence.wide.depth.isSome=Z1->1<=n)/\CallsIn Fence.wide m P f args w R':=
 ⟨trivial,λh=>(by cases h),Vc.2 (h.mono k)⟩
def eR {l:Nat} (h:ZW P f args w R) (k:∀ e w',R e w'->R' e w') :
 (Fence.wide.inRound l).fn f/\((Fence.wide.inRound l).depth.isSome=Z1->1<=n)/\CallsIn (Fence.wide.inRound l) m P f args w R':=
 ⟨trivial,λh=>(by cases h),abN l (Vc.2 (h.mono k))⟩
def PV (Q:ZV->ZT->ZZ->Prop):ZV->ZT->ZZ->Prop
 | .goto _,_,_=>False
 | .exit _,_,_=>False
 | e,a,w=>Q e a w
def gY {b:Frame} {a:ZT} {k:List Item} {c:Code}:step P (lone (b.atR a (.code (.scope c)::k)) cs w)=.next (lone (b.atR a (.code c::.inScope c::k)) cs w):=
 step_lone_go (by simp [stepG,stepG.exec,Frame.atR])
def tf {b:Frame} {a:ZT} {k:List Item} {c:Code}:step P (lone (b.atR a (.inScope c::k)) cs w)=.next (lone (b.atR a k) cs w):=
 step_lone_go (by simp [stepG,stepG.exec,Frame.atR])
def Kf {F:Fence} {c:Code} {Q:ZV->ZT->ZZ->Prop} {a:ZT} (h:c.wpIn F n P (PV Q) a w):(Code.scope c).wpIn F n P Q a w:=by
 intro b k cs p m o;have g:(lone (b.atR a (.code (.scope c)::k)) cs w).fenced P F:=fenced_calm m o rfl;obtain ⟨e,f,j,d,i⟩:=h b (.inScope c::k) cs p m o;cases e with
 | normal=>exact ⟨.normal,f,j,d,.head g gY (StepsIn.trans i (.one (fenced_calm m o rfl) tf))⟩
 | exit id=>exact d.elim
 | goto l=>exact d.elim
 | ret=>exact ⟨_,f,j,d,.of_steps (.one g gY) i⟩
 | panic q=>exact ⟨_,f,j,d,.of_steps (.one g gY) i⟩
 | outgrown=>exact ⟨_,f,j,d,.of_steps (.one g gY) i⟩
def PW {σ:Type} (B:Nat) (I:σ->ZZ->Prop) (s:σ) (W:ZZ):ZV->ZT->ZZ->Prop
 | .normal,_,W'=>I s W'/\bj B W W'
 | _,_,_=>False
def Ha (k:Nat):Fence.wide.room k:=λd h=>by cases h
def wV {m':Nat} {l:Nat} {tmps:Array ZY} {assign body:Code} (h:RoundIn Fence.wide m P l f tmps assign body w R):RoundIn Fence.wide m' P l f tmps assign body w R:=⟨h.1,λc cs _=>h.2 c cs (Ha _)⟩
theorem Kg (m:Nat) {α σ:Type} {g:Operand} {ps:Array Tmp} {assign body:Code} {Q:ZV->ZT->ZZ->Prop} {a:ZT} {w:ZZ}
 {gf:Nat} {lb:Array ZY} (hg:a.eval g=.func (.func gf) #[] lb) (eg:∀ args w,(callFunc gf args).run P w=.ok (.enter gf args) w)
 {encs:α->Array ZY} (k9:∀ x,(encs x).size=ps.size) (step:σ->α->σ) (F:α->Prop)
 (I:σ->ZZ->Prop) (j:∀ s A B,I s A->ZX w.heap.size A B->I s B) (S:σ->Prop) (s0:σ)
 (h6:∀ (l:Nat) (J:σ->ZZ->Prop) (W:ZZ),ZX w.heap.size w W->W.heap.size=w.heap.size+2 ->
  (∀ s A B,J s A->ZX (w.heap.size+2) A B->J s B)->(∀ s A,J s A->I s A/\w.heap.size+2<=A.heap.size) ->
  (∀ m s x b,J s b->F x->YieldAt Fence.wide m P l (encs x) b λe d=>e=Z6 (.bool Z1)/\J (step s x) d/\bj (w.heap.size+2) b d)->J s0 W ->
  CallsIn Fence.wide (n-1) P gf (#[.func (.yield l) #[] #[]]++lb) W λe d=>(∃ v,e=Z6 v)/\∃ s,S s/\J s d)
 (h0:I s0 w) (C:Nat->α->ZT->ZZ->Prop) (hs:∀ B x c A N,C B x c A->bj B A N->C B x c N)
 (h1:∀ (l:Nat) (s:σ) (x:α) (W:ZZ) (K:ZT->ZZ->Prop),I s W->F x->(∀ c d,ZX W.heap.size W d->C W.heap.size x c d->K c d) ->
  assign.wpIn (Fence.wide.inRound l) m P (Exit.then K (λ_ _ _=>False)) { tmps:=(ps.zip (encs x)).foldl (λt (p,v)=>t.setIfInBounds p v) a.tmps,defers:=[] } W)
 (h5:∀ (l B:Nat) (s:σ) (x:α) (c:ZT) (W:ZZ),w.heap.size<=l->l<B->B<=W.heap.size->(∃ r,W.heap[l]?=Z3 (.loop r))->I s W->F x->C B x c W->body.wpIn (Fence.wide.inRound l) m P (PW w.heap.size I (step s x) W) c W)
 (h7:∀ (D:Nat) (s:σ) (W:ZZ),w.heap.size<=D->S s->I s W->W.heap[D]?=Z3 (.deferred (Z3 []))->Q .normal { a with defers:={ target:=.collected D,args:=#[] }::a.defers } W) :
 (Code.rangeFunc g ps assign body).wpIn Fence.wide n P Q a w:=by
 refine wpIn_rangeFunc λfn k7=>?_;obtain ⟨rc,f⟩:∃ rc:LoopState->Loop,rc=λst=>{ state:=st,pending:=Z4,fn,tmps:=a.tmps,params:=ps,assign,body,defers:=w.heap.size }:=⟨_,rfl⟩;obtain ⟨b,u⟩:=nM ((w.alloc (.deferred (Z3 []))).alloc (.loop (rc .ready)));have U:ZX w.heap.size w b:=by rw [<- u];exact (bA w _).alloc (by simp) _
 have ka:b.heap.size=w.heap.size+2:=by rw [<- u];simp
 have hx:b.heap[w.heap.size+1]?=Z3 (.loop (rc .ready)):=by
  rw [<- u];have:=X3 (w.alloc (.deferred (Z3 []))) (.loop (rc .ready));rwa [Uq] at this
 have hv:b.heap[w.heap.size]?=Z3 (.deferred (Z3 [])):=by
  rw [<- u];exact (Wc _ _ _ (by simp)).trans (X3 w _)
 refine ⟨w.heap.size+1,[{ target:=.collected w.heap.size,args:=#[] }],b,{ target:=.fn (.func gf) lb,args:=#[.func (.yield (w.heap.size+1)) #[] #[]] },b,gf,
  #[.func (.yield (w.heap.size+1)) #[] #[]]++lb,b,?_,?_,λ_ _=>trivial,?_,λh=>(by cases h),?_⟩
 . rw [<- u,f];exact run_enterLoop_outer _ _ _ _ _
 . simp only [resolve,hg];simp [go_sem]
 . simp [invoke,go_sem,eg]
 refine (h6 (w.heap.size+1) (λs W=>I s W/\W.heap[w.heap.size+1]?=Z3 (.loop (rc .ready))/\W.heap[w.heap.size]?=Z3 (.deferred (Z3 []))) b U ka ?_ ?_ ?_ ⟨j _ _ _ h0 U,hx,hv⟩).mono ?_
 . rintro s A B ⟨hi,hl,z⟩ G;exact ⟨j _ _ _ hi (G.mono (by omega)),(G.block _ (by omega)).trans hl,(G.block _ (by omega)).trans z⟩
 . rintro s A ⟨hi,hl,_⟩;exact ⟨hi,(TX.1 hl).1⟩
 ·
  rintro m' s x W ⟨hi,hl,z⟩ Z;have y:w.heap.size+1<W.heap.size:=(TX.1 hl).1;have M:=run_yield (P:=P) (args:=encs x) hl (by rw [f];exact k9 x);rw [f] at M;refine ⟨fn,_,assign,body,M,wV (roundIn_of_wpIn (n:=m) k7 (h1 _ s x W _ hi Z ?_))⟩;clear M;intro c o E hz;have Y:=(E.block _ y).trans hl;have k6:=(E.block _ (by omega)).trans z;have R:w.heap.size+1<o.heap.size:=(TX.1 Y).1;refine ⟨_,run_beginRound Y (by rw [f]),?_⟩;obtain ⟨q,i⟩:=nM (o.putObj (w.heap.size+1) (.loop { rc .ready with state:=.busy }));have k0:ZX w.heap.size o q:=by rw [<- i];exact Below.RR (TW _ _) (by omega) R _
  have T:bj (w.heap.size+2) W q:=by
   rw [<- i];exact ((bj.RM E).trans ((bj.refl _ o).putObj (.inl (by omega)) _))
  have L:q.heap[w.heap.size+1]?=Z3 (.loop { rc .ready with state:=.busy }):=by rw [<- i];exact World.putObj_heap_same R
  have V:q.heap[w.heap.size]?=Z3 (.deferred (Z3 [])):=by rw [<- i];exact (US (by omega)).trans k6
  rw [i];refine wpIn_mono (h5 _ W.heap.size s x c q (by omega) y T.size ⟨_,L⟩ (j _ _ _ (j _ _ _ hi (E.mono (by omega))) k0) Z (hs _ _ _ _ _ hz (by rw [<- i];exact (bj.refl _ o).putObj (.inl y) _))) ?_;rintro e a3 W3 k;cases e with
  | normal=>
   obtain ⟨k8,H⟩:=k;have X:=(H.block _ (by omega) (TX.1 L).1).trans L;have k5:=(H.block _ lR (TX.1 V).1).trans V;have O:=(TX.1 X).1;have hr:=run_endRound (P:=P) Z4 X;refine ⟨_,_,hr,rfl,⟨j _ _ _ k8 (Below.RR (TW _ _) (by omega) O _),?_,(US (by omega)).trans k5⟩,?_⟩
   . rw [World.putObj_heap_same O,f];rfl
   . exact (T.trans (H.mono (by omega))).putObj (.inl (by omega)) _
  | ret=>exact k.elim
  | exit id=>exact k.elim
  | goto t=>exact k.elim
  | panic ch=>exact k.elim
  | outgrown=>exact k.elim
 ·
  rintro e W2 ⟨⟨v,rfl⟩,s,hS,hi,hl,z⟩;have y:=(TX.1 hl).1;refine ⟨Z4,_,by have:=run_endLoop (P:=P) hl (by rw [f];simp);rw [f] at this;exact this,?_⟩;exact h7 _ s _ lR hS (j _ _ _ hi (Below.RR (TW _ _) (by omega) y _)) ((US (by omega)).trans z)
def AY (b k:Nat) (a:b<65536):(bits .and .i64 ((b:Int)/2^k) 1==1)=decide (b/2^k%2=1):=by
 have h:b/2^k<2^62:=Xf (VU _ _) (Xa a (by decide));have e:=FU (b/2^k) 1 h (by decide);rw [PU] at e;have c:((b/2^k:Nat):Int)=(b:Int)/2^k:=by simp
 rw [c,show ((1:Nat):Int)=1 from rfl] at e;rw [e,Yq];simp;omega
def PX (a b k:Nat) (d:a<256) (g:k<8) (h:b/2^k%2=1) :
 bits .xor .i64 (pm a b k:Int) (wrap64 ((a:Int)*2^k))=(pm a b (k+1):Int):=by
 have c:2^k<=2^7:=U8 (by decide) (by omega);have f:a*2^k<=256*2^7:=Xg (by omega) c;have i:=Ph a b d k (by omega);have e:wrap64 ((a:Int)*2^k)=((a*2^k:Nat):Int):=by
  have:((a*2^k:Nat):Int)=(a:Int)*2^k:=by simp
  rw [<- this];unfold wrap64;omega
 rw [e,zo _ _ (by omega) (by omega)];simp only [pm,h,if_true]
def aah (a b k:Nat) (h:¬ b/2^k%2=1):(pm a b k:Int)=(pm a b (k+1):Int):=by
 simp only [pm,h,if_false]
theorem aai (k p:Nat) (b:k<=6) (a:p<65536):(if p/2^(k+8)%2=1 then p^^^(285*2^k) else p)<65536:=by
 split
 . refine V7 (n:=16) a ?_;have:2^k<=2^6:=U8 (by decide) b;omega
 . exact a
def PY (k p:Nat) (a:k<=6) (c:p<65536) (h:p/2^(k+8)%2=1) :
 bits .xor .i64 (p:Int) (wrap64 (285*2^k))=((if p/2^(k+8)%2=1 then p^^^(285*2^k) else p:Nat):Int):=by
 have b:2^k<=2^6:=U8 (by decide) a;have e:wrap64 (285*2^k)=((285*2^k:Nat):Int):=by
  have:((285*2^k:Nat):Int)=285*2^k:=by simp
  rw [<- this];unfold wrap64;omega
 rw [TT h,e,zo _ _ (by omega) (by omega)]
theorem tg (a b:Nat) (f:a<256) (z:b<256) (w:ZZ) :
 ZW ZS 49 #[Z8 .u8 a,Z8 .u8 b] w λe w'=>e=Z6 (Z8 .u8 (gm a b))/\w'=w:=by
 go_enter func49,ntmps49;go_wp2;go_loop [5,7] (λs t=>∃ k:Nat,k<=8/\s=Z8 Z9 (pm a b k)/\t=Z8 Z9 k) (λ_ t=>8-(intOf t).toNat)
 case atStart=>exact ⟨0,by decide,rfl,rfl⟩
 case round=>
  obtain ⟨k,A,rfl,rfl⟩:=hrel;have B:=Ph a b f k A;by_cases y:k<8
  . have d:=AY b k (by omega);by_cases c:b/2^k%2=1
    . rw [UZ c] at d;have i:=PX a b k f y c;clear c;go_wp2;go_round
      case rel=>exact ⟨k+1,by omega,rfl,by go_num⟩
      case measure=>simp [intOf];omega
    . rw [Vu c] at d;have r:cA (¬ b/2^k%2=1):=c;clear c;go_wp2;go_round
      case rel=>exact ⟨k+1,by omega,by rw [aah a b k r.o],by go_num⟩
      case measure=>simp [intOf];omega
  . have x:k=8:=(by omega);subst x;have m := @PN a b f z;have u:cA (rd 7 (pm a b 8)=gm a b):=m;clear m;generalize pm a b 8=p at *;go_wp2;go_loop [5,8] (λs t=>∃ j p:Nat,j<=7/\p<65536/\cA (rd j p=gm a b)/\s=Z8 Z9 p/\t=Z8 Z9 ((j+7:Nat):Int)) (λ_ t=>(intOf t).toNat)
    case atStart=>exact ⟨7,p,by decide,B,u,rfl,rfl⟩
    case round=>
     obtain ⟨j,q,C,g,n,rfl,rfl⟩:=hrel;cases j with
     | zero=>
      have hl := @bx a b f;go_wp2;go_ret;exact ⟨jZ (by have:=n.out;simp only [rd] at this;omega),rfl⟩
     | succ j=>
      have hl:=aai j q (by omega) g;have d:=AY q (j+1+7) g;have l:cA (rd j (if q/2^(j+8)%2=1 then q^^^(285*2^j) else q)=gm a b):=n.out;by_cases c:q/2^(j+8)%2=1
      . rw [show j+8=j+1+7 from rfl] at c;rw [UZ c] at d;have i:=PY j q (by omega) g c;have v:=ak i;have h:=ak hl;clear c i hl;go_wp2;go_round
        case rel=>exact ⟨j,_,by omega,h.o,l,by rw [v.o],by go_num⟩
        case measure=>simp [intOf];omega
      . have h:cA (rd j q=gm a b):=(by have:=l.out;rw [TS c] at this;exact this);rw [show j+8=j+1+7 from rfl] at c;rw [Vu c] at d;clear c hl;go_wp2;go_round
        case rel=>exact ⟨j,q,by omega,g,h,rfl,by go_num⟩
        case measure=>simp [intOf];omega
theorem AZ (a:Nat) (b:a<256) (w:ZZ) :
 ZW ZS 48 #[Z8 .u8 a] w λe w'=>e=Z6 (Z8 .u8 (gi a))/\w'=w:=by
 go_enter func48,ntmps48;go_wp2;go_loop [3] (λs=>∃ k:Nat,1<=k/\k<=256/\cA (∀ c,1<=c->c<k->gm a c≠1)/\s=Z8 Z9 k) (λs=>256-(intOf s).toNat)
 case atStart=>exact ⟨1,by decide,by decide,(λc h n=>absurd h (by omega)),rfl⟩
 case round=>
  obtain ⟨k,t,u,f,rfl⟩:=hrel;by_cases i:k<256
  . have r:(k:Int)%256=(k:Int):=(by omega);by_cases d:gm a k=1
    . have j:=GV b i d;have l:=ak j;have q:((gm a k:Int)==1)=Z1:=(by rw [d];rfl);clear j d;go_wp2_with (go_at_call 49;refine (tg a k b i _).mono ?_;rintro e w' ⟨rfl,rfl⟩);go_ret;exact ⟨jZ (by rw [<- l.o]),rfl⟩
    . have p:cA (∀ c,1<=c->c<k+1->gm a c≠1):=by
       intro c h n;by_cases e:c=k
       . rw [e];exact d
       . exact f.out c h (by omega)
      have q:((gm a k:Int)==1)=Z0:=(by rw [beq_eq_false_iff_ne];omega);clear d f;go_wp2_with (go_at_call 49;refine (tg a k b i _).mono ?_;rintro e w' ⟨rfl,rfl⟩);go_round
      case rel=>exact ⟨k+1,by omega,by omega,p,by go_num⟩
      case measure=>simp [intOf];omega
  . have m:cA (0=gi a):=by
     by_cases e:a=0
     . rw [e,Nt];exact (rfl:(0:Nat)=0)
     . have g:=sM a b e;have hl:=iu b;refine absurd g (f.out (gi a) ?_ (by omega));rcases WQ (gi a) with z|z
       . rw [z,bG] at g;exact absurd g (by decide)
       . exact z
    clear f;go_wp2;go_ret;exact ⟨jZ (by rw [<- m.out];rfl),rfl⟩
def vW (T:List (Nat×Nat×a8)) (p r:Nat):List (Nat×Nat×a8):=(T.set p (T.getD r (0,0,[]))).set r (T.getD p (0,0,[]))
def gk (T:List (Nat×Nat×a8)) (p r:Nat):(vW T p r).length=T.length:=by simp [vW]
theorem mn (T:List (Nat×Nat×a8)) (p r i:Nat) (b:p<T.length) (c:r<T.length) (hi:i<T.length) (f:i<(vW T p r).length) :
 (vW T p r)[i]=if i=r then T[p] else if i=p then T[r] else T[i]:=by
 have d:T.getD p (0,0,[])=T[p]:=by simp [b]
 have e:T.getD r (0,0,[])=T[r]:=by simp [c]
 apply UJ;rw [<- Ua f];unfold vW;rw [d,e,Xh,Xh];by_cases c1:r=i
 . subst c1;simp [c]
 . by_cases a:p=i
   . subst a;simp [b,c1,Vq c1]
   . simp [c1,a,Vq c1,Vq a,hi]
theorem FY (T:List (Nat×Nat×a8)) (p r:Nat) (b:p<T.length) (c:r<T.length):∀ x∈vW T p r,x∈T:=by
 intro x d;obtain ⟨i,hi,rfl⟩:=XB.1 d;have a:i<T.length:=by rw [gk] at hi;exact hi
 rw [mn T p r i b c a];split
 . exact TY _
 . split
   . exact TY _
   . exact TY _
theorem ez.swap (h:ez w B (Z7 (Z3 ⟨g,0,Z4⟩) n cap) T) {p r:Nat} (d:p<T.length) (f:r<T.length) :
 ez ((w.setCell ⟨g,p,Z4⟩ (fP T[r])).setCell ⟨g,r,Z4⟩ (fP T[p])) B (Z7 (Z3 ⟨g,0,Z4⟩) n cap) (vW T p r):=by
 obtain ⟨O,u⟩:=h.own;have A:∀ q∈T,q.1≠g:=λq k e=>pD h.own (h.row q k).2.1 (by rw [e];rfl);have M:∀ q∈T,aI ((w.setCell ⟨g,p,Z4⟩ (fP T[r])).setCell ⟨g,r,Z4⟩ (fP T[p])) q.1 q.2.2:=λq k=>
  ((h.row q k).2.1.other (a:=⟨g,p,Z4⟩) (A q k) _).other (a:=⟨g,r,Z4⟩) (A q k) _
 refine ⟨⟨by simp [vW],?_⟩,λq k=>?_,?_⟩
 . rcases u with ⟨L,_⟩|⟨P,v,cur,x,F,G,H,I,J,K⟩
   . simp at L
   . simp at x;obtain ⟨rfl,rfl,rfl⟩:=x;refine .inr ⟨g,cap,(cur.setIfInBounds p (fP T[r])).setIfInBounds r (fP T[p]),by rw [gk],F,?_,by rw [gk];exact H,I,by simpa using J,?_⟩
     . simp [World.setCell,VL,G]
     . rw [gk];simp only [Yu];rw [YO,YO,K];apply Vb
       . simp [vW]
       . intro i Q u;have hi:i<T.length:=(by simpa [vW] using u);rw [UQ,mn T p r i d f hi];simp only [Wj,UQ];by_cases c1:r=i
         . subst c1;simp
         . by_cases c:p=i
           . subst c;simp [c1,Vq c1]
           . simp [c1,c,Vq c1,Vq c]
 . have C:=FY T p r d f q k;obtain ⟨D,N,E⟩:=h.row q C;exact ⟨D,M q C,E⟩
 . have z:=V0.1 h.nodup;have key:∀ i j (hi:i<T.length) (l:j<T.length),i≠j->T[i].1≠T[j].1:=by
    intro i j hi l y e;rcases Ys y with t|t
    . exact z i j (by simpa using hi) (by simpa using l) t (by simpa using e)
    . exact z j i (by simpa using l) (by simpa using hi) t (by simpa using e.symm)
   refine V0.2 λi j hi l y=>?_;have o:i<T.length:=(by simpa [vW] using hi);have s:j<T.length:=(by simpa [vW] using l);rw [UQ,UQ,mn T p r i d f o,mn T p r j d f s];by_cases c1:i=r
   . rw [TT c1];by_cases c:j=r
     . omega
     . rw [TS c];by_cases b:j=p
       . rw [TT b];exact key p r d f (by omega)
       . rw [TS b];exact key p j d s (λh=>b h.symm)
   . rw [TS c1];by_cases c:i=p
     . rw [TT c];by_cases b:j=r
       . rw [TT b];exact key r p f d (by omega)
       . rw [TS b];by_cases m:j=p
         . omega
         . rw [TS m];exact key r j f s (λh=>b h.symm)
     . rw [TS c];by_cases b:j=r
       . rw [TT b];exact key i p o d c
       . rw [TS b];by_cases m:j=p
         . rw [TT m];exact key i r o f c1
         . rw [TS m];exact key i j o s (by omega)
def lB (l lp:a8) (f c j:Nat):a8:=(YF l.length).map λq=>if c<=q/\q<j then l.getD q 0^^^gm f (lp.getD q 0) else l.getD q 0
def th (l lp:a8) (f c j:Nat):(lB l lp f c j).length=l.length:=by simp [lB]
theorem DQ (l lp:a8) (f c:Nat):lB l lp f c c=l:=by
 unfold lB;apply Vb
 . simp
 . intro q b a;simp [a];omega
def Kh (l lp:a8) (f c j:Nat) (a:j<l.length):(lB l lp f c j).getD j 0=l.getD j 0:=by simp [lB,a]
theorem Hb (l lp:a8) (f c j:Nat) (b:c<=j):(lB l lp f c j).set j (l.getD j 0^^^gm f (lp.getD j 0))=lB l lp f c (j+1):=by
 unfold lB;apply Vb
 . simp
 . intro q d g;simp [Wj];by_cases e:j=q
   . subst e;simp [b]
   . simp only [TS e];by_cases a:c<=q/\q<j
     . rw [TT a,TT ⟨a.1,by omega⟩]
     . rw [TS a,TS (by omega)]
theorem NC (hl:∀ x∈l,x<256) {f:Nat} (a:f<256) (c j:Nat):∀ x∈lB l lp f c j,x<256:=by
 intro x b;obtain ⟨q,_,rfl⟩:=T7.1 b;have:=dw hl q;split
 . exact rJ this (bx _ a)
 . exact this
theorem Ki (l lp:a8) (f c W:Nat) (a:l.length=W) (j:lp.length=W) (i:∀ q,q<c->dG lp q=0):dG (lB l lp f c W)=cy (dG l) f (dG lp):=by
 funext q;show (lB l lp f c W).getD q 0=l.getD q 0^^^gm f (lp.getD q 0);by_cases d:q<W
 . by_cases b:c<=q
   . simp [lB,a,d,b]
   . have:lp.getD q 0=0:=i q (by omega);rw [this,bG,U4];simp [lB,a,d,b]
 . have e:lp.getD q 0=0:=(by simp [Vo (show lp.length<=q by omega)]);have g:l.getD q 0=0:=(by simp [Vo (show l.length<=q by omega)]);have h:(lB l lp f c W).getD q 0=0:=by
    rw [T6,Vo (by rw [th];omega)];rfl
   rw [e,g,h,bG];exact (UV 0).symm
def rO (D:List a8):Prop:=D.length<=64/\∀ i (hi:i<D.length),(D[i]).length<=64
def wd (D:List a8):Nat->Nat
 | 0=>0
 | k+1=>if wd D k<(D.getD k []).length then (D.getD k []).length else wd D k
theorem aaj (D:List a8) (i:Nat):∀ k,i<k->(D.getD i []).length<=wd D k:=by
 intro k;induction k with
 | zero=>intro h;omega
 | succ k ih=>
  intro h;unfold wd;by_cases e:i=k
  . subst e;split<;>omega
  . have:=ih (by omega);split<;>omega
def JP (W:Nat) (l:a8):a8:=l++YE (W-l.length) 0
theorem ND (W:Nat) (l:a8):dG (JP W l)=dG l:=by
 funext j;unfold dG JP;by_cases a:j<l.length
 . simp [VD a,a]
 . rw [T6,U6 (WJ.1 a)];by_cases b:j-l.length<W-l.length
   . simp [b,Vo (WJ.1 a)]
   . simp [b,Vo (WJ.1 a)]
def se (W:Nat) (l:a8) (h:l.length<=W):(JP W l).length=W:=by simp [JP];omega
def PZ (W:Nat) (l:a8) (h:∀ x∈l,x<256):∀ x∈JP W l,x<256:=by
 intro x a;rcases Uj.1 a with q|q
 . exact h x q
 . have:=VJ q;omega
structure EI (w:ZZ) (B W c r:Nat) (v:ZY) (D:List a8) (T:List (Nat×Nat×a8)) (wr:ZZ):Prop where
 tab:ez wr B v T
 wid:∀ i (hi:i<T.length),T[i].2.1=W/\T[i].2.2.length=W
 rle:r<=T.length
 len:T.length=D.length
 zer:∀ i (hi:i<T.length),r<=i->∀ j,j<c->dG T[i].2.2 j=0
 tak:∀ k,cU (64-c) (nK (T.map (λp=>p.2.2)) r) c k->nf D (r+k)
 bel:ZX B w wr
 siz:B<=wr.heap.size
def EI.skip (h:EI w B W c r v D T wr) (f:c<64) (b:∀ i (hi:i<T.length),r<=i->dG T[i].2.2 c=0):EI w B W (c+1) r v D T wr:=
 { h with
  zer:=λi hi a j g=>by
   by_cases e:j=c
   . subst e;exact b i hi a
   . exact h.zer i hi a j (by omega)
  tak:=λk d=>by
   refine h.tak k ?_;have e:64-c=64-(c+1)+1:=(by omega);rw [e];refine sN (λi hi a=>?_) d;rw [UQ];exact b i (by simpa using hi) a }
theorem EI.Ts (h:EI w B W c r v D T wr) (H:c<64) (o:r<=p) (t:p<T.length) (y:dG T[p].2.2 c≠0)
 (n:ez wr' B v T') (hl:T'.length=T.length) (z:∀ i (hi:i<T'.length),T'[i].2.1=W/\T'[i].2.2.length=W)
 (m:∀ i (hi:i<T'.length),r<i->∃ f,∃ h:(if i=p then r else i)<T.length,f<256/\dG T'[i].2.2=cy (dG T[if i=p then r else i].2.2) f (dG T[p].2.2)/\dG T'[i].2.2 c=0)
 (A:ZX B w wr') (E:B<=wr'.heap.size):EI w B W (c+1) (r+1) v D T' wr' where
 tab:=n
 wid:=z
 rle:=by omega
 len:=by rw [hl];exact h.len
 zer:=λi hi u j I=>by
  obtain ⟨f,a,s,e,g⟩:=m i hi (by omega);by_cases x:j=c
  . subst x;exact g
  . rw [e];have F:=h.zer _ a (by split<;>omega) j (by omega);have G:=h.zer p t o j (by omega);show dG T[if i=p then r else i].2.2 j^^^gm f (dG T[p].2.2 j)=0;rw [F,G,bG];exact UV 0
 tak:=λk C=>by
  have e:r+1+k=r+(k+1):=by omega
  rw [e];refine h.tak (k+1) ?_;have e:64-c=64-(c+1)+1:=by omega
  rw [e];refine qQ (p:=p) (T':=T'.map (λp=>p.2.2)) ?_ ?_ (by simpa using hl) o (by simpa using t) (by rw [UQ];exact y) ?_ C
  . intro l b;obtain ⟨q,d,rfl⟩:=T7.1 b;exact (h.tab.row q d).2.2.2.2
  . intro l b;obtain ⟨q,d,rfl⟩:=T7.1 b;exact (n.row q d).2.2.2.2
  . intro i hi u;obtain ⟨f,a,s,e,g⟩:=m i (by simpa using hi) u;exact ⟨f,by simpa using a,s,by simp only [UQ];exact e,by simp only [UQ];exact g⟩
 bel:=A
 siz:=E
def EI.start (g:ez wr w.heap.size v T) (d:T.map (λp=>p.2)=D.map (λl=>(W,JP W l))) (h:∀ i (hi:i<D.length),(D[i]).length<=W) (m:ZX w.heap.size w wr) (o:w.heap.size<=wr.heap.size):EI w w.heap.size W 0 0 v D T wr:=by
 have hl:T.length=D.length:=by simpa using Uy YG d
 have c:∀ i (a:i<T.length) (b:i<D.length),T[i].2=(W,JP W D[i]):=by
  intro i a b;have:=List.getElem_of_eq d (i:=i) (by simpa using a);simpa using this
 refine ⟨g,λi hi=>?_,T5 _,hl,λ_ _ _ j n=>absurd n (Yv _),λk f=>?_,m,o⟩
 . rw [c i hi (by omega)];exact ⟨rfl,se W _ (h i (by omega))⟩
 . rw [Ui];have e:nK (T.map (λp=>p.2.2)) 0=nK D 0:=wM (by simpa using hl) (λi a b=>by
    rw [UQ];have:=c i (by simpa using a) b;rw [this];exact ND W _) 0
   rw [e] at f;exact f
def EI.done (h:EI w B W c r v D T wr) (a:W<=c):nf D r:=
 h.tak 0 (sO (λl hl=>by
  obtain ⟨q,b,rfl⟩:=T7.1 hl;obtain ⟨i,hi,rfl⟩:=XB.1 b;rw [(h.wid i hi).2];exact a))
def RC (w:ZZ) (W:Nat) (v:ZY) (D:List a8) (rv cv:ZY) (wr:ZZ):Prop:=
 ∃ (r c:Nat) (T:List (Nat×Nat×a8)),c<=W/\rv=Z8 Z9 (r:Nat)/\cv=Z8 Z9 (c:Nat)/\EI w w.heap.size W c r v D T wr
def RP (T:List (Nat×Nat×a8)) (r c:Nat) (av iv:ZY):Prop:=
 ∃ k:Nat,r<=k/\k<=T.length/\iv=Z8 Z9 (k:Nat)/\((av=Z8 Z9 (-1)/\∀ i (hi:i<T.length),r<=i->i<k->dG T[i].2.2 c=0)\/∃ p:Nat,∃ hp:p<T.length,r<=p/\av=Z8 Z9 (p:Nat)/\dG T[p].2.2 c≠0)
structure EW (w:ZZ) (B W c r k:Nat) (v:ZY) (S:List (Nat×Nat×a8)) (lp:a8) (T:List (Nat×Nat×a8)) (wr:ZZ):Prop where
 tab:ez wr B v T
 len:T.length=S.length
 wid:∀ i (hi:i<T.length),T[i].2.1=W/\T[i].2.2.length=W
 old:∀ i (hi:i<T.length) (hi':i<S.length),i<=r\/k<=i->T[i]=S[i]
 new:∀ i (hi:i<T.length) (hi':i<S.length),r<i->i<k->∃ f,f<256/\dG T[i].2.2=cy (dG S[i].2.2) f (dG lp)/\dG T[i].2.2 c=0
 bel:ZX B w wr
 siz:B<=wr.heap.size
def RW (w:ZZ) (B W c r:Nat) (v:ZY) (S:List (Nat×Nat×a8)) (lp:a8) (iv:ZY) (wr:ZZ):Prop:=
 ∃ (k:Nat) (T:List (Nat×Nat×a8)),r<k/\k<=S.length/\iv=Z8 Z9 (k:Nat)/\EW w B W c r k v S lp T wr
def EW.step {S:List (Nat×Nat×a8)} {l':a8} {f:Nat} (h:EW w B W c r k v S lp T wr) (t:r<k) (b:k<T.length) (d:wr.grownBy wr' (Z3 T[k].1)) (l:aI wr' T[k].1 l') (g:l'.length=W) (q:∀ x∈l',x<256)
 (o:f<256) (n:dG l'=cy (dG T[k].2.2) f (dG lp)) (m:dG l' c=0):EW w B W c r (k+1) v S lp (T.set k (T[k].1,T[k].2.1,l')) wr':=by
 have p:=h.tab.row _ (TY b);refine ⟨h.tab.wrote b d l (by rw [g,(h.wid k b).2]) q,by rw [VY];exact h.len,λi hi=>?_,λi hi a ho=>?_,λi hi a j s=>?_,gx h.bel d h.siz p.1,TU h.siz d.size⟩
 . rw [VY] at hi;rw [Wj];by_cases e:k=i
   . rw [TT e];exact ⟨(h.wid k b).1,g⟩
   . rw [TS e];exact h.wid i hi
 . rw [VY] at hi;rw [Wj,TS (by omega)];exact h.old i hi a (by omega)
 . rw [VY] at hi;rw [Wj];by_cases e:k=i
   . subst e;rw [TT rfl];refine ⟨f,o,?_,m⟩;rw [<- h.old k hi a (.inr lR)];exact n
   . rw [TS e];exact h.new i hi a j (by omega)
def EW.keep {S:List (Nat×Nat×a8)} (h:EW w B W c r k v S lp T wr) (g:k<T.length) (d:dG T[k].2.2 c=0):EW w B W c r (k+1) v S lp T wr:=
 { h with
  old:=λi hi a ho=>h.old i hi a (by omega)
  new:=λi hi a b f=>by
   by_cases e:i=k
   . subst e;refine ⟨0,by decide,?_,d⟩;rw [py,h.old i hi a (.inr lR)]
   . exact h.new i hi a b (by omega) }
def ez.ne (h:ez w B v T) {i j:Nat} (hi:i<T.length) (c:j<T.length) (d:i≠j):T[i].1≠T[j].1:=by
 have b:=V0.1 h.nodup;intro e;rcases Ys d with a|a
 . exact b i j (by simpa using hi) (by simpa using c) a (by simpa using e)
 . exact b j i (by simpa using c) (by simpa using hi) a (by simpa using e.symm)
def ez.head (h:ez w B (Z7 (Z3 ⟨g,0,Z4⟩) n cap) T) (a:∀ i (hi:i<T.length),T[i].2.1=W/\T[i].2.2.length=W) {i:Nat} (hi:i<T.length):w.cell? ⟨g,i,Z4⟩=Z3 (Z7 (Z3 ⟨T[i].1,0,Z4⟩) W W):=by
 have:=h.Sj hi;unfold fP at this;rw [(a i hi).1,(a i hi).2] at this;exact this
def ez.byte (h:ez w B v T) (b:∀ i (hi:i<T.length),T[i].2.1=W/\T[i].2.2.length=W) {i:Nat} (hi:i<T.length) (a:c<W):w.cell? ⟨T[i].1,c,Z4⟩=Z3 (Z8 .u8 ((dG T[i].2.2 c:Nat):Int))/\dG T[i].2.2 c<256:=
 ⟨(h.row _ (TY hi)).2.1.cell c (by rw [(b i hi).2];exact a),dw (h.row _ (TY hi)).2.2.2.2 c⟩
def EI.cells (h:EI w B W c r (Z7 (Z3 ⟨g,0,Z4⟩) n cap) D T wr) (a:c<W) (i:Nat) (hi:i<T.length) :
 wr.cell? ⟨g,i,Z4⟩=Z3 (Z7 (Z3 ⟨T[i].1,0,Z4⟩) W W)/\wr.cell? ⟨T[i].1,c,Z4⟩=Z3 (Z8 .u8 ((dG T[i].2.2 c:Nat):Int))/\dG T[i].2.2 c<256:=
 ⟨h.tab.head h.wid hi,h.tab.byte h.wid hi a⟩
def EI.swap (h:EI w B W c r (Z7 (Z3 ⟨g,0,Z4⟩) n cap) D T wr) (d:B<=g) (b:r<T.length) (a:p<T.length) :
 EW w B W c r (r+1) (Z7 (Z3 ⟨g,0,Z4⟩) n cap) (vW T p r) T[p].2.2 (vW T p r) ((wr.setCell ⟨g,p,Z4⟩ (Z7 (Z3 ⟨T[r].1,0,Z4⟩) W W)).setCell ⟨g,r,Z4⟩ (Z7 (Z3 ⟨T[p].1,0,Z4⟩) W W)):=by
 have k:fP T[r]=Z7 (Z3 ⟨T[r].1,0,Z4⟩) W W:=by unfold fP;rw [(h.wid r b).1,(h.wid r b).2]
 have l:fP T[p]=Z7 (Z3 ⟨T[p].1,0,Z4⟩) W W:=by unfold fP;rw [(h.wid p a).1,(h.wid p a).2]
 have f:=h.tab.swap a b;rw [k,l] at f;refine ⟨f,rfl,λi hi=>?_,λ_ _ _ _=>rfl,λi _ _ m q=>absurd m (by omega),?_,?_⟩
 . obtain ⟨j,o,e⟩:=XB.1 (FY T p r a b _ (TY hi));rw [<- e];exact h.wid j o
 . exact (h.bel.setCell (p:=⟨g,p,Z4⟩) d _).setCell (p:=⟨g,r,Z4⟩) d _
 . rw [Yr,Yr];exact h.siz
theorem EI.Sp (h:EI w B W c r v D T wr) (q:c<64) (o:r<=p) (d:p<T.length) (m:dG T[p].2.2 c≠0)
 (a:EW w B W c r k v (vW T p r) T[p].2.2 T' wr') (x:T.length<=k):EI w B W (c+1) (r+1) v D T' wr':=by
 have t:r<T.length:=by omega
 have hl:T'.length=T.length:=by rw [a.len,gk]
 refine h.Ts q o d m a.tab hl a.wid (λi hi n=>?_) a.bel a.siz;obtain ⟨f,s,e,u⟩:=a.new i hi (by rw [gk];omega) n (by omega);have l:(if i=p then r else i)<T.length:=by split<;>omega
 refine ⟨f,l,s,?_,u⟩;rw [e];have j:i<T.length:=by omega
 have g:(vW T p r)[i]'(by rw [gk];omega)=T[if i=p then r else i]:=by
  rw [mn T p r i d t j,TS (by omega)];by_cases b:i=p
  . simp only [TT b]
  . simp only [TS b]
 rw [g]
def EW.top (a:r<T.length) (b:p<T.length) (h:EW w B W c r k v (vW T p r) T[p].2.2 T' wr):∃ d:r<T'.length,T'[r]=T[p]:=by
 have:T'.length=T.length:=by rw [h.len,gk]
 refine ⟨by omega,?_⟩;rw [h.old r (by omega) (by rw [gk];exact a) (.inl lR),mn T p r r b a a,TT rfl]
def ti {x y z:Int} (a b:Nat) (f:x=(a:Int)) (g:y=(b:Int)) (c:a<256) (d:b<256) (h:((gm a b:Nat):Int)=z) (w:ZZ) :
 ZW ZS 49 #[Z8 .u8 x,Z8 .u8 y] w λe w'=>e=Z6 (Z8 .u8 z)/\w'=w:=by
 subst f g h;exact tg a b c d w
def Kj {x:Int} (a:Nat) (c:x=(a:Int)) (b:a<256) (w:ZZ) :
 ZW ZS 48 #[Z8 .u8 x] w λe w'=>e=Z6 (Z8 .u8 ((gi a:Nat):Int))/\w'=w:=by
 subst c;exact AZ a b w
def RJ (wi:ZZ) (b:Nat) (l lp:a8) (f c W:Nat) (jv:ZY) (wr:ZZ):Prop:=
 ∃ j:Nat,c<=j/\j<=W/\jv=Z8 Z9 (j:Nat)/\wi.grownBy wr (Z3 b)/\aI wr b (lB l lp f c j)
def Kl (D:List a8) (w:ZZ) (e:Ending) (w':ZZ):Prop:=(rO D->∃ k:Nat,k<=64/\e=Z6 (Z8 Z9 k)/\nf D k)/\(¬ rO D->e=Z6 (Z8 Z9 (-1)))/\ZX w.heap.size w w'
def RR1 (D:List a8) (wv i:ZY):Prop:=∃ k:Nat,k<=D.length/\wv=Z8 Z9 (wd D k:Nat)/\i=Z8 Z9 k/\wd D k<=64/\∀ j (hj:j<D.length),j<k->(D[j]).length<=64
def RR2 (w:ZZ) (W:Nat) (D:List a8) (v i:ZY) (wr:ZZ):Prop:=
 ∃ k T,k<=D.length/\i=Z8 Z9 (k:Nat)/\ez wr w.heap.size v T/\T.map (λp=>p.2)=(D.take k).map (λl=>(W,JP W l))/\ZX w.heap.size w wr/\w.heap.size<=wr.heap.size
theorem Hc (vd:ZY) (D:List a8) (w:ZZ) (hd:Rd w vd D) :
 ZW ZS 34 #[vd] w λe w'=>Kl D w e w':=by
 obtain ⟨i0,y8,kv,yj,yk⟩:=Us Tryz.RV;by_cases ym:64<D.length
 . obtain ⟨ao,c,rfl,hl,_⟩:=hd;go_enter func34,ntmps34;go_wp2;go_ret;exact ⟨λh=>absurd h.1 (by omega),λ_=>rfl,TW _ _⟩
 by_cases kk:D=[]
 . subst kk;obtain ⟨ao,c,rfl,_⟩:=hd;go_enter func34,ntmps34;go_wp2;refine VC 1 ?_;rw [U5];go_wp2;refine VC 1 ?_;rw [U5];go_wp2;refine VC 1 ?_;rw [U5];go_wp2;go_ret;exact ⟨λ_=>⟨0,by omega,rfl,sO (T:=[]) (λl hl=>by simp at hl)⟩,λh=>absurd ⟨by simp,λi hi=>by simp at hi⟩ h,TW _ _⟩
 have xb:=ak kk;have y1:=hd.cases;rcases y1 with ⟨h0,_⟩|⟨b,off,c,rfl,hl,hc⟩
 . exact absurd h0 kk
 clear kk;have qs:∀ i (hi:i<D.length),D.getD i []=D[i]:=λi hi=>by simp [hi]
 have HC:=ak hc;have qd:=ak qs;clear hc qs;go_enter func34,ntmps34;go_wp2;go_loop [3,4] (λwv i=>RR1 D wv i) (λ_ i=>D.length-(intOf i).toNat)
 case atStart=>exact ⟨0,T5 _,rfl,rfl,T5 _,λj _ h=>absurd h (by omega)⟩
 case round=>
  obtain ⟨k,hk,rfl,rfl,yh,kf⟩:=hrel;by_cases q6:k<D.length
  . obtain ⟨u,hu,Z⟩:=HC.o k q6;obtain ⟨fo,fc,rfl,q1,U,O,q4⟩:=Z;have N:(D[k]).length<=140737488355328:=(by omega);have qc:wd D (k+1)=if wd D k<(D[k]).length then (D[k]).length else wd D k:=(by rw [<- qd.out k q6];rfl);have kj:=ak qc;by_cases A:(D[k]).length<=64
    . have qf:cA (∀ j (hj:j<D.length),j<k+1->(D[j]).length<=64):=by
       intro j hj yq;by_cases e:j=k
       . subst e;exact A
       . exact kf j hj (by omega)
      clear qc kf q1 U O q4;generalize (D[k]).length=lk at *;by_cases E:wd D k<lk
      . have I:cA (wd D (k+1)=lk):=(by rw [kj.out,TT E];exact (rfl:lk=lk));clear kj;go_wp2;go_round
        case rel=>exact ⟨k+1,by omega,by rw [I.out],by go_num,by rw [I.out];omega,qf.out⟩
        case measure=>simp [intOf];omega
      . have I:cA (wd D (k+1)=wd D k):=(by rw [kj.out,TS E];exact (rfl:wd D k=wd D k));clear kj;go_wp2;go_round
        case rel=>exact ⟨k+1,by omega,by rw [I.out],by go_num,by rw [I.out];omega,qf.out⟩
        case measure=>simp [intOf];omega
    . have HN:cA (¬ rO D):=λh=>A (h.2 k q6);clear qc kf q1 U O q4;generalize (D[k]).length=lk at *;go_wp2;go_ret;exact ⟨λh=>absurd h HN.o,λ_=>rfl,TW _ _⟩
  . have ya:k=D.length:=(by omega);have ka:rO D:=⟨by omega,λi hi=>kf i hi (by omega)⟩;have qp:∀ i (hi:i<D.length),(D[i]).length<=wd D k:=λi hi=>by
     have:=aaj D i k (by omega);rw [qd.out i hi] at this;exact this
    generalize wd D k=W at *;have xg:=ak ka;have qh:=ak qp;clear kf ya ka qp;go_wp2;go_loopw [5,6] (λv i wr=>RR2 w W D v i wr) (λ_ i _=>D.length-(intOf i).toNat)
    case atStart=>exact ⟨0,[],T5 _,rfl,ez.nil _ _,rfl,TW _ _,TV _⟩
    case round=>
     rename ZZ=>wo;obtain ⟨k2,T,yr,rfl,H,G,Q,kr⟩:=hrel;have qn:T.length=min k2 D.length:=(by simpa using Uy YG G);by_cases k6:k2<D.length
     . obtain ⟨u,hu,Z⟩:=HC.o k2 k6;have qk:=Z.mono Q;have N:=qh.out k2 k6;have hx:=Z.lt;have qo:=Yw k6;obtain ⟨fo,fc,rfl,q1,U,O,q4⟩:=Z;have qb:wo.cell? ⟨b,off+k2,Z4⟩=Z3 (.slice fo (D[k2]).length fc):=(by rw [Q.cell (Ub hu)];exact hu);have xx:T.length<=64:=(by omega);have HH:=ak G;have xn:=ak qo;clear G qn hu q1 U O q4 qo;generalize D[k2]=l at *;go_wp2_with (first
        | (at_make;refine cQ _ rfl (.tmp 51) (.tmp 51) rfl _ W rfl rfl rfl (by omega) ?_;intro w1 hB K n;clear n;have x4:=qb;rw [<- K.cell (Ub qb)] at x4)
        | (refine wT rfl (.tmp 53) (.tmp 57) rfl wo.heap.size W W _ rfl rfl _ l hB (qk.mono K) N (by simp) wo.heap.size wo K lR ?_;intro w2 P M)
        | (at_builtin;refine Wz _ rfl (.tmp 59) (.tmp 61) 85 rfl w.heap.size 39 i0 (Z7 Z4 0 0) 1 24 VQ y8 kv yj yk rfl (by decide) _ T.length (T.map fP) rfl ((H.below M).alloc _).own ⟨w2.heap.size,0,Z4⟩ 1 1 [Z7 (Z3 ⟨wo.heap.size,0,Z4⟩) W W] rfl rfl (mi _ _ rfl _ _) (by simp [Value.oneCell']) (by unfold maxLen;omega) (by omega) (by rw [Uh];have:=M.size;omega) ?_;intro v' w3 h9 h5 yb))
       have qj:aI w2 wo.heap.size (JP W l):=by
        have e:l++(YE W 0).drop l.length=JP W l:=(by rw [X1];rfl);rw [e] at P;exact P
       have xv:=ez.TK H M kr lR qj (se W l N).symm (by rw [se W l N];omega) (by rw [se W l N];omega) (PZ W l hx) h5 h9;have xy:=dK H Q M kr h5;have yf:=h5.size;have yz:=M.size;rw [Uh] at yf;have xh:cA ((T++[(wo.heap.size,W,JP W l)]).map (λp=>p.2)=(D.take (k2+1)).map (λl=>(W,JP W l))):=by
        rw [xn.out,Uv,Uv,HH.o];exact (rfl:_=_)
       clear H h9 h5 yb hB P qj K M Q qk qb x4 hx;go_wp2;go_roundw
       case rel=>exact ⟨k2+1,_,by omega,by go_num,xv,xh.out,xy,by omega⟩
       case measure=>simp [intOf];omega
     . have qx:k2=D.length:=(by omega);rw [qx,VE] at G;have z:=EI.start H G qh.out Q kr;have hs:T.length=D.length:=(by simpa using Uy YG G);rcases H.shape with ⟨rfl,h0⟩|⟨g,cap,hv,y4,y5,q0,y6,_⟩
       . exact absurd (UX (by rw [<- hs,h0];rfl)) xb.out
       rw [hs] at hv;subst hv;clear H G Q kr y5 q0 y6 qn hs qx;go_wp2;go_loopw [8,9] (λrv cv wr=>RC w W (Z7 (Z3 ⟨g,0,Z4⟩) D.length cap) D rv cv wr) (λ_ cv _=>W-(intOf cv).toNat)
       case atStart=>exact ⟨0,0,T,T5 _,rfl,rfl,z⟩
       case round=>
        clear z;rename ZZ=>wo2;obtain ⟨r,d,a,yn,rfl,rfl,z⟩:=hrel;have qz:=z.len;have yd:=z.rle;by_cases ky:d<W
        . have C:=ak z;have ki:=ak (EI.cells z ky);clear z;go_wp2;go_loop [10,11] (λav L=>RP a r d av L) (λ_ L=>a.length-(intOf L).toNat)
          case atStart=>exact ⟨r,TV _,yd,rfl,.inl ⟨rfl,λi hi A E=>absurd A (by omega)⟩⟩
          case round=>
           obtain ⟨k3,yc,yx,rfl,q8⟩:=hrel;by_cases qy:k3<a.length
           . obtain ⟨q1,U,O⟩:=ki.out k3 qy;have xk:=ak q8;clear q8;have kv:dG a[k3].2.2 d=dG a[k3].2.2 d:=rfl;have HZ:=ak kv;clear kv;by_cases n:dG a[k3].2.2 d=0
             . have HZ:=ak n;rw [n] at U;clear n O;go_wp2;go_round
               case rel=>
                refine ⟨k3+1,by omega,by omega,by go_num,?_⟩;rcases xk.out with ⟨e,A⟩|⟨p,B,A,E,h3⟩
                . refine .inl ⟨e,λi hi a1 a2=>?_⟩;by_cases e:i=k3
                  . subst e;exact HZ.o
                  . exact A i hi a1 (by omega)
                . exact .inr ⟨p,B,A,E,h3⟩
               case measure=>simp [intOf];omega
             . have y2:(((dG a[k3].2.2 d:Nat):Int) != 0)=Z1:=(by rw [bne_iff_ne];omega);have HZ:=ak n;clear n O;go_wp2;go_round
               case rel=>exact ⟨k3+1,by omega,by omega,by go_num,.inr ⟨k3,qy,yc,by go_num,HZ.o⟩⟩
               case measure=>simp [intOf];omega
           . rcases q8 with ⟨rfl,n⟩|⟨p,B,x1,rfl,q9⟩
             . have xc:=ak (C.o.skip (by omega) (λi hi hr=>n i hi hr (by omega)));clear n;go_wp2;go_roundw
               case rel=>exact ⟨r,d+1,a,by omega,rfl,by go_num,xc.out⟩
               case measure=>simp [intOf];omega
             . obtain ⟨p1,p2,p3⟩:=ki.out p B;have kp:r<a.length:=(by omega);obtain ⟨r1,_,_⟩:=ki.out r kp;have X:=C.o.swap y4 kp B;have h7:=C.o.tab.own;rw [C.o.len] at h7;have f1:=h7.frozenAt p;have f2:(wo2.setCell ⟨g,p,Z4⟩ (Z7 (Z3 ⟨a[r].1,0,Z4⟩) W W)).frozen? ⟨g,r,Z4⟩=Z0:=(World.frozen?_setCell _ _ _ _).trans (h7.frozenAt r);have c1:(wo2.setCell ⟨g,p,Z4⟩ (Z7 (Z3 ⟨a[r].1,0,Z4⟩) W W)).cell? ⟨g,r,Z4⟩=Z3 (Z7 (Z3 ⟨a[r].1,0,Z4⟩) W W):=by
                by_cases e:p=r
                . subst e;exact World.cell?_setCell_same _ _ _ r1
                . rw [abO _ _ _ _ (by intro h;injection h with A E;exact e E)];exact r1
               obtain ⟨yg,x2⟩:=EW.top kp B X;have K:=(X.tab.byte X.wid yg ky).1;rw [x2] at K;have xq:(vW a p r).length=a.length:=gk a p r;have x0:∀ q,q<d->dG a[p].2.2 q=0:=λq hq=>C.o.zer p B x1 q hq;have xj:=ak x0;have xf:=ak (λ(k:Nat) (T':List (Nat×Nat×a8)) (wr':ZZ) (h':EW w w.heap.size W d r k (Z7 (Z3 ⟨g,0,Z4⟩) D.length cap) (vW a p r) a[p].2.2 T' wr') (hk:a.length<=k)=>C.o.Sp (by omega) x1 B q9 h' hk);have kx:=ak (λ(k:Nat) (T':List (Nat×Nat×a8)) (wr':ZZ) (h':EW w w.heap.size W d r k (Z7 (Z3 ⟨g,0,Z4⟩) D.length cap) (vW a p r) a[p].2.2 T' wr')=>EW.top kp B h');have qe:=ak (C.o.wid p B).2;have xm:=ak q9;have HS:=ak X;clear h7 x2 x0 q9 X ki C;generalize vW a p r=S at *;generalize a[p]=s at *;generalize a[r].1=br at *;generalize x7:dG s.2.2 d=y at *;generalize qq:s.1=bp at *;have xp:=ak x7;have x8:=ak qq;clear x7 qq;go_wp2_with (go_at_call 48;refine (Kj y rfl p3 _).mono ?_;rintro e w' ⟨rfl,rfl⟩);go_loopw [14] (λL wr=>RW w w.heap.size W d r (Z7 (Z3 ⟨g,0,Z4⟩) D.length cap) S s.2.2 L wr) (λL _=>S.length-(intOf L).toNat)
               case atStart=>exact ⟨r+1,S,by omega,by omega,by go_num,HS.o⟩
               case round=>
                clear p1 p2 r1 f1 f2 c1 K HS;rename ZZ=>V;obtain ⟨k4,t,qa,yv,rfl,m⟩:=hrel;have yy:t.length=a.length:=(by rw [m.len];exact xq);by_cases ys:k4<a.length
                . have F:k4<t.length:=(by omega);have hh:=m.tab.head m.wid F;obtain ⟨yi,ks⟩:=m.tab.byte m.wid F ky;have h8:=m.tab.row _ (TY F);have y7:=pD m.tab.own h8.2.1;have hll:=(m.wid k4 F).2;obtain ⟨x3,kh⟩:=kx.out k4 t V m;have q7:=m.tab.ne x3 F (by omega);have kg:=m.tab.row _ (TY x3);rw [kh] at kg q7;rw [x8.out] at kg q7;have xa:=ak kg.2.1;have xi:=ak kg.2.2.2.2;have x9:=ak h8.2.1;have qi:=ak h8.2.2.2.2;have h6:=ak (λn=>m.keep F n);have qg:cA (∀ (f:Nat) (R:a8) (wr':ZZ),f<256->V.grownBy wr' (Z3 t[k4].1)->aI wr' t[k4].1 R->R.length=W->(∀ x∈R,x<256)->dG R=cy (dG t[k4].2.2) f (dG s.2.2)->dG R d=0->∃ T',EW w w.heap.size W d r (k4+1) (Z7 (Z3 ⟨g,0,Z4⟩) D.length cap) S s.2.2 T' wr'):=
                   λf R wr' hf hg hB q5 hx Y hc=>⟨_,m.step qa F hg hB q5 hx hf Y hc⟩
                  clear m h8 kg kh;generalize N:t[k4].2.2=l at *;generalize t[k4].1=bk at *;generalize x6:dG l d=x at *;have kb:gm x (gi y)<256:=bx _ ks;have ke:=nO ks p3 xm.out;generalize ko:gm x (gi y)=f at *;have ha:=ak ke;have xo:=ak x6;clear ke x6 N;by_cases km:f=0
                  . have kz:((gm x (gi y):Nat):Int)=0:=(by rw [ko,km];rfl);have x5:x=0:=(by have:=ha.out;rw [km,bK,U4] at this;exact this);have I:=ak (h6.out x5);clear km ko kb x5 h6 qg ha;have tn:(d:Int)<(W:Int):=(by omega);go_wp2_with (go_at_call 49;refine (ti x (gi y) rfl rfl ks (iu p3) kz _).mono ?_;rintro e V ⟨rfl,rfl⟩);refine VC 1 ?_;rw [U5];go_wp2;go_roundw
                    case rel=>exact ⟨k4+1,t,by omega,by omega,by go_num,I.out⟩
                    case measure=>simp [intOf];omega
                  . have y2:(((f:Nat):Int) != 0)=Z1:=(by rw [bne_iff_ne];omega);have kz:((gm x (gi y):Nat):Int)=((f:Nat):Int):=(by rw [ko]);clear km ko h6;go_wp2_with (go_at_call 49;refine (ti x (gi y) rfl rfl ks (iu p3) kz _).mono ?_;rintro e V ⟨rfl,rfl⟩);go_loopw [16] (λjv wr=>RJ V bk l s.2.2 f d W jv wr) (λjv _=>W-(intOf jv).toNat)
                    case atStart=>exact ⟨d,TV _,by omega,rfl,Ws _ _,by rw [DQ];exact x9.out⟩
                    case round=>
                     rename ZZ=>wj;obtain ⟨j,y0,yp,rfl,kc,J⟩:=hrel;have yo:=kc.cell hh y7;by_cases y9:j<W
                     . have M:=(xa.out.grown kc (by intro e;injection e with e;exact q7 e)).cell j (by rw [qe.out];exact y9);have ye:=J.cell j (by rw [th];omega);rw [Kh _ _ _ _ _ (by omega)] at ye;have z0:=J.frozen j;have P:=J.set j (l.getD j 0^^^gm f (s.2.2.getD j 0));rw [Hb _ _ _ _ _ y0] at P;have q0:=eI kc j (Z8 .u8 ((l.getD j 0^^^gm f (s.2.2.getD j 0):Nat):Int));have y3:=dw xi.out j;have z1:=lx (l.getD j 0) (gm f (s.2.2.getD j 0)) (dw qi.out j) (bx _ kb);clear J kc hh yi;generalize l.getD j 0^^^gm f (s.2.2.getD j 0)=av at *;generalize l.getD j 0=a0 at *;generalize s.2.2.getD j 0=dd at *;go_wp2_with (go_at_call 49;refine (ti f dd rfl rfl kb y3 rfl _).mono ?_;rintro e w' ⟨rfl,rfl⟩);go_region;go_wp2;go_roundw
                       case rel=>exact ⟨j+1,by omega,by omega,by go_num,sY q0 1,P⟩
                       case measure=>simp [intOf];omega
                     . have qv:j=W:=(by omega);rw [qv] at J;have Y:=Ki l s.2.2 f d W hll qe.out xj.out;have n:dG (lB l s.2.2 f d W) d=0:=by
                        rw [Y];show dG l d^^^gm f (dG s.2.2 d)=0;rw [xo.out,xp.out];exact ha.out
                       obtain ⟨T4,qm⟩:=qg.out f _ wj kb kc J (by rw [th];exact hll) (NC qi.out kb _ _) Y n;have xe:=ak qm;clear Y n qm J qv;go_wp2;go_roundw
                       case rel=>exact ⟨k4+1,T4,by omega,by omega,by go_num,xe.out⟩
                       case measure=>simp [intOf];omega
                . have xd:=ak (xf.out k4 t V m (by omega));clear m;go_wp2;go_roundw
                  case rel=>exact ⟨r+1,d+1,t,by omega,by go_num,by go_num,xd.out⟩
                  case measure=>simp [intOf];omega
        . have xz:d=W:=(by omega);have HK:=ak (z.done (by omega));have HB:=ak z.bel;clear z xz;go_wp2;go_ret;exact ⟨λ_=>⟨r,by omega,rfl,HK.o⟩,λh=>absurd xg.out h,HB.o⟩
