import Derived.WalkKit
import Derived.Test.YthibhmemkhmocaaGreatDoorRows
import Derived.ProofKit
import Derived.OpenShut
import Derived.WalkSpells
import Derived.Deep.OwnRows
import Derived.Deep.Slices
import Derived.Deep.Matrix
import Derived.Deep.MidRow
import Derived.Test.YthibhmemkhmocaaGreatDoorM01
import Derived.Laws.BitsLemmas
import Derived.Deep.QuietTactic
import Derived.BigQuiet
import Derived.Maps.AppendAt
import Derived.Laws.Bits64b
import Derived.Laws.CopyOwn
import Derived.Deep.RegionWith
import Derived.RangeFuncNested
import Derived.RangeFuncBound
import Derived.RangeFuncLeaves
import Derived.Shelf.Abstract
import Derived.Shelf.RegionOpen
import Derived.OwnWalkIn
import Derived.TacticsInMore
import Derived.LoopNIn
import Derived.LoopIn
import Derived.RegionTactic
import Derived.OrdersHeld
import Derived.BigRegion
set_option maxRecDepth 100000
set_option linter.all false
set_option maxHeartbeats 8000000
open Go.IntKind renaming i64 -> Z9
open Go.Value renaming int -> Z8, pointer -> Z7, slice -> Z6, bool -> Z3
open Go.Obj renaming cells -> Z5
open Go.Ending renaming returned -> Z4
open Go renaming undef -> Z1, World -> ZW, Value -> ZV, Calls -> ZT, Oper -> ZS, Act -> ZR
open Option renaming none -> Z0, some -> ZZ
open Bool renaming true -> ZY, false -> ZX
open Go.RowKit renaming Below -> ZU
open List renaming replicate -> YE, range -> YF, length -> YG, set_append_right -> YK, append_eq_nil_iff -> YO, take_set -> YQ, append_inj -> YR
open BitVec renaming ofInt_natCast -> YH, toNat_xor -> YI, toNat_ofNat -> YJ
open Int renaming natCast_nonneg -> YL
open Array renaming mem_toList_iff -> YM, replicate -> YP
open Bool renaming false_or -> YN
open Go.Proofs.Tryz renaming prog -> ZQ
open Go.Proofs.Tryz
namespace Go.Proofs.YthibhmemkhmocaaGreatDoor
def TW:=@Go.RowKit.Below.refl
def Uw:=@List.mem_cons
def V5:=@Nat.mod_lt
def XR:=@Nat.pow_succ
def VP:=@Nat.div_le_self
def Xo:=@Nat.div_eq_of_lt
def W5:=@List.not_mem_nil
def Vz:=@List.eq_of_mem_replicate
def Ua:=@List.length_append
def UA:=@List.length_cons
def UT:=@List.length_nil
def UX:=@List.cons_append
def Uq:=@List.nil_append
def Yn:=@List.drop_zero
def VQ:=@List.take_append_of_le_length
def UI:=@List.take_of_length_le
def W9:=@List.drop_append_of_le_length
def WQ:=@List.drop_of_length_le
def VA:=@List.drop_drop
def VR:=@Nat.mod_eq_of_lt
def XS:=@List.length_replicate
def V6:=@Go.World.rowIs.of_block
def aaT:=@Go.World.rowIs.cell
def VS:=@List.length_set
def Ub:=@List.getD_eq_getElem?_getD
def Xq:=@Go.World.rowIs_made
def T5:=@Array.getElem?_eq_some_iff
def UK:=@Go.World.ownsRow_nil
def Uv:=@List.map_append
def T9:=@List.mem_map
def UU:=@List.eq_nil_of_length_eq_zero
def VT:=@Go.wpList_plain
def XT:=@Go.run_make_row'
def Um:=@Go.Proofs.Tryz.underlying40
def Uh:=@Go.Deep.nblk_alloc
def Ud:=@Go.Deep.blk_setCell_other
def UG:=@List.getElem?_map
def U9:=@List.getElem?_eq_some_iff
def abk:=@Array.getElem?_setIfInBounds
def VC:=@Array.getElem?_modify
def Ue:=@List.length_map
def Uc:=@List.getElem?_eq_getElem
def Ut:=@Go.info_parts
def UE:=@Go.Sem.run_bind
def Ug:=@Go.Deep.blk_alloc_new
def Vp:=@Go.setRow_heap
def VJ:=@Go.Sem.run_pure
def UQ:=@Go.Result.andThen_ok
def Xa:=@Go.run_loadVar_row
def Xr:=@Go.Proofs.Tryz.underlying114
def XU:=@Go.run_storeVar_row
def aaU:=@Go.wpList_load_mid
def Ux:=@Go.IntKind.wrap_i64
def Xb:=@Nat.lt_trans
def Yo:=@Bool.eq_iff_iff
def UY:=@decide_eq_true
def Vc:=@decide_eq_false
def Uf:=@Go.block_lt_of_cell
def Uo:=@List.length_take
def UV:=@List.mem_of_mem_take
def Uj:=@Nat.zero_add
def VD:=@Go.wp_loop_rounds
def Vt:=@Go.rounds_succ
def Yp:=@Nat.sub_zero
def Yq:=@Go.wpList_append_own_at
def Va:=@Go.IntKind.wrap_u64
def aaV:=@Go.bits_or_u64_nat
def Xs:=@Nat.testBit_two_pow_sub_succ
def Xt:=@Nat.testBit_two_pow_sub_one
def Wz:=@Nat.testBit_lt_two_pow
def aaW:=@Nat.and_two_pow_sub_one_eq_mod
def Vd:=@List.take_add_one
def Vu:=@List.take_length
def Yr:=@Go.Deep.nblk_setCell
def Vb:=@List.ext_getElem
def Wf:=@List.getElem_set
def Xu:=@List.mem_iff_getElem
def VU:=@List.pairwise_iff_getElem
def Ys:=@Nat.lt_or_gt_of_ne
def Yt:=@Go.cell_one_new
def Yu:=@Array.ext
def VV:=@Array.getElem?_eq_getElem
def aaX:=@Go.wpList_copy_splice
def Vl:=@Go.Addr.add_mid
def XV:=@List.drop_replicate
def WR:=@Nat.add_sub_cancel_left
def Ws:=@Go.World.grownBy.refl
def V7:=@Go.RowKit.Below.heap_setCell
def Xc:=@Go.grownBy_putObj'
def UO:=@Go.World.putObj_heap_other
def Vm:=@Go.callsIn_wide
def XW:=@Go.World.alloc_heap_new
def Ul:=@Go.World.size_alloc
def V8:=@Go.RowKit.Below.heap_alloc
def Xv:=@Array.getD_eq_getD_getElem?
def XX:=@Nat.lt_or_ge
def XY:=@List.all_eq_true
def abl:=@Array.setIfInBounds_comm
def VK:=@Bool.and_eq_true
def VW:=@decide_eq_true_eq
def Yv:=@Bool.not_eq_true'
def Xw:=@Bool.or_eq_true
def Yw:=@Go.Region.noSelect_spec
def Wg:=@Go.Oper.semAt_plain
def Xd:=@Go.Act.put_comm
def Us:=@Go.bodyPost_ret
def WS:=@Nat.lt_of_le_of_lt
def Xe:=@Nat.mul_le_mul
def WA:=@Nat.eq_zero_or_pos
def UM:=@Option.some.inj
def Xf:=@List.getElem?_set
def aaY:=@Array.toList_setIfInBounds
def UN:=@List.getElem_map
def Vv:=@List.getElem?_append_left
def U6:=@List.getElem?_append_right
def Xx:=@Nat.not_lt_zero
def Yx:=@List.take_succ_eq_append_getElem
def WB:=@Go.wpList_append_own
def VL:=@Go.Proofs.Tryz.underlying108
def aaZ:=@Go.World.cell?_setCell_other
def XZ:=@List.drop_eq_getElem_cons
def Wh:=@List.take_append_drop
def WC:=@List.getElem?_replicate
def X1:=@List.getElem_cons_succ
def Yy:=@List.getElem?_set_self
def VM:=@List.mem_append_right
def UZ:=@List.mem_of_mem_drop
end Go.Proofs.YthibhmemkhmocaaGreatDoor
namespace Go.Proofs.YthibhmemkhmocaaGreatDoor
def nM {α:Type _} (a:α):∃ x,a=x:=⟨a,rfl⟩
def lR {n:Nat}:n<=n:=TU n
def bA (w:Go.World) (o:Go.Obj):Go.RowKit.Below w.heap.size w (w.alloc o):=(TW _ w).alloc (TU _) o
abbrev bW (w v:Go.World):Prop:=Go.RowKit.Below w.heap.size w v
def b9 (p : Prop) : Prop := p
def b9.out {p : Prop} (h : b9 p) : p := h
def b9.o {p : Prop} (h : b9 p) : p := h
open Go.RowKit Go.Deep Gf Go.Shelf
variable {a:ZR} {x:Array Bool} {ops:Array ZS} {args:Array ZV} {R R':Ending->ZW->Prop} {Q U:Exit->ZR->ZW->Prop} {f:FuncId} {D:List a8} {L T T':List (Nat×Nat×a8)} {cs:List Frame} {l l' lp:a8} {rest:List ZS} {r b n base size base' p B k j m g cap c i W s:Nat} {S:Nat->Prop} {o:ZS} {P:Program} {e:TypeId} {v v':ZV} {w w' w'' w0 w1 w2 wr wr':ZW}
def be (n:Nat):Nat->a8
 | 0=>[]
 | s+1=>n/256^s%256::be n s
def aD (n s:Nat):(be n s).length=s:=by induction s with
 | zero=>rfl
 | succ s ih=>simp [be,ih]
def qG (n s:Nat):∀ x∈be n s,x<256:=by induction s with
 | zero=>intro x a;simp [be] at a
 | succ s ih=>
  intro x a;simp only [be,Uw] at a;rcases a with rfl|a
  . exact V5 _ (by decide)
  . exact ih x a
def fR (l:a8):Nat:=l.foldl (λn x=>(n*256+x)%18446744073709551616) 0
def sG (l:a8) (x:Nat):fR (l++[x])=(fR l*256+x)%18446744073709551616:=by simp [fR]
def O7 (l:a8):fR l<18446744073709551616:=by
 rcases List.eq_nil_or_concat l with rfl|⟨l',x,rfl⟩
 . decide
 . rw [List.concat_eq_append,sG];exact V5 _ (by decide)
theorem MT (n:Nat) (e:n<18446744073709551616):∀ (s a:Nat),s<=8->a=n/256^s->(be n s).foldl (λn x=>(n*256+x)%18446744073709551616) a=n:=by
 intro s;induction s with
 | zero=>intro a _ b;simpa [be] using b
 | succ s ih=>
  intro a f b;simp only [be,W4];refine ih _ (by omega) ?_;subst b;have c:n/256^(s+1)=n/256^s/256:=by rw [XR,Nat.div_div_eq_div_mul]
  rw [c];have:n/256^s<=n:=VP _ _;generalize n/256^s=q at *;omega
def ld (n s:Nat) (a:s<=8) (h:n<256^s):fR (be n s)=n:=by
 have:(256:Nat)^s<=256^8:=UW (by decide) a;exact MT n (by omega) s 0 a (Xo h).symm
def cG:a8:=[0x00000000,0x1db71064,0x3b6e20c8,0x26d930ac,0x76dc4190,0x6b6b51f4,0x4db26158,0x5005713c,0xedb88320,0xf00f9344,0xd6d6a3e8,0xcb61b38c,0x9b64c2b0,0x86d3d2d4,0xa00ae278,0xbdbdf21c]
def dj (r:Nat):Nat:=(r/16)^^^cG.getD (r%16) 0
def dC (r b:Nat):Nat:=dj (dj (r^^^b))
def db (l:a8):Nat:=l.foldl dC 4294967295
def nE (l:a8):Nat:=4294967295-db l
def oW:∀ i,cG.getD i 0<4294967296:=by
 intro i;by_cases h:i<16
 . have:∀ j:Fin 16,cG.getD j.1 0<4294967296:=by decide
   exact this ⟨i,h⟩
 . have:cG.getD i 0=0:=by simp [cG,Vj (show ([0x00000000,0x1db71064,0x3b6e20c8,0x26d930ac,0x76dc4190,0x6b6b51f4,0x4db26158,0x5005713c,0xedb88320,0xf00f9344,0xd6d6a3e8,0xcb61b38c,0x9b64c2b0,0x86d3d2d4,0xa00ae278,0xbdbdf21c]:a8).length<=i by simp;omega)]
   omega
def gB (h:r<4294967296):dj r<4294967296:=by
 unfold dj;exact V4 (n:=32) (by omega) (oW _)
def fj (h:r<4294967296) (a:b<256):dC r b<4294967296:=
 gB (gB (V4 (n:=32) h (by omega)))
def yX:∀ (l:a8) (r:Nat),r<4294967296->(∀ x∈l,x<256)->l.foldl dC r<4294967296:=by
 intro l;induction l with
 | nil=>intro r h _;exact h
 | cons b l ih=>intro r h hl;exact ih _ (fj h (hl b (by simp))) (λx a=>hl x (by simp [a]))
def mW (h:∀ x∈l,x<256):db l<4294967296:=yX l _ (by decide) h
def yY (l:a8):nE l<4294967296:=by unfold nE;omega
inductive bE where
 | blank
 | root (D L G turn first len:Nat)
 | filled
 | shard (l:a8)
deriving DecidableEq
def bE.body:bE->a8
 | .blank=>[]
 | .root D L G t f n=>[1,D%256,L%256,G%256]++(be t 8++(be f 4++be n 4))
 | .filled=>[2]
 | .shard l=>3::(YE 15 0++l)
def eI (body:a8):a8:=be (nE (body++YE (60-body.length) 0)) 4++(body++YE (60-body.length) 0)
def bE.blk (r:bE):a8:=if r.body.length=0 then YE 64 0 else eI r.body
def bE.ok:bE->Prop
 | .blank=>True
 | .root D L G t f n=>D<256/\L<256/\G<256/\t<18446744073709551616/\f<4294967296/\n<4294967296
 | .filled=>True
 | .shard l=>l.length=44/\∀ x∈l,x<256
def ry (b:a8):bE:=
 if b.getD 4 0=1 then .root (fR [b.getD 5 0]) (fR [b.getD 6 0]) (fR [b.getD 7 0]) (fR ((b.drop 8).take 8)) (fR ((b.drop 16).take 4)) (fR ((b.drop 20).take 4))
 else if b.getD 4 0=2 then .filled else if b.getD 4 0=3 then .shard (b.drop 20) else .blank
def nF {r:bE} (h:r.ok):r.body.length<=60:=by
 cases r with
 | blank=>simp [bE.body]
 | root D L G t f n=>simp [bE.body,aD]
 | filled=>simp [bE.body]
 | shard l=>simp [bE.body,h.1]
theorem Fk {r:bE} (h:r.ok):r.blk.length=64:=by
 have:=nF h;unfold bE.blk eI;split
 . simp
 . simp [aD];omega
def rN {r:bE} (h:r.ok):∀ x∈r.body,x<256:=by
 cases r with
 | blank=>intro x a;simp [bE.body] at a
 | root D L G t f n=>
  intro x a;simp only [bE.body,Ui,Uw,W5,or_false] at a;rcases a with (rfl|rfl|rfl|rfl)|a|a|a
  . omega
  . omega
  . omega
  . omega
  all_goals exact qG _ _ x a
 | filled=>
  intro x a;simp only [bE.body,Uw,W5,or_false] at a;omega
 | shard l=>
  intro x a;simp only [bE.body,Ui,Uw] at a;rcases a with rfl|a|a
  . decide
  . have:=Vz a;omega
  . exact h.2 x a
def Gy (h:∀ x∈l,x<256):∀ x∈eI l,x<256:=by
 intro x a;unfold eI at a;simp only [Ui] at a;rcases a with a|a|a
 . exact qG _ _ x a
 . exact h x a
 . have:=Vz a;omega
theorem O8 {r:bE} (h:r.ok):∀ x∈r.blk,x<256:=by
 unfold bE.blk;split
 . intro x a;have:=Vz a;omega
 . exact Gy (rN h)
def O9 (n:Nat):be n 4=[n/256^3%256,n/256^2%256,n/256^1%256,n/256^0%256]:=rfl
def rO (x:Nat) (h:x<256):fR [x]=x:=by simp [fR];omega
theorem MU {r:bE} (h:r.ok):ry r.blk=r:=by
 cases r with
 | blank=>rfl
 | root D L G t f n=>
  obtain ⟨d,g,i,j,k,o⟩:=h;have e:bE.blk (.root D L G t f n)=eI (bE.body (.root D L G t f n)):=by unfold bE.blk;rw [TS (by simp [bE.body])]
  rw [e];unfold eI;generalize nE _=c;simp only [bE.body,O9 c,Ua,UA,UT,aD];unfold ry;simp only [UX,Uq,List.getD_cons_succ,List.getD_cons_zero,if_true,List.drop_succ_cons,Yn,Uz];have t8:∀ R:a8,(be t 8++R).take 8=be t 8:=λR=>by rw [VQ (by simp [aD])];exact UI (by simp [aD])
  have a:∀ R:a8,(be t 8++R).drop 8=R:=λR=>by rw [W9 (by simp [aD]),WQ (by simp [aD])];rfl
  have b:∀ (m:Nat) (R:a8),(be m 4++R).take 4=be m 4:=λm R=>by rw [VQ (by simp [aD])];exact UI (by simp [aD])
  have d12:∀ R:a8,(be t 8++(be f 4++R)).drop 12=R:=λR=>by
   rw [show (12:Nat)=8+4 from rfl,<- VA,a,W9 (by simp [aD]),WQ (by simp [aD])];rfl
  rw [t8,a,b,d12,b,ld t 8 (by decide) j,ld f 4 (by decide) k,ld n 4 (by decide) o];rw [rO _ (by omega),rO _ (by omega),rO _ (by omega),VR d,VR g,VR i]
 | filled=>
  have e:bE.blk .filled=eI (bE.body .filled):=by unfold bE.blk;rw [TS (by simp [bE.body])]
  rw [e];unfold eI;generalize nE _=c;simp only [bE.body,O9 c,UA,UT];unfold ry;simp
 | shard l=>
  have e:bE.blk (.shard l)=eI (bE.body (.shard l)):=by unfold bE.blk;rw [TS (by simp [bE.body])]
  rw [e];unfold eI;generalize nE _=c;have hl:=h.1;simp only [bE.body,O9 c,Ua,UA,XS,hl];unfold ry;simp [YE]
def I9 (l:a8):Option bE:=if (ry l).blk=l then ZZ (ry l) else Z0
def yZ {r:bE} (h:r.ok):I9 r.blk=ZZ r:=by unfold I9;rw [MU h,TT rfl]
def iA (h:n<=1000000000000):wrap64 (n:Int)=(n:Int):=by unfold wrap64;omega
def vb (l:a8) (i:Nat):ZV:=Z8 .u8 ((l.getD i 0:Nat):Int)
def aM (w:ZW) (b:Nat) (l:a8):Prop:=w.rowIs b 5 l.length (vb l)
def fx (p:Nat×Nat×a8):ZV:=Z6 (ZZ ⟨p.1,0,Z0⟩) p.2.1 p.2.2.length
structure eu (w:ZW) (base:Nat) (v:ZV) (L:List (Nat×Nat×a8)):Prop where
 own:w.ownsRow base 40 1 v L.length (L.map fx)
 row:∀ p∈L,base<=p.1/\aM w p.1 p.2.2/\p.2.1<=p.2.2.length/\(p.2.1<=140737488355328/\p.2.2.length<=9223372036854775807)/\∀ x∈p.2.2,x<256
 nodup:(L.map (λp=>p.1)).Nodup
def dm (h:∀ x∈l,x<256) (i:Nat):l.getD i 0<256:=by
 by_cases a:i<l.length
 . have e:l.getD i 0=l[i]:=(by simp [a]);rw [e];exact h _ (T6 a)
 . have e:l.getD i 0=0:=(by simp [Vj (show l.length<=i by omega)]);rw [e];decide
def aM.below (h:aM w b l) (a:ZU w.heap.size w w'):aM w' b l:=
 V6 h (a.block b h.lt)
def aM.cell (h:aM w b l) (i:Nat) (a:i<l.length):w.cell? ⟨b,i,Z0⟩=ZZ (Z8 .u8 ((l.getD i 0:Nat):Int)):=
 aaT h a
def aM.frozen (h:aM w b l) (i:Nat):w.frozen? ⟨b,i,Z0⟩=ZX:=World.rowIs.frozen h i
theorem aM.set (h:aM w b l) (i x:Nat):aM (w.setCell ⟨b,i,Z0⟩ (Z8 .u8 (x:Int))) b (l.set i x):=by
 have a:=World.rowIs.set h i (Z8 .u8 (x:Int));unfold aM;rw [VS];refine a.congr λj c=>?_;unfold vb;by_cases e:j=i
 . subst e;simp [c]
 . simp only [TS e];rw [Ub,Ub,List.getElem?_set_ne (λh=>e h.symm)]
def aM.other (h:aM w b l) {a:Addr} (c:b≠a.block) (v:ZV):aM (w.setCell a v) b l:=World.rowIs.setOther h c v
def aM.alloc (h:aM w b l) (o:Obj):aM (w.alloc o) b l:=World.rowIs.alloc h o
def aM.lt (h:aM w b l):b<w.heap.size:=World.rowIs.lt h
def aM.grown {row:Option Nat} (h:aM w b l) (c:w.grownBy w' row) (a:ZZ b≠row):aM w' b l:=
 V6 h (c.block b h.lt a)
theorem aM.made (w:ZW) (n:Nat):aM (w.alloc (Z5 (madeCells #[Z8 .u8 0] n) 5)) w.heap.size (YE n 0):=by
 have h:=Xq w (Z8 .u8 0) n 5;unfold aM;rw [XS];refine h.congr λi a=>?_;simp [vb,a]
def aq {xs:List ZV} (h:w.ownsRow base e size v n xs) (j:ZU w.heap.size w w'):w'.ownsRow base e size v n xs:=by
 refine ⟨h.1,?_⟩;rcases h.2 with f|⟨g,cap,cur,b,c,a,d⟩
 . exact .inl f
 . refine .inr ⟨g,cap,cur,b,c,?_,d⟩;obtain ⟨i,_⟩:=T5.1 a;rw [j.block g i];exact a
def cU {xs:List ZV} (h:w.ownsRow base e size v n xs) (f:base'<=base):w.ownsRow base' e size v n xs:=by
 refine ⟨h.1,?_⟩;rcases h.2 with c|⟨g,cap,cur,a,d,b⟩
 . exact .inl c
 . exact .inr ⟨g,cap,cur,a,by omega,b⟩
def oX {xs:List ZV} (h:w.ownsRow base 40 1 v n xs) {b:Nat} {l:a8} (i:aM w b l):v.ownBlock≠ZZ b:=by
 intro e;rcases h.2 with ⟨f,_⟩|⟨g,cap,cur,d,k,a,m⟩
 . rw [f] at e;simp [Value.ownBlock] at e
 . rw [d] at e;simp [Value.ownBlock] at e;subst e;obtain ⟨c,j,_⟩:=i;rw [j] at a;simp at a
def eu.weaken (h:eu w base v L) (c:base'<=base):eu w base' v L:=
 ⟨cU h.own c,λp d=>by obtain ⟨a,b⟩:=h.row p d;exact ⟨by omega,b⟩,h.nodup⟩
def eu.nil (w:ZW) (base:Nat):eu w base (Z6 Z0 0 0) []:=
 ⟨UK _ _ _ _,λp a=>by simp at a,by simp⟩
def eu.below (h:eu w base v L) (d:ZU w.heap.size w w'):eu w' base v L:=
 ⟨aq h.own d,λp e=>by obtain ⟨a,b,c⟩:=h.row p e;exact ⟨a,b.below d,c⟩,h.nodup⟩
def eu.alloc (h:eu w base v L) (o:Obj):eu (w.alloc o) base v L:=
 h.below (bA _ _)
def eu.push {p:Nat×Nat×a8} (h:eu w base v L) (i:w.grownBy w' v.ownBlock) (j:w'.ownsRow base 40 1 v' (L.length+1) (L.map fx++[fx p]))
 (f:base<=p.1/\aM w p.1 p.2.2/\p.2.1<=p.2.2.length/\(p.2.1<=140737488355328/\p.2.2.length<=9223372036854775807)/\∀ x∈p.2.2,x<256) (k:∀ q∈L,q.1≠p.1):eu w' base v' (L++[p]):=by
 refine ⟨by simpa using j,λq d=>?_,?_⟩
 . rcases Ui.1 d with d|d
   . obtain ⟨a,b,c⟩:=h.row q d;exact ⟨a,b.grown i (λe=>oX h.own b e.symm),c⟩
   . simp at d;subst d;exact ⟨f.1,f.2.1.grown i (λe=>oX h.own f.2.1 e.symm),f.2.2⟩
 . rw [Uv,U8];refine ⟨h.nodup,by simp,?_⟩;intro a l b g;obtain ⟨q,d,rfl⟩:=T9.1 l;simp at g;subst g;exact k q d
theorem jy (g i:Nat):(⟨g,0,Z0⟩:Addr).add i=⟨g,i,Z0⟩:=by
 unfold Addr.add;split
 . rename_i h;simp_all
 . simp
def eu.shape (h:eu w base v L):(v=Z6 Z0 0 0/\L=[])\/∃ g cap,v=Z6 (ZZ ⟨g,0,Z0⟩) L.length cap/\base<=g/\L.length<=cap/\cap<=maxLen/\g<w.heap.size/\(∀ i (c:i<L.length),w.cell? ⟨g,i,Z0⟩=ZZ (fx L[i]))/\(∀ i,w.frozen? ⟨g,i,Z0⟩=ZX)/\∀ p∈L,p.1≠g:=by
 rcases h.own.2 with ⟨k,l⟩|⟨g,cap,cur,a,d,b,f,j,o,q⟩
 . exact .inl ⟨k,UU l⟩
 . obtain ⟨m,_⟩:=T5.1 b;refine .inr ⟨g,cap,a,d,f,j,m,λi c=>?_,λi=>?_,λp n e=>?_⟩
   . have:=h.own.cells (g:=g) (by rw [a];rfl) i (fx L[i]) (by simp [c]);rw [jy] at this;exact this
   . simp [World.frozen?,b]
   . have:=oX h.own (h.row p n).2.1;rw [a] at this;exact this (by rw [e];rfl)
def Tryz.R2:(ZQ.info? 5).map (λi=>(i.zero,i.size,i.bytes))=ZZ (ZZ (Z8 .u8 0),1,1):=by kernel_rfl
def Tryz.RV:(ZQ.info? 40).map (λi=>(i.zero,i.size,i.bytes))=ZZ (ZZ (Z6 Z0 0 0),1,24):=by kernel_rfl
def cO (w:ZW) {ops:Array ZS} {rest:List ZS} {o:ZS} {a:ZR} {Q:Exit->ZR->ZW->Prop}
 (h:o.guard=Z0) (l c:Operand) (e:o.op=Op.makeSlice 40 l c) (C:Int) (n:Nat) (hl:a.eval l=Z8 Z9 C) (g:a.eval c=Z8 Z9 C) (f:C=(n:Int)) (i:n<=140737488355328)
 (hK:∀ w',aM w' w.heap.size (YE n 0)->ZU w.heap.size w w'->w'.heap.size=w.heap.size+1->wpList ZQ ops Q rest (a.put o.dst (Z6 (ZZ ⟨w.heap.size,0,Z0⟩) n n)) w') :
 wpList ZQ ops Q (o::rest) a w:=by
 refine VT h λK d=>?_;have b:=XT (P:=ZQ) 40 5 (Z8 .u8 0) 1 Um Tryz.R2 rfl .i64 .i64 n (by omega) (by omega) w;subst f;unfold Oper.wp;simp [execOp,e,hl,g,b,Result.andThen];exact d _ _ (hK _ (aM.made w n) (bA _ _) (Uh _ _))
section
structure aa (S:Nat->Prop) (w w':ZW):Prop where
 os:w'.os=w.os
 tape:w'.tape=w.tape
 output:w'.output=w.output
 size:w.heap.size<=w'.heap.size
 block:∀ k,k<w.heap.size->¬ S k->w'.heap[k]?=w.heap[k]?
def aa.refl (S:Nat->Prop) (w:ZW):aa S w w:=⟨rfl,rfl,rfl,TU _,λ_ _ _=>rfl⟩
def aa.mono {T:Nat->Prop} (h:aa S w w') (b:∀ k,k<w.heap.size->S k->T k):aa T w w':=
 ⟨h.os,h.tape,h.output,h.size,λk a c=>h.block k a (λs=>c (b k a s))⟩
def aa.trans (h:aa S w w') (a:aa S w' w''):aa S w w'':=
 ⟨a.os.trans h.os,a.tape.trans h.tape,a.output.trans h.output,TV h.size a.size,λk b c=>(a.block k (T7 b h.size) c).trans (h.block k b c)⟩
def aa.later {T:Nat->Prop} (h:aa S w w') (a:aa T w' w'') (d:∀ k,k<w.heap.size->T k->S k):aa S w w'':=
 ⟨a.os.trans h.os,a.tape.trans h.tape,a.output.trans h.output,TV h.size a.size,λk b c=>(a.block k (T7 b h.size) (λt=>c (d k b t))).trans (h.block k b c)⟩
def aa.RM (h:ZU B w w') (S:Nat->Prop) (a:∀ k,k<w.heap.size->¬ S k->k<B):aa S w w':=
 ⟨h.os,h.tape,h.output,h.size,λk b c=>h.block k (a k b c)⟩
def aa.RL (h:ZU w.heap.size w w') (S:Nat->Prop):aa S w w':=.RM h S λ_ a _=>a
def aa.below (h:aa S w w') {B:Nat} (a:∀ k,k<B->k<w.heap.size/\¬ S k):ZU B w w':=
 ⟨h.os,h.tape,h.output,h.size,λk b=>h.block k (a k b).1 (a k b).2⟩
def aa.setCell (w:ZW) (a:Addr) (v:ZV) (h:S a.block):aa S w (w.setCell a v):=
 ⟨rfl,rfl,rfl,by simp [World.setCell],λk _ b=>Ud _ _ _ _ (λe=>b (e▸h))⟩
def aa.alloc (w:ZW) (o:Obj):aa S w (w.alloc o):=.RL (bA _ _) S
def aa.drew (w:ZW):aa S w w.drew:=⟨rfl,rfl,rfl,TU _,λ_ _ _=>rfl⟩
def aR (b:Nat):∀ (a:List ZV) (o:Nat) (w:ZW) (k:Nat),k≠b->(w.setCells b o a).heap[k]?=w.heap[k]?
 | [],_,_,_,_=>rfl
 | v::r,o,w,k,h=>by
  show ((w.setCell ⟨b,o,Z0⟩ v).setCells b (o+1) r).heap[k]?=_;rw [aR b r _ _ k h];exact Ud _ _ _ _ (by exact h)
def jj (b:Nat):∀ (a:List ZV) (o:Nat) (w:ZW),(w.setCells b o a).heap.size=w.heap.size
 | [],_,_=>rfl
 | v::r,o,w=>by
  show ((w.setCell ⟨b,o,Z0⟩ v).setCells b (o+1) r).heap.size=_;rw [jj b r];simp [World.setCell]
def jk (b:Nat):∀ (a:List ZV) (o:Nat) (w:ZW),(w.setCells b o a).os=w.os/\(w.setCells b o a).tape=w.tape/\(w.setCells b o a).output=w.output
 | [],_,_=>⟨rfl,rfl,rfl⟩
 | v::r,o,w=>jk b r (o+1) (w.setCell ⟨b,o,Z0⟩ v)
def aa.setCells (w:ZW) (b o:Nat) (a:List ZV) (h:S b):aa S w (w.setCells b o a):=by
 obtain ⟨c,d,f⟩:=jk b a o w;exact ⟨c,d,f,by rw [jj];exact TU _,λk _ g=>aR b a o w k (λe=>g (e▸h))⟩
theorem fD {t:Nat}:∀ (a:List ZV) (o:Nat) (w:ZW) (f:Nat->ZV),w.rowIs b t n f ->
 (w.setCells b o a).rowIs b t n (λk=>if o<=k/\k<o+a.length then a.getD (k-o) Z1 else f k)
 | [],o,w,f,h=>h.congr λi g=>by
  show f i=if o<=i/\i<o+0 then _ else f i;rw [TS (by omega)]
 | v::r,o,w,f,h=>by
  have d:=fD r (o+1) _ _ (h.set o v);refine World.rowIs.congr d λk j=>?_;simp only [UA];by_cases e:k=o
  . subst e;rw [TS (by omega),TT rfl,TT (by omega),W0];rfl
  . by_cases c:o+1<=k/\k<o+1+r.length
    . rw [TT c,TT (by omega),show k-o=(k-(o+1))+1 by omega];rfl
    . rw [TS c,TS e,TS (by omega)]
structure eJ where
 n:Nat
 nb:Nat
 lost:Nat->Bool
 bad:Nat->Nat->Bool
 blk:Nat->Nat->a8
structure aK where
 g:Nat
 cap:Nat
 bb:Nat->Nat
 bd:Nat->Nat
 S:Nat->Prop
def MV (f:Nat->a8) (k:Nat):ZV:=Z8 .u8 (((f (k/64)).getD (k%64) 0:Nat):Int)
def Pa (R:eJ) (F:aK) (cs:Array ZV) (i:Nat):Prop:=cs[i*4]?=ZZ (Z3 (R.lost i))/\cs[i*4+1]?=ZZ (Z6 (ZZ ⟨F.bb i,0,Z0⟩) R.nb R.nb)/\cs[i*4+2]?=ZZ (Z6 (ZZ ⟨F.bd i,0,Z0⟩) R.nb R.nb)/\∃ r,cs[i*4+3]?=ZZ (Z8 Z9 r)
structure ah (X:ZW) (p:Nat) (R:eJ) (F:aK):Prop where
 top:X.heap[p]?=ZZ (Z5 #[Z6 (ZZ ⟨F.g,0,Z0⟩) R.n F.cap,Z8 Z9 (-1)] 75 (0,0))
 drv:∃ cs,X.heap[F.g]?=ZZ (Z5 cs 79 (0,0))/\∀ i,i<R.n->Pa R F cs i
 blk:∀ i,i<R.n->X.rowIs (F.bb i) 114 (64*R.nb) (MV (R.blk i))
 bad:∀ i,i<R.n->X.rowIs (F.bd i) 4 R.nb (λj=>Z3 (R.bad i j))
 inj:∀ i j,i<R.n->j<R.n->(F.bb i=F.bb j->i=j)/\(F.bd i=F.bd j->i=j)
 S:∀ k,F.S k↔k=p\/k=F.g\/∃ i,i<R.n/\(k=F.bb i\/k=F.bd i)
 n:R.n<=1000
 nb:R.nb<=1000000
 len:∀ i j,(R.blk i j).length=64/\∀ x∈R.blk i j,x<256
variable {X Y:ZW} {p:Nat} {R:eJ} {F:aK}
def ah.sp (h:ah X p R F):F.S p:=(h.S p).2 (.inl rfl)
def ah.sg (h:ah X p R F):F.S F.g:=(h.S _).2 (.inr (.inl rfl))
def ah.sb (h:ah X p R F) {i:Nat} (a:i<R.n):F.S (F.bb i):=(h.S _).2 (.inr (.inr ⟨i,a,.inl rfl⟩))
def ah.sd (h:ah X p R F) {i:Nat} (a:i<R.n):F.S (F.bd i):=(h.S _).2 (.inr (.inr ⟨i,a,.inr rfl⟩))
def ah.RN (h:ah X p R F) {k:Nat} (c:F.S k):k<X.heap.size:=by
 rcases (h.S k).1 c with rfl|rfl|⟨i,a,rfl|rfl⟩
 . exact (T5.1 h.top).1
 . obtain ⟨cs,b,_⟩:=h.drv;exact (T5.1 b).1
 . exact (h.blk i a).lt
 . exact (h.bad i a).lt
def ah.keep (h:ah X p R F) (b:∀ k,F.S k->Y.heap[k]?=X.heap[k]?):ah Y p R F:=by
 obtain ⟨cs,c,d⟩:=h.drv;exact ⟨(b _ h.sp).trans h.top,⟨cs,(b _ h.sg).trans c,d⟩,λi a=>(h.blk i a).of_block (b _ (h.sb a)),λi a=>(h.bad i a).of_block (b _ (h.sd a)),h.inj,h.S,h.n,h.nb,h.len⟩
def ah.below (h:ah X p R F) {B:Nat} (b:ZU B X Y) (a:X.heap.size<=B):ah Y p R F:=h.keep λk c=>b.block k (T7 (h.RN c) a)
def ah.alloc (h:ah X p R F) (o:Obj):ah (X.alloc o) p R F:=h.below (bA _ _) lR
def ah.apart (h:ah X p R F):p≠F.g/\(∀ i,i<R.n->F.bb i≠p/\F.bb i≠F.g/\F.bd i≠p/\F.bd i≠F.g)/\∀ i j,i<R.n->j<R.n->F.bb i≠F.bd j:=by
 obtain ⟨cs,l,_⟩:=h.drv;have k:=h.top;refine ⟨λe=>?_,λi f=>?_,λi j f m e=>?_⟩
 . rw [e,l] at k;simp at k
 . obtain ⟨c,a,_⟩:=h.blk i f;obtain ⟨d,b,_⟩:=h.bad i f;refine ⟨λe=>?_,λe=>?_,λe=>?_,λe=>?_⟩
   . rw [e,k] at a;simp at a
   . rw [e,l] at a;simp at a
   . rw [e,k] at b;simp at b
   . rw [e,l] at b;simp at b
 . obtain ⟨c,a,_⟩:=h.blk i f;obtain ⟨d,b,_⟩:=h.bad j m;rw [e,b] at a;simp at a
def ah.R4 (h:ah X p R F) (i:Nat) (c:i<R.n):X.cell? ⟨F.g,i*4,Z0⟩=ZZ (Z3 (R.lost i))/\X.cell? ⟨F.g,i*4+1,Z0⟩=ZZ (Z6 (ZZ ⟨F.bb i,0,Z0⟩) R.nb R.nb) /\
 X.cell? ⟨F.g,i*4+2,Z0⟩=ZZ (Z6 (ZZ ⟨F.bd i,0,Z0⟩) R.nb R.nb)/\∃ r,X.cell? ⟨F.g,i*4+3,Z0⟩=ZZ (Z8 Z9 r):=by
 obtain ⟨cs,a,b⟩:=h.drv;obtain ⟨d,e,f,r,j⟩:=b i c;simp only [World.cell?,a];exact ⟨d,e,f,r,j⟩
def ah.Se (h:ah X p R F) (k:Nat):X.frozen? ⟨F.g,k,Z0⟩=ZX:=by obtain ⟨cs,a,_⟩:=h.drv;simp [World.frozen?,a]
def ah.RQ (h:ah X p R F):X.cell? ⟨p,0,Z0⟩=ZZ (Z6 (ZZ ⟨F.g,0,Z0⟩) R.n F.cap)/\X.cell? ⟨p,1,Z0⟩=ZZ (Z8 Z9 (-1)):=by simp [World.cell?,h.top]
def aJ (l:a8):List ZV:=l.map λ(x:Nat)=>Value.int .u8 (x:Int)
def ah.range (h:ah X p R F) {i j:Nat} (c:i<R.n) (f:j<R.nb):X.rangeAt (F.bb i) (j*64) (aJ (R.blk i j)):=by
 intro k v a;unfold aJ at a;rw [UG,Wq] at a;obtain ⟨x,b,rfl⟩:=a;obtain ⟨d,e⟩:=U9.1 b;rw [(h.len i j).1] at d;rw [(h.blk i c).cell (i:=j*64+k) (by omega)];unfold MV;rw [show (j*64+k)/64=j by omega,show (j*64+k)%64=k by omega,Ub,b];rfl
def ah.there (h:ah X p R F) {i j:Nat} (a:i<R.n) (b:j<R.nb):X.there (F.bb i) (j*64) 64:=λk c=>by
 rw [(h.blk i a).cell (i:=j*64+k) (by omega)];exact ⟨rfl,(h.blk i a).frozen _⟩
def bF {cs:Array ZV} {u:ZV} (h:cs[j]?=ZZ u) (v:ZV):(cs.setIfInBounds k v)[j]?=ZZ (if j=k then v else u):=by
 rw [abk];obtain ⟨q,_⟩:=T5.1 h;by_cases e:k=j
 . subst e;simp [q]
 . rw [TS e,TS (λq=>e q.symm),h]
def ah.TM (h:ah X p R F) (k:Nat) (v:ZV) (l:Nat->Bool) (o:∀ cs i,i<R.n->Pa R F cs i->Pa { R with lost:=l } F (cs.setIfInBounds k v) i):ah (X.setCell ⟨F.g,k,Z0⟩ v) p { R with lost:=l } F:=by
 obtain ⟨d,c,q⟩:=h.apart;have b:∀ j,j≠F.g->(X.setCell ⟨F.g,k,Z0⟩ v).heap[j]?=X.heap[j]?:=λj m=>Ud _ _ _ _ m;obtain ⟨cs,e,f⟩:=h.drv;exact ⟨(b _ d).trans h.top,⟨cs.setIfInBounds k v,by simp [World.setCell,VC,e],λi a=>o cs i a (f i a)⟩,λi a=>(h.blk i a).of_block (b _ (c i a).2.1),λi a=>(h.bad i a).of_block (b _ (c i a).2.2.2),h.inj,h.S,h.n,h.nb,h.len⟩
def ah.count (h:ah X p R F) (d:Nat) (x:Int):ah (X.setCell ⟨F.g,d*4+3,Z0⟩ (Z8 Z9 x)) p R F:=
 h.TM _ _ R.lost λcs i _ q=>by
  obtain ⟨a,b,c,r,f⟩:=q;refine ⟨(bF a _).trans (by rw [TS (by omega)]),(bF b _).trans (by rw [TS (by omega)]),(bF c _).trans (by rw [TS (by omega)]),if i=d then x else r,(bF f _).trans ?_⟩;by_cases e:i=d
  . rw [TT (by omega),TT e]
  . rw [TS (by omega),TS e]
def ah.S4 (h:ah X p R F) (d:Nat) (t:Bool):ah (X.setCell ⟨F.g,d*4,Z0⟩ (Z3 t)) p { R with lost:=λk=>if k=d then t else R.lost k } F:=
 h.TM _ _ _ λcs i _ q=>by
  obtain ⟨a,b,c,r,f⟩:=q;refine ⟨(bF a _).trans ?_,(bF b _).trans (by rw [TS (by omega)]),(bF c _).trans (by rw [TS (by omega)]),r,(bF f _).trans (by rw [TS (by omega)])⟩;show _=ZZ (Value.bool (if i=d then t else R.lost i));by_cases e:i=d
  . rw [TT (by omega),TT e]
  . rw [TS (by omega),TS e]
def eJ.RT (R:eJ) (d:Nat) (f:Nat->a8):eJ:={ R with blk:=λi=>if i=d then f else R.blk i }
def eJ.RY (R:eJ) (d:Nat) (f:Nat->Bool):eJ:={ R with bad:=λi=>if i=d then f else R.bad i }
theorem ah.RT (h:ah X p R F) {d:Nat} (c:d<R.n) {f:Nat->a8} (r:Y.rowIs (F.bb d) 114 (64*R.nb) (MV f)) (b:∀ k,k≠F.bb d->Y.heap[k]?=X.heap[k]?) (hl:∀ j,(f j).length=64/\∀ x∈f j,x<256):ah Y p (R.RT d f) F:=by
 obtain ⟨s,g,i⟩:=h.apart;obtain ⟨cs,l,o⟩:=h.drv;refine ⟨(b _ (g d c).1.symm).trans h.top,⟨cs,(b _ (g d c).2.1.symm).trans l,o⟩,λk a=>?_,λk a=>(h.bad k a).of_block (b _ (i d k c a).symm),h.inj,h.S,h.n,h.nb,λk m=>?_⟩
 . show Y.rowIs _ _ _ (MV (if k=d then f else R.blk k));by_cases e:k=d
   . rw [TT e,e];exact r
   . rw [TS e];exact (h.blk k a).of_block (b _ λq=>e ((h.inj k d a c).1 q))
 . show ((if k=d then f else R.blk k) m).length=64/\∀ x∈(if k=d then f else R.blk k) m,x<256;split
   . exact hl m
   . exact h.len k m
def ah.RY (h:ah X p R F) {d:Nat} (c:d<R.n) {f:Nat->Bool} (o:Y.rowIs (F.bd d) 4 R.nb (λj=>Z3 (f j))) (b:∀ k,k≠F.bd d->Y.heap[k]?=X.heap[k]?):ah Y p (R.RY d f) F:=by
 obtain ⟨r,g,i⟩:=h.apart;obtain ⟨cs,l,m⟩:=h.drv;refine ⟨(b _ (g d c).2.2.1.symm).trans h.top,⟨cs,(b _ (g d c).2.2.2.symm).trans l,m⟩,λk a=>(h.blk k a).of_block (b _ (i k d a c)),λk a=>?_,h.inj,h.S,h.n,h.nb,h.len⟩;show Y.rowIs _ _ _ (λj=>Z3 ((if k=d then f else R.bad k) j));by_cases e:k=d
 . rw [TT e,e];exact o
 . rw [TS e];exact (h.bad k a).of_block (b _ λq=>e ((h.inj k d a c).2 q))
theorem ah.setBlk (h:ah X p R F) {d:Nat} (a:d<R.n) (b:Nat) {l:a8} (hl:l.length=64) (g:∀ x∈l,x<256):ah (X.setCells (F.bb d) (b*64) (aJ l)) p (R.RT d λm=>if m=b then l else R.blk d m) F:=by
 refine h.RT a ((fD (aJ l) (b*64) X _ (h.blk d a)).congr λm _=>?_) (λk f=>aR _ _ _ _ _ f) λj=>?_
 . have c:(aJ l).length=64:=(by unfold aJ;rw [Ue,hl]);rw [c];unfold MV;show _=Value.int .u8 (((if m/64=b then l else R.blk d (m/64)).getD (m%64) 0:Nat):Int);by_cases e:m/64=b
   . rw [TT (by omega),TT e,show m-b*64=m%64 by omega];unfold aJ;rw [Ub,UG,Ub,Uc (show m%64<l.length by omega)];rfl
   . rw [TS (by omega),TS e]
 . split
   . exact ⟨hl,g⟩
   . exact h.len d j
theorem ah.TI (h:ah X p R F) {d:Nat} (a:d<R.n) (b:Nat) (t:Bool):ah (X.setCell ⟨F.bd d,b,Z0⟩ (Z3 t)) p (R.RY d λm=>if m=b then t else R.bad d m) F:=
 h.RY a (((h.bad d a).set b (Z3 t)).congr λm _=>by split<;>rfl) λk c=>Ud _ _ _ _ c
structure aB where
 n:Nat
 nb:Nat
 tn:Nat->Nat->Bool
 lost:Nat->Bool
 bad:Nat->Nat->Bool
 bl:Nat->Nat->Bool
 rc:Nat->Nat->bE
 sv:Nat
def eJ.rd (R:eJ) (i b:Nat):Option bE:=if R.bad i b=ZY then Z0 else I9 (R.blk i b)
def aB.rd (A:aB) (i b:Nat):Option bE:=if A.bad i b=ZY then Z0 else ZZ (if A.bl i b=ZY then .blank else A.rc i b)
structure iV (R:eJ) (A:aB):Prop where
 n:R.n=A.n
 nb:R.nb=A.nb
 lost:∀ i,i<A.n->R.lost i=A.lost i
 rd:∀ i b,i<A.n->A.lost i=ZX->R.rd i b=A.rd i b
 tn:∀ i b,i<A.n->A.lost i=ZX->A.bad i b=ZY->A.tn i b=ZX->R.bad i b=ZY
def az (X:ZW) (p:Nat) (A:aB) (F:aK):Prop:=∃ R,ah X p R F/\iV R A
variable {A:aB}
def az.RN (h:az X p A F) {k:Nat} (b:F.S k):k<X.heap.size:=by
 obtain ⟨R,a,_⟩:=h;exact a.RN b
def az.keep (h:az X p A F) (c:∀ k,F.S k->Y.heap[k]?=X.heap[k]?):az Y p A F:=by
 obtain ⟨R,a,b⟩:=h;exact ⟨R,a.keep c,b⟩
def az.below (h:az X p A F) {B:Nat} (b:ZU B X Y) (a:X.heap.size<=B):az Y p A F:=h.keep λk c=>b.block k (T7 (h.RN c) a)
def az.outside (h:az X p A F) (c:aa S X Y) (b:∀ k,F.S k->¬ S k):az Y p A F:=h.keep λk a=>c.block k (h.RN a) (b k a)
def az.Sz (h:az X p A F):A.n<=1000/\A.nb<=1000000:=by
 obtain ⟨R,a,b⟩:=h;rw [<- b.n,<- b.nb];exact ⟨a.n,a.nb⟩
def gnB (A:aB) (b i:Nat):Bool:=A.lost i || A.bad i b || A.bl i b
def aB.putAt (A:aB) (ds:a8) (b:Nat) (f:Nat->bE):aB:={ A with bad:=λi m=>if m=b/\i∈ds then ZX else A.bad i m,bl:=λi m=>if m=b/\i∈ds then ZX else A.bl i m,rc:=λi m=>if m=b/\i∈ds then f i else A.rc i m }
def wE (A:aB) (b:Nat) (f:Nat->bE):A.putAt [] b f=A:=by simp [aB.putAt]
theorem sH (A:aB) (ds:a8) (d b:Nat) (f:Nat->bE):(A.putAt ds b f).putAt [d] b (λ_=>f d)=A.putAt (ds++[d]) b f:=by
 unfold aB.putAt;simp only [aB.mk.injEq,true_and,and_true,Ui,U5];refine ⟨funext λi=>funext λm=>?_,funext λi=>funext λm=>?_,funext λi=>funext λm=>?_⟩
 . by_cases a:m=b<;>by_cases c:i=d<;>by_cases e:i∈ds<;>simp [a,c,e]
 . by_cases a:m=b<;>by_cases c:i=d<;>by_cases e:i∈ds<;>simp [a,c,e]
 . by_cases a:m=b<;>by_cases c:i=d<;>by_cases e:i∈ds<;>simp_all
def iV.put (h:iV R A) (d b:Nat) {r:bE} (f:r.ok):iV ((R.RT d λm=>if m=b then r.blk else R.blk d m).RY d λm=>if m=b then ZX else R.bad d m) (A.putAt [d] b λ_=>r):=by
 refine ⟨h.n,h.nb,h.lost,λi m c hl=>?_,λi m c hl=>?_⟩
 . have q:=h.rd i m c hl;unfold eJ.rd aB.rd at q;unfold eJ.rd aB.rd aB.putAt eJ.RY eJ.RT;by_cases e:i=d
   . subst e;by_cases a:m=b
     . subst a;simp [yZ f]
     . simpa [a] using q
   . simpa [e] using q
 . have q:=h.tn i m c hl;unfold aB.putAt eJ.RY eJ.RT;by_cases e:i=d
   . subst e;by_cases a:m=b
     . subst a;simp
     . simpa [a] using q
   . simpa [e] using q
def iV.lostPut (h:iV R A) {d:Nat} (hl:A.lost d=ZY) (b:Nat) (r:bE):iV R (A.putAt [d] b λ_=>r):=by
 have f:∀ i,A.lost i=ZX->i≠d:=λi h e=>by rw [e,hl] at h;cases h
 refine ⟨h.n,h.nb,h.lost,λi m c a=>?_,λi m c a=>?_⟩
 . rw [h.rd i m c a];unfold aB.rd aB.putAt;simp [f i a]
 . have q:=h.tn i m c a;unfold aB.putAt;simpa [f i a] using q
variable {w w' w'':ZW} {n:Nat} {k k':Nat->Nat}
end
def aH (l:a8):Array ZV:=(aJ l).toArray
def il (l:a8):(aH l).size=l.length:=by unfold aH aJ;simp
def wF (l:a8):(aH l).toList=aJ l:=by unfold aH;rfl
def aW (l:a8):(aJ l).length=l.length:=by unfold aJ;simp
def AO (l:a8):(aH l).all (λv=>v.oneCell')=ZY:=all_oneCell_toArray λv a=>by
 unfold aJ at a;rw [T9] at a;obtain ⟨x,_,rfl⟩:=a;rfl
def Tryz.S6:(ZQ.info? 114).map (λi=>i.size)=ZZ 64:=by kernel_rfl
def iq (h:l.length=64):(ZQ.info? 114).map (λi=>i.size)=ZZ (aH l).size:=by rw [il,h];exact Tryz.S6
def zb:a8:=YE 64 0
def dE:zb.length=64:=by simp [zb]
def Tryz.zeroBlk:(ZQ.info? 114).map (λi=>(i.zero,i.size,i.bytes))=ZZ (ZZ (.agg (aH zb)),64,64):=by kernel_rfl
def zeroBlk (w:ZW):(zeroValue 114).run ZQ w=.ok (.agg (aH zb)) w:=by
 obtain ⟨c,a,b,_,_⟩:=Ut Tryz.zeroBlk;simp [zeroValue,typeInfo,UE,a,b]
def cK (w:ZW) (b:Nat) (l:a8):Prop:=w.heap[b]?=ZZ (Z5 (aH l) 114 (0,0))
def cK.lt (h:cK w b l):b<w.heap.size:=(T5.1 h).1
def cK.new (w:ZW) (l:a8):cK (w.alloc (Z5 (aH l) 114)) w.heap.size l:=Ug _ _
def cK.keep (h:cK w b l) (e:w'.heap[b]?=w.heap[b]?):cK w' b l:=e.trans h
def cK.setRow (l:a8) (h:cK w b l'):cK (w.setRow b (aH l)) b l:=Vp w b (aH l') (aH l) _ _ h
def aX (w:ZW) (b:Nat) (cs:Array ZV):w.grownBy (w.setRow b cs) (ZZ b):=
 ⟨rfl,rfl,rfl,by simp,λk _ a=>by
  have:b≠k:=λe=>a (by rw [e]);simp [World.setRow,VC,this]⟩
def aa.setRow (w:ZW) (b:Nat) (cs:Array ZV) (h:S b):aa S w (w.setRow b cs):=
 have g:=aX w b cs
 ⟨g.os,g.tape,g.output,g.size,λk a c=>g.block k a (λe=>c (by cases e;exact h))⟩
def iW (w:ZW) (b:Nat) (cs:Array ZV):(w.setRow b cs).heap.size=w.heap.size:=by simp [World.setRow]
def mX (h:cK w b l) (hl:l.length=64):(Instr.loadAt 114 (Z7 (ZZ ⟨b,0,Z0⟩))).run ZQ w=.ok (.agg (aH l)) w:=by
 simp only [Instr.loadAt,Instr.sureAddr,UE,VJ,UQ,Xa w b 114 114 (aH l) (0,0) _ h Xr rfl (iq hl)]
def lf (h:cK w b l) (hl:l.length=64):(loadVar 114 ⟨b,0,Z0⟩).run ZQ w=.ok (.agg (aH l)) w:=
 Xa w b 114 114 (aH l) (0,0) _ h Xr rfl (iq hl)
def AP (l:a8) (h:cK w b l') (a:l'.length=64) (hl:l.length=64):(Instr.storeAt 114 (Z7 (ZZ ⟨b,0,Z0⟩)) (.agg (aH l))).run ZQ w=.ok () (w.setRow b (aH l)):=by
 simp only [Instr.storeAt,Instr.sureAddr,UE,VJ,UQ,XU w b 114 114 (aH l') (aH l) h (iq hl) (by rw [il,il,hl,a]) (AO l)]
def rP (d:o.guard=Z0) (x:Operand) (ho:o.op=.load 114 x) (b:Nat) (l:a8)
 (e:a.eval x=Z7 (ZZ ⟨b,0,Z0⟩)) (c:cK w b l) (hl:l.length=64) (h:wpList ZQ ops Q rest (a.put o.dst (.agg (aH l))) w):wpList ZQ ops Q (o::rest) a w:=by
 refine VT d λK hK=>?_;unfold Oper.wp;simp [execOp,ho,e,mX c hl,Result.andThen];exact hK _ _ h
def iB (e:o.guard=Z0) (x y:Operand) (ho:o.op=.store 114 x y) (b:Nat) (l l':a8)
 (f:a.eval x=Z7 (ZZ ⟨b,0,Z0⟩)) (g:a.eval y=.agg (aH l)) (d:cK w b l') (c:l'.length=64) (hl:l.length=64) (h:wpList ZQ ops Q rest (a.put o.dst Z1) (w.setRow b (aH l))):wpList ZQ ops Q (o::rest) a w:=by
 refine VT e λK hK=>?_;unfold Oper.wp;simp [execOp,ho,f,g,AP l d c hl,Result.andThen];exact hK _ _ h
def Dv (d:o.guard=Z0) (x:Operand) (ho:o.op=.load 114 x) (b k:Nat) (l:a8)
 (e:a.eval x=Z7 (ZZ ⟨b,k,Z0⟩)) (c:w.rangeAt b k (aJ l)) (hl:l.length=64) (h:wpList ZQ ops Q rest (a.put o.dst (.agg (aH l))) w):wpList ZQ ops Q (o::rest) a w:=
 aaU d 114 x ho b k e (aJ l) _ c Xr rfl (by rw [aW,hl];exact Tryz.S6) h
def fE {fn:Func} {p q:Tmp} {ty:TypeId} (h:fn.results=#[.cell p ty,.tmp q]) (tmps:Array ZV) (w:ZW) (a:Addr) (v u:ZV)
 (d:tmps.getD p Z1=Z7 (ZZ a)) (e:tmps.getD q Z1=u) (hl:(loadVar ty a).run P w=.ok v w):(results fn tmps).run P w=.ok (.tuple #[v,u]) w:=by
 have b:tmps[p]?.getD Z1=Z7 (ZZ a):=by simpa using d
 have c:tmps[q]?.getD Z1=u:=by simpa using e
 simp [results,h,b,c,asAddr,hl]
theorem ak {p:Prop} (h:p):b9 p:=h
theorem al {p0 p1:Prop} (a:p0) (b:p1):b9 (p0/\p1):=ak ⟨a,b⟩
theorem aE {p0 p1 p2:Prop} (a:p0) (b:p1) (c:p2):b9 (p0/\p1/\p2):=ak ⟨a,b,c⟩
theorem a5 {p0 p1 p2 p3:Prop} (a:p0) (b:p1) (c:p2) (d:p3):b9 (p0/\p1/\p2/\p3):=ak ⟨a,b,c,d⟩
theorem a6 {p0 p1 p2 p3 p4:Prop} (a:p0) (b:p1) (c:p2) (d:p3) (e:p4):b9 (p0/\p1/\p2/\p3/\p4):=ak ⟨a,b,c,d,e⟩
theorem a7 {p0 p1 p2 p3 p4 p5:Prop} (a:p0) (b:p1) (c:p2) (d:p3) (e:p4) (f:p5):b9 (p0/\p1/\p2/\p3/\p4/\p5):=ak ⟨a,b,c,d,e,f⟩
theorem hide7 {p0 p1 p2 p3 p4 p5 p6:Prop} (a:p0) (b:p1) (c:p2) (d:p3) (e:p4) (f:p5) (g:p6):b9 (p0/\p1/\p2/\p3/\p4/\p5/\p6):=ak ⟨a,b,c,d,e,f,g⟩
theorem hide8 {p0 p1 p2 p3 p4 p5 p6 p7:Prop} (a:p0) (b:p1) (c:p2) (d:p3) (e:p4) (f:p5) (g:p6) (h:p7):b9 (p0/\p1/\p2/\p3/\p4/\p5/\p6/\p7):=ak ⟨a,b,c,d,e,f,g,h⟩
theorem hide9 {p0 p1 p2 p3 p4 p5 p6 p7 p8:Prop} (a:p0) (b:p1) (c:p2) (d:p3) (e:p4) (f:p5) (g:p6) (h:p7) (i:p8):b9 (p0/\p1/\p2/\p3/\p4/\p5/\p6/\p7/\p8):=ak ⟨a,b,c,d,e,f,g,h,i⟩
theorem hide10 {p0 p1 p2 p3 p4 p5 p6 p7 p8 p9:Prop} (a:p0) (b:p1) (c:p2) (d:p3) (e:p4) (f:p5) (g:p6) (h:p7) (i:p8) (j:p9):b9 (p0/\p1/\p2/\p3/\p4/\p5/\p6/\p7/\p8/\p9):=ak ⟨a,b,c,d,e,f,g,h,i,j⟩
theorem hide11 {p0 p1 p2 p3 p4 p5 p6 p7 p8 p9 p10:Prop} (b:p0) (c:p1) (d:p2) (e:p3) (f:p4) (g:p5) (h:p6) (i:p7) (j:p8) (k:p9) (a:p10):b9 (p0/\p1/\p2/\p3/\p4/\p5/\p6/\p7/\p8/\p9/\p10):=ak ⟨b,c,d,e,f,g,h,i,j,k,a⟩
theorem hide12 {p0 p1 p2 p3 p4 p5 p6 p7 p8 p9 p10 p11:Prop} (c:p0) (d:p1) (e:p2) (f:p3) (g:p4) (h:p5) (i:p6) (j:p7) (k:p8) (l:p9) (a:p10) (b:p11):b9 (p0/\p1/\p2/\p3/\p4/\p5/\p6/\p7/\p8/\p9/\p10/\p11):=ak ⟨c,d,e,f,g,h,i,j,k,l,a,b⟩
theorem hide13 {p0 p1 p2 p3 p4 p5 p6 p7 p8 p9 p10 p11 p12:Prop} (d:p0) (e:p1) (f:p2) (g:p3) (h:p4) (i:p5) (j:p6) (k:p7) (l:p8) (m:p9) (a:p10) (b:p11) (c:p12):b9 (p0/\p1/\p2/\p3/\p4/\p5/\p6/\p7/\p8/\p9/\p10/\p11/\p12):=ak ⟨d,e,f,g,h,i,j,k,l,m,a,b,c⟩
theorem hide15 {p0 p1 p2 p3 p4 p5 p6 p7 p8 p9 p10 p11 p12 p13 p14:Prop} (f:p0) (g:p1) (h:p2) (i:p3) (j:p4) (k:p5) (l:p6) (m:p7) (n:p8) (o:p9) (a:p10) (b:p11) (c:p12) (d:p13) (e:p14):b9 (p0/\p1/\p2/\p3/\p4/\p5/\p6/\p7/\p8/\p9/\p10/\p11/\p12/\p13/\p14):=ak ⟨f,g,h,i,j,k,l,m,n,o,a,b,c,d,e⟩
def jW {k:IntKind} {a b:Int} (h:a=b):Ending.returned (.int k a)=Z4 (.int k b):=by rw [h]
def Jo (a b:Nat) (c:a<256) (d:b<256):bits .and .u8 (a:Int) (b:Int)=((a &&& b:Nat):Int):=
 (bits_nat .u8 8 (by decide) wraps_u8 a b c d).1
def lg (a b:Nat) (c:a<256) (d:b<256):bits .xor .u8 (a:Int) (b:Int)=((a^^^b:Nat):Int):=by
 have e:a%2^IntKind.u8.bits=a:=VR c;have f:b%2^IntKind.u8.bits=b:=VR d;simp only [bits,YH,YI,YJ,e,f];have:=rq c d;exact wraps_u8 _ (YL _) (by omega)
def wG (n:Int) (a:0<=n) (b:n<2^62):IntKind.i64.wrap n=n:=by rw [Ux];omega
def Fl (a b:Nat) (c:a<2^62) (d:b<2^62):bits .and .i64 (a:Int) (b:Int)=((a &&& b:Nat):Int):=
 (bits_nat .i64 62 (by decide) wG a b c d).1
def zd (a b:Nat) (c:a<2^62) (d:b<2^62):bits .xor .i64 (a:Int) (b:Int)=((a^^^b:Nat):Int):=by
 have e:(2:Nat)^62<2^IntKind.i64.bits:=by decide
 have f:a%2^IntKind.i64.bits=a:=VR (Xb c e);have g:b%2^IntKind.i64.bits=b:=VR (Xb d e);simp only [bits,YH,YI,YJ,f,g];have:=V4 (n:=62) c d;exact wG _ (YL _) (by exact_mod_cast this)
def Pb:∀ a,a<256->((a &&& 128=0)↔a<128):=by decide +kernel
def MW (a:Nat) (h:a<256):(bits .and .u8 (a:Int) 128 != 0)=decide (128<=a):=by
 have e:=Jo a 128 h (by decide);rw [show ((128:Nat):Int)=128 from rfl] at e;rw [e];have:=Pb a h;rw [Yo];simp;omega
def Pc (a:Nat):a &&& 1=a%2:=Nat.and_one_is_mod a
def QW (a:Nat) (h:a<256):(bits .and .u8 (a:Int) 1 != 0)=decide (a%2=1):=by
 have e:=Jo a 1 h (by decide);rw [show ((1:Nat):Int)=1 from rfl] at e;rw [e,Pc];rw [Yo];simp;omega
def QX {a:Nat} (h:a<256) (b:128<=a):bits .xor .u8 ((a:Int)*2%256) 29=(tx a:Int):=by
 have e:((a:Int)*2%256)=((2*a-256:Nat):Int):=by omega
 rw [e,show (29:Int)=((29:Nat):Int) from rfl,lg _ _ (by omega) (by decide)];unfold tx;rw [TS (by omega)]
def QY {a:Nat} (b:a<128):(a:Int)*2=(tx a:Int):=by
 unfold tx;rw [TT b];omega
theorem mY (a:Nat) (h:a<256) (w:ZW) :
 ZT ZQ 202 #[Z8 .u8 a] w λe w'=>e=Z4 (Z8 .u8 (tx a))/\w'=w:=by
 have c:=MW a h;by_cases b:128<=a
 . rw [UY b] at c;go_enter func202,ntmps202;go_wp2;go_ret;exact ⟨jW (QX h b),rfl⟩
 . rw [Vc b] at c;go_enter func202,ntmps202;go_wp2;go_ret;exact ⟨jW (QY (by omega)),rfl⟩
def Jp (n:Nat):∀ a p,yQ n a 0 p=p:=by
 induction n with
 | zero=>intro a p;rfl
 | succ n ih=>intro a p;simp only [yQ];exact ih _ _
theorem lS (a b:Nat) (o:a<256) (j:b<256) (w:ZW) :
 ZT ZQ 188 #[Z8 .u8 a,Z8 .u8 b] w λe w'=>e=Z4 (Z8 .u8 (gm a b))/\w'=w:=by
 go_enter func188,ntmps188;go_wp2;go_loop [0,1,5] (λs t u=>∃ n x y z:Nat,x<256/\y<256/\z<256/\y<2^n/\b9 (yQ n x y z=gm a b)/\s=Z8 .u8 x/\t=Z8 .u8 y/\u=Z8 .u8 z) (λ_ t _=>(intOf t).toNat)
 case atStart=>exact ⟨8,a,b,0,o,j,by decide,j,rfl,rfl,rfl,rfl⟩
 case round=>
  obtain ⟨n,x,y,z,c,p,h,k,g,rfl,rfl,rfl⟩:=hrel;by_cases m:y=0
  . subst m;go_wp2;go_ret;exact ⟨jW (by rw [<- g.out,Jp]),rfl⟩
  . have r:((y:Int) != 0)=ZY:=(by rw [bne_iff_ne];omega);have l:=QW y p;cases n with
    | zero=>exact absurd k (by simp;omega)
    | succ n=>
    have i:y/2<2^n:=(by rw [XR] at k;omega);by_cases d:y%2=1
    . rw [UY d] at l;have f:b9 (yQ n (tx x) (y/2) (z^^^x)=gm a b):=(by have:=g.out;simp only [yQ] at this;rw [TT d] at this;exact this);have q:=lg z x h c;go_wp2_with (go_at_call 202;refine (mY _ c _).mono ?_;rintro e w' ⟨rfl,rfl⟩);go_round
      case rel=>exact ⟨n,tx x,y/2,z^^^x,AE c,by omega,rq h c,i,f,rfl,by go_num,rfl⟩
      case measure=>simp [intOf];omega
    . rw [Vc d] at l;have f:b9 (yQ n (tx x) (y/2) z=gm a b):=(by have:=g.out;simp only [yQ] at this;rw [TS d] at this;exact this);go_wp2_with (go_at_call 202;refine (mY _ c _).mono ?_;rintro e w' ⟨rfl,rfl⟩);go_round
      case rel=>exact ⟨n,tx x,y/2,z,AE c,by omega,h,i,f,rfl,by go_num,rfl⟩
      case measure=>simp [intOf];omega
def Jq (n p v:Nat):OC (n+1) p v=OC n (gm p p) (gm v (gm p p)):=rfl
theorem rQ (a:Nat) (h:a<256) (w:ZW) :
 ZT ZQ 187 #[Z8 .u8 a] w λe w'=>e=Z4 (Z8 .u8 (gi a))/\w'=w:=by
 go_enter func187,ntmps187;go_wp2;go_loop [3,4,6] (λs t u=>∃ k p v:Nat,k<=7/\p<256/\v<256/\b9 (OC (7-k) p v=gi a)/\s=Z8 .u8 v/\t=Z8 .u8 p/\u=Z8 Z9 k) (λ_ _ u=>7-(intOf u).toNat)
 case atStart=>exact ⟨0,a,1,by decide,h,by decide,rfl,rfl,rfl,rfl⟩
 case round=>
  obtain ⟨k,p,v,j,b,d,c,rfl,rfl,rfl⟩:=hrel;by_cases i:k<7
  . have f:b9 (OC (7-(k+1)) (gm p p) (gm v (gm p p))=gi a):=by
     have:=c.out;rw [show 7-k=(7-(k+1))+1 from by omega,Jq] at this;exact this
    go_wp2_with fail;refine (lS p p b b _).mono ?_;rintro e w' ⟨rfl,rfl⟩;go_wp2_with fail;refine (lS v (gm p p) d (bt _ b) _).mono ?_;rintro e w' ⟨rfl,rfl⟩;go_wp2_with fail;go_round
    case rel=>exact ⟨k+1,gm p p,gm v (gm p p),by omega,bt _ b,bt _ d,f,rfl,rfl,by go_num⟩
    case measure=>simp [intOf];omega
  . have g:k=7:=(by omega);subst g;go_wp2;go_ret;exact ⟨jW (by rw [<- c.out];rfl),rfl⟩
def Bs (w:ZW) (v:ZV) (l:a8):Prop:=
 ∃ ao c,v=.slice ao l.length c/\l.length<=c/\l.length<=140737488355328/\(∀ x∈l,x<256)/\(l≠[]->∃ b off,ao=ZZ ⟨b,off,Z0⟩/\∀ k,k<l.length->w.cell? ⟨b,off+k,Z0⟩=ZZ (Z8 .u8 ((l.getD k 0:Nat):Int)))
def Bs.mono (h:Bs w v l) (j:ZU w.heap.size w w'):Bs w' v l:=by
 obtain ⟨ao,c,a,d,f,g,i⟩:=h;refine ⟨ao,c,a,d,f,g,λhl=>?_⟩;obtain ⟨b,off,e,m⟩:=i hl;refine ⟨b,off,e,λk n=>?_⟩;have:=m k n;rw [j.cell (Uf this)];exact this
def Bs.Sl (h:aM w b l) (e:n<=l.length) (d:n<=140737488355328) (c:∀ x∈l,x<256):Bs w (Z6 (ZZ ⟨b,0,Z0⟩) n l.length) (l.take n):=by
 have hl:(l.take n).length=n:=by rw [Uo];omega
 refine ⟨ZZ ⟨b,0,Z0⟩,l.length,by rw [hl],by omega,by omega,λx h=>c x (UV h),λ_=>⟨b,0,rfl,λk a=>?_⟩⟩;rw [hl] at a;have:=h.cell k (by omega);rw [Uj,this];simp [a]
def QZ (w:ZW) (n:Nat) (i:ZV) (wr:ZW):Prop:=∃ k m:Nat,k<=n/\i=Z8 Z9 k/\wr=w.drewN m
theorem Fm (j vb:ZV) (l:a8) (w:ZW) (t:Bs w j l) (u:Bs w vb l) :
 ZT ZQ 29 #[j,vb] w λe w'=>e=Z4 (Z3 ZY)/\∃ m,w'=w.drewN m:=by
 obtain ⟨ao,z,rfl,o,q,C,a⟩:=t;obtain ⟨y,cb,rfl,p,r,_,c⟩:=u;have A:l.length<=140737488355328:=by omega
 clear o q p r;by_cases hl:l=[]
 . subst hl;clear a c;go_enter func29,ntmps29;go_wp2;refine VD 1 ?_;rw [Vt];go_wp2;go_ret;exact ⟨rfl,0,rfl⟩
 . obtain ⟨b,off,rfl,d⟩:=a hl;obtain ⟨v,h,rfl,f⟩:=c hl;clear hl a c;go_enter func29,ntmps29;go_wp2;go_loopw [5] (λi wr=>QZ w l.length i wr) (λi _=>l.length-(intOf i).toNat)
   case atStart=>exact ⟨0,0,T8 _,rfl,rfl⟩
   case round=>
    obtain ⟨k,m,B,rfl,rfl⟩:=hrel;by_cases g:k<l.length
    . have c1:=d k g;have n:=f k g;have s:(((l.getD k 0:Nat):Int) != ((l.getD k 0:Nat):Int))=ZX:=(by simp);generalize l.getD k 0=x at c1 n s;clear d f;go_wp2;go_quiet (fail);go_wp2;go_roundw
      case rel=>exact ⟨k+1,_,by omega,by go_num,rfl⟩
      case measure=>simp [intOf];omega
    . go_wp2;go_ret;exact ⟨rfl,_,rfl⟩
def bJ (a b:a8):aJ (a++b)=aJ a++aJ b:=by simp [aJ]
def Fo (n:Nat):∀ (s k:Nat),k<s->(be n s).take (s-k)=(be n s).take (s-(k+1))++[n/256^k%256]
 | 0,k,h=>absurd h (by omega)
 | s+1,k,h=>by
  by_cases e:k=s
  . subst e;rw [show k+1-k=1 by omega,W0];simp [be]
  . have ih:=Fo n s k (by omega);rw [show s+1-k=(s-k)+1 by omega,show s+1-(k+1)=(s-(k+1))+1 by omega];simp only [be,List.take_succ_cons,UX,ih]
def MX (n k:Nat):((n:Int)/2^(8*k)%256)=((n/256^k%256:Nat):Int):=by
 have e:(2:Nat)^(8*k)=256^k:=by rw [Nat.pow_mul]
 have a:((2:Int)^(8*k))=((256^k:Nat):Int):=by rw [<- e];norm_cast
 rw [a];omega
def nG (w:ZW) (x:ZV) (t:TypeId):∀ j u,[x][j]?=ZZ u->(w.alloc (Z5 #[x] t)).cell? ((⟨w.heap.size,0,Z0⟩:Addr).add j)=ZZ u:=by
 intro j u h;rw [jy];match j,h with
 | 0,h=>simp at h;subst h;simp only [World.cell?,Ug w (Z5 #[x] t)];rfl
 | j+1,h=>simp at h
def aag (w:ZW) (base:Nat) (n s k0:Nat) (xs:List ZV) (v0:ZV) (b i:ZV) (wr:ZW):Prop:=
 ∃ (k:Nat) (v:ZV),k<=s/\i=Z8 Z9 ((k:Int)-1)/\b=v/\wr.ownsRow base 5 1 v (k0+(s-k)) (xs++aJ ((be n s).take (s-k)))/\aa (λj=>v0.ownBlock=ZZ j) w wr/\(∀ j,v.ownBlock=ZZ j->v0.ownBlock=ZZ j\/w.heap.size<=j)
theorem fX (base:Nat) (d:ZV) (c:Nat) (xs:List ZV) (n s:Nat) (w:ZW) (z:w.ownsRow base 5 1 d c xs) (x:base<=w.heap.size) (q:s<=8) (J:c<=1000000000) :
 ZT ZQ 172 #[d,Z8 .u64 n,Z8 Z9 s] w λe w'=>∃ v',e=Z4 v'/\w'.ownsRow base 5 1 v' (c+s) (xs++aJ (be n s))/\aa (λj=>d.ownBlock=ZZ j) w w'/\(∀ j,v'.ownBlock=ZZ j->d.ownBlock=ZZ j\/w.heap.size<=j):=by
 obtain ⟨G,B,D,E,F⟩:=Ut Tryz.R2;go_enter func172,ntmps172;go_wp2;go_loopw [0,7] (λb i wr=>aag w base n s c xs d b i wr) (λ_ i _=>(intOf i+1).toNat)
 case atStart=>exact ⟨s,d,TU _,by go_num,rfl,by rw [W0];simpa [aJ] using z,aa.refl _ _,λj h=>.inl h⟩
 case round=>
  obtain ⟨k,v,K,rfl,rfl,l,a,f⟩:=hrel;cases k with
  | zero=>
   have p:((0:Nat):Int)-1=-1:=(by omega);rw [p];have t:=aE l a f;clear l a f;go_wp2;go_ret;obtain ⟨l,a,f⟩:=t.o;refine ⟨_,rfl,?_,a,f⟩;rwa [Yp,UI (by rw [aD];exact TU _)] at l
  | succ k=>
   have p:((k+1:Nat):Int)-1=(k:Int):=(by omega);rw [p];have I:=TV x a.size;go_wp2_with (at_builtin;refine Yq _ rfl (.tmp 14) (.tmp 20) 40 rfl base 5 G (Z8 .u8 0) 1 1 Um B D E F rfl (by decide) u0 (c+(s-(k+1))) _ rfl (l.alloc _) ⟨wr.heap.size,0,Z0⟩ 1 1 _ rfl rfl (nG wr _ _) (by intro u r;simp at r;subst r;rfl) (by unfold maxLen;omega) (by omega) (by simp;omega) ?_;intro v' w' ho m H A);have C:(wr.alloc (Z5 #[Z8 .u8 ((n:Int)/2^(8*k)%256)] 5)).heap.size=wr.heap.size+1:=(by simp);have L:=a.size;have y:∀ j,v'.ownBlock=ZZ j->d.ownBlock=ZZ j\/w.heap.size<=j:=λj g=>by
    rcases A with e|e
    . exact f j (e▸g)
    . rw [e] at g;cases g;rw [C];exact .inr (by omega)
   refine ⟨⟨k,v',by omega,by go_num,rfl,?_,?_,y⟩,by simp [intOf]⟩
   . rw [MX] at ho;rw [Fo n s k (by omega),bJ,<- Uz,show c+(s-k)=c+(s-(k+1))+1 by omega];exact ho
   . exact (a.later (aa.alloc (S:=λ_=>False) _ _) (λ_ _ h=>h.elim)).later (T:=λj=>u0.ownBlock=ZZ j) ⟨m.os,m.tape,m.output,m.size,λj g q=>m.block j g (λe=>q e.symm)⟩ (λj g h=>by
      rcases f j h with e|e
      . exact e
      . omega)
theorem Pd (n x:Nat) (c:x<256):bits .or .u64 (IntKind.u64.wrap ((n:Int)*256)) (x:Int)=(((n*256+x)%18446744073709551616:Nat):Int):=by
 have a:IntKind.u64.wrap ((n:Int)*256)=((n*256%18446744073709551616:Nat):Int):=by rw [Va];omega
 rw [a,aaV _ _ (V5 _ (by decide)) (by omega)];congr 1;have b:n*256%18446744073709551616=2^8*(n%72057594037927936):=by omega
 rw [b,<- Nat.two_pow_add_eq_or_of_lt (i:=8) (by omega)];omega
def Fp (a b:Nat) (c:a<4294967296) (d:b<4294967296):bits .xor .u32 (a:Int) (b:Int)=((a^^^b:Nat):Int):=by
 have e:a%2^IntKind.u32.bits=a:=VR c;have f:b%2^IntKind.u32.bits=b:=VR d;have:a^^^b<2^32:=V4 c d;simp only [bits,YH,YI,YJ,e,f];rw [IntKind.wrap_u32];omega
theorem Pe (r:Nat) (a:r<4294967296):bits .xor .u32 IntKind.u32.max (r:Int)=((4294967295-r:Nat):Int):=by
 have e:IntKind.u32.max=((4294967295:Nat):Int):=rfl;rw [e,Fp _ _ (by decide) a];congr 1;refine Xn λi=>?_;have c:=Xs (n:=32) (x:=r) a i;have d:=Xt 32 i;rw [aaR,show (4294967295:Nat)-r=2^32-(r+1) by omega,c,show (4294967295:Nat)=2^32-1 from rfl,d];by_cases b:i<32
 . simp [b]
 . have:r.testBit i=ZX:=Wz (T7 a (by have:=UW (n:=2) (by decide) (show 32<=i by omega);omega));simp [b,this]
def OE (a b:Nat) (c:a<4294967296) (d:b<4294967296):bits .and .u32 (a:Int) (b:Int)=((a &&& b:Nat):Int):=(bits_nat .u32 32 (by decide) (λn e f=>by rw [IntKind.wrap_u32];omega) a b c d).1
def Q0 (a:Nat):a &&& 15=a%16:=aaW a 4
def Gz (l:a8) (k:Nat) (h:k<l.length):db (l.take (k+1))=dC (db (l.take k)) (l.getD k 0):=by
 rw [Vd,Uc h];unfold db;rw [Wp,Ub,Uc h];rfl
def Jr (l:a8) (k:Nat) (h:k<l.length):fR (l.take (k+1))=(fR (l.take k)*256+l.getD k 0)%18446744073709551616:=by
 rw [Vd,Uc h,Ub,Uc h];exact sG _ _
def Q2 (w:ZW) (l:a8) (n i _x:ZV) (wr:ZW):Prop:=∃ k:Nat,k<=l.length/\n=Z8 .u64 (fR (l.take k):Nat)/\i=Z8 Z9 k/\wr=w
theorem ze (v:ZV) (l:a8) (w:ZW) (h:Bs w v l):ZT ZQ 184 #[v] w λe w'=>e=Z4 (Z8 .u64 (fR l:Nat))/\w'=w:=by
 obtain ⟨ao,c,rfl,r,t,q,d⟩:=h;go_enter func184,ntmps184;go_wp2;go_loopw [3,8,5] (λn i x wr=>Q2 w l n i x wr) (λ_ i _ _=>l.length-(intOf i).toNat)
 case atStart=>exact ⟨0,T8 _,rfl,rfl,rfl⟩
 case round=>
  obtain ⟨k,s,rfl,rfl,rfl⟩:=hrel;by_cases a:k<l.length
  . obtain ⟨b,off,rfl,f⟩:=d (by intro e;rw [e] at a;simp at a);have c1:=f k a;have ho:Q2 wr l (Z8 .u64 (((fR (l.take k)*256+l.getD k 0)%18446744073709551616:Nat):Int)) (Z8 Z9 ((k:Int)+1)) (Z8 .u8 (l.getD k 0:Nat)) wr:=⟨k+1,by omega,by rw [Jr l k a],rfl,rfl⟩;have p:l.getD k 0<256:=dm q k;have g:=Pd (fR (l.take k)) (l.getD k 0) p;rw [<- g] at ho;have j:=ak ho;clear ho g d f;generalize l.getD k 0=x at *;generalize fR (l.take k)=n at *;go_wp2;exact ⟨j.o,by simp [intOf];omega⟩
  . have m:k=l.length:=(by omega);subst m;rw [Vu];clear d;go_wp2;go_ret;exact ⟨rfl,rfl⟩
def bV (w:ZW):Prop:=∀ j,j<16->w.cell? ⟨2,j,Z0⟩=ZZ (Z8 .u32 ((cG.getD j 0:Nat):Int))
def SmR (w:ZW) (l:a8) (n i _x:ZV) (wr:ZW):Prop:=∃ k:Nat,k<=l.length/\n=Z8 .u32 (db (l.take k):Nat)/\i=Z8 Z9 k/\wr=w
theorem MY (v:ZV) (l:a8) (w:ZW) (h:Bs w v l) (z:bV w):ZT ZQ 182 #[v] w λe w'=>e=Z4 (Z8 .u32 (nE l:Nat))/\w'=w:=by
 obtain ⟨ao,c,rfl,O,Q,q,p⟩:=h;go_enter func182,ntmps182;go_wp2;go_loopw [3,8,5] (λn i x wr=>SmR w l n i x wr) (λ_ i _ _=>l.length-(intOf i).toNat)
 case atStart=>exact ⟨0,T8 _,rfl,rfl,rfl⟩
 case round=>
  obtain ⟨k,P,rfl,rfl,rfl⟩:=hrel;by_cases g:k<l.length
  . obtain ⟨b,off,rfl,s⟩:=p (by intro e;rw [e] at g;simp at g);have c1:=s k g;have ho:SmR wr l (Z8 .u32 ((dC (db (l.take k)) (l.getD k 0):Nat):Int)) (Z8 Z9 ((k:Int)+1)) (Z8 .u8 (l.getD k 0:Nat)) wr:=⟨k+1,by omega,by rw [Gz l k g],rfl,rfl⟩;have N:l.getD k 0<256:=dm q k;have j:db (l.take k)<4294967296:=mW (λx h=>q x (UV h));unfold dC at ho;clear p s;generalize l.getD k 0=x at *;generalize db (l.take k)=r at *;have A:(x:Int)%4294967296=(x:Int):=(by omega);have U:=Fp r x j (by omega);have m:r^^^x<4294967296:=V4 (n:=32) j (by omega);generalize r^^^x=a at *;have V:bits .and .u32 (a:Int) 15=((a%16:Nat):Int):=(by have:=OE a 15 m (by decide);rw [Q0] at this;exact this);have W:(a:Int)/16=((a/16:Nat):Int):=(by omega);have G:=z (a%16) (V5 _ (by decide));have t:=oW (a%16);have J:=Fp (a/16) (cG.getD (a%16) 0) (by omega) t;have y:dj a<4294967296:=gB m;have f:a/16^^^cG.getD (a%16) 0=dj a:=rfl;rw [f] at J;have R:a%16<16:=V5 _ (by decide);clear f;generalize dj a=d at *;generalize cG.getD (a%16) 0=L at *;generalize a%16=C at *;generalize a/16=b1 at *;have X:bits .and .u32 (d:Int) 15=((d%16:Nat):Int):=(by have:=OE d 15 y (by decide);rw [Q0] at this;exact this);have Y:(d:Int)/16=((d/16:Nat):Int):=(by omega);have H:=z (d%16) (V5 _ (by decide));have u:=oW (d%16);have K:=Fp (d/16) (cG.getD (d%16) 0) (by omega) u;have f:d/16^^^cG.getD (d%16) 0=dj d:=rfl;rw [f] at K;have S:d%16<16:=V5 _ (by decide);clear f;generalize dj d=T at *;generalize cG.getD (d%16) 0=M at *;generalize d%16=E at *;generalize d/16=b2 at *;have B:=ak ho;have D:(C:Int)<16:=(by omega);have F:(E:Int)<16:=(by omega);clear ho m y t u;go_wp2;exact ⟨B.o,by simp [intOf];omega⟩
  . have I:k=l.length:=(by omega);subst I;rw [Vu];have j:db l<4294967296:=mW q;clear p;have A:=Pe (db l) j;rw [show 4294967295-db l=nE l from rfl] at A;generalize db l=r at *;go_wp2;go_ret;exact ⟨rfl,rfl⟩
def eG (h:w.grownBy w' (ZZ b)) (i:Nat) (v:ZV):w.grownBy (w'.setCell ⟨b,i,Z0⟩ v) (ZZ b):=
 ⟨h.os,h.tape,h.output,by rw [Yr];exact h.size,λk c a=>by
  rw [Ud _ _ _ _ (by intro e;exact a (by rw [e]))];exact h.block k c a⟩
def sI {r:Option Nat} (h:w.grownBy w' r) (n:Nat):w.grownBy (w'.drewN n) r:=
 ⟨h.os,h.tape,h.output,h.size,h.block⟩
def gC {r:Option Nat} (h:w.grownBy w' r) (k:w'.grownBy w'' r):w.grownBy w'' r:=
 ⟨k.os.trans h.os,k.tape.trans h.tape,k.output.trans h.output,TV h.size k.size,λj b a=>(k.block j (T7 b h.size) a).trans (h.block j b a)⟩
def gD (h:ZU B w0 w) (c:w.grownBy w' (ZZ b)) (a:B<=w.heap.size) (e:B<=b):ZU B w0 w':=
 h.grown c a (λk d=>by simp at d;omega)
def Dw {xs:List ZV} (h:w.ownsRow base 40 1 v n xs) (c:w.grownBy w' (ZZ b)) (a:v.ownBlock≠ZZ b):w'.ownsRow base 40 1 v n xs:=
 h.kept c (.inr a)
theorem eu.wrote (h:eu w base v L) {i:Nat} (d:i<L.length) {l':a8} (f:w.grownBy w' (ZZ L[i].1)) (t:aM w' L[i].1 l') (r:l'.length=L[i].2.2.length) (u:∀ x∈l',x<256) :
 eu w' base v (L.set i (L[i].1,L[i].2.1,l')):=by
 have s:=T6 d;obtain ⟨g,k,y,z,A⟩:=h.row _ s;have o:(L.set i (L[i].1,L[i].2.1,l')).map fx=L.map fx:=by
  apply Vb
  . simp
  . intro j m n;simp [Wf];by_cases e:i=j
    . subst e;simp [fx,r]
    . simp [e]
 have l:(L.set i (L[i].1,L[i].2.1,l')).map (λp=>p.1)=L.map (λp=>p.1):=by
  apply Vb
  . simp
  . intro j m n;simp [Wf];by_cases e:i=j
    . subst e;simp
    . simp [e]
 refine ⟨?_,λp b=>?_,by rw [l];exact h.nodup⟩
 . rw [o,VS];exact Dw h.own f (oX h.own k)
 . obtain ⟨j,a,rfl⟩:=Xu.1 b;rw [VS] at a;rw [Wf];by_cases e:i=j
   . rw [TT e];exact ⟨g,t,by show L[i].2.1<=l'.length;omega,⟨by show L[i].2.1<=140737488355328;omega,by show l'.length<=9223372036854775807;omega⟩,u⟩
   . rw [TS e];obtain ⟨b1,b2,b3⟩:=h.row _ (T6 a);refine ⟨b1,b2.grown f ?_,b3⟩;intro q;simp at q;have b:=VU.1 h.nodup;rcases Ys e with c|c
     . exact b i j (by simpa using d) (by simpa using a) c (by simp [q])
     . exact b j i (by simpa using a) (by simpa using d) c (by simp [q])
def eu.S3 (h:eu w base v L) {i:Nat} (e:i<L.length):Bs w (fx L[i]) (L[i].2.2.take L[i].2.1):=by
 obtain ⟨f,a,b,c,d⟩:=h.row _ (T6 e);exact Bs.Sl a b c.1 d
def lT (w:ZW) (n:Nat) (a:n=w.heap.size) (x:ZV) (t:TypeId):∀ j u,[x][j]?=ZZ u->(w.alloc (Z5 #[x] t)).cell? ((⟨n,0,Z0⟩:Addr).add j)=ZZ u:=by
 subst a;exact Yt _ _ _
def eu.append2 {o:Obj} (h:eu w base v T) (e:ZU w.heap.size w w1) (r:base<=w.heap.size) (s:w.heap.size<=b) (d:aM w1 b l) (g:m=l.length) (i:n<=l.length) (hl:l.length<=140737488355328) (k:∀ x∈l,x<256)
 (f:(w1.alloc o).grownBy w2 v.ownBlock) (a:w2.ownsRow base 40 1 v' (T.length+1) (T.map fx++[Z6 (ZZ ⟨b,0,Z0⟩) n m])):eu w2 base v' (T++[(b,n,l)]):=by
 subst g;have c:=(h.below e).alloc o;refine c.push f (p:=(b,n,l)) a ⟨by show base<=b;omega,d.alloc o,i,⟨by show n<=140737488355328;omega,by show l.length<=9223372036854775807;omega⟩,k⟩ ?_;intro q j;have:=(h.row q j).2.1.lt;show q.1≠b;omega
def dP {o:Obj} (h:eu w B v T) (b:ZU B w0 w) (a:ZU w.heap.size w w1) (d:B<=w.heap.size) (e:(w1.alloc o).grownBy w2 v.ownBlock):ZU B w0 w2:=by
 have c:=b.trans (a.mono d);have:=a.size;refine (c.alloc (by omega) o).grown e (by rw [Uh];omega) ?_;intro k f;exact (h.own.lt k f).1
def xr (c:Nat) (l:a8):a8:=l.map (λx=>x^^^c)
def rz (c k:Nat) (l:a8):a8:=(YF l.length).map λj=>if j<k then l.getD j 0^^^c else l.getD j 0
theorem GA (c:Nat) (l:a8):rz c 0 l=l:=by
 unfold rz;apply Vb
 . simp
 . intro j b a;simp [a]
theorem Js (c:Nat) (l:a8):rz c l.length l=xr c l:=by
 unfold rz xr;apply Vb
 . simp
 . intro j a b;simp at a;simp [a]
def Jt (c k:Nat) (l:a8):(rz c k l).length=l.length:=by simp [rz]
def Ju (c k:Nat) (l:a8) (a:k<l.length):(rz c k l).getD k 0=l.getD k 0:=by simp [rz,a]
theorem GB (c k:Nat) (l:a8):(rz c k l).set k (l.getD k 0^^^c)=rz c (k+1) l:=by
 unfold rz;apply Vb
 . simp
 . intro j b d;simp [Wf];by_cases e:k=j
   . subst e;simp
   . simp only [TS e];by_cases a:j<k
     . rw [TT a,TT (by omega)]
     . rw [TS a,TS (by omega)]
def SA2 (wo:ZW) (b c:Nat) (l:a8) (i:ZV) (wr:ZW):Prop:=
 ∃ k:Nat,k<=l.length/\i=Z8 Z9 k/\wo.grownBy wr (ZZ b)/\aM wr b (rz c k l)
def Rd (w:ZW) (v:ZV) (D:List a8):Prop:=
 ∃ ao c,v=.slice ao D.length c/\D.length<=5864062014805/\(D≠[]->∃ b off,ao=ZZ ⟨b,off,Z0⟩/\∀ i (hi:i<D.length),∃ u,w.cell? ⟨b,off+i,Z0⟩=ZZ u/\Bs w u D[i])
def Bs.lt (h:Bs w v l):∀ x∈l,x<256:=by
 obtain ⟨_,_,_,_,_,a,_⟩:=h;exact a
def Rd.mono (h:Rd w v D) (a:ZU w.heap.size w w'):Rd w' v D:=by
 obtain ⟨ao,c,f,g,j⟩:=h;refine ⟨ao,c,f,g,λl=>?_⟩;obtain ⟨b,off,e,m⟩:=j l;refine ⟨b,off,e,λi n=>?_⟩;obtain ⟨u,d,k⟩:=m i n;exact ⟨u,by rw [a.cell (Uf d)];exact d,k.mono a⟩
def Rd.cases (h:Rd w v D):(D=[]/\∃ ao c,v=.slice ao 0 c)\/∃ b off c,v=Z6 (ZZ ⟨b,off,Z0⟩) D.length c/\D.length<=5864062014805/\∀ i (j:i<D.length),∃ u,w.cell? ⟨b,off+i,Z0⟩=ZZ u/\Bs w u D[i]:=by
 obtain ⟨ao,c,a,e,f⟩:=h;by_cases d:D=[]
 . subst d;exact .inl ⟨rfl,ao,c,a⟩
 . obtain ⟨b,off,rfl,g⟩:=f d;exact .inr ⟨b,off,c,a,e,g⟩
theorem aM.heap (h:aM w b l):w.heap[b]?=ZZ (Z5 (l.map (λx=>Value.int .u8 ((x:Nat):Int))).toArray 5 (0,0)):=by
 obtain ⟨c,d,g,e⟩:=h;have:c=(l.map (λx=>Value.int .u8 ((x:Nat):Int))).toArray:=by
  apply Yu
  . simp [g]
  . intro i a j;have:=e i (by omega);rw [VV a] at this;simp [vb] at this;have f:i<l.length:=(by omega);simp [this,f]
 rw [<- this];exact d
def aM.of_heap (h:w.heap[b]?=ZZ (Z5 (l.map (λx=>Value.int .u8 ((x:Nat):Int))).toArray 5 (0,0))):aM w b l:=
 ⟨_,h,by simp,λi a=>by simp [vb,a]⟩
def wH (r:o.guard=Z0) (d s:Operand)
 (ho:o.op=.call { callee:=.builtin .copy,args:=#[d,s],argTypes:=#[40,40] }) (g n cap:Nat) (v:ZV) (hd:a.eval d=Z6 (ZZ ⟨g,0,Z0⟩) n cap) (hs:a.eval s=v)
 (old src:a8) (hB:aM w g old) (hS:Bs w v src) (h9:src.length<=n) (hn:n<=old.length) (B:Nat) (w0:ZW) (hb:ZU B w0 w) (h5:B<=g)
 (h:∀ w',aM w' g (src++old.drop src.length)->ZU B w0 w'->wpList ZQ ops Q rest (a.put o.dst (goInt src.length)) w'):wpList ZQ ops Q (o::rest) a w:=by
 obtain ⟨ao,c,rfl,A,C,D,m⟩:=hS;refine aaX r d s 40 40 ho 5 Um (by kernel_rfl) (ZZ ⟨g,0,Z0⟩) ao n cap src.length c hd hs g 0 _ 5 hB.heap (src.map (λx=>Value.int .u8 ((x:Nat):Int))) ?_ ?_ ?_ ?_ B w0 hb h5 ?_
 . rw [Ue];show src.length=min src.length n;omega
 . intro k;rw [Ue] at k;obtain ⟨b,off,rfl,y⟩:=m (by intro e;rw [e] at k;simp at k);refine ⟨rfl,_,rfl,λj u i=>?_⟩;have f:j<src.length:=by
    have:=U9.1 i;obtain ⟨q,_⟩:=this;simpa using q
   rw [Vl,y j f];simp [f] at i;simp [f,i]
 . simp;omega
 . intro u z;obtain ⟨x,_,rfl⟩:=T9.1 z;rfl
 . intro w' t p;have e:(splice (old.map (λx=>Value.int .u8 ((x:Nat):Int))) 0 (src.map (λx=>Value.int .u8 ((x:Nat):Int))))=(src++old.drop src.length).map (λx=>Value.int .u8 ((x:Nat):Int)):=by
    simp [splice]
   have l:=t.out;rw [e] at l;rw [Ue];exact h w' (aM.of_heap l) p
def Dx (l:a8):l++(YE (l.length+2) 0).drop l.length=l++[0,0]:=by
 rw [XV,WR];rfl
def Jv (l:a8):((l++[0,0]).set l.length 71).set (l.length+1) 72=l++[71,72]:=by
 rw [YK _ _ lR,YK _ _ (by omega)];simp
theorem GC (v:ZV) (l:a8) (w:ZW) (h:Bs w v l) (hl:l.length<=1000000) :
 ZT ZQ 45 #[v] w λe w'=>∃ b,e=Z4 (Z6 (ZZ ⟨b,0,Z0⟩) l.length (l.length+2))/\w.heap.size<=b/\aM w' b (l++[71,72])/\ZU w.heap.size w w':=by
 have n:=h;obtain ⟨ao,c,rfl,f,g,i,j⟩:=h;clear f g i j;go_enter func45,ntmps45;go_wp2_with (first
  | (at_make;refine cO _ rfl (.tmp 8) (.tmp 8) rfl _ (l.length+2) rfl rfl (by omega) (by omega) ?_;intro w1 m d o;clear o)
  | (refine wH rfl (.tmp 10) (.tmp 11) rfl w.heap.size (l.length+2) (l.length+2) _ rfl rfl _ l m (n.mono d) (by omega) (by simp) w.heap.size w d lR ?_;intro w2 a k;rw [Dx] at a;have c1:=a.cell l.length (by simp);have p:=a.cell (l.length+1) (by simp);have q:=a.frozen l.length;have r:=a.frozen (l.length+1)))
 go_ret;refine ⟨w.heap.size,rfl,TU _,?_,?_⟩
 . have:=(a.set l.length 71).set (l.length+1) 72;rw [Jv] at this;exact this
 . exact (k.setCell (by simp) _).setCell (by simp) _
theorem GD (b:Nat) (vb:ZV) (l:a8) (w:ZW) (g:aM w b (l++[71,72])) (o:Bs w vb l) (hl:l.length<=1000000) :
 ZT ZQ 47 #[Z6 (ZZ ⟨b,0,Z0⟩) l.length (l.length+2),vb] w λe w'=>e=Z4 (Z3 ZY)/\w.grownBy w' (ZZ b)/\aM w' b (xr 85 (l++[71,72])):=by
 have z:=o.lt;have i:(l++[71,72]).length=l.length+2:=by simp
 have t:Bs w (Z6 (ZZ ⟨b,0,Z0⟩) l.length (l.length+2)) l:=by
  have:=Bs.Sl (n:=l.length) g (by simp) (by omega) (by intro x d;rcases Ui.1 d with q|q;exact z x q;simp at q;omega);rw [i,List.take_left'] at this;exact this;rfl
 have c1:=g.cell l.length (by simp);have p:=g.cell (l.length+1) (by simp);have r:(l++[71,72]).getD l.length 0=71:=by simp
 have s:(l++[71,72]).getD (l.length+1) 0=72:=by simp
 rw [r] at c1;rw [s] at p;have u:=o;have d:∀ x∈l++[71,72],x<256:=by intro x d;rcases Ui.1 d with q|q;exact z x q;simp at q;omega
 obtain ⟨ao,c,rfl,A,B,C,D⟩:=o;clear A B C D r s;generalize hL:l++[71,72]=L at *;go_enter func47,ntmps47;go_wp2_with fail;refine (Fm _ _ l _ t u).mono ?_;rintro e w1 ⟨rfl,m,rfl⟩;clear t u hL;have h:=ak i;clear i;go_wp2;clear c1 p;go_loopw [8] (λj wr=>SA2 w b 85 L j wr) (λj _=>L.length-(intOf j).toNat)
 case atStart=>exact ⟨0,T8 _,rfl,sI (Ws _ _) _,by rw [GA];exact g⟩
 case round=>
  obtain ⟨j,H,rfl,k,a⟩:=hrel;have J:j<=l.length+2:=by rw [<- h.out];exact H
  by_cases F:j<l.length+2
  . have v:j<L.length:=(by rw [h.out];exact F);have d1:=a.cell j (by rw [Jt];exact v);have I:=a.frozen j;rw [Ju 85 j L v] at d1;have G:=dm d j;have f:=a.set j (L.getD j 0^^^85);rw [GB] at f;have E:=eG k j (Z8 .u8 ((L.getD j 0^^^85:Nat):Int));have K:bits .xor .u8 ((L.getD j 0:Nat):Int) 85=((L.getD j 0^^^85:Nat):Int):=lg (L.getD j 0) 85 G (by decide);generalize L.getD j 0=x at *;clear a k;go_wp2;go_roundw
    case rel=>exact ⟨j+1,by omega,by go_num,E,f⟩
    case measure=>simp [intOf];omega
  . have y:j=L.length:=(by rw [h.out];omega);have f:aM wr b (xr 85 L):=(by rw [y,Js] at a;exact a);clear a y;go_wp2;go_ret;exact ⟨rfl,k,f⟩
def eu.Sk (h:eu w base (Z6 (ZZ ⟨g,0,Z0⟩) n cap) L) {i:Nat} (a:i<L.length):w.cell? ⟨g,i,Z0⟩=ZZ (fx L[i]):=by
 have:=h.own.cells (g:=g) rfl i (fx L[i]) (by simp [a]);rw [jy] at this;exact this
def eu.slice (h:eu w base v L):∃ ao cap,v=.slice ao L.length cap/\(L≠[]->∃ g,ao=ZZ ⟨g,0,Z0⟩):=by
 rcases h.shape with ⟨rfl,rfl⟩|⟨g,cap,rfl,_⟩
 . exact ⟨Z0,0,rfl,λh=>absurd rfl h⟩
 . exact ⟨_,cap,rfl,λ_=>⟨g,rfl⟩⟩
structure bu (B:Nat) (w w':ZW):Prop where
 os:w'.os=w.os
 tape:w'.tape=w.tape
 output:w'.output=w.output
 size:w.heap.size<=w'.heap.size
 block:∀ k,B<=k->k<w.heap.size->w'.heap[k]?=w.heap[k]?
def bu.refl (B:Nat) (w:ZW):bu B w w:=⟨rfl,rfl,rfl,TU _,λ_ _ _=>rfl⟩
def bu.trans {a b c:ZW} (h:bu B a b) (k:bu B b c):bu B a c:=
 ⟨k.os.trans h.os,k.tape.trans h.tape,k.output.trans h.output,TV h.size k.size,λi d e=>(k.block i d (by have:=h.size;omega)).trans (h.block i d e)⟩
def bu.mono {B':Nat} (h:bu B w w') (c:B<=B'):bu B' w w':=⟨h.os,h.tape,h.output,h.size,λk b a=>h.block k (by omega) a⟩
def bu.RM (h:ZU w.heap.size w w'):bu B w w':=⟨h.os,h.tape,h.output,h.size,λk _ a=>h.block k a⟩
def bu.setCell {a:ZW} (h:bu B a w) {p:Addr} (d:p.block<B\/a.heap.size<=p.block) (u:ZV):bu B a (w.setCell p u):=
 ⟨h.os,h.tape,h.output,by have:=h.size;simpa [World.setCell] using this,λk b c=>(V7 _ _ _ _ (by omega)).trans (h.block k b c)⟩
def bu.putObj {a:ZW} (h:bu B a w) {l:Nat} (d:l<B\/a.heap.size<=l) (o:Obj):bu B a (w.putObj l o):=
 ⟨h.os,h.tape,h.output,by have:=h.size;have:=(Xc w l o).size;omega,λk b c=>(UO (by omega)).trans (h.block k b c)⟩
def Below.RO {a:ZW} (h:ZU B a w) {l:Nat} (b:B<=l) (hl:l<w.heap.size) (o:Obj):ZU B a (w.putObj l o):=
 h.grown (Xc w l o) (by omega) (λk e=>by cases e;exact b)
def bu.keeps {C:Nat} (h:bu B w w') (c:B<=C):KeepsFrom C w w':=
 ⟨h.size,λk o b a _=>(h.block k (by omega) (T5.1 a).1).trans a⟩
def cd (h:ZT P f args w R) (k:∀ e w',R e w'->R' e w') :
 Fence.wide.fn f/\(Fence.wide.depth.isSome=ZY->1<=n)/\CallsIn Fence.wide m P f args w R':=
 ⟨trivial,λh=>(by cases h),Vm.2 (h.mono k)⟩
def dq {l:Nat} (h:ZT P f args w R) (k:∀ e w',R e w'->R' e w') :
 (Fence.wide.inRound l).fn f/\((Fence.wide.inRound l).depth.isSome=ZY->1<=n)/\CallsIn (Fence.wide.inRound l) m P f args w R':=
 ⟨trivial,λh=>(by cases h),CallsIn.inRound l (Vm.2 (h.mono k))⟩
def Pf (Q:Exit->ZR->ZW->Prop):Exit->ZR->ZW->Prop
 | .goto _,_,_=>False
 | .exit _,_,_=>False
 | e,a,w=>Q e a w
def gX {b:Frame} {k:List Item} {c:Code}:step P (lone (b.atR a (.code (.scope c)::k)) cs w)=.next (lone (b.atR a (.code c::.inScope c::k)) cs w):=
 step_lone_go (by simp [stepG,stepG.exec,Frame.atR])
def sJ {b:Frame} {k:List Item} {c:Code}:step P (lone (b.atR a (.inScope c::k)) cs w)=.next (lone (b.atR a k) cs w):=
 step_lone_go (by simp [stepG,stepG.exec,Frame.atR])
def Jw {F:Fence} {c:Code} (h:c.wpIn F n P (Pf Q) a w):(Code.scope c).wpIn F n P Q a w:=by
 intro b k cs p m o;have g:(lone (b.atR a (.code (.scope c)::k)) cs w).fenced P F:=fenced_calm m o rfl;obtain ⟨e,f,j,d,i⟩:=h b (.inScope c::k) cs p m o;cases e with
 | normal=>exact ⟨.normal,f,j,d,.head g gX (StepsIn.trans i (.one (fenced_calm m o rfl) sJ))⟩
 | exit id=>exact d.elim
 | goto l=>exact d.elim
 | ret=>exact ⟨_,f,j,d,.of_steps (.one g gX) i⟩
 | panic q=>exact ⟨_,f,j,d,.of_steps (.one g gX) i⟩
 | outgrown=>exact ⟨_,f,j,d,.of_steps (.one g gX) i⟩
def Pg {σ:Type} (B:Nat) (I:σ->ZW->Prop) (s:σ) (W:ZW):Exit->ZR->ZW->Prop
 | .normal,_,W'=>I s W'/\bu B W W'
 | _,_,_=>False
def GE (k:Nat):Fence.wide.room k:=λd h=>by cases h
def wI {m':Nat} {l:Nat} {tmps:Array ZV} {assign body:Code} (h:RoundIn Fence.wide m P l f tmps assign body w R):RoundIn Fence.wide m' P l f tmps assign body w R:=⟨h.1,λc cs _=>h.2 c cs (GE _)⟩
theorem Jy (m:Nat) {α σ:Type} {g:Operand} {ps:Array Tmp} {assign body:Code} {Q:Exit->ZR->ZW->Prop} {a:ZR} {w:ZW}
 {gf:Nat} {lb:Array ZV} (hg:a.eval g=.func (.func gf) #[] lb) (eg:∀ args w,(callFunc gf args).run P w=.ok (.enter gf args) w)
 {encs:α->Array ZV} (k9:∀ x,(encs x).size=ps.size) (step:σ->α->σ) (G:α->Prop)
 (I:σ->ZW->Prop) (k:∀ s A B,I s A->ZU w.heap.size A B->I s B) (S:σ->Prop) (s0:σ)
 (h6:∀ (l:Nat) (J:σ->ZW->Prop) (W:ZW),ZU w.heap.size w W->W.heap.size=w.heap.size+2 ->
  (∀ s A B,J s A->ZU (w.heap.size+2) A B->J s B)->(∀ s A,J s A->I s A/\w.heap.size+2<=A.heap.size) ->
  (∀ m s x b,J s b->G x->YieldAt Fence.wide m P l (encs x) b λe d=>e=Z4 (Z3 ZY)/\J (step s x) d/\bu (w.heap.size+2) b d)->J s0 W ->
  CallsIn Fence.wide (n-1) P gf (#[.func (.yield l) #[] #[]]++lb) W λe d=>(∃ v,e=Z4 v)/\∃ s,S s/\J s d)
 (h0:I s0 w) (E:Nat->α->ZR->ZW->Prop) (hs:∀ B x c A O,E B x c A->bu B A O->E B x c O)
 (h1:∀ (l:Nat) (s:σ) (x:α) (W:ZW) (K:ZR->ZW->Prop),I s W->G x->(∀ c d,ZU W.heap.size W d->E W.heap.size x c d->K c d) ->
  assign.wpIn (Fence.wide.inRound l) m P (Exit.then K (λ_ _ _=>False)) { tmps:=(ps.zip (encs x)).foldl (λt (p,v)=>t.setIfInBounds p v) a.tmps,defers:=[] } W)
 (h5:∀ (l B:Nat) (s:σ) (x:α) (c:ZR) (W:ZW),w.heap.size<=l->l<B->B<=W.heap.size->(∃ r,W.heap[l]?=ZZ (.loop r))->I s W->G x->E B x c W->body.wpIn (Fence.wide.inRound l) m P (Pg w.heap.size I (step s x) W) c W)
 (h7:∀ (D:Nat) (s:σ) (W:ZW),w.heap.size<=D->S s->I s W->W.heap[D]?=ZZ (.deferred (ZZ []))->Q .normal { a with defers:={ target:=.collected D,args:=#[] }::a.defers } W) :
 (Code.rangeFunc g ps assign body).wpIn Fence.wide n P Q a w:=by
 refine wpIn_rangeFunc λfn k7=>?_;obtain ⟨rc,i⟩:∃ rc:LoopState->Loop,rc=λst=>{ state:=st,pending:=Z0,fn,tmps:=a.tmps,params:=ps,assign,body,defers:=w.heap.size }:=⟨_,rfl⟩;obtain ⟨b,y⟩:=nM ((w.alloc (.deferred (ZZ []))).alloc (.loop (rc .ready)));have V:ZU w.heap.size w b:=by rw [<- y];exact (bA w _).alloc (by simp) _
 have ka:b.heap.size=w.heap.size+2:=by rw [<- y];simp
 have hx:b.heap[w.heap.size+1]?=ZZ (.loop (rc .ready)):=by
  rw [<- y];have:=XW (w.alloc (.deferred (ZZ []))) (.loop (rc .ready));rwa [Ul] at this
 have hv:b.heap[w.heap.size]?=ZZ (.deferred (ZZ [])):=by
  rw [<- y];exact (V8 _ _ _ (by simp)).trans (XW w _)
 refine ⟨w.heap.size+1,[{ target:=.collected w.heap.size,args:=#[] }],b,{ target:=.fn (.func gf) lb,args:=#[.func (.yield (w.heap.size+1)) #[] #[]] },b,gf,
  #[.func (.yield (w.heap.size+1)) #[] #[]]++lb,b,?_,?_,λ_ _=>trivial,?_,λh=>(by cases h),?_⟩
 . rw [<- y,i];exact run_enterLoop_outer _ _ _ _ _
 . simp only [resolve,hg];simp [go_sem]
 . simp [invoke,go_sem,eg]
 refine (h6 (w.heap.size+1) (λs W=>I s W/\W.heap[w.heap.size+1]?=ZZ (.loop (rc .ready))/\W.heap[w.heap.size]?=ZZ (.deferred (ZZ []))) b V ka ?_ ?_ ?_ ⟨k _ _ _ h0 V,hx,hv⟩).mono ?_
 . rintro s A B ⟨f,hl,C⟩ H;exact ⟨k _ _ _ f (H.mono (by omega)),(H.block _ (by omega)).trans hl,(H.block _ (by omega)).trans C⟩
 . rintro s A ⟨f,hl,_⟩;exact ⟨f,(T5.1 hl).1⟩
 ·
  rintro m' s x W ⟨f,hl,C⟩ hq;have z:w.heap.size+1<W.heap.size:=(T5.1 hl).1;have N:=run_yield (P:=P) (args:=encs x) hl (by rw [i];exact k9 x);rw [i] at N;refine ⟨fn,_,assign,body,N,wI (roundIn_of_wpIn (n:=m) k7 (h1 _ s x W _ f hq ?_))⟩;clear N;intro c q F hz;have Z:=(F.block _ z).trans hl;have k6:=(F.block _ (by omega)).trans C;have T:w.heap.size+1<q.heap.size:=(T5.1 Z).1;refine ⟨_,run_beginRound Z (by rw [i]),?_⟩;obtain ⟨u,j⟩:=nM (q.putObj (w.heap.size+1) (.loop { rc .ready with state:=.busy }));have k0:ZU w.heap.size q u:=by rw [<- j];exact Below.RO (TW _ _) (by omega) T _
  have U:bu (w.heap.size+2) W u:=by
   rw [<- j];exact ((bu.RM F).trans ((bu.refl _ q).putObj (.inl (by omega)) _))
  have M:u.heap[w.heap.size+1]?=ZZ (.loop { rc .ready with state:=.busy }):=by rw [<- j];exact World.putObj_heap_same T
  have X:u.heap[w.heap.size]?=ZZ (.deferred (ZZ [])):=by rw [<- j];exact (UO (by omega)).trans k6
  rw [j];refine wpIn_mono (h5 _ W.heap.size s x c u (by omega) z U.size ⟨_,M⟩ (k _ _ _ (k _ _ _ f (F.mono (by omega))) k0) hq (hs _ _ _ _ _ hz (by rw [<- j];exact (bu.refl _ q).putObj (.inl z) _))) ?_;rintro e a3 W3 o;cases e with
  | normal=>
   obtain ⟨k8,L⟩:=o;have Y:=(L.block _ (by omega) (T5.1 M).1).trans M;have k5:=(L.block _ lR (T5.1 X).1).trans X;have R:=(T5.1 Y).1;have hr:=run_endRound (P:=P) Z0 Y;refine ⟨_,_,hr,rfl,⟨k _ _ _ k8 (Below.RO (TW _ _) (by omega) R _),?_,(UO (by omega)).trans k5⟩,?_⟩
   . rw [World.putObj_heap_same R,i];rfl
   . exact (U.trans (L.mono (by omega))).putObj (.inl (by omega)) _
  | ret=>exact o.elim
  | exit id=>exact o.elim
  | goto t=>exact o.elim
  | panic ch=>exact o.elim
  | outgrown=>exact o.elim
 ·
  rintro e W2 ⟨⟨v,rfl⟩,s,hS,f,hl,C⟩;have z:=(T5.1 hl).1;refine ⟨Z0,_,by have:=run_endLoop (P:=P) hl (by rw [i];simp);rw [i] at this;exact this,?_⟩;exact h7 _ s _ lR hS (k _ _ _ f (Below.RO (TW _ _) (by omega) z _)) ((UO (by omega)).trans C)
section
def sK (ops:Array ZS) (i:Nat):a8:=match ops[i]? with
 | some o=>(o.after.toList.filter (λe=>Region.binds .any e)).map (λe=>e.on)
 | none=>[]
def Jz (ops:Array ZS):Nat->Nat->Nat->Bool
 | 0,_,_=>ZX
 | f+1,j,k=>(sK ops j).any λm=>m==k || Jz ops f m k
def Dy (ops:Array ZS) (z:Nat):Bool:=(YF ops.size).all λj=>decide (j<z) || (YF ops.size).all λk=>decide (z<=k) || Jz ops ops.size j k
def wJ (ops:Array ZS) (x:Array Bool):Prop:=∀ j,x.getD j ZX=ZY->∀ k∈sK ops j,x.getD k ZX=ZY
def AQ (h:wJ ops x):∀ (f j k:Nat),Jz ops f j k=ZY->(∀ m∈sK ops j,x.getD m ZX=ZY)->x.getD k ZX=ZY
 | 0,_,_,h0,_=>by cases h0
 | f+1,j,k,h0,hj=>by
  obtain ⟨m,a,q⟩:=List.any_eq_true.1 h0;rcases Bool.or_eq_true_iff.1 q with q|q
  . rw [<- eq_of_beq q];exact hj m a
  . exact AQ h f m k q (h m (hj m a))
def zf (h:i∈Region.ready .any ops x):i<ops.size/\∀ m∈sK ops i,x.getD m ZX=ZY:=by
 obtain ⟨_,o,ho,b⟩:=mem_ready.1 h;refine ⟨(T5.1 ho).1,λm a=>?_⟩;unfold sK at a;rw [ho] at a;obtain ⟨e,c,rfl⟩:=T9.1 a;obtain ⟨d,f⟩:=Vy.1 c;exact b e (YM.1 d) f
def wJ.set (h:wJ ops x) (d:i∈Region.ready .any ops x):wJ ops (x.setIfInBounds i ZY):=λj a k b=>by
 have key:∀ k,x.getD k ZX=ZY->(x.setIfInBounds i ZY).getD k ZX=ZY:=λk q=>by
  by_cases e:i=k
  . subst e;have:i<x.size:=by
     by_cases c:i<x.size
     . exact c
     . simp [Xv,c] at q
    simp [Xv,this]
  . rw [getD_set_ne ZX e];exact q
 by_cases e:i=j
 . subst e;exact key k ((zf d).2 k b)
 . rw [getD_set_ne ZX e] at a;exact key k (h j a k b)
def Xp (P:Program) (ops:Array ZS) (Q:ZR->ZW->Prop) (i:Nat) (a:ZR) (w:ZW) (K:ZR->ZW->Prop):Prop:=wpOp P ops (λe a w=>e=.normal/\Q a w) i K a w
def Xi (Fc:Fence) (n:Nat) (P:Program) (ops:Array ZS) (Q:ZR->ZW->Prop) (i:Nat) (a:ZR) (w:ZW) (K:ZR->ZW->Prop):Prop:=wpOpIn Fc n P ops (λe a w=>e=.normal/\Q a w) i K a w
section
variable {P:Program} {ops:Array ZS} {S:ZW->Prop} {Q:ZR->ZW->Prop} {X:Nat->ZR->ZW->(ZR->ZW->Prop)->Prop} {z:Nat}
structure JA (P:Program) (ops:Array ZS) (X:Nat->ZR->ZW->(ZR->ZW->Prop)->Prop):Prop where
 mono:∀ {i:Nat} {a:ZR} {w:ZW} {K K':ZR->ZW->Prop},(∀ a w,K a w->K' a w)->X i a w K->X i a w K'
 yes:∀ {S:ZW->Prop} {i:Nat} {o:ZS} {v:ZV} {a:ZR} {w:ZW} {K:ZR->ZW->Prop},ops[i]?=ZZ o->YieldsIf P ops S o v a->S w->K (a.put o.dst v) w->X i a w K
 put:∀ {S:ZW->Prop} {i j:Nat} {oi oj:ZS} {v:ZV} {a:ZR} {w:ZW} {K:ZR->ZW->Prop},ops[i]?=ZZ oi->ops[j]?=ZZ oj->oi.apart ops oj=ZY->YieldsIf P ops S oi v a->X j (a.put oi.dst v) w K->X j a w λa' w'=>YieldsIf P ops S oi v a'/\K (a'.put oi.dst v) w'
def vD (ops:Array ZS) (S:ZW->Prop) (Q:ZR->ZW->Prop) (X:Nat->ZR->ZW->(ZR->ZW->Prop)->Prop) (z:Nat):Nat->Array Bool->ZR->ZW->Prop
 | 0,x,a,w=>Region.ready .any ops x=[]/\Q a w
 | f+1,x,a,w=>(Region.ready .any ops x=[]->Q a w)/\∀ i∈Region.ready .any ops x,X i a w λa' w'=>(i<z->S w')/\vD ops S Q X z f (x.setIfInBounds i ZY) a' w'
def Dz (n:JA P ops X) (W:Dy ops z=ZY) {i:Nat} {oi:ZS} {v:ZV} (s:ops[i]?=ZZ oi) (N:i<z):∀ (f:Nat) (x:Array Bool) (a:ZR) (w:ZW),wJ ops x ->
 (∀ j g,ops[j]?=ZZ g->j≠i->x.getD j ZY=ZX->(∀ e∈g.after,Region.binds .any e=ZY->e.on≠i)->oi.apart ops g=ZY)->i∈Region.ready .any ops x->YieldsIf P ops S oi v a->S w->vD ops S Q X z f (x.setIfInBounds i ZY) (a.put oi.dst v) w->vD ops S Q X z (f+1) x a w:=by
 intro f;induction f with
 | zero=>
  intro x a w _ _ c o l H;refine ⟨λh=>(by rw [h] at c;cases c),λj d=>?_⟩;by_cases b:j=i
  . subst b;exact n.yes s o l ⟨λ_=>l,H⟩
  . have:=ready_mono d b;rw [H.1] at this;cases this
 | succ f ih=>
  intro x a w A u c o l H;refine ⟨λh=>(by rw [h] at c;cases c),λj d=>?_⟩;by_cases b:j=i
  . subst b;exact n.yes s o l ⟨λ_=>l,H⟩
  . obtain ⟨y,g,C,G⟩:=mem_ready.1 d;have F:=(mem_ready.1 c).1;have r:x.getD i ZX=ZX:=by
     rcases XX i x.size with p|p
     . simpa [Xv,p] using F
     . simp [Xv,p]
    have I:∀ e∈g.after,Region.binds .any e=ZY->e.on≠i:=λe L J M=>by
     have t:=G e L J;rw [M,r] at t;cases t
    have T:j<z:=Nat.lt_of_not_le λe=>by
     obtain ⟨R,K⟩:=zf d;have q:=XY.1 W j (Uu.2 R);rw [Vc (Wy.2 e),YN] at q;have q:=XY.1 q i (Uu.2 (zf c).1);rw [Vc (Nat.not_le.2 N),YN] at q;rw [AQ A _ _ _ q K] at r;cases r
    refine n.mono (λE w' m=>⟨m.2.1,ih (x.setIfInBounds j ZY) E w' (A.set d) (λk ok O U D V=>u k ok O U ?_ V) (ready_mono c (Vk b)) m.1 (m.2.1 T) ?_⟩) (n.put s C (u j g C b y I) o (H.2 j (ready_mono d b)))
    . by_cases B:j=k
      . subst B;exact y
      . rw [getD_set_ne ZY B] at D;exact D
    . rw [abl _ _ b];exact m.2.2
inductive Wt
 | en
 | on (i:Nat) (b:Bool) (t:Wt)
 | fk (t1 t2:Wt)
@[reducible] def wl:List (Nat×Bool)->Wt->Wt
 | [],t=>t
 | (i,b)::l,t=>.on i b (wl l t)
def LW (P:Program) (ops:Array ZS) (Q:ZR->ZW->Prop) (S:ZW->Prop) (X:Nat->ZR->ZW->(ZR->ZW->Prop)->Prop) (z:Nat):Wt->ZR->ZW->Prop
 | .en,a,w=>Q a w
 | .on i ZY t,a,w=>∃ o v,ops[i]?=ZZ o/\YieldsIf P ops S o v a/\LW P ops Q S X z t (a.put o.dst v) w
 | .on i ZX t,a,w=>X i a w λa' w'=>(i<z->S w')/\LW P ops Q S X z t a' w'
 | .fk t1 t2,a,w=>LW P ops Q S X z t1 a w/\LW P ops Q S X z t2 a w
def OF:Wt->a8
 | .on i _ _=>[i]
 | .fk a b=>OF a++OF b
 | .en=>[]
def DA (z:Nat):Wt->Bool
 | .en=>ZX
 | .on i _ t=>decide (i<z) || DA z t
 | .fk a b=>DA z a || DA z b
def mZ (ops:Array ZS) (z:Nat):Bool->Wt->Array Bool->Nat->Bool
 | k,.en,x,n=>!k&&(Region.ready .any ops x).isEmpty&&n==0
 | k,.on i ZY t,x,n=>!k&&(Region.free .any ops x i&&(Region.ready .any ops x).contains i)&&decide (i<z)&&decide (0<n)&&mZ ops z ZX t (x.setIfInBounds i ZY) (n-1)
 | k,.on i ZX t,x,n=>(k || Region.ready .any ops x==[i])&&(decide (i<z) || !DA z t)&&decide (0<n)&&mZ ops z ZX t (x.setIfInBounds i ZY) (n-1)
 | k,.fk a b,x,n=>(k || Region.ready .any ops x==OF a++OF b)&&mZ ops z ZY a x n&&mZ ops z ZY b x n
def Fs:∀ (t:Wt) (x:Array Bool) (n:Nat),mZ ops z ZY t x n=ZY->OF t≠[]/\0<n
 | .en,_,_,h=>by simp [mZ] at h
 | .on i ZY t,_,_,h=>by simp [mZ] at h
 | .on i ZX t,_,_,h=>by simp only [mZ,VK,VW] at h;exact ⟨nofun,h.1.2⟩
 | .fk a b,x,n,h=>by
  simp only [mZ,VK] at h;obtain ⟨q,c⟩:=Fs a x n h.1.2;exact ⟨λe=>q (YO.1 e).1,c⟩
def sL (g:JA P ops X) (r:Dy ops z=ZY):∀ (t:Wt) (k:Bool) (x:Array Bool) (n:Nat) (a:ZR) (w:ZW),wJ ops x->mZ ops z k t x n=ZY->(DA z t=ZY->S w)->LW P ops Q S X z t a w ->
 (k=ZX->vD ops S Q X z n x a w)/\(k=ZY->∀ i∈OF t,i∈Region.ready .any ops x->X i a w λf w'=>(i<z->S w')/\vD ops S Q X z (n-1) (x.setIfInBounds i ZY) f w')
 | .en,k,x,n,a,w,_,hk,_,h=>by
  simp only [mZ,VK,beq_iff_eq,Yv] at hk;obtain ⟨⟨rfl,q⟩,rfl⟩:=hk;exact ⟨λ_=>⟨by simpa using q,h⟩,nofun⟩
 | .on i ZY t,k,x,n,a,w,hc,hk,d,h=>by
  simp only [mZ,VK,VW,Yv] at hk;obtain ⟨⟨⟨⟨rfl,b,l⟩,s⟩,y⟩,F⟩:=hk;obtain ⟨o,v,A,D,E⟩:=h;have c:i∈Region.ready .any ops x:=by simpa using l
  have d:=d (by simp [DA,s]);refine ⟨λ_=>?_,nofun⟩;have:=Dz g r A s _ _ _ _ hc (Region.free_spec A b) c D d ((sL g r t ZX _ (n-1) _ _ (hc.set c) F (λ_=>d) E).1 rfl);rwa [Nat.sub_add_cancel y] at this
 | .on i ZX t,k,x,n,a,w,hc,hk,d,h=>by
  simp only [mZ,VK,beq_iff_eq,Xw,VW,Yv] at hk;obtain ⟨⟨⟨b,l⟩,s⟩,y⟩:=hk;have core:i∈Region.ready .any ops x->X i a w λf w'=>(i<z->S w')/\vD ops S Q X z (n-1) (x.setIfInBounds i ZY) f w':=λc=>
   g.mono (λf w' q=>⟨q.1,(sL g r t ZX _ (n-1) _ _ (hc.set c) y (λe=>q.1 (l.resolve_right (by rw [e];decide))) q.2).1 rfl⟩) h
  refine ⟨λe=>?_,λ_ j p c=>by rw [U5.1 p] at c ⊢;exact core c⟩;have b:=b.resolve_left (by rw [e];decide);obtain ⟨m,rfl⟩:∃ m,n=m+1:=⟨n-1,by omega⟩;exact ⟨λq=>absurd (b▸q) (by simp),λj p=>by have c:=p;rw [b] at p;rw [U5.1 p] at c ⊢;exact core c⟩
 | .fk t1 B,k,x,n,a,w,hc,hk,d,h=>by
  simp only [mZ,VK,beq_iff_eq,Xw] at hk;obtain ⟨⟨b,l⟩,s⟩:=hk;have G:=(sL g r t1 ZY x n a w hc l (λe=>d (by simp [DA,e])) h.1).2 rfl;have H:=(sL g r B ZY x n a w hc s (λe=>d (by simp [DA,e])) h.2).2 rfl;have core:∀ i∈OF t1++OF B,i∈Region.ready .any ops x->X i a w λf w'=>(i<z->S w')/\vD ops S Q X z (n-1) (x.setIfInBounds i ZY) f w':=λi u=>(Ui.1 u).elim (G i) (H i);refine ⟨λe=>?_,λ_=>core⟩;have b:=b.resolve_left (by rw [e];decide);obtain ⟨C,I⟩:=Fs t1 x n l;obtain ⟨m,rfl⟩:∃ m,n=m+1:=⟨n-1,by omega⟩;exact ⟨λq=>absurd (YO.1 (b▸q)).1 C,λi u=>core i (b▸u) u⟩
def qH (ops:Array ZS) (z:Nat) (t:Wt):Bool:=Region.noSelect ops&&mZ ops z ZX t (YP ops.size ZX) ops.size&&Dy ops z
theorem wK (e:JA P ops X) {t:Wt} (c:qH ops z t=ZY) {a:ZR} {w:ZW} (d:S w) (h:LW P ops Q S X z t a w):vD ops S Q X z ops.size (YP ops.size ZX) a w:=by
 simp only [qH,VK] at c;exact (sL e c.2 t ZX _ _ a w (λj b=>by
  simp only [Xv,Array.getElem?_replicate] at b;split at b<;>cases b) c.1.2 (λ_=>d) h).1 rfl
def AR {p:Prop} (h:n<n):p:=absurd h (Nat.lt_irrefl n)
def cB (h:Q a w):LW P ops Q S X z .en a w:=h
def aC {l:Wt} (ho:ops.toList[i]?=ZZ o) (b:Region.wanted o (yielded ops a.tmps)=ZY) (h:∃ v,(∀ w,S w->(execOp a.eval o).run P w=.ok (.value v) w)/\LW P ops Q S X z l (a.put o.dst v) w):LW P ops Q S X z (.on i ZY l) a w:=h.elim λv h=>⟨o,v,by simpa using ho,.inl ⟨b,h.1⟩,h.2⟩
end
section
variable {P:Program} {ops:Array ZS} {S:ZW->Prop} {Q:ZR->ZW->Prop} {z i:Nat} {l:Wt} {a:ZR} {w w1:ZW} {o:ZS}
def aah (a:Region.noSelect ops=ZY):JA P ops (Xp P ops Q) where
 mono h:=wpOp_mono h
 yes hi hy hS h:=hy.wpOp hi hS h
 put hi hj h0 hy h:=wpOp_putIf hj h0 (λcs b=>Yw a _ _ cs b hi) (λcs b=>Yw a _ _ cs b hj) (λ_ _ _ q=>absurd q.1 nofun) hy h
def Ft:∀ (f:Nat) (x:Array Bool) (a:ZR) (w:ZW),vD ops S Q (Xp P ops Q) z f x a w->wpAny P .any ops (λe a w=>e=.normal/\Q a w) f x a w
 | 0,_,_,_,h=>⟨h.1,rfl,h.2⟩
 | f+1,_,_,_,h=>⟨λq=>⟨rfl,h.1 q⟩,λi c=>wpOp_mono (λb w' q=>Ft f _ b w' q.2) (h.2 i c)⟩
def lh (z:Nat) (t:Wt) (S:ZW->Prop) (d:P.follows .mixedOrders=ZY) (b:qH ops z t=ZY) (c:S w.drew) (h:LW P ops (λa w=>U .normal a w) S (Xp P ops λa w=>U .normal a w) z t a w.drew):(Code.region m ops ZY).wp P U a w:=
 Code.wp_mono (Q:=λe a w=>e=.normal/\U .normal a w) (λe a w q=>by obtain ⟨rfl,q⟩:=q;exact q) (wp_region_any d (Ft _ _ _ _ (wK (aah (by simp only [qH,VK] at b;exact b.1.1)) b c h)))
def du (z:Nat) (l:List (Nat×Bool)) (S:ZW->Prop) (d:P.follows .mixedOrders=ZY) (c:qH ops z (wl l .en)=ZY) (b:S w.drew) (h:LW P ops (λa w=>U .normal a w) S (Xp P ops λa w=>U .normal a w) z (wl l .en) a w.drew):(Code.region m ops ZY).wp P U a w:=lh z _ S d c b h
def sM (ho:ops.toList[i]?=ZZ o) (c:Region.wanted o (yielded ops a.tmps)=ZY) (h:∀ K:ZR->ZW->Prop,(∀ b w',(i<z->S w')->LW P ops Q S (Xp P ops Q) z l b w'->K b w')->o.wp P a w K (λe a w=>e=.normal/\Q a w)):LW P ops Q S (Xp P ops Q) z (.on i ZX l) a w:=by
 show Xp P ops Q i a w _;unfold Xp wpOp;rw [show ops[i]?=ZZ o by simpa using ho];show if _ then _ else _;rw [TT c];exact .inl (h _ λ_ _ d f=>⟨d,f⟩)
def eK (ho:ops.toList[i]?=ZZ o) (d:Region.wanted o (yielded ops a.tmps)=ZY) (c:(execOp a.eval o).run P w=.ok (.value v) w1) (b:i<z->S w1) (h:LW P ops Q S (Xp P ops Q) z l (a.put o.dst v) w1):LW P ops Q S (Xp P ops Q) z (.on i ZX l) a w:=sM ho d λK hK=>by
 unfold Oper.wp;rw [c];exact hK _ _ b h
def jX (ho:ops.toList[i]?=ZZ o) (d:Region.wanted o (yielded ops a.tmps)=ZY) (c:(execOp a.eval o).run P w=.ok .skip w1) (b:i<z->S w1) (h:LW P ops Q S (Xp P ops Q) z l (a.put o.dst Z1) w1):LW P ops Q S (Xp P ops Q) z (.on i ZX l) a w:=sM ho d λK hK=>by
 unfold Oper.wp;rw [c];exact hK _ _ b h
def fF (b:ZT P f args w1 R) (ho:ops.toList[i]?=ZZ o) (d:Region.wanted o (yielded ops a.tmps)=ZY) (c:(execOp a.eval o).run P w=.ok (.enter f args) w1) (h:∀ e w',R e w'->∃ v,e=Z4 v/\(i<z->S w')/\LW P ops Q S (Xp P ops Q) z l (a.put o.dst v) w'):LW P ops Q S (Xp P ops Q) z (.on i ZX l) a w:=sM ho d λK hK=>by
 unfold Oper.wp;rw [c];refine b.mono λe w' q=>?_;obtain ⟨v,rfl,g,j⟩:=h e w' q;exact hK _ _ g j
end
structure OG (Fc:Fence):Prop where
 fn:∀ f,Fc.fn f
 dp:Fc.depth.isSome=ZY->False
 cl:∀ {n:Nat} {P:Program} {f:FuncId} {args:Array ZV} {w:ZW} {R:Ending->ZW->Prop},ZT P f args w R->CallsIn Fc n P f args w R
def gQ:OG Fence.wide:=⟨λ_=>trivial,λh=>(by cases h),λh=>Vm.2 h⟩
def dr (l:Nat):OG (Fence.wide.inRound l):=⟨λ_=>trivial,λh=>(by cases h),λh=>CallsIn.inRound l (Vm.2 h)⟩
def rR (ops:Array ZS):Bool:=ops.toList.all λo=>match o.op with|.defer _=>ZX|_=>ZY
def sN (h:rR ops=ZY) {i:Nat} {o:ZS} (ho:ops[i]?=ZZ o) (c:Call):o.op≠.defer c:=λe=>by
 have:=XY.1 h o (YM.2 (Array.mem_of_getElem? ho));rw [e] at this;cases this
section
variable {Fc:Fence} {n:Nat} {P:Program} {ops:Array ZS} {S:ZW->Prop} {Q:ZR->ZW->Prop} {z i:Nat} {l:Wt} {a:ZR} {w w1:ZW} {o:ZS}
theorem Q3 (q:OG Fc) (A:Region.noSelect ops=ZY) (z:rR ops=ZY):JA P ops (Xi Fc n P ops Q) where
 mono h:=wpOpIn_mono h
 yes {_ i o v a w K} hi hy hS h:=by
  unfold Xi wpOpIn;simp only [hi];rcases hy with ⟨m,C⟩|⟨m,rfl⟩
  . simp only [m,if_true,Oper.wpIn,Wg _ _ _ (sN z hi),C w hS,Oper.uponIn];exact ⟨λf _=>q.fn f,h⟩
  . simp only [m,Bool.false_eq_true,if_false];exact ⟨λf _=>q.fn f,h⟩
 put {S i j oi oj v a w K} hi hj h5 hy h:=by
  have y:=λcs b=>Yw A _ _ cs b hi;have B:=λcs b=>Yw A _ _ cs b hj;have s:=sN z hj;obtain ⟨t,k,p⟩:=Oper.apart_spec h5;have keep:∀ u,YieldsIf P ops S oi v (a.put oj.dst u):=λu=>hy.of_same (execOp_put oi y a oj.dst u p) (wanted_put oi a oj.dst u p);unfold Xi wpOpIn at *;simp only [hj] at *;rw [wanted_put oj a oi.dst v t] at h;split
  . rename_i m
    simp only [m,if_true] at h;refine ⟨λf _=>q.fn f,?_⟩;have h:=h.2;rw [Wg _ _ _ s,execOp_put oj B a oi.dst v t] at h;rw [Wg _ _ _ s];generalize (execOp a.eval oj).run P w=r at *;cases r with
    | ok x w'=>
     cases x<;>simp only [Oper.uponIn] at h ⊢
     case value u=>exact ⟨keep u,by rw [<- Xd a v u k];exact h⟩
     case skip=>exact ⟨keep _,by rw [<- Xd a v Z1 k];exact h⟩
     case defer d=>exact ⟨(hy.of_same rfl rfl:YieldsIf P ops S oi v { a with defers:=d::a.defers }).of_same (execOp_put oi y _ oj.dst _ p) (wanted_put oi _ oj.dst _ p),by rw [<- Xd _ v Z1 k,<- Act.put_defers];exact h⟩
     case enter f args=>
      refine ⟨h.1,CallsIn.mono h.2 λe w'' g=>?_⟩;cases e with
      | returned u=>exact ⟨keep u,by rw [<- Xd a v u k];exact g⟩
      | panicked c=>exact absurd g.1 nofun
      | outgrown=>exact g
     case row row args=>exact ⟨h.1,RowsIn.mono h.2 λu w'' g=>⟨keep u,by rw [<- Xd a v u k];exact g⟩⟩
     case round l f tmps assign body=>
      refine ⟨h.1,RoundIn.mono h.2 λe w'' g=>?_⟩;cases e with
      | returned u=>exact ⟨keep u,by rw [<- Xd a v u k];exact g⟩
      | panicked c=>exact absurd g.1 nofun
      | outgrown=>exact g
    | _=>
     rename_i x _
     cases x<;>simp only [Oper.uponIn] at h ⊢
     case panic u=>exact absurd h.1 nofun
  . rename_i m
    simp only [m] at h;exact ⟨λf _=>q.fn f,keep _,by rw [<- Xd a v Z1 k];exact h.2⟩
def wL:∀ (f:Nat) (x:Array Bool) (a:ZR) (w:ZW),vD ops S Q (Xi Fc n P ops Q) z f x a w->wpAnyIn Fc n P .any ops (λe a w=>e=.normal/\Q a w) f x a w
 | 0,_,_,_,h=>⟨h.1,rfl,h.2⟩
 | f+1,_,_,_,h=>⟨λq=>⟨rfl,h.1 q⟩,λi c=>wpOpIn_mono (λb w' q=>wL f _ b w' q.2) (h.2 i c)⟩
def nH (c:OG Fc) {U:Exit->ZR->ZW->Prop} {m:Nat} (z:Nat) (t:Wt) (S:ZW->Prop) (f:P.follows .mixedOrders=ZY) (b:(qH ops z t&&rR ops)=ZY) (d:S w.drew) (h:LW P ops (λa w=>U .normal a w) S (Xi Fc n P ops λa w=>U .normal a w) z t a w.drew):(Code.region m ops ZY).wpIn Fc n P U a w:=by
 rw [VK] at b;have g:Region.noSelect ops=ZY:=by have:=b.1;simp only [qH,VK] at this;exact this.1.1
 exact Code.wpIn_mono (Q:=λe a w=>e=.normal/\U .normal a w) (λe a w q=>by obtain ⟨rfl,q⟩:=q;exact q) (wpIn_region_any f (wL _ _ _ _ (wK (Q3 c g b.2) b.1 d h)))
def bB (b:OG Fc) {U:Exit->ZR->ZW->Prop} {m:Nat} (z:Nat) (l:List (Nat×Bool)) (S:ZW->Prop) (e:P.follows .mixedOrders=ZY) (d:(qH ops z (wl l .en)&&rR ops)=ZY) (c:S w.drew) (h:LW P ops (λa w=>U .normal a w) S (Xi Fc n P ops λa w=>U .normal a w) z (wl l .en) a w.drew):(Code.region m ops ZY).wpIn Fc n P U a w:=nH b z _ S e d c h
def DB (ho:ops.toList[i]?=ZZ o) (c:Region.wanted o (yielded ops a.tmps)=ZY) (h:∀ K:ZR->ZW->Prop,(∀ b w',(i<z->S w')->LW P ops Q S (Xi Fc n P ops Q) z l b w'->K b w')->o.wpIn Fc n P a w K (λe a w=>e=.normal/\Q a w)):LW P ops Q S (Xi Fc n P ops Q) z (.on i ZX l) a w:=by
 show Xi Fc n P ops Q i a w _;unfold Xi wpOpIn;rw [show ops[i]?=ZZ o by simpa using ho];show if _ then _ else _;rw [TT c];exact h _ λ_ _ d f=>⟨d,f⟩
def lU (d:OG Fc) {v:ZV} (ho:ops.toList[i]?=ZZ o) (j:Region.wanted o (yielded ops a.tmps)=ZY) (b:∀ c,o.op≠.defer c) (g:(execOp a.eval o).run P w=.ok (.value v) w1) (e:i<z->S w1) (h:LW P ops Q S (Xi Fc n P ops Q) z l (a.put o.dst v) w1):LW P ops Q S (Xi Fc n P ops Q) z (.on i ZX l) a w:=DB ho j λK hK=>⟨λf _=>d.fn f,by
 rw [Wg _ _ _ b,g];exact hK _ _ e h⟩
def dS (d:OG Fc) (ho:ops.toList[i]?=ZZ o) (j:Region.wanted o (yielded ops a.tmps)=ZY) (b:∀ c,o.op≠.defer c) (g:(execOp a.eval o).run P w=.ok .skip w1) (e:i<z->S w1) (h:LW P ops Q S (Xi Fc n P ops Q) z l (a.put o.dst Z1) w1):LW P ops Q S (Xi Fc n P ops Q) z (.on i ZX l) a w:=DB ho j λK hK=>⟨λf _=>d.fn f,by
 rw [Wg _ _ _ b,g];exact hK _ _ e h⟩
def dF (b:OG Fc) {f:FuncId} {args:Array ZV} {R:Ending->ZW->Prop} (g:ZT P f args w1 R) (ho:ops.toList[i]?=ZZ o) (k:Region.wanted o (yielded ops a.tmps)=ZY) (d:∀ c,o.op≠.defer c) (j:(execOp a.eval o).run P w=.ok (.enter f args) w1) (h:∀ e w',R e w'->∃ v,e=Z4 v/\(i<z->S w')/\LW P ops Q S (Xi Fc n P ops Q) z l (a.put o.dst v) w'):LW P ops Q S (Xi Fc n P ops Q) z (.on i ZX l) a w:=DB ho k λK hK=>⟨λf _=>b.fn f,by
 rw [Wg _ _ _ d,j];refine ⟨λh=>(b.dp h).elim,b.cl (g.mono λe w' q=>?_)⟩;obtain ⟨v,rfl,m,p⟩:=h e w' q;exact hK _ _ m p⟩
end
end
def cV (D L G:Int):Bool:=decide (1<=D/\D<=12/\1<=L/\L<=4/\0<=G/\G<=4/\D%L=0/\D+L+G<=16)
def nI {a b:Bool} (h:a=b):Ending.returned (Z3 a)=Z4 (Z3 b):=by rw [h]
theorem dw (D L G:Int) (w:ZW) (a:0<=D/\D<=100) (b:0<=L/\L<=100) (c:0<=G/\G<=100) :
 ZT ZQ 9 #[.agg #[Z8 Z9 D,Z8 Z9 L,Z8 Z9 G]] w λe w'=>e=Z4 (Z8 Z9 (D+L+G))/\ZU w.heap.size w w':=by
 obtain ⟨d,f⟩:=a;obtain ⟨b1,b2⟩:=b;obtain ⟨c1,g⟩:=c;go_enter func9,ntmps9;go_wp2;go_ret;exact ⟨rfl,bA _ _⟩
theorem oY (D L G:Int) (w:ZW) :
 ZT ZQ 65 #[.agg #[Z8 Z9 D,Z8 Z9 L,Z8 Z9 G]] w λe w'=>e=Z4 (Z3 (cV D L G))/\ZU w.heap.size w w':=by
 go_enter func65,ntmps65;go_wp2_with (go_at_call 9;refine (dw D L G _ (by omega) (by omega) (by omega)).mono ?_;rintro e w' ⟨rfl,a⟩);all_goals go_ret
 . refine ⟨nI (b:=cV D L G) ?_,(bA _ _).trans (a.mono (by simp))⟩;unfold cV;rw [decide_eq_decide];constructor
   . intro h;exact ⟨by omega,by omega,by omega,by omega,by omega,by omega,by assumption,h⟩
   . intro h;exact h.2.2.2.2.2.2.2
 all_goals
  refine ⟨nI (b:=cV D L G) ?_,bA _ _⟩;unfold cV;symm;rw [decide_eq_false_iff_not];intro h;omega
theorem DC (D L G:Int) (w:ZW) :
 ZT ZQ 62 #[.agg #[Z8 Z9 D,Z8 Z9 L,Z8 Z9 G]] w λe w'=>e=Z4 (Z3 (cV D L G))/\ZU w.heap.size w w':=by
 go_enter func62,ntmps62;go_wp2;all_goals go_ret
 rotate_left
 . refine ⟨nI (b:=cV D L G) ?_,bA _ _⟩;unfold cV;rw [decide_eq_decide];constructor
   . intro h;exact ⟨by omega,by omega,by omega,by omega,by omega,by omega,by assumption,h⟩
   . intro h;exact h.2.2.2.2.2.2.2
 all_goals
  refine ⟨nI (b:=cV D L G) ?_,bA _ _⟩;unfold cV;symm;rw [decide_eq_false_iff_not];intro h;omega
theorem DD (D L G:Int) (w:ZW) :
 ZT ZQ 22 #[.agg #[Z8 Z9 D,Z8 Z9 L,Z8 Z9 G]] w λe w'=>e=Z4 (.agg #[Z8 Z9 D,Z8 Z9 L,Z8 Z9 G])/\ZU w.heap.size w w':=by
 go_enter func22,ntmps22;go_wp2;exact Us (v:=.agg #[Z8 Z9 D,Z8 Z9 L,Z8 Z9 G]) (by simp [results,results22,go_sem]) rfl ⟨rfl,(bA _ _).alloc (by simp) _⟩
def AS (b k:Nat) (a:b<65536):(bits .and .i64 ((b:Int)/2^k) 1==1)=decide (b/2^k%2=1):=by
 have h:b/2^k<2^62:=WS (VP _ _) (Xb a (by decide));have e:=Fl (b/2^k) 1 h (by decide);rw [Pc] at e;have c:((b/2^k:Nat):Int)=(b:Int)/2^k:=by simp
 rw [c,show ((1:Nat):Int)=1 from rfl] at e;rw [e,Yo];simp;omega
def Ph (a b k:Nat) (d:a<256) (g:k<8) (h:b/2^k%2=1) :
 bits .xor .i64 (pm a b k:Int) (wrap64 ((a:Int)*2^k))=(pm a b (k+1):Int):=by
 have c:2^k<=2^7:=UW (by decide) (by omega);have f:a*2^k<=256*2^7:=Xe (by omega) c;have i:=OD a b d k (by omega);have e:wrap64 ((a:Int)*2^k)=((a*2^k:Nat):Int):=by
  have:((a*2^k:Nat):Int)=(a:Int)*2^k:=by simp
  rw [<- this];unfold wrap64;omega
 rw [e,zd _ _ (by omega) (by omega)];simp only [pm,h,if_true]
def Q4 (a b k:Nat) (h:¬ b/2^k%2=1):(pm a b k:Int)=(pm a b (k+1):Int):=by
 simp only [pm,h,if_false]
theorem Q5 (k p:Nat) (b:k<=6) (a:p<65536):(if p/2^(k+8)%2=1 then p^^^(285*2^k) else p)<65536:=by
 split
 . refine V4 (n:=16) a ?_;have:2^k<=2^6:=UW (by decide) b;omega
 . exact a
def Pi (k p:Nat) (a:k<=6) (c:p<65536) (h:p/2^(k+8)%2=1) :
 bits .xor .i64 (p:Int) (wrap64 (285*2^k))=((if p/2^(k+8)%2=1 then p^^^(285*2^k) else p:Nat):Int):=by
 have b:2^k<=2^6:=UW (by decide) a;have e:wrap64 (285*2^k)=((285*2^k:Nat):Int):=by
  have:((285*2^k:Nat):Int)=285*2^k:=by simp
  rw [<- this];unfold wrap64;omega
 rw [TT h,e,zd _ _ (by omega) (by omega)]
theorem sO (a b:Nat) (f:a<256) (z:b<256) (w:ZW) :
 ZT ZQ 64 #[Z8 .u8 a,Z8 .u8 b] w λe w'=>e=Z4 (Z8 .u8 (gm a b))/\w'=w:=by
 go_enter func64,ntmps64;go_wp2;go_loop [5,7] (λs t=>∃ k:Nat,k<=8/\s=Z8 Z9 (pm a b k)/\t=Z8 Z9 k) (λ_ t=>8-(intOf t).toNat)
 case atStart=>exact ⟨0,by decide,rfl,rfl⟩
 case round=>
  obtain ⟨k,A,rfl,rfl⟩:=hrel;have B:=OD a b f k A;by_cases y:k<8
  . have d:=AS b k (by omega);by_cases c:b/2^k%2=1
    . rw [UY c] at d;have i:=Ph a b k f y c;clear c;go_wp2;go_round
      case rel=>exact ⟨k+1,by omega,rfl,by go_num⟩
      case measure=>simp [intOf];omega
    . rw [Vc c] at d;have r:b9 (¬ b/2^k%2=1):=c;clear c;go_wp2;go_round
      case rel=>exact ⟨k+1,by omega,by rw [Q4 a b k r.o],by go_num⟩
      case measure=>simp [intOf];omega
  . have x:k=8:=(by omega);subst x;have m := @O5 a b f z;have u:b9 (rd 7 (pm a b 8)=gm a b):=m;clear m;generalize pm a b 8=p at *;go_wp2;go_loop [5,8] (λs t=>∃ j p:Nat,j<=7/\p<65536/\b9 (rd j p=gm a b)/\s=Z8 Z9 p/\t=Z8 Z9 ((j+7:Nat):Int)) (λ_ t=>(intOf t).toNat)
    case atStart=>exact ⟨7,p,by decide,B,u,rfl,rfl⟩
    case round=>
     obtain ⟨j,q,C,g,n,rfl,rfl⟩:=hrel;cases j with
     | zero=>
      have hl := @bt a b f;go_wp2;go_ret;exact ⟨jW (by have:=n.out;simp only [rd] at this;omega),rfl⟩
     | succ j=>
      have hl:=Q5 j q (by omega) g;have d:=AS q (j+1+7) g;have l:b9 (rd j (if q/2^(j+8)%2=1 then q^^^(285*2^j) else q)=gm a b):=n.out;by_cases c:q/2^(j+8)%2=1
      . rw [show j+8=j+1+7 from rfl] at c;rw [UY c] at d;have i:=Pi j q (by omega) g c;have v:=ak i;have h:=ak hl;clear c i hl;go_wp2;go_round
        case rel=>exact ⟨j,_,by omega,h.o,l,by rw [v.o],by go_num⟩
        case measure=>simp [intOf];omega
      . have h:b9 (rd j q=gm a b):=(by have:=l.out;rw [TS c] at this;exact this);rw [show j+8=j+1+7 from rfl] at c;rw [Vc c] at d;clear c hl;go_wp2;go_round
        case rel=>exact ⟨j,q,by omega,g,h,rfl,by go_num⟩
        case measure=>simp [intOf];omega
theorem AT (a:Nat) (b:a<256) (w:ZW) :
 ZT ZQ 63 #[Z8 .u8 a] w λe w'=>e=Z4 (Z8 .u8 (gi a))/\w'=w:=by
 go_enter func63,ntmps63;go_wp2;go_loop [3] (λs=>∃ k:Nat,1<=k/\k<=256/\b9 (∀ c,1<=c->c<k->gm a c≠1)/\s=Z8 Z9 k) (λs=>256-(intOf s).toNat)
 case atStart=>exact ⟨1,by decide,by decide,(λc h m=>absurd h (by omega)),rfl⟩
 case round=>
  obtain ⟨k,r,t,f,rfl⟩:=hrel;by_cases i:k<256
  . have q:(k:Int)%256=(k:Int):=(by omega);by_cases d:gm a k=1
    . have j:=Gq b i d;have HK:=ak j;have p:((gm a k:Int)==1)=ZY:=(by rw [d];rfl);clear j d;go_wp2_with (go_at_call 64;refine (sO a k b i _).mono ?_;rintro e w' ⟨rfl,rfl⟩);go_ret;exact ⟨jW (by rw [<- HK.o]),rfl⟩
    . have n:b9 (∀ c,1<=c->c<k+1->gm a c≠1):=by
       intro c h m;by_cases e:c=k
       . rw [e];exact d
       . exact f.out c h (by omega)
      have p:((gm a k:Int)==1)=ZX:=(by rw [beq_eq_false_iff_ne];omega);clear d f;go_wp2_with (go_at_call 64;refine (sO a k b i _).mono ?_;rintro e w' ⟨rfl,rfl⟩);go_round
      case rel=>exact ⟨k+1,by omega,by omega,n,by go_num⟩
      case measure=>simp [intOf];omega
  . have l:b9 (0=gi a):=by
     by_cases e:a=0
     . rw [e,MO];exact (rfl:(0:Nat)=0)
     . have g:=sr a b e;have hl:=iu b;refine absurd g (f.out (gi a) ?_ (by omega));rcases WA (gi a) with z|z
       . rw [z,bD] at g;exact absurd g (by decide)
       . exact z
    clear f;go_wp2;go_ret;exact ⟨jW (by rw [<- l.out];rfl),rfl⟩
def vF (T:List (Nat×Nat×a8)) (p r:Nat):List (Nat×Nat×a8):=(T.set p (T.getD r (0,0,[]))).set r (T.getD p (0,0,[]))
def gy (T:List (Nat×Nat×a8)) (p r:Nat):(vF T p r).length=T.length:=by simp [vF]
theorem lV (T:List (Nat×Nat×a8)) (p r i:Nat) (b:p<T.length) (c:r<T.length) (g:i<T.length) (f:i<(vF T p r).length) :
 (vF T p r)[i]=if i=r then T[p] else if i=p then T[r] else T[i]:=by
 have d:T.getD p (0,0,[])=T[p]:=by simp [b]
 have e:T.getD r (0,0,[])=T[r]:=by simp [c]
 apply UM;rw [<- Uc f];unfold vF;rw [d,e,Xf,Xf];by_cases c1:r=i
 . subst c1;simp [c]
 . by_cases a:p=i
   . subst a;simp [b,c1,Vk c1]
   . simp [c1,a,Vk c1,Vk a,g]
theorem Fu (T:List (Nat×Nat×a8)) (p r:Nat) (c:p<T.length) (d:r<T.length):∀ x∈vF T p r,x∈T:=by
 intro x e;obtain ⟨i,a,rfl⟩:=Xu.1 e;have b:i<T.length:=by rw [gy] at a;exact a
 rw [lV T p r i c d b];split
 . exact T6 _
 . split
   . exact T6 _
   . exact T6 _
theorem eu.swap (h:eu w B (Z6 (ZZ ⟨g,0,Z0⟩) n cap) T) {p r:Nat} (d:p<T.length) (f:r<T.length) :
 eu ((w.setCell ⟨g,p,Z0⟩ (fx T[r])).setCell ⟨g,r,Z0⟩ (fx T[p])) B (Z6 (ZZ ⟨g,0,Z0⟩) n cap) (vF T p r):=by
 obtain ⟨P,v⟩:=h.own;have C:∀ q∈T,q.1≠g:=λq l e=>oX h.own (h.row q l).2.1 (by rw [e];rfl);have N:∀ q∈T,aM ((w.setCell ⟨g,p,Z0⟩ (fx T[r])).setCell ⟨g,r,Z0⟩ (fx T[p])) q.1 q.2.2:=λq l=>
  ((h.row q l).2.1.other (a:=⟨g,p,Z0⟩) (C q l) _).other (a:=⟨g,r,Z0⟩) (C q l) _
 refine ⟨⟨by simp [vF],?_⟩,λq l=>?_,?_⟩
 . rcases v with ⟨M,_⟩|⟨Q,x,cur,y,G,H,I,J,K,L⟩
   . simp at M
   . simp at y;obtain ⟨rfl,rfl,rfl⟩:=y;refine .inr ⟨g,cap,(cur.setIfInBounds p (fx T[r])).setIfInBounds r (fx T[p]),by rw [gy],G,?_,by rw [gy];exact I,J,by simpa using K,?_⟩
     . simp [World.setCell,VC,H]
     . rw [gy];simp only [aaY];rw [YQ,YQ,L];apply Vb
       . simp [vF]
       . intro i R v;have k:i<T.length:=(by simpa [vF] using v);rw [UN,lV T p r i d f k];simp only [Wf,UN];by_cases c1:r=i
         . subst c1;simp
         . by_cases c:p=i
           . subst c;simp [c1,Vk c1]
           . simp [c1,c,Vk c1,Vk c]
 . have D:=Fu T p r d f q l;obtain ⟨E,O,F⟩:=h.row q D;exact ⟨E,N q D,F⟩
 . have A:=VU.1 h.nodup;have key:∀ i j (k:i<T.length) (m:j<T.length),i≠j->T[i].1≠T[j].1:=by
    intro i j k m z e;rcases Ys z with u|u
    . exact A i j (by simpa using k) (by simpa using m) u (by simpa using e)
    . exact A j i (by simpa using m) (by simpa using k) u (by simpa using e.symm)
   refine VU.2 λi j k m z=>?_;have s:i<T.length:=(by simpa [vF] using k);have t:j<T.length:=(by simpa [vF] using m);rw [UN,UN,lV T p r i d f s,lV T p r j d f t];by_cases c1:i=r
   . rw [TT c1];by_cases c:j=r
     . omega
     . rw [TS c];by_cases b:j=p
       . rw [TT b];exact key p r d f (by omega)
       . rw [TS b];exact key p j d t (λh=>b h.symm)
   . rw [TS c1];by_cases c:i=p
     . rw [TT c];by_cases b:j=r
       . rw [TT b];exact key r p f d (by omega)
       . rw [TS b];by_cases o:j=p
         . omega
         . rw [TS o];exact key r j f t (λh=>b h.symm)
     . rw [TS c];by_cases b:j=r
       . rw [TT b];exact key i p s d c
       . rw [TS b];by_cases o:j=p
         . rw [TT o];exact key i r s f c1
         . rw [TS o];exact key i j s t (by omega)
def lj (l lp:a8) (f c j:Nat):a8:=(YF l.length).map λq=>if c<=q/\q<j then l.getD q 0^^^gm f (lp.getD q 0) else l.getD q 0
def sP (l lp:a8) (f c j:Nat):(lj l lp f c j).length=l.length:=by simp [lj]
theorem DE (l lp:a8) (f c:Nat):lj l lp f c c=l:=by
 unfold lj;apply Vb
 . simp
 . intro q b a;simp [a];omega
def JB (l lp:a8) (f c j:Nat) (a:j<l.length):(lj l lp f c j).getD j 0=l.getD j 0:=by simp [lj,a]
theorem GF (l lp:a8) (f c j:Nat) (b:c<=j):(lj l lp f c j).set j (l.getD j 0^^^gm f (lp.getD j 0))=lj l lp f c (j+1):=by
 unfold lj;apply Vb
 . simp
 . intro q d g;simp [Wf];by_cases e:j=q
   . subst e;simp [b]
   . simp only [TS e];by_cases a:c<=q/\q<j
     . rw [TT a,TT ⟨a.1,by omega⟩]
     . rw [TS a,TS (by omega)]
theorem MZ (hl:∀ x∈l,x<256) {f:Nat} (a:f<256) (c j:Nat):∀ x∈lj l lp f c j,x<256:=by
 intro x b;obtain ⟨q,_,rfl⟩:=T9.1 b;have:=dm hl q;split
 . exact rq this (bt _ a)
 . exact this
theorem JC (l lp:a8) (f c W:Nat) (a:l.length=W) (j:lp.length=W) (i:∀ q,q<c->dJ lp q=0):dJ (lj l lp f c W)=cA (dJ l) f (dJ lp):=by
 funext q;show (lj l lp f c W).getD q 0=l.getD q 0^^^gm f (lp.getD q 0);by_cases d:q<W
 . by_cases b:c<=q
   . simp [lj,a,d,b]
   . have:lp.getD q 0=0:=i q (by omega);rw [this,bD,U3];simp [lj,a,d,b]
 . have e:lp.getD q 0=0:=(by simp [Vj (show lp.length<=q by omega)]);have g:l.getD q 0=0:=(by simp [Vj (show l.length<=q by omega)]);have h:(lj l lp f c W).getD q 0=0:=by
    rw [Ub,Vj (by rw [sP];omega)];rfl
   rw [e,g,h,bD];exact (UR 0).symm
def rA (D:List a8):Prop:=D.length<=64/\∀ i (hi:i<D.length),(D[i]).length<=64
def wd (D:List a8):Nat->Nat
 | 0=>0
 | k+1=>if wd D k<(D.getD k []).length then (D.getD k []).length else wd D k
theorem Q6 (D:List a8) (i:Nat):∀ k,i<k->(D.getD i []).length<=wd D k:=by
 intro k;induction k with
 | zero=>intro h;omega
 | succ k ih=>
  intro h;unfold wd;by_cases e:i=k
  . subst e;split<;>omega
  . have:=ih (by omega);split<;>omega
def Ja (W:Nat) (l:a8):a8:=l++YE (W-l.length) 0
theorem M0 (W:Nat) (l:a8):dJ (Ja W l)=dJ l:=by
 funext j;unfold dJ Ja;by_cases a:j<l.length
 . simp [Vv a,a]
 . rw [Ub,U6 (Wy.1 a)];by_cases b:j-l.length<W-l.length
   . simp [b,Vj (Wy.1 a)]
   . simp [b,Vj (Wy.1 a)]
def rS (W:Nat) (l:a8) (h:l.length<=W):(Ja W l).length=W:=by simp [Ja];omega
def Pj (W:Nat) (l:a8) (h:∀ x∈l,x<256):∀ x∈Ja W l,x<256:=by
 intro x a;rcases Ui.1 a with q|q
 . exact h x q
 . have:=Vz q;omega
structure EI (w:ZW) (B W c r:Nat) (v:ZV) (D:List a8) (T:List (Nat×Nat×a8)) (wr:ZW):Prop where
 tab:eu wr B v T
 wid:∀ i (hi:i<T.length),T[i].2.1=W/\T[i].2.2.length=W
 rle:r<=T.length
 len:T.length=D.length
 zer:∀ i (hi:i<T.length),r<=i->∀ j,j<c->dJ T[i].2.2 j=0
 tak:∀ k,cQ (64-c) (nu (T.map (λp=>p.2.2)) r) c k->mS D (r+k)
 bel:ZU B w wr
 siz:B<=wr.heap.size
def EI.skip (h:EI w B W c r v D T wr) (g:c<64) (d:∀ i (a:i<T.length),r<=i->dJ T[i].2.2 c=0):EI w B W (c+1) r v D T wr:=
 { h with
  zer:=λi a b j l=>by
   by_cases e:j=c
   . subst e;exact d i a b
   . exact h.zer i a b j (by omega)
  tak:=λk f=>by
   refine h.tak k ?_;have e:64-c=64-(c+1)+1:=(by omega);rw [e];refine su (λi a b=>?_) f;rw [UN];exact d i (by simpa using a) b }
theorem EI.Tx (h:EI w B W c r v D T wr) (I:c<64) (s:r<=p) (u:p<T.length) (z:dJ T[p].2.2 c≠0)
 (o:eu wr' B v T') (hl:T'.length=T.length) (A:∀ i (a:i<T'.length),T'[i].2.1=W/\T'[i].2.2.length=W)
 (n:∀ i (a:i<T'.length),r<i->∃ f,∃ h:(if i=p then r else i)<T.length,f<256/\dJ T'[i].2.2=cA (dJ T[if i=p then r else i].2.2) f (dJ T[p].2.2)/\dJ T'[i].2.2 c=0)
 (C:ZU B w wr') (F:B<=wr'.heap.size):EI w B W (c+1) (r+1) v D T' wr' where
 tab:=o
 wid:=A
 rle:=by omega
 len:=by rw [hl];exact h.len
 zer:=λi a x j J=>by
  obtain ⟨f,b,t,e,m⟩:=n i a (by omega);by_cases y:j=c
  . subst y;exact m
  . rw [e];have G:=h.zer _ b (by split<;>omega) j (by omega);have H:=h.zer p u s j (by omega);show dJ T[if i=p then r else i].2.2 j^^^gm f (dJ T[p].2.2 j)=0;rw [G,H,bD];exact UR 0
 tak:=λk E=>by
  have e:r+1+k=r+(k+1):=by omega
  rw [e];refine h.tak (k+1) ?_;have e:64-c=64-(c+1)+1:=by omega
  rw [e];refine qD (p:=p) (T':=T'.map (λp=>p.2.2)) ?_ ?_ (by simpa using hl) s (by simpa using u) (by rw [UN];exact z) ?_ E
  . intro l d;obtain ⟨q,g,rfl⟩:=T9.1 d;exact (h.tab.row q g).2.2.2.2
  . intro l d;obtain ⟨q,g,rfl⟩:=T9.1 d;exact (o.row q g).2.2.2.2
  . intro i a x;obtain ⟨f,b,t,e,m⟩:=n i (by simpa using a) x;exact ⟨f,by simpa using b,t,by simp only [UN];exact e,by simp only [UN];exact m⟩
 bel:=C
 siz:=F
def EI.start (h:eu wr w.heap.size v T) (d:T.map (λp=>p.2)=D.map (λl=>(W,Ja W l))) (m:∀ i (f:i<D.length),(D[i]).length<=W) (n:ZU w.heap.size w wr) (q:w.heap.size<=wr.heap.size):EI w w.heap.size W 0 0 v D T wr:=by
 have hl:T.length=D.length:=by simpa using Uy YG d
 have c:∀ i (a:i<T.length) (b:i<D.length),T[i].2=(W,Ja W D[i]):=by
  intro i a b;have:=List.getElem_of_eq d (i:=i) (by simpa using a);simpa using this
 refine ⟨h,λi f=>?_,T8 _,hl,λ_ _ _ j o=>absurd o (Xx _),λk g=>?_,n,q⟩
 . rw [c i f (by omega)];exact ⟨rfl,rS W _ (m i (by omega))⟩
 . rw [Uj];have e:nu (T.map (λp=>p.2.2)) 0=nu D 0:=wt (by simpa using hl) (λi a b=>by
    rw [UN];have:=c i (by simpa using a) b;rw [this];exact M0 W _) 0
   rw [e] at g;exact g
def EI.done (h:EI w B W c r v D T wr) (a:W<=c):mS D r:=
 h.tak 0 (sy (λl hl=>by
  obtain ⟨q,d,rfl⟩:=T9.1 hl;obtain ⟨i,b,rfl⟩:=Xu.1 d;rw [(h.wid i b).2];exact a))
def RC (w:ZW) (W:Nat) (v:ZV) (D:List a8) (rv cv:ZV) (wr:ZW):Prop:=
 ∃ (r c:Nat) (T:List (Nat×Nat×a8)),c<=W/\rv=Z8 Z9 (r:Nat)/\cv=Z8 Z9 (c:Nat)/\EI w w.heap.size W c r v D T wr
def RP (T:List (Nat×Nat×a8)) (r c:Nat) (av iv:ZV):Prop:=
 ∃ k:Nat,r<=k/\k<=T.length/\iv=Z8 Z9 (k:Nat)/\((av=Z8 Z9 (-1)/\∀ i (hi:i<T.length),r<=i->i<k->dJ T[i].2.2 c=0)\/∃ p:Nat,∃ hp:p<T.length,r<=p/\av=Z8 Z9 (p:Nat)/\dJ T[p].2.2 c≠0)
structure EW (w:ZW) (B W c r k:Nat) (v:ZV) (S:List (Nat×Nat×a8)) (lp:a8) (T:List (Nat×Nat×a8)) (wr:ZW):Prop where
 tab:eu wr B v T
 len:T.length=S.length
 wid:∀ i (hi:i<T.length),T[i].2.1=W/\T[i].2.2.length=W
 old:∀ i (hi:i<T.length) (hi':i<S.length),i<=r\/k<=i->T[i]=S[i]
 new:∀ i (hi:i<T.length) (hi':i<S.length),r<i->i<k->∃ f,f<256/\dJ T[i].2.2=cA (dJ S[i].2.2) f (dJ lp)/\dJ T[i].2.2 c=0
 bel:ZU B w wr
 siz:B<=wr.heap.size
def RW (w:ZW) (B W c r:Nat) (v:ZV) (S:List (Nat×Nat×a8)) (lp:a8) (iv:ZV) (wr:ZW):Prop:=
 ∃ (k:Nat) (T:List (Nat×Nat×a8)),r<k/\k<=S.length/\iv=Z8 Z9 (k:Nat)/\EW w B W c r k v S lp T wr
def EW.step {S:List (Nat×Nat×a8)} {f:Nat} (h:EW w B W c r k v S lp T wr) (u:r<k) (d:k<T.length) (g:wr.grownBy wr' (ZZ T[k].1)) (m:aM wr' T[k].1 l') (j:l'.length=W) (s:∀ x∈l',x<256)
 (p:f<256) (o:dJ l'=cA (dJ T[k].2.2) f (dJ lp)) (n:dJ l' c=0):EW w B W c r (k+1) v S lp (T.set k (T[k].1,T[k].2.1,l')) wr':=by
 have q:=h.tab.row _ (T6 d);refine ⟨h.tab.wrote d g m (by rw [j,(h.wid k d).2]) s,by rw [VS];exact h.len,λi a=>?_,λi a b ho=>?_,λi a b l t=>?_,gD h.bel g h.siz q.1,TV h.siz g.size⟩
 . rw [VS] at a;rw [Wf];by_cases e:k=i
   . rw [TT e];exact ⟨(h.wid k d).1,j⟩
   . rw [TS e];exact h.wid i a
 . rw [VS] at a;rw [Wf,TS (by omega)];exact h.old i a b (by omega)
 . rw [VS] at a;rw [Wf];by_cases e:k=i
   . subst e;rw [TT rfl];refine ⟨f,p,?_,n⟩;rw [<- h.old k a b (.inr lR)];exact o
   . rw [TS e];exact h.new i a b l (by omega)
def EW.keep {S:List (Nat×Nat×a8)} (h:EW w B W c r k v S lp T wr) (j:k<T.length) (f:dJ T[k].2.2 c=0):EW w B W c r (k+1) v S lp T wr:=
 { h with
  old:=λi b a ho=>h.old i b a (by omega)
  new:=λi b a d g=>by
   by_cases e:i=k
   . subst e;refine ⟨0,by decide,?_,f⟩;rw [oT,h.old i b a (.inr lR)]
   . exact h.new i b a d (by omega) }
def eu.ne (h:eu w B v T) {i j:Nat} (c:i<T.length) (d:j<T.length) (f:i≠j):T[i].1≠T[j].1:=by
 have b:=VU.1 h.nodup;intro e;rcases Ys f with a|a
 . exact b i j (by simpa using c) (by simpa using d) a (by simpa using e)
 . exact b j i (by simpa using d) (by simpa using c) a (by simpa using e.symm)
def eu.head (h:eu w B (Z6 (ZZ ⟨g,0,Z0⟩) n cap) T) (b:∀ i (a:i<T.length),T[i].2.1=W/\T[i].2.2.length=W) {i:Nat} (a:i<T.length):w.cell? ⟨g,i,Z0⟩=ZZ (Z6 (ZZ ⟨T[i].1,0,Z0⟩) W W):=by
 have:=h.Sk a;unfold fx at this;rw [(b i a).1,(b i a).2] at this;exact this
def eu.byte (h:eu w B v T) (d:∀ i (a:i<T.length),T[i].2.1=W/\T[i].2.2.length=W) {i:Nat} (a:i<T.length) (b:c<W):w.cell? ⟨T[i].1,c,Z0⟩=ZZ (Z8 .u8 ((dJ T[i].2.2 c:Nat):Int))/\dJ T[i].2.2 c<256:=
 ⟨(h.row _ (T6 a)).2.1.cell c (by rw [(d i a).2];exact b),dm (h.row _ (T6 a)).2.2.2.2 c⟩
def EI.cells (h:EI w B W c r (Z6 (ZZ ⟨g,0,Z0⟩) n cap) D T wr) (b:c<W) (i:Nat) (a:i<T.length) :
 wr.cell? ⟨g,i,Z0⟩=ZZ (Z6 (ZZ ⟨T[i].1,0,Z0⟩) W W)/\wr.cell? ⟨T[i].1,c,Z0⟩=ZZ (Z8 .u8 ((dJ T[i].2.2 c:Nat):Int))/\dJ T[i].2.2 c<256:=
 ⟨h.tab.head h.wid a,h.tab.byte h.wid a b⟩
def EI.swap (h:EI w B W c r (Z6 (ZZ ⟨g,0,Z0⟩) n cap) D T wr) (d:B<=g) (b:r<T.length) (a:p<T.length) :
 EW w B W c r (r+1) (Z6 (ZZ ⟨g,0,Z0⟩) n cap) (vF T p r) T[p].2.2 (vF T p r) ((wr.setCell ⟨g,p,Z0⟩ (Z6 (ZZ ⟨T[r].1,0,Z0⟩) W W)).setCell ⟨g,r,Z0⟩ (Z6 (ZZ ⟨T[p].1,0,Z0⟩) W W)):=by
 have k:fx T[r]=Z6 (ZZ ⟨T[r].1,0,Z0⟩) W W:=by unfold fx;rw [(h.wid r b).1,(h.wid r b).2]
 have l:fx T[p]=Z6 (ZZ ⟨T[p].1,0,Z0⟩) W W:=by unfold fx;rw [(h.wid p a).1,(h.wid p a).2]
 have f:=h.tab.swap a b;rw [k,l] at f;refine ⟨f,rfl,λi o=>?_,λ_ _ _ _=>rfl,λi _ _ m s=>absurd m (by omega),?_,?_⟩
 . obtain ⟨j,q,e⟩:=Xu.1 (Fu T p r a b _ (T6 o));rw [<- e];exact h.wid j q
 . exact (h.bel.setCell (p:=⟨g,p,Z0⟩) d _).setCell (p:=⟨g,r,Z0⟩) d _
 . rw [Yr,Yr];exact h.siz
theorem EI.Sm (h:EI w B W c r v D T wr) (q:c<64) (o:r<=p) (d:p<T.length) (m:dJ T[p].2.2 c≠0)
 (a:EW w B W c r k v (vF T p r) T[p].2.2 T' wr') (y:T.length<=k):EI w B W (c+1) (r+1) v D T' wr':=by
 have u:r<T.length:=by omega
 have hl:T'.length=T.length:=by rw [a.len,gy]
 refine h.Tx q o d m a.tab hl a.wid (λi t n=>?_) a.bel a.siz;obtain ⟨f,s,e,x⟩:=a.new i t (by rw [gy];omega) n (by omega);have l:(if i=p then r else i)<T.length:=by split<;>omega
 refine ⟨f,l,s,?_,x⟩;rw [e];have j:i<T.length:=by omega
 have g:(vF T p r)[i]'(by rw [gy];omega)=T[if i=p then r else i]:=by
  rw [lV T p r i d u j,TS (by omega)];by_cases b:i=p
  . simp only [TT b]
  . simp only [TS b]
 rw [g]
def EW.top (a:r<T.length) (b:p<T.length) (h:EW w B W c r k v (vF T p r) T[p].2.2 T' wr):∃ d:r<T'.length,T'[r]=T[p]:=by
 have:T'.length=T.length:=by rw [h.len,gy]
 refine ⟨by omega,?_⟩;rw [h.old r (by omega) (by rw [gy];exact a) (.inl lR),lV T p r r b a a,TT rfl]
def sQ {x y z:Int} (a b:Nat) (f:x=(a:Int)) (g:y=(b:Int)) (c:a<256) (d:b<256) (h:((gm a b:Nat):Int)=z) (w:ZW) :
 ZT ZQ 64 #[Z8 .u8 x,Z8 .u8 y] w λe w'=>e=Z4 (Z8 .u8 z)/\w'=w:=by
 subst f g h;exact sO a b c d w
def JD {x:Int} (a:Nat) (c:x=(a:Int)) (b:a<256) (w:ZW) :
 ZT ZQ 63 #[Z8 .u8 x] w λe w'=>e=Z4 (Z8 .u8 ((gi a:Nat):Int))/\w'=w:=by
 subst c;exact AT a b w
def RJ (wi:ZW) (b:Nat) (l lp:a8) (f c W:Nat) (jv:ZV) (wr:ZW):Prop:=
 ∃ j:Nat,c<=j/\j<=W/\jv=Z8 Z9 (j:Nat)/\wi.grownBy wr (ZZ b)/\aM wr b (lj l lp f c j)
def JE (D:List a8) (w:ZW) (e:Ending) (w':ZW):Prop:=(rA D->∃ k:Nat,k<=64/\e=Z4 (Z8 Z9 k)/\mS D k)/\(¬ rA D->e=Z4 (Z8 Z9 (-1)))/\ZU w.heap.size w w'
def RR1 (D:List a8) (wv i:ZV):Prop:=∃ k:Nat,k<=D.length/\wv=Z8 Z9 (wd D k:Nat)/\i=Z8 Z9 k/\wd D k<=64/\∀ j (hj:j<D.length),j<k->(D[j]).length<=64
def RR2 (w:ZW) (W:Nat) (D:List a8) (v i:ZV) (wr:ZW):Prop:=
 ∃ k T,k<=D.length/\i=Z8 Z9 (k:Nat)/\eu wr w.heap.size v T/\T.map (λp=>p.2)=(D.take k).map (λl=>(W,Ja W l))/\ZU w.heap.size w wr/\w.heap.size<=wr.heap.size
theorem GG (vd:ZV) (D:List a8) (w:ZW) (hd:Rd w vd D) :
 ZT ZQ 43 #[vd] w λe w'=>JE D w e w':=by
 obtain ⟨i0,y8,kv,yj,yk⟩:=Ut Tryz.RV;by_cases ym:64<D.length
 . obtain ⟨ao,c,rfl,hl,_⟩:=hd;go_enter func43,ntmps43;go_wp2;go_ret;exact ⟨λh=>absurd h.1 (by omega),λ_=>rfl,TW _ _⟩
 by_cases kk:D=[]
 . subst kk;obtain ⟨ao,c,rfl,_⟩:=hd;go_enter func43,ntmps43;go_wp2;refine VD 1 ?_;rw [Vt];go_wp2;refine VD 1 ?_;rw [Vt];go_wp2;refine VD 1 ?_;rw [Vt];go_wp2;go_ret;exact ⟨λ_=>⟨0,by omega,rfl,sy (T:=[]) (λl hl=>by simp at hl)⟩,λh=>absurd ⟨by simp,λi s=>by simp at s⟩ h,TW _ _⟩
 have xb:=ak kk;have y1:=hd.cases;rcases y1 with ⟨h0,_⟩|⟨b,off,c,rfl,hl,hc⟩
 . exact absurd h0 kk
 clear kk;have qs:∀ i (s:i<D.length),D.getD i []=D[i]:=λi s=>by simp [s]
 have HC:=ak hc;have qd:=ak qs;clear hc qs;go_enter func43,ntmps43;go_wp2;go_loop [3,4] (λwv i=>RR1 D wv i) (λ_ i=>D.length-(intOf i).toNat)
 case atStart=>exact ⟨0,T8 _,rfl,rfl,T8 _,λj _ h=>absurd h (by omega)⟩
 case round=>
  obtain ⟨k,hk,rfl,rfl,yh,kf⟩:=hrel;by_cases q6:k<D.length
  . obtain ⟨u,hu,Z⟩:=HC.o k q6;obtain ⟨fo,fc,rfl,q1,U,P,q4⟩:=Z;have O:(D[k]).length<=140737488355328:=(by omega);have qc:wd D (k+1)=if wd D k<(D[k]).length then (D[k]).length else wd D k:=(by rw [<- qd.out k q6];rfl);have kj:=ak qc;by_cases B:(D[k]).length<=64
    . have qf:b9 (∀ j (hj:j<D.length),j<k+1->(D[j]).length<=64):=by
       intro j hj yq;by_cases e:j=k
       . subst e;exact B
       . exact kf j hj (by omega)
      clear qc kf q1 U P q4;generalize (D[k]).length=lk at *;by_cases F:wd D k<lk
      . have J:b9 (wd D (k+1)=lk):=(by rw [kj.out,TT F];exact (rfl:lk=lk));clear kj;go_wp2;go_round
        case rel=>exact ⟨k+1,by omega,by rw [J.out],by go_num,by rw [J.out];omega,qf.out⟩
        case measure=>simp [intOf];omega
      . have J:b9 (wd D (k+1)=wd D k):=(by rw [kj.out,TS F];exact (rfl:wd D k=wd D k));clear kj;go_wp2;go_round
        case rel=>exact ⟨k+1,by omega,by rw [J.out],by go_num,by rw [J.out];omega,qf.out⟩
        case measure=>simp [intOf];omega
    . have HN:b9 (¬ rA D):=λh=>B (h.2 k q6);clear qc kf q1 U P q4;generalize (D[k]).length=lk at *;go_wp2;go_ret;exact ⟨λh=>absurd h HN.o,λ_=>rfl,TW _ _⟩
  . have ya:k=D.length:=(by omega);have ka:rA D:=⟨by omega,λi s=>kf i s (by omega)⟩;have qp:∀ i (s:i<D.length),(D[i]).length<=wd D k:=λi s=>by
     have:=Q6 D i k (by omega);rw [qd.out i s] at this;exact this
    generalize wd D k=W at *;have xg:=ak ka;have qh:=ak qp;clear kf ya ka qp;go_wp2;go_loopw [5,6] (λv i wr=>RR2 w W D v i wr) (λ_ i _=>D.length-(intOf i).toNat)
    case atStart=>exact ⟨0,[],T8 _,rfl,eu.nil _ _,rfl,TW _ _,TU _⟩
    case round=>
     rename ZW=>wo;obtain ⟨k2,T,yr,rfl,I,H,R,kr⟩:=hrel;have qn:T.length=min k2 D.length:=(by simpa using Uy YG H);by_cases k6:k2<D.length
     . obtain ⟨u,hu,Z⟩:=HC.o k2 k6;have qk:=Z.mono R;have O:=qh.out k2 k6;have hx:=Z.lt;have qo:=Yx k6;obtain ⟨fo,fc,rfl,q1,U,P,q4⟩:=Z;have qb:wo.cell? ⟨b,off+k2,Z0⟩=ZZ (.slice fo (D[k2]).length fc):=(by rw [R.cell (Uf hu)];exact hu);have xx:T.length<=64:=(by omega);have HH:=ak H;have xn:=ak qo;clear H qn hu q1 U P q4 qo;generalize D[k2]=l at *;go_wp2_with (first
        | (at_make;refine cO _ rfl (.tmp 51) (.tmp 51) rfl _ W rfl rfl rfl (by omega) ?_;intro w1 hB L n;clear n;have x4:=qb;rw [<- L.cell (Uf qb)] at x4)
        | (refine wH rfl (.tmp 53) (.tmp 57) rfl wo.heap.size W W _ rfl rfl _ l hB (qk.mono L) O (by simp) wo.heap.size wo L lR ?_;intro w2 Q N)
        | (at_builtin;refine WB _ rfl (.tmp 59) (.tmp 61) 108 rfl w.heap.size 40 i0 (Z6 Z0 0 0) 1 24 VL y8 kv yj yk rfl (by decide) _ T.length (T.map fx) rfl ((I.below N).alloc _).own ⟨w2.heap.size,0,Z0⟩ 1 1 [Z6 (ZZ ⟨wo.heap.size,0,Z0⟩) W W] rfl rfl (lT _ _ rfl _ _) (by simp [Value.oneCell']) (by unfold maxLen;omega) (by omega) (by rw [Uh];have:=N.size;omega) ?_;intro v' w3 h9 h5 yb))
       have qj:aM w2 wo.heap.size (Ja W l):=by
        have e:l++(YE W 0).drop l.length=Ja W l:=(by rw [XV];rfl);rw [e] at Q;exact Q
       have xv:=eu.append2 I N kr lR qj (rS W l O).symm (by rw [rS W l O];omega) (by rw [rS W l O];omega) (Pj W l hx) h5 h9;have xy:=dP I R N kr h5;have yf:=h5.size;have yz:=N.size;rw [Uh] at yf;have xh:b9 ((T++[(wo.heap.size,W,Ja W l)]).map (λp=>p.2)=(D.take (k2+1)).map (λl=>(W,Ja W l))):=by
        rw [xn.out,Uv,Uv,HH.o];exact (rfl:_=_)
       clear I h9 h5 yb hB Q qj L N R qk qb x4 hx;go_wp2;go_roundw
       case rel=>exact ⟨k2+1,_,by omega,by go_num,xv,xh.out,xy,by omega⟩
       case measure=>simp [intOf];omega
     . have qx:k2=D.length:=(by omega);rw [qx,Vu] at H;have A:=EI.start I H qh.out R kr;have hs:T.length=D.length:=(by simpa using Uy YG H);rcases I.shape with ⟨rfl,h0⟩|⟨g,cap,hv,y4,y5,q0,y6,_⟩
       . exact absurd (UU (by rw [<- hs,h0];rfl)) xb.out
       rw [hs] at hv;subst hv;clear I H R kr y5 q0 y6 qn hs qx;go_wp2;go_loopw [8,9] (λrv cv wr=>RC w W (Z6 (ZZ ⟨g,0,Z0⟩) D.length cap) D rv cv wr) (λ_ cv _=>W-(intOf cv).toNat)
       case atStart=>exact ⟨0,0,T,T8 _,rfl,rfl,A⟩
       case round=>
        clear A;rename ZW=>wo2;obtain ⟨r,d,a,yn,rfl,rfl,A⟩:=hrel;have qz:=A.len;have yd:=A.rle;by_cases ky:d<W
        . have E:=ak A;have ki:=ak (EI.cells A ky);clear A;go_wp2;go_loop [10,11] (λav M=>RP a r d av M) (λ_ M=>a.length-(intOf M).toNat)
          case atStart=>exact ⟨r,TU _,yd,rfl,.inl ⟨rfl,λi s B F=>absurd B (by omega)⟩⟩
          case round=>
           obtain ⟨k3,yc,yx,rfl,q8⟩:=hrel;by_cases qy:k3<a.length
           . obtain ⟨q1,U,P⟩:=ki.out k3 qy;have xk:=ak q8;clear q8;have kv:dJ a[k3].2.2 d=dJ a[k3].2.2 d:=rfl;have HZ:=ak kv;clear kv;by_cases n:dJ a[k3].2.2 d=0
             . have HZ:=ak n;rw [n] at U;clear n P;go_wp2;go_round
               case rel=>
                refine ⟨k3+1,by omega,by omega,by go_num,?_⟩;rcases xk.out with ⟨e,B⟩|⟨p,C,B,F,h3⟩
                . refine .inl ⟨e,λi s a1 a2=>?_⟩;by_cases e:i=k3
                  . subst e;exact HZ.o
                  . exact B i s a1 (by omega)
                . exact .inr ⟨p,C,B,F,h3⟩
               case measure=>simp [intOf];omega
             . have y2:(((dJ a[k3].2.2 d:Nat):Int) != 0)=ZY:=(by rw [bne_iff_ne];omega);have HZ:=ak n;clear n P;go_wp2;go_round
               case rel=>exact ⟨k3+1,by omega,by omega,by go_num,.inr ⟨k3,qy,yc,by go_num,HZ.o⟩⟩
               case measure=>simp [intOf];omega
           . rcases q8 with ⟨rfl,n⟩|⟨p,C,x1,rfl,q9⟩
             . have xc:=ak (E.o.skip (by omega) (λi s hr=>n i s hr (by omega)));clear n;go_wp2;go_roundw
               case rel=>exact ⟨r,d+1,a,by omega,rfl,by go_num,xc.out⟩
               case measure=>simp [intOf];omega
             . obtain ⟨p1,p2,p3⟩:=ki.out p C;have kp:r<a.length:=(by omega);obtain ⟨r1,_,_⟩:=ki.out r kp;have X:=E.o.swap y4 kp C;have h7:=E.o.tab.own;rw [E.o.len] at h7;have f1:=h7.frozenAt p;have f2:(wo2.setCell ⟨g,p,Z0⟩ (Z6 (ZZ ⟨a[r].1,0,Z0⟩) W W)).frozen? ⟨g,r,Z0⟩=ZX:=(World.frozen?_setCell _ _ _ _).trans (h7.frozenAt r);have c1:(wo2.setCell ⟨g,p,Z0⟩ (Z6 (ZZ ⟨a[r].1,0,Z0⟩) W W)).cell? ⟨g,r,Z0⟩=ZZ (Z6 (ZZ ⟨a[r].1,0,Z0⟩) W W):=by
                by_cases e:p=r
                . subst e;exact World.cell?_setCell_same _ _ _ r1
                . rw [aaZ _ _ _ _ (by intro h;injection h with B F;exact e F)];exact r1
               obtain ⟨yg,x2⟩:=EW.top kp C X;have L:=(X.tab.byte X.wid yg ky).1;rw [x2] at L;have xq:(vF a p r).length=a.length:=gy a p r;have x0:∀ q,q<d->dJ a[p].2.2 q=0:=λq hq=>E.o.zer p C x1 q hq;have xj:=ak x0;have xf:=ak (λ(k:Nat) (T':List (Nat×Nat×a8)) (wr':ZW) (h':EW w w.heap.size W d r k (Z6 (ZZ ⟨g,0,Z0⟩) D.length cap) (vF a p r) a[p].2.2 T' wr') (hk:a.length<=k)=>E.o.Sm (by omega) x1 C q9 h' hk);have kx:=ak (λ(k:Nat) (T':List (Nat×Nat×a8)) (wr':ZW) (h':EW w w.heap.size W d r k (Z6 (ZZ ⟨g,0,Z0⟩) D.length cap) (vF a p r) a[p].2.2 T' wr')=>EW.top kp C h');have qe:=ak (E.o.wid p C).2;have xm:=ak q9;have HS:=ak X;clear h7 x2 x0 q9 X ki E;generalize vF a p r=S at *;generalize a[p]=t at *;generalize a[r].1=br at *;generalize x7:dJ t.2.2 d=y at *;generalize qq:t.1=bp at *;have xp:=ak x7;have x8:=ak qq;clear x7 qq;go_wp2_with (go_at_call 63;refine (JD y rfl p3 _).mono ?_;rintro e w' ⟨rfl,rfl⟩);go_loopw [14] (λM wr=>RW w w.heap.size W d r (Z6 (ZZ ⟨g,0,Z0⟩) D.length cap) S t.2.2 M wr) (λM _=>S.length-(intOf M).toNat)
               case atStart=>exact ⟨r+1,S,by omega,by omega,by go_num,HS.o⟩
               case round=>
                clear p1 p2 r1 f1 f2 c1 L HS;rename ZW=>V;obtain ⟨k4,z,qa,yv,rfl,m⟩:=hrel;have yy:z.length=a.length:=(by rw [m.len];exact xq);by_cases ys:k4<a.length
                . have G:k4<z.length:=(by omega);have hh:=m.tab.head m.wid G;obtain ⟨yi,ks⟩:=m.tab.byte m.wid G ky;have h8:=m.tab.row _ (T6 G);have y7:=oX m.tab.own h8.2.1;have hll:=(m.wid k4 G).2;obtain ⟨x3,kh⟩:=kx.out k4 z V m;have q7:=m.tab.ne x3 G (by omega);have kg:=m.tab.row _ (T6 x3);rw [kh] at kg q7;rw [x8.out] at kg q7;have xa:=ak kg.2.1;have xi:=ak kg.2.2.2.2;have x9:=ak h8.2.1;have qi:=ak h8.2.2.2.2;have h6:=ak (λn=>m.keep G n);have qg:b9 (∀ (f:Nat) (l':a8) (wr':ZW),f<256->V.grownBy wr' (ZZ z[k4].1)->aM wr' z[k4].1 l'->l'.length=W->(∀ x∈l',x<256)->dJ l'=cA (dJ z[k4].2.2) f (dJ t.2.2)->dJ l' d=0->∃ T',EW w w.heap.size W d r (k4+1) (Z6 (ZZ ⟨g,0,Z0⟩) D.length cap) S t.2.2 T' wr'):=
                   λf l' wr' hf hg hB q5 hx Y hc=>⟨_,m.step qa G hg hB q5 hx hf Y hc⟩
                  clear m h8 kg kh;generalize O:z[k4].2.2=l at *;generalize z[k4].1=bk at *;generalize x6:dJ l d=x at *;have kb:gm x (gi y)<256:=bt _ ks;have ke:=ny ks p3 xm.out;generalize ko:gm x (gi y)=f at *;have ha:=ak ke;have xo:=ak x6;clear ke x6 O;by_cases km:f=0
                  . have kz:((gm x (gi y):Nat):Int)=0:=(by rw [ko,km];rfl);have x5:x=0:=(by have:=ha.out;rw [km,bI,U3] at this;exact this);have J:=ak (h6.out x5);clear km ko kb x5 h6 qg ha;have tn:(d:Int)<(W:Int):=(by omega);go_wp2_with (go_at_call 64;refine (sQ x (gi y) rfl rfl ks (iu p3) kz _).mono ?_;rintro e V ⟨rfl,rfl⟩);refine VD 1 ?_;rw [Vt];go_wp2;go_roundw
                    case rel=>exact ⟨k4+1,z,by omega,by omega,by go_num,J.out⟩
                    case measure=>simp [intOf];omega
                  . have y2:(((f:Nat):Int) != 0)=ZY:=(by rw [bne_iff_ne];omega);have kz:((gm x (gi y):Nat):Int)=((f:Nat):Int):=(by rw [ko]);clear km ko h6;go_wp2_with (go_at_call 64;refine (sQ x (gi y) rfl rfl ks (iu p3) kz _).mono ?_;rintro e V ⟨rfl,rfl⟩);go_loopw [16] (λjv wr=>RJ V bk l t.2.2 f d W jv wr) (λjv _=>W-(intOf jv).toNat)
                    case atStart=>exact ⟨d,TU _,by omega,rfl,Ws _ _,by rw [DE];exact x9.out⟩
                    case round=>
                     rename ZW=>wj;obtain ⟨j,y0,yp,rfl,kc,K⟩:=hrel;have yo:=kc.cell hh y7;by_cases y9:j<W
                     . have N:=(xa.out.grown kc (by intro e;injection e with e;exact q7 e)).cell j (by rw [qe.out];exact y9);have ye:=K.cell j (by rw [sP];omega);rw [JB _ _ _ _ _ (by omega)] at ye;have z0:=K.frozen j;have Q:=K.set j (l.getD j 0^^^gm f (t.2.2.getD j 0));rw [GF _ _ _ _ _ y0] at Q;have q0:=eG kc j (Z8 .u8 ((l.getD j 0^^^gm f (t.2.2.getD j 0):Nat):Int));have y3:=dm xi.out j;have z1:=lg (l.getD j 0) (gm f (t.2.2.getD j 0)) (dm qi.out j) (bt _ kb);clear K kc hh yi;generalize l.getD j 0^^^gm f (t.2.2.getD j 0)=av at *;generalize l.getD j 0=a0 at *;generalize t.2.2.getD j 0=dd at *;go_wp2_with (go_at_call 64;refine (sQ f dd rfl rfl kb y3 rfl _).mono ?_;rintro e w' ⟨rfl,rfl⟩);go_region;go_wp2;go_roundw
                       case rel=>exact ⟨j+1,by omega,by omega,by go_num,sI q0 1,Q⟩
                       case measure=>simp [intOf];omega
                     . have qv:j=W:=(by omega);rw [qv] at K;have Y:=JC l t.2.2 f d W hll qe.out xj.out;have n:dJ (lj l t.2.2 f d W) d=0:=by
                        rw [Y];show dJ l d^^^gm f (dJ t.2.2 d)=0;rw [xo.out,xp.out];exact ha.out
                       obtain ⟨T4,qm⟩:=qg.out f _ wj kb kc K (by rw [sP];exact hll) (MZ qi.out kb _ _) Y n;have xe:=ak qm;clear Y n qm K qv;go_wp2;go_roundw
                       case rel=>exact ⟨k4+1,T4,by omega,by omega,by go_num,xe.out⟩
                       case measure=>simp [intOf];omega
                . have xd:=ak (xf.out k4 z V m (by omega));clear m;go_wp2;go_roundw
                  case rel=>exact ⟨r+1,d+1,z,by omega,by go_num,by go_num,xd.out⟩
                  case measure=>simp [intOf];omega
        . have xz:d=W:=(by omega);have HK:=ak (A.done (by omega));have HB:=ak A.bel;clear A xz;go_wp2;go_ret;exact ⟨λ_=>⟨r,by omega,rfl,HK.o⟩,λh=>absurd xg.out h,HB.o⟩
def DF {a:Nat} (h:a^^^c=b^^^c):a=b:=by
 have:=Uy (·^^^c) h;simpa [U2] using this
def Pm {a:Nat} (h:c^^^a=c^^^b):a=b:=DF (c:=c) (by rw [WZ a,WZ b];exact h)
def AU (h:r<4294967296):dj r/2^28=cG.getD (r%16) 0/2^28:=by
 unfold dj;rw [aaQ,Xo (show r/16<2^28 by omega),VO]
def AV (d:r<4294967296) (e:s<4294967296) (h:dj r=dj s):r=s:=by
 have a:cG.getD (r%16) 0/2^28=cG.getD (s%16) 0/2^28:=by rw [<- AU d,<- AU e,h]
 have c:∀ i j:Fin 16,cG.getD i.1 0/2^28=cG.getD j.1 0/2^28->i.1=j.1:=by decide
 have b:r%16=s%16:=c ⟨r%16,V5 _ (by decide)⟩ ⟨s%16,V5 _ (by decide)⟩ a;unfold dj at h;rw [b] at h;have:r/16=s/16:=DF h;omega
def AW (e:r<4294967296) (f:s<4294967296) (g:b<256) (i:c<256) (h:dC r b=dC s c):r^^^b=s^^^c:=
 have a:r^^^b<4294967296:=V4 (n:=32) e (by omega);have d:s^^^c<4294967296:=V4 (n:=32) f (by omega)
 AV a d (AV (gB a) (gB d) h)
def AX:∀ (l:a8) {r s:Nat},r<4294967296->s<4294967296->(∀ x∈l,x<256)->l.foldl dC r=l.foldl dC s->r=s
 | [],_,_,_,_,_,h=>h
 | b::l,r,s,c,d,hl,h=>by
  have a:=hl b (by simp);exact DF (AW c d a a (AX l (fj c a) (fj d a) (λx e=>hl x (by simp [e])) h))
def JF {p q:a8} (j:∀ x∈p,x<256) (f:∀ x∈q,x<256) (d:b<256) (e:c<256) (h:nE (p++b::q)=nE (p++c::q)):b=c:=by
 have a:=mW j;have g:∀ y,db (p++y::q)=q.foldl dC (dC (db p) y):=λy=>by unfold db;rw [Wp,W4]
 have:=yX q _ (fj a d) f;have:=yX q _ (fj a e) f;unfold nE at h;rw [g,g] at h;have i:q.foldl dC (dC (db p) b)=q.foldl dC (dC (db p) c):=by omega
 exact Pm (AW a a d e (AX q (fj a d) (fj a e) f i))
def Fv (a:m<4294967296) (b:n<4294967296) (h:be m 4=be n 4):m=n:=by
 have:=Uy fR h;rwa [ld m 4 (by decide) a,ld n 4 (by decide) b] at this
def sR (hl:l.length=64) (h:(ry l).blk=l):l=YE 64 0\/∃ t,t.length=60/\l=be (nE t) 4++t/\1<=t.getD 0 0/\t.getD 0 0<=3:=by
 by_cases a:(ry l).body.length=0
 . left;unfold bE.blk at h;rw [TT a] at h;exact h.symm
 . right;have b:1<=l.getD 4 0/\l.getD 4 0<=3:=by
    unfold ry at a;by_cases d:l.getD 4 0=1
    . omega
    . by_cases e:l.getD 4 0=2
      . omega
      . by_cases f:l.getD 4 0=3
        . omega
        . rw [TS d,TS e,TS f] at a;exact absurd rfl a
   unfold bE.blk at h;rw [TS a] at h;unfold eI at h;obtain ⟨t,g⟩:=nM ((ry l).body++YE (60-(ry l).body.length) 0);rw [g] at h;have c:=Uy YG h;rw [Ua,aD,hl] at c;refine ⟨t,by omega,h.symm,?_⟩;rw [<- h,Ub,U6 (by rw [aD];decide),aD] at b;rw [Ub];exact b
def M1 (l:a8) {j:Nat} (h:j<l.length) (x:Nat):l.set j x=l.take j++x::l.drop (j+1):=by rw [List.set_eq_take_append_cons_drop,TT h]
def M6 (l:a8) {j:Nat} (h:j<l.length):l=l.take j++l.getD j 0::l.drop (j+1):=by
 rw [Ub,Uc h];show l=l.take j++l[j]::l.drop (j+1);rw [<- XZ h,Wh]
theorem qI {x:Nat} (p:j<64) (w:x<256) (v:x≠0):¬ ∃ t,t.length=60/\(YE 64 0).set j x=be (nE t) 4++t/\1<=t.getD 0 0/\t.getD 0 0<=3:=by
 rintro ⟨t,r,h,c,f⟩;have a:∀ i,t.getD i 0=((YE 64 0).set j x).getD (i+4) 0:=λi=>by
  rw [h,Ub,Ub,U6 (by rw [aD];omega),aD,Nat.add_sub_cancel]
 have b:∀ i,((YE 64 0).set j x).getD i 0=if j=i then x else 0:=λi=>by
  rw [Ub,Xf];by_cases e:j=i
  . rw [TT e,TT e,XS,TT p];rfl
  . rw [TS e,TS e,WC];split<;>rfl
 have k:j=4:=by
  have:=a 0;rw [b] at this;by_cases e:j=0+4
  . exact e
  . rw [TS e] at this;omega
 subst k;have n:t.getD 0 0=x:=by rw [a,b];rfl
 have m:t=x::YE 59 0:=by
  refine Vb (by simp [r]) λi s z=>?_;have q:=(a i).trans (b _);rw [Ub,Uc s] at q;have u:t[i]=if 4=i+4 then x else 0:=q;rw [u];match i with
  | 0=>rfl
  | i+1=>rw [TS (by omega),X1,List.getElem_replicate]
 have o:be (nE t) 4=[0,0,0,0]:=by
  have:=Uy (List.take 4) h;rw [VQ (by rw [aD];exact TU _),UI (l:=be (nE t) 4) (by rw [aD];exact TU _)] at this;rw [<- this];simp [YE]
 have d:nE t=0:=Fv (yY _) (by decide) o;rw [n] at c f;have g:∀ y:Fin 4,1<=y.1->nE (y.1::YE 59 0)≠0:=by decide +kernel
 rw [m] at d;exact g ⟨x,by omega⟩ c d
def JG (hl:l.length=64) (z:∀ y∈l,y<256) {j x:Nat} (c:j<64) (v:x<256) (a:x≠l.getD j 0) (h:(ry l).blk=l):(ry (l.set j x)).blk≠l.set j x:=by
 intro r;have g:j<l.length:=by omega
 have C:l.getD j 0<256:=by rw [Ub,Uc g];exact z _ (T6 g)
 have s:(l.set j x).set j (l.getD j 0)=l:=by
  rw [List.set_set,Ub,Uc g];exact List.set_getElem_self _
 have u:(l.set j x).getD j 0=x:=by rw [Ub,Yy g];rfl
 rcases sR hl h with e|⟨t,E,e,A,B⟩
 . rcases sR (by rw [VS];exact hl) r with b|w
   . have q:=u;rw [b,Ub,WC,TT c] at q;rw [e,Ub,WC,TT c] at a;exact a q.symm
   . have q:l.getD j 0=0:=(by rw [e,Ub,WC,TT c];rfl);rw [q] at a;rw [e] at w;exact qI c v a w
 . rcases sR (by rw [VS];exact hl) r with b|⟨H,I,b,_⟩
   . have q:x=0:=by
      have q:=u;rw [b,Ub,WC,TT c] at q;exact q.symm
     rw [b] at s;rw [q] at a;exact qI c C (λq=>a q.symm) ⟨t,E,s.trans e,A,B⟩
   . by_cases m:j<4
     . have o:(be (nE t) 4++t).set j x=(be (nE t) 4).set j x++t:=List.set_append_left _ _ (by rw [aD];exact m);rw [e,o] at b;have D:((be (nE t) 4).set j x).length=(be (nE H) 4).length:=(by rw [VS,aD,aD]);obtain ⟨k,p⟩:=YR b D;rw [<- p] at k;have f:((be (nE t) 4).set j x).getD j 0=(be (nE t) 4).getD j 0:=(by rw [k]);rw [Ub,Yy (by rw [aD];exact m)] at f;rw [e,Ub,Vv (by rw [aD];exact m),<- Ub] at a;exact a f
     . have o:(be (nE t) 4++t).set j x=be (nE t) 4++t.set (j-4) x:=(by rw [YK _ _ (by rw [aD];omega),aD]);rw [e,o] at b;obtain ⟨k,p⟩:=YR b (by rw [aD,aD]);have f:=Fv (yY _) (yY _) k;have i:j-4<t.length:=(by omega);have n:∀ y∈t,y<256:=λy d=>z y (by rw [e];exact VM _ d);rw [<- p,M1 t i] at f;have G:nE (t.take (j-4)++t.getD (j-4) 0::t.drop (j-4+1))=nE (t.take (j-4)++x::t.drop (j-4+1)):=(by rw [<- M6 t i];exact f);have F:=JF (λy d=>n y (UV d)) (λy d=>n y (UZ d)) (by rw [Ub,Uc i];exact n _ (T6 i)) v G;rw [e,Ub,U6 (by rw [aD];omega),aD,<- Ub] at a;exact a F.symm
