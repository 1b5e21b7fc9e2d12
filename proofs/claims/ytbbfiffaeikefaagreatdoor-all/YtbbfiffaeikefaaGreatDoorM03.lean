import Derived.Test.YtbbfiffaeikefaaGreatDoorM02
import Derived.Maps.AppendAt
import Derived.Laws.Bits64b
import Derived.ChangeKeysEq
import Derived.Laws.StructEq
import Derived.LaidEql
import Derived.Stop.Asserts
import Derived.RowKitTokens
import Derived.OrdersHeld
import Derived.Deep.CutRange
import Derived.Lib.TrailingZeros
import Derived.Laws.BitsAllLaws
import Derived.Laws.Tables
import Derived.Deep.WholeRow
import Derived.WalkMore
import Derived.Deep.AppendSrc
import Derived.Lib.SliceRun
set_option maxRecDepth 100000
set_option linter.all false
set_option maxHeartbeats 8000000
open Go.IntKind renaming i64 -> Z9, u64 -> Z8
open Go.Value renaming int -> Z7, pointer -> Z6, slice -> Z5, bool -> Z1, tuple -> ZZ
open Go.Obj renaming cells -> Z4
open Go.Ending renaming returned -> Z3
open Go.Operand renaming tmp -> Z0
open Go renaming undef -> ZY, World -> ZT, Value -> ZS, Calls -> ZQ, Addr -> ZP, Ending -> ZO, Oper -> ZN, Act -> ZM, TypeId -> ZL, Boxed -> ZK, Operand -> ZJ
open Option renaming none -> ZX, some -> ZW
open Bool renaming true -> ZV, false -> ZU
open Go.RowKit renaming Below -> ZR
open List renaming range -> YE, replicate -> YF, take -> YK, range_zero -> YN, append_inj -> YW
open Array renaming replicate -> YG, foldl -> YJ, ext_getElem? -> YP, mem_toList_iff -> YR, setIfInBounds_comm -> YS
open Go renaming method -> YH
open Exists renaming intro -> YI
open Nat renaming reduceAdd -> YL, reduceSub -> YM, testBit_two_pow_mul_add -> YO, div_mul_le_self -> YU
open Bool renaming or_eq_true_iff -> YQ, false_eq_true -> YT
open Option renaming toList_some -> YV
open Go.Proofs.Tryz renaming prog -> ZI
open Go.Proofs.Tryz
namespace Go.Proofs.YtbbfiffaeikefaaGreatDoor
def Ug:=@Go.Deep.blk_alloc_new
def Vv:=@Go.setRow_heap
def Xj:=@Go.run_loadVar_row
def WR:=@Go.Proofs.Tryz.underlying102
def X4:=@Go.run_storeVar_row
def abP:=@Go.wpList_load_mid
def abQ:=@List.take_succ_cons
def Yx:=@Nat.sub_zero
def Yy:=@Go.wpList_append_own_at
def Vd:=@Go.IntKind.wrap_u64
def abR:=@Go.bits_or_u64_nat
def X5:=@Nat.testBit_two_pow_sub_succ
def WS:=@Nat.testBit_two_pow_sub_one
def Xk:=@Nat.testBit_lt_two_pow
def abS:=@Nat.and_two_pow_sub_one_eq_mod
def Vh:=@List.take_add_one
def UC:=@Go.Deep.blk_alloc_lt
def WA:=@List.map_take
def X6:=@List.getElem?_take
def WB:=@List.map_drop
def Wd:=@List.getElem?_drop
def Vx:=@Nat.add_assoc
def Wl:=@Nat.min_eq_left
def Uk:=@Go.World.cell?_of_block
def Um:=@List.length_drop
def U0:=@List.mem_of_mem_drop
def abT:=@Go.World.rangeAt_alloc
def Ur:=@Go.bodyPost_ret
def V4:=@Go.results_cell_row
def XD:=@Go.Proofs.Tryz.underlying130
def X7:=@List.drop_eq_getElem_cons
def Xl:=@Array.getElem?_eq_none
def UO:=@Go.run_underlying
def abU:=@Go.Proofs.Tryz.underlying219
def UH:=@List.size_toArray
def UK:=@List.length_range
def Wm:=@List.take_zero
def Ue:=@List.setIfInBounds_toArray
def Uf:=@List.set_cons_zero
def Xm:=@List.getElem?_toArray
def We:=@Nat.mul_one
def Xn:=@Go.Proofs.Tryz.underlying5
def WT:=@Go.World.cell?_alloc_lt
def XE:=@Nat.lt_or_ge
def Yz:=@Go.World.frozen?_alloc_old
def Xo:=@Go.RowKit.Below.setCell
def Xq:=@Go.run_typeAssert_lacksB
def abV:=@Go.Proofs.Tryz.underlying242
def abW:=@Go.Proofs.Tryz.underlying163
def WU:=@Bool.and_eq_true
def XF:=@Bool.or_eq_true
def YA:=@Go.Region.noSelect_spec
def VF:=@Go.Oper.semAt_plain
def Xr:=@Go.Act.put_comm
def XG:=@Nat.testBit_and
def XH:=@Nat.testBit_two_pow
def WV:=@Nat.testBit_eq_decide_div_mod_eq
def Vy:=@List.range_succ
def YB:=@List.sum_append
def XI:=@List.sum_cons
def XJ:=@Int.natCast_pow
def WW:=@Nat.and_le_left
def X8:=@Int.natCast_ediv
def VR:=@Nat.add_zero
def YC:=@Go.u64_andNot_nat
def ab9:=@Nat.testBit_mul_two_pow
def aca:=@Nat.testBit_div_two_pow
def U7:=@List.mem_cons_self
def UP:=@List.mem_cons_of_mem
def Xs:=@Go.callsIn_of_wp
def Vj:=@Array.replicate_succ
def Vk:=@Array.replicate_zero
def Vl:=@List.push_toArray
def Vm:=@List.append_toArray
def Wn:=@List.append_nil
def XK:=@Go.results_none
def Wu:=@Go.run_takeDeferred
def YD:=@Nat.pow_pos
def Xt:=@Nat.or_lt_two_pow
def Ut:=@Go.Boxed.new
def V5:=@Go.KeepsOthers.setCell
def Wf:=@Go.callsIn_of_wp_marks
def Wg:=@Go.wpIn_rangeFunc_ownG
def Ve:=@Go.Proofs.enters_of
def abX:=@Go.World.rowIs_alloc
def X9:=@Array.all_eq_true
def abl:=@Go.wpList_load_row
def Ya:=@Go.Proofs.Tryz.underlying249
def Wv:=@Go.wpList_store_row
def UE:=@Go.heap_alloc_last
def WX:=@Nat.mul_le_mul_right
def XL:=@Int.natCast_mul
def Yb:=@List.mem_or_eq_of_mem_set
def abY:=@Go.wpList_make_own
def WC:=@List.getElem?_replicate
def WY:=@Go.wpAny_take
def Yc:=@Go.wpAny_ready
def XM:=@Go.AllReady.cons
def Yd:=@Go.AllReady.nil
def abm:=@Go.wp_load_mid
def Ye:=@Go.Proofs.Tryz.underlying101
def abn:=@List.getElem?_set_self
def XN:=@Nat.add_mul
def abo:=@Go.grownCap_ge
def abp:=@Go.grownCap_le_maxLen
def abq:=@Go.heap_alloc_new
def Yf:=@List.take_left
def abr:=@Go.growslice_fits
def abt:=@Nat.zero_mul
def abZ:=@List.getElem_cons_zero
def Yg:=@List.getElem_cons_succ
def Wh:=@Nat.testBit_or
def VG:=@Int.toNat_natCast
def XO:=@Go.Lib.run_eql_slice_nil
def VN:=@List.flatMap_cons
def XP:=@Int.tdiv_eq_ediv_of_nonneg
def Wo:=@List.take_append_drop
def V6:=@List.mem_append_right
end Go.Proofs.YtbbfiffaeikefaaGreatDoor
namespace Go.Proofs.YtbbfiffaeikefaaGreatDoor
open Go.RowKit Go.Deep Go.Shelf Gf
variable {a:ZM} {ops:Array ZN} {cs vals args:Array ZS} {R:ZO->ZT->Prop} {Q:Exit->ZM->ZT->Prop} {F:aQ} {fn:Func} {f:FuncId} {kk:IntKind} {M K:List a8} {T:List (Nat×Nat×a8)} {l l' src:a8} {rest:List ZN} {vs:List ZS} {b p q base n off c j cap D r B L G s d x i m ps ho k D' g gone:Nat} {o:ZN} {P:Program} {ty t:ZL} {v y v' u:ZS} {Vi:ZS->ZT->Prop} {w w' w0 Z X w1 w2 wc:ZT} {S:ZT->Prop}
def aB (l:a8):Array ZS:=(aH l).toArray
def il (l:a8):(aB l).size=l.length:=by unfold aB aH;simp
def wW (l:a8):(aB l).toList=aH l:=by unfold aB;rfl
def aX (l:a8):(aH l).length=l.length:=by unfold aH;simp
def A2 (l:a8):(aB l).all (λv=>v.oneCell')=ZV:=all_oneCell_toArray λv a=>by
 unfold aH at a;rw [T7] at a;obtain ⟨x,_,rfl⟩:=a;rfl
def Tryz.S7:(ZI.info? 102).map (λi=>i.size)=ZW 64:=by kernel_rfl
def fs (h:l.length=64):(ZI.info? 102).map (λi=>i.size)=ZW (aB l).size:=by rw [il,h];exact Tryz.S7
def zb:a8:=YF 64 0
def cB:zb.length=64:=by simp [zb]
def Tryz.zeroBlk:(ZI.info? 102).map (λi=>(i.zero,i.size,i.bytes))=ZW (ZW (.agg (aB zb)),64,64):=by kernel_rfl
def zeroBlk (w:ZT):(zeroValue 102).run ZI w=.ok (.agg (aB zb)) w:=by
 obtain ⟨c,a,b,_,_⟩:=Us Tryz.zeroBlk;simp [zeroValue,typeInfo,Ux,a,b]
def bL (w:ZT) (b:Nat) (l:a8):Prop:=w.heap[b]?=ZW (Z4 (aB l) 102 (0,0))
def bL.lt (h:bL w b l):b<w.heap.size:=(TX.1 h).1
def bL.new (w:ZT) (l:a8):bL (w.alloc (Z4 (aB l) 102)) w.heap.size l:=Ug _ _
def bL.keep (h:bL w b l) (e:w'.heap[b]?=w.heap[b]?):bL w' b l:=e.trans h
def bL.setRow (l:a8) (h:bL w b l'):bL (w.setRow b (aB l)) b l:=Vv w b (aB l') (aB l) _ _ h
def aL (w:ZT) (b:Nat) (cs:Array ZS):w.grownBy (w.setRow b cs) (ZW b):=
 ⟨rfl,rfl,rfl,by simp,λk _ a=>by
  have:b≠k:=λe=>a (by rw [e]);simp [World.setRow,VL,this]⟩
def aa.setRow {S:Nat->Prop} (w:ZT) (b:Nat) (cs:Array ZS) (h:S b):aa S w (w.setRow b cs):=
 have g:=aL w b cs
 ⟨g.os,g.tape,g.output,g.size,λk a c=>g.block k a (λe=>c (by cases e;exact h))⟩
def gz (w:ZT) (b:Nat) (cs:Array ZS):(w.setRow b cs).heap.size=w.heap.size:=by simp [World.setRow]
def nl (h:bL w b l) (hl:l.length=64):(Instr.loadAt 102 (Z6 (ZW ⟨b,0,ZX⟩))).run ZI w=.ok (.agg (aB l)) w:=by
 simp only [Instr.loadAt,Instr.sureAddr,Ux,Vf,UM,Xj w b 102 102 (aB l) (0,0) _ h WR rfl (fs hl)]
def qV (h:bL w b l) (hl:l.length=64):(loadVar 102 ⟨b,0,ZX⟩).run ZI w=.ok (.agg (aB l)) w:=
 Xj w b 102 102 (aB l) (0,0) _ h WR rfl (fs hl)
def A3 (l:a8) (h:bL w b l') (a:l'.length=64) (hl:l.length=64):(Instr.storeAt 102 (Z6 (ZW ⟨b,0,ZX⟩)) (.agg (aB l))).run ZI w=.ok () (w.setRow b (aB l)):=by
 simp only [Instr.storeAt,Instr.sureAddr,Ux,Vf,UM,X4 w b 102 102 (aB l') (aB l) h (fs hl) (by rw [il,il,hl,a]) (A2 l)]
def mq (d:o.guard=ZX) (x:ZJ) (ho:o.op=.load 102 x) (b:Nat) (l:a8)
 (e:a.eval x=Z6 (ZW ⟨b,0,ZX⟩)) (c:bL w b l) (hl:l.length=64) (h:wpList ZI ops Q rest (a.put o.dst (.agg (aB l))) w):wpList ZI ops Q (o::rest) a w:=by
 refine VZ d λK hK=>?_;unfold Oper.wp;simp [execOp,ho,e,nl c hl,Result.andThen];exact hK _ _ h
def gA (e:o.guard=ZX) (x y:ZJ) (ho:o.op=.store 102 x y) (b:Nat) (l l':a8)
 (f:a.eval x=Z6 (ZW ⟨b,0,ZX⟩)) (g:a.eval y=.agg (aB l)) (d:bL w b l') (c:l'.length=64) (hl:l.length=64) (h:wpList ZI ops Q rest (a.put o.dst ZY) (w.setRow b (aB l))):wpList ZI ops Q (o::rest) a w:=by
 refine VZ e λK hK=>?_;unfold Oper.wp;simp [execOp,ho,f,g,A3 l d c hl,Result.andThen];exact hK _ _ h
def DR (d:o.guard=ZX) (x:ZJ) (ho:o.op=.load 102 x) (b k:Nat) (l:a8)
 (e:a.eval x=Z6 (ZW ⟨b,k,ZX⟩)) (c:w.rangeAt b k (aH l)) (hl:l.length=64) (h:wpList ZI ops Q rest (a.put o.dst (.agg (aB l))) w):wpList ZI ops Q (o::rest) a w:=
 abP d 102 x ho b k e (aH l) _ c WR rfl (by rw [aX,hl];exact Tryz.S7) h
def iY {p q:Tmp} (h:fn.results=#[.cell p ty,.tmp q]) (tmps:Array ZS) (w:ZT) (a:ZP) (v u:ZS)
 (d:tmps.getD p ZY=Z6 (ZW a)) (e:tmps.getD q ZY=u) (hl:(loadVar ty a).run P w=.ok v w):(results fn tmps).run P w=.ok (ZZ #[v,u]) w:=by
 have b:tmps[p]?.getD ZY=Z6 (ZW a):=by simpa using d
 have c:tmps[q]?.getD ZY=u:=by simpa using e
 simp [results,h,b,c,asAddr,hl]
def bM (a b:a8):aH (a++b)=aH a++aH b:=by simp [aH]
def FZ (n:Nat):∀ (s k:Nat),k<s->(be n s).take (s-k)=(be n s).take (s-(k+1))++[n/256^k%256]
 | 0,k,h=>absurd h (by omega)
 | s+1,k,h=>by
  by_cases e:k=s
  . subst e;rw [show k+1-k=1 by omega,WK];simp [be]
  . have ih:=FZ n s k (by omega);rw [show s+1-k=(s-k)+1 by omega,show s+1-(k+1)=(s-(k+1))+1 by omega];simp only [be,abQ,UU,ih]
def NF (n k:Nat):((n:Int)/2^(8*k)%256)=((n/256^k%256:Nat):Int):=by
 have e:(2:Nat)^(8*k)=256^k:=by rw [Nat.pow_mul]
 have a:((2:Int)^(8*k))=((256^k:Nat):Int):=by rw [<- e];norm_cast
 rw [a];omega
def nV (w:ZT) (x:ZS) (t:ZL):∀ j u,[x][j]?=ZW u->(w.alloc (Z4 #[x] t)).cell? ((⟨w.heap.size,0,ZX⟩:ZP).add j)=ZW u:=by
 intro j u h;rw [jC];match j,h with
 | 0,h=>simp at h;subst h;simp only [World.cell?,Ug w (Z4 #[x] t)];rfl
 | j+1,h=>simp at h
def aaT (w:ZT) (base:Nat) (n s k0:Nat) (xs:List ZS) (v0:ZS) (b i:ZS) (wr:ZT):Prop:=
 ∃ (k:Nat) (v:ZS),k<=s/\i=Z7 Z9 ((k:Int)-1)/\b=v/\wr.ownsRow base 5 1 v (k0+(s-k)) (xs++aH ((be n s).take (s-k)))/\aa (λj=>v0.ownBlock=ZW j) w wr/\(∀ j,v.ownBlock=ZW j->v0.ownBlock=ZW j\/w.heap.size<=j)
theorem fQ (base:Nat) (d:ZS) (c:Nat) (xs:List ZS) (n s:Nat) (w:ZT) (z:w.ownsRow base 5 1 d c xs) (x:base<=w.heap.size) (q:s<=8) (J:c<=1000000000) :
 ZQ ZI 147 #[d,Z7 Z8 n,Z7 Z9 s] w λe w'=>∃ v',e=Z3 v'/\w'.ownsRow base 5 1 v' (c+s) (xs++aH (be n s))/\aa (λj=>d.ownBlock=ZW j) w w'/\(∀ j,v'.ownBlock=ZW j->d.ownBlock=ZW j\/w.heap.size<=j):=by
 obtain ⟨G,B,D,E,F⟩:=Us Tryz.R2;go_enter func147,ntmps147;go_wp2;go_loopw [0,7] (λb i wr=>aaT w base n s c xs d b i wr) (λ_ i _=>(intOf i+1).toNat)
 case atStart=>exact ⟨s,d,TV _,by go_num,rfl,by rw [WK];simpa [aH] using z,aa.refl _ _,λj h=>.inl h⟩
 case round=>
  obtain ⟨k,v,K,rfl,rfl,l,a,f⟩:=hrel;cases k with
  | zero=>
   have p:((0:Nat):Int)-1=-1:=(by omega);rw [p];have t:=aE l a f;clear l a f;go_wp2;go_ret;obtain ⟨l,a,f⟩:=t.o;refine ⟨_,rfl,?_,a,f⟩;rwa [Yx,UI (by rw [aC];exact TV _)] at l
  | succ k=>
   have p:((k+1:Nat):Int)-1=(k:Int):=(by omega);rw [p];have I:=TU x a.size;go_wp2_with (at_builtin;refine Yy _ rfl (Z0 14) (Z0 20) 39 rfl base 5 G (Z7 .u8 0) 1 1 Ul B D E F rfl (by decide) u0 (c+(s-(k+1))) _ rfl (l.alloc _) ⟨wr.heap.size,0,ZX⟩ 1 1 _ rfl rfl (nV wr _ _) (by intro u r;simp at r;subst r;rfl) (by unfold maxLen;omega) (by omega) (by simp;omega) ?_;intro v' w' ho m H A);have C:(wr.alloc (Z4 #[Z7 .u8 ((n:Int)/2^(8*k)%256)] 5)).heap.size=wr.heap.size+1:=(by simp);have L:=a.size;have y:∀ j,v'.ownBlock=ZW j->d.ownBlock=ZW j\/w.heap.size<=j:=λj g=>by
    rcases A with e|e
    . exact f j (e▸g)
    . rw [e] at g;cases g;rw [C];exact .inr (by omega)
   refine ⟨⟨k,v',by omega,by go_num,rfl,?_,?_,y⟩,by simp [intOf]⟩
   . rw [NF] at ho;rw [FZ n s k (by omega),bM,<- Uz,show c+(s-k)=c+(s-(k+1))+1 by omega];exact ho
   . exact (a.later (aa.alloc (S:=λ_=>False) _ _) (λ_ _ h=>h.elim)).later (T:=λj=>u0.ownBlock=ZW j) ⟨m.os,m.tape,m.output,m.size,λj g q=>m.block j g (λe=>q e.symm)⟩ (λj g h=>by
      rcases f j h with e|e
      . exact e
      . omega)
theorem P0 (n x:Nat) (c:x<256):bits .or .u64 (IntKind.u64.wrap ((n:Int)*256)) (x:Int)=(((n*256+x)%18446744073709551616:Nat):Int):=by
 have a:IntKind.u64.wrap ((n:Int)*256)=((n*256%18446744073709551616:Nat):Int):=by rw [Vd];omega
 rw [a,abR _ _ (V9 _ (by decide)) (by omega)];congr 1;have b:n*256%18446744073709551616=2^8*(n%72057594037927936):=by omega
 rw [b,<- Nat.two_pow_add_eq_or_of_lt (i:=8) (by omega)];omega
def F0 (a b:Nat) (c:a<4294967296) (d:b<4294967296):bits .xor .u32 (a:Int) (b:Int)=((a^^^b:Nat):Int):=by
 have e:a%2^IntKind.u32.bits=a:=VW c;have f:b%2^IntKind.u32.bits=b:=VW d;have:a^^^b<2^32:=V7 c d;simp only [bits,BitVec.ofInt_natCast,BitVec.toNat_xor,BitVec.toNat_ofNat,e,f];rw [IntKind.wrap_u32];omega
theorem P2 (r:Nat) (a:r<4294967296):bits .xor .u32 IntKind.u32.max (r:Int)=((4294967295-r:Nat):Int):=by
 have e:IntKind.u32.max=((4294967295:Nat):Int):=rfl;rw [e,F0 _ _ (by decide) a];congr 1;refine Xw λi=>?_;have c:=X5 (n:=32) (x:=r) a i;have d:=WS 32 i;rw [abF,show (4294967295:Nat)-r=2^32-(r+1) by omega,c,show (4294967295:Nat)=2^32-1 from rfl,d];by_cases b:i<32
 . simp [b]
 . have:r.testBit i=ZU:=Xk (TZ a (by have:=U8 (n:=2) (by decide) (show 32<=i by omega);omega));simp [b,this]
def Pj (a b:Nat) (c:a<4294967296) (d:b<4294967296):bits .and .u32 (a:Int) (b:Int)=((a &&& b:Nat):Int):=(bits_nat .u32 32 (by decide) (λn e f=>by rw [IntKind.wrap_u32];omega) a b c d).1
def aak (a:Nat):a &&& 15=a%16:=abS a 4
def Hd (l:a8) (k:Nat) (h:k<l.length):di (l.take (k+1))=dC (di (l.take k)) (l.getD k 0):=by
 rw [Vh,Ua h];unfold di;rw [Wq,T6,Ua h];rfl
def Km (l:a8) (k:Nat) (h:k<l.length):fL (l.take (k+1))=(fL (l.take k)*256+l.getD k 0)%18446744073709551616:=by
 rw [Vh,Ua h,T6,Ua h];exact sW _ _
def aal (w:ZT) (l:a8) (n i _x:ZS) (wr:ZT):Prop:=∃ k:Nat,k<=l.length/\n=Z7 Z8 (fL (l.take k):Nat)/\i=Z7 Z9 k/\wr=w
theorem zt (v:ZS) (l:a8) (w:ZT) (h:Bs w v l):ZQ ZI 181 #[v] w λe w'=>e=Z3 (Z7 Z8 (fL l:Nat))/\w'=w:=by
 obtain ⟨ao,c,rfl,r,t,q,d⟩:=h;go_enter func181,ntmps181;go_wp2;go_loopw [3,8,5] (λn i x wr=>aal w l n i x wr) (λ_ i _ _=>l.length-(intOf i).toNat)
 case atStart=>exact ⟨0,T5 _,rfl,rfl,rfl⟩
 case round=>
  obtain ⟨k,s,rfl,rfl,rfl⟩:=hrel;by_cases a:k<l.length
  . obtain ⟨b,off,rfl,f⟩:=d (by intro e;rw [e] at a;simp at a);have c1:=f k a;have ho:aal wr l (Z7 Z8 (((fL (l.take k)*256+l.getD k 0)%18446744073709551616:Nat):Int)) (Z7 Z9 ((k:Int)+1)) (Z7 .u8 (l.getD k 0:Nat)) wr:=⟨k+1,by omega,by rw [Km l k a],rfl,rfl⟩;have p:l.getD k 0<256:=dw q k;have g:=P0 (fL (l.take k)) (l.getD k 0) p;rw [<- g] at ho;have j:=ak ho;clear ho g d f;generalize l.getD k 0=x at *;generalize fL (l.take k)=n at *;go_wp2;exact ⟨j.o,by simp [intOf];omega⟩
  . have m:k=l.length:=(by omega);subst m;rw [VE];clear d;go_wp2;go_ret;exact ⟨rfl,rfl⟩
def bh (w:ZT):Prop:=∀ j,j<16->w.cell? ⟨2,j,ZX⟩=ZW (Z7 .u32 ((cI.getD j 0:Nat):Int))
def SmR (w:ZT) (l:a8) (n i _x:ZS) (wr:ZT):Prop:=∃ k:Nat,k<=l.length/\n=Z7 .u32 (di (l.take k):Nat)/\i=Z7 Z9 k/\wr=w
theorem NG (v:ZS) (l:a8) (w:ZT) (h:Bs w v l) (z:bh w):ZQ ZI 179 #[v] w λe w'=>e=Z3 (Z7 .u32 (nI l:Nat))/\w'=w:=by
 obtain ⟨ao,c,rfl,O,Q,q,p⟩:=h;go_enter func179,ntmps179;go_wp2;go_loopw [3,8,5] (λn i x wr=>SmR w l n i x wr) (λ_ i _ _=>l.length-(intOf i).toNat)
 case atStart=>exact ⟨0,T5 _,rfl,rfl,rfl⟩
 case round=>
  obtain ⟨k,P,rfl,rfl,rfl⟩:=hrel;by_cases g:k<l.length
  . obtain ⟨b,off,rfl,s⟩:=p (by intro e;rw [e] at g;simp at g);have c1:=s k g;have ho:SmR wr l (Z7 .u32 ((dC (di (l.take k)) (l.getD k 0):Nat):Int)) (Z7 Z9 ((k:Int)+1)) (Z7 .u8 (l.getD k 0:Nat)) wr:=⟨k+1,by omega,by rw [Hd l k g],rfl,rfl⟩;have N:l.getD k 0<256:=dw q k;have j:di (l.take k)<4294967296:=ni (λx h=>q x (UY h));unfold dC at ho;clear p s;generalize l.getD k 0=x at *;generalize di (l.take k)=r at *;have A:(x:Int)%4294967296=(x:Int):=(by omega);have U:=F0 r x j (by omega);have m:r^^^x<4294967296:=V7 (n:=32) j (by omega);generalize r^^^x=a at *;have V:bits .and .u32 (a:Int) 15=((a%16:Nat):Int):=(by have:=Pj a 15 m (by decide);rw [aak] at this;exact this);have W:(a:Int)/16=((a/16:Nat):Int):=(by omega);have G:=z (a%16) (V9 _ (by decide));have t:=pC (a%16);have J:=F0 (a/16) (cI.getD (a%16) 0) (by omega) t;have y:du a<4294967296:=gv m;have f:a/16^^^cI.getD (a%16) 0=du a:=rfl;rw [f] at J;have R:a%16<16:=V9 _ (by decide);clear f;generalize du a=d at *;generalize cI.getD (a%16) 0=L at *;generalize a%16=C at *;generalize a/16=b1 at *;have X:bits .and .u32 (d:Int) 15=((d%16:Nat):Int):=(by have:=Pj d 15 y (by decide);rw [aak] at this;exact this);have Y:(d:Int)/16=((d/16:Nat):Int):=(by omega);have H:=z (d%16) (V9 _ (by decide));have u:=pC (d%16);have K:=F0 (d/16) (cI.getD (d%16) 0) (by omega) u;have f:d/16^^^cI.getD (d%16) 0=du d:=rfl;rw [f] at K;have S:d%16<16:=V9 _ (by decide);clear f;generalize du d=T at *;generalize cI.getD (d%16) 0=M at *;generalize d%16=E at *;generalize d/16=b2 at *;have B:=ak ho;have D:(C:Int)<16:=(by omega);have F:(E:Int)<16:=(by omega);clear ho m y t u;go_wp2;exact ⟨B.o,by simp [intOf];omega⟩
  . have I:k=l.length:=(by omega);subst I;rw [VE];have j:di l<4294967296:=ni q;clear p;have A:=P2 (di l) j;rw [show 4294967295-di l=nI l from rfl] at A;generalize di l=r at *;go_wp2;go_ret;exact ⟨rfl,rfl⟩
def aj (D L G t f n:Nat):Array ZS:=#[Z7 Z9 D,Z7 Z9 L,Z7 Z9 G,Z7 Z8 t,Z7 Z9 f,Z7 Z9 n]
def Bs.Sa (h:w.ownsRow base 5 1 v n (aH l)) (c:∀ x∈l,x<256) (hl:l.length<=1000000):Bs w v l:=by
 have b:l.length=n:=by have:=h.1;rw [aX] at this;omega
 rcases h.2 with ⟨rfl,d⟩|⟨g,cap,cur,rfl,e,f,i,j,m,o⟩
 . subst d;have:l=[]:=UX b;subst this;exact ⟨ZX,0,rfl,by simp,by simp,c,λh=>absurd rfl h⟩
 . refine ⟨ZW ⟨g,0,ZX⟩,cap,by rw [b],by omega,by omega,c,λ_=>⟨g,0,rfl,λk a=>?_⟩⟩;have:=h.cells (g:=g) rfl k (Z7 .u8 ((l.getD k 0:Nat):Int)) (by unfold aH;rw [UA,Ua a,T6,Ua a];rfl);rw [jC] at this;rw [Ui];exact this
def He (w:ZT) (a b c d:Nat):(w.alloc (Z4 #[Z7 .u8 (a:Int),Z7 .u8 (b:Int),Z7 .u8 (c:Int),Z7 .u8 (d:Int)] 5)).ownsRow w.heap.size 5 1 (Z5 (ZW ⟨w.heap.size,0,ZX⟩) 4 4) 4 (aH [a,b,c,d]):=
 ⟨rfl,.inr ⟨w.heap.size,4,_,rfl,TV _,Ug _ _,TV _,by unfold maxLen;omega,rfl,rfl⟩⟩
theorem DS (w:ZT):ZQ ZI 261 #[.agg #[]] w λe w'=>e=Z3 (Z5 ZX 0 0)/\bW w w':=by
 go_enter func261,ntmps261;go_wp2;go_ret;exact ⟨rfl,bA w _⟩
theorem Hf (D L G t f n:Nat) (w:ZT) (Z:(bw.root D L G t f n).ok) :
 ZQ ZI 247 #[.agg (aj D L G t f n)] w λe w'=>∃ v,e=Z3 v/\Bs w' v (bw.root D L G t f n).body/\bW w w':=by
 obtain ⟨m,p,q,E,F,H⟩:=Z;have O:(w.alloc (Z4 (aj D L G t f n) 130)).heap[w.heap.size]?=ZW (Z4 (aj D L G t f n) 130 (0,0)):=Ug _ _;have T:(w.alloc (Z4 (aj D L G t f n) 130)).heap.size=w.heap.size+1:=by simp
 have A:=He (w.alloc (Z4 (aj D L G t f n) 130)) 1 D L G;have j:((w.alloc (Z4 (aj D L G t f n) 130)).alloc (Z4 #[Z7 .u8 1,Z7 .u8 (D:Int),Z7 .u8 (L:Int),Z7 .u8 (G:Int)] 5)).heap[w.heap.size]?=ZW (Z4 (aj D L G t f n) 130 (0,0)):=(UC _ _ _ (by simp)).trans O;have z:bW w ((w.alloc (Z4 (aj D L G t f n) 130)).alloc (Z4 #[Z7 .u8 1,Z7 .u8 (D:Int),Z7 .u8 (L:Int),Z7 .u8 (G:Int)] 5)):=(bA w _).alloc (by simp) _;have C:((w.alloc (Z4 (aj D L G t f n) 130)).alloc (Z4 #[Z7 .u8 1,Z7 .u8 (D:Int),Z7 .u8 (L:Int),Z7 .u8 (G:Int)] 5)).heap.size=w.heap.size+2:=by simp
 rw [T] at A;unfold aj at *;obtain ⟨w1,B⟩:=nM ((w.alloc (Z4 #[Z7 Z9 D,Z7 Z9 L,Z7 Z9 G,Z7 Z8 t,Z7 Z9 f,Z7 Z9 n] 130)).alloc (Z4 #[Z7 .u8 1,Z7 .u8 (D:Int),Z7 .u8 (L:Int),Z7 .u8 (G:Int)] 5));have M:w1.ownsRow (w.heap.size+1) 5 1 (Z5 (ZW ⟨w.heap.size+1,0,ZX⟩) 4 4) 4 (aH [1,D,L,G]):=by rw [<- B];exact A
 rw [B] at j z C;have c1:w1.cell? ⟨w.heap.size,3,ZX⟩=ZW (Z7 Z8 t):=by simp [World.cell?,j]
 have a:=a5 M j z C;clear A M j z O T C;go_enter func247,ntmps247;go_wp2_with fail;refine (fQ (w.heap.size+1) _ 4 (aH [1,D,L,G]) t 8 w1 a.o.1 (by have:=a.o.2.2.2;omega) (by decide) (by decide)).mono ?_;rintro e w2 ⟨v2,rfl,P,h,I⟩;have s:w2.heap[w.heap.size]?=ZW (Z4 #[Z7 Z9 D,Z7 Z9 L,Z7 Z9 G,Z7 Z8 t,Z7 Z9 f,Z7 Z9 n] 130 (0,0)):=(h.block _ (by have:=a.o.2.2.2;omega) (λe=>by simp [Value.ownBlock] at e)).trans a.o.2.1;have J:bW w w2:=a.o.2.2.1.trans (h.below λk y=>⟨by have:=a.o.2.2.2;omega,λe=>by simp [Value.ownBlock] at e;omega⟩);have R:=h.size;have V:w2.cell? ⟨w.heap.size,4,ZX⟩=ZW (Z7 Z9 f):=by simp [World.cell?,s]
 have b:=a6 P s J R I;clear P h I s J R B;go_wp2_with fail;refine (fQ (w.heap.size+1) _ (4+8) (aH [1,D,L,G]++aH (be t 8)) f 4 w2 b.o.1 (by have:=a.o.2.2.2;have:=b.o.2.2.2.1;omega) (by decide) (by decide)).mono ?_;rintro e l ⟨v3,rfl,Q,i,X⟩;have x:∀ k,k<=w.heap.size->¬ v2.ownBlock=ZW k:=λk y e=>by have:=(b.o.1.lt k e).1;omega
 have u:l.heap[w.heap.size]?=ZW (Z4 #[Z7 Z9 D,Z7 Z9 L,Z7 Z9 G,Z7 Z8 t,Z7 Z9 f,Z7 Z9 n] 130 (0,0)):=(i.block _ (by have:=a.o.2.2.2;have:=b.o.2.2.2.1;omega) (x _ lR)).trans b.o.2.1;have K:bW w l:=b.o.2.2.1.trans (i.below λk y=>⟨by have:=a.o.2.2.2;have:=b.o.2.2.2.1;omega,x k (by omega)⟩);have S:=TU b.o.2.2.2.1 i.size;have W:l.cell? ⟨w.heap.size,5,ZX⟩=ZW (Z7 Z9 n):=by simp [World.cell?,u]
 have c:=a5 Q u K S;clear Q i X u K S V x;go_wp2_with fail;refine (fQ (w.heap.size+1) _ (4+8+4) (aH [1,D,L,G]++aH (be t 8)++aH (be f 4)) n 4 l c.o.1 (by have:=a.o.2.2.2;have:=c.o.2.2.2;omega) (by decide) (by decide)).mono ?_;rintro e w4 ⟨v4,rfl,d,N,Y⟩;have g:bW w w4:=c.o.2.2.1.trans (N.below λk y=>⟨by have:=a.o.2.2.2;have:=c.o.2.2.2;omega,λe=>by have:=(c.o.1.lt k e).1;omega⟩);have U:=al d g;clear d N Y g W;go_wp2;go_ret;obtain ⟨d,g⟩:=U.o;refine ⟨v4,rfl,?_,g⟩;have hl:aH [1,D,L,G]++aH (be t 8)++aH (be f 4)++aH (be n 4)=aH (bw.root D L G t f n).body:=by
  rw [<- bM,<- bM,<- bM];simp only [bw.body,VW m,VW p,VW q,Uz]
 rw [hl] at d;exact Bs.Sa d (me (r:=.root D L G t f n) ⟨m,p,q,E,F,H⟩) (TU (jB (r:=.root D L G t f n) ⟨m,p,q,E,F,H⟩) (by decide))
def Bs.mid (d:l.length<=c) (hl:l.length<=1000000) (e:∀ x∈l,x<256) (h:w.rangeAt b off (aH l)):Bs w (Z5 (ZW ⟨b,off,ZX⟩) l.length c) l:=
 ⟨_,c,rfl,d,by omega,e,λ_=>⟨b,off,rfl,λk a=>h k _ (by unfold aH;rw [UA,Ua a,T6,Ua a];rfl)⟩⟩
theorem np (s:Nat) (h:w.rangeAt b off (aH l)):w.rangeAt b off (aH (l.take s)):=λj v a=>by
 unfold aH at a;rw [WA,X6] at a;split at a
 . exact h j v a
 . cases a
def fR (s:Nat) (h:w.rangeAt b off (aH l)):w.rangeAt b (off+s) (aH (l.drop s)):=λj v a=>by
 unfold aH at a;rw [WB,Wd] at a;rw [Vx];exact h (s+j) v a
theorem jD (q b off c s:Nat) (l:a8) (w:ZT) (d:w.heap[q]?=ZW (Z4 #[Z5 (ZW ⟨b,off,ZX⟩) l.length c] 39 (0,0))) (k:c<=1000) (g:∀ x∈l,x<256) (f:w.rangeAt b off (aH l)) (i:s<=l.length) (n:s<c) :
 ZQ ZI 211 #[Z7 Z9 s,Z6 (ZW ⟨q,0,ZX⟩)] w λe w'=>e=Z3 (Z7 Z8 (fL (l.take s):Nat))/\w'=w.setCell ⟨q,0,ZX⟩ (Z5 (ZW ⟨b,off+s,ZX⟩) (l.length-s) (c-s)):=by
 have a:Bs w (Z5 (ZW ⟨b,off,ZX⟩) (l.take s).length c) (l.take s):=Bs.mid (by rw [Un];omega) (by rw [Un];omega) (λx h=>g x (UY h)) (np s f);rw [Un,Wl i] at a;have c0:w.cell? ⟨q,0,ZX⟩=ZW (Z5 (ZW ⟨b,off,ZX⟩) l.length c):=by simp [World.cell?,d]
 have j:w.frozen? ⟨q,0,ZX⟩=ZU:=by simp [World.frozen?,d]
 go_enter func211,ntmps211;go_wp2_with fail;refine (zt _ (l.take s) w a).mono ?_;rintro e w' ⟨rfl,rfl⟩;have m:¬ c=s:=by omega
 clear a f g;go_wp2;go_ret;exact ⟨rfl,rfl⟩
structure Hg (w0 w:ZT) (q b off c:Nat) (l:a8) (vals:Array ZS):Prop where
 box:w.heap[q]?=ZW (Z4 #[Z5 (ZW ⟨b,off,ZX⟩) l.length c] 39 (0,0))
 res:w.heap[q+1]?=ZW (Z4 #[Z7 Z9 0,Z7 Z9 0,Z7 Z9 0,Z7 Z8 0,Z7 Z9 0,Z7 Z9 0] 130 (0,0))
 rv:w.heap[q+1+1]?=ZW (Z4 vals 130 (0,0))
 below:ZR q w0 w
 rng:w.rangeAt b off (aH l)
 lt:b<q
def ag (h:w.heap[b]?=ZW (Z4 cs t (0,0))) (v:ZS):(w.setCell ⟨b,j,ZX⟩ v).heap[b]?=ZW (Z4 (cs.setIfInBounds j v) t (0,0)):=by
 simp [World.setCell,VL,h]
def wX {l:List ZS} (h:w.rangeAt b off l) {a:ZP} (c:b≠a.block) (v:ZS):(w.setCell a v).rangeAt b off l:=λj u d=>by
 have:=h j u d;rw [<- this];exact Uk (Ud _ _ _ _ c)
def Hg.step (h:Hg w0 w q b off c l vals) (s j:Nat) (v:ZS) :
 Hg w0 ((w.setCell ⟨q,0,ZX⟩ (Z5 (ZW ⟨b,off+s,ZX⟩) (l.length-s) (c-s))).setCell ⟨q+1+1,j,ZX⟩ v) q b (off+s) (c-s) (l.drop s) (vals.setIfInBounds j v):=by
 obtain ⟨a,d,e,f,g,i⟩:=h;refine ⟨?_,?_,?_,?_,?_,i⟩
 . rw [Ud _ _ _ _ (by show q≠q+1+1;omega),ag a,Um];rfl
 . rw [Ud _ _ _ _ (by show q+1≠q+1+1;omega),Ud _ _ _ _ (by show q+1≠q;omega)];exact d
 . exact ag ((Ud _ _ _ _ (by show q+1+1≠q;omega)).trans e) v
 . exact (f.setCell (p:=⟨q,0,ZX⟩) lR _).setCell (p:=⟨q+1+1,j,ZX⟩) (by show q<=q+1+1;omega) _
 . exact wX (wX (fR s g) (by show b≠q;omega) _) (by show b≠q+1+1;omega) _
def Hg.cells (h:Hg w0 w q b off c l vals) (s j:Nat) (u:ZS) (a:vals[j]?=ZW u) :
 (w.setCell ⟨q,0,ZX⟩ (Z5 (ZW ⟨b,off+s,ZX⟩) (l.length-s) (c-s))).cell? ⟨q+1+1,j,ZX⟩=ZW u/\(w.setCell ⟨q,0,ZX⟩ (Z5 (ZW ⟨b,off+s,ZX⟩) (l.length-s) (c-s))).frozen? ⟨q+1+1,j,ZX⟩=ZU:=by
 have e:(w.setCell ⟨q,0,ZX⟩ (Z5 (ZW ⟨b,off+s,ZX⟩) (l.length-s) (c-s))).heap[q+1+1]?=_:=(Ud _ _ _ _ (by show q+1+1≠q;omega)).trans h.rv;exact ⟨by simp [World.cell?,e,a],by simp [World.frozen?,e]⟩
def wY:∀ (l:a8),l.length<=7->(∀ x∈l,x<256)->fL l<256^l.length:=by
 intro l hl a;induction hn:l.length generalizing l with
 | zero=>
  have:l=[]:=UX hn;subst this;decide
 | succ n ih=>
  rcases List.eq_nil_or_concat l with rfl|⟨l',x,rfl⟩
  . simp at hn
  . rw [List.concat_eq_append] at *;simp at hn;have b:l'.length<=7:=(by simp at hl;omega);have d:=ih l' b (λy c=>a y (by simp [c])) hn;have e:=a x (by simp);rw [sW,Xx];exact Xf (Nat.mod_le _ _) (by omega)
theorem DT (b off:Nat) (l:a8) (w:ZT) (hl:l.length=59) (hx:∀ x∈l,x<256) (hr:w.rangeAt b off (aH l)) (hb:b<w.heap.size) :
 ZQ ZI 199 #[Z5 (ZW ⟨b,off,ZX⟩) l.length 59] w λe w'=>e=Z3 (.agg (aj (fL (l.take 1)) (fL ((l.drop 1).take 1)) (fL ((l.drop 2).take 1)) (fL ((l.drop 3).take 8)) (fL ((l.drop 11).take 4)) (fL ((l.drop 15).take 4))))/\bW w w':=by
 have W:∀ s,∀ x∈l.drop s,x<256:=λs x h=>hx x (U0 h);have k5:∀ s k,k<=7->fL ((l.drop s).take k)<256^k:=λs k hk=>by
  have hf:((l.drop s).take k).length<=k:=by rw [Un];omega
  exact TZ (wY _ (by omega) (λx h=>W s x (UY h))) (U8 (by decide) hf)
 have V:Hg w (((w.alloc (Z4 #[Z5 (ZW ⟨b,off,ZX⟩) l.length 59] 39)).alloc (Z4 #[Z7 Z9 0,Z7 Z9 0,Z7 Z9 0,Z7 Z8 0,Z7 Z9 0,Z7 Z9 0] 130)).alloc (Z4 #[Z7 Z9 0,Z7 Z9 0,Z7 Z9 0,Z7 Z8 0,Z7 Z9 0,Z7 Z9 0] 130)) w.heap.size b off 59 l #[Z7 Z9 0,Z7 Z9 0,Z7 Z9 0,Z7 Z8 0,Z7 Z9 0,Z7 Z9 0]:=by
  refine ⟨?_,?_,?_,((bA w _).alloc (by simp) _).alloc (by simp;omega) _,abT (abT (abT hr _) _) _,hb⟩
  . rw [UC _ _ _ (by simp;omega),UC _ _ _ (by simp)];exact Ug _ _
  . rw [UC _ _ _ (by simp)];have:=Ug (w.alloc (Z4 #[Z5 (ZW ⟨b,off,ZX⟩) l.length 59] 39)) (Z4 #[Z7 Z9 0,Z7 Z9 0,Z7 Z9 0,Z7 Z8 0,Z7 Z9 0,Z7 Z9 0] 130);simpa using this
  . have:=Ug ((w.alloc (Z4 #[Z5 (ZW ⟨b,off,ZX⟩) l.length 59] 39)).alloc (Z4 #[Z7 Z9 0,Z7 Z9 0,Z7 Z9 0,Z7 Z8 0,Z7 Z9 0,Z7 Z9 0] 130)) (Z4 #[Z7 Z9 0,Z7 Z9 0,Z7 Z9 0,Z7 Z8 0,Z7 Z9 0,Z7 Z9 0] 130);simpa using this
 obtain ⟨w1,k6⟩:=nM (((w.alloc (Z4 #[Z5 (ZW ⟨b,off,ZX⟩) l.length 59] 39)).alloc (Z4 #[Z7 Z9 0,Z7 Z9 0,Z7 Z9 0,Z7 Z8 0,Z7 Z9 0,Z7 Z9 0] 130)).alloc (Z4 #[Z7 Z9 0,Z7 Z9 0,Z7 Z9 0,Z7 Z8 0,Z7 Z9 0,Z7 Z9 0] 130));rw [k6] at V;have a:=aE W k5 hl;have H0:cA (Hg w w1 w.heap.size b (off+0) 59 (l.drop 0) #[Z7 Z9 0,Z7 Z9 0,Z7 Z9 0,Z7 Z8 0,Z7 Z9 0,Z7 Z9 0]):=V;clear V hr hx W k5 hl hb;go_enter func199,ntmps199;go_wp2_with fail;obtain ⟨f,X⟩:∃ x,fL ((l.drop 0).take 1)=x:=⟨_,rfl⟩;have b0:f<4294967296:=TZ (X▸a.o.2.1 0 1 (by decide)) (by decide);have N:=H0.o;refine (jD w.heap.size b (off+0) 59 1 (l.drop 0) w1 N.box (by decide) (a.o.1 0) N.rng (by rw [Um,a.o.2.2];decide) (by decide)).mono ?_;rintro e y0 ⟨rfl,ke⟩;rw [X];have H:=N.step 1 0 (Z7 Z9 (f:Nat));obtain ⟨t,C⟩:=N.cells 1 0 _ rfl;rw [<- ke] at H t C;clear ke;obtain ⟨w2,k7⟩:∃ z,y0.setCell ⟨w.heap.size+1+1,0,ZX⟩ (Z7 Z9 (f:Nat))=z:=⟨_,rfl⟩;rw [k7] at H;have hq:Hg w w2 w.heap.size b (off+1) 58 (l.drop 1) #[Z7 Z9 (f:Nat),Z7 Z9 0,Z7 Z9 0,Z7 Z8 0,Z7 Z9 0,Z7 Z9 0]:=by
  rw [VK,Vx off] at H;exact H
 have H1:=ak hq;clear N H hq;go_wp2_with fail;obtain ⟨g,Y⟩:∃ x,fL ((l.drop 1).take 1)=x:=⟨_,rfl⟩;have b1:g<4294967296:=TZ (Y▸a.o.2.1 1 1 (by decide)) (by decide);have O:=H1.o;refine (jD w.heap.size b (off+1) 58 1 (l.drop 1) w2 O.box (by decide) (a.o.1 1) O.rng (by rw [Um,a.o.2.2];decide) (by decide)).mono ?_;rintro e y1 ⟨rfl,kf⟩;rw [Y];have I:=O.step 1 1 (Z7 Z9 (g:Nat));obtain ⟨u,D⟩:=O.cells 1 1 _ rfl;rw [<- kf] at I u D;clear kf;obtain ⟨w3,k8⟩:∃ z,y1.setCell ⟨w.heap.size+1+1,1,ZX⟩ (Z7 Z9 (g:Nat))=z:=⟨_,rfl⟩;rw [k8] at I;have hs:Hg w w3 w.heap.size b (off+2) 57 (l.drop 2) #[Z7 Z9 (f:Nat),Z7 Z9 (g:Nat),Z7 Z9 0,Z7 Z8 0,Z7 Z9 0,Z7 Z9 0]:=by
  rw [VK,Vx off] at I;exact I
 have H2:=ak hs;clear O I hs;go_wp2_with fail;obtain ⟨i,Z⟩:∃ x,fL ((l.drop 2).take 1)=x:=⟨_,rfl⟩;have b2:i<4294967296:=TZ (Z▸a.o.2.1 2 1 (by decide)) (by decide);have P:=H2.o;refine (jD w.heap.size b (off+2) 57 1 (l.drop 2) w3 P.box (by decide) (a.o.1 2) P.rng (by rw [Um,a.o.2.2];decide) (by decide)).mono ?_;rintro e y2 ⟨rfl,kg⟩;rw [Z];have J:=P.step 1 2 (Z7 Z9 (i:Nat));obtain ⟨y,E⟩:=P.cells 1 2 _ rfl;rw [<- kg] at J y E;clear kg;obtain ⟨w4,k9⟩:∃ z,y2.setCell ⟨w.heap.size+1+1,2,ZX⟩ (Z7 Z9 (i:Nat))=z:=⟨_,rfl⟩;rw [k9] at J;have hv:Hg w w4 w.heap.size b (off+3) 56 (l.drop 3) #[Z7 Z9 (f:Nat),Z7 Z9 (g:Nat),Z7 Z9 (i:Nat),Z7 Z8 0,Z7 Z9 0,Z7 Z9 0]:=by
  rw [VK,Vx off] at J;exact J
 have H3:=ak hv;clear P J hv;go_wp2_with fail;obtain ⟨m,kc⟩:∃ x,fL ((l.drop 3).take 8)=x:=⟨_,rfl⟩;have Q:=H3.o;refine (jD w.heap.size b (off+3) 56 8 (l.drop 3) w4 Q.box (by decide) (a.o.1 3) Q.rng (by rw [Um,a.o.2.2];decide) (by decide)).mono ?_;rintro e y3 ⟨rfl,kh⟩;rw [kc];have K:=Q.step 8 3 (Z7 Z8 (m:Nat));obtain ⟨A,F⟩:=Q.cells 8 3 _ rfl;rw [<- kh] at K A F;clear kh;obtain ⟨w5,ka⟩:∃ z,y3.setCell ⟨w.heap.size+1+1,3,ZX⟩ (Z7 Z8 (m:Nat))=z:=⟨_,rfl⟩;rw [ka] at K;have hy:Hg w w5 w.heap.size b (off+11) 48 (l.drop 11) #[Z7 Z9 (f:Nat),Z7 Z9 (g:Nat),Z7 Z9 (i:Nat),Z7 Z8 (m:Nat),Z7 Z9 0,Z7 Z9 0]:=by
  rw [VK,Vx off] at K;exact K
 have H4:=ak hy;clear Q K hy;go_wp2_with fail;obtain ⟨n,hn⟩:∃ x,fL ((l.drop 11).take 4)=x:=⟨_,rfl⟩;have b4:n<4294967296:=TZ (hn▸a.o.2.1 11 4 (by decide)) (by decide);have R:=H4.o;refine (jD w.heap.size b (off+11) 48 4 (l.drop 11) w5 R.box (by decide) (a.o.1 11) R.rng (by rw [Um,a.o.2.2];decide) (by decide)).mono ?_;rintro e y4 ⟨rfl,ki⟩;rw [hn];have L:=R.step 4 4 (Z7 Z9 (n:Nat));obtain ⟨B,G⟩:=R.cells 4 4 _ rfl;rw [<- ki] at L B G;clear ki;obtain ⟨w6,kb⟩:∃ z,y4.setCell ⟨w.heap.size+1+1,4,ZX⟩ (Z7 Z9 (n:Nat))=z:=⟨_,rfl⟩;rw [kb] at L;have hz:Hg w w6 w.heap.size b (off+15) 44 (l.drop 15) #[Z7 Z9 (f:Nat),Z7 Z9 (g:Nat),Z7 Z9 (i:Nat),Z7 Z8 (m:Nat),Z7 Z9 (n:Nat),Z7 Z9 0]:=by
  rw [VK,Vx off] at L;exact L
 have H5:=ak hz;clear R L hz;go_wp2_with fail;obtain ⟨q,hp⟩:∃ x,fL ((l.drop 15).take 4)=x:=⟨_,rfl⟩;have b5:q<4294967296:=TZ (hp▸a.o.2.1 15 4 (by decide)) (by decide);have S:=H5.o;refine (jD w.heap.size b (off+15) 44 4 (l.drop 15) w6 S.box (by decide) (a.o.1 15) S.rng (by rw [Um,a.o.2.2];decide) (by decide)).mono ?_;rintro e y5 ⟨rfl,kj⟩;rw [hp];have M:=S.step 4 5 (Z7 Z9 (q:Nat));obtain ⟨T,U⟩:=S.cells 4 5 _ rfl;rw [<- kj] at M T U;clear kj;obtain ⟨d,km⟩:∃ z,y5.setCell ⟨w.heap.size+1+1,5,ZX⟩ (Z7 Z9 (q:Nat))=z:=⟨_,rfl⟩;rw [km] at M;have k0:Hg w d w.heap.size b (off+19) 40 (l.drop 19) #[Z7 Z9 (f:Nat),Z7 Z9 (g:Nat),Z7 Z9 (i:Nat),Z7 Z8 (m:Nat),Z7 Z9 (n:Nat),Z7 Z9 (q:Nat)]:=by
  rw [VK,Vx off] at M;exact M
 have c:=ak k0;clear S M k0;have g0:d.cell? ⟨w.heap.size+1+1,0,ZX⟩=ZW (Z7 Z9 (f:Nat)):=by simp [World.cell?,c.o.rv]
 have g1:d.cell? ⟨w.heap.size+1+1,1,ZX⟩=ZW (Z7 Z9 (g:Nat)):=by simp [World.cell?,c.o.rv]
 have g2:d.cell? ⟨w.heap.size+1+1,2,ZX⟩=ZW (Z7 Z9 (i:Nat)):=by simp [World.cell?,c.o.rv]
 have g3:d.cell? ⟨w.heap.size+1+1,3,ZX⟩=ZW (Z7 Z8 (m:Nat)):=by simp [World.cell?,c.o.rv]
 have g4:d.cell? ⟨w.heap.size+1+1,4,ZX⟩=ZW (Z7 Z9 (n:Nat)):=by simp [World.cell?,c.o.rv]
 have g5:d.cell? ⟨w.heap.size+1+1,5,ZX⟩=ZW (Z7 Z9 (q:Nat)):=by simp [World.cell?,c.o.rv]
 have r0:d.cell? ⟨w.heap.size+1,0,ZX⟩=ZW (Z7 Z9 0):=by simp [World.cell?,c.o.res]
 have r1:d.cell? ⟨w.heap.size+1,1,ZX⟩=ZW (Z7 Z9 0):=by simp [World.cell?,c.o.res]
 have r2:d.cell? ⟨w.heap.size+1,2,ZX⟩=ZW (Z7 Z9 0):=by simp [World.cell?,c.o.res]
 have r3:d.cell? ⟨w.heap.size+1,3,ZX⟩=ZW (Z7 Z8 0):=by simp [World.cell?,c.o.res]
 have r4:d.cell? ⟨w.heap.size+1,4,ZX⟩=ZW (Z7 Z9 0):=by simp [World.cell?,c.o.res]
 have r5:d.cell? ⟨w.heap.size+1,5,ZX⟩=ZW (Z7 Z9 0):=by simp [World.cell?,c.o.res]
 have r:∀ k,d.frozen? ⟨w.heap.size+1,k,ZX⟩=ZU:=λk=>by simp [World.frozen?,c.o.res]
 have f0:=r 0;have f1:=r 1;have f2:=r 2;have f3:=r 3;have f4:=r 4;have f5:=r 5;clear r k6 k7 k8 k9 ka kb t u y A B C D E F G H0 H1 H2 H3 H4 H5;go_wp2;have hh:=ag (j:=5) (ag (j:=4) (ag (j:=3) (ag (j:=2) (ag (j:=1) (ag (j:=0) c.o.res (Z7 Z9 (f:Nat))) (Z7 Z9 (g:Nat))) (Z7 Z9 (i:Nat))) (Z7 Z8 (m:Nat))) (Z7 Z9 (n:Nat))) (Z7 Z9 (q:Nat));refine Ur (v:=.agg (aj f g i m n q)) (V4 results199 _ _ (w.heap.size+1) 130 (aj f g i m n q) (0,0) _ rfl hh XD rfl (by kernel_rfl)) rfl ?_;have kk:=c.o.below;refine ⟨?_,(((((kk.setCell (p:=⟨w.heap.size+1,0,ZX⟩) (by show w.heap.size<=w.heap.size+1;omega) _).setCell (p:=⟨w.heap.size+1,1,ZX⟩) (by show w.heap.size<=w.heap.size+1;omega) _).setCell (p:=⟨w.heap.size+1,2,ZX⟩) (by show w.heap.size<=w.heap.size+1;omega) _).setCell (p:=⟨w.heap.size+1,3,ZX⟩) (by show w.heap.size<=w.heap.size+1;omega) _).setCell (p:=⟨w.heap.size+1,4,ZX⟩) (by show w.heap.size<=w.heap.size+1;omega) _).setCell (p:=⟨w.heap.size+1,5,ZX⟩) (by show w.heap.size<=w.heap.size+1;omega) _⟩;rw [<- X,<- Y,<- Z,<- kc,<- hn,<- hp,Xz]
def cZ:bw->ZS
 | .blank=>.iface 238 (.agg #[])
 | .root D L G t f n=>.iface 130 (.agg (aj D L G t f n))
 | .filled=>.iface 181 (.agg #[])
 | .shard l=>.iface 221 (.agg (aH l).toArray)
def mr (h:bL w b l):w.rangeAt b 0 (aH l):=λj v c=>by
 have:(aB l)[j]?=ZW v:=by unfold aB;simpa using c
 have a:w.heap[b]?=ZW (Z4 (aB l) 102 (0,0)):=h;simp [World.cell?,a,this]
def Ko (h:bL w b l) (i:Nat) (a:i<l.length):w.cell? ⟨b,i,ZX⟩=ZW (Z7 .u8 ((l.getD i 0:Nat):Int)):=by
 have:=mr h i (Z7 .u8 ((l.getD i 0:Nat):Int)) (by unfold aH;rw [UA,Ua a,T6,Ua a];rfl);rwa [Ui] at this
def tj (l:a8) (i:Nat) (h:i<l.length):(l.drop i).take 1=[l.getD i 0]:=by
 rw [X7 h,T6,Ua h];rfl
def Kp (hl:l.length=64) (a:l.getD 4 0=1):rM l=.root (fL ((l.drop 5).take 1)) (fL (((l.drop 5).drop 1).take 1)) (fL (((l.drop 5).drop 2).take 1)) (fL (((l.drop 5).drop 3).take 8)) (fL (((l.drop 5).drop 11).take 4)) (fL (((l.drop 5).drop 15).take 4)):=by
 unfold rM;rw [TT a,VK,VK,VK,VK,VK,tj l 5 (by omega),tj l (5+1) (by omega),tj l (5+2) (by omega)]
def A4:∀ (l:List ZS) (k:Nat) (z:Array ZS),((l.zipIdx k).foldl (λcs x=>cs.setIfInBounds x.2 x.1) z).size=z.size/\∀ i,((l.zipIdx k).foldl (λcs x=>cs.setIfInBounds x.2 x.1) z)[i]?=if k<=i/\i<k+l.length/\i<z.size then l[i-k]? else z[i]?
 | [],k,z=>⟨rfl,λi=>by
  show z[i]?=if k<=i/\i<k+0/\i<z.size then _ else z[i]?;rw [TS (by omega)]⟩
 | v::l,k,z=>by
  obtain ⟨b,c⟩:=A4 l (k+1) (z.setIfInBounds k v);rw [List.zipIdx_cons,W4];refine ⟨by rw [b];simp,λi=>?_⟩;rw [c i,Array.size_setIfInBounds,abK];simp only [UD];by_cases e:k=i
  . subst e;rw [TS (by omega),TT rfl];by_cases a:k<z.size
    . rw [TT a,TT (by omega),WK];rfl
    . rw [TS a,TS (by omega)];simp [a]
  . rw [TS e];by_cases a:k+1<=i/\i<k+1+l.length/\i<z.size
    . rw [TT a,TT (by omega),show i-k=(i-(k+1))+1 by omega];rfl
    . rw [TS a,TS (by omega)]
theorem wZ (z a:Array ZS) (n:Nat) (g:z.size=n) (c:a.size=n):YJ (λcs x=>cs.setIfInBounds x.snd x.fst) z a.zipIdx 0 n=a:=by
 have e:YJ (λcs x=>cs.setIfInBounds x.snd x.fst) z a.zipIdx 0 n=(a.toList.zipIdx).foldl (λcs x=>cs.setIfInBounds x.2 x.1) z:=by
  rw [<- c,show a.size=a.zipIdx.size by simp,<- Array.foldl_toList,Array.toList_zipIdx]
 rw [e];obtain ⟨d,b⟩:=A4 a.toList 0 z;apply YP;intro i;rw [b i];by_cases f:i<n
 . rw [TT (by simp;omega)];simp
 . rw [TS (by omega)];simp [Xl (show z.size<=i by omega),Xl (show a.size<=i by omega)]
theorem Hh (l:a8) (w:ZT) (hl:l.length=64) (m:∀ x∈l,x<256) :
 ZQ ZI 180 #[.agg (aB l)] w λe w'=>e=Z3 (cZ (rM l))/\bW w w':=by
 have p:=bL.new w l;have c:bW w (w.alloc (Z4 (aB l) 102)):=bA w _;have b:(w.alloc (Z4 (aB l) 102)).heap.size=w.heap.size+1:=by simp
 obtain ⟨w1,G⟩:=nM (w.alloc (Z4 (aB l) 102));rw [G] at p c b;have t:=Ko p 4 (by omega);have j:w1.rangeAt w.heap.size 5 (aH (l.drop 5)):=by have:=fR 5 (mr p);rwa [Ui] at this
 have i:w1.rangeAt w.heap.size 20 (aH (l.drop 20)):=by have:=fR 20 (mr p);rwa [Ui] at this
 have k:∀ x∈l.drop 5,x<256:=λx h=>m x (U0 h);have d:(l.drop 5).length=59:=by rw [Um,hl]
 have f:(l.drop 20).length=44:=by rw [Um,hl]
 by_cases g:l.getD 4 0=1
 . have a:=Kp hl g;rw [g] at t;have q:=DT w.heap.size 5 (l.drop 5) w1 d k j (by omega);rw [d] at q;rw [a];obtain ⟨ra,v⟩:=nM (aj (fL ((l.drop 5).take 1)) (fL (((l.drop 5).drop 1).take 1)) (fL (((l.drop 5).drop 2).take 1)) (fL (((l.drop 5).drop 3).take 8)) (fL (((l.drop 5).drop 11).take 4)) (fL (((l.drop 5).drop 15).take 4)));rw [v] at q;have E:=ak v;clear v;have H:=al c b;clear a i j k f m d c b;go_enter func180,ntmps180;go_wp2_with fail;refine q.mono ?_;rintro e w2 ⟨rfl,B⟩;clear q;have D:=ak B;clear B;go_wp2;go_ret;exact ⟨by rw [show cZ (.root (fL ((l.drop 5).take 1)) (fL (((l.drop 5).drop 1).take 1)) (fL (((l.drop 5).drop 2).take 1)) (fL (((l.drop 5).drop 3).take 8)) (fL (((l.drop 5).drop 11).take 4)) (fL (((l.drop 5).drop 15).take 4)))=.iface 130 (.agg ra) from (by unfold cZ;rw [<- E.o])];rfl,H.o.1.trans (D.o.mono (by have:=H.o.2;omega))⟩
 . by_cases n:l.getD 4 0=2
   . have a:rM l=.filled:=(by unfold rM;rw [TS g,TT n]);rw [n] at t;rw [a];have H:=al c b;clear a i j k f m d c b;unfold cZ;go_enter func180,ntmps180;go_wp2;go_ret;exact ⟨rfl,H.o.1⟩
   . by_cases u:l.getD 4 0=3
     . have a:rM l=.shard (l.drop 20):=(by unfold rM;rw [TS g,TS n,TT u]);rw [u] at t;rw [a];have H:=a5 c b i f;clear a i j k f m d c b;have I:∀ (s:ZP) (w:ZT),(Instr.arrayAt 219 (Z5 (ZW s) 44 44)).run ZI w=.ok (Z6 (ZW s)) w:=λs w=>by simp [Instr.arrayAt,UO abU]
       have C:(aH (l.drop 20)).toArray.size=44:=(by rw [UH,aX];exact H.o.2.2.2);go_enter func180,ntmps180;obtain ⟨r,y⟩:=nM ((aH (l.drop 20)).toArray);rw [y] at C;have A:=ak y;go_wp2_with (refine abP rfl 219 (Z0 17) rfl w.heap.size 20 rfl (aH (l.drop 20)) _ H.o.2.2.1 abU rfl (by rw [aX,H.o.2.2.2];kernel_rfl) ?_;rw [A.o];clear y);have F:∀ z:Array ZS,z.size=44->YJ (λcs x=>cs.setIfInBounds x.snd x.fst) z r.zipIdx 0 44=r:=λz b=>wZ z r 44 b C;rw [F _ rfl];go_ret;exact ⟨by rw [show cZ (.shard (l.drop 20))=.iface 221 (.agg r) from (by unfold cZ;rw [<- A.o])];rfl,H.o.1⟩
     . have a:rM l=.blank:=(by unfold rM;rw [TS g,TS n,TS u]);rw [a];have H:=al c b;have J:¬ ((l.getD 4 0:Nat):Int)=1:=(by omega);have K:¬ ((l.getD 4 0:Nat):Int)=2:=(by omega);have L:¬ ((l.getD 4 0:Nat):Int)=3:=(by omega);clear a i j k f m d c b;generalize l.getD 4 0=x at *;unfold cZ;go_enter func180,ntmps180;go_wp2;go_ret;exact ⟨rfl,H.o.1⟩
def spl (l:a8) (off:Nat) (src:a8):a8:=l.take off++(src++l.drop (off+src.length))
def nW (h:off+src.length<=l.length):(spl l off src).length=l.length:=by unfold spl;simp;omega
def nX (ty:ZL) (m:bL w b l) (p:Bs w v src) (h:src≠[]) (t:src.length<=n) (s:off+src.length<=l.length) :
 (Builtin.copy_ #[39,39] ty #[Z5 (ZW ⟨b,off,ZX⟩) n cap,v]).run ZI w=.ok (Z7 Z9 (src.length:Nat)) (w.setRow b (aB (spl l off src))):=by
 obtain ⟨ao,c,rfl,y,z,A,i⟩:=p;obtain ⟨g,o,rfl,r⟩:=i h;have k:=run_copy_row (P:=ZI) w 39 39 ty 5 b off n cap ⟨g,o,ZX⟩ src.length c (aB l) 102 (aH src) Ul (by kernel_rfl) m (by rw [aX];exact (Wl t).symm) (λj u f=>by
  have a:j<src.length:=by obtain ⟨q,_⟩:=Va.1 f;rwa [aX] at q
  rw [Vr,r j a,<- f];unfold aH;rw [UA,Ua a,T6,Ua a];rfl) (by rw [aX,il];exact s) (λu d=>by
  unfold aH at d;rw [T7] at d;obtain ⟨x,_,rfl⟩:=d;rfl)
 rw [k];have e:(YK off (aB l).toList++aH src++List.drop (off+(aH src).length) (aB l).toList).toArray=aB (spl l off src):=by
  rw [wW,aX];unfold aB spl;rw [bM,bM,Uz];unfold aH;rw [WA,WB]
 simp only [Uz] at e ⊢;rw [e,aX];rfl
noncomputable def RBk:Array ZN:=((Tryz.f154.body.bind (DA · 5))).getD #[]
def aaU:List (Op×Option Nat×a8):=[(Op.slice 102 (Z0 3) ZX (ZW (Operand.const (Value.int IntKind.i64 4))) ZX,ZW 13,[]),
 (Op.slice 102 (Z0 3) (ZW (Operand.const (Value.int IntKind.i64 4))) ZX ZX,ZW 14,[]),
 (Op.call { callee:=Callee.value (Operand.func 179),args:=#[Z0 14],argTypes:=#[39] },ZW 15,[1]),
 (Op.convert 302 23 (Z0 15),ZW 16,[2]),
 (Op.call { callee:=Callee.value (Operand.func 147),args:=#[Operand.const (Value.slice ZX 0 0),Z0 16,Operand.const (Value.int IntKind.i64 4)],argTypes:=#[39,23,3] },ZW 17,[3,2]),
 (Op.call { callee:=Callee.builtin Builtin.copy,args:=#[Z0 13,Z0 17],argTypes:=#[39,39] },ZW 18,[0,4,4])]
def Hi:bD RBk 13 19 aaU:=eQ (by kernel_rfl) (by kernel_rfl)
def VBk (w0:ZT) (b c:Nat) (i:Nat) (u:ZS) (w:ZT):Prop:=match i with
 | 0=>u=Z5 (ZW ⟨b,0,ZX⟩) 4 64
 | 1=>u=Z5 (ZW ⟨b,4,ZX⟩) 60 60
 | 2=>u=Z7 .u32 (c:Nat)
 | 3=>u=Z7 Z8 (c:Nat)
 | 4=>w.ownsRow w0.heap.size 5 1 u (0+4) (aH (be c 4))
 | _=>True
def A5 (j:b<w0.heap.size) (g:∀ k,k≠b->k<w.heap.size->w'.heap[k]?=w.heap[k]?) (a:w.os=w'.os/\w.tape=w'.tape/\w.output=w'.output/\w.heap.size<=w'.heap.size) (i:Nat) (u:ZS) (h:VBk w0 b c i u w):VBk w0 b c i u w':=by
 match i with
 | 0|1|2|3=>exact h
 | 4=>exact World.ownsRow.kept h (row:=ZW b) ⟨a.1.symm,a.2.1.symm,a.2.2.1.symm,a.2.2.2,λk d f=>g k (λe=>f (by rw [e])) d⟩ (.inr λe=>by have:=(World.ownsRow.lt h b e).1;omega)
 | n+5=>trivial
def BBk (w0:ZT) (b c:Nat) (l:a8) (D:Nat->Bool) (w:ZT):Prop:=bL w b (if D 5=ZV then spl l 0 (be c 4) else l)/\aa (λk=>k=b) w0 w
def nY {D:Nat->Bool} (h:BBk w0 b c l D w) (i:Nat) (d:i≠5) (a:aa (λ_=>False) w w'):BBk w0 b c l (mj D i) w':=by
 refine ⟨?_,h.2.later a (λ_ _ q=>q.elim)⟩;unfold mj;rw [TS (λe:5=i=>d e.symm)];exact h.1.keep (a.block _ h.1.lt (λq=>q))
def bh.out (h:bh w) (a:aa (λk=>k=b) w w') (c:b≠2):bh w':=λj d=>by
 have:=h j d;rw [<- this];exact Uk (a.block _ (Ub this) (λe=>c e.symm))
theorem kt (M:RBk=ops) (d:bL w b l) (hl:l.length=64) (Z:∀ x∈l,x<256) (Y:bh w) (O:b≠2) (hs:a.tmps.size=20)
 (G:a.eval (Z0 3)=Z6 (ZW ⟨b,0,ZX⟩)) (K:∀ (w':ZT) (vs:List ZS),vs.length=6->bL w' b (spl l 0 (be (nI (l.drop 4)) 4))->aa (λk=>k=b) w w'->Q .normal (Act.RQ a 13 vs) w'):(Code.region 5 ops ZV).wp ZI Q a w:=by
 subst M;obtain ⟨c,F⟩:=nM (nI (l.drop 4));have z:c<4294967296:=F▸zn _;rw [F] at K;have J:=d.lt;refine gX (by kernel_rfl) Hi a w (by omega) (VBk w b c) (BBk w b c l) ⟨d,aa.drew w⟩ ?_ ?_
 . intro i E;match i,E with
   | 0,_=>
    intro o g w' D A ho m r t z s d p;have u0:g.eval (Z0 3)=Z6 (ZW ⟨b,0,ZX⟩):=(r.slot 3 (by omega)).trans G;exact aJ (v:=Z5 (ZW ⟨b,0,ZX⟩) 4 64) (by (conv at ho=>rhs;whnf);simp only [execOp,ho,u0];go_simp) m ⟨nY d 0 (by decide) (aa.refl _ _),rfl,kq⟩
   | 1,_=>
    intro o g w' D A ho m r t z s d p;have u0:g.eval (Z0 3)=Z6 (ZW ⟨b,0,ZX⟩):=(r.slot 3 (by omega)).trans G;exact aJ (v:=Z5 (ZW ⟨b,4,ZX⟩) 60 60) (by (conv at ho=>rhs;whnf);simp only [execOp,ho,u0];go_simp) m ⟨nY d 1 (by decide) (aa.refl _ _),rfl,kq⟩
   | 2,_=>
    intro o g w' D A ho m r t z s d p;have u0:g.eval (Z0 14)=Z5 (ZW ⟨b,4,ZX⟩) 60 60:=p 1 (s 1 (by decide));have P:D 5=ZU:=by
     cases q:D 5 with
     | false=>rfl
     | true=>have:=(z 5 q).2 4 (by decide);have:=(z 4 this).2 2 (by decide);rw [t] at this;cases this
    have C:bL w' b l:=(by have:=d.1;rw [TS (by rw [P];decide)] at this;exact this);have L:Bs w' (Z5 (ZW ⟨b,4,ZX⟩) (l.drop 4).length 60) (l.drop 4):=Bs.mid (by rw [Um,hl];decide) (by rw [Um,hl];decide) (λx h=>Z x (U0 h)) (by have:=fR 4 (mr C);rwa [Ui] at this);rw [show (l.drop 4).length=60 by rw [Um,hl]] at L;refine r9 (f:=179) (args:=#[Z5 (ZW ⟨b,4,ZX⟩) 60 60]) (w1:=w') (by (conv at ho=>rhs;whnf);simp only [execOp,ho];go_simp;simpa [Act.eval] using u0) m (NG _ (l.drop 4) w' L (Y.out d.2 O)) ?_;rintro e B ⟨rfl,rfl⟩;rw [F];exact ⟨_,rfl,nY d 2 (by decide) (aa.refl _ _),rfl,kq⟩
   | 3,_=>
    intro o g w' D A ho m r t H s d p;have u0:g.eval (Z0 15)=Z7 .u32 (c:Nat):=p 2 (s 2 (by decide));exact aJ (v:=Z7 Z8 (c:Nat)) (by (conv at ho=>rhs;whnf);simp only [execOp,ho,u0];go_simp;rw [Vd];omega) m ⟨nY d 3 (by decide) (aa.refl _ _),rfl,kq⟩
   | 4,_=>
    intro o g w' D A ho m r t H s d p;have u0:g.eval (Z0 16)=Z7 Z8 (c:Nat):=p 3 (s 3 (by decide));refine r9 (f:=147) (args:=#[Z5 ZX 0 0,Z7 Z8 (c:Nat),Z7 Z9 (4:Nat)]) (w1:=w') (by (conv at ho=>rhs;whnf);simp only [execOp,ho];go_simp;simpa [Act.eval] using u0) m (fQ w.heap.size (Z5 ZX 0 0) 0 [] c 4 w' (UN _ _ _ _) d.2.size (by decide) (by decide)) ?_;rintro e B ⟨v',rfl,X,R,hr⟩;have y:aa (λ_=>False) w' B:=R.mono (λk _ q=>by simp [Value.ownBlock] at q);refine ⟨v',rfl,nY d 4 (by decide) y,X,λj u U q=>A5 J (λk _ r=>y.block k r (λq=>q)) ⟨y.os.symm,y.tape.symm,y.output.symm,y.size⟩ j u q⟩
   | 5,_=>
    intro o g w' D A ho m r t H s d p;have u0:g.eval (Z0 13)=Z5 (ZW ⟨b,0,ZX⟩) 4 64:=p 0 (s 0 (by decide));have u1:w'.ownsRow w.heap.size 5 1 (g.eval (Z0 17)) (0+4) (aH (be c 4)):=p 4 (s 4 (by decide));have C:bL w' b l:=(by have:=d.1;rw [TS (by rw [t];decide)] at this;exact this);have T:=nX (n:=4) (cap:=64) (off:=0) o.type C (Bs.Sa u1 (qT _ _) (by rw [aC];decide)) (by intro e;have:=aC c 4;rw [e] at this;cases this) (by rw [aC];decide) (by rw [aC,hl];decide);refine aJ (v:=Z7 Z9 ((be c 4).length:Nat)) (w':=w'.setRow b (aB (spl l 0 (be c 4)))) (by (conv at ho=>rhs;whnf);simp only [execOp,ho,resolve,invoke,builtin,Ux,Vf,UM,V3,UG,Vg,u0,T]) m ⟨⟨?_,d.2.later (aa.setRow (S:=λk=>k=b) _ _ _ rfl) (λ_ _ q=>q)⟩,trivial,λj u U q=>A5 J (λk W r=>(aL _ _ _).block k r (λe=>W (by cases e;rfl))) ⟨rfl,rfl,rfl,by simp [World.setRow]⟩ j u q⟩;show bL _ b (if mj D 5 5=ZV then _ else _);rw [TT (by unfold mj;rw [TT rfl])];exact C.setRow _
   | n+6,hn=>exact absurd hn (by show ¬ n+6<6;omega)
 . rintro g w' V ⟨D,N,I⟩ p;have e:g=Act.RQ a 13 ((YE 6).map λi=>g.eval (.tmp (13+i))):=V.out _ (by rw [T9,UK]) (by omega) (λi E=>by
    rw [T9,UK] at E;rw [T6,UA,VP E];rfl)
   rw [e];have:=I.1;rw [TT (N 5 (by decide))] at this;exact K w' _ (by rw [T9,UK]) this I.2
def Kq (h:vs.length=6):∃ a b c d e f,vs=[a,b,c,d,e,f]:=by
 match vs,h with
 | [a,b,c,d,e,f],_=>exact ⟨_,_,_,_,_,_,rfl⟩
structure DU (w0 w:ZT) (r b:Nat) (l:a8):Prop where
 res:bL w r zb
 blk:bL w b l
 below:bW w0 w
 rs:r=w0.heap.size
 bs:b=w0.heap.size+1
def DU.new (w:ZT):DU w ((w.alloc (Z4 (aB zb) 102)).alloc (Z4 (aB zb) 102)) w.heap.size (w.heap.size+1) zb:=by
 refine ⟨(UC _ _ _ (by simp)).trans (Ug _ _),?_,(bA w _).alloc (by simp) _,rfl,rfl⟩;have:=Ug (w.alloc (Z4 (aB zb) 102)) (Z4 (aB zb) 102);simpa [bL] using this
def DU.mono (h:DU w0 w r b l) (a:bW w w'):DU w0 w' r b l:=
 ⟨h.res.keep (a.block _ h.res.lt),h.blk.keep (a.block _ h.blk.lt),h.below.trans (a.mono (by have:=h.res.lt;have:=h.rs;omega)),h.rs,h.bs⟩
def DU.set (h:DU w0 w r b l) (a:aa (λk=>k=b) w w') (c:bL w' b l'):DU w0 w' r b l':=
 ⟨h.res.keep (a.block _ h.res.lt (λe=>by have:=h.rs;have:=h.bs;omega)),c,h.below.trans (a.below λk d=>⟨by have:=h.blk.lt;have:=h.bs;omega,λe=>by have:=h.bs;omega⟩),h.rs,h.bs⟩
def bh.below (h:bh w) (b:ZR B w w') (a:2<B):bh w':=λj c=>(b.cell (p:=⟨2,j,ZX⟩) a).trans (h j c)
def bh.lt (h:bh w):2<w.heap.size:=Ub (h 0 (by decide))
theorem zu {body:a8} (c:body.length<=60):spl (spl zb 4 body) 0 (be (nI ((spl zb 4 body).drop 4)) 4)=cJ body:=by
 have a:(spl zb 4 body).drop 4=body++YF (60-body.length) 0:=by
  unfold spl;rw [W9 (by simp [zb]),show (YK 4 zb).drop 4=[] by simp [zb]];simp only [Uo];congr 1;unfold zb;rw [X1];congr 1;omega
 have b:∀ (X s:a8),spl X 0 s=s++X.drop s.length:=λX s=>by unfold spl;rw [Wm,Uo,Ui]
 rw [b,aC,a];rfl
def DV (b:∀ x∈l,x<256) (c:∀ x∈src,x<256):∀ x∈spl l off src,x<256:=by
 intro x a;unfold spl at a;simp only [Uj] at a;rcases a with h|h|h
 . exact b x (UY h)
 . exact c x h
 . exact b x (U0 h)
def Kr:∀ x∈zb,x<256:=λx a=>by have:=VJ a;omega
theorem A6 (w:ZT):ZQ ZI 154 #[cZ .blank] w λe w'=>e=Z3 (.agg (aB bw.blank.blk))/\bW w w':=by
 have j:=zeroBlk;have b:=DU.new w;obtain ⟨w1,h⟩:=nM ((w.alloc (Z4 (aB zb) 102)).alloc (Z4 (aB zb) 102));rw [h] at b;have c:=ak b;clear b;unfold cZ;go_enter func154,ntmps154;go_wp2_with fail;refine (DS w1).mono ?_;rintro e w2 ⟨rfl,d⟩;have f:=c.o.mono d;have a:=ak f;clear f d c;go_wp2_with (first|(refine mq rfl (Z0 3) rfl (w.heap.size+1) zb rfl a.o.blk cB ?_)|(refine gA rfl (Z0 2) (Z0 19) rfl w.heap.size zb zb rfl rfl a.o.res cB cB ?_));have g:=a.o.res.setRow zb;refine Ur (v:=.agg (aB zb)) (V4 results154 _ _ w.heap.size 102 (aB zb) (0,0) _ rfl g WR rfl (fs cB)) rfl ?_;exact ⟨rfl,a.o.below.trans ⟨rfl,rfl,rfl,by simp [World.setRow],λk i=>(aL _ _ _).block k (by have:=a.o.res.lt;omega) (λe=>by cases e;omega)⟩⟩
theorem DW (D L G t f n:Nat) (w:ZT) (l:(bw.root D L G t f n).ok) (J:bh w) :
 ZQ ZI 154 #[cZ (.root D L G t f n)] w λe w'=>e=Z3 (.agg (aB (bw.root D L G t f n).blk))/\bW w w':=by
 have Y:=zeroBlk;have p:=DU.new w;obtain ⟨w1,V⟩:=nM ((w.alloc (Z4 (aB zb) 102)).alloc (Z4 (aB zb) 102));rw [V] at p;have C:=jB l;have s:=me l;have y:(bw.root D L G t f n).blk=cJ (bw.root D L G t f n).body:=by unfold bw.blk;rw [TS (by simp [bw.body])]
 have q:0<(bw.root D L G t f n).body.length:=by simp [bw.body]
 have d:=Hf D L G t f n w1 l;rw [y];obtain ⟨body,x⟩:=nM ((bw.root D L G t f n).body);rw [x] at C s q d ⊢;have b:=aE p s J;unfold cZ;obtain ⟨ra,F⟩:=nM (aj D L G t f n);simp only [F] at d ⊢;clear p s J l y F x;go_enter func154,ntmps154;go_wp2_with fail;refine d.mono ?_;clear d;rintro e w2 ⟨v,rfl,r,B⟩;have g:=b.o.1.mono B;obtain ⟨ao,c,rfl,O,P,Q,R⟩:=id r;have E:body≠[]:=by intro e;rw [e] at q;simp at q
 have T:=nX (n:=60) (cap:=60) (off:=4) 3 g.blk r E (by omega) (by rw [cB];omega);have h:DU w (w2.setRow (w.heap.size+1) (aB (spl zb 4 body))) w.heap.size (w.heap.size+1) (spl zb 4 body):=g.set (aa.setRow (S:=λk=>k=w.heap.size+1) _ _ _ rfl) (g.blk.setRow _);obtain ⟨W,I⟩:=nM (w2.setRow (w.heap.size+1) (aB (spl zb 4 body)));rw [I] at T h;have U:(spl zb 4 body).length=64:=by rw [nW (by rw [cB];omega),cB]
 have M:=b.o.2.2.lt;have hv3:bh W:=b.o.2.2.below h.below M;have m:=al h hv3;clear g r B O P Q R I h hv3 E;go_wp2_with fail;refine kt (by kernel_rfl) m.o.1.blk U (DV Kr b.o.2.1) m.o.2 (by omega) rfl rfl ?_;intro Z vs H z A;obtain ⟨x0,x1,x2,x3,x4,x5,rfl⟩:=Kq H;have i:=m.o.1.set A z;rw [zu C] at i;have j:(cJ body).length=64:=by unfold cJ;simp [aC];omega
 obtain ⟨sb,u⟩:=nM (cJ body);rw [u] at i j;have N:=ak u;have a:=ak i;clear i z A H u;rename_i hK
 refine hK _ _ ?_;clear hK;simp only [Act.RQ,Act.put,Ue,Uc,Uf];go_wp2_with (first|(refine mq rfl (Z0 3) rfl (w.heap.size+1) sb rfl a.o.blk j ?_)|(refine gA rfl (Z0 2) (Z0 19) rfl w.heap.size sb zb rfl rfl a.o.res cB j ?_));have K:=a.o.res.setRow sb;refine Ur (v:=.agg (aB sb)) (V4 results154 _ _ w.heap.size 102 (aB sb) (0,0) _ rfl K WR rfl (fs j)) rfl ?_;exact ⟨by rw [N.out],a.o.below.trans ⟨rfl,rfl,rfl,by simp [World.setRow],λk X=>(aL _ _ _).block k (by have:=a.o.res.lt;omega) (λe=>by cases e;omega)⟩⟩
def xt (r:bw):Prop:=∀ w,bh w->ZQ ZI 154 #[cZ r] w λe w'=>e=Z3 (.agg (aB r.blk))/\bW w w'
def A7:xt .blank:=λw _=>A6 w
def DX {t f:Nat} (a:(bw.root D L G t f n).ok):xt (.root D L G t f n):=λw b=>DW D L G t f n w a b
noncomputable def ROf:Array ZN:=((Tryz.f157.body.bind (DA · 2))).getD #[]
def aaV:List (Op×Option Nat×a8):=[(Op.move (Z0 4),ZW 7,[]),
 (Op.call { callee:=Callee.value (Operand.func 154),args:=#[Z0 7],argTypes:=#[223] },ZW 8,[0]),
 (Op.load 102 (Z0 1),ZW 9,[]),
 (Op.binOp BinOp.neq 102 (Z0 8) (Z0 9) 102,ZW 10,[1,2])]
def Hk:bD ROf 7 11 aaV:=eQ (by kernel_rfl) (by kernel_rfl)
def Tryz.SQ:ZI.cellsOf 5=1:=by kernel_rfl
def xu (l:a8) (i:Nat) (a:i<l.length) (w:ZT):(part 5 (aB l) (i*1)).run ZI w=.ok (Z7 .u8 ((l.getD i 0:Nat):Int)) w:=by
 have b:(aB l)[i]?=ZW (Z7 .u8 ((l.getD i 0:Nat):Int)):=by
  unfold aB aH;rw [Xm,UA,Ua a,T6,Ua a];rfl
 rw [We];have c:=Xn;simp [part,isAgg,UO c,b]
theorem A8 (d:Nat) (l1 a:a8) (w:ZT):∀ (b:a8),(∀ i∈b,i<l1.length/\i<a.length)->(Op.eqItems (d+1) 5 1 (aB l1) (aB a) b).run ZI w=.ok (b.all λi=>l1.getD i 0==a.getD i 0) w
 | [],_=>by simp [Op.eqItems]
 | i::b,h=>by
  obtain ⟨k,l⟩:=h i (by simp);have ih:=A8 d l1 a w b (λj n=>h j (by simp [n]));have m:=run_equalIn_int (P:=ZI) (w:=w) d 5 .u8 .u8 ((l1.getD i 0:Nat):Int) ((a.getD i 0:Nat):Int) Xn;simp only [Op.eqItems,Ux,xu l1 i k w,xu a i l w,UM,m,List.all_cons];generalize l1.getD i 0=x;generalize a.getD i 0=y;by_cases e:x=y
  . subst e;rw [TS (by simp),ih];simp
  . have c:¬ ((x:Nat):Int)=((y:Nat):Int):=λq=>e (by omega);have f:((x:Int)==(y:Int))=ZU:=(by simpa using c);have g:(x==y)=ZU:=(by simpa using e);rw [f,g];simp
theorem Ks {l1 l2:a8} (c:l1.length=64) (d:l2.length=64):((YE 64).all λi=>l1.getD i 0==l2.getD i 0)=decide (l1=l2):=by
 rw [Yq,Xc,Wt];constructor
 . intro h;refine Vb (by omega) λi a b=>?_;have:=h i (Uu.2 (by omega));simpa [a,b] using this
 . rintro rfl i _;simp
def P3 (l1 a:a8) (c:l1.length=64) (d:a.length=64) (w:ZT):(Op.equalIn 10000 102 (.agg (aB l1)) (.agg (aB a))).run ZI w=.ok (decide (l1=a)) w:=by
 obtain ⟨g,b,_⟩:=Us Tryz.R2;rw [show (10000:Nat)=9998+1+1 from rfl,run_equalIn_array w (9998+1) (t:=102) (e:=5) (n:=64) (aB l1) (aB a) WR b,Tryz.SQ,A8 9998 l1 a w _ (λi f=>by have:=Uu.1 f;omega),Ks c d]
theorem Hl {r:bw} (A:ROf=ops) (F:xt r) (G:r.ok) (q:bL w b l) (hl:l.length=64) (x:bh w) (I:a.tmps.size=12)
 (y:a.eval (Z0 1)=Z6 (ZW ⟨b,0,ZX⟩)) (z:a.eval (Z0 4)=cZ r) (E:∀ (w':ZT),bW w w'->Q .normal (Act.RQ a 7 [cZ r,.agg (aB r.blk),.agg (aB l),Z1 (!decide (r.blk=l))]) w'):(Code.region 2 ops ZV).wp ZI Q a w:=by
 subst A;refine gX (by kernel_rfl) Hk a w (by omega) (λi v _=>v=[cZ r,.agg (aB r.blk),.agg (aB l),Z1 (!decide (r.blk=l))].getD i ZY) (λ_ w'=>bL w' b l/\bW w w') ⟨q,(TW _ w).drew⟩ ?_ ?_
 . intro i t;match i,t with
   | 0,_=>exact λo g w' D s ho h k m p j q d=>aJ (bS ho ((k.slot 4 (by omega)).trans z) w') h ⟨q,rfl,kq⟩
   | 1,_=>
    intro o g w' D s ho h k m p j c d;have u0:g.eval (Z0 7)=cZ r:=d 0 (j 0 (by decide));refine r9 (f:=154) (args:=#[cZ r]) (w1:=w') (by (conv at ho=>rhs;whnf);simp only [execOp,ho];go_simp;simpa [Act.eval] using u0) h (F w' (x.below c.2 x.lt)) ?_;rintro e H ⟨rfl,u⟩;exact ⟨_,rfl,⟨c.1.keep (u.block _ c.1.lt),c.2.trans (u.mono c.2.size)⟩,rfl,kq⟩
   | 2,_=>
    intro o g w' D s ho h k m p j c d;have u0:g.eval (Z0 1)=Z6 (ZW ⟨b,0,ZX⟩):=(k.slot 1 (by omega)).trans y;exact aJ (v:=.agg (aB l)) (by (conv at ho=>rhs;whnf);simp [execOp,ho,u0,nl c.1 hl]) h ⟨c,rfl,kq⟩
   | 3,_=>
    intro o g w' D s ho h k m p j c d;have u0:g.eval (Z0 8)=.agg (aB r.blk):=d 1 (j 1 (by decide));have u1:g.eval (Z0 9)=.agg (aB l):=d 2 (j 2 (by decide));exact aJ (v:=Z1 (!decide (r.blk=l))) (by (conv at ho=>rhs;whnf);simp only [execOp,ho,u0,u1];go_simp;rw [P3 r.blk l (FR G) hl w'];rfl) h ⟨c,rfl,kq⟩
   | n+4,hn=>exact absurd hn (by show ¬ n+4<4;omega)
 . rintro g w' B ⟨D,J,c⟩ d;have C:∀ i:Nat,i<4->g.eval (.tmp (7+i))=[cZ r,.agg (aB r.blk),.agg (aB l),Z1 (!decide (r.blk=l))].getD i ZY:=by
    intro i t;match i,t with
    | 0,_=>exact d 0 (by decide)
    | 1,_=>exact d 1 (by decide)
    | 2,_=>exact d 2 (by decide)
    | 3,_=>exact d 3 (by decide)
    | n+4,hn=>exact absurd hn (by show ¬ n+4<4;omega)
   rw [B.out [cZ r,.agg (aB r.blk),.agg (aB l),Z1 (!decide (r.blk=l))] rfl (by omega) C];exact E w' c.2
theorem aI.SP (h:aI w b l):w.heap[b]?=ZW (Z4 (aH l).toArray 5 (0,0)):=by
 obtain ⟨c,d,g,f⟩:=h;have e:c=(aH l).toArray:=by
  apply YP;intro i;by_cases a:i<l.length
  . rw [f i a];unfold vb aH;simp [T6,Ua a]
  . rw [Xl (by omega),Xl (by rw [UH,aX];omega)]
 rw [<- e];exact d
def aI.Tl (h:w.heap[b]?=ZW (Z4 (aH l).toArray 5 (0,0))):aI w b l:=
 ⟨_,h,by rw [UH,aX],λi a=>by
  unfold vb aH;simp [T6,Ua a]⟩
def A9 (ty:ZL) (d:aI w b l) (s:Bs w v src) (z:src.length<=n) (y:off+src.length<=l.length) :
 ∃ w',(Builtin.copy_ #[39,39] ty #[Z5 (ZW ⟨b,off,ZX⟩) n cap,v]).run ZI w=.ok (Z7 Z9 (src.length:Nat)) w'/\aI w' b (spl l off src)/\w.grownBy w' (ZW b):=by
 obtain ⟨ao,c,rfl,A,B,C,p⟩:=s;have k:(ZI.info? 5).map (λi=>i.size)=ZW 1:=by kernel_rfl
 by_cases h:src=[]
 . subst h;refine ⟨w,run_copy_none (P:=ZI) w 39 39 ty 5 (ZW ⟨b,off,ZX⟩) ao n cap 0 c Ul k (by simp),?_,Ws _ _⟩;have e:spl l off []=l:=(by unfold spl;simp);rw [e];exact d
 . obtain ⟨g,o,rfl,t⟩:=p h;have r:=run_copy_row (P:=ZI) w 39 39 ty 5 b off n cap ⟨g,o,ZX⟩ src.length c (aH l).toArray 5 (aH src) Ul k d.SP (by rw [aX];exact (Wl z).symm) (λj u m=>by
    have a:j<src.length:=(by obtain ⟨q,_⟩:=Va.1 m;rwa [aX] at q);rw [Vr,t j a,<- m];unfold aH;rw [UA,Ua a,T6,Ua a];rfl) (by rw [aX,UH,aX];exact y) (λu f=>by
    unfold aH at f;rw [T7] at f;obtain ⟨x,_,rfl⟩:=f;rfl)
   have e:(YK off (aH l)++aH src++List.drop (off+(aH src).length) (aH l)).toArray=(aH (spl l off src)).toArray:=by
    rw [aX];unfold spl;rw [bM,bM,Uz];unfold aH;rw [WA,WB]
   refine ⟨w.setRow b (aH (spl l off src)).toArray,?_,aI.Tl (Vv w b (aH l).toArray (aH (spl l off src)).toArray _ _ d.SP),aL _ _ _⟩;rw [r];simp only [Uz] at e ⊢;rw [e,aX];rfl
def Hm (w:ZT) (a:Nat):(w.alloc (Z4 #[Z7 .u8 (a:Int)] 5)).ownsRow w.heap.size 5 1 (Z5 (ZW ⟨w.heap.size,0,ZX⟩) 1 1) 1 (aH [a]):=
 ⟨rfl,.inr ⟨w.heap.size,1,_,rfl,TV _,Ug _ _,TV _,by unfold maxLen;omega,rfl,rfl⟩⟩
theorem Ba (w:ZT):ZQ ZI 259 #[.agg #[]] w λe w'=>∃ v,e=Z3 v/\Bs w' v bw.filled.body/\bW w w':=by
 have ho:=Hm (w.alloc (Z4 #[] 181)) 2;have a:bW w ((w.alloc (Z4 #[] 181)).alloc (Z4 #[Z7 .u8 ((2:Nat):Int)] 5)):=(bA w _).alloc (by simp) _;have H:=al ho a;clear ho a;go_enter func259,ntmps259;go_wp2;go_ret;have b:=Bs.Sa H.o.1 (λx c=>by simp at c;omega) (by decide);simp only [Uq] at b;exact ⟨_,rfl,b,H.o.2⟩
noncomputable def RSb:Array ZN:=((Tryz.f260.body.bind (DA · 3))).getD #[]
def aaW:List (Op×Option Nat×a8):=[(Op.move (Z0 3),ZW 7,[]),
 (Op.slice 39 (Z0 7) (ZW (Operand.const (Value.int IntKind.i64 16))) ZX ZX,ZW 8,[0]),
 (Op.fieldAddr 221 (Z0 1) 0,ZW 9,[]),
 (Op.slice 219 (Z0 9) ZX ZX ZX,ZW 10,[2]),
 (Op.call { callee:=Callee.builtin Builtin.copy,args:=#[Z0 8,Z0 10],argTypes:=#[39,39] },ZW 11,[1,3])]
def Hn:bD RSb 7 12 aaW:=eQ (by kernel_rfl) (by kernel_rfl)
def VSb (b q:Nat) (i:Nat) (u:ZS) (_:ZT):Prop:=match i with
 | 0=>u=Z5 (ZW ⟨b,0,ZX⟩) 60 60
 | 1=>u=Z5 (ZW ⟨b,16,ZX⟩) 44 44
 | 2=>u=Z6 (ZW ⟨q,0,ZX⟩)
 | 3=>u=Z5 (ZW ⟨q,0,ZX⟩) 44 44
 | _=>True
def BSb (w0:ZT) (b:Nat) (l s:a8) (D:Nat->Bool) (w:ZT):Prop:=aI w b (if D 4=ZV then spl l 16 s else l)/\aa (λk=>k=b) w0 w
def si {s:a8} {D:Nat->Bool} (h:BSb w0 b l s D w) (i:Nat) (a:i≠4):BSb w0 b l s (mj D i) w:=by
 refine ⟨?_,h.2⟩;unfold mj;rw [TS (λe:4=i=>a e.symm)];exact h.1
theorem zv {s:a8} (G:RSb=ops) (c:aI w b l) (hl:l.length=60) (C:w.heap[q]?=ZW (Z4 (aH s).toArray 221 (0,0))) (R:s.length=44) (U:∀ x∈s,x<256) (L:q≠b) (Y:a.tmps.size=13)
 (F:a.eval (Z0 3)=Z5 (ZW ⟨b,0,ZX⟩) 60 60) (E:a.eval (Z0 1)=Z6 (ZW ⟨q,0,ZX⟩)) (K:∀ (w':ZT) (vs:List ZS),vs.length=5->aI w' b (spl l 16 s)->aa (λk=>k=b) w w'->Q .normal (Act.RQ a 7 vs) w'):(Code.region 3 ops ZV).wp ZI Q a w:=by
 subst G;refine gX (by kernel_rfl) Hn a w (by omega) (VSb b q) (BSb w b l s) ⟨c,aa.drew w⟩ ?_ ?_
 . intro i y;match i,y with
   | 0,_=>exact λo d w' V t ho f m p z h c g=>aJ (bS ho ((m.slot 3 (by omega)).trans F) w') f ⟨si c _ (by decide),rfl,kq⟩
   | 1,_=>
    intro o d w' D t ho f m p z h c g;have u0:d.eval (Z0 7)=Z5 (ZW ⟨b,0,ZX⟩) 60 60:=g 0 (h 0 (by decide));exact aJ (v:=Z5 (ZW ⟨b,16,ZX⟩) 44 44) (by (conv at ho=>rhs;whnf);simp only [execOp,ho,u0];go_simp) f ⟨si c 1 (by decide),rfl,kq⟩
   | 2,_=>
    intro o d w' D t ho f m p z h c g;have u0:d.eval (Z0 1)=Z6 (ZW ⟨q,0,ZX⟩):=(m.slot 1 (by omega)).trans E;exact aJ (v:=Z6 (ZW ⟨q,0,ZX⟩)) (by (conv at ho=>rhs;whnf);simp only [execOp,ho,u0];go_simp) f ⟨si c 2 (by decide),rfl,kq⟩
   | 3,_=>
    intro o d w' D t ho f m p z h c g;have u0:d.eval (Z0 9)=Z6 (ZW ⟨q,0,ZX⟩):=g 2 (h 2 (by decide));exact aJ (v:=Z5 (ZW ⟨q,0,ZX⟩) 44 44) (by (conv at ho=>rhs;whnf);simp only [execOp,ho,u0];go_simp) f ⟨si c 3 (by decide),rfl,kq⟩
   | 4,_=>
    intro o d w' D t ho f m p W h c g;have u0:d.eval (Z0 8)=Z5 (ZW ⟨b,16,ZX⟩) 44 44:=g 1 (h 1 (by decide));have u1:d.eval (Z0 10)=Z5 (ZW ⟨q,0,ZX⟩) 44 44:=g 3 (h 3 (by decide));have I:aI w' b l:=(by have:=c.1;rw [TS (by rw [p];decide)] at this;exact this);have P:w'.heap[q]?=ZW (Z4 (aH s).toArray 221 (0,0)):=(c.2.block q (TX.1 C).1 (λe=>L e)).trans C;have B:Bs w' (Z5 (ZW ⟨q,0,ZX⟩) s.length 44) s:=Bs.mid (by omega) (by omega) U (λj u S=>by
     have:(aH s).toArray[j]?=ZW u:=by simpa using S
     simp [World.cell?,P,this])
    rw [R] at B;obtain ⟨w2,M,H,r⟩:=A9 (n:=44) (cap:=44) (off:=16) o.type I B (by omega) (by omega);refine aJ (v:=Z7 Z9 (s.length:Nat)) (w':=w2) (by (conv at ho=>rhs;whnf);simp only [execOp,ho,resolve,invoke,builtin,Ux,Vf,UM,V3,UG,Vg,u0,u1,M]) f ⟨⟨?_,c.2.later (T:=λk=>k=b) ⟨r.os,r.tape,r.output,r.size,λk m O=>r.block k m (λe=>O (by cases e;rfl))⟩ (λ_ _ q=>q)⟩,trivial,λj u X q=>by
     match j,q with
     | 0,q|1,q|2,q|3,q=>exact q
     | j+4,_=>trivial⟩
    show aI _ b (if mj D 4 4=ZV then _ else _);rw [TT (by unfold mj;rw [TT rfl])];exact H
   | n+5,hn=>exact absurd hn (by show ¬ n+5<5;omega)
 . rintro d w' N ⟨D,J,A⟩ g;have e:d=Act.RQ a 7 ((YE 5).map λi=>d.eval (.tmp (7+i))):=N.out _ (by rw [T9,UK]) (by omega) (λi y=>by
    rw [T9,UK] at y;rw [T6,UA,VP y];rfl)
   rw [e];have:=A.1;rw [TT (J 4 (by decide))] at this;exact K w' _ (by rw [T9,UK]) this A.2
def aam (h:vs.length=5):∃ a b c d e,vs=[a,b,c,d,e]:=by
 match vs,h with
 | [a,b,c,d,e],_=>exact ⟨a,b,c,d,e,rfl⟩
theorem DY (l:a8) (w:ZT) (B:(bw.shard l).ok) :
 ZQ ZI 260 #[.agg (aH l).toArray] w λe w'=>∃ v,e=Z3 v/\Bs w' v (bw.shard l).body/\bW w w':=by
 obtain ⟨hl,A⟩:=B;have i:=Ug w (Z4 (aH l).toArray 221);have c:bW w (w.alloc (Z4 (aH l).toArray 221)):=bA w _;have j:(w.alloc (Z4 (aH l).toArray 221)).heap.size=w.heap.size+1:=by simp
 have C:(aH l).toArray.size=44:=by rw [UH,aX,hl]
 obtain ⟨w1,z⟩:=nM (w.alloc (Z4 (aH l).toArray 221));rw [z] at i c j;obtain ⟨ra,d⟩:=nM ((aH l).toArray);have H:=a6 i c j A d;rw [d] at z C ⊢;clear i c j A d;go_enter func260,ntmps260;go_wp2_with (at_make;refine cQ _ rfl (.const (Z7 Z9 60)) (.const (Z7 Z9 60)) rfl _ 60 rfl rfl rfl (by omega) ?_;intro w2 g t G;have c0:=g.cell 0 (by decide);have E:=g.frozen 0);have q:aI (w2.setCell ⟨w1.heap.size,0,ZX⟩ (Z7 .u8 3)) w1.heap.size ((YF 60 0).set 0 3):=g.set 0 3;have F:=H.o.2.2.1;have x:(w2.setCell ⟨w1.heap.size,0,ZX⟩ (Z7 .u8 3)).heap[w.heap.size]?=ZW (Z4 (aH l).toArray 221 (0,0)):=(Ud _ _ _ _ (by show w.heap.size≠w1.heap.size;omega)).trans ((t.block _ (by omega)).trans H.o.1);have b:bW w (w2.setCell ⟨w1.heap.size,0,ZX⟩ (Z7 .u8 3)):=(H.o.2.1.trans (t.mono (by omega))).setCell (p:=⟨w1.heap.size,0,ZX⟩) (by show w.heap.size<=w1.heap.size;omega) _;refine zv (by kernel_rfl) q (by simp) x hl H.o.2.2.2.1 (by omega) rfl rfl rfl ?_;intro D vs y a s;obtain ⟨J,K,L,M,N,rfl⟩:=aam y;have u:bW w D:=b.trans (s.below λk I=>⟨by have:=b.size;omega,λe=>by omega⟩);have h:spl ((YF 60 0).set 0 3) 16 l=(bw.shard l).body:=by
  unfold spl bw.body;rw [hl];simp [YF]
 rw [h] at a;have f:=Bs.Sq (n:=60) a (by rw [<- h,nW (by simp [hl])];simp) (by decide) (me (r:=.shard l) ⟨hl,H.o.2.2.2.1⟩);rw [UI (jB (r:=.shard l) ⟨hl,H.o.2.2.2.1⟩),show (bw.shard l).body.length=60 by rw [<- h,nW (by simp [hl])];simp] at f;have m:=al f u;clear f u a s b x q y;rename_i hK
 refine hK _ _ ?_;clear hK;simp only [Act.RQ,Act.put,Ue,Uc,Uf];go_wp2;go_ret;exact ⟨_,rfl,m.o.1,m.o.2⟩
theorem zw (w:ZT) (E:bh w) :
 ZQ ZI 154 #[cZ .filled] w λe w'=>e=Z3 (.agg (aB bw.filled.blk))/\bW w w':=by
 have R:=zeroBlk;have j:=DU.new w;obtain ⟨w1,O⟩:=nM ((w.alloc (Z4 (aB zb) 102)).alloc (Z4 (aB zb) 102));rw [O] at j;have A:=jB (r:=.filled) trivial;have q:=me (r:=.filled) trivial;have u:bw.filled.blk=cJ bw.filled.body:=by unfold bw.blk;rw [TS (by simp [bw.body])]
 have m:0<bw.filled.body.length:=by simp [bw.body]
 have l:=Ba w1;rw [u];obtain ⟨body,t⟩:=nM (bw.filled.body);rw [t] at A q m l ⊢;have b:=aE j q E;unfold cZ;clear j q E u t;go_enter func154,ntmps154;go_wp2_with fail;refine l.mono ?_;clear l;rintro e w2 ⟨v,rfl,p,z⟩;have d:=b.o.1.mono z;obtain ⟨ao,c,rfl,I,J,K,L⟩:=id p;have B:body≠[]:=by intro e;rw [e] at m;simp at m
 have M:=nX (n:=60) (cap:=60) (off:=4) 3 d.blk p B (by omega) (by rw [cB];omega);have f:DU w (w2.setRow (w.heap.size+1) (aB (spl zb 4 body))) w.heap.size (w.heap.size+1) (spl zb 4 body):=d.set (aa.setRow (S:=λk=>k=w.heap.size+1) _ _ _ rfl) (d.blk.setRow _);obtain ⟨P,D⟩:=nM (w2.setRow (w.heap.size+1) (aB (spl zb 4 body)));rw [D] at M f;have N:(spl zb 4 body).length=64:=by rw [nW (by rw [cB];omega),cB]
 have G:=b.o.2.2.lt;have hv3:bh P:=b.o.2.2.below f.below G;have i:=al f hv3;clear d p z I J K L D f hv3 B;go_wp2_with fail;refine kt (by kernel_rfl) i.o.1.blk N (DV Kr b.o.2.1) i.o.2 (by omega) rfl rfl ?_;intro T vs C x y;obtain ⟨U,V,W,X,Y,Z,rfl⟩:=Kq C;have g:=i.o.1.set y x;rw [zu A] at g;have h:(cJ body).length=64:=by unfold cJ;simp [aC];omega
 obtain ⟨sb,s⟩:=nM (cJ body);rw [s] at g h;have H:=ak s;have a:=ak g;clear g x y C s;rename_i hK
 refine hK _ _ ?_;clear hK;simp only [Act.RQ,Act.put,Ue,Uc,Uf];go_wp2_with (first|(refine mq rfl (Z0 3) rfl (w.heap.size+1) sb rfl a.o.blk h ?_)|(refine gA rfl (Z0 2) (Z0 19) rfl w.heap.size sb zb rfl rfl a.o.res cB h ?_));have F:=a.o.res.setRow sb;refine Ur (v:=.agg (aB sb)) (V4 results154 _ _ w.heap.size 102 (aB sb) (0,0) _ rfl F WR rfl (fs h)) rfl ?_;exact ⟨by rw [H.out],a.o.below.trans ⟨rfl,rfl,rfl,by simp [World.setRow],λk Q=>(aL _ _ _).block k (by have:=a.o.res.lt;omega) (λe=>by cases e;omega)⟩⟩
theorem Bb (l:a8) (w:ZT) (j:(bw.shard l).ok) (G:bh w) :
 ZQ ZI 154 #[cZ (.shard l)] w λe w'=>e=Z3 (.agg (aB (bw.shard l).blk))/\bW w w':=by
 have U:=zeroBlk;have p:=DU.new w;obtain ⟨w1,Q⟩:=nM ((w.alloc (Z4 (aB zb) 102)).alloc (Z4 (aB zb) 102));rw [Q] at p;have B:=jB j;have s:=me j;have x:(bw.shard l).blk=cJ (bw.shard l).body:=by unfold bw.blk;rw [TS (by simp [bw.body])]
 have q:0<(bw.shard l).body.length:=by simp [bw.body]
 have d:=DY l w1 j;rw [x];obtain ⟨body,u⟩:=nM ((bw.shard l).body);rw [u] at B s q d ⊢;have b:=aE p s G;unfold cZ;obtain ⟨ra,D⟩:=nM ((aH l).toArray);simp only [D] at d ⊢;clear p s G j x D u;go_enter func154,ntmps154;go_wp2_with fail;refine d.mono ?_;clear d;rintro e w2 ⟨v,rfl,r,A⟩;have f:=b.o.1.mono A;obtain ⟨ao,c,rfl,K,L,M,N⟩:=id r;have C:body≠[]:=by intro e;rw [e] at q;simp at q
 have O:=nX (n:=60) (cap:=60) (off:=4) 3 f.blk r C (by omega) (by rw [cB];omega);have g:DU w (w2.setRow (w.heap.size+1) (aB (spl zb 4 body))) w.heap.size (w.heap.size+1) (spl zb 4 body):=f.set (aa.setRow (S:=λk=>k=w.heap.size+1) _ _ _ rfl) (f.blk.setRow _);obtain ⟨R,F⟩:=nM (w2.setRow (w.heap.size+1) (aB (spl zb 4 body)));rw [F] at O g;have P:(spl zb 4 body).length=64:=by rw [nW (by rw [cB];omega),cB]
 have I:=b.o.2.2.lt;have hv3:bh R:=b.o.2.2.below g.below I;have m:=al g hv3;clear f r A K L M N F g hv3 C;go_wp2_with fail;refine kt (by kernel_rfl) m.o.1.blk P (DV Kr b.o.2.1) m.o.2 (by omega) rfl rfl ?_;intro V vs E y z;obtain ⟨W,X,Y,Z,x4,x5,rfl⟩:=Kq E;have h:=m.o.1.set z y;rw [zu B] at h;have i:(cJ body).length=64:=by unfold cJ;simp [aC];omega
 obtain ⟨sb,t⟩:=nM (cJ body);rw [t] at h i;have J:=ak t;have a:=ak h;clear h y z E t;rename_i hK
 refine hK _ _ ?_;clear hK;simp only [Act.RQ,Act.put,Ue,Uc,Uf];go_wp2_with (first|(refine mq rfl (Z0 3) rfl (w.heap.size+1) sb rfl a.o.blk i ?_)|(refine gA rfl (Z0 2) (Z0 19) rfl w.heap.size sb zb rfl rfl a.o.res cB i ?_));have H:=a.o.res.setRow sb;refine Ur (v:=.agg (aB sb)) (V4 results154 _ _ w.heap.size 102 (aB sb) (0,0) _ rfl H WR rfl (fs i)) rfl ?_;exact ⟨by rw [J.out],a.o.below.trans ⟨rfl,rfl,rfl,by simp [World.setRow],λk T=>(aL _ _ _).block k (by have:=a.o.res.lt;omega) (λe=>by cases e;omega)⟩⟩
def zx:xt .filled:=λw a=>zw w a
def Bd (a:(bw.shard l).ok):xt (.shard l):=λw b=>Bb l w a b
def Be (a:∀ x∈l,x<256) (i:Nat):l.getD i 0<256:=by
 rw [T6];cases h:l[i]? with
 | none=>decide
 | some x=>exact a x (List.mem_of_getElem? h)
theorem P4 (hl:l.length=64) (b:∀ x∈l,x<256):(rM l).ok:=by
 have c:∀ n,fL ((l.drop n).take 4)<4294967296:=λn=>by
  have a:=wY ((l.drop n).take 4) (by rw [Un];omega) (λx h=>b x (U0 (UY h)));have d:((l.drop n).take 4).length<=4:=by rw [Un];omega
  exact TZ a (TU (U8 (by decide) d) (by decide))
 have a:∀ n,fL [l.getD n 0]<256:=λn=>by rw [rY _ (Be b n)];exact Be b n
 unfold rM;split
 . exact ⟨a _,a _,a _,PP _,c _,c _⟩
 . split
   . trivial
   . split
     . exact ⟨by rw [Um,hl],λx h=>b x (U0 h)⟩
     . trivial
def xw {r:bw} (h:r.ok):xt r:=by
 cases r with
 | blank=>exact A7
 | root D L G t f n=>exact DX h
 | filled=>exact zx
 | shard l=>exact Bd h
def ofV:Option bw->ZS
 | some r=>ZZ #[cZ r,Z1 ZV]
 | none=>ZZ #[.nilIface,Z1 ZU]
theorem P6 (l:a8) (w:ZT) (hl:l.length=64) (n:∀ x∈l,x<256) (B:bh w) :
 ZQ ZI 157 #[.agg (aB l)] w λe w'=>e=Z3 (ofV (J4 l))/\bW w w':=by
 have m:=P4 hl n;have A:=xw m;have k:=bL.new w l;have h:bW w (w.alloc (Z4 (aB l) 102)):=bA w _;obtain ⟨w1,C⟩:=nM (w.alloc (Z4 (aB l) 102));rw [C] at k h;have d:=Hh l w1 hl n;obtain ⟨r,i⟩:=nM (rM l);have z:J4 l=if r.blk=l then ZW r else ZX:=by unfold J4;rw [i]
 rw [i] at d A m;obtain ⟨rv,j⟩:=nM (cZ r);rw [j] at d;have a:=al j z;have b:=al k h;clear n k h j z i;go_enter func157,ntmps157;go_wp2_with (refine mq rfl (Z0 1) rfl w.heap.size l rfl b.o.1 hl ?_);refine d.mono ?_;rintro e w2 ⟨rfl,g⟩;have u:=b.o.1.keep (g.block _ b.o.1.lt);have s:=b.o.2.trans (g.mono b.o.2.size);have c:=al u s;clear d g u s;go_wp2_with fail;refine Hl (by kernel_rfl) A m c.o.1 hl (B.below c.o.2 B.lt) rfl rfl a.o.1.symm ?_;intro D v;have t:=c.o.2.trans (v.mono c.o.2.size);have p:=ak t;clear v t;rename_i hK
 by_cases q:r.blk=l
 . rw [a.o.1,q,UZ (rfl:l=l)];have f:=ak q;clear q;refine hK _ _ ?_;clear hK;simp only [Act.RQ,Act.put,Ue,Uc,Uf];go_wp2;go_ret2;refine ⟨?_,p.o⟩;rw [a.o.2,TT f.o,<- a.o.1];rfl
 . rw [a.o.1,Vu q];obtain ⟨bl,y⟩:=nM (aB r.blk);rw [y];have f:=ak q;clear q y;refine hK _ _ ?_;clear hK;simp only [Act.RQ,Act.put,Ue,Uc,Uf];go_wp2;go_ret2;refine ⟨?_,p.o⟩;rw [a.o.2,TS f.o];rfl
section
open Go.Extern.Stop Go.Stop Go.Extern
def Tryz.TA (t:ZP) (w:ZT):(ReflectliteValue.unpack (.iface 110 (Z6 (ZW t)))).run ZI w
 = .ok (.agg #[Z6 (ZW ⟨3,110,ZX⟩),Z6 (ZW ⟨w.heap.size,0,ZX⟩),Z7 Z8 150]) (w.alloc (Z4 #[Z6 (ZW t)] 110)):=by kernel_rfl
def Tryz.typeP (a:ZP) (w:ZT):(ReflectliteValue.methodAny (ReflectliteValue.valueError "reflectlite.Value.Type" 0) (λt _ _ _=>ReflectliteType.toType t) #[.agg #[Z6 (ZW ⟨3,110,ZX⟩),Z6 (ZW a),Z7 Z8 150]]).run ZI w
 = .ok (.iface 155 (.agg #[Z6 (ZW ⟨3,110,ZX⟩)])) w:=by kernel_rfl
def Tryz.SU (h:ZS) (w:ZT):(YH 473 155 (.agg #[h]) "Kind").run ZI w=.ok (239,h) w:=by kernel_rfl
def Tryz.kindP (w:ZT):((ReflectliteType.abiMethod λt=>(λa:Nat=>Value.int IntKind.u8 (a:Int)) <$> Rtype.kind t) #[Z6 (ZW ⟨3,110,ZX⟩)]).run ZI w=.ok (Z7 .u8 22) w:=by kernel_rfl
def Tryz.kindE (w:ZT):((ReflectliteType.abiMethod λt=>(λa:Nat=>Value.int IntKind.u8 (a:Int)) <$> Rtype.kind t) #[Z6 (ZW ⟨3,66,ZX⟩)]).run ZI w=.ok (Z7 .u8 2) w:=by kernel_rfl
def Tryz.Tv (a:ZP) (w:ZT):(ReflectliteValue.parts (.agg #[Z6 (ZW ⟨3,110,ZX⟩),Z6 (ZW a),Z7 Z8 150])).run ZI w=.ok (ZW (110,a,150)) w:=by kernel_rfl
def Tryz.isNilP (a p:ZP) (W:ZT) (b:W.cell? a=ZW (Z6 (ZW p))) :
 (ReflectliteValue.method (ReflectliteValue.valueError "reflectlite.Value.IsNil" 0) ReflectliteValue.isNil #[.agg #[Z6 (ZW ⟨3,110,ZX⟩),Z6 (ZW a),Z7 Z8 150]]).run ZI W=.ok (Z1 ZU) W:=by
 refine X2 (Uy (λz=>Sem.run ZI z W) (show ReflectliteValue.method _ _ #[.agg #[Z6 (ZW ⟨3,110,ZX⟩),Z6 (ZW a),Z7 Z8 150]]=(ReflectliteValue.parts (.agg #[Z6 (ZW ⟨3,110,ZX⟩),Z6 (ZW a),Z7 Z8 150]) >>= _) from rfl)) ?_;simp only [Ux,Tryz.Tv,Result.andThen];simp [ReflectliteValue.isNil,loadVar,isAgg,underlying,underlying110,b,Result.andThen]
def Tryz.S2 (h:ZS) (w:ZT):(YH 473 155 (.agg #[h]) "Elem").run ZI w=.ok (251,.agg #[h]) w:=by kernel_rfl
def Tryz.Sg (h:ZS) (w:ZT):(YH 473 155 (.agg #[h]) "Implements").run ZI w=.ok (252,.agg #[h]) w:=by kernel_rfl
def Tryz.R8 (h:ZS) (w:ZT):(YH 473 155 (.agg #[h]) "AssignableTo").run ZI w=.ok (249,.agg #[h]) w:=by kernel_rfl
def Tryz.elemP (w:ZT):(ReflectliteType.method ReflectliteType.elem #[.agg #[Z6 (ZW ⟨3,110,ZX⟩)]]).run ZI w=.ok (.iface 155 (.agg #[Z6 (ZW ⟨3,66,ZX⟩)])) w:=by kernel_rfl
def Tryz.SN (w:ZT):(ReflectliteType.relation "Implements" ReflectliteType.implements_ #[.agg #[Z6 (ZW ⟨3,66,ZX⟩)],.iface 155 (.agg #[Z6 (ZW ⟨3,63,ZX⟩)])]).run ZI w=.ok (Z1 ZV) w:=by kernel_rfl
def Tryz.SA (v:ZS) (w:ZT):(ReflectliteType.typeOf #[.iface 66 v]).run ZI w=.ok (.iface 155 (.agg #[Z6 (ZW ⟨3,66,ZX⟩)])) w:=by kernel_rfl
def Tryz.SM (w:ZT):(ReflectliteType.relation "AssignableTo" ReflectliteType.assignableTo #[.agg #[Z6 (ZW ⟨3,66,ZX⟩)],.iface 155 (.agg #[Z6 (ZW ⟨3,66,ZX⟩)])]).run ZI w=.ok (Z1 ZV) w:=by kernel_rfl
def Tryz.Tx (x:Int) (w:ZT):(ReflectliteValue.unpack (.iface 66 (Z7 Z9 x))).run ZI w
 = .ok (.agg #[Z6 (ZW ⟨3,66,ZX⟩),Z6 (ZW ⟨w.heap.size,0,ZX⟩),Z7 Z8 130]) (w.alloc (Z4 #[Z7 Z9 x] 66)):=by kernel_rfl
def Tryz.TO (w:ZT):(Rtype.elem? 110).run ZI w=.ok (ZW 66) w:=by kernel_rfl
def Tryz.mkE (p:ZP) (w:ZT):(ReflectliteValue.mk 66 p ReflectliteValue.flagAddr).run ZI w=.ok (.agg #[Z6 (ZW ⟨3,66,ZX⟩),Z6 (ZW p),Z7 Z8 386]) w:=by kernel_rfl
def Tryz.elemVP (a p:ZP) (W:ZT) (b:W.cell? a=ZW (Z6 (ZW p))) :
 (ReflectliteValue.method (ReflectliteValue.valueError "reflectlite.Value.Elem" 0) ReflectliteValue.elem #[.agg #[Z6 (ZW ⟨3,110,ZX⟩),Z6 (ZW a),Z7 Z8 150]]).run ZI W
  = .ok (.agg #[Z6 (ZW ⟨3,66,ZX⟩),Z6 (ZW p),Z7 Z8 386]) W:=by
 refine X2 (Uy (λz=>Sem.run ZI z W) (show ReflectliteValue.method _ _ #[.agg #[Z6 (ZW ⟨3,110,ZX⟩),Z6 (ZW a),Z7 Z8 150]]=(ReflectliteValue.parts (.agg #[Z6 (ZW ⟨3,110,ZX⟩),Z6 (ZW a),Z7 Z8 150]) >>= _) from rfl)) ?_;simp only [Ux,Tryz.Tv,Result.andThen];simp [ReflectliteValue.elem,loadVar,isAgg,underlying,underlying110,b,Result.andThen,Tryz.TO,Tryz.mkE]
def Tryz.TN (a:ZP) (w:ZT):(ReflectliteValue.parts (.agg #[Z6 (ZW ⟨3,66,ZX⟩),Z6 (ZW a),Z7 Z8 386])).run ZI w=.ok (ZW (66,a,386)) w:=by kernel_rfl
def Tryz.partsE (a:ZP) (w:ZT):(ReflectliteValue.parts (.agg #[Z6 (ZW ⟨3,66,ZX⟩),Z6 (ZW a),Z7 Z8 130])).run ZI w=.ok (ZW (66,a,130)) w:=by kernel_rfl
def Tryz.TM (w:ZT):(Rtype.directlyAssignable 66 66).run ZI w=.ok ZV w:=by kernel_rfl
def Tryz.setE (a b:ZP) (x:Int) (old:ZS) (W:ZT) (c:W.cell? b=ZW (Z7 Z9 x)) (e:W.cell? a=ZW old) (d:W.frozen? a=ZU) :
 (ReflectliteValue.set #[.agg #[Z6 (ZW ⟨3,66,ZX⟩),Z6 (ZW a),Z7 Z8 386],.agg #[Z6 (ZW ⟨3,66,ZX⟩),Z6 (ZW b),Z7 Z8 130]]).run ZI W
  = .ok (ZZ #[]) (W.setCell a (Z7 Z9 x)):=by
 refine X2 (Uy (λz=>Sem.run ZI z W) (show ReflectliteValue.set #[.agg #[Z6 (ZW ⟨3,66,ZX⟩),Z6 (ZW a),Z7 Z8 386],.agg #[Z6 (ZW ⟨3,66,ZX⟩),Z6 (ZW b),Z7 Z8 130]]=(ReflectliteValue.parts (.agg #[Z6 (ZW ⟨3,66,ZX⟩),Z6 (ZW a),Z7 Z8 386]) >>= λp=>ReflectliteValue.parts (.agg #[Z6 (ZW ⟨3,66,ZX⟩),Z6 (ZW b),Z7 Z8 130]) >>= (_:_->Sem ZS)) from rfl)) ?_;simp only [Ux,Tryz.TN,Tryz.partsE,Result.andThen];simp [ReflectliteValue.flagAddr,loadVar,isAgg,underlying,underlying66,c,Result.andThen,Tryz.TM,storeVar,Value.cells,storeCells,Addr.add];rw [run_store ZI W a _ _ (by rfl)];simp [e,d]
theorem P7 (x:Int) (t:ZP) (old:ZS) (w:ZT) (c:w.cell? ⟨0,0,ZX⟩=ZW (.iface 155 (.agg #[Z6 (ZW ⟨3,63,ZX⟩)]))) (a:w.cell? t=ZW old) (f:w.frozen? t=ZU) :
 ZQ ZI 42 #[.iface 66 (Z7 Z9 x),.iface 110 (Z6 (ZW t))] w λd w'=>d=Z3 (Z1 ZV)/\w'=((((w.alloc (Z4 #[Z6 (ZW t)] 110)).alloc (Z4 #[Z6 (ZW ⟨3,110,ZX⟩),Z6 (ZW ⟨w.heap.size,0,ZX⟩),Z7 Z8 150] 119)).alloc (Z4 #[Z6 (ZW ⟨3,110,ZX⟩),Z6 (ZW ⟨w.heap.size,0,ZX⟩),Z7 Z8 150] 119)).alloc (Z4 #[Z7 Z9 x] 66)).setCell t (Z7 Z9 x):=by
 have o := @run_callFunc_extern ZI 55 _ (λargs=>ReflectliteValue.unpack (args.getD 0 (ZZ #[]))) func55 (by kernel_rfl) (by kernel_rfl) (by kernel_rfl) (by kernel_rfl);have p := @run_callFunc_extern ZI 56 _ (ReflectliteValue.methodAny (ReflectliteValue.valueError "reflectlite.Value.Type" 0) (λt _ _ _=>ReflectliteType.toType t)) func56 (by kernel_rfl) (by kernel_rfl) (by kernel_rfl) (by kernel_rfl);have q := @run_callFunc_extern ZI 57 _ (ReflectliteValue.method (ReflectliteValue.valueError "reflectlite.Value.IsNil" 0) ReflectliteValue.isNil) func57 (by kernel_rfl) (by kernel_rfl) (by kernel_rfl) (by kernel_rfl);have u := @run_callFunc_extern ZI 239 _ (ReflectliteType.abiMethod λt=>do pure (Z7 .u8 (<- Rtype.kind t))) func239 (by kernel_rfl) (by kernel_rfl) (by kernel_rfl) (by kernel_rfl);have y := @run_callFunc_extern ZI 251 _ (ReflectliteType.method ReflectliteType.elem) func251 (by kernel_rfl) (by kernel_rfl) (by kernel_rfl) (by kernel_rfl);have z := @run_callFunc_extern ZI 252 _ (ReflectliteType.relation "Implements" ReflectliteType.implements_) func252 (by kernel_rfl) (by kernel_rfl) (by kernel_rfl) (by kernel_rfl);have n := @run_callFunc_extern ZI 78 _ ReflectliteType.typeOf func78 (by kernel_rfl) (by kernel_rfl) (by kernel_rfl) (by kernel_rfl);have v := @run_callFunc_extern ZI 249 _ (ReflectliteType.relation "AssignableTo" ReflectliteType.assignableTo) func249 (by kernel_rfl) (by kernel_rfl) (by kernel_rfl) (by kernel_rfl);have r := @run_callFunc_extern ZI 79 _ (ReflectliteValue.method (ReflectliteValue.valueError "reflectlite.Value.Elem" 0) ReflectliteValue.elem) func79 (by kernel_rfl) (by kernel_rfl) (by kernel_rfl) (by kernel_rfl);have s := @run_callFunc_extern ZI 80 _ ReflectliteValue.set func80 (by kernel_rfl) (by kernel_rfl) (by kernel_rfl) (by kernel_rfl);have J:=Tryz.SA;have E:=Tryz.R8;have i:=Tryz.SM;have K:=Tryz.Tx;have l:=Tryz.TA;have m:=Tryz.typeP;have H:=Tryz.SU;have F:=Tryz.S2;have G:=Tryz.Sg;have D:=Tryz.kindP;have C:=Tryz.kindE;have j:=Tryz.elemP;have B:=Tryz.SN;have I:=Tryz.isNilP ⟨w.heap.size,0,ZX⟩ t ((w.alloc (Z4 #[Z6 (ZW t)] 110)).alloc (Z4 #[Z6 (ZW ⟨3,110,ZX⟩),Z6 (ZW ⟨w.heap.size,0,ZX⟩),Z7 Z8 150] 119)) (by simp);have g:0<w.heap.size:=by
  rcases WQ w.heap.size with e|h
  . simp [World.cell?,e] at c
  . exact h
 have A:((w.alloc (Z4 #[Z6 (ZW t)] 110)).alloc (Z4 #[Z6 (ZW ⟨3,110,ZX⟩),Z6 (ZW ⟨w.heap.size,0,ZX⟩),Z7 Z8 150] 119)).cell? ⟨0,0,ZX⟩=ZW (.iface 155 (.agg #[Z6 (ZW ⟨3,63,ZX⟩)])):=by
  rw [WT _ _ ⟨0,0,ZX⟩ (by simp),WT _ _ ⟨0,0,ZX⟩ g];exact c
 have b:t.block<w.heap.size:=by
  rcases XE t.block w.heap.size with h|h
  . exact h
  . simp [World.cell?,Xl h] at a
 have k:=Tryz.elemVP ⟨w.heap.size,0,ZX⟩ t (((w.alloc (Z4 #[Z6 (ZW t)] 110)).alloc (Z4 #[Z6 (ZW ⟨3,110,ZX⟩),Z6 (ZW ⟨w.heap.size,0,ZX⟩),Z7 Z8 150] 119)).alloc (Z4 #[Z6 (ZW ⟨3,110,ZX⟩),Z6 (ZW ⟨w.heap.size,0,ZX⟩),Z7 Z8 150] 119)) (by rw [WT _ _ ⟨w.heap.size,0,ZX⟩ (by simp;omega)];simp);have st:=Tryz.setE t ⟨w.heap.size+1+1+1,0,ZX⟩ x old ((((w.alloc (Z4 #[Z6 (ZW t)] 110)).alloc (Z4 #[Z6 (ZW ⟨3,110,ZX⟩),Z6 (ZW ⟨w.heap.size,0,ZX⟩),Z7 Z8 150] 119)).alloc (Z4 #[Z6 (ZW ⟨3,110,ZX⟩),Z6 (ZW ⟨w.heap.size,0,ZX⟩),Z7 Z8 150] 119)).alloc (Z4 #[Z7 Z9 x] 66))
  (by rw [World.cell?_alloc_at _ _ _ _ (by simp)];rfl)
  (by rw [WT _ _ t (by simp;omega),WT _ _ t (by simp;omega),WT _ _ t (by simp;omega),WT _ _ t b];exact a)
  (by rw [Yz _ _ t (by simp;omega),Yz _ _ t (by simp;omega),Yz _ _ t (by simp;omega),Yz _ _ t (Nat.ne_of_lt b)];exact f)
 go_enter func42,ntmps42;go_wp2;refine VC 1 ?_;rw [U5];go_wp2;go_ret;exact ⟨rfl,rfl⟩
theorem nZ (w:ZT) :
 ZQ ZI 22 #[.nilIface] w λe w'=>e=Z3 (Z7 Z9 0)/\bW w w':=by
 go_enter func22,ntmps22;go_wp2;go_ret;exact ⟨rfl,bA _ _⟩
theorem DZ (x:Int) (w:ZT) (a:w.cell? ⟨0,0,ZX⟩=ZW (.iface 155 (.agg #[Z6 (ZW ⟨3,63,ZX⟩)]))) :
 ZQ ZI 22 #[.iface 66 (Z7 Z9 x)] w λe w'=>e=Z3 (Z7 Z9 x)/\bW w w':=by
 have d:0<w.heap.size:=by
  rcases WQ w.heap.size with b|h
  . simp [World.cell?,b] at a
  . exact h
 have c:(w.alloc (Z4 #[Z7 Z9 0] 66)).cell? ⟨0,0,ZX⟩=ZW (.iface 155 (.agg #[Z6 (ZW ⟨3,63,ZX⟩)])):=by
  rw [WT _ _ ⟨0,0,ZX⟩ d];exact a
 go_enter func22,ntmps22;go_wp2_with (go_at_call 42;refine (P7 x ⟨w.heap.size,0,ZX⟩ (Z7 Z9 0) _ c (by simp) (by simp)).mono ?_;rintro e w' ⟨rfl,rfl⟩);go_ret;refine ⟨rfl,?_⟩;repeat (first|exact TW _ _|refine Xo ?_ (by simp) _|refine Below.alloc ?_ (by (try simp only [Uh]);omega) _)
theorem od (x:Int) (w:ZT) :
 ZQ ZI 25 #[Z7 Z9 x] w λe w'=>e=Z3 (Z7 Z9 x)/\w'=w:=by
 go_enter func25,ntmps25;go_wp2;go_ret;exact ⟨rfl,rfl⟩
end
def Tryz.Th:(ZI.info? 66).map (λi=>i.comparable)=ZW ZV:=by kernel_rfl
def xA (n m:Int) (w:ZT):(binOp .eql 63 (.iface 66 (Z7 Z9 n)) (.iface 66 (Z7 Z9 m))).run ZI w=.ok (Z1 (n==m)) w:=by
 obtain ⟨i,f,c⟩:=Wi.1 Tryz.Th;have a:∀ d,(Op.equalIn (d+1) 66 (Z7 Z9 n) (Z7 Z9 m)).run ZI w=.ok (n==m) w:=λd=>run_equalIn_int (w:=w) d 66 .i64 .i64 n m underlying66;have b:∀ d,(Op.equalIn (d+1+1) 63 (.iface 66 (Z7 Z9 n)) (.iface 66 (Z7 Z9 m))).run ZI w=.ok (n==m) w:=λd=>by
  rw [Op.equalIn];simp [Ux,UO underlying63,UM,typeInfo,f,c,a d]
 have e:=b 9998;simp only [binOp];simp [Op.equal,Op.maxDepth,e]
theorem Ho (n:Int) (a:n≠13) (w:ZT):ZQ ZI 105 #[.iface 66 (Z7 Z9 n),.iface 66 (Z7 Z9 13),Z1 ZV] w λe w'=>e=Z3 (Z1 ZU)/\w'=w:=by
 have f:∀ w,(binOp .eql 63 (.iface 66 (Z7 Z9 n)) (.iface 66 (Z7 Z9 13))).run ZI w=.ok (Z1 ZU) w:=λw=>by rw [xA];simp [a]
 have b:∀ w:ZT,(Instr.typeAssert (.iface 66 (Z7 Z9 n)) 63 242 ZV).run ZI w=.ok (ZZ #[.nilIface,Z1 ZU]) w:=λw=>Xq abV (by kernel_rfl) (by kernel_rfl) _ _ w;have c:∀ w:ZT,(Instr.typeAssert (.iface 66 (Z7 Z9 n)) 63 163 ZV).run ZI w=.ok (ZZ #[.nilIface,Z1 ZU]) w:=λw=>Xq abW (by kernel_rfl) (by kernel_rfl) _ _ w;have d:∀ w:ZT,(Instr.typeAssert (.iface 66 (Z7 Z9 n)) 63 164 ZV).run ZI w=.ok (ZZ #[.nilIface,Z1 ZU]) w:=λw=>Xq underlying164 (by kernel_rfl) (by kernel_rfl) _ _ w;go_enter func105,ntmps105;go_wp2;refine VC 1 ?_;rw [U5];go_wp2;go_ret;exact ⟨rfl,rfl⟩
theorem Kt (n:Int) (a:n≠13) (w:ZT):ZQ ZI 72 #[.iface 66 (Z7 Z9 n),.iface 66 (Z7 Z9 13)] w λe w'=>e=Z3 (Z1 ZU)/\w'=w:=by
 have d:=Tryz.SA (Z7 Z9 13);have b := @run_callFunc_extern ZI 78 _ Extern.ReflectliteType.typeOf func78 (by kernel_rfl) (by kernel_rfl) (by kernel_rfl) (by kernel_rfl);have f:∀ (h:ZS) (w:ZT),(YH 473 155 (.agg #[h]) "Comparable").run ZI w=.ok (250,.agg #[h]) w:=λh w=>by kernel_rfl
 have c:∀ w:ZT,(callFunc 250 #[.agg #[Z6 (ZW ⟨3,66,ZX⟩)]]).run ZI w=.ok (.value (Z1 ZV)) w:=λw=>by kernel_rfl
 go_enter func72,ntmps72;go_wp2_with fail;refine (Ho n a w).mono ?_;rintro e w' ⟨rfl,rfl⟩;go_wp2;go_ret;exact ⟨rfl,rfl⟩
theorem D0 (n:Int) (w:ZT):ZQ ZI 72 #[.nilIface,.iface 66 (Z7 Z9 n)] w λe w'=>e=Z3 (Z1 ZU)/\w'=w:=by
 have a:∀ d w,(Op.equalIn (d+1) 63 .nilIface (.iface 66 (Z7 Z9 n))).run ZI w=.ok ZU w:=λd w=>by
  simp only [Op.equalIn,Ux,UO underlying63,UM];rfl
 have b:∀ w,(Op.equalIn 10000 63 .nilIface (.iface 66 (Z7 Z9 n))).run ZI w=.ok ZU w:=λw=>a 9999 w;have c:∀ w,(binOp .eql 63 .nilIface (.iface 66 (Z7 Z9 n))).run ZI w=.ok (Z1 ZU) w:=λw=>by
  simp only [binOp];simp [Op.equal,Op.maxDepth,b]
 clear a b;go_enter func72,ntmps72;go_wp2;go_ret;exact ⟨rfl,rfl⟩
theorem Ku (w:ZT):ZQ ZI 155 #[.nilIface] w λe w'=>e=Z3 (ZZ #[])/\w'=w:=by
 go_enter func155,ntmps155;go_wp2_with fail;refine (D0 13 w).mono ?_;rintro e w' ⟨rfl,rfl⟩;go_wp2;first|go_end0|skip
 exact ⟨rfl,rfl⟩
def Bh (q:Nat):ZS:=.iface 271 (Z6 (ZW ⟨q,0,ZX⟩))
def jl (w:ZT) (q d b:Nat) (n:Int):Prop:=w.heap[q]?=ZW (Z4 #[Z7 Z9 d,Z7 Z9 b,Z7 Z9 n] 273 (0,0))
def jl.lt {n:Int} (h:jl w q d b n):q<w.heap.size:=(TX.1 h).1
def jl.cell {n:Int} (h:jl w q d b n):w.cell? ⟨q,2,ZX⟩=ZW (Z7 Z9 n):=by
 have a:w.heap[q]?=_:=h;simp [World.cell?,a]
def jl.new (w:ZT) (d b:Nat) (n:Int):jl (w.alloc (Z4 #[Z7 Z9 d,Z7 Z9 b,Z7 Z9 n] 273)) w.heap.size d b n:=Ug w _
def jl.below {n:Int} (h:jl w q d b n) (a:bW w w'):jl w' q d b n:=(a.block _ h.lt).trans h
def Hp (q:Nat) (m:Int) (w:ZT):(binOp .eql 63 (Bh q) (.iface 66 (Z7 Z9 m))).run ZI w=.ok (Z1 ZU) w:=by
 have a:∀ d,(Op.equalIn (d+1) 63 (.iface 271 (Z6 (ZW ⟨q,0,ZX⟩))) (.iface 66 (Z7 Z9 m))).run ZI w=.ok ZU w:=λd=>by
  rw [Op.equalIn];simp [Ux,UO underlying63,UM]
 have b:=a 9999;unfold Bh;simp only [binOp];simp [Op.equal,Op.maxDepth,b]
theorem D3 {n:Int} (h:jl w q d b n):ZQ ZI 263 #[Z6 (ZW ⟨q,0,ZX⟩)] w λe w'=>e=Z3 (.iface 66 (Z7 Z9 n))/\w'=w:=by
 have c:=h.cell;go_enter func263,ntmps263;go_wp2;go_ret;exact ⟨rfl,rfl⟩
theorem Hs {n:Int} (h:jl w q d b n) (m:Int):ZQ ZI 105 #[Bh q,.iface 66 (Z7 Z9 m),Z1 ZV] w λe w'=>e=Z3 (Z1 (n==m))/\w'=w:=by
 have a:=Hp q m;have c:=xA n m;have b1:∀ w:ZT,(Instr.typeAssert (Bh q) 63 242 ZV).run ZI w=.ok (ZZ #[.nilIface,Z1 ZU]) w:=λw=>Xq abV (by kernel_rfl) (by kernel_rfl) _ _ w;have b2:∀ w:ZT,(Instr.typeAssert (Bh q) 63 163 ZV).run ZI w=.ok (ZZ #[Bh q,Z1 ZV]) w:=λw=>run_typeAssert_hasB abW (by kernel_rfl) _ _ w;have g:∀ w:ZT,(Instr.typeAssert (.iface 66 (Z7 Z9 n)) 63 242 ZV).run ZI w=.ok (ZZ #[.nilIface,Z1 ZU]) w:=λw=>Xq abV (by kernel_rfl) (by kernel_rfl) _ _ w;have i:∀ w:ZT,(Instr.typeAssert (.iface 66 (Z7 Z9 n)) 63 163 ZV).run ZI w=.ok (ZZ #[.nilIface,Z1 ZU]) w:=λw=>Xq abW (by kernel_rfl) (by kernel_rfl) _ _ w;have j:∀ w:ZT,(Instr.typeAssert (.iface 66 (Z7 Z9 n)) 63 164 ZV).run ZI w=.ok (ZZ #[.nilIface,Z1 ZU]) w:=λw=>Xq underlying164 (by kernel_rfl) (by kernel_rfl) _ _ w;have k:∀ w:ZT,(YH 473 271 (Z6 (ZW ⟨q,0,ZX⟩)) "Unwrap").run ZI w=.ok (263,Z6 (ZW ⟨q,0,ZX⟩)) w:=λw=>by kernel_rfl
 have f:=D3 h;unfold Bh at a b1 b2 ⊢;clear h;cases h2:(n==m)<;>(
  rw [h2] at c;go_enter func105,ntmps105;go_wp2;refine VC 2 ?_;rw [U5];go_wp2_with fail;refine f.mono ?_;rintro e w' ⟨rfl,rfl⟩;go_wp2;rw [U5];go_wp2;go_ret;exact ⟨rfl,rfl⟩)
theorem Bi {n:Int} (h:jl w q d b n) (m:Int):ZQ ZI 72 #[Bh q,.iface 66 (Z7 Z9 m)] w λe w'=>e=Z3 (Z1 (n==m))/\w'=w:=by
 have g:=Tryz.SA (Z7 Z9 m);have c := @run_callFunc_extern ZI 78 _ Extern.ReflectliteType.typeOf func78 (by kernel_rfl) (by kernel_rfl) (by kernel_rfl) (by kernel_rfl);have i:∀ (h:ZS) (w:ZT),(YH 473 155 (.agg #[h]) "Comparable").run ZI w=.ok (250,.agg #[h]) w:=λh w=>by kernel_rfl
 have f:∀ w:ZT,(callFunc 250 #[.agg #[Z6 (ZW ⟨3,66,ZX⟩)]]).run ZI w=.ok (.value (Z1 ZV)) w:=λw=>by kernel_rfl
 have a:=Hs h m;unfold Bh at a ⊢;clear h;generalize (n==m)=nm at a ⊢;go_enter func72,ntmps72;go_wp2_with fail;refine a.mono ?_;rintro e w' ⟨rfl,rfl⟩;go_wp2;go_ret;exact ⟨rfl,rfl⟩
theorem D4 {n:Int} (h:jl w q d b n) (c:n≠13):ZQ ZI 155 #[Bh q] w λe w'=>e=Z3 (ZZ #[])/\w'=w:=by
 have a:=Bi h 13;rw [show (n==13)=ZU from by simpa using c] at a;unfold Bh at a ⊢;clear h;go_enter func155,ntmps155;go_wp2_with fail;refine a.mono ?_;rintro e w' ⟨rfl,rfl⟩;go_wp2;first|go_end0|skip
 exact ⟨rfl,rfl⟩
section
def tq (ops:Array ZN) (i:Nat):a8:=match ops[i]? with
 | some o=>(o.after.toList.filter (λe=>Region.binds .any e)).map (λe=>e.on)
 | none=>[]
def Kv (ops:Array ZN):Nat->Nat->Nat->Bool
 | 0,_,_=>ZU
 | f+1,j,k=>(tq ops j).any λm=>m==k || Kv ops f m k
def D5 (ops:Array ZN) (z:Nat):Bool:=(YE ops.size).all λk=>k==z || Kv ops ops.size z k
def xB (ops:Array ZN) (x:Array Bool):Prop:=∀ j,x.getD j ZU=ZV->∀ k∈tq ops j,x.getD k ZU=ZV
def Bj {x:Array Bool} (h:xB ops x):∀ (f j k:Nat),Kv ops f j k=ZV->(∀ m∈tq ops j,x.getD m ZU=ZV)->x.getD k ZU=ZV
 | 0,_,_,h0,_=>by cases h0
 | f+1,j,k,h0,hj=>by
  obtain ⟨m,a,q⟩:=List.any_eq_true.1 h0;rcases YQ.1 q with q|q
  . rw [<- eq_of_beq q];exact hj m a
  . exact Bj h f m k q (h m (hj m a))
def zy {x:Array Bool} (h:i∈Region.ready .any ops x):i<ops.size/\∀ m∈tq ops i,x.getD m ZU=ZV:=by
 obtain ⟨_,o,ho,b⟩:=mem_ready.1 h;refine ⟨(TX.1 ho).1,λm a=>?_⟩;unfold tq at a;rw [ho] at a;obtain ⟨e,c,rfl⟩:=T7.1 a;obtain ⟨d,f⟩:=Vt.1 c;exact b e (YR.1 d) f
def xB.set {x:Array Bool} (h:xB ops x) (d:i∈Region.ready .any ops x):xB ops (x.setIfInBounds i ZV):=λj a k b=>by
 have key:∀ k,x.getD k ZU=ZV->(x.setIfInBounds i ZV).getD k ZU=ZV:=λk q=>by
  by_cases e:i=k
  . subst e;have:i<x.size:=by
     by_cases c:i<x.size
     . exact c
     . simp [Vs,c] at q
    simp [Vs,this]
  . rw [getD_set_ne ZU e];exact q
 by_cases e:i=j
 . subst e;exact key k ((zy d).2 k b)
 . rw [getD_set_ne ZU e] at a;exact key k (h j a k b)
def Xp (P:Program) (ops:Array ZN) (Q:ZM->ZT->Prop) (i:Nat) (a:ZM) (w:ZT) (K:ZM->ZT->Prop):Prop:=wpOp P ops (λe a w=>e=.normal/\Q a w) i K a w
def Xi (Fc:Fence) (n:Nat) (P:Program) (ops:Array ZN) (Q:ZM->ZT->Prop) (i:Nat) (a:ZM) (w:ZT) (K:ZM->ZT->Prop):Prop:=wpOpIn Fc n P ops (λe a w=>e=.normal/\Q a w) i K a w
section
variable {P:Program} {ops:Array ZN} {S:ZT->Prop} {Q:ZM->ZT->Prop} {X:Nat->ZM->ZT->(ZM->ZT->Prop)->Prop} {z:Nat}
structure Kw (P:Program) (ops:Array ZN) (X:Nat->ZM->ZT->(ZM->ZT->Prop)->Prop):Prop where
 mono:∀ {i:Nat} {a:ZM} {w:ZT} {K K':ZM->ZT->Prop},(∀ a w,K a w->K' a w)->X i a w K->X i a w K'
 yes:∀ {S:ZT->Prop} {i:Nat} {o:ZN} {v:ZS} {a:ZM} {w:ZT} {K:ZM->ZT->Prop},ops[i]?=ZW o->YieldsIf P ops S o v a->S w->K (a.put o.dst v) w->X i a w K
 put:∀ {S:ZT->Prop} {i j:Nat} {oi oj:ZN} {v:ZS} {a:ZM} {w:ZT} {K:ZM->ZT->Prop},ops[i]?=ZW oi->ops[j]?=ZW oj->oi.apart ops oj=ZV->YieldsIf P ops S oi v a->X j (a.put oi.dst v) w K->X j a w λa' w'=>YieldsIf P ops S oi v a'/\K (a'.put oi.dst v) w'
def D6 (ops:Array ZN) (S:ZT->Prop) (Q:ZM->ZT->Prop) (X:Nat->ZM->ZT->(ZM->ZT->Prop)->Prop) (z:Nat):Nat->Array Bool->ZM->ZT->Prop
 | 0,x,a,w=>Region.ready .any ops x=[]/\Q a w
 | f+1,x,a,w=>(Region.ready .any ops x=[]->Q a w)/\∀ i∈Region.ready .any ops x,X i a w λa' w'=>(i≠z->S w')/\D6 ops S Q X z f (x.setIfInBounds i ZV) a' w'
def D7 (n:Kw P ops X) (W:z<ops.size->D5 ops z=ZV) {i:Nat} {oi:ZN} {v:ZS} (s:ops[i]?=ZW oi) (N:i≠z):∀ (f:Nat) (x:Array Bool) (a:ZM) (w:ZT),xB ops x ->
 (∀ j g,ops[j]?=ZW g->j≠i->x.getD j ZV=ZU->(∀ e∈g.after,Region.binds .any e=ZV->e.on≠i)->oi.apart ops g=ZV)->i∈Region.ready .any ops x->YieldsIf P ops S oi v a->S w->D6 ops S Q X z f (x.setIfInBounds i ZV) (a.put oi.dst v) w->D6 ops S Q X z (f+1) x a w:=by
 intro f;induction f with
 | zero=>
  intro x a w _ _ c o l H;refine ⟨λh=>(by rw [h] at c;cases c),λj d=>?_⟩;by_cases b:j=i
  . subst b;exact n.yes s o l ⟨λ_=>l,H⟩
  . have:=ready_mono d b;rw [H.1] at this;cases this
 | succ f ih=>
  intro x a w A u c o l H;refine ⟨λh=>(by rw [h] at c;cases c),λj d=>?_⟩;by_cases b:j=i
  . subst b;exact n.yes s o l ⟨λ_=>l,H⟩
  . obtain ⟨y,g,C,G⟩:=mem_ready.1 d;have F:=(mem_ready.1 c).1;have r:x.getD i ZU=ZU:=by
     rcases XE i x.size with p|p
     . simpa [Vs,p] using F
     . simp [Vs,p]
    have I:∀ e∈g.after,Region.binds .any e=ZV->e.on≠i:=λe L J M=>by
     have t:=G e L J;rw [M,r] at t;cases t
    have T:j≠z:=λe=>by
     obtain ⟨R,K⟩:=zy d;have q:=Xc.1 (W (e▸R)) i (Uu.2 (zy c).1);rcases YQ.1 q with q|q
     . exact N (eq_of_beq q)
     . rw [<- e] at q;rw [Bj A _ _ _ q K] at r;cases r
    refine n.mono (λE w' m=>⟨m.2.1,ih (x.setIfInBounds j ZV) E w' (A.set d) (λk ok O U D V=>u k ok O U ?_ V) (ready_mono c (Vq b)) m.1 (m.2.1 T) ?_⟩) (n.put s C (u j g C b y I) o (H.2 j (ready_mono d b)))
    . by_cases B:j=k
      . subst B;exact y
      . rw [getD_set_ne ZV B] at D;exact D
    . rw [YS _ _ b];exact m.2.2
def LW (P:Program) (ops:Array ZN) (Q:ZM->ZT->Prop) (S:ZT->Prop) (X:Nat->ZM->ZT->(ZM->ZT->Prop)->Prop) (z:Nat):List (Nat×Bool)->ZM->ZT->Prop
 | [],a,w=>Q a w
 | (i,ZV)::l,a,w=>∃ o v,ops[i]?=ZW o/\YieldsIf P ops S o v a/\LW P ops Q S X z l (a.put o.dst v) w
 | (i,ZU)::l,a,w=>X i a w λa' w'=>(i≠z->S w')/\LW P ops Q S X z l a' w'
def Ht (ops:Array ZN) (z:Nat):List (Nat×Bool)->Array Bool->Bool
 | [],x=>(Region.ready .any ops x).isEmpty
 | (i,b)::l,x=>(if b then Region.free .any ops x i&&(Region.ready .any ops x).contains i&&i != z else Region.ready .any ops x==[i]&&(i != z || l.isEmpty))&&Ht ops z l (x.setIfInBounds i ZV)
def D8 (b:Kw P ops X) (e:z<ops.size->D5 ops z=ZV):∀ (l:List (Nat×Bool)) (x:Array Bool) (a:ZM) (w:ZT),xB ops x->Ht ops z l x=ZV->(l≠[]->S w)->LW P ops Q S X z l a w->D6 ops S Q X z l.length x a w
 | [],x,a,w,_,hk,_,h=>⟨by simpa [Ht] using hk,h⟩
 | (i,ZV)::l,x,a,w,hc,hk,hS,h=>by
  simp only [Ht,if_true,WU,bne_iff_ne] at hk;obtain ⟨o,v,f,g,k⟩:=h;have c:i∈Region.ready .any ops x:=by simpa using hk.1.1.2
  exact D7 b e f hk.1.2 _ _ _ _ hc (Region.free_spec f hk.1.1.1) c g (hS (by simp)) (D8 b e l _ _ _ (hc.set c) hk.2 (λ_=>hS (by simp)) k)
 | (i,ZU)::l,x,a,w,hc,hk,hS,h=>by
  simp only [Ht,YT,if_false,WU,beq_iff_eq,XF,bne_iff_ne,List.isEmpty_iff] at hk;refine ⟨λq=>absurd (hk.1.1▸q) (by simp),λj d=>?_⟩;have c:=d;rw [hk.1.1] at d;obtain rfl:=Vp.1 d;exact b.mono (λm w' q=>⟨q.1,D8 b e l _ _ _ (hc.set c) hk.2 (λhl=>q.1 (hk.1.2.resolve_right hl)) q.2⟩) h
def xC (ops:Array ZN) (z:Nat) (l:List (Nat×Bool)):Bool:=Region.noSelect ops&&Ht ops z l (YG ops.size ZU)&&l.length==ops.size&&(decide (ops.size<=z) || D5 ops z)
theorem xD (e:Kw P ops X) {l:List (Nat×Bool)} (b:xC ops z l=ZV) {a:ZM} {w:ZT} (d:S w) (h:LW P ops Q S X z l a w):D6 ops S Q X z ops.size (YG ops.size ZU) a w:=by
 simp only [xC,WU,beq_iff_eq,XF,Wt] at b;have:=D8 e (λq=>b.2.resolve_left (by omega)) l (YG ops.size ZU) a w (λj c=>by
  simp only [Vs,acd] at c;split at c<;>cases c) b.1.1.2 (λ_=>d) h
 rwa [b.1.2] at this
def gL (h:Q a w):LW P ops Q S X z [] a w:=h
def a9 {l:List (Nat×Bool)} (ho:ops.toList[i]?=ZW o) (b:Region.wanted o (yielded ops a.tmps)=ZV) (h:∃ v,(∀ w,S w->(execOp a.eval o).run P w=.ok (.value v) w)/\LW P ops Q S X z l (a.put o.dst v) w):LW P ops Q S X z ((i,ZV)::l) a w:=h.elim λv h=>⟨o,v,by simpa using ho,.inl ⟨b,h.1⟩,h.2⟩
end
section
variable {P:Program} {ops:Array ZN} {S:ZT->Prop} {Q:ZM->ZT->Prop} {z i:Nat} {l:List (Nat×Bool)} {a:ZM} {w w1:ZT} {o:ZN}
def aaX (a:Region.noSelect ops=ZV):Kw P ops (Xp P ops Q) where
 mono h:=wpOp_mono h
 yes hi hy hS h:=hy.wpOp hi hS h
 put hi hj h0 hy h:=wpOp_putIf hj h0 (λcs b=>YA a _ _ cs b hi) (λcs b=>YA a _ _ cs b hj) (λ_ _ _ q=>absurd q.1 nofun) hy h
def F2:∀ (f:Nat) (x:Array Bool) (a:ZM) (w:ZT),D6 ops S Q (Xp P ops Q) z f x a w->wpAny P .any ops (λe a w=>e=.normal/\Q a w) f x a w
 | 0,_,_,_,h=>⟨h.1,rfl,h.2⟩
 | f+1,_,_,_,h=>⟨λq=>⟨rfl,h.1 q⟩,λi c=>wpOp_mono (λb w' q=>F2 f _ b w' q.2) (h.2 i c)⟩
def iC {U:Exit->ZM->ZT->Prop} (z:Nat) (l:List (Nat×Bool)) (S:ZT->Prop) (d:P.follows .mixedOrders=ZV) (b:xC ops z l=ZV) (c:S w.drew) (h:LW P ops (λa w=>U .normal a w) S (Xp P ops λa w=>U .normal a w) z l a w.drew):(Code.region m ops ZV).wp P U a w:=
 Code.wp_mono (Q:=λe a w=>e=.normal/\U .normal a w) (λe a w q=>by obtain ⟨rfl,q⟩:=q;exact q) (wp_region_any d (F2 _ _ _ _ (xD (aaX (by simp only [xC,WU] at b;exact b.1.1.1)) b c h)))
def Bk (ho:ops.toList[i]?=ZW o) (c:Region.wanted o (yielded ops a.tmps)=ZV) (h:∀ K:ZM->ZT->Prop,(∀ b w',(i≠z->S w')->LW P ops Q S (Xp P ops Q) z l b w'->K b w')->o.wp P a w K (λe a w=>e=.normal/\Q a w)):LW P ops Q S (Xp P ops Q) z ((i,ZU)::l) a w:=by
 show Xp P ops Q i a w _;unfold Xp wpOp;rw [show ops[i]?=ZW o by simpa using ho];show if _ then _ else _;rw [TT c];exact .inl (h _ λ_ _ d f=>⟨d,f⟩)
def D9 (ho:ops.toList[i]?=ZW o) (d:Region.wanted o (yielded ops a.tmps)=ZV) (c:(execOp a.eval o).run P w=.ok (.value v) w1) (b:i≠z->S w1) (h:LW P ops Q S (Xp P ops Q) z l (a.put o.dst v) w1):LW P ops Q S (Xp P ops Q) z ((i,ZU)::l) a w:=Bk ho d λK hK=>by
 unfold Oper.wp;rw [c];exact hK _ _ b h
def oe (ho:ops.toList[i]?=ZW o) (d:Region.wanted o (yielded ops a.tmps)=ZV) (c:(execOp a.eval o).run P w=.ok .skip w1) (b:i≠z->S w1) (h:LW P ops Q S (Xp P ops Q) z l (a.put o.dst ZY) w1):LW P ops Q S (Xp P ops Q) z ((i,ZU)::l) a w:=Bk ho d λK hK=>by
 unfold Oper.wp;rw [c];exact hK _ _ b h
def sj (b:ZQ P f args w1 R) (ho:ops.toList[i]?=ZW o) (d:Region.wanted o (yielded ops a.tmps)=ZV) (c:(execOp a.eval o).run P w=.ok (.enter f args) w1) (h:∀ e w',R e w'->∃ v,e=Z3 v/\(i≠z->S w')/\LW P ops Q S (Xp P ops Q) z l (a.put o.dst v) w'):LW P ops Q S (Xp P ops Q) z ((i,ZU)::l) a w:=Bk ho d λK hK=>by
 unfold Oper.wp;rw [c];refine b.mono λe w' q=>?_;obtain ⟨v,rfl,g,j⟩:=h e w' q;exact hK _ _ g j
end
structure P8 (Fc:Fence):Prop where
 fn:∀ f,Fc.fn f
 dp:Fc.depth.isSome=ZV->False
 cl:∀ {n:Nat} {P:Program} {f:FuncId} {args:Array ZS} {w:ZT} {R:ZO->ZT->Prop},ZQ P f args w R->CallsIn Fc n P f args w R
def qW:P8 Fence.wide:=⟨λ_=>trivial,λh=>(by cases h),λh=>Vc.2 h⟩
def iZ (l:Nat):P8 (Fence.wide.inRound l):=⟨λ_=>trivial,λh=>(by cases h),λh=>abN l (Vc.2 h)⟩
def zA (ops:Array ZN):Bool:=ops.toList.all λo=>match o.op with|.defer _=>ZU|_=>ZV
def ts (h:zA ops=ZV) {i:Nat} {o:ZN} (ho:ops[i]?=ZW o) (c:Call):o.op≠.defer c:=λe=>by
 have:=Xc.1 h o (YR.2 (Array.mem_of_getElem? ho));rw [e] at this;cases this
section
variable {Fc:Fence} {n:Nat} {P:Program} {ops:Array ZN} {S:ZT->Prop} {Q:ZM->ZT->Prop} {z i:Nat} {l:List (Nat×Bool)} {a:ZM} {w w1:ZT} {o:ZN}
theorem aan (s:P8 Fc) (B:Region.noSelect ops=ZV) (A:zA ops=ZV):Kw P ops (Xi Fc n P ops Q) where
 mono h:=wpOpIn_mono h
 yes {_ i o v a w K} hi hy hS h:=by
  unfold Xi wpOpIn;simp only [hi];rcases hy with ⟨m,D⟩|⟨m,rfl⟩
  . simp only [m,if_true,Oper.wpIn,VF _ _ _ (ts A hi),D w hS,Oper.uponIn];exact ⟨λf _=>s.fn f,h⟩
  . simp only [m,YT,if_false];exact ⟨λf _=>s.fn f,h⟩
 put {S i j oi oj v a w K} hi hj h5 hy h:=by
  have z:=λcs b=>YA B _ _ cs b hi;have C:=λcs b=>YA B _ _ cs b hj;have t:=ts A hj;obtain ⟨y,k,q⟩:=Oper.apart_spec h5;have keep:∀ u,YieldsIf P ops S oi v (a.put oj.dst u):=λu=>hy.of_same (execOp_put oi z a oj.dst u q) (wanted_put oi a oj.dst u q);unfold Xi wpOpIn at *;simp only [hj] at *;rw [wanted_put oj a oi.dst v y] at h;split
  . rename_i m
    simp only [m,if_true] at h;refine ⟨λf _=>s.fn f,?_⟩;have h:=h.2;rw [VF _ _ _ t,execOp_put oj C a oi.dst v y] at h;rw [VF _ _ _ t];generalize (execOp a.eval oj).run P w=r at *;cases r with
    | ok x w'=>
     cases x<;>simp only [Oper.uponIn] at h ⊢
     case value u=>exact ⟨keep u,by rw [<- Xr a v u k];exact h⟩
     case skip=>exact ⟨keep _,by rw [<- Xr a v ZY k];exact h⟩
     case defer d=>exact ⟨(hy.of_same rfl rfl:YieldsIf P ops S oi v { a with defers:=d::a.defers }).of_same (execOp_put oi z _ oj.dst _ q) (wanted_put oi _ oj.dst _ q),by rw [<- Xr _ v ZY k,<- Act.put_defers];exact h⟩
     case enter f args=>
      refine ⟨h.1,CallsIn.mono h.2 λe p g=>?_⟩;cases e with
      | returned u=>exact ⟨keep u,by rw [<- Xr a v u k];exact g⟩
      | panicked c=>exact absurd g.1 nofun
      | outgrown=>exact g
     case row row args=>exact ⟨h.1,RowsIn.mono h.2 λu p g=>⟨keep u,by rw [<- Xr a v u k];exact g⟩⟩
     case round l f tmps assign body=>
      refine ⟨h.1,RoundIn.mono h.2 λe p g=>?_⟩;cases e with
      | returned u=>exact ⟨keep u,by rw [<- Xr a v u k];exact g⟩
      | panicked c=>exact absurd g.1 nofun
      | outgrown=>exact g
    | _=>
     rename_i x _
     cases x<;>simp only [Oper.uponIn] at h ⊢
     case panic u=>exact absurd h.1 nofun
  . rename_i m
    simp only [m] at h;exact ⟨λf _=>s.fn f,keep _,by rw [<- Xr a v ZY k];exact h.2⟩
def xE:∀ (f:Nat) (x:Array Bool) (a:ZM) (w:ZT),D6 ops S Q (Xi Fc n P ops Q) z f x a w->wpAnyIn Fc n P .any ops (λe a w=>e=.normal/\Q a w) f x a w
 | 0,_,_,_,h=>⟨h.1,rfl,h.2⟩
 | f+1,_,_,_,h=>⟨λq=>⟨rfl,h.1 q⟩,λi c=>wpOpIn_mono (λb w' q=>xE f _ b w' q.2) (h.2 i c)⟩
def dH (c:P8 Fc) {U:Exit->ZM->ZT->Prop} {m:Nat} (z:Nat) (l:List (Nat×Bool)) (S:ZT->Prop) (f:P.follows .mixedOrders=ZV) (b:(xC ops z l&&zA ops)=ZV) (d:S w.drew) (h:LW P ops (λa w=>U .normal a w) S (Xi Fc n P ops λa w=>U .normal a w) z l a w.drew):(Code.region m ops ZV).wpIn Fc n P U a w:=by
 rw [WU] at b;have g:Region.noSelect ops=ZV:=by have:=b.1;simp only [xC,WU] at this;exact this.1.1.1
 exact Code.wpIn_mono (Q:=λe a w=>e=.normal/\U .normal a w) (λe a w q=>by obtain ⟨rfl,q⟩:=q;exact q) (wpIn_region_any f (xE _ _ _ _ (xD (aan c g b.2) b.1 d h)))
def Ea (ho:ops.toList[i]?=ZW o) (c:Region.wanted o (yielded ops a.tmps)=ZV) (h:∀ K:ZM->ZT->Prop,(∀ b w',(i≠z->S w')->LW P ops Q S (Xi Fc n P ops Q) z l b w'->K b w')->o.wpIn Fc n P a w K (λe a w=>e=.normal/\Q a w)):LW P ops Q S (Xi Fc n P ops Q) z ((i,ZU)::l) a w:=by
 show Xi Fc n P ops Q i a w _;unfold Xi wpOpIn;rw [show ops[i]?=ZW o by simpa using ho];show if _ then _ else _;rw [TT c];exact h _ λ_ _ d f=>⟨d,f⟩
def NH (d:P8 Fc) {v:ZS} (ho:ops.toList[i]?=ZW o) (j:Region.wanted o (yielded ops a.tmps)=ZV) (b:∀ c,o.op≠.defer c) (g:(execOp a.eval o).run P w=.ok (.value v) w1) (e:i≠z->S w1) (h:LW P ops Q S (Xi Fc n P ops Q) z l (a.put o.dst v) w1):LW P ops Q S (Xi Fc n P ops Q) z ((i,ZU)::l) a w:=Ea ho j λK hK=>⟨λf _=>d.fn f,by
 rw [VF _ _ _ b,g];exact hK _ _ e h⟩
def lC (d:P8 Fc) (ho:ops.toList[i]?=ZW o) (j:Region.wanted o (yielded ops a.tmps)=ZV) (b:∀ c,o.op≠.defer c) (g:(execOp a.eval o).run P w=.ok .skip w1) (e:i≠z->S w1) (h:LW P ops Q S (Xi Fc n P ops Q) z l (a.put o.dst ZY) w1):LW P ops Q S (Xi Fc n P ops Q) z ((i,ZU)::l) a w:=Ea ho j λK hK=>⟨λf _=>d.fn f,by
 rw [VF _ _ _ b,g];exact hK _ _ e h⟩
def gB (b:P8 Fc) {f:FuncId} {args:Array ZS} {R:ZO->ZT->Prop} (g:ZQ P f args w1 R) (ho:ops.toList[i]?=ZW o) (k:Region.wanted o (yielded ops a.tmps)=ZV) (d:∀ c,o.op≠.defer c) (j:(execOp a.eval o).run P w=.ok (.enter f args) w1) (h:∀ e w',R e w'->∃ v,e=Z3 v/\(i≠z->S w')/\LW P ops Q S (Xi Fc n P ops Q) z l (a.put o.dst v) w'):LW P ops Q S (Xi Fc n P ops Q) z ((i,ZU)::l) a w:=Ea ho k λK hK=>⟨λf _=>b.fn f,by
 rw [VF _ _ _ d,j];refine ⟨λh=>(b.dp h).elim,b.cl (g.mono λe w' q=>?_)⟩;obtain ⟨v,rfl,m,p⟩:=h e w' q;exact hK _ _ m p⟩
end
end
section
variable {w:ZT} {p:Nat} {R:gQ} {F:aQ}
theorem F3 (h:ah w p R F) (d b:Nat) (c:d<R.n) (q:b<R.nb) :
 ZQ ZI 178 #[Z6 (ZW ⟨p,0,ZX⟩),Z7 Z9 d,Z7 Z9 b] w λe w'=>e=Z3 (ZZ #[Z6 (ZW ⟨F.g,d*4,ZX⟩),.nilIface])/\w'=w:=by
 obtain ⟨c0,c1⟩:=h.RT;obtain ⟨f,d1,i,r,j⟩:=h.Sc d c;have k:¬ (d:Int)<0:=by omega
 have l:¬ (R.n:Int)<=(d:Int):=by omega
 have a:(d:Int)<(R.n:Int):=by omega
 have m:¬ (b:Int)<0:=by omega
 have o:¬ (R.nb:Int)<=(b:Int):=by omega
 clear h;go_enter func178,ntmps178;go_wp2;go_ret2;exact ⟨rfl,rfl⟩
def P9 (w:ZT) (p d b:Nat) (R:gQ) (F:aQ) (e:ZO) (w':ZT):Prop:=
 ah w' p R F/\aa F.S w w'/\((R.bad d b=ZU/\e=Z3 (ZZ #[.agg (aB (R.blk d b)),.nilIface]))\/(R.bad d b=ZV/\∃ q,e=Z3 (ZZ #[.agg (aB zb),Bh q])/\w.heap.size<=q/\jl w' q d b 12))
theorem NI (h:ah w p R F) (d b:Nat) (A:d<R.n) (J:b<R.nb) :
 ZQ ZI 156 #[Z6 (ZW ⟨p,0,ZX⟩),Z7 Z9 d,Z7 Z9 b] w (P9 w p d b R F):=by
 have hz:=zeroBlk;have I:=(h.len d b).1;have c:=h.alloc (Z4 (aB zb) 102);have x:=bL.new w zb;have t:∀ k,F.S k->k<w.heap.size:=λk B=>h.RO B;have u:aa F.S w (w.alloc (Z4 (aB zb) 102)):=aa.alloc w _;have e3:¬ (b:Int)<0:=by omega
 have e4:(b:Int)<(R.nb:Int):=by omega
 obtain ⟨w1,N⟩:=nM (w.alloc (Z4 (aB zb) 102));have hp:w1.heap.size=w.heap.size+1:=by rw [<- N];simp
 rw [N] at c x u;have i:∀ (a:ZT) (l:a8),ah a p R F->aa F.S w a->ah (a.setRow w.heap.size (aB l)) p R F/\aa F.S w (a.setRow w.heap.size (aB l))/\∀ j,j≠w.heap.size->j<a.heap.size->(a.setRow w.heap.size (aB l)).heap[j]?=a.heap[j]?:=λa l L V=>by
  have M:∀ j,j≠w.heap.size->j<a.heap.size->(a.setRow w.heap.size (aB l)).heap[j]?=a.heap[j]?:=λj X hl=>(aL a w.heap.size (aB l)).block j hl (λe=>by cases e;exact X rfl);exact ⟨L.keep λk B=>M k (by have:=t k B;omega) (L.RO B),V.later (T:=λk=>k=w.heap.size) (aa.setRow _ _ _ rfl) λk B e=>absurd e (by omega),M⟩
 have K:=F3 c d b A J;have H:=a6 c x u t i;clear h c x u t i;go_enter func156,ntmps156;go_wp2_with fail;refine K.mono ?_;rintro e w2 ⟨rfl,rfl⟩
 . obtain ⟨c,x,u,t,i⟩:=H.o;obtain ⟨Z,d1,d2,r,d3⟩:=c.Sc d A;have hm:=c.SH (d*4+3);obtain ⟨a,D⟩:=nM (w2.setCell ⟨F.g,d*4+3,ZX⟩ (Z7 Z9 (wrap64 (r+1))));have f:=c.count d (wrap64 (r+1));rw [D] at f;obtain ⟨q0,q1,q2,_⟩:=f.Sc d A;have P:a.cell? ⟨F.bd d,b,ZX⟩=ZW (Z1 (R.bad d b)):=(f.bad d A).cell J;have Y:a.rangeAt (F.bb d) (b*64) (aH (R.blk d b)):=f.range A J;have hr:a.heap.size=w2.heap.size:=(by rw [<- D];simp [World.setCell]);have m:bL a w.heap.size zb:=x.keep (by rw [<- D];exact Ud _ _ _ _ (by have:=t _ c.sg;show w.heap.size≠F.g;omega));have s:aa F.S w a:=u.trans (by rw [<- D];exact aa.setCell _ _ _ c.sg);cases h4:R.bad d b with
   | false=>
    rw [h4] at P;have y:=a5 f s i m;clear c x u t i f s m K;go_wp2_with (first|(refine DR rfl (Z0 46) rfl (F.bb d) (b*64) (R.blk d b) rfl Y I ?_)|(refine gA rfl (Z0 6) (Z0 47) rfl w.heap.size (R.blk d b) zb rfl rfl y.o.2.2.2 cB I ?_));obtain ⟨f,s,i,m⟩:=y.o;refine Ur (v:=ZZ #[.agg (aB (R.blk d b)),.nilIface]) (iY results156 _ _ _ _ _ rfl rfl (qV (m.setRow _) I)) rfl ?_;obtain ⟨E,G,_⟩:=i _ (R.blk d b) f s;exact ⟨E,G,.inl ⟨h4,rfl⟩⟩
   | true=>
    rw [h4] at P;obtain ⟨Q,O⟩:=nM (a.alloc (Z4 #[Z7 Z9 d,Z7 Z9 b,Z7 Z9 12] 273));obtain ⟨q,hq⟩:=nM (w.heap.size+1);have W:a.heap.size=q:=(by omega);have z:jl Q q d b 12:=(by rw [<- O,<- W];exact jl.new _ _ _ _);have C:bW a Q:=(by rw [<- O];exact bA a _);have y:=a7 (f.below C lR) (s.trans (aa.RN C _)) i (m.keep (C.block _ m.lt)) z (show w.heap.size<q by omega);clear c x u t i f s m K z C;go_wp2_with (refine gA rfl (Z0 6) (Z0 35) rfl w.heap.size zb zb rfl rfl (by exact y.o.2.2.2.1) cB cB ?_);obtain ⟨f,s,i,m,z,hn⟩:=y.o;refine Ur (v:=ZZ #[.agg (aB zb),.iface 271 (Z6 (ZW ⟨q,0,ZX⟩))]) (iY results156 _ _ _ _ _ rfl rfl (qV (m.setRow _) cB)) rfl ?_;obtain ⟨E,G,U⟩:=i _ zb f s;exact ⟨E,G,.inr ⟨h4,q,rfl,by omega,(U q (by omega) z.lt).trans z⟩⟩
def wbR (A:gQ) (d b:Nat) (l:a8):gQ:=A.RU d λm=>if m=b then l else A.blk d m
def wrR (A:gQ) (d b:Nat) (l:a8):gQ:=(wbR A d b l).RY d λm=>if m=b then ZU else A.bad d m
def Qa (w:ZT) (p d b:Nat) (l:a8) (R:gQ) (F:aQ) (x:ZS) (w':ZT):Prop:=aa F.S w w'/\x=.nilIface/\ah w' p (wrR R d b l) F
theorem Kx (h:ah w p R F) (d b:Nat) (f:d<R.n) (u:b<R.nb) (l:a8) (r:l.length=64) (M:∀ x∈l,x<256) :
 ZQ ZI 153 #[Z6 (ZW ⟨p,0,ZX⟩),Z7 Z9 d,Z7 Z9 b,.agg (aB l)] w λe w'=>∃ x,e=Z3 x/\Qa w p d b l R F x w':=by
 have a:=h.alloc (Z4 (aB l) 102);have j:=bL.new w l;have m:aa F.S w (w.alloc (Z4 (aB l) 102)):=aa.alloc w _;have N:¬ (b:Int)<0:=by omega
 have O:(b:Int)<(R.nb:Int):=by omega
 have J:¬ F.S w.heap.size:=λq=>by have:=h.RO q;omega
 obtain ⟨w1,L⟩:=nM (w.alloc (Z4 (aB l) 102));rw [L] at a j m;obtain ⟨c0,c1⟩:=a.RT;have A:=F3 a d b f u;have H:=aE a j m;clear h a j m;go_enter func153,ntmps153;go_wp2_with fail;refine A.mono ?_;rintro e w2 ⟨rfl,rfl⟩
 . obtain ⟨a,j,m⟩:=H.o;clear A;go_wp2_with fail;have c:=a.Sc d f;refine iC 14 [(0,ZV),(1,ZV),(2,ZV),(3,ZV),(4,ZV),(5,ZV),(6,ZV),(7,ZV),(8,ZV),(9,ZV),(10,ZV),(11,ZV),(12,ZU),(13,ZV),(14,ZU)] (λw'=>w'.cell? ⟨F.g,d*4+1,ZX⟩=ZW (Z5 (ZW ⟨F.bb d,0,ZX⟩) R.nb R.nb)/\w'.cell? ⟨F.g,d*4+2,ZX⟩=ZW (Z5 (ZW ⟨F.bd d,0,ZX⟩) R.nb R.nb)/\bL w' w.heap.size l) (by kernel_rfl) (by kernel_rfl) ⟨c.2.1,c.2.2.1,j⟩ ?_;iterate 10 (refine a9 rfl rfl ?_;apply YI;refine ⟨λw' i=>?_,?_⟩;(obtain ⟨B,C,D⟩:=i;first|(go_simp;done)|(go_simp;exact rfl));simp only [Act.put,Ue,Uc,Uf])
   refine a9 rfl rfl ⟨_,λw' i=>by simp [execOp,Act.eval,nl i.2.2 r];rfl,?_⟩;refine a9 rfl rfl ?_;apply YI;refine ⟨λw' i=>?_,?_⟩;(obtain ⟨B,C,D⟩:=i;first|(go_simp;done)|(go_simp;exact rfl));simp only [Act.put,Ue,Uc,Uf];have t:=run_storeAt_mid (P:=ZI) w2.drew (F.bb d) (b*64) 102 (aB l) (by rw [il,r];exact a.there f u) (fs r) (A2 l);rw [wW] at t;refine Bk rfl rfl λK hK=>?_;simp [Oper.wp,execOp,Act.eval,t];have k:=(a.keep (Y:=w2.drew) λ_ _=>rfl).setBlk f b r M;have y:aa F.S w2 (w2.drew.setCells (F.bb d) (b*64) (aH l)):=(aa.drew w2).trans (aa.setCells _ _ _ _ (a.sb f));have v:bL (w2.drew.setCells (F.bb d) (b*64) (aH l)) w.heap.size l:=bL.keep j (aU _ _ _ _ _ (λe=>J (e▸a.sb f)));have s:=k.Sc d f;have E:=(k.bad d f).cell u;have G:=(k.bad d f).frozen b;refine hK _ _ (λ_=>⟨s.2.1,s.2.2.1,v⟩) ?_;obtain ⟨Q,z⟩:=nM (w2.drew.setCells (F.bb d) (b*64) (aH l));rw [z] at k y v E G ⊢;clear hK z t c s;refine a9 rfl rfl ?_;apply YI;refine ⟨λw' i=>?_,?_⟩;(obtain ⟨B,C,D⟩:=i;first|(go_simp;done)|(go_simp;exact rfl));simp only [Act.put,Ue,Uc,Uf];refine Bk rfl rfl λK hK=>?_;go_simp;have I:=k.TB f b ZU;refine hK _ _ (absurd rfl) (gL ?_);clear hK;rename_i hK _
   refine hK _ _ ?_;go_wp2;go_ret;exact ⟨_,rfl,m.trans (y.trans (aa.setCell _ _ _ (a.sd f))),rfl,I⟩
end
section
def bt (w:ZT) (v p D L G ps ho:Nat):Prop:=w.heap[v]?=ZW (Z4 #[Z6 (ZW ⟨p,0,ZX⟩),Z7 Z9 D,Z7 Z9 L,Z7 Z9 G,Z6 (ZW ⟨ps,0,ZX⟩),Z7 Z8 ho] 144 (0,0))
def bt.keep {v:Nat} (h:bt w v p D L G ps ho) (e:w'.heap[v]?=w.heap[v]?):bt w' v p D L G ps ho:=e.trans h
def bt.lt {v:Nat} (h:bt w v p D L G ps ho):v<w.heap.size:=(TX.1 h).1
def bt.cells {v:Nat} (h:bt w v p D L G ps ho):w.cell? ⟨v,0,ZX⟩=ZW (Z6 (ZW ⟨p,0,ZX⟩))/\w.cell? ⟨v,1,ZX⟩=ZW (Z7 Z9 D)/\w.cell? ⟨v,2,ZX⟩=ZW (Z7 Z9 L)/\w.cell? ⟨v,3,ZX⟩=ZW (Z7 Z9 G)/\w.cell? ⟨v,4,ZX⟩=ZW (Z6 (ZW ⟨ps,0,ZX⟩))/\w.cell? ⟨v,5,ZX⟩=ZW (Z7 Z8 ho):=by
 have a:w.heap[v]?=ZW (Z4 #[Z6 (ZW ⟨p,0,ZX⟩),Z7 Z9 D,Z7 Z9 L,Z7 Z9 G,Z6 (ZW ⟨ps,0,ZX⟩),Z7 Z8 ho] 144 (0,0)):=h;simp [World.cell?,a]
def bh.outside {S:Nat->Prop} (h:bh w) (a:aa S w w') (b:¬ S 2):bh w':=λj c=>by
 have:=h j c;rw [<- this];exact Uk (a.block _ (Ub this) b)
def aF.R9 (A:aF) (d b:Nat):Option bw:=A.rd d b
def Qb (w:ZT) (p d b:Nat) (A:aF) (F:aQ) (e:ZO) (w':ZT):Prop:=
 aA w' p A F/\aa F.S w w'/\((∃ r,A.R9 d b=ZW r/\e=Z3 (ZZ #[cZ r,.nilIface]))\/(A.R9 d b=ZX/\∃ q,e=Z3 (ZZ #[.nilIface,Bh q])/\w.heap.size<=q/\jl w' q d b 12))
variable {w:ZT} {v p D L G ps ho:Nat} {A:aF} {F:aQ}
theorem qX (hV:bt w v p D L G ps ho) (h:aA w p A F) (d b:Nat) (hd:d<A.n) (hb:b<A.nb) (hv:bh w) (hg:¬ F.S 2) :
 ZQ ZI 132 #[Z6 (ZW ⟨v,0,ZX⟩),Z7 Z9 d,Z7 Z9 b] w (Qb w p d b A F):=by
 obtain ⟨c0,_⟩:=hV.cells;have hz:=zeroBlk;obtain ⟨R,t,u⟩:=h;have hc:=NI t d b (by rw [u.n];exact hd) (by rw [u.nb];exact hb);have J:=(t.len d b).1;have C:=a5 (t.len d b).2 (λk (z:F.S k)=>t.RO z) hv u;have X:A.R9 d b=R.rd d b:=(u.rd d b hd).symm;have x:R.bad d b=ZV->A.R9 d b=ZX:=λq=>by rw [X];unfold gQ.rd;rw [TT q]
 have E:=al X x;clear hV t hv u X x;go_enter func132,ntmps132;go_wp2_with fail;refine hc.mono ?_;rintro e w1 ⟨Q,N,k9⟩;clear hc;have ka:=N.size;have O:=bL.new w1 zb;have K:=Q.alloc (Z4 (aB zb) 102);have U:aa F.S w (w1.alloc (Z4 (aB zb) 102)):=N.trans (aa.alloc _ _);have H:∀ l:a8,aA ((w1.alloc (Z4 (aB zb) 102)).setRow w1.heap.size (aB l)) p A F/\aa F.S w ((w1.alloc (Z4 (aB zb) 102)).setRow w1.heap.size (aB l)):=λl=>
  ⟨⟨R,K.keep λk z=>(aL _ _ _).block k (K.RO z) (λe=>by have:=C.o.2.1 k z;cases e;omega),C.o.2.2.2⟩,U.later (T:=λk=>k=w1.heap.size) (aa.setRow _ _ _ rfl) (λk z e=>absurd e (by omega))⟩
 rcases k9 with ⟨h8,rfl⟩|⟨x,q,rfl,B,W⟩
 . obtain ⟨l,hll⟩:=nM (R.blk d b);rw [hll] at J ⊢;have a:A.R9 d b=J4 l:=(by rw [E.o.1];unfold gQ.rd;rw [h8,hll];rfl);have c:=a5 O (H l) a hll;clear Q N O K U H c0 h8 a hll;go_wp2_with (first|(refine gA rfl (Z0 8) (Z0 20) rfl w1.heap.size l zb rfl rfl c.o.1 cB J ?_)|(refine mq rfl (Z0 8) rfl w1.heap.size l rfl (c.o.1.setRow l) J ?_));obtain ⟨j,i⟩:=c.o.2.1;obtain ⟨w3,y⟩:=nM ((w1.alloc (Z4 (aB zb) 102)).setRow w1.heap.size (aB l));rw [y] at j i ⊢;have ho:=P6 l w3 J (by rw [<- c.o.2.2.2];exact C.o.1) (C.o.2.2.1.outside i hg);have g:=al j i;clear j i y;refine ho.mono ?_;rintro e m ⟨rfl,P⟩;have M:=g.o.1.below P lR;have s:aa F.S w m:=g.o.2.trans (aa.RN P _);have a:=c.o.2.2.1;cases hr:J4 l with
   | some r=>
    rw [hr] at a;have f:=aE M s a;clear ho P M s a c hr;obtain ⟨rv,Y⟩:=nM (cZ r);have E:=ak Y;unfold ofV;simp only [Y];clear Y;go_wp2;go_ret2;exact ⟨f.o.1,f.o.2.1,.inl ⟨r,f.o.2.2,by rw [E.o];rfl⟩⟩
   | none=>
    rw [hr] at a;obtain ⟨w5,k8⟩:=nM (m.alloc (Z4 #[Z7 Z9 d,Z7 Z9 b,Z7 Z9 12] 273));have he:jl w5 m.heap.size d b 12:=(by rw [<- k8];exact jl.new _ _ _ _);have V:bW m w5:=(by rw [<- k8];exact bA m _);have f:=a6 (M.below V lR) (s.trans (aa.RN V _)) a he s.size;clear ho P M s a c hr V he;unfold ofV;go_wp2;go_ret2;exact ⟨f.o.1,f.o.2.1,.inr ⟨f.o.2.2.1,_,rfl,f.o.2.2.2.2,f.o.2.2.2.1⟩⟩
 . have h9:jl ((w1.alloc (Z4 (aB zb) 102)).setRow w1.heap.size (aB zb)) q d b 12:=by
    have h1:jl (w1.alloc (Z4 (aB zb) 102)) q d b 12:=W.below (bA w1 _);exact ((aL _ _ _).block q h1.lt (λe=>by have:=W.lt;cases e;omega)).trans h1
   have c:=a6 O (H zb) (E.o.2 x) h9 B;clear Q N O K U H c0 x W h9 B;unfold Bh;go_wp2_with (refine gA rfl (Z0 8) (Z0 20) rfl w1.heap.size zb zb rfl rfl c.o.1 cB cB ?_);obtain ⟨_,⟨j,i⟩,a,I,B⟩:=c.o;obtain ⟨w3,y⟩:=nM ((w1.alloc (Z4 (aB zb) 102)).setRow w1.heap.size (aB zb));rw [y] at j i I ⊢;have Z:=D4 I (by decide);unfold Bh at Z;have g:=a6 j i a I B;clear j i a I B y;refine Z.mono ?_;rintro e m ⟨rfl,rfl⟩;clear Z;go_wp2;go_ret2;exact ⟨g.o.1,g.o.2.1,.inr ⟨g.o.2.2.1,q,rfl,g.o.2.2.2.2,g.o.2.2.2.1⟩⟩
def Eb (w:ZT) (p d b:Nat) (r:bw) (A:aF) (F:aQ) (x:ZS) (w':ZT):Prop:=x=.nilIface/\aA w' p (A.putAt [d] b λ_=>r) F/\aa F.S w w'
theorem og (k:bt w v p D L G ps ho) (h:aA w p A F) (d b:Nat) (C:d<A.n) (m:b<A.nb) (r:bw) (g:r.ok) (q:bh w) :
 ZQ ZI 128 #[Z6 (ZW ⟨v,0,ZX⟩),Z7 Z9 d,Z7 Z9 b,cZ r] w λe w'=>∃ x,e=Z3 x/\Eb w p d b r A F x w':=by
 have j:∀ w1,bW w w1->ZQ ZI 153 #[Z6 (ZW ⟨p,0,ZX⟩),Z7 Z9 d,Z7 Z9 b,.agg (aB r.blk)] w1 λe w2=>∃ x,e=Z3 x/\Eb w p d b r A F x w2:=λw1 a=>by
  obtain ⟨R,f,l⟩:=h;refine (Kx (f.below a lR) d b (by rw [l.n];exact C) (by rw [l.nb];exact m) r.blk (FR g) (PQ g)).mono ?_;rintro e w2 ⟨x,rfl,B,rfl,z⟩;exact ⟨_,rfl,rfl,⟨_,z,l.put d b g⟩,(aa.RN a _).trans B⟩
 obtain ⟨c0,_⟩:=k.cells;have c:=xw g w.drew (q.below ((TW _ w).drew) q.lt);obtain ⟨rv,u⟩:=nM (cZ r);simp only [u] at c ⊢;obtain ⟨J,t⟩:=nM (aB r.blk);simp only [t] at c j;have s:∀ w',bW w w'->w'.cell? ⟨v,0,ZX⟩=ZW (Z6 (ZW ⟨p,0,ZX⟩)):=λw' m=>(m.cell (p:=⟨v,0,ZX⟩) k.lt).trans c0;have H:=al j s;clear j k u t q s h;go_enter func128,ntmps128;go_upto_region 1 with fail;go_cut [9] from 10 to 21 (λE I=>Eb w p d b r A F E I)
 case first=>
  go_region_with (first
   | (go_at_call 154;refine c.mono ?_;rintro e w1 ⟨rfl,a⟩;have c1:=H.o.2 w1 (((TW _ w).drew).trans a);have y:=ak (((TW _ w).drew).trans a);clear a)
   | (go_at_call 153;refine (H.o.1 w1 y.o).mono ?_;rintro e w2 ⟨x,rfl,f⟩;have i:=ak f;clear f))
  all_goals (go_wp2_with fail;go_meet;case rel=>exact i.o)
 case rest=>
  obtain ⟨rfl,hcut⟩:=hcut;have i:=ak hcut;clear hcut c c0;go_wp2_with fail;refine (Ku _).mono ?_;rintro e w' ⟨rfl,rfl⟩;go_wp2;go_ret;exact ⟨_,rfl,rfl,i.o⟩
end
def aG (w:ZT):Prop:=∀ j,j<64->w.cell? ⟨1,j,ZX⟩=ZW (Z7 .u8 ((Lib.deBruijn64tab.getD j 0:Nat):Int))
def aG.mono (h:aG w) (a:1<B) (b:ZR B w w'):aG w':=λj c=>(b.cell (p:=⟨1,j,ZX⟩) a).trans (h j c)
def Qc (x a:Nat) (d:x<18446744073709551616) (e:x≠0) (c:x &&& (18446744073709551616-x)=a) :
 IntKind.u64.wrap (bits BinOp.and IntKind.u64 (x:Int) (IntKind.u64.wrap (-(x:Int)))*285870213051353865)/288230376151711744=((a*285870213051353865%18446744073709551616/288230376151711744:Nat):Int):=by
 have b:IntKind.u64.wrap (-(x:Int))=((18446744073709551616-x:Nat):Int):=by rw [Vd];omega
 rw [b,bits_and_u64_nat x _ d (by omega),c,Vd];omega
def oh (x:Nat):Nat:=Lib.ctzFrom 64 x
def tw (a:x≠0) (b:x<65536):∃ m,x=2^oh x*(2*m+1)/\oh x<64:=Lib.ctzFrom_spec 64 x (by omega) (by omega)
theorem NJ (x k idx:Nat) (w:ZT) (b:((x:Int)==0)=ZU)
 (key:IntKind.u64.wrap (bits BinOp.and IntKind.u64 (x:Int) (IntKind.u64.wrap (-(x:Int)))*285870213051353865)/288230376151711744=(idx:Int))
 (c:idx<64) (d:k<64) (a:w.cell? ⟨1,idx,ZX⟩=ZW (Z7 .u8 k)) :
 ZQ ZI 152 #[Z7 Z8 x] w λe w'=>e=Z3 (Z7 Z9 k)/\w'=w:=by
 go_enter func152,ntmps152;go_wp2_with (simp only [key]);go_ret;exact ⟨rfl,rfl⟩
def Ky (x:Nat) (a:x≠0) (j:x<65536) (w:ZT) (i:aG w) :
 ZQ ZI 152 #[Z7 Z8 x] w λe w'=>e=Z3 (Z7 Z9 (oh x))/\w'=w:=by
 obtain ⟨m,f,d⟩:=tw a j;have g:x &&& (18446744073709551616-x)=2^oh x:=by
  have:=Lib.and_neg 64 (oh x) m (by rw [<- f];omega);rw [<- f] at this;exact this
 obtain ⟨c,h⟩:=Lib.deBruijn64_at _ d;have b:=i _ c;rw [h] at b;exact NJ x _ _ w (by simp;omega) (Qc x _ (by omega) a g) c d b
theorem F4 (n:x≠0) (p:x<65536):x &&& (x-1)=bH x (oh x):=by
 obtain ⟨m,d,_⟩:=tw n p;generalize oh x=k at d;have:0<2^k:=Vz k;have o:2^(k+1)=2*2^k:=by rw [Xx];omega
 have f:x=2^(k+1)*m+2^k:=by rw [d,o,Nat.mul_add,We,Wx 2 (2^k),Nat.mul_assoc]
 have g:x-1=2^(k+1)*m+(2^k-1):=by omega
 apply Xw;intro j;rw [XG,g,lq];have h:=YO m (i:=k+1) (b:=2^k) (by omega) j;have l:=YO m (i:=k+1) (b:=2^k-1) (by omega) j;rw [l,f,h];by_cases a:j<k+1
 . rw [TT a,TT a,XH,WS];have c:decide (k<j)=ZU:=(by simp;omega);rw [c,Bool.false_and];by_cases e:k=j
   . simp [e]
   . simp [e]
 . rw [TS a,TS a];have c:decide (k<j)=ZV:=(by simp;omega);rw [c,Bool.true_and,Bool.and_self]
theorem sm (e:x≠0) (g:x<65536):x.testBit (oh x)=ZV/\∀ j,j<oh x->x.testBit j=ZU:=by
 obtain ⟨m,d,_⟩:=tw e g;generalize oh x=k at d;have:0<2^k:=Vz k;have f:2^(k+1)=2*2^k:=by rw [Xx];omega
 have a:x=2^(k+1)*m+2^k:=by rw [d,f,Nat.mul_add,We,Wx 2 (2^k),Nat.mul_assoc]
 have c:=λj=>YO m (i:=k+1) (b:=2^k) (by omega) j;constructor
 . rw [a,c,TT (by omega),Nat.testBit_two_pow_self]
 . intro j h;rw [a,c,TT (by omega),XH];simp;omega
def Kz (b:x≠0) (a:x<65536):oh x<16:=by
 refine Nat.lt_of_not_le λh=>?_;have:=Xk (x:=x) (i:=oh x) (TZ a (U8 (n:=2) (by decide) h));rw [(sm b a).1] at this;cases this
def iD (b:x≠0) (c:x<65536):ab x=oh x::ab (bH x (oh x)):=by
 have h:oh x∈ab x:=cW.2 ⟨Kz b c,(sm b c).1⟩;obtain ⟨pre,R,e⟩:=List.append_of_mem h;rw [AT e];have f:=qS x;rw [e] at f;cases pre with
 | nil=>exact e
 | cons a pre=>
  have g:=(abG.1 f).2.2 a (by simp) (oh x) (by simp);have d:=(cW.1 (show a∈ab x by rw [e];simp)).2;rw [(sm b c).2 a g] at d;cases d
def pF (x k:Nat) (a:x<65536):bH x k<65536:=by
 unfold bH;exact Xf (YU _ _) a
def xF:ab 0=[]:=by decide
def sw1 (x:Nat):Nat:=(x/2 &&& 6148914691236517205)+(x &&& 6148914691236517205)
def sw2 (x:Nat):Nat:=(x/4 &&& 3689348814741910323)+(x &&& 3689348814741910323)
def sw3 (x:Nat):Nat:=(x/16+x) &&& 1085102592571150095
def sw (x:Nat):Nat:=sw3 (sw2 (sw1 x))
def pb (b:Nat):Nat:=b%2+b/2%2+b/4%2+b/8%2+b/16%2+b/32%2+b/64%2+b/128%2
def tst (n:Nat):Nat->Bool
 | 0=>ZV
 | k+1=>(sw (n*256+k)==pb n*256+pb k)&&tst n k
def Qd:Nat->Bool
 | 0=>ZV
 | n+1=>tst n 256&&Qd n
def aaY:Qd 256=ZV:=by decide +kernel
def KA:∀ {k},tst n k=ZV->∀ j,j<k->sw (n*256+j)=pb n*256+pb j
 | 0,_,j,h=>absurd h (by omega)
 | k+1,h,j,hj=>by
  obtain ⟨a,b⟩:=XC.1 h;by_cases e:j=k
  . rw [e];exact eq_of_beq a
  . exact KA b j (by omega)
def F5:∀ {n},Qd n=ZV->∀ i,i<n->tst i 256=ZV
 | 0,_,i,h=>absurd h (by omega)
 | n+1,h,i,hi=>by
  obtain ⟨a,b⟩:=XC.1 h;by_cases e:i=n
  . rw [e];exact a
  . exact F5 b i (by omega)
def aao (a:x<65536):sw x=pb (x/256)*256+pb (x%256):=by
 have:=KA (F5 aaY (x/256) (by omega)) (x%256) (by omega);rwa [show x/256*256+x%256=x by omega] at this
def Qe (x i:Nat):(if x.testBit i=ZV then 1 else 0)=x/2^i%2:=by
 rw [WV];by_cases h:x/2^i%2=1
 . simp [h]
 . have:=VS (x/2^i);simp [h];omega
def Pm (b:Nat):pb b<=8:=by unfold pb;omega
theorem KB (x:Nat):(ab x).length=pb (x/256)+pb (x%256):=by
 have h:∀ n,((YE n).filter (λi=>x.testBit i)).length=((YE n).map (λi=>x/2^i%2)).sum:=by
  intro n;induction n with
  | zero=>rfl
  | succ n ih=>
   rw [Vy,Wr,T8,ih,Uv,YB];have e:=Qe x n;have m:([n].map (λi=>x/2^i%2)).sum=x/2^n%2:=(by simp);rw [m,<- e];by_cases e:x.testBit n=ZV
   . simp [e]
   . simp [e]
 unfold ab pb;rw [h];have a:YE 16=[0,1,2,3,4,5,6,7,8,9,10,11,12,13,14,15]:=by decide
 rw [a];simp only [UG,Vg,XI,List.sum_nil,Nat.reducePow,Nat.div_one];have b:x%256%2=x%2:=by omega
 have c:x%256/2%2=x/2%2:=by omega
 have d:x%256/4%2=x/4%2:=by omega
 have f:x%256/8%2=x/8%2:=by omega
 have g:x%256/16%2=x/16%2:=by omega
 have j:x%256/32%2=x/32%2:=by omega
 have k:x%256/64%2=x/64%2:=by omega
 have l:x%256/128%2=x/128%2:=by omega
 rw [b,c,d,f,g,j,k,l];clear b c d f g j k l h a;simp only [Nat.div_div_eq_div_mul,Nat.reduceMul];generalize x%2=o;generalize x/2%2=p;generalize x/4%2=q;generalize x/8%2=r;generalize x/16%2=s;generalize x/32%2=t;generalize x/64%2=u;generalize x/128%2=v;generalize x/256%2=b0;generalize x/512%2=b1;generalize x/1024%2=b2;generalize x/2048%2=b3;generalize x/4096%2=b4;generalize x/8192%2=b5;generalize x/16384%2=b6;generalize x/32768%2=b7;omega
def Bm (h:k<64):2^k<18446744073709551616:=TZ (V8 (by decide) h) lR
def Hu (k:Nat) (h:k<=16):IntKind.u64.wrap (IntKind.u64.wrap (2^k)-1)=((2^k-1:Nat):Int):=by
 have:=Bm (k:=k) (by omega);have:0<2^k:=Vz k;have e:((2:Int)^k)=((2^k:Nat):Int):=by rw [XJ];rfl
 rw [e,Vd,Vd];omega
theorem mu (k:Nat) (a:k<=16) (w:ZT) :
 ZQ ZI 111 #[Z7 Z9 k] w λe w'=>e=Z3 (Z7 Z8 ((2^k-1:Nat):Int))/\w'=w:=by
 have key:=Hu k a;go_enter func111,ntmps111;go_wp2;go_ret;exact ⟨rfl,rfl⟩
def fC (a b:Nat) (c:a<18446744073709551616) (d:b<18446744073709551616):bits .and .u64 (a:Int) (b:Int)=((a &&& b:Nat):Int):=bits_and_u64_nat a b c d
theorem k1 (x:Nat) (h:x<65536):IntKind.u64.wrap (bits .and .u64 ((x:Int)/2) 6148914691236517205+bits .and .u64 (x:Int) 6148914691236517205)=((sw1 x:Nat):Int)/\sw1 x<131072:=by
 have e:(x:Int)/2=((x/2:Nat):Int):=by omega
 have d:=fC (x/2) 6148914691236517205 (by omega) (by decide);have f:=fC x 6148914691236517205 (by omega) (by decide);have:=WW (n:=x/2) (m:=6148914691236517205);have:=WW (n:=x) (m:=6148914691236517205);unfold sw1;rw [e];refine ⟨?_,by omega⟩;have c:bits .and .u64 ((x/2:Nat):Int) 6148914691236517205=((x/2 &&& 6148914691236517205:Nat):Int):=d;have g:bits .and .u64 (x:Int) 6148914691236517205=((x &&& 6148914691236517205:Nat):Int):=f;rw [c,g,Vd];generalize (x/2 &&& 6148914691236517205)=a at *;generalize (x &&& 6148914691236517205)=b at *;omega
theorem k2 (x:Nat) (h:x<131072):IntKind.u64.wrap (bits .and .u64 ((x:Int)/4) 3689348814741910323+bits .and .u64 (x:Int) 3689348814741910323)=((sw2 x:Nat):Int)/\sw2 x<262144:=by
 have e:(x:Int)/4=((x/4:Nat):Int):=by omega
 have d:=fC (x/4) 3689348814741910323 (by omega) (by decide);have f:=fC x 3689348814741910323 (by omega) (by decide);have:=WW (n:=x/4) (m:=3689348814741910323);have:=WW (n:=x) (m:=3689348814741910323);unfold sw2;rw [e];refine ⟨?_,by omega⟩;have c:bits .and .u64 ((x/4:Nat):Int) 3689348814741910323=((x/4 &&& 3689348814741910323:Nat):Int):=d;have g:bits .and .u64 (x:Int) 3689348814741910323=((x &&& 3689348814741910323:Nat):Int):=f;rw [c,g,Vd];generalize (x/4 &&& 3689348814741910323)=a at *;generalize (x &&& 3689348814741910323)=b at *;omega
def k3 (x:Nat) (a:x<262144):bits .and .u64 (IntKind.u64.wrap ((x:Int)/16+(x:Int))) 1085102592571150095=((sw3 x:Nat):Int):=by
 have e:IntKind.u64.wrap ((x:Int)/16+(x:Int))=((x/16+x:Nat):Int):=by rw [Vd];omega
 rw [e];exact fC (x/16+x) 1085102592571150095 (by omega) (by decide)
theorem k4 (x c:Nat) (a:x<1048576):IntKind.u64.wrap ((x:Int)+(x:Int)/(c:Int))=((x+x/c:Nat):Int):=by
 have:=VU x c;have e:(x:Int)/(c:Int)=((x/c:Nat):Int):=(X8 x c).symm;rw [Vd,e];generalize x/c=d at *;omega
def Qf (x:Nat):x &&& 127=x%128:=abS x 7
theorem KC (x:Nat) (v:x<65536) (w:ZT) :
 ZQ ZI 220 #[Z7 Z8 x] w λe w'=>e=Z3 (Z7 Z9 ((ab x).length:Nat))/\w'=w:=by
 obtain ⟨g,b1⟩:=k1 x v;obtain ⟨h,b2⟩:=k2 _ b1;have a:=k3 _ b2;have u:=aao v;have y:=Pm (x/256);have z:=Pm (x%256);have t:=KB x;have e:sw3 (sw2 (sw1 x))=pb (x/256)*256+pb (x%256):=u;generalize pb (x/256)=p at *;generalize pb (x%256)=q at *;have b:=k4 (p*256+q) 256 (by omega);have n:p*256+q+(p*256+q)/256=p*257+q:=by omega
 have c:=k4 (p*257+q) 65536 (by omega);have r:p*257+q+(p*257+q)/65536=p*257+q:=by rw [Xy (by omega),VR]
 have d:=k4 (p*257+q) 4294967296 (by omega);have s:p*257+q+(p*257+q)/4294967296=p*257+q:=by rw [Xy (by omega),VR]
 rw [n] at b;rw [r] at c;rw [s] at d;have f:=FU (p*257+q) 127 (by omega) (by decide);rw [Qf,show (p*257+q)%128=p+q by omega,<- t] at f;have i:wrap64 ((p*257+q:Nat):Int)=((p*257+q:Nat):Int):=by unfold wrap64;omega
 rw [e] at a;clear e u t n r s;have H:=hide8 g h a b c d f i;clear g h a b c d f i;go_enter func220,ntmps220;go_wp2;obtain ⟨g,h,a,b,c,d,f,i⟩:=H.o;simp only [g];simp only [h];simp only [a];have j:IntKind.u64.wrap (((p*256+q:Nat):Int)+((p*256+q:Nat):Int)/256)=((p*257+q:Nat):Int):=b;have k:IntKind.u64.wrap (((p*257+q:Nat):Int)+((p*257+q:Nat):Int)/65536)=((p*257+q:Nat):Int):=c;have l:IntKind.u64.wrap (((p*257+q:Nat):Int)+((p*257+q:Nat):Int)/4294967296)=((p*257+q:Nat):Int):=d;have m:bits .and .i64 ((p*257+q:Nat):Int) 127=(((ab x).length:Nat):Int):=f;simp only [j,k,l,i,m];go_ret;exact ⟨rfl,rfl⟩
theorem Bn (x:Nat) (a:x<65536) (w:ZT) :
 ZQ ZI 216 #[Z7 Z8 x] w λe w'=>e=Z3 (Z7 Z9 ((ab x).length:Nat))/\w'=w:=by
 go_enter func216,ntmps216;go_wp2_with fail;refine (KC x a _).mono ?_;rintro e w' ⟨rfl,rfl⟩;go_wp2;go_ret;exact ⟨rfl,rfl⟩
theorem Ec (x k:Nat) (c:x<65536) (f:k<=16):bits .andNot .u64 (x:Int) ((2^k-1:Nat):Int)=((x/2^k*2^k:Nat):Int):=by
 have d:=Bm (k:=k) (by omega);have e:0<2^k:=Vz k;have h:=YC x (2^k-1) (by omega) (by omega);rw [h];congr 1;apply Xw;intro j;rw [XG,ab9,show 18446744073709551615-(2^k-1)=2^64-(2^k-1+1) by omega,X5 (by omega),WS,aca];by_cases a:k<=j
 . rw [show j-k+k=j by omega];by_cases b:j<64
   . simp [a,b,show ¬ j<k by omega]
   . have:x.testBit j=ZU:=Xk (TZ c (U8 (n:=2) (i:=16) (by decide) (by omega)));simp [this]
 . simp [a,show j<k by omega]
theorem Ed (x k:Nat) (a:x<65536) (c:k<16) (w:ZT) :
 ZQ ZI 224 #[Z7 Z8 x,Z7 Z9 k] w λe w'=>e=Z3 (Z7 Z8 (bH x k:Nat))/\w'=w:=by
 have key:=Ec x (k+1) a (by omega);have d:wrap64 ((k:Int)+1)=((k+1:Nat):Int):=by unfold wrap64;omega
 have b:IntKind.i64.wrap ((k:Int)+1)=((k+1:Nat):Int):=by rw [UB];omega
 have H:=ak key;clear key;go_enter func224,ntmps224;go_wp2_with fail;refine (mu (k+1) (by omega) _).mono ?_;rintro e w' ⟨rfl,rfl⟩;go_wp2;rw [H.o];go_ret;exact ⟨rfl,rfl⟩
section
attribute [local go_sem] Oper.semAt_some
def oq (b:q≠0) (c:q<65536):bH q (oh q)<q:=by
 refine Nat.lt_of_le_of_ne (YU _ _) λe=>?_;have a:=lq q (oh q) (oh q);rw [e,(sm b c).1] at a;simp at a
abbrev Sh:={ x:Nat // x<16 }
def qY (x:Sh):Array ZS:=#[Z7 Z9 (x.1:Int)]
def shs (s:Nat):List Sh:=(ab s).filterMap (λi=>if h:i<16 then ZW ⟨i,h⟩ else ZX)
def NK (s:Nat):(shs s).map (·.1)=ab s:=by
 unfold shs;have h:∀ L:a8,(∀ i∈L,i<16)->(L.filterMap (λi=>if h:i<16 then ZW (⟨i,h⟩:Sh) else ZX)).map (·.1)=L:=by
  intro L;induction L with
  | nil=>intro _;rfl
  | cons a L ih=>
   intro d;have e:=d a U7;rw [List.filterMap_cons_some (b:=(⟨a,e⟩:Sh)) (by simp [e]),UG,ih (λi c=>d i (UP _ c))]
 exact h _ (λi c=>(cW.1 c).1)
theorem dI (s:Nat) (w:ZT) :
 ZQ ZI 127 #[Z7 Z8 s] w λe w'=>e=Z3 (.func (.func 151) #[] #[Z6 (ZW ⟨w.heap.size,0,ZX⟩)])/\w'=w.alloc (Z4 #[Z7 Z8 s] 138):=by
 go_enter func127,ntmps127;go_wp2;go_ret;exact ⟨rfl,rfl⟩
theorem Bo (n:Nat) (l Bs s:Nat) (A:s<65536) (J g:List Sh->ZT->Prop)
 (y:∀ pre x W,J pre W->pre.length<(ab s).length->YieldAt Fence.wide (n-1) ZI l (qY x) W λe c=>
  (e=Z3 (Z1 ZV)/\J (pre++[x]) c/\(aG W->aG c))\/(e=Z3 (Z1 ZU)/\g (pre++[x]) c))
 (W:ZT) (E:W.cell? ⟨Bs,0,ZX⟩=ZW (Z7 Z8 s)) (w:aG W) (m:J [] W) :
 CallsIn Fence.wide n ZI 151 #[.func (.yield l) #[] #[],Z6 (ZW ⟨Bs,0,ZX⟩)] W λe c=>(∃ v,e=Z3 v) /\
  ((∃ k,k.map (·.1)=ab s/\J k c)\/(∃ pre,pre.map (·.1)<+:ab s/\g pre c)):=by
 refine Xs func151 rfl trivial ?_ rfl;simp only [ntmps151,UH,UD,UW,YL,YM,Vj,Vk,Vl,Vm,Uo,UU];gi_wp2;gi_loopw [3] (λp wr=>∃ (pre:List Sh) (q:Nat),p=Z7 Z8 q/\q<65536/\ab s=pre.map (·.1)++ab q/\J pre wr/\aG wr)
  (λp _=>(intOf p).toNat)
 case atStart=>
  exact ⟨[],s,rfl,A,rfl,m,w⟩
 case round=>
  obtain ⟨pre,q,rfl,b,d,i,j⟩:=hrel;by_cases a:q=0
  . subst a;gi_wp2;go_end0
    exact ⟨⟨_,rfl⟩,.inl ⟨pre,by rw [d,xF,Wn],i⟩⟩
  . have D:((q:Int) != 0)=ZV:=(by simp;omega);have f:=Kz a b;obtain ⟨fn,tmps,assign,body,B,u⟩:=y pre ⟨oh q,f⟩ wr i (by rw [d,iD a b];simp);unfold qY at B;gi_wp2;refine cj (Ky q a b wr j) ?_;rintro e w' ⟨rfl,rfl⟩;gi_wp2;refine ⟨λh=>(by cases h),u.mono ?_⟩;rintro e C (⟨rfl,r,t⟩|⟨rfl,o⟩)
    . have F:IntKind.u64.wrap ((q:Int)-1)=((q-1:Nat):Int):=(by rw [Vd];omega);have z:=fC q (q-1) (by omega) (by omega);rw [F4 a b] at z;gi_wp2;go_roundw
      case rel=>exact ⟨pre++[⟨oh q,f⟩],bH q (oh q),rfl,pF _ _ b,by rw [d,iD a b];simp,r,t j⟩
      case measure=>have:=oq a b;simp only [intOf];omega
    . gi_wp2;refine Ur (XK rfl _ _ _) rfl ?_;exact ⟨⟨_,rfl⟩,.inr ⟨pre++[⟨oh q,f⟩],by rw [d,iD a b];simp,o⟩⟩
def F6 (W W':ZT):Prop:=aG W->aG W'
def qZ {A B C:ZT} (h:F6 A B) (k:F6 B C):F6 A C:=λx=>k (h x)
def rh (c:3<=w.heap.size) (W:ZT) (l:Nat) (o b:Obj) (hl:w.heap.size<=l) (h:W.heap[l]?=ZW o) (_:o.isCells=ZU) (_:o.isWalk=ZU):F6 W (W.putObj l b):=λa=>
 a.mono (B:=3) (by decide) (Below.RR (TW _ W) (by omega) (TX.1 h).1 _)
def F6.RM {W W':ZT} (b:3<=B) (h:ZR B W W'):F6 W W':=λa=>a.mono (by omega) h
def F6.refl (W:ZT):F6 W W:=λh=>h
def eS (n Bs s:Nat) (h:s<65536) (w:ZT) (d:Bs<w.heap.size) (g:w.cell? ⟨Bs,0,ZX⟩=ZW (Z7 Z8 s)) (j:3<=w.heap.size) (e:aG w) :
 SeqStopsK Fence.wide n ZI 151 #[Z6 (ZW ⟨Bs,0,ZX⟩)] qY F6 (λi=>i.map (·.1)=ab s) (λpre=>pre.map (·.1)<+:ab s) (ab s).length w:=λl J b W a _ _ f c=>
 Bo n l Bs s h J b f W ((a.cell (p:=⟨Bs,0,ZX⟩) d).trans g) (e.mono (by omega) a) c
end
def de (D L G:Int):Bool:=decide (1<=D/\D<=12/\1<=L/\L<=4/\0<=G/\G<=4/\D%L=0/\D+L+G<=16)
def ot {a b:Bool} (h:a=b):Ending.returned (Z1 a)=Z3 (Z1 b):=by rw [h]
theorem dL (D L G:Int) (w:ZT) (a:0<=D/\D<=100) (b:0<=L/\L<=100) (c:0<=G/\G<=100) :
 ZQ ZI 12 #[.agg #[Z7 Z9 D,Z7 Z9 L,Z7 Z9 G]] w λe w'=>e=Z3 (Z7 Z9 (D+L+G))/\bW w w':=by
 obtain ⟨d,f⟩:=a;obtain ⟨b1,b2⟩:=b;obtain ⟨c1,g⟩:=c;go_enter func12,ntmps12;go_wp2;go_ret;exact ⟨rfl,bA _ _⟩
theorem pG (D L G:Int) (w:ZT) :
 ZQ ZI 65 #[.agg #[Z7 Z9 D,Z7 Z9 L,Z7 Z9 G]] w λe w'=>e=Z3 (Z1 (de D L G))/\bW w w':=by
 go_enter func65,ntmps65;go_wp2_with (go_at_call 12;refine (dL D L G _ (by omega) (by omega) (by omega)).mono ?_;rintro e w' ⟨rfl,a⟩);all_goals go_ret
 . refine ⟨ot (b:=de D L G) ?_,(bA _ _).trans (a.mono (by simp))⟩;unfold de;rw [decide_eq_decide];constructor
   . intro h;exact ⟨by omega,by omega,by omega,by omega,by omega,by omega,by assumption,h⟩
   . intro h;exact h.2.2.2.2.2.2.2
 all_goals
  refine ⟨ot (b:=de D L G) ?_,bA _ _⟩;unfold de;symm;rw [decide_eq_false_iff_not];intro h;omega
theorem Ee (D L G:Int) (w:ZT) :
 ZQ ZI 47 #[.agg #[Z7 Z9 D,Z7 Z9 L,Z7 Z9 G]] w λe w'=>e=Z3 (Z1 (de D L G))/\bW w w':=by
 go_enter func47,ntmps47;go_wp2;all_goals go_ret
 rotate_left
 . refine ⟨ot (b:=de D L G) ?_,bA _ _⟩;unfold de;rw [decide_eq_decide];constructor
   . intro h;exact ⟨by omega,by omega,by omega,by omega,by omega,by omega,by assumption,h⟩
   . intro h;exact h.2.2.2.2.2.2.2
 all_goals
  refine ⟨ot (b:=de D L G) ?_,bA _ _⟩;unfold de;symm;rw [decide_eq_false_iff_not];intro h;omega
theorem Ef (D L G:Int) (w:ZT) :
 ZQ ZI 11 #[.agg #[Z7 Z9 D,Z7 Z9 L,Z7 Z9 G]] w λe w'=>e=Z3 (.agg #[Z7 Z9 D,Z7 Z9 L,Z7 Z9 G])/\bW w w':=by
 go_enter func11,ntmps11;go_wp2;exact Ur (v:=.agg #[Z7 Z9 D,Z7 Z9 L,Z7 Z9 G]) (by simp [results,results11,go_sem]) rfl ⟨rfl,(bA _ _).alloc (by simp) _⟩
section
attribute [local go_sem] Oper.semAt_some
abbrev Mb (s:Nat):={ x:Nat // x<16/\s.testBit x=ZV }
def xG {s:Nat} (x:Mb s):Array ZS:=#[Z7 Z9 (x.1:Int)]
def iF {s:Nat} (pre:List (Mb s)):a8:=pre.map (·.1)
def fT (pre:List (Mb s)) (x:Mb s):iF (pre++[x])=iF pre++[x.1]:=by unfold iF;simp
def ou (h:n<=16):ab (2^n-1)=YE n:=by
 have:∀ k:Fin 17,ab (2^k.1-1)=YE k.1:=by decide
 exact this ⟨n,by omega⟩
theorem Bp (n:Nat) (l Bs s:Nat) (A:s<65536) (J g:List (Mb s)->ZT->Prop)
 (y:∀ pre x W,J pre W->pre.length<(ab s).length->YieldAt Fence.wide (n-1) ZI l (xG x) W λe c=>
  (e=Z3 (Z1 ZV)/\J (pre++[x]) c/\(aG W->aG c))\/(e=Z3 (Z1 ZU)/\g (pre++[x]) c))
 (W:ZT) (E:W.cell? ⟨Bs,0,ZX⟩=ZW (Z7 Z8 s)) (w:aG W) (m:J [] W) :
 CallsIn Fence.wide n ZI 151 #[.func (.yield l) #[] #[],Z6 (ZW ⟨Bs,0,ZX⟩)] W λe c=>(∃ v,e=Z3 v) /\
  ((∃ k,k.map (·.1)=ab s/\J k c)\/(∃ pre,pre.map (·.1)<+:ab s/\g pre c)):=by
 refine Xs func151 rfl trivial ?_ rfl;simp only [ntmps151,UH,UD,UW,YL,YM,Vj,Vk,Vl,Vm,Uo,UU];gi_wp2;gi_loopw [3] (λp wr=>∃ (pre:List (Mb s)) (q:Nat),p=Z7 Z8 q/\q<65536/\ab s=pre.map (·.1)++ab q/\J pre wr/\aG wr)
  (λp _=>(intOf p).toNat)
 case atStart=>
  exact ⟨[],s,rfl,A,rfl,m,w⟩
 case round=>
  obtain ⟨pre,q,rfl,b,d,i,j⟩:=hrel;by_cases a:q=0
  . subst a;gi_wp2;go_end0
    exact ⟨⟨_,rfl⟩,.inl ⟨pre,by rw [d,xF,Wn],i⟩⟩
  . have D:((q:Int) != 0)=ZV:=(by simp;omega);have f:oh q<16/\s.testBit (oh q)=ZV:=cW.1 (by rw [d,iD a b];simp);obtain ⟨fn,tmps,assign,body,B,u⟩:=y pre ⟨oh q,f⟩ wr i (by rw [d,iD a b];simp);unfold xG at B;gi_wp2;refine cj (Ky q a b wr j) ?_;rintro e w' ⟨rfl,rfl⟩;gi_wp2;refine ⟨λh=>(by cases h),u.mono ?_⟩;rintro e C (⟨rfl,r,t⟩|⟨rfl,o⟩)
    . have F:IntKind.u64.wrap ((q:Int)-1)=((q-1:Nat):Int):=(by rw [Vd];omega);have z:=fC q (q-1) (by omega) (by omega);rw [F4 a b] at z;gi_wp2;go_roundw
      case rel=>exact ⟨pre++[⟨oh q,f⟩],bH q (oh q),rfl,pF _ _ b,by rw [d,iD a b];simp,r,t j⟩
      case measure=>have:=oq a b;simp only [intOf];omega
    . gi_wp2;refine Ur (XK rfl _ _ _) rfl ?_;exact ⟨⟨_,rfl⟩,.inr ⟨pre++[⟨oh q,f⟩],by rw [d,iD a b];simp,o⟩⟩
def nr (n Bs s:Nat) (h:s<65536) (w:ZT) (d:Bs<w.heap.size) (g:w.cell? ⟨Bs,0,ZX⟩=ZW (Z7 Z8 s)) (j:3<=w.heap.size) (e:aG w) :
 SeqStopsK Fence.wide n ZI 151 #[Z6 (ZW ⟨Bs,0,ZX⟩)] (xG (s:=s)) F6 (λi=>i.map (·.1)=ab s) (λpre=>pre.map (·.1)<+:ab s) (ab s).length w:=λl J b W a _ _ f c=>
 Bp n l Bs s h J b f W ((a.cell (p:=⟨Bs,0,ZX⟩) d).trans g) (e.mono (by omega) a) c
end
section
attribute [local go_sem] Oper.semAt_some
def aG.keep (h:aG w) (e:w'.heap[1]?=w.heap[1]?):aG w':=λj a=>by
 rw [<- h j a];unfold World.cell?;rw [e]
def aG.lt (h:aG w):1<w.heap.size:=Ub (h 0 (by decide))
def bh.keep (h:bh w) (e:w'.heap[2]?=w.heap[2]?):bh w':=λj a=>by
 rw [<- h j a];unfold World.cell?;rw [e]
structure zB (D L G:Nat):Prop where
 r:de D L G=ZV
 d1:1<=D
 d:D<=12
 l1:1<=L
 l4:L<=4
 g:G<=4
 div:D%L=0
 s:D+L+G<=16
structure pH (w:ZT) (v p D L G ps ho:Nat) (A:aF) (F:aQ):Prop where
 vol:bt w v p D L G ps ho
 arr:aA w p A F
 laid:bh w
 tab:aG w
 room:3<=w.heap.size
 v:¬ F.S v
 g:¬ F.S 2
 t:¬ F.S 1
 n:A.n=D+L+G
 par:zB D L G
def pH.below {v:Nat} {A:aF} (h:pH w v p D L G ps ho A F) {B:Nat} (a:ZR B w w') (b:w.heap.size<=B):pH w' v p D L G ps ho A F:=
 ⟨h.vol.keep (a.block _ (TZ h.vol.lt b)),h.arr.below a b,h.laid.below a (TZ h.laid.lt b),h.tab.keep (a.block _ (TZ h.tab.lt b)),TU h.room a.size,h.v,h.g,h.t,h.n,h.par⟩
def pH.turn {v:Nat} {A A':aF} (h:pH w v p D L G ps ho A F) (a:aa F.S w w') (b:aA w' p A' F) (c:A'.n=A.n):pH w' v p D L G ps ho A' F:=
 ⟨h.vol.keep (a.block _ h.vol.lt h.v),b,h.laid.keep (a.block _ h.laid.lt h.g),h.tab.keep (a.block _ h.tab.lt h.t),TU h.room a.size,h.v,h.g,h.t,c.trans h.n,h.par⟩
def KD {t8:Nat} {x:ZS} (e:fn.results=#[.cell t8 ty]) (c:a.defers=[{ target:=.collected D',args:=#[] }]) (h8:a.tmps.getD t8 ZY=Z6 (ZW ⟨b,0,ZX⟩))
 (hl:∀ w,w.heap[b]?=Z.heap[b]?->(loadVar ty ⟨b,0,ZX⟩).run ZI w=.ok x w) (hK:Z.heap[D']?=ZW (.deferred (ZW []))) (hD:b≠D')
 (hR:R (Z3 x) (Z.putObj D' (.deferred ZX))):bodyPostM Fence.wide n ZI fn R .ret a Z:=by
 obtain ⟨f,g⟩:=a;simp only at c h8;subst c;refine ⟨by simp,.inl ⟨_,_,rfl,Wu hK,?_⟩⟩;have c0:=hl (Z.putObj D' (.deferred ZX)) (US hD);refine ⟨x,?_,hR⟩;have d:f[t8]?.getD ZY=Z6 (ZW ⟨b,0,ZX⟩):=by simpa using h8
 simp [results,e,asAddr,d,c0]
theorem Bq (h:ZK Z b 138 (Z7 Z8 s)) (w:ZT) (e:w.heap[b]?=Z.heap[b]?):(loadVar 138 ⟨b,0,ZX⟩).run ZI w=.ok (Z7 Z8 s) w:=by
 have a:w.cell? ⟨b,0,ZX⟩=ZW (Z7 Z8 s):=(show ZK w b 138 (Z7 Z8 s) from e.trans h).cell;simp [go_sem,a]
end
def F7 (h:k<64):2^k<18446744073709551616:=TZ (V8 (by decide) h) lR
theorem lD (x k:Nat) (c:x<18446744073709551616) (d:k<=60) (w:ZT):ZQ ZI 129 #[Z7 Z8 x,Z7 Z9 k] w λe w'=>e=Z3 (Z7 Z8 ((x|||2^k:Nat):Int))/\w'=w:=by
 have key:bits .or .u64 (x:Int) (IntKind.u64.wrap (2^k))=((x|||2^k:Nat):Int):=by
  have b:=F7 (k:=k) (by omega);have e:((2:Int)^k)=((2^k:Nat):Int):=by rw [XJ];rfl
  have a:IntKind.u64.wrap (2^k)=((2^k:Nat):Int):=by
   rw [e,Vd];generalize 2^k=q at *;omega
  rw [a];exact abR x (2^k) c b
 go_enter func129,ntmps129;go_wp2;go_ret;exact ⟨rfl,rfl⟩
section
attribute [local go_sem] Oper.semAt_some
def zC (f:Nat->Bool) (ds:a8):Nat:=ds.foldl (λs d=>if f d=ZV then s|||2^d else s) 0
def KE {f:Nat->Bool} (ds:a8) {d:Nat} (h:f d=ZU):zC f (ds++[d])=zC f ds:=by unfold zC;rw [Wq];simp [h]
def NL {f:Nat->Bool} (ds:a8) {d:Nat} (h:f d=ZV):zC f (ds++[d])=zC f ds|||2^d:=by unfold zC;rw [Wq];simp [h]
theorem xH {N:Nat} (q:Nat->Bool) (l:a8) (h:∀ d∈l,d<N):zC q l<2^N:=by
 unfold zC;suffices ∀ (l:a8) (s:Nat),(∀ d∈l,d<N)->s<2^N->l.foldl (λs d=>if q d=ZV then s|||2^d else s) s<2^N from this l 0 h (YD (by decide))
 intro l;induction l with
 | nil=>intro s _ a;exact a
 | cons d l ih=>
  intro s b a;refine ih _ (λx c=>b x (by simp [c])) ?_;show (if q d=ZV then s|||2^d else s)<2^N;split
  . exact Xt a (V8 (by decide) (b d (by simp)))
  . exact a
def Qg (f:Nat->Bool) (ds:a8) (h:∀ d∈ds,d<16):zC f ds<65536:=xH (N:=16) f ds h
def tA (w:ZT) (b c f h:ZL) (d e g i:ZS):∃ a,(((w.alloc (Z4 #[d] b)).alloc (Z4 #[e] c)).alloc (Z4 #[g] f)).alloc (Z4 #[i] h)=a/\(ZK a w.heap.size b d/\ZK a (w.heap.size+1) c e/\ZK a (w.heap.size+1+1) f g/\ZK a (w.heap.size+1+1+1) h i)/\a.heap.size=w.heap.size+4/\bW w a:=by
 have j:=Ut (w.alloc (Z4 #[d] b)) c e;have k:=Ut ((w.alloc (Z4 #[d] b)).alloc (Z4 #[e] c)) f g;have l:=Ut (((w.alloc (Z4 #[d] b)).alloc (Z4 #[e] c)).alloc (Z4 #[g] f)) h i;simp only [Uq] at j k l;exact ⟨_,rfl,⟨(((Ut w _ _).alloc _).alloc _).alloc _,(j.alloc _).alloc _,k.alloc _,l⟩,by simp,(((bA w _).alloc (by simp) _).alloc (by simp;omega) _).alloc (by simp;omega) _⟩
structure Hv (w:ZT) (v p b:Nat) (T:ZL) (u:ZS) (f:Nat->bw) (A:aF) (F:aQ) (B S:Nat) (pre:List (Mb S)) (X:ZT):Prop where
 b0:ZK X w.heap.size 128 (Z6 (ZW ⟨v,0,ZX⟩))
 b1:ZK X (w.heap.size+1) 3 (Z7 Z9 b)
 b2:ZK X (w.heap.size+1+1) T u
 b3:ZK X (w.heap.size+1+1+1) 138 (Z7 Z8 (0:Nat))
 arr:aA X p (A.putAt (iF pre) b f) F
 out:aa F.S w X
 size:B<=X.heap.size
section
variable {w:ZT} {v p D L G ps ho b:Nat} {T:ZL} {u:ZS} {f:Nat->bw} {A:aF} {F:aQ} {B S:Nat}
def Hv.own (t:w.heap.size+4<=B) (r:∀ k,F.S k->k<w.heap.size):OwnFrom B (Hv w v p b T u f A F B S):=by
 rintro pre X Y row ⟨d,g,h,i,j,l,m⟩ c s;have a:∀ k,k<w.heap.size+4->Y.heap[k]?=X.heap[k]?:=λk a=>c.block k (by omega) (λe=>by have:=(s k e.symm).1;omega);exact ⟨(a _ (by omega)).trans d,(a _ (by omega)).trans g,(a _ (by omega)).trans h,(a _ (by omega)).trans i,j.keep λk n=>a k (by have:=r k n;omega),l.later (T:=λk=>w.heap.size<=k) ⟨c.os,c.tape,c.output,c.size,λk o q=>a k (by omega)⟩ (λk o q=>by omega),TU m c.size⟩
def Hv.next {pre:List (Mb S)} {x:Mb S} {Y:ZT} (d:pH w v p D L G ps ho A F) (a:Hv w v p b T u f A F B S pre X) (n:w.heap.size+4<=B) (j:aA Y p (A.putAt (iF pre++[x.1]) b f) F) (e:aa F.S X Y) :
 (X.heap.size<=Y.heap.size/\∀ k o,B<=k->X.heap[k]?=ZW o->Y.heap[k]?=ZW o)/\aG Y/\Hv w v p b T u f A F B S (pre++[x]) Y:=by
 have c:∀ k,w.heap.size<=k->k<X.heap.size->Y.heap[k]?=X.heap[k]?:=λk l h=>e.block k h (λq=>by have:=d.arr.RO q;omega);have i:=e.size;have:=a.size;have g:=a.out.trans e;exact ⟨⟨i,λk o l ho=>(c k (by omega) (TX.1 ho).1).trans ho⟩,d.tab.keep (g.block _ d.tab.lt d.t),(c _ (by omega) (by omega)).trans a.b0,(c _ (by omega) (by omega)).trans a.b1,(c _ (by omega) (by omega)).trans a.b2,(c _ (by omega) (by omega)).trans a.b3,by rw [fT];exact j,g,by omega⟩
def Hv.done {pre:List (Mb S)} (c:Hv w v p b T u f A F B S pre X) (m:iF pre=ab S) (i:∀ k,F.S k->k<w.heap.size) (o:fn.results=#[.cell 8 138]) (j:a.defers=[{ target:=.collected D',args:=#[] }]) (h8:a.tmps.getD 8 ZY=Z6 (ZW ⟨w.heap.size+1+1+1,0,ZX⟩)) (hK:X.heap[D']?=ZW (.deferred (ZW []))) (hD:B<=D') (hB:w.heap.size+4<=B) :
 bodyPostM Fence.wide n ZI fn (λe w'=>e=Z3 (Z7 Z8 (0:Nat))/\aA w' p (A.putAt (ab S) b f) F/\aa F.S w w') .ret a (X.setCell ⟨w.heap.size+1+1+1,0,ZX⟩ (Z7 Z8 (0:Nat))):=by
 have g:=(V5 X ⟨w.heap.size+1+1+1,0,ZX⟩ (Z7 Z8 (0:Nat))).same D' _ hK rfl;refine KD (b:=w.heap.size+1+1+1) (t8:=8) o j h8 (Bq (s:=0) (c.b3.set _)) g (by omega) ⟨rfl,?_,?_⟩
 . have d:=c.arr;rw [m] at d;exact d.keep λk l=>by have:=i k l;exact (US (by omega)).trans (Ud _ _ _ _ (by show k≠w.heap.size+1+1+1;omega))
 . exact c.out.later (T:=λk=>w.heap.size<=k) ⟨rfl,rfl,rfl,by simp [World.setCell,World.putObj],λk _ h=>(US (by omega)).trans (Ud _ _ _ _ (by show k≠w.heap.size+1+1+1;omega))⟩ (λk q h=>by omega)
end
theorem eX {v:Nat} {A:aF} (d:pH w v p D L G ps ho A F) (b S:Nat) (hb:b<A.nb) (hS:S<65536) (hy:∀ i,i∈ab S->i<A.n) (r:bw) (hr:r.ok) :
 ZQ ZI 120 #[Z6 (ZW ⟨v,0,ZX⟩),Z7 Z9 b,cZ r,Z7 Z8 S] w λe w'=>e=Z3 (Z7 Z8 (0:Nat))/\aA w' p (A.putAt (ab S) b (λ_=>r)) F/\aa F.S w w':=by
 obtain ⟨n,Z⟩:∃ n:Nat,cA (9<=n):=⟨9,TV _⟩;obtain ⟨rv,q⟩:=nM (cZ r);have k0:∃ ty f,rv=.iface ty f:=by cases r<;>exact ⟨_,_,q.symm⟩
 obtain ⟨ty,f,rfl⟩:=k0;rw [q];have HR:=ak q;clear q;have K:∀ k,F.S k->k<w.heap.size:=λk z=>d.arr.RO z;refine (Vc (n:=n)).1 ?_;refine Wf func120 rfl trivial ?_ rfl;simp only [ntmps120,UH,UD,UW,YL,YM,Vj,Vk,Vl,Vm,Uo,UU];gi_wp2;obtain ⟨a,Q,⟨B,C,E,H⟩,u,N⟩:=tA w 128 3 223 138 (Z6 (ZW ⟨v,0,ZX⟩)) (Z7 Z9 (b:Int)) (.iface ty f) (Z7 Z8 0);rw [Q];clear Q;refine cj (dI S a) ?_;rintro e w' ⟨rfl,rfl⟩;have T:(a.alloc (Z4 #[Z7 Z8 (S:Int)] 138)).heap.size=a.heap.size+1:=by simp
 have O:(a.alloc (Z4 #[Z7 Z8 (S:Int)] 138)).cell? ⟨a.heap.size,0,ZX⟩=ZW (Z7 Z8 (S:Int)):=(Ut a 138 (Z7 Z8 (S:Int))).cell;have m:bW w (a.alloc (Z4 #[Z7 Z8 (S:Int)] 138)):=N.alloc (by omega) _;have P:Hv w v p b 223 (.iface ty f) (λ_=>r) A F (a.heap.size+1) S [] (a.alloc (Z4 #[Z7 Z8 (S:Int)] 138)):=
  ⟨B.alloc _,C.alloc _,E.alloc _,H.alloc _,by rw [show iF ([]:List (Mb S))=[] from rfl,wR];exact d.arr.below m lR,aa.RN m _,by omega⟩
 obtain ⟨V,R⟩:=nM (a.alloc (Z4 #[Z7 Z8 (S:Int)] 138));have I:=ak O;have j:=al P m;have hv:=ak u;clear O P B C E H N m u;gi_wp2;obtain ⟨u,k7⟩:w.heap.size+4<=a.heap.size/\a.heap.size<=w.heap.size+4:=by have:=hv.out;omega
 rw [R] at T I j;clear R;rw [<- T] at j;refine Wg rfl (by have:=Z.o;omega) (gf:=151) (lb:=#[Z6 (ZW ⟨a.heap.size,0,ZX⟩)]) rfl trivial (Ve func151 (by kernel_rfl) rfl)
  (nr (n-1) a.heap.size S hS V (by omega) I.out (by have:=d.room;omega) (d.tab.mono (by exact d.tab.lt) j.out.2)) (λh k=>qZ h k) (rh (by have:=d.room;omega)) (TW _ _) (λ_=>rfl)
  (Hv w v p b 223 (.iface ty f) (λ_=>r) A F V.heap.size S) (λ_ _ _=>False) (Hv.own (by omega) K) (λ_ _ _ _ _ h _ _=>h.elim) j.out.1
  (λx=>{ tmps:=#[Z6 (ZW ⟨v,0,ZX⟩),Z7 Z9 (b:Int),.iface ty f,Z7 Z8 (S:Int),Z6 (ZW ⟨w.heap.size,0,ZX⟩),Z6 (ZW ⟨w.heap.size+1,0,ZX⟩),Z6 (ZW ⟨w.heap.size+1+1,0,ZX⟩),ZY,Z6 (ZW ⟨w.heap.size+1+1+1,0,ZX⟩),Z7 Z9 (x.1:Int),Z7 Z8 (S:Int),.func (.func 151) #[] #[Z6 (ZW ⟨a.heap.size,0,ZX⟩)],Z7 Z9 (x.1:Int),ZY,ZY,ZY,ZY,ZY,ZY,ZY,ZY,ZY,ZY],defers:=[] }) ?assign ?body ?done ?stop
 case assign=>
  intro l2 x X Kk hK;unfold xG;gi_wp2;exact hK
 case body=>
  rintro l2 pre x X c ha;have k5:x.1∈ab S:=cW.2 x.2;have l:=d.turn c.out c.arr rfl;have s:=og l.vol l.arr x.1 b (hy _ k5) hb r hr l.laid;rw [HR.o] at s;have c0:=c.b0.cell;have c1:=c.b1.cell;have c2:=c.b2.cell;have g:=ak c;clear c ha l;gi_wp2;refine eR s ?_;clear s c0 c1 c2;rintro e w2 ⟨y,rfl,rfl,t,M⟩;rw [sX A (iF pre) x.1 b (λ_=>r)] at t;have W:=ak (g.o.next (Y:=w2) d (by omega) t M);clear t M;gi_wp2;obtain ⟨U,q2,q3⟩:=W.o;exact ⟨⟨U.1,λk o z ho _=>U.2 k o z ho⟩,λ_=>q2,q3⟩
 case done=>
  rintro D' xs X J k6 c hK;have c3:=c.b3.cell;have f3:=c.b3.frozen;have g:=al c hK;clear c hK;gi_wp2;exact g.o.1.done k6 K results120 rfl rfl g.o.2 J (by omega)
 case stop=>
  rintro D' cc pre X J hz hx hK;exact hx.elim
def Nq (w:ZT) (base g:Nat) (R:List a8):Prop:=base<=g/\g<w.heap.size/\∀ i (hi:i<R.length),∃ b off c,w.cell? ⟨g,i,ZX⟩=ZW (Z5 (ZW ⟨b,off,ZX⟩) 44 c)/\base<=b/\b<w.heap.size/\w.rangeAt b off (aH R[i])/\R[i].length=44/\∀ x∈R[i],x<256
def Nq.keep {R:List a8} (h:Nq w base g R) (f:w.heap.size<=w'.heap.size) (e:∀ k,base<=k->k<w.heap.size->w'.heap[k]?=w.heap[k]?):Nq w' base g R:=by
 obtain ⟨a,d,n⟩:=h;refine ⟨a,TZ d f,λi o=>?_⟩;obtain ⟨b,off,c,q,l,m,r,s⟩:=n i o;exact ⟨b,off,c,(Uk (e g a d)).trans q,l,TZ m f,λj v p=>(Uk (e b l m)).trans (r j v p),s⟩
theorem kZ {v:Nat} {A:aF} (l:pH w v p D L G ps ho A F) (b S:Nat) (hb:b<A.nb) (f:S<65536) (kj:∀ i,i∈ab S->i<A.n)
 {g m c base:Nat} {R:List a8} (hR:Nq w base g R) (Z:∀ i,i∈ab S->i<R.length) (hm:R.length<=m) (Q:∀ k,F.S k->k<base) :
 ZQ ZI 88 #[Z6 (ZW ⟨v,0,ZX⟩),Z7 Z9 b,Z5 (ZW ⟨g,0,ZX⟩) m c,Z7 Z8 S] w λe w'=>e=Z3 (Z7 Z8 (0:Nat))/\aA w' p (A.putAt (ab S) b (λi=>.shard (R.getD i []))) F/\aa (F.S) w w':=by
 obtain ⟨n,HN⟩:∃ n:Nat,cA (9<=n):=⟨9,TV _⟩;have k9:∀ k,F.S k->k<w.heap.size:=λk O=>l.arr.RO O;have hn:∀ i,i∈ab S->(bw.shard (R.getD i [])).ok:=λi a=>by
  have kf:=Z i a;obtain ⟨_,_,_,_,_,_,_,s,t⟩:=hR.2.2 i kf;have e:R.getD i []=R[i]:=by simp [kf]
  rw [e];exact ⟨s,t⟩
 refine (Vc (n:=n)).1 ?_;refine Wf func88 rfl trivial ?_ rfl;simp only [ntmps88,UH,UD,UW,YL,YM,Vj,Vk,Vl,Vm,Uo,UU];gi_wp2;obtain ⟨d,kg,⟨h0,J,E,h3⟩,k5,ka⟩:=tA w 128 3 85 138 (Z6 (ZW ⟨v,0,ZX⟩)) (Z7 Z9 (b:Int)) (Z5 (ZW ⟨g,0,ZX⟩) m c) (Z7 Z8 0);rw [kg];clear kg;refine cj (dI S d) ?_;rintro e w' ⟨rfl,rfl⟩;have k6:(d.alloc (Z4 #[Z7 Z8 (S:Int)] 138)).heap.size=d.heap.size+1:=by simp
 have hr:(d.alloc (Z4 #[Z7 Z8 (S:Int)] 138)).cell? ⟨d.heap.size,0,ZX⟩=ZW (Z7 Z8 (S:Int)):=(Ut d 138 (Z7 Z8 (S:Int))).cell;have M:bW w (d.alloc (Z4 #[Z7 Z8 (S:Int)] 138)):=ka.alloc (by omega) _;have ke:Hv w v p b 85 (Z5 (ZW ⟨g,0,ZX⟩) m c) (λi=>.shard (R.getD i [])) A F (d.heap.size+1) S [] (d.alloc (Z4 #[Z7 Z8 (S:Int)] 138)):=
  ⟨h0.alloc _,J.alloc _,E.alloc _,h3.alloc _,by rw [show iF ([]:List (Mb S))=[] from rfl,wR];exact l.arr.below M lR,aa.RN M _,by omega⟩
 obtain ⟨w6,kh⟩:=nM (d.alloc (Z4 #[Z7 Z8 (S:Int)] 138));have k7:=ak hr;have K:=al ke M;have ki:=ak k5;clear hr ke h0 J E h3 ka M k5;gi_wp2;obtain ⟨k5,ks⟩:w.heap.size+4<=d.heap.size/\d.heap.size<=w.heap.size+4:=by have:=ki.out;omega
 rw [kh] at k6 k7 K;clear kh;rw [<- k6] at K;refine Wg rfl (by have:=HN.o;omega) (gf:=151) (lb:=#[Z6 (ZW ⟨d.heap.size,0,ZX⟩)]) rfl trivial (Ve func151 (by kernel_rfl) rfl)
  (nr (n-1) d.heap.size S f w6 (by omega) k7.out (by have:=l.room;omega) (l.tab.mono (by exact l.tab.lt) K.out.2)) (λh k=>qZ h k) (rh (by have:=l.room;omega)) (TW _ _) (λ_=>rfl)
  (Hv w v p b 85 (Z5 (ZW ⟨g,0,ZX⟩) m c) (λi=>.shard (R.getD i [])) A F w6.heap.size S) (λ_ _ _=>False) (Hv.own (by omega) k9) (λ_ _ _ _ _ h _ _=>h.elim) K.out.1
  (λx=>{ tmps:=#[Z6 (ZW ⟨v,0,ZX⟩),Z7 Z9 (b:Int),Z5 (ZW ⟨g,0,ZX⟩) m c,Z7 Z8 (S:Int),Z6 (ZW ⟨w.heap.size,0,ZX⟩),Z6 (ZW ⟨w.heap.size+1,0,ZX⟩),Z6 (ZW ⟨w.heap.size+1+1,0,ZX⟩),ZY,Z6 (ZW ⟨w.heap.size+1+1+1,0,ZX⟩),Z7 Z9 (x.1:Int),Z7 Z8 (S:Int),.func (.func 151) #[] #[Z6 (ZW ⟨d.heap.size,0,ZX⟩)],Z7 Z9 (x.1:Int),ZY,ZY,ZY,ZY,ZY,ZY,ZY,ZY,ZY,ZY,ZY,ZY,ZY,ZY,ZY,ZY,ZY],defers:=[] }) ?assign ?body ?done ?stop
 case assign=>
  intro l2 x X Kk hK;unfold xG;gi_wp2;exact hK
 case body=>
  rintro l2 pre x X a hs;have N:x.1∈ab S:=cW.2 x.2;have H:=l.turn a.out a.arr rfl;have r:Nq X base g R:=hR.keep a.out.size (λk O km=>a.out.block k km (λq=>by have:=Q k q;omega));have I:=aE a H r;clear hs a H r;gi_wp2;obtain ⟨a,H,r⟩:=I.o;obtain ⟨bl,off,rc,kc,kv,kk,hp,hq,hr⟩:=r.2.2 x.1 (Z _ N);have kp:=Z _ N;obtain ⟨sh,k0⟩:=nM (R[x.1]);have W:R.getD x.1 []=sh:=by rw [<- k0];simp [kp]
  rw [k0] at hp hq;have kx:(x.1:Int)<(m:Int):=by omega
  have hy:(aH sh).toArray.size=44:=by rw [UH,aX,hq]
  have hv:∀ w',aa F.S X w'->w'.cell? ⟨g,x.1,ZX⟩=ZW (Z5 (ZW ⟨bl,off,ZX⟩) 44 rc)/\w'.rangeAt bl off (aH sh):=λw' hO=>⟨(Uk (hO.block g r.2.1 λq=>by have:=Q _ q;have:=r.1;omega)).trans kc,λj u hu=>(Uk (hO.block bl kk λq=>by have:=Q _ q;omega)).trans (hp j u hu)⟩;have T:=λw' (J:aA w' p (A.putAt (iF pre) b (λi=>.shard (R.getD i []))) F) (E:pH w' v p D L G ps ho (A.putAt (iF pre) b (λi=>.shard (R.getD i []))) F)=>og E.vol J x.1 b (kj _ N) hb _ (hn _ N) E.laid;rw [W] at T;obtain ⟨k1,k2⟩:=hv X (aa.refl _ _);refine dH (iZ _) 99 [(0,ZV),(1,ZV),(2,ZV),(3,ZV),(4,ZV),(5,ZV),(6,ZV),(7,ZV),(8,ZV),(9,ZV),(10,ZV),(11,ZU),(12,ZV)] (λw'=>w'.cell? ⟨w.heap.size,0,ZX⟩=ZW (Z6 (ZW ⟨v,0,ZX⟩))/\w'.cell? ⟨w.heap.size+1,0,ZX⟩=ZW (Z7 Z9 b)/\w'.cell? ⟨w.heap.size+1+1,0,ZX⟩=ZW (Z5 (ZW ⟨g,0,ZX⟩) m c)/\w'.cell? ⟨g,x.1,ZX⟩=ZW (Z5 (ZW ⟨bl,off,ZX⟩) 44 rc)/\w'.rangeAt bl off (aH sh)) (by kernel_rfl) (by kernel_rfl) ⟨a.b0.cell,a.b1.cell,a.b2.cell,k1,k2⟩ ?_;iterate 8 (refine a9 rfl rfl ?_;apply YI;refine ⟨λw' f=>?_,?_⟩;(obtain ⟨s1,s2,s3,s4,s5⟩:=f;first|(go_simp;done)|(go_simp;exact rfl));simp only [Act.put,Ue,Uc,Uf])
  refine a9 rfl rfl ⟨_,λw' f=>by simp [execOp,Act.eval,run_loadAt_mid (P:=ZI) w' bl off 219 (aH sh) _ f.2.2.2.2 abU rfl (by rw [aX,hq];kernel_rfl)];rfl,?_⟩;have kb:∀ z:Array ZS,z.size=44->YJ (λcs x=>cs.setIfInBounds x.snd x.fst) z (aH sh).toArray.zipIdx 0 44=(aH sh).toArray:=λz hz=>wZ z _ 44 hz hy;have h8:∀ w',aA w' p (A.putAt (iF pre) b (λi=>.shard (R.getD i []))) F->pH w' v p D L G ps ho (A.putAt (iF pre) b (λi=>.shard (R.getD i []))) F->ZQ ZI 128 #[Z6 (ZW ⟨v,0,ZX⟩),Z7 Z9 (x.1:Nat),Z7 Z9 (b:Nat),.iface 221 (.agg (aH sh).toArray)] w' _:=T;have C:=al h8 H;obtain ⟨sa,h9⟩:=nM ((aH sh).toArray);rw [h9] at hy kb C ⊢;clear T h8;iterate 2 (refine a9 rfl rfl ?_;apply YI;refine ⟨λw' f=>?_,?_⟩;(obtain ⟨s1,s2,s3,s4,s5⟩:=f;first|(go_simp;done)|(go_simp;exact rfl));simp only [Act.put,Ue,Uc,Uf])
  refine gB (iZ _) (C.o.1 X.drew (C.o.2.arr.keep λ_ _=>rfl) (C.o.2.below ((TW _ X).drew) lR)) rfl rfl nofun (by go_simp) ?_;rintro e w2 ⟨y,rfl,rfl,U,V⟩;rw [<- W,sX A (iF pre) x.1 b (λi=>.shard (R.getD i []))] at U;obtain ⟨s,t⟩:=hv w2 ((aa.drew X).trans V);have H2:=ak (a.next (Y:=w2) l (by omega) U ((aa.drew X).trans V));have B:=H2.o.2.2;refine ⟨_,rfl,λ_=>⟨B.b0.cell,B.b1.cell,B.b2.cell,s,t⟩,?_⟩;simp only [Act.put,Ue,Uc,Uf];refine a9 rfl rfl ?_;apply YI;refine ⟨λw' f=>?_,?_⟩;(obtain ⟨s1,s2,s3,s4,s5⟩:=f;first|(go_simp;done)|(go_simp;exact rfl));simp only [Act.put,Ue,Uc,Uf];rename_i hK
  refine hK _ _ ?_;clear hK U V a H r kc hp hv k1 k2 s t B C kb hy h9 k6 W k0;gi_wp2;obtain ⟨s,t,B⟩:=H2.o;exact ⟨⟨s.1,λk o O ho _=>s.2 k o O ho⟩,λ_=>t,B⟩
 case done=>
  rintro D' xs X k8 kr a hK;have c3:=a.b3.cell;have f3:=a.b3.frozen;have I:=al a hK;clear a hK;gi_wp2;exact I.o.1.done kr k9 results88 rfl rfl I.o.2 k8 (by omega)
 case stop=>
  rintro D' cc pre X k8 ko hx hK;exact hx.elim
end
def rP (c j:Nat):Nat:=if j<16 then gm c j else gm c ((j-16)*16)
def tv (f:Nat->Nat) (j:Nat):ZS:=Z7 .u8 ((f j:Nat):Int)
def Qh {x y:Int} (a b:Nat) (f:x=(a:Int)) (g:y=(b:Int)) (c:a<256) (d:b<256) (w:ZT) :
 ZQ ZI 185 #[Z7 .u8 x,Z7 .u8 y] w λe w'=>e=Z3 (Z7 .u8 ((gm a b:Nat):Int))/\w'=w:=by
 subst f g;exact mh a b c d w
def fM (c n j:Nat):Nat:=if j<n then gm c j else 0
def Nr (q:Nat):Prop:=q=1\/q=2\/q=4\/q=8\/q=16
def aaZ (w:ZT) (B c:Nat) (i d:ZS) (wr:ZT):Prop:=
 ∃ q:Nat,Nr q/\i=Z7 Z9 q/\d=Z7 .u8 ((gm c q:Nat):Int)/\wr.rowIs (B+1) 249 16 (tv (fM c q))/\wr.rowIs B 249 16 (λ_=>Z7 .u8 0)/\ZR B w wr
def Pn (w:ZT) (B c q:Nat) (i:ZS) (wr:ZT):Prop:=
 ∃ k:Nat,k<=q/\i=Z7 Z9 k/\wr.rowIs (B+1) 249 16 (tv (fM c (q+k)))/\wr.rowIs B 249 16 (λ_=>Z7 .u8 0)/\ZR B w wr
def KF (w:ZT):(w.alloc (Z4 (YG 16 (Z7 .u8 0)) 249)).rowIs w.heap.size 249 16 (λ_=>Z7 .u8 0):=by
 have h:=abX w (YG 16 (Z7 .u8 0)) 249 (λ_=>Z7 .u8 0) (λi a=>by simp at a;simp [a]);simpa using h
def Qi (w:ZT):(w.alloc (Z4 (YG 32 (Z7 .u8 0)) 320)).rowIs w.heap.size 320 32 (λ_=>Z7 .u8 0):=by
 have h:=abX w (YG 32 (Z7 .u8 0)) 320 (λ_=>Z7 .u8 0) (λi a=>by simp at a;simp [a]);simpa using h
def KG:∀ i,i<1->i^^^1=1+i:=by decide
def KH:∀ i,i<2->i^^^2=2+i:=by decide
def KI:∀ i,i<4->i^^^4=4+i:=by decide
def KJ:∀ i,i<8->i^^^8=8+i:=by decide
def NM (a:Nr q) (b:q<16) (h:i<q):i^^^q=q+i:=by
 rcases a with rfl|rfl|rfl|rfl|rfl
 . exact KG i h
 . exact KH i h
 . exact KI i h
 . exact KJ i h
 . omega
def Qj:∀ c,c<256->tx (gm c 1)=gm c 2:=by decide +kernel
def Qk:∀ c,c<256->tx (gm c 2)=gm c 4:=by decide +kernel
def Ql:∀ c,c<256->tx (gm c 4)=gm c 8:=by decide +kernel
def Qm:∀ c,c<256->tx (gm c 8)=gm c 16:=by decide +kernel
def aap (b:Nr q) (d:q<16) (a:c<256):tx (gm c q)=gm c (q*2):=by
 rcases b with rfl|rfl|rfl|rfl|rfl
 . exact Qj c a
 . exact Qk c a
 . exact Ql c a
 . exact Qm c a
 . omega
def KK (b:Nr q) (a:q<16):Nr (q*2):=by unfold Nr at *;omega
def Eg (f:Nr q) (d:q<16) (e:k<q) (j:Nat):tv (fM c (q+(k+1))) j=if j=q+k then Z7 .u8 ((fM c (q+k) k^^^gm c q:Nat):Int) else tv (fM c (q+k)) j:=by
 unfold tv fM;by_cases a:j=q+k
 . rw [TT a,TT (by omega),TT (by omega),<- fw,NM f d e,a]
 . rw [TS a];by_cases b:j<q+k
   . rw [TT b,TT (by omega)]
   . rw [TS b,TS (by omega)]
def pI {f:Nat->Nat} (b:cs.size=n) (h:∀ j,j<n->cs[j]?=ZW (tv f j)):cs.all (λv=>v.oneCell')=ZV:=by
 rw [X9];intro i a;have:=h i (by omega);rw [VM a] at this;simp at this;rw [this];rfl
def Hw {x:Int} (a:Nat) (b:x=(a:Int)) (h:a<256) (w:ZT):ZQ ZI 200 #[Z7 .u8 x] w λe w'=>e=Z3 (Z7 .u8 (tx a:Int))/\w'=w:=by
 subst b;exact nj a h w
theorem KL (c n j:Nat) (a:c<256):fM c n j<256:=by
 unfold fM;split
 . exact bx _ a
 . decide
def Tryz.Sr:(ZI.info? 249).map (λi=>i.size)=ZW 16:=by kernel_rfl
theorem mT (c:Nat) (m:c<256) (w:ZT) :
 ZQ ZI 210 #[Z7 .u8 c] w λe w'=>∃ cs:Array ZS,e=Z3 (.agg cs)/\cs.size=16/\(∀ j,j<16->cs[j]?=ZW (tv (fM c 16) j))/\bW w w':=by
 go_enter func210,ntmps210;go_wp2;go_loopw [4,0] (λi d wr=>aaZ w w.heap.size c i d wr) (λi _ _=>16-(intOf i).toNat)
 case atStart=>
  refine ⟨1,.inl rfl,rfl,by rw [eA c m],?_,?_,?_⟩
  . have h:=KF (w.alloc (Z4 (YG 16 (Z7 .u8 0)) 249));try change ZR _ _ _ at h
    rw [Uh] at h;refine h.congr λj R=>?_;unfold tv fM;by_cases e:j<1
    . rw [TT e,show j=0 by omega,bG];rfl
    . rw [TS e];rfl
  . exact (KF w).alloc _
  . exact (bA _ _).alloc (by rw [Uh];omega) _
 case round=>
  obtain ⟨q,n,rfl,rfl,b,f,g⟩:=hrel;have A:q<=16:=by unfold Nr at n;omega
  have F:gm c q<256:=bx _ m;by_cases x:q<16
  . have X:q<=8:=(by unfold Nr at n;omega);have l:=ak n;have J:=ak (show Pn w w.heap.size c q (Z7 Z9 (0:Nat)) wr from ⟨0,T5 _,rfl,b,f,g⟩);clear b f g n;have Y:(q:Int)<16:=(by omega);rename ZT=>wo;go_wp2;go_loopw [11] (λi wr=>Pn w w.heap.size c q i wr) (λi _=>q-(intOf i).toNat)
    case atStart=>exact J.o
    case round=>
     obtain ⟨k,W,rfl,b,f,g⟩:=hrel;by_cases S:k<q
     . have c1:=b.cell (i:=k) (by omega);have M:=b.cell (i:=q+k) (by omega);have U:=b.frozen (q+k);have T:=KL c (q+k) k m;have hy:=lx _ _ T F;have B:=(b.set (q+k) (Z7 .u8 ((fM c (q+k) k^^^gm c q:Nat):Int))).congr (λj R=>(Eg l.o x S j).symm);have C:=f.setOther (a:=⟨w.heap.size+1,q+k,ZX⟩) (by simp) (Z7 .u8 ((fM c (q+k) k^^^gm c q:Nat):Int));have D:=g.setCell (p:=⟨w.heap.size+1,q+k,ZX⟩) (by simp) (Z7 .u8 ((fM c (q+k) k^^^gm c q:Nat):Int));have r:=aE B C D;clear B C D b f g;unfold tv at c1 M;have O:(k:Int)<q:=(by omega);have V:(k:Int)<16:=(by omega);have Z:(q:Int)+(k:Int)<16:=(by omega);have hx:IntKind.i64.wrap ((q:Int)+(k:Int))=((q+k:Nat):Int):=(by rw [UB];omega);have hv:wrap64 ((q:Int)+(k:Int))=((q+k:Nat):Int):=(by unfold wrap64;omega);go_wp2;go_roundw
       case rel=>exact ⟨k+1,by omega,by go_num,r.o.1,r.o.2.1,r.o.2.2⟩
       case measure=>simp [intOf];omega
     . have P:k=q:=(by omega);have t:=aE b f g;clear b f g;have O:¬ ((k:Int)<q):=(by omega);go_wp2_with fail;refine (Hw (gm c q) rfl F _).mono ?_;rintro e w' ⟨rfl,rfl⟩;go_wp2;go_roundw
       case rel=>exact ⟨q*2,KK l.o x,by go_num,by rw [aap l.o x m],by have:=t.o.1;rwa [P,show q+q=q*2 by omega] at this,t.o.2.1,t.o.2.2⟩
       case measure=>have Q:=l.o;unfold Nr at Q;simp only [intOf];omega
  . have A:q=16:=(by omega);subst A;obtain ⟨cs,E,y,u⟩:=b;obtain ⟨I,G,hz,_⟩:=f;have N:=pI y u;have L:=ak u;have H:(ZI.info? 249).map (λi=>i.size)=ZW cs.size:=(by rw [Tryz.Sr,y]);have s:=ak H;have K:=ak E;have z:=ak G;clear u H E G;go_wp2_with (first
     | refine abl rfl 249 (Z0 3) rfl (w.heap.size+1) rfl 249 cs (0,0) _ K.o Ya rfl s.o ?_
     | refine Wv rfl 249 (Z0 2) (Z0 26) rfl w.heap.size cs rfl rfl 249 I z.o s.o (by omega) N ?_)
    exact Ur (v:=.agg cs) (V4 results210 _ _ w.heap.size 249 cs (0,0) _ rfl (Vv _ _ I cs _ _ z.o) Ya rfl s.o) rfl ⟨cs,rfl,y,L.o,below_setRow g lR cs⟩
def Tryz.Ss:(ZI.info? 320).map (λi=>i.size)=ZW 32:=by kernel_rfl
theorem Hx (c j:Nat) (a:c<256) (b:j<32):(if j<16 then fM c 16 j else fM (gm c 16) 16 (j-16))=rP c j:=by
 unfold fM rP;by_cases h:j<16
 . rw [TT h,TT h,TT h]
 . rw [TS h,TS h,TT (by omega),fy a (by decide) (by omega)];congr 1;have:∀ x,x<16->gm 16 x=x*16:=by decide +kernel
   exact this _ (by omega)
def ri (c:Nat):Array ZS:=((YE 32).map (λj=>Value.int .u8 ((if j<16 then fM c 16 j else fM (gm c 16) 16 (j-16):Nat):Int))).toArray
def ku (c:Nat):(ri c).size=32:=by unfold ri;rw [UH,T9,UK]
def xI (c j:Nat) (b:c<256) (a:j<32):(ri c)[j]?=ZW (tv (rP c) j):=by
 unfold ri tv;simp only [Xm,UA,VP a,WO,Hx c j b a]
def Eh (c:Nat):(ZI.info? 320).map (λi=>i.size)=ZW (ri c).size:=by rw [ku,Tryz.Ss]
def Br {f:Nat->Nat} (b:cs.size=16) (h:∀ j,j<16->cs[j]?=ZW (tv f j)) :
 cs=#[tv f 0,tv f 1,tv f 2,tv f 3,tv f 4,tv f 5,tv f 6,tv f 7,tv f 8,tv f 9,tv f 10,tv f 11,tv f 12,tv f 13,tv f 14,tv f 15]:=by
 have e:cs=((YE 16).map (tv f)).toArray:=by
  refine XZ (by simp [b]) λi a c=>?_;have:=h i (by omega);rw [VM a] at this;simp at this ⊢;exact this
 exact e
theorem lE (c:Nat) (b:c<256) (w:ZT) :
 ZQ ZI 197 #[Z7 .u8 c] w λe w'=>∃ cs:Array ZS,e=Z3 (.agg cs)/\cs.size=32/\(∀ j,j<32->cs[j]?=ZW (tv (rP c) j))/\bW w w':=by
 have C:=Qi w;have E:gm c 16<256:=bx _ b;go_enter func197,ntmps197;go_wp2_with fail;refine (mT c b _).mono ?_;rintro e w1 ⟨A,rfl,s,q,a⟩;obtain rfl:=Br s q;clear s q;simp only [tv];go_wp2_with fail;refine (Qh c 16 rfl rfl b (by decide) _).mono ?_;rintro e w' ⟨rfl,rfl⟩;go_wp2_with fail;refine (mT (gm c 16) E _).mono ?_;rintro e w2 ⟨B,rfl,t,r,g⟩;obtain rfl:=Br t r;clear t r;simp only [tv];obtain ⟨d,x,D,_⟩:=C;have u:w2.heap[w.heap.size]?=ZW (Z4 d 320 (0,0)):=(g.block _ (by have:=a.size;rw [Uh] at this;omega)).trans ((a.block _ (by rw [Uh];omega)).trans x);have n:=ak u;have y:cA (bW w w2):=ak (((bA w _).trans (a.mono (by rw [Uh];omega))).trans (g.mono (by have:=a.size;rw [Uh] at this;omega)));clear a g x u;have f:=ak (Eh c);have m:cA (d.size=(ri c).size):=ak (by rw [D,ku]);have k:=ak (pI (ku c) (λj i=>xI c j b i));have l:cA (∀ j,j<32->(ri c)[j]?=ZW (tv (rP c) j)):=ak (λj i=>xI c j b i);have p:=ak (ku c);obtain ⟨cs,h⟩:=nM (ri c);rw [h] at f m k l p;have z:=ak h;clear h;go_wp2_with (refine Wv rfl 320 (Z0 2) (Z0 8) rfl w.heap.size cs rfl (by rw [<- z.o];rfl) 320 d n.o f.o m.o k.o ?_);refine Ur (v:=.agg cs) (V4 results197 _ _ w.heap.size 320 cs (0,0) _ rfl (Vv _ _ d cs _ _ n.o) underlying320 rfl f.o) rfl ?_;exact ⟨cs,rfl,p.out,l.o,below_setRow y.o lR _⟩
def mv (w:ZT) (t c:Nat):Prop:=∀ j,j<32->w.cell? ⟨t,j,ZX⟩=ZW (tv (rP c) j)
def NO:∀ b,b<256->b=(b%16)^^^(b/16*16):=by decide +kernel
def KM (c b:Nat) (a:b<256):rP c (b%16)^^^rP c (16+b/16)=gm c b:=by
 unfold rP;rw [TT (by omega),TS (by omega),WN,<- fw,<- NO b a]
theorem F8 (c j:Nat) (a:c<256):rP c j<256:=by
 unfold rP;split<;>exact bx _ a
def aaq (b:Nat) (a:b<256):bits .and .u8 (b:Int) 15=((b%16:Nat):Int):=by
 rw [u8_and15 _ (by omega) (by omega)];rfl
theorem xJ (t c b:Nat) (g:c<256) (f:b<256) (w:ZT) (a:mv w t c) :
 ZQ ZI 198 #[Z6 (ZW ⟨t,0,ZX⟩),Z7 .u8 b] w λe w'=>e=Z3 (Z7 .u8 ((gm c b:Nat):Int))/\∃ m,w'=w.drewN m:=by
 have c1:=a (b%16) (by omega);have h:=a (16+b/16) (by omega);have j:=F8 c (b%16) g;have k:=F8 c (16+b/16) g;have d:=KM c b f;have l:=aaq b f;have i:=lx _ _ j k;unfold tv at c1 h;rw [d] at i;clear a d;go_enter func198,ntmps198;go_wp2;go_quiet (fail);go_wp2;go_ret;exact ⟨rfl,_,rfl⟩
def gS (g F:Nat->Nat) (c off k j:Nat):Nat:=if off<=j/\j<off+k then g j^^^gm c (F (j-off)) else g j
def AdR (w:ZT) (b t N off k c tb fb foff:Nat) (g F:Nat->Nat) (i:ZS) (wr:ZT):Prop:=
 ∃ j:Nat,j<=k/\i=Z7 Z9 j/\wr.rowIs b t N (tv (gS g F c off j))/\mv wr tb c/\(∀ i,i<k->wr.cell? ⟨fb,foff+i,ZX⟩=ZW (Z7 .u8 ((F i:Nat):Int)))/\w.grownBy wr (ZW b)
def Ei (g F:Nat->Nat) (c off j x:Nat):tv (gS g F c off (j+1)) x=if x=off+j then Z7 .u8 ((g (off+j)^^^gm c (F j):Nat):Int) else tv (gS g F c off j) x:=by
 unfold tv gS;by_cases h:x=off+j
 . subst h;rw [TT rfl,TT (by omega),WN]
 . rw [TS h];by_cases a:off<=x/\x<off+j
   . rw [TT a,TT (by omega)]
   . rw [TS a,TS (by omega)]
theorem Ej (g F:Nat->Nat) (c off:Nat):gS g F c off 0=g:=by
 funext j;unfold gS;rw [TS (by omega)]
theorem Ek (g F:Nat->Nat) (off k:Nat):gS g F 0 off k=g:=by
 funext j;unfold gS;rw [bK,U4];split<;>rfl
def rj {t:Nat} (h:mv w t c) {a:ZP} (b:t≠a.block) (v:ZS):mv (w.setCell a v) t c:=λj d=>by
 rw [<- h j d];exact Uk (Ud _ _ _ _ b)
def nt (w:ZT) {ops:Array ZN} {rest:List ZN} {o:ZN} {a:ZM} {Q:Exit->ZM->ZT->Prop} (h:o.guard=ZX) (x y:ZJ) (ho:o.op=.store 320 x y)
 (g c:Nat) (cs old:Array ZS) (m:a.eval x=Z6 (ZW ⟨g,0,ZX⟩)) (n:a.eval y=.agg cs) (f:w.heap[g]?=ZW (Z4 old 320 (0,0))) (hold:old.size=32) (d:cs.size=32) (b:∀ j,j<32->cs[j]?=ZW (tv (rP c) j))
 (hK:∀ w2,mv w2 g c->w.grownBy w2 (ZW g)->wpList ZI ops Q rest (a.put o.dst ZY) w2):wpList ZI ops Q (o::rest) a w:=by
 refine Wv h 320 x y ho g cs m n 320 old f (by rw [Tryz.Ss,d]) (by omega) (pI d b) (hK _ ?_ ?_)
 . intro j l;rw [cell_of_row _ g j cs 320 (0,0) (Vv w g old cs _ _ f)];exact b j l
 . refine ⟨rfl,rfl,rfl,by simp,λk p i=>?_⟩;have:g≠k:=λe=>i (by rw [e]);simp [World.setRow,VL,this]
theorem jm (b t N off n cap l d r c:Nat) (g F:Nat->Nat) (w:ZT) (C:c<256) (A:w.rowIs b t N (tv g)) (O:∀ j,g j<256) (J:∀ j,F j<256) (hn:off+n<=N) (k5:n<=140737488355328)
 (T:∀ i,i<n->w.cell? ⟨l,d+i,ZX⟩=ZW (Z7 .u8 ((F i:Nat):Int))) (k6:l≠b\/d+n<=off\/off+n<=d) :
 ZQ ZI 176 #[Z5 (ZW ⟨b,off,ZX⟩) n cap,Z5 (ZW ⟨l,d,ZX⟩) n r,Z7 .u8 c] w λe w'=>e=Z3 (ZZ #[])/\w'.rowIs b t N (tv (gS g F c off n))/\w.grownBy w' (ZW b):=by
 by_cases H:c=0
 . subst H;go_enter func176,ntmps176;go_wp2;exact Ur (v:=ZZ #[]) (by simp [results,results176]) rfl ⟨rfl,by rw [Ek];exact A,Ws _ _⟩
 . have kc:((c:Int)==0)=ZU:=(by rw [beq_eq_false_iff_ne];omega);clear H;go_enter func176,ntmps176;go_wp2_with fail;refine (lE c C _).mono ?_;rintro e w1 ⟨cs,rfl,ka,I,p⟩;have k9:=p.size;go_wp2_with (refine nt _ rfl (Z0 6) (Z0 11) rfl w1.heap.size c cs _ rfl rfl (UE w1 _) rfl ka I ?_;intro w2 M q);have P:b<w.heap.size:=A.lt;have h:w.grownBy w2 ZX:=by
    refine ⟨q.os.trans p.os,q.tape.trans p.tape,q.output.trans p.output,?_,λk E _=>?_⟩
    . have:=q.size;rw [Uh] at this;omega
    . rw [q.block k (by rw [Uh];omega) (by intro e;simp at e;omega),UC _ _ _ (by omega),p.block k E]
   have V:w2.rowIs b t N (tv g):=A.of_block (h.block b P (by simp));have R:∀ i,i<n->w2.cell? ⟨l,d+i,ZX⟩=ZW (Z7 .u8 ((F i:Nat):Int)):=λi D=>by
    have:=T i D;exact h.cell this (by simp)
   have Y:w.grownBy w2 (ZW b):=⟨h.os,h.tape,h.output,h.size,λk E _=>h.block k E (by simp)⟩;have kb:w1.heap.size≠b:=(by omega);clear q h A T I p k9 P;go_loopw [17] (λi wr=>AdR w b t N off n c w1.heap.size l d g F i wr) (λi _=>n-(intOf i).toNat)
   case atStart=>exact ⟨0,T5 _,rfl,by rw [Ej];exact V,M,R,Y⟩
   case round=>
    clear M R Y V;obtain ⟨j,Q,rfl,s,u,z,B⟩:=hrel;by_cases k8:j<n
    . have c1:=s.cell (i:=off+j) (by omega);have f1:=s.frozen (off+j);have c2:=z j k8;have G:tv (gS g F c off j) (off+j)=Z7 .u8 ((g (off+j):Nat):Int):=(by unfold tv gS;rw [TS (by omega)]);rw [G] at c1;have W:=lx (g (off+j)) (gm c (F j)) (O _) (bx _ C);have X:=(s.set (off+j) (Z7 .u8 ((g (off+j)^^^gm c (F j):Nat):Int))).congr (λx _=>(Ei g F c off j x).symm);have L:=rj u (a:=⟨b,off+j,ZX⟩) kb (Z7 .u8 ((g (off+j)^^^gm c (F j):Nat):Int));have U:=eI B (off+j) (Z7 .u8 ((g (off+j)^^^gm c (F j):Nat):Int));have S:∀ i,i<n->(wr.setCell ⟨b,off+j,ZX⟩ (Z7 .u8 ((g (off+j)^^^gm c (F j):Nat):Int))).cell? ⟨l,d+i,ZX⟩=ZW (Z7 .u8 ((F i:Nat):Int)):=λi D=>by
       rw [<- z i D];by_cases k0:l=b
       . exact abO _ _ _ _ (by intro e;have h1:off+j=d+i:=Uy Addr.off e;omega)
       . exact Uk (Ud _ _ _ _ k0)
      have K:=J j;have f:=a5 X L S U;have Z:=ak u;generalize F j=y at c2 W K f;generalize g (off+j)=x at c1 W f;clear G X L U S s u z B O J;go_wp2;go_region_with ((go_at_call 198;refine (xJ w1.heap.size c y C K _ (by exact λj Q=>Z.o j Q)).mono ?_;rintro e w' ⟨rfl,m,rfl⟩));all_goals
       go_wp2;go_roundw
       case rel=>exact ⟨j+1,by omega,by go_num,f.o.1,f.o.2.1,f.o.2.2.1,⟨f.o.2.2.2.os,f.o.2.2.2.tape,f.o.2.2.2.output,f.o.2.2.2.size,f.o.2.2.2.block⟩⟩
       case measure=>simp [intOf];omega
    . have k7:j=n:=(by omega);subst k7;clear u z;go_wp2;go_end0
      exact ⟨rfl,s,B⟩
def Bt (D:List a8) (l:a8):Prop:=l.length=(D.getD 0 []).length/\l.length<=4096
def Fit (D:List a8):Prop:=∀ i (hi:i<D.length),Bt D D[i]
def EvR (D:List a8) (i:ZS):Prop:=∃ k:Nat,k<=D.length/\i=Z7 Z9 k/\∀ j (hj:j<D.length),j<k->Bt D D[j]
def Qn (D:List a8) (w:ZT) (e:ZO) (w':ZT):Prop:=∃ r:Bool,e=Z3 (Z1 r)/\(r=ZV↔Fit D)/\w'=w
theorem KN (x:ZS) (D:List a8) (w:ZT) (G:Rd w x D) (g:0<D.length) :
 ZQ ZI 186 #[x] w λe w'=>Qn D w e w':=by
 rcases G.cases with ⟨rfl,_⟩|⟨b,off,c,rfl,hl,l⟩
 . simp at g
 obtain ⟨u0,t,E⟩:=l 0 g;obtain ⟨B,c0,rfl,l1,I,_,_⟩:=E;have r:(D.getD 0 []).length=(D[0]).length:=by simp [g]
 have C:(D[0]).length<=140737488355328:=by omega
 rw [<- r] at t C;rw [VR] at t;have y:=ak l;clear l l1 I r;go_enter func186,ntmps186;go_wp2;go_loop [7] (λi=>EvR D i) (λi=>D.length-(intOf i).toNat)
 case atStart=>exact ⟨0,T5 _,rfl,λj m h=>absurd h (by omega)⟩
 case round=>
  obtain ⟨k,O,rfl,d⟩:=hrel;by_cases s:k<D.length
  . obtain ⟨u,P,F⟩:=y.o k s;obtain ⟨L,K,rfl,n,p,_,_⟩:=F;have N:(D[k]).length<=140737488355328:=(by omega);by_cases a:Bt D D[k]
    . have t1:((((D[k]).length:Nat):Int) != (((D.getD 0 []).length:Nat):Int))=ZU:=(by rw [a.1];simp);have J:¬ (4096:Int)<(((D[k]).length:Nat):Int):=(by have:=a.2;omega);have A:cA (∀ j (m:j<D.length),j<k+1->Bt D D[j]):=by
       intro j m M;by_cases e:j=k
       . subst e;exact a
       . exact d j m (by omega)
      generalize (D.getD 0 []).length=n0 at *;generalize (D[k]).length=v at *;clear d a n p;go_wp2;go_round
      case rel=>exact ⟨k+1,by omega,by go_num,A.o⟩
      case measure=>simp [intOf];omega
    . have q:cA (¬ Fit D):=λh=>a (h k s);by_cases f:(D[k]).length=(D.getD 0 []).length
      . have t1:((((D[k]).length:Nat):Int) != (((D.getD 0 []).length:Nat):Int))=ZU:=(by rw [f];simp);have J:(4096:Int)<(((D[k]).length:Nat):Int):=by
         have:¬ (D[k]).length<=4096:=λh=>a ⟨f,h⟩;omega
        generalize (D.getD 0 []).length=n0 at *;generalize (D[k]).length=v at *;clear d a f n p;go_wp2;go_ret;exact ⟨ZU,rfl,⟨λh=>by simp at h,λh=>absurd h q.o⟩,rfl⟩
      . have t1:((((D[k]).length:Nat):Int) != (((D.getD 0 []).length:Nat):Int))=ZV:=(by rw [bne_iff_ne];omega);generalize (D.getD 0 []).length=n0 at *;generalize (D[k]).length=v at *;clear d a f n p;go_wp2;go_ret;exact ⟨ZU,rfl,⟨λh=>by simp at h,λh=>absurd h q.o⟩,rfl⟩
  . have z:cA (Fit D):=λi H=>d i H (by omega);clear d;go_wp2;go_ret;exact ⟨ZV,rfl,⟨λ_=>z.o,λ_=>rfl⟩,rfl⟩
def dq (D i:Nat):a8:=(YF D 0).set i 1
theorem Bu (D L G i:Nat) (g:D<=12) (d:i<D) (w:ZT) :
 ZQ ZI 160 #[.agg #[Z7 Z9 D,Z7 Z9 L,Z7 Z9 G],Z7 Z9 i] w λe w'=>∃ b,e=Z3 (Z5 (ZW ⟨b,0,ZX⟩) D D)/\w.heap.size<=b/\aI w' b (dq D i)/\bW w w':=by
 go_enter func160,ntmps160;go_wp2_with (at_make;refine cQ _ rfl (Z0 7) (Z0 7) rfl D D rfl rfl rfl (by omega) ?_;intro w1 a c f;rw [Uh] at a c f;have h:=a.cell i (by simpa using d);have j:=a.frozen i);go_ret;refine ⟨w.heap.size+1,rfl,by omega,?_,?_⟩
 . exact a.set i 1
 . exact ((bA _ _).trans (c.mono (by omega))).setCell (by simp) _
def dy (D L g:Nat):a8:=(YE D).map λj=>if g*(D/L)<=j/\j<(g+1)*(D/L) then 1 else 0
def eY (D s k:Nat):a8:=(YE D).map λj=>if s<=j/\j<k then 1 else 0
theorem mV (D s:Nat):eY D s s=YF D 0:=by
 unfold eY;apply Vb
 . simp
 . intro i a b;simp
theorem ox (D s k:Nat) (d:s<=k):(eY D s k).set k 1=eY D s (k+1):=by
 unfold eY;apply Vb
 . simp
 . intro i b c;simp [Wj];by_cases e:k=i
   . subst e;simp;omega
   . simp only [TS e];by_cases a:s<=i/\i<k
     . rw [TT a,TT ⟨a.1,by omega⟩]
     . rw [TS a,TS (by omega)]
def Bv (a:D%L=0) (b:g<L):(g+1)*(D/L)<=D:=by
 have:(g+1)*(D/L)<=L*(D/L):=WX _ b;have:L*(D/L)=D:=Nat.mul_div_cancel' (Nat.dvd_of_mod_eq_zero a);omega
theorem zD (D L G g:Nat) (F:D<=12) (H:1<=L) (I:L<=4) (n:D%L=0) (z:g<L) (w:ZT) :
 ZQ ZI 161 #[.agg #[Z7 Z9 D,Z7 Z9 L,Z7 Z9 G],Z7 Z9 g] w λe w'=>∃ b,e=Z3 (Z5 (ZW ⟨b,0,ZX⟩) D D)/\w.heap.size<=b/\aI w' b (dy D L g)/\bW w w':=by
 have N:=Bv n z;have P:D/L<=D:=VU _ _;have f:dy D L g=eY D (g*(D/L)) ((g+1)*(D/L)):=rfl;have C:wrap64 ((D:Int)/(L:Int))=((D/L:Nat):Int):=by
  rw [<- X8];exact iB (by omega)
 generalize D/L=q at *;have u:g*q<=(g+1)*q:=WX _ (by omega);have m:wrap64 ((g:Int)*(q:Int))=((g*q:Nat):Int):=by
  rw [<- XL];unfold wrap64;omega
 have E:wrap64 (((g:Int)+1)*(q:Int))=(((g+1)*q:Nat):Int):=by
  have:((g:Int)+1)*(q:Int)=(((g+1)*q:Nat):Int):=by push_cast;rfl
  rw [this];unfold wrap64;omega
 generalize g*q=s at *;generalize (g+1)*q=t at *;have l:=ak f;clear f;go_enter func161,ntmps161;go_wp2_with (at_make;refine cQ _ rfl (Z0 9) (Z0 9) rfl D D rfl rfl rfl (by omega) ?_;intro w1 d a B;rw [Uh] at d a B;have A:=a.cell (p:=⟨w.heap.size,0,ZX⟩) (by simp);have y:=a.cell (p:=⟨w.heap.size,1,ZX⟩) (by simp));rw [<- mV D s] at d;go_loopw [7] (λi wr=>∃ k:Nat,s<=k/\k<=t/\i=Z7 Z9 k/\aI wr (w.heap.size+1) (eY D s k)/\bW w wr) (λi _=>t-(intOf i).toNat)
 case atStart=>exact ⟨s,TV _,u,by rw [m],d,(bA _ _).trans (a.mono (by omega))⟩
 case round=>
  obtain ⟨k,v,K,rfl,c,j⟩:=hrel;clear d a A y;by_cases O:k<t
  . have J:=c.cell k (by simp [eY];omega);have M:=c.frozen k;have h:=c.set k 1;rw [ox _ _ _ v] at h;have r:=j.setCell (p:=⟨w.heap.size+1,k,ZX⟩) (by simp) (Z7 .u8 1);go_wp2;go_roundw
    case rel=>exact ⟨k+1,by omega,by omega,by go_num,h,r⟩
    case measure=>simp [intOf];omega
  . have x:k=t:=(by omega);subst x;go_wp2;go_ret;exact ⟨w.heap.size+1,rfl,by omega,by rw [l.o];exact c,j⟩
def dj (D i:Nat):a8:=(YE D).map λj=>gi ((D+i)^^^j)
def eB (D i k:Nat):a8:=(YE D).map λj=>if j<k then gi ((D+i)^^^j) else 0
theorem lF (D i:Nat):eB D i 0=YF D 0:=by
 unfold eB;apply Vb
 . simp
 . intro j a b;simp
theorem oy (D i:Nat):eB D i D=dj D i:=by
 unfold eB dj;apply Vb
 . simp
 . intro j a b;simp at a;simp [a]
theorem mW (D i k:Nat):(eB D i k).set k (gi ((D+i)^^^k))=eB D i (k+1):=by
 unfold eB;apply Vb
 . simp
 . intro j b c;simp [Wj];by_cases e:k=j
   . subst e;simp
   . simp only [TS e];by_cases a:j<k
     . rw [TT a,TT (by omega)]
     . rw [TS a,TS (by omega)]
theorem By (D i j:Nat) (a:D<=12) (b:i<=4) (c:j<D):(D+i)^^^j<256/\bits .xor .i64 ((D:Int)+(i:Int)) (j:Int)=(((D+i)^^^j:Nat):Int):=by
 refine ⟨rJ (by omega) (by omega),?_⟩;have:=zo (D+i) j (by omega) (by omega);rw [<- this];congr 1
theorem vX (D L G i:Nat) (s:D<=12) (t:i<=4) (w:ZT) :
 ZQ ZI 162 #[.agg #[Z7 Z9 D,Z7 Z9 L,Z7 Z9 G],Z7 Z9 i] w λe w'=>∃ b,e=Z3 (Z5 (ZW ⟨b,0,ZX⟩) D D)/\w.heap.size<=b/\aI w' b (dj D i)/\bW w w':=by
 go_enter func162,ntmps162;go_wp2_with (at_make;refine cQ _ rfl (Z0 8) (Z0 8) rfl D D rfl rfl rfl (by omega) ?_;intro w1 c d u;rw [Uh] at c d u;have f:=d.cell (p:=⟨w.heap.size,0,ZX⟩) (by simp));rw [<- lF D i] at c;simp at f;go_loopw [12] (λj wr=>∃ k:Nat,k<=D/\j=Z7 Z9 k/\aI wr (w.heap.size+1) (eB D i k)/\wr.cell? ⟨w.heap.size,0,ZX⟩=ZW (Z7 Z9 D)/\bW w wr) (λj _=>D-(intOf j).toNat)
 case atStart=>exact ⟨0,T5 _,rfl,c,f,(bA _ _).trans (d.mono (by omega))⟩
 case round=>
  obtain ⟨k,B,rfl,a,q,h⟩:=hrel;clear c d f;by_cases n:k<D
  . have z:=a.cell k (by simp [eB];omega);have A:=a.frozen k;obtain ⟨r,v⟩:=By D i k s t n;have g:=a.set k (gi ((D+i)^^^k));rw [mW] at g;have l:=h.setCell (p:=⟨w.heap.size+1,k,ZX⟩) (by simp) (Z7 .u8 (gi ((D+i)^^^k)));have o:(wr.setCell ⟨w.heap.size+1,k,ZX⟩ (Z7 .u8 (gi ((D+i)^^^k)))).cell? ⟨w.heap.size,0,ZX⟩=ZW (Z7 Z9 D):=(by rw [<- q];exact Uk (Ud _ _ _ _ (by simp)));generalize (D+i)^^^k=x at *;have y:(x:Int)<256:=(by omega);go_wp2_with (go_at_call 184;refine (rZ x r _).mono ?_;rintro e w' ⟨rfl,rfl⟩);go_roundw
    case rel=>exact ⟨k+1,by omega,by go_num,g,o,l⟩
    case measure=>simp [intOf];omega
  . have m:k=D:=(by omega);subst m;rw [oy] at a;go_wp2;go_ret;exact ⟨w.heap.size+1,rfl,by omega,a,h⟩
def aR (D L G:Nat):List a8:=(YE D).map (dq D)++(YE L).map (dy D L)++(YE G).map (dj D)
def cO (T:List (Nat×Nat×a8)) (D:Nat) (M:List a8):Prop:=T.map (λp=>p.2)=M.map (λr=>(D,r))
def cO.push (h:cO T D M) (b:Nat) (r:a8):cO (T++[(b,D,r)]) D (M++[r]):=by
 unfold cO at *;simp [h]
def cO.length (h:cO T D M):T.length=M.length:=by
 have:=Uy List.length h;simpa using this
def Bz (D i:Nat):(dq D i).length=D/\∀ x∈dq D i,x<256:=by
 refine ⟨by simp [dq],λx a=>?_⟩;rcases Yb a with h|h
 . have:=VJ h;omega
 . omega
theorem xK (D L g:Nat):(dy D L g).length=D/\∀ x∈dy D L g,x<256:=by
 refine ⟨by simp [dy],λx a=>?_⟩;obtain ⟨j,_,rfl⟩:=T7.1 a;split<;>decide
def tB (D i:Nat) (c:D<=12) (d:i<=4):(dj D i).length=D/\∀ x∈dj D i,x<256:=by
 refine ⟨by simp [dj],λx b=>?_⟩;obtain ⟨j,a,rfl⟩:=T7.1 b;exact iu (rJ (by omega) (by have:=Uu.1 a;omega))
def ez.append {r:a8} {o:Obj} (h:ez w base v T) (g:bW w w1) (k:base<=w.heap.size) (l:w.heap.size<=b) (f:aI w1 b r) (a:r.length=D/\∀ x∈r,x<256) (m:D<=1000000)
 (i:(w1.alloc o).grownBy w2 v.ownBlock) (c:w2.ownsRow base 39 1 v' (T.length+1) (T.map fP++[Z5 (ZW ⟨b,0,ZX⟩) D D])):ez w2 base v' (T++[(b,D,r)]):=by
 have d:=(h.below g).alloc o;refine d.push i (p:=(b,D,r)) ?_ ⟨by show base<=b;omega,f.alloc o,by show D<=r.length;omega,⟨by show D<=140737488355328;omega,by show r.length<=9223372036854775807;omega⟩,a.2⟩ ?_
 . have e:fP (b,D,r)=Z5 (ZW ⟨b,0,ZX⟩) D D:=(by unfold fP;simp [a.1]);rw [e];exact c
 . intro q j;have:=(h.row q j).2.1.lt;show q.1≠b;omega
def cT {wx:ZT} {a b c:ZS} (h:ZR (w.heap.size+1) (w.alloc (Z4 #[a,b,c] t)) wx) :
 wx.cell? ⟨w.heap.size,0,ZX⟩=ZW a/\wx.cell? ⟨w.heap.size,1,ZX⟩=ZW b/\wx.cell? ⟨w.heap.size,2,ZX⟩=ZW c:=by
 have d:=h.cell (p:=⟨w.heap.size,0,ZX⟩) (by simp);have e:=h.cell (p:=⟨w.heap.size,1,ZX⟩) (by simp);have f:=h.cell (p:=⟨w.heap.size,2,ZX⟩) (by simp);rw [World.cell?_alloc_at _ _ _ _ rfl] at d e f;exact ⟨d,e,f⟩
def El {wa wb:ZT} (c:ZR B w0 wa) (b:B<=wa.heap.size) (a:bW wa wb) (d:wb.grownBy wc ZX):ZR B w0 wc:=
 (c.trans (a.mono b)).grown d (by have:=a.size;omega) (λk e=>by simp at e)
def ez.made (h:wc.ownsRow base 39 1 (Z5 (ZW ⟨g,0,ZX⟩) 0 cap) 0 []):ez wc base (Z5 (ZW ⟨g,0,ZX⟩) 0 cap) []:=
 ⟨h,λp a=>by simp at a,by simp⟩
def cO.nil (D:Nat):cO [] D []:=rfl
def fU {α:Type} (f:Nat->α) (k:Nat):(YE (k+1)).map f=(YE k).map f++[f k]:=by
 rw [Vy,Uv];rfl
theorem kA (D L G:Nat) (Z:de D L G=ZV) (E:D<=12) (U:1<=L) (W:L<=4) (Y:G<=4) (V:D%L=0) (w:ZT) :
 ZQ ZI 134 #[.agg #[Z7 Z9 D,Z7 Z9 L,Z7 Z9 G]] w λe w'=>∃ v T,e=Z3 (ZZ #[v,.nilIface])/\ez w' (w.heap.size+1) v T/\cO T D (aR D L G)/\bW w w':=by
 obtain ⟨K,F,H,I,J⟩:=Us Tryz.RV;go_enter func134,ntmps134;go_wp2_with fail;refine (pG D L G _).mono ?_;rintro e wa ⟨rfl,u⟩;try change ZR _ _ _ at u
 rw [Uh] at u;have P:=u.size;try change ZR _ _ _ at P
 rw [Uh] at P;obtain ⟨q,r,s⟩:=cT u;go_wp2_with fail;refine (dL D L G _ (by omega) (by omega) (by omega)).mono ?_;rintro e X ⟨rfl,M⟩;have k5:=M.size;clear q r s;go_wp2_with (at_make;refine abY _ rfl (.const (Z7 Z9 0)) (Z0 13) 85 rfl (w.heap.size+1) 39 K (Z5 ZX 0 0) 1 VQ F H I .i64 .i64 (D+L+G) (D+L+G) rfl rfl (by omega) (by rw [J];omega) (by unfold maxLen;omega) (by omega) ?_;intro wc R O;have N:=El u P M O;obtain ⟨q,r,s⟩:=cT N);have a:=ez.made R;have k6:=O.size;clear R O u M;generalize Value.slice (ZW ⟨X.heap.size,0,ZX⟩) 0 (D+L+G)=v0 at *;go_loopw [4,17] (λv i wr=>∃ k T,k<=D/\i=Z7 Z9 (k:Nat)/\ez wr (w.heap.size+1) v T/\cO T D ((YE k).map (dq D))/\ZR (w.heap.size+1) (w.alloc (Z4 #[Z7 Z9 D,Z7 Z9 L,Z7 Z9 G] 27)) wr/\w.heap.size+1<=wr.heap.size) (λ_ i _=>D-(intOf i).toNat)
 case atStart=>exact ⟨0,[],T5 _,rfl,a,cO.nil D,N,by omega⟩
 case round=>
  clear a N q r s;obtain ⟨k,T,C,rfl,a,d,f,j⟩:=hrel;obtain ⟨q,r,s⟩:=cT f;by_cases t:k<D
  . have m:=d.length;rw [T9,UK] at m;have Q:T.length<=12:=(by omega);clear m;have h:=ak d;clear d;go_wp2_with fail;refine (Bu D L G k E t _).mono ?_;rintro e w1 ⟨b,rfl,y,n,c⟩;have S:=c.size;go_wp2_with (at_builtin;refine Wz _ rfl (Z0 20) (Z0 24) 85 rfl (w.heap.size+1) 39 K (Z5 ZX 0 0) 1 24 VQ F H I J rfl (by decide) _ T.length (T.map fP) rfl ((a.below c).alloc _).own ⟨w1.heap.size,0,ZX⟩ 1 1 [Z5 (ZW ⟨b,0,ZX⟩) D D] rfl rfl (Yt _ _ _) (by simp [Value.oneCell']) (by unfold maxLen;omega) (by omega) (by rw [Uh];omega) ?_;intro v' w2 l g B);have x:=ez.append a c j y n (Bz D k) (by omega) g l;have z:=dK a f c j g;have p:=g.size;try change ZR _ _ _ at p
    rw [Uh] at p;clear a l g B n c f;go_roundw
    case rel=>exact ⟨k+1,_,by omega,by go_num,x,by rw [fU];exact h.o.push b _,z,by omega⟩
    case measure=>simp [intOf];omega
  . have A:D=k:=(by omega);clear t C;subst A;have h:=ak d;clear d;go_wp2_with fail;go_loopw [4,29] (λv i wr=>∃ k T,k<=L/\i=Z7 Z9 (k:Nat)/\ez wr (w.heap.size+1) v T/\cO T D ((YE D).map (dq D)++(YE k).map (dy D L))/\ZR (w.heap.size+1) (w.alloc (Z4 #[Z7 Z9 D,Z7 Z9 L,Z7 Z9 G] 27)) wr/\w.heap.size+1<=wr.heap.size) (λ_ i _=>L-(intOf i).toNat)
    case atStart=>exact ⟨0,T,T5 _,rfl,a,by rw [YN,Vg,Wn];exact h.o,f,j⟩
    case round=>
     clear a f q r s h j;obtain ⟨k,T,C,rfl,a,d,f,j⟩:=hrel;obtain ⟨q,r,s⟩:=cT f;by_cases t:k<L
     . have m:=d.length;simp only [T8,T9,UK] at m;have Q:T.length<=20:=(by omega);clear m;have h:=ak d;clear d;go_wp2_with fail;refine (zD D L G k E U W V t _).mono ?_;rintro e w1 ⟨b,rfl,y,n,c⟩;have S:=c.size;go_wp2_with (at_builtin;refine Wz _ rfl (Z0 32) (Z0 36) 85 rfl (w.heap.size+1) 39 K (Z5 ZX 0 0) 1 24 VQ F H I J rfl (by decide) _ T.length (T.map fP) rfl ((a.below c).alloc _).own ⟨w1.heap.size,0,ZX⟩ 1 1 [Z5 (ZW ⟨b,0,ZX⟩) D D] rfl rfl (Yt _ _ _) (by simp [Value.oneCell']) (by unfold maxLen;omega) (by omega) (by rw [Uh];omega) ?_;intro v' w2 l g B);have x:=ez.append a c j y n (xK D L k) (by omega) g l;have z:=dK a f c j g;have p:=g.size;try change ZR _ _ _ at p
       rw [Uh] at p;clear a l g B n c f;go_roundw
       case rel=>exact ⟨k+1,_,by omega,by go_num,x,by rw [fU,<- Uz];exact h.o.push b _,z,by omega⟩
       case measure=>simp [intOf];omega
     . have A:L=k:=(by omega);clear t C;subst A;have h:=ak d;clear d;go_wp2_with fail;go_loopw [4,41] (λv i wr=>∃ k T,k<=G/\i=Z7 Z9 (k:Nat)/\ez wr (w.heap.size+1) v T/\cO T D (((YE D).map (dq D)++(YE L).map (dy D L))++(YE k).map (dj D))/\ZR (w.heap.size+1) (w.alloc (Z4 #[Z7 Z9 D,Z7 Z9 L,Z7 Z9 G] 27)) wr/\w.heap.size+1<=wr.heap.size) (λ_ i _=>G-(intOf i).toNat)
       case atStart=>exact ⟨0,T,T5 _,rfl,a,by rw [YN,Vg,Wn];exact h.o,f,j⟩
       case round=>
        clear a f q r s h j;obtain ⟨k,T,C,rfl,a,d,f,j⟩:=hrel;obtain ⟨q,r,s⟩:=cT f;by_cases t:k<G
        . have m:=d.length;simp only [T8,T9,UK] at m;have Q:T.length<=20:=(by omega);clear m;have h:=ak d;clear d;go_wp2_with fail;refine (vX D L G k E (by omega) _).mono ?_;rintro e w1 ⟨b,rfl,y,n,c⟩;have S:=c.size;go_wp2_with (at_builtin;refine Wz _ rfl (Z0 44) (Z0 48) 85 rfl (w.heap.size+1) 39 K (Z5 ZX 0 0) 1 24 VQ F H I J rfl (by decide) _ T.length (T.map fP) rfl ((a.below c).alloc _).own ⟨w1.heap.size,0,ZX⟩ 1 1 [Z5 (ZW ⟨b,0,ZX⟩) D D] rfl rfl (Yt _ _ _) (by simp [Value.oneCell']) (by unfold maxLen;omega) (by omega) (by rw [Uh];omega) ?_;intro v' w2 l g B);have x:=ez.append a c j y n (tB D k E (by omega)) (by omega) g l;have z:=dK a f c j g;have p:=g.size;try change ZR _ _ _ at p
          rw [Uh] at p;clear a l g B n c f;go_roundw
          case rel=>exact ⟨k+1,_,by omega,by go_num,x,by rw [fU,<- Uz];exact h.o.push b _,z,by omega⟩
          case measure=>simp [intOf];omega
        . have A:G=k:=(by omega);clear t C;subst A;have h:=ak d;clear d;go_wp2;go_ret2;refine ⟨_,T,rfl,a,h.o,?_⟩;exact (bA _ _).trans (f.mono (by omega))
def Qo (w0:ZT) (base D N:Nat) (M:Nat->List a8) (v i:ZS) (wr:ZT):Prop:=
 ∃ k T,k<=N/\i=Z7 Z9 (k:Nat)/\ez wr base v T/\cO T D (M k)/\ZR base w0 wr/\base<=wr.heap.size
theorem vY (D L G:Nat) (hr:de D L G=ZV) (hD:D<=12) (hL:1<=L) (kr:L<=4) (hG:G<=4) (k7:D%L=0) (w:ZT) :
 ZQ ZI 33 #[.agg #[Z7 Z9 D,Z7 Z9 L,Z7 Z9 G]] w λe w'=>∃ v T,e=Z3 (ZZ #[v,Z7 Z9 0])/\ez w' (w.heap.size+1) v T/\cO T D (aR D L G)/\bW w w':=by
 obtain ⟨Y,Z,ka,kb,kc⟩:=Us Tryz.RV;have kf:=λg (X:g<L)=>Bv (D:=D) k7 X;have hq:D/L<=D:=VU _ _;have hp:∀ g,dy D L g=eY D (g*(D/L)) ((g+1)*(D/L)):=λ_=>rfl;have e1:wrap64 ((D:Int)/(L:Int))=((D/L:Nat):Int):=by
  rw [<- X8];exact iB (by omega)
 obtain ⟨q,V⟩:∃ q,q=D/L:=⟨_,rfl⟩;rw [<- V] at e1 hq;have HF:cA (∀ g,dy D L g=eY D (g*q) ((g+1)*q)):=by intro g;rw [V];exact hp g
 have kj:cA (∀ g,g<L->(g+1)*q<=D):=by intro g X;rw [V];exact kf g X
 clear hp kf V;go_enter func33,ntmps33;go_wp2_with fail;refine (Ee D L G _).mono ?_;rintro e wa ⟨rfl,F⟩;try change ZR _ _ _ at F
 rw [Uh] at F;have kh:=F.size;try change ZR _ _ _ at kh
 rw [Uh] at kh;obtain ⟨H,I,J⟩:=cT F;go_wp2_with fail;go_loopw [5,6] (λv i wr=>Qo (w.alloc (Z4 #[Z7 Z9 D,Z7 Z9 L,Z7 Z9 G] 44)) (w.heap.size+1) D D (λk=>[]++(YE k).map (dq D)) v i wr) (λ_ i _=>D-(intOf i).toNat)
 case atStart=>exact ⟨0,[],T5 _,rfl,ez.nil _ _,cO.nil D,F,kh⟩
 case round=>
  clear F H I J;rename ZT=>wo;obtain ⟨k,T,N,rfl,b,n,c,h⟩:=hrel;obtain ⟨H,I,J⟩:=cT c;have r:=ak n;have z:=n.length;simp only [Uo,T9,UK] at z;have S:T.length<=20:=by omega
  clear z n;by_cases E:k<D
  . go_wp2_with (first
     | (at_make;refine cQ _ rfl (Z0 26) (Z0 26) rfl D D rfl rfl rfl (by omega) ?_;intro w1 m hb R;clear R;have hc:=m.cell k (by simpa using E);have hf:=m.frozen k;have A:=m.set k 1;have a:=hb.setCell (p:=⟨wo.heap.size,k,ZX⟩) (by simp) (Z7 .u8 1))
     | (at_builtin;refine Wz _ rfl (Z0 31) (Z0 33) 85 rfl (w.heap.size+1) 39 Y (Z5 ZX 0 0) 1 24 VQ Z ka kb kc rfl (by decide) _ T.length (T.map fP) rfl ((b.below a).alloc _).own ⟨w1.heap.size,0,ZX⟩ 1 1 [Z5 (ZW ⟨wo.heap.size,0,ZX⟩) D D] rfl rfl (mi _ _ (by simp) _ _) (by simp [Value.oneCell']) (by unfold maxLen;omega) (by omega) (by rw [Uh];have:=a.size;omega)  ?_;intro v' w2 y d Q))
    have O:=ez.append b a h lR A (Bz D k) (by omega) d y;have l:=r.o.push wo.heap.size (dq D k);have u:=dK b c a h d;have C:=d.size;have kg:=a.size;try change ZR _ _ _ at C
    rw [Uh] at C;rw [Uz,<- fU] at l;have K:=ak l;clear b y d Q A a c l;go_roundw
    case rel=>exact ⟨k+1,T++[(wo.heap.size,D,dq D k)],by omega,by go_num,O,K.out,u,by omega⟩
    case measure=>simp [intOf];omega
  . have P:D=k:=(by omega);clear E N;subst P;go_wp2_with fail;go_loopw [5,9] (λv i wr=>Qo (w.alloc (Z4 #[Z7 Z9 D,Z7 Z9 L,Z7 Z9 G] 44)) (w.heap.size+1) D L (λk=>(YE D).map (dq D)++(YE k).map (dy D L)) v i wr) (λ_ i _=>L-(intOf i).toNat)
    case atStart=>exact ⟨0,T,T5 _,rfl,b,by dsimp only;rw [YN,Vg,Wn];exact r.o,c,h⟩
    case round=>
     clear b c H I J r h S;rename ZT=>wo;obtain ⟨k,T,N,rfl,b,n,c,h⟩:=hrel;obtain ⟨H,I,J⟩:=cT c;have r:=ak n;have z:=n.length;simp only [T8,T9,UK] at z;have S:T.length<=20:=(by omega);clear z n;by_cases E:k<L
     . have ks:=kj.out k E;have ke:=HF.o k;have kk:k*q<=(k+1)*q:=WX _ (by omega);have e2:wrap64 ((k:Int)*(q:Int))=((k*q:Nat):Int):=by
        rw [<- XL];exact iB (by omega)
       have e3:wrap64 (((k:Int)+1)*(q:Int))=(((k+1)*q:Nat):Int):=by
        have:((k:Int)+1)*(q:Int)=(((k+1)*q:Nat):Int):=by push_cast;rfl
        rw [this];exact iB (by omega)
       generalize k*q=s at *;generalize (k+1)*q=t at *;have ki:=ak ke;have E2:=ak e2;have W:=ak e3;clear ke e2 e3;go_wp2_with (at_make;refine cQ _ rfl (Z0 47) (Z0 47) rfl D D rfl rfl rfl (by omega) ?_;intro w1 m a R;clear R);rw [<- mV D s] at m;go_loopw [11] (λi wi=>∃ j:Nat,s<=j/\j<=t/\i=Z7 Z9 j/\aI wi wo.heap.size (eY D s j)/\bW wo wi) (λi _=>t-(intOf i).toNat)
       case atStart=>exact ⟨s,TV _,kk,by rw [E2.out],m,a⟩
       case round=>
        clear m a;obtain ⟨j,km,ko,rfl,f,B⟩:=hrel;by_cases U:j<t
        . have ht:(j:Int)<wrap64 (((k:Int)+1)*(q:Int)):=(by rw [W.out];omega);have hc:=f.cell j (by simp [eY];omega);have hf:=f.frozen j;have M:=f.set j 1;rw [ox _ _ _ km] at M;have u:=B.setCell (p:=⟨wo.heap.size,j,ZX⟩) (by simp) (Z7 .u8 1);go_wp2;go_roundw
          case rel=>exact ⟨j+1,by omega,by omega,by go_num,M,u⟩
          case measure=>simp [intOf];omega
        . have ht:¬ (j:Int)<wrap64 (((k:Int)+1)*(q:Int)):=(by rw [W.out];omega);have k9:t=j:=(by omega);clear U ko W;subst k9;rw [<- ki.out] at f;have A:=f;have a:=B;clear f B;go_wp2_with (at_builtin;refine Wz _ rfl (Z0 63) (Z0 65) 85 rfl (w.heap.size+1) 39 Y (Z5 ZX 0 0) 1 24 VQ Z ka kb kc rfl (by decide) _ T.length (T.map fP) rfl ((b.below a).alloc _).own ⟨wr.heap.size,0,ZX⟩ 1 1 [Z5 (ZW ⟨wo.heap.size,0,ZX⟩) D D] rfl rfl (mi _ _ (by simp) _ _) (by simp [Value.oneCell']) (by unfold maxLen;omega) (by omega) (by rw [Uh];have:=a.size;omega)  ?_;intro v' w2 y d Q);have O:=ez.append b a h lR A (xK D L k) (by omega) d y;have l:=r.o.push wo.heap.size (dy D L k);have u:=dK b c a h d;have C:=d.size;have kg:=a.size;try change ZR _ _ _ at C
          rw [Uh] at C;rw [Uz,<- fU] at l;have K:=ak l;clear b y d Q A a c l;go_roundw
          case rel=>exact ⟨k+1,T++[(wo.heap.size,D,dy D L k)],by omega,by go_num,O,K.out,u,by omega⟩
          case measure=>simp [intOf];omega
     . have P:L=k:=(by omega);clear E N;subst P;go_wp2_with fail;go_loopw [5,12] (λv i wr=>Qo (w.alloc (Z4 #[Z7 Z9 D,Z7 Z9 L,Z7 Z9 G] 44)) (w.heap.size+1) D G (λk=>((YE D).map (dq D)++(YE L).map (dy D L))++(YE k).map (dj D)) v i wr) (λ_ i _=>G-(intOf i).toNat)
       case atStart=>exact ⟨0,T,T5 _,rfl,b,by dsimp only;rw [YN,Vg,Wn];exact r.o,c,h⟩
       case round=>
        clear b c H I J r h S;rename ZT=>wo;obtain ⟨k,T,N,rfl,b,n,c,h⟩:=hrel;obtain ⟨H,I,J⟩:=cT c;have r:=ak n;have z:=n.length;simp only [T8,T9,UK] at z;have S:T.length<=20:=(by omega);clear z n;by_cases E:k<G
        . go_wp2_with (at_make;refine cQ _ rfl (Z0 74) (Z0 74) rfl D D rfl rfl rfl (by omega) ?_;intro w1 m a R;clear R);rw [<- lF D k] at m;go_loopw [14] (λi wi=>∃ j:Nat,j<=D/\i=Z7 Z9 j/\aI wi wo.heap.size (eB D k j)/\bW wo wi) (λi _=>D-(intOf i).toNat)
          case atStart=>exact ⟨0,T5 _,rfl,m,a⟩
          case round=>
           clear m a;obtain ⟨j,hj,rfl,f,B⟩:=hrel;have k6:=cT (c.trans (B.mono h));obtain ⟨b0,b1,b2⟩:=k6;by_cases U:j<D
           . have hc:=f.cell j (by simp [eB];omega);have hf:=f.frozen j;obtain ⟨kp,kv⟩:=By D k j hD (by omega) U;have M:=f.set j (gi ((D+k)^^^j));rw [mW] at M;have u:=B.setCell (p:=⟨wo.heap.size,j,ZX⟩) (by simp) (Z7 .u8 (gi ((D+k)^^^j)));generalize (D+k)^^^j=x at *;go_wp2_with (go_at_call 48;refine (AZ x kp _).mono ?_;rintro e w' ⟨rfl,rfl⟩);go_roundw
             case rel=>exact ⟨j+1,by omega,by go_num,M,u⟩
             case measure=>simp [intOf];omega
           . have k9:D=j:=(by omega);clear U hj;subst k9;rw [oy] at f;have A:=f;have a:=B;clear f B;go_wp2_with (at_builtin;refine Wz _ rfl (Z0 93) (Z0 95) 85 rfl (w.heap.size+1) 39 Y (Z5 ZX 0 0) 1 24 VQ Z ka kb kc rfl (by decide) _ T.length (T.map fP) rfl ((b.below a).alloc _).own ⟨wr.heap.size,0,ZX⟩ 1 1 [Z5 (ZW ⟨wo.heap.size,0,ZX⟩) D D] rfl rfl (mi _ _ (by simp) _ _) (by simp [Value.oneCell']) (by unfold maxLen;omega) (by omega) (by rw [Uh];have:=a.size;omega)  ?_;intro v' w2 y d Q);have O:=ez.append b a h lR A (tB D k hD (by omega)) (by omega) d y;have l:=r.o.push wo.heap.size (dj D k);have u:=dK b c a h d;have C:=d.size;have kg:=a.size;try change ZR _ _ _ at C
             rw [Uh] at C;rw [Uz,<- fU] at l;have K:=ak l;clear b y d Q A a c l;go_roundw
             case rel=>exact ⟨k+1,T++[(wo.heap.size,D,dj D k)],by omega,by go_num,O,K.out,u,by omega⟩
             case measure=>simp [intOf];omega
        . have P:G=k:=(by omega);clear E N;subst P;go_wp2;go_ret2;refine ⟨_,rfl,T,b,r.o,?_⟩;exact (bA _ _).trans (c.mono (by omega))
def dg (M:List a8) (lost k:Nat):List a8:=((YE k).filter (λi=>decide (lost/2^i%2=0))).map (λi=>M.getD i [])
def F9 (M:List a8) (lost k:Nat) (h:lost/2^k%2=0):dg M lost (k+1)=dg M lost k++[M.getD k []]:=by
 simp [dg,Vy,h]
def BA (M:List a8) (lost k:Nat) (h:lost/2^k%2≠0):dg M lost (k+1)=dg M lost k:=by
 simp [dg,Vy,h]
def tC (M:List a8) (lost k:Nat) (b:k<=M.length):∀ l∈dg M lost k,l∈M:=by
 intro l hl;simp [dg] at hl;obtain ⟨i,⟨a,_⟩,rfl⟩:=hl;rw [Ua (by omega)];exact TY _
def jE (M:List a8) (lost k:Nat):(dg M lost k).length<=k:=by
 unfold dg;rw [T9];exact TU (WL _ _) (by simp)
theorem NP (T:List a8) (v:Nat->Nat):nK T 0 v↔∃ l∈T,v=dG l:=by
 constructor
 . rintro ⟨i,a,_,rfl⟩;exact ⟨_,TY a,rfl⟩
 . rintro ⟨l,hl,rfl⟩;obtain ⟨i,a,rfl⟩:=XB.1 hl;exact ⟨i,a,T5 _,rfl⟩
theorem oz (M:List a8) (lost k:Nat) (v:Nat->Nat):nK (dg M lost k) 0 v↔∃ i,i<k/\lost/2^i%2=0/\v=dG (M.getD i []):=by
 rw [NP];constructor
 . rintro ⟨l,hl,rfl⟩;simp only [dg,T7,Vt,Uu,Wt] at hl;obtain ⟨i,⟨b,a⟩,rfl⟩:=hl;exact ⟨i,b,a,rfl⟩
 . rintro ⟨i,b,a,rfl⟩;refine ⟨_,?_,rfl⟩;simp only [dg,T7,Vt,Uu,Wt];exact ⟨i,⟨b,a⟩,rfl⟩
theorem KO (D i:Nat) (a:i<D):dG (dq D i)=gq i:=by
 funext j;unfold dG dq gq;by_cases e:j=i
 . subst e;simp [a]
 . rw [TS e];simp [Vq e,WC];split<;>rfl
def KQ (D L G i:Nat) (a:i<D):(aR D L G).getD i []=dq D i:=by
 simp [aR,List.getElem?_append,a]
def Hy (M:List a8) (lost less k D:Nat) (d:∀ i,i<k->lost/2^i%2=0->less/2^i%2=0) (h:mM (nK (dg M lost k) 0) 0 D):mM (nK (dg M less k) 0) 0 D:=
 h.mono λr c=>by
  obtain ⟨i,a,b,e⟩:=(oz _ _ _ _).1 c;exact (oz _ _ _ _).2 ⟨i,a,d i a b,e⟩
def Hz (M:List a8) (lost k D:Nat) (e:1<=D) (d:∀ i,i<k->lost/2^i%2=1):¬ mM (nK (dg M lost k) 0) 0 D:=by
 intro h;have:=aW.RS (c:=0) (λr b=>by
  obtain ⟨i,a,f,_⟩:=(oz _ _ _ _).1 b;have:=d i a;omega) (h (gq 0) (jW 0) (λj g=>TS (by omega)))
 simp [gq] at this
def Ga (lost k:Nat) (hl:lost<18446744073709551616):bits .and .u64 ((lost:Int)/2^k) 1=((lost/2^k%2:Nat):Int):=by
 have c:(lost:Int)/2^k=((lost/2^k:Nat):Int):=by simp
 have h:lost/2^k<18446744073709551616:=Xf (VU _ _) hl;have e:=u64_and_nat (lost/2^k) 1 h (by decide);rw [PU] at e;rw [c];exact e
def Rl (w0 w:ZT) (v:ZS) (K:List a8):Prop:=
 ∃ xs:List ZS,xs.length=K.length/\(∀ i (h:i<xs.length) (h':i<K.length),Bs w0 xs[i] K[i])/\w.ownsRow w0.heap.size 39 1 v xs.length xs/\bW w0 w
def Rl.nil (w:ZT):Rl w w (Z5 ZX 0 0) []:=⟨[],rfl,λi h=>absurd h (by simp),UN _ _ _ _,TW _ _⟩
def Rl.rd (h:Rl w0 w v K) (hl:K.length<=100000):Rd w v K:=by
 obtain ⟨xs,e,f,b,j⟩:=h;rcases b.2 with ⟨d,r⟩|⟨g,cap,cur,a,l,m,n,o,p,q⟩
 . have:K=[]:=UX (by omega);subst this;exact ⟨ZX,0,d,by simp,λh=>absurd rfl h⟩
 . refine ⟨ZW ⟨g,0,ZX⟩,cap,by rw [a,e],by omega,λ_=>⟨g,0,rfl,λi k=>?_⟩⟩;have c:i<xs.length:=(by omega);have:=b.cells (g:=g) (by rw [a];rfl) i xs[i] (by simp [c]);rw [jC] at this;exact ⟨xs[i],by rw [Ui];exact this,(f i c k).mono j⟩
def Rl.push {o:Obj} {xs:List ZS} (b:xs.length=K.length) (j:∀ i (h:i<xs.length) (d:i<K.length),Bs w0 xs[i] K[i])
 (g:w.ownsRow w0.heap.size 39 1 v xs.length xs) (a:bW w0 w) (q:w1=w.alloc o) (p:Bs w0 u l)
 (m:w1.grownBy w2 v.ownBlock) (f:w2.ownsRow w0.heap.size 39 1 v' (xs.length+1) (xs++[u])):Rl w0 w2 v' (K++[l]):=by
 subst q;refine ⟨xs++[u],by simp [b],λi h d=>?_,by simpa using f,(a.alloc a.size o).grown m (by rw [Uh];have:=a.size;omega) λk n=>(g.lt k n).1⟩;by_cases c:i<xs.length
 . rw [XV c,XV (by omega)];exact j i c (by omega)
 . have e:i=xs.length:=(by simp at h;omega);subst e;rw [XU lR,XU (by omega)];simpa [b] using p
def Bs.one (h:Bs w u l):u.oneCell'=ZV:=by
 obtain ⟨ao,c,rfl,_⟩:=h;rfl
def KpR (w:ZT) (M:List a8) (lost:Nat) (v i:ZS) (wr:ZT):Prop:=∃ k:Nat,k<=M.length/\i=Z7 Z9 k/\Rl w wr v (dg M lost k)
theorem KR (E:ZS) (M:List a8) (lost:Nat) (w:ZT) (A:Rd w E M) (hl:lost<18446744073709551616) (X:M.length<=64) :
 ZQ ZI 136 #[E,Z7 Z8 lost] w λe w'=>∃ v,e=Z3 v/\Rl w w' v (dg M lost M.length):=by
 obtain ⟨V,P,S,T,U⟩:=Us Tryz.RV;rcases A.cases with ⟨rfl,ao,c,rfl⟩|⟨b,off,c,rfl,_,l⟩
 . go_enter func136,ntmps136;go_wp2;refine VC 1 ?_;rw [U5];go_wp2;go_ret;exact ⟨_,rfl,Rl.nil _⟩
 . clear A;go_enter func136,ntmps136;go_wp2;go_loopw [5,10] (λv i wr=>KpR w M lost v i wr) (λ_ i _=>M.length-(intOf i).toNat)
   case atStart=>exact ⟨0,T5 _,rfl,Rl.nil _⟩
   case round=>
    rename ZT=>wo;obtain ⟨k,W,rfl,a⟩:=hrel;by_cases C:k<M.length
    . obtain ⟨u,m,j⟩:=l k C;have R:wo.cell? ⟨b,off+k,ZX⟩=ZW u:=(by rw [a.choose_spec.2.2.2.cell (Ub m)];exact m);obtain ⟨I,J,rfl,_⟩:=id j;have t:=Ga lost k hl;have F:=ak (jE M lost k);have n:=ak j;have x:M.getD k []=M[k]:=(by simp [C]);have K:=ak x;clear l j m x;by_cases d:lost/2^k%2=0
      . rw [d] at t;have L:=ak (F9 M lost k d);clear d;obtain ⟨xs,f,B,g,h⟩:=a;have H:=ak B;have O:=ak f;have Z:xs.length<=64:=(by rw [f];exact TU F.o (by omega));have Y:=h.size;clear B f;go_wp2_with (at_builtin;refine Wz _ rfl (Z0 20) (Z0 22) 85 rfl w.heap.size 39 V (Z5 ZX 0 0) 1 24 VQ P S T U rfl (by decide) _ xs.length xs rfl (ay g (bA _ _)) ⟨wo.heap.size,0,ZX⟩ 1 1 [.slice I (M[k]).length J] rfl rfl (mi _ _ rfl _ _) (by intro q D;simp at D;rw [D];exact n.o.one) (by unfold maxLen;omega) (by omega) (by rw [Uh];omega) ?_;intro v' w2 s p Q);have y:=Rl.push O.out H.o g h rfl n.o p s;rw [<- K.out,<- L.out] at y;clear g s p Q h R;go_wp2;go_roundw
        case rel=>exact ⟨k+1,by omega,by go_num,y⟩
        case measure=>simp [intOf];omega
      . have r:lost/2^k%2=1:=(by omega);rw [r] at t;have N:=ak (BA M lost k d);clear d r;have G:=ak a;clear a;go_wp2;go_roundw
        case rel=>exact ⟨k+1,by omega,by go_num,by rw [N.out];exact G.o⟩
        case measure=>simp [intOf];omega
    . have z:k=M.length:=(by omega);rw [z] at a;clear l z;go_wp2;go_ret;exact ⟨_,rfl,a⟩
def eU (a:ZM) (i:Nat) (v:ZS) (h:i<a.tmps.size):(a.put (ZW i) v).eval (.tmp i)=v:=by simp [Act.put,Act.eval,h]
def az (a:ZM) (i j:Nat) (v:ZS) (h:i≠j):(a.put (ZW i) v).eval (.tmp j)=a.eval (.tmp j):=by
 simp [Act.put,Act.eval,Vs,h]
def fD (a:ZM) (d:Option Nat) (v:ZS):(a.put d v).tmps.size=a.tmps.size:=by
 cases d<;>simp [Act.put]
def put_comm (a:ZM) (i j:Nat) (v u:ZS) (h:i≠j):(a.put (ZW i) v).put (ZW j) u=(a.put (ZW j) u).put (ZW i) v:=by
 simp only [Act.put];rw [YS _ _ h]
def dE (b:o.guard=ZX):Region.wanted o (yielded ops a.tmps)=ZV:=by simp [Region.wanted,b]
def ja {x:ZJ} (b:o.guard=ZX) (ho:o.op=.move x) (c:a.eval x=v):Yields P ops o v a:=
 .inl ⟨dE b,λw=>by simp [execOp,ho,c]⟩
def rg:Code->Nat->Option (Array ZN)
 | .region i ops _,n=>if i=n then ZW ops else ZX
 | .seq a b,n=>(rg a n).orElse λ_=>rg b n
 | .cond _ a b,n=>(rg a n).orElse λ_=>rg b n
 | .block _ a,n=>rg a n
 | .loop a,n=>rg a n
 | .scope a,n=>rg a n
 | _,_=>ZX
noncomputable def Qp:Array ZN:=((Tryz.f135.body.bind (rg · 12))).getD #[]
def aar (l:a8):Array Bool:=l.foldl (λa i=>a.setIfInBounds i ZV) (YG 12 ZU)
def gM:(YE 12).map (λi=>(Qp[i]?).map λo=>(o.op,o.dst,o.guard))=[
 ZW (.move (Z0 4),ZW 28,ZX),ZW (.move (Z0 6),ZW 29,ZX),ZW (.move (Z0 6),ZW 30,ZX),ZW (.indexAddr 281 (Z0 3) (Z0 30),ZW 31,ZX),
 ZW (.load 101 (Z0 31),ZW 32,ZX),ZW (.move (Z0 4),ZW 33,ZX),ZW (.indexAddr 281 (Z0 3) (Z0 33),ZW 34,ZX),ZW (.load 101 (Z0 34),ZW 35,ZX),
 ZW (.indexAddr 281 (Z0 3) (Z0 28),ZW 36,ZX),ZW (.store 101 (Z0 36) (Z0 32),ZX,ZX),ZW (.indexAddr 281 (Z0 3) (Z0 29),ZW 37,ZX),ZW (.store 101 (Z0 37) (Z0 35),ZX,ZX)]:=by kernel_rfl
def gN {x:Op} {d:Option Nat} (f:i<12) (h:((YE 12).map (λi=>(Qp[i]?).map λo=>(o.op,o.dst,o.guard)))[i]?=ZW (ZW (x,d,ZX))):∃ o,Qp[i]?=ZW o/\o.op=x/\o.dst=d/\o.guard=ZX:=by
 simp only [UA,VP f,WO,UF,Wi,Xd] at h;obtain ⟨o,a,b,c,e⟩:=h;exact ⟨o,a,b,c,e⟩
theorem oA (gb p:Nat) (e:p<64) {o:ZN} {a:ZM} {x y:ZJ} (ho:o.op=.indexAddr 281 x y) (b:a.eval x=Z6 (ZW ⟨gb,0,ZX⟩)) (c:a.eval y=Z7 Z9 (p:Nat)) (w:ZT) :
 (execOp a.eval o).run ZI w=.ok (.value (Z6 (ZW ⟨gb,p*64,ZX⟩))) w:=by
 have d:(p:Int)<64:=by omega
 simp only [execOp,ho,b,c];go_simp
def Tryz.S4:(ZI.info? 101).map (λi=>i.size)=ZW 64:=by kernel_rfl
def KS (a:ZM) (gb p r:Nat) (cp cr:List ZS):ZM:=
 ((((((((((a.put (ZW 28) (Z7 Z9 (r:Nat))).put (ZW 29) (Z7 Z9 (p:Nat))).put (ZW 30) (Z7 Z9 (p:Nat))).put (ZW 33) (Z7 Z9 (r:Nat))).put (ZW 31) (Z6 (ZW ⟨gb,p*64,ZX⟩))).put (ZW 34) (Z6 (ZW ⟨gb,r*64,ZX⟩))).put (ZW 32) (.agg cp.toArray)).put (ZW 35) (.agg cr.toArray)).put (ZW 36) (Z6 (ZW ⟨gb,r*64,ZX⟩))).put ZX ZY).put (ZW 37) (Z6 (ZW ⟨gb,p*64,ZX⟩)) |>.put ZX ZY
theorem KT (gb p r:Nat) (cp e:List ZS) (hR:Qp=ops) (g:∀ c n v a w,Q (.panic c) (a.put (ZW n) v) w->Q (.panic c) a w)
 (l:a.tmps.size=47) (hp:p<64) (hr:r<64) (e3:a.eval (Z0 3)=Z6 (ZW ⟨gb,0,ZX⟩)) (U:a.eval (Z0 4)=Z7 Z9 (r:Nat)) (V:a.eval (Z0 6)=Z7 Z9 (p:Nat))
 (lp:cp.length=64) (lr:e.length=64) (op:cp.toArray.all (λv=>v.oneCell')=ZV) (or:e.toArray.all (λv=>v.oneCell')=ZV)
 (Y:w.drew.rangeAt gb (p*64) cp) (Z:w.drew.rangeAt gb (r*64) e) (tr:w.drew.there gb (r*64) 64) (tp:w.drew.there gb (p*64) 64)
 (h:Q .normal (KS a gb p r cp e) ((w.drew.setCells gb (r*64) cp).setCells gb (p*64) e)):(Code.region 12 ops ZV).wp ZI Q a w:=by
 subst hR;obtain ⟨o0,g0,x0,L,k0⟩:=gN (i:=0) (by decide) (by rw [gM];rfl);obtain ⟨o1,g1,x1,d1,k1⟩:=gN (i:=1) (by decide) (by rw [gM];rfl);obtain ⟨o2,g2,x2,M,k2⟩:=gN (i:=2) (by decide) (by rw [gM];rfl);obtain ⟨o3,g3,x3,N,k3⟩:=gN (i:=3) (by decide) (by rw [gM];rfl);obtain ⟨o4,W,x4,O,k4⟩:=gN (i:=4) (by decide) (by rw [gM];rfl);obtain ⟨o5,g5,x5,P,k5⟩:=gN (i:=5) (by decide) (by rw [gM];rfl);obtain ⟨o6,g6,x6,R,k6⟩:=gN (i:=6) (by decide) (by rw [gM];rfl);obtain ⟨o7,X,x7,S,k7⟩:=gN (i:=7) (by decide) (by rw [gM];rfl);obtain ⟨o8,g8,x8,T,k8⟩:=gN (i:=8) (by decide) (by rw [gM];rfl);obtain ⟨o9,g9,x9,d9,k9⟩:=gN (i:=9) (by decide) (by rw [gM];rfl);obtain ⟨h3,x,G,d10,z⟩:=gN (i:=10) (by decide) (by rw [gM];rfl);obtain ⟨h4,y,H,d11,A⟩:=gN (i:=11) (by decide) (by rw [gM];rfl);have f:Region.noSelect Qp=ZV:=by kernel_rfl
 have h1:Qp.size=12:=by kernel_rfl
 refine wp_region_any (by kernel_rfl) ?_;rw [h1];change wpAny _ _ _ _ _ (aar []) _ (World.drew _);refine WY g0 f (by kernel_rfl) (by kernel_rfl) (λc a w h=>g c _ _ a w (by rw [L] at h;exact h)) (ja k0 x0 U) ?_;rw [L];refine WY g1 f (by kernel_rfl) (by kernel_rfl) (λc a w h=>g c _ _ a w (by rw [d1] at h;exact h)) (ja (v:=Z7 Z9 (p:Nat)) k1 x1 (by rw [az _ _ _ _ (by decide)];exact V)) ?_;rw [d1];refine WY g2 f (by kernel_rfl) (by kernel_rfl) (λc a w h=>g c _ _ a w (by rw [M] at h;exact h)) (ja (v:=Z7 Z9 (p:Nat)) k2 x2 (by rw [az _ _ _ _ (by decide),az _ _ _ _ (by decide)];exact V)) ?_;rw [M];refine WY g5 f (by kernel_rfl) (by kernel_rfl) (λc a w h=>g c _ _ a w (by rw [P] at h;exact h)) (ja (v:=Z7 Z9 (r:Nat)) k5 x5 (by rw [az _ _ _ _ (by decide),az _ _ _ _ (by decide),az _ _ _ _ (by decide)];exact U)) ?_;rw [P];generalize hb:(((a.put (ZW 28) (Z7 Z9 (r:Nat))).put (ZW 29) (Z7 Z9 (p:Nat))).put (ZW 30) (Z7 Z9 (p:Nat))).put (ZW 33) (Z7 Z9 (r:Nat))=b;have sb:b.tmps.size=47:=by rw [<- hb];simp only [fD,l]
 have b3:b.eval (Z0 3)=Z6 (ZW ⟨gb,0,ZX⟩):=by rw [<- hb];simp only [az _ _ _ _ (show (33:Nat)≠3 by decide),az _ _ _ _ (show (30:Nat)≠3 by decide),az _ _ _ _ (show (29:Nat)≠3 by decide),az _ _ _ _ (show (28:Nat)≠3 by decide),e3]
 have q:b.eval (Z0 30)=Z7 Z9 (p:Nat):=by rw [<- hb,az _ _ _ _ (by decide),eU _ _ _ (by simp only [fD,l];decide)]
 have s:b.eval (Z0 33)=Z7 Z9 (r:Nat):=by rw [<- hb,eU _ _ _ (by simp only [fD,l];decide)]
 have m:b.eval (Z0 28)=Z7 Z9 (r:Nat):=by rw [<- hb,az _ _ _ _ (by decide),az _ _ _ _ (by decide),az _ _ _ _ (by decide),eU _ _ _ (by simp only [l];decide)]
 have o:b.eval (Z0 29)=Z7 Z9 (p:Nat):=by rw [<- hb,az _ _ _ _ (by decide),az _ _ _ _ (by decide),eU _ _ _ (by simp only [fD,l];decide)]
 unfold KS at h;rw [hb] at h;clear hb;refine WY g3 f (by kernel_rfl) (by kernel_rfl) (λc a w h=>g c _ _ a w (by rw [N] at h;exact h)) (.inl ⟨dE k3,oA gb p hp x3 b3 q⟩) ?_;rw [N];refine WY g6 f (by kernel_rfl) (by kernel_rfl) (λc a w h=>g c _ _ a w (by rw [R] at h;exact h)) (.inl ⟨dE k6,oA gb r hr x6 (by rw [az _ _ _ _ (by decide)];exact b3) (by rw [az _ _ _ _ (by decide)];exact s)⟩) ?_;rw [R];generalize hc:(b.put (ZW 31) (Z6 (ZW ⟨gb,p*64,ZX⟩))).put (ZW 34) (Z6 (ZW ⟨gb,r*64,ZX⟩))=c;have F:c.tmps.size=47:=by rw [<- hc];simp only [fD,sb]
 have c3:c.eval (Z0 3)=Z6 (ZW ⟨gb,0,ZX⟩):=by rw [<- hc,az _ _ _ _ (by decide),az _ _ _ _ (by decide),b3]
 have t:c.eval (Z0 28)=Z7 Z9 (r:Nat):=by rw [<- hc,az _ _ _ _ (by decide),az _ _ _ _ (by decide),m]
 have u:c.eval (Z0 29)=Z7 Z9 (p:Nat):=by rw [<- hc,az _ _ _ _ (by decide),az _ _ _ _ (by decide),o]
 have j:c.eval (Z0 31)=Z6 (ZW ⟨gb,p*64,ZX⟩):=by rw [<- hc,az _ _ _ _ (by decide),eU _ _ _ (by rw [sb];decide)]
 have k:c.eval (Z0 34)=Z6 (ZW ⟨gb,r*64,ZX⟩):=by rw [<- hc,eU _ _ _ (by simp only [fD,sb];decide)]
 rw [hc] at h;clear hc;have I:(ZI.info? 101).map (λi=>i.size)=ZW cp.length:=by rw [lp];exact Tryz.S4
 have J:(ZI.info? 101).map (λi=>i.size)=ZW e.length:=by rw [lr];exact Tryz.S4
 have fin:wpAny ZI .any Qp Q 4 (aar [0,1,2,5,3,6,4,7]) ((c.put (ZW 32) (.agg cp.toArray)).put (ZW 35) (.agg e.toArray)) w.drew:=by
  generalize hd:(c.put (ZW 32) (.agg cp.toArray)).put (ZW 35) (.agg e.toArray)=d;have sd:d.tmps.size=47:=by rw [<- hd];simp only [fD,F]
  have q3:d.eval (Z0 3)=Z6 (ZW ⟨gb,0,ZX⟩):=by rw [<- hd,az _ _ _ _ (by decide),az _ _ _ _ (by decide),c3]
  have B:d.eval (Z0 28)=Z7 Z9 (r:Nat):=by rw [<- hd,az _ _ _ _ (by decide),az _ _ _ _ (by decide),t]
  have C:d.eval (Z0 29)=Z7 Z9 (p:Nat):=by rw [<- hd,az _ _ _ _ (by decide),az _ _ _ _ (by decide),u]
  have D:d.eval (Z0 32)=.agg cp.toArray:=by rw [<- hd,az _ _ _ _ (by decide),eU _ _ _ (by rw [F];decide)]
  have E:d.eval (Z0 35)=.agg e.toArray:=by rw [<- hd,eU _ _ _ (by simp only [fD,F];decide)]
  rw [hd] at h;clear hd;refine WY g8 f (by kernel_rfl) (by kernel_rfl) (λc a w h=>g c _ _ a w (by rw [T] at h;exact h)) (.inl ⟨dE k8,oA gb r hr x8 q3 B⟩) ?_;rw [T];refine Yc (rs:=[9]) (by kernel_rfl) (by simp) ?_;refine XM g9 (λK hK=>?_) Yd;rw [TT (dE k9)];refine wp_store_mid 101 (Z0 36) (Z0 32) x9 gb (r*64) cp.toArray (by rw [eU _ _ _ (by rw [sd];decide)]) (by rw [az _ _ _ _ (by decide),D]) (by simpa [lp] using tr) (by simpa using I) op ?_;refine hK _ _ ?_;rw [d9];refine WY x f (by kernel_rfl) (by kernel_rfl) (λc a w h=>g c _ _ a w (by rw [d10] at h;exact h)) (.inl ⟨dE z,oA gb p hp G (by show (d.put (ZW 36) _).eval _=_;rw [az _ _ _ _ (by decide)];exact q3) (by show (d.put (ZW 36) _).eval _=_;rw [az _ _ _ _ (by decide)];exact C)⟩) ?_;rw [d10];refine Yc (rs:=[11]) (by kernel_rfl) (by simp) ?_;refine XM y (λK hK=>?_) Yd;rw [TT (dE A)];refine wp_store_mid 101 (Z0 37) (Z0 35) H gb (p*64) e.toArray (by rw [eU _ _ _ (by show 37<(d.put (ZW 36) _).tmps.size;rw [fD,sd];decide)]) (by rw [az _ _ _ _ (by decide)];show (d.put (ZW 36) _).eval _=_;rw [az _ _ _ _ (by decide),E]) (by simpa [lr] using World.there_setCells tp gb (r*64) cp) (by simpa using J) or ?_;refine hK _ _ ?_;rw [d11];exact wpAny_done (by kernel_rfl) h _
 refine Yc (rs:=[4,7]) (by kernel_rfl) (by simp) ?_;refine XM W (λK hK=>?_) (XM X (λK hK=>?_) Yd)
 . rw [TT (dE k4)];refine abm 101 (Z0 31) x4 gb (p*64) j cp _ Y Ye rfl I ?_;refine hK _ _ ?_;rw [O];refine Yc (rs:=[7]) (by kernel_rfl) (by simp) ?_;refine XM X (λK hK=>?_) Yd;rw [TT (dE k7)];refine abm 101 (Z0 34) x7 gb (r*64) (by rw [az _ _ _ _ (by decide)];exact k) e _ Z Ye rfl J ?_;refine hK _ _ ?_;rw [S];exact fin
 . rw [TT (dE k7)];refine abm 101 (Z0 34) x7 gb (r*64) k e _ Z Ye rfl J ?_;refine hK _ _ ?_;rw [S];refine Yc (rs:=[4]) (by kernel_rfl) (by simp) ?_;refine XM W (λK hK=>?_) Yd;rw [TT (dE k4)];refine abm 101 (Z0 31) x4 gb (p*64) (by rw [az _ _ _ _ (by decide)];exact j) cp _ Y Ye rfl I ?_;refine hK _ _ ?_;rw [O,put_comm _ _ _ _ _ (by decide)];exact fin
def vZ:Array ZS->Nat->List ZS->Array ZS
 | cur,_,[]=>cur
 | cur,o,v::r=>vZ (cur.setIfInBounds o v) (o+1) r
def xL:∀ (vs:List ZS) (o:Nat) (cur:Array ZS),(vZ cur o vs).size=cur.size
 | [],_,_=>rfl
 | v::r,o,cur=>by unfold vZ;rw [xL r];simp
def xM:∀ (vs:List ZS) (o:Nat) (cur:Array ZS),o+vs.length<=cur.size->(vZ cur o vs).toList.take (o+vs.length)=cur.toList.take o++vs
 | [],o,cur,_=>by simp [vZ]
 | v::r,o,cur,h=>by
  simp only [UD] at h ⊢;unfold vZ;have:=xM r (o+1) (cur.setIfInBounds o v) (by simp;omega);rw [show o+(r.length+1)=o+1+r.length by omega,this,Yu];have e:(cur.toList.set o v).take (o+1)=cur.toList.take o++[v]:=by
   rw [Vh,List.take_set_of_le (TV o),abn (by simp;omega)];rfl
  rw [e,Uz];rfl
def jn:∀ (vs:List ZS) (o:Nat) (w:ZT) {b:Nat} {cur:Array ZS} {t:ZL} {a:Nat×Nat},w.heap[b]?=ZW (Z4 cur t a)->(w.setCells b o vs).heap[b]?=ZW (Z4 (vZ cur o vs) t a)
 | [],_,_,_,_,_,_,h=>h
 | v::r,o,w,b,cur,t,a,h=>by
  show ((w.setCell ⟨b,o,ZX⟩ v).setCells b (o+1) r).heap[b]?=_;exact jn r (o+1) _ (by simp [World.setCell,VL,h])
def cC (w:ZT) (b o:Nat) (vs:List ZS):w.grownBy (w.setCells b o vs) (ZW b):=by
 obtain ⟨c,d,f⟩:=jk b vs o w;exact ⟨c,d,f,by rw [jj];exact TV _,λk _ a=>aU b vs o w k (λe=>a (by rw [e]))⟩
theorem ld (w:ZT) (base:Nat) (t tx ty e:ZL) (i:TypeInfo) (z:ZS) (size bytes:Nat) (o:P.underlying t=ZW (.slice e)) (h:P.info? e=ZW i) (B:i.zero=ZW z)
 (D:i.size=size) (H:i.bytes=bytes) (M:z.cells.size=size) (v:ZS) (n:Nat) (xs:List ZS) (d:w.ownsRow base e size v n xs)
 (x:ZS) (m:Nat) (news:List ZS) (a:Src P size tx x m news w) (y:n+m<=maxLen) (s:(n+m)*bytes<=140737488355328) (C:base<=w.heap.size) :
 ∃ v' w',(Builtin.append_ #[t,tx] ty #[v,x]).run P w=.ok v' w'/\w'.ownsRow base e size v' (n+m) (xs++news)/\w.grownBy w' v.ownBlock/\(v'.ownBlock=v.ownBlock\/v'.ownBlock=ZW w.heap.size):=by
 subst D;subst H;have:n+m<=9223372036854775807:=by simp only [maxLen] at y;omega
 have f:(xs++news).length=(n+m)*i.size:=by rw [T8,d.1,a.newsLen,XN]
 have grown:∀ (old:Nat),∀ (row:Option Nat),
  (w.drew.alloc (Z4 ((xs++news).toArray++Builtin.zeroCells z.cells (grownCap w (n+m) old e-(n+m))) e)).ownsRow base e i.size
   (Z5 (ZW ⟨w.heap.size,0,ZX⟩) (n+m) (grownCap w (n+m) old e)) (n+m) (xs++news) /\
  w.grownBy (w.drew.alloc (Z4 ((xs++news).toArray++Builtin.zeroCells z.cells (grownCap w (n+m) old e-(n+m))) e)) row:=by
  intro old row;have L:=abo w (n+m) old e;have q:grownCap w (n+m) old e<=maxLen:=abp w (n+m) old e y;refine ⟨⟨f,.inr ⟨w.heap.size,_,_,rfl,C,abq w.drew _,L,q,?_,?_⟩⟩,⟨rfl,rfl,rfl,by simp,λk l _=>(UC w.drew _ k l:_)⟩⟩
  . rw [Array.size_append,UH,size_zeroCells,M,f,<- XN];congr 1;omega
  . rw [Array.toList_append,<- f];exact Yf
 rcases d.2 with ⟨rfl,rfl⟩|⟨g,cap,cur,rfl,G,r,R,q,A,E⟩
 . have N:xs=[]:=UX (by simpa using d.1);subst N;by_cases J:m=0
   . subst J;have K:news=[]:=UX (by simpa using a.newsLen);subst K;refine ⟨Z5 ZX 0 0,w,?_,UN w base e i.size,⟨rfl,rfl,rfl,TV _,λ_ _ _=>rfl⟩,.inl rfl⟩;rcases a.kind with ⟨O,l⟩|l<;>simp [Builtin.append_,UO o,UO l,sizeOf,typeInfo,h,a.len,a.cells]
   . have b:=run_append_grow_src (P:=P) (w:=w) t tx ty e i z o h B ZX 0 0 [] (by simp [Builtin.firstCells]) x m news a (by omega) (by omega) (abr (by omega) (by simpa using s));have c:=grown 0 (Value.ownBlock (Z5 ZX 0 0));simp only [Ui,Uo] at c b ⊢;exact ⟨_,_,b,c.1,c.2,.inr rfl⟩
 . by_cases p:n+m<=cap
   . have F:n*i.size+news.length<=cur.size:=(by rw [a.newsLen,A,<- XN];exact WX _ p);have b:=run_append_room_src (P:=P) (w:=w) t tx ty e i o h g 0 n cap x m news a p (λj I=>by simp [World.cell?,r];omega) (λj I=>by simp [World.frozen?,r]);rw [Ui] at b;refine ⟨_,_,b,⟨f,.inr ⟨g,cap,_,rfl,G,jn news _ w r,p,q,by rw [xL];exact A,?_⟩⟩,cC w g _ news,.inl rfl⟩;rw [XN,<- a.newsLen,xM news _ cur F,E]
   . have holds:∀ j u,xs[j]?=ZW u->w.cell? ((⟨g,0,ZX⟩:ZP).add j)=ZW u:=d.cells (g:=g) rfl;have b:=run_append_grow_src (P:=P) (w:=w) t tx ty e i z o h B (ZW ⟨g,0,ZX⟩) n cap xs (run_firstCells_some w.drew i.size n ⟨g,0,ZX⟩ n cap xs d.1 (by simpa using holds)) x m news a (by omega) (by omega) (abr (by omega) s);have c:=grown cap (Value.ownBlock (Z5 (ZW ⟨g,0,ZX⟩) n cap));exact ⟨_,_,b,c.1,c.2,.inr rfl⟩
def ae (w:ZT) {ops:Array ZN} {rest:List ZN} {o:ZN} {a:ZM} {Q:Exit->ZM->ZT->Prop} (f:o.guard=ZX) (s x:ZJ) (t tx:ZL)
 (ho:o.op=.call { callee:=.builtin .append,args:=#[s,x],argTypes:=#[t,tx] }) (base:Nat) (e:ZL) (i:TypeInfo) (z:ZS) (size bytes:Nat) (ht:P.underlying t=ZW (.slice e)) (hi:P.info? e=ZW i) (hz:i.zero=ZW z)
 (h5:i.size=size) (h8:i.bytes=bytes) (ha:z.cells.size=size) (v:ZS) (n:Nat) (xs:List ZS) (hv:a.eval s=v) (h6:w.ownsRow base e size v n xs)
 (u:ZS) (hu:a.eval x=u) (m:Nat) (news:List ZS) (hs:Src P size tx u m news w) (h7:n+m<=maxLen) (h0:(n+m)*bytes<=140737488355328) (h1:base<=w.heap.size)
 (h:∀ v' w',w'.ownsRow base e size v' (n+m) (xs++news)->w.grownBy w' v.ownBlock->(v'.ownBlock=v.ownBlock\/v'.ownBlock=ZW w.heap.size)->wpList P ops Q rest (a.put o.dst v') w'):wpList P ops Q (o::rest) a w:=by
 obtain ⟨v',w',g,b,c,d⟩:=ld (P:=P) w base t tx o.type e i z size bytes ht hi hz h5 h8 ha v n xs h6 u m news hs h7 h0 h1;refine VZ f λK hK=>?_;unfold Oper.wp execOp;simp only [ho,resolve,invoke,builtin,Ux,Vf,UM,V3,UG,Vg,hv,hu,g];exact hK _ _ (h v' w' b c d)
def NQ (Fc:Fence) (n:Nat) (P:Program) (Q:Exit->ZM->ZT->Prop) (lo hi:Nat) (sh:List (Op×Option Nat×a8)) (a0:ZM) (V:Nat->ZS->ZT->Prop) (B:(Nat->Bool)->ZT->Prop) (i:Nat):Prop:=
 ∀ (o:ZN) (a:ZM) (w:ZT) (D:Nat->Bool),o.guard=ZX->o.op=(dQ sh i).1->o.dst=(dQ sh i).2.1->ef lo hi a0 a->D i=ZU->(∀ j,D j=ZV->j<sh.length/\∀ k∈(dQ sh j).2.2,D k=ZV) ->
  (∀ k∈(dQ sh i).2.2,D k=ZV)->B D w->(∀ j,D j=ZV->V j (iX (dQ sh j).2.1 a) w) ->
  o.wpIn Fc n P a w (λa' w'=>∃ v,a'=a.put o.dst v/\(o.dst=ZX->v=ZY)/\B (mj D i) w'/\V i v w'/\∀ j u,D j=ZV->V j u w->V j u w') Q
def jo {Fc:Fence} {lo hi:Nat} {sh:List (Op×Option Nat×a8)} (y:P.follows .mixedOrders=ZV) (v:bD ops lo hi sh) (b:ZM) (w0:ZT) (u:hi<=b.tmps.size)
 (V:Nat->ZS->ZT->Prop) (B:(Nat->Bool)->ZT->Prop) (x:B (λ_=>ZU) w0.drew) (k:∀ i,i<sh.length->NQ Fc n P Q lo hi sh b V B i)
 (t:∀ (a:ZM) (w:ZT),ef lo hi b a->(∀ s,(∀ i,i<sh.length->(dQ sh i).2.1≠ZW s)->a.eval (.tmp s)=b.eval (.tmp s))->(∃ D,(∀ i,i<sh.length->D i=ZV)/\B D w)->(∀ i,i<sh.length->V i (iX (dQ sh i).2.1 a) w)->Q .normal a w):(Code.region m ops ZV).wpIn Fc n P Q b w0:=
 wpIn_region_any y (wU (λo a w K=>o.wpIn Fc n P a w K Q) (wpAnyIn Fc n P .any ops Q) (λ_ _ _ h q=>⟨h,q⟩) (λf l a w c d=>⟨λe=>absurd e c,λi hi=>by
  obtain ⟨o,g,j,h⟩:=d i hi;unfold wpOpIn;rw [g];show if Region.wanted o (yielded ops a.tmps)=ZV then _ else _;rw [TT (by simp [Region.wanted,j])];exact h⟩) (λo a w K z h=>Oper.wpIn_mono h) v b _ u V B x (λi hi o a w D c d p r _=>k i hi o a w D c d p r) t)
def gZ {l:Nat} {B:ZT->Prop} (i:(execOp a.eval o).run P w=.ok (.value v) w') (f:∀ c,o.op≠.defer c) {d:Nat} (g:o.dst=ZW d) (h:B w'/\Vi v w'/\S w') :
 o.wpIn (Fence.wide.inRound l) n P a w (λb w'=>∃ v,b=a.put o.dst v/\(o.dst=ZX->v=ZY)/\B w'/\Vi v w'/\S w') Q:=by
 refine ⟨λ_ _=>trivial,?_⟩;rw [VF _ _ _ f,i];exact ⟨v,rfl,λe=>(by rw [g] at e;cases e),h.1,h.2.1,h.2.2⟩
def BB {l:Nat} {B:ZT->Prop} (e:(execOp a.eval o).run P w=.ok .skip w') (d:∀ c,o.op≠.defer c) (h:B w'/\Vi ZY w'/\S w') :
 o.wpIn (Fence.wide.inRound l) n P a w (λb w'=>∃ v,b=a.put o.dst v/\(o.dst=ZX->v=ZY)/\B w'/\Vi v w'/\S w') Q:=by
 refine ⟨λ_ _=>trivial,?_⟩;rw [VF _ _ _ d,e];exact ⟨ZY,rfl,λ_=>rfl,h.1,h.2.1,h.2.2⟩
def BC {l:Nat} {Rr:ZO->ZT->Prop} {B:ZT->Prop} (m:(execOp a.eval o).run P w=.ok (.enter f args) w1) (g:∀ c,o.op≠.defer c) {d:Nat} (k:o.dst=ZW d) (j:ZQ P f args w1 Rr)
 (h:∀ e w',Rr e w'->∃ v,e=Z3 v/\B w'/\Vi v w'/\S w'):o.wpIn (Fence.wide.inRound l) n P a w (λb w'=>∃ v,b=a.put o.dst v/\(o.dst=ZX->v=ZY)/\B w'/\Vi v w'/\S w') Q:=by
 refine ⟨λ_ _=>trivial,?_⟩;rw [VF _ _ _ g,m];refine ⟨λh=>(by cases h),abN l (Vc.2 (j.mono λe w' i=>?_))⟩;obtain ⟨v,rfl,p,q,r⟩:=h e w' i;exact ⟨v,rfl,λe=>(by rw [k] at e;cases e),p,q,r⟩
structure St where
 k:Nat
 a:Int
 b:Int
 c:Nat
def HU (kk:IntKind) (s:St):List ZS:=[.int kk s.k,Z7 Z9 s.a,Z7 Z9 s.b,Z7 .u8 s.c]
def zE (s:St):Prop:=s.k<256/\-9223372036854775808<=s.a/\s.a<=9223372036854775807/\-9223372036854775808<=s.b/\s.b<=9223372036854775807/\s.c<256
def Ps (kk:IntKind) (w:ZT) (v:ZS) (P:List St):Prop:=
 ∃ ao c,v=.slice ao P.length c/\P.length<=4398046511104/\(P≠[]->∃ b off,ao=ZW ⟨b,off,ZX⟩/\∀ i (hi:i<P.length),
  w.cell? ⟨b,off+i*4,ZX⟩=ZW (.int kk P[i].k)/\w.cell? ⟨b,off+i*4+1,ZX⟩=ZW (Z7 Z9 P[i].a)/\w.cell? ⟨b,off+i*4+2,ZX⟩=ZW (Z7 Z9 P[i].b)/\w.cell? ⟨b,off+i*4+3,ZX⟩=ZW (Z7 .u8 P[i].c))
def Ps.mono {P:List St} (h:Ps kk w v P) (a:bW w w'):Ps kk w' v P:=by
 obtain ⟨ao,c,g,j,k⟩:=h;refine ⟨ao,c,g,j,λl=>?_⟩;obtain ⟨b,off,e,m⟩:=k l;refine ⟨b,off,e,λi n=>?_⟩;obtain ⟨c0,c1,d,f⟩:=m i n;exact ⟨by rw [a.cell (Ub c0)];exact c0,by rw [a.cell (Ub c1)];exact c1,by rw [a.cell (Ub d)];exact d,by rw [a.cell (Ub f)];exact f⟩
def Ps.cases {P:List St} (h:Ps kk w v P):(P=[]/\∃ ao c,v=.slice ao 0 c)\/∃ b off c,v=Z5 (ZW ⟨b,off,ZX⟩) P.length c/\P.length<=4398046511104/\∀ i (l:i<P.length),
 w.cell? ⟨b,off+i*4,ZX⟩=ZW (.int kk P[i].k)/\w.cell? ⟨b,off+i*4+1,ZX⟩=ZW (Z7 Z9 P[i].a)/\w.cell? ⟨b,off+i*4+2,ZX⟩=ZW (Z7 Z9 P[i].b)/\w.cell? ⟨b,off+i*4+3,ZX⟩=ZW (Z7 .u8 P[i].c):=by
 obtain ⟨ao,c,d,f,g⟩:=h;by_cases e:P=[]
 . subst e;exact .inl ⟨rfl,ao,c,d⟩
 . obtain ⟨b,off,rfl,j⟩:=g e;exact .inr ⟨b,off,c,d,f,j⟩
def Ps.slice {P:List St} (h:Ps kk w v P):∃ ao c,v=.slice ao P.length c:=by
 obtain ⟨ao,c,a,_⟩:=h;exact ⟨ao,c,a⟩
def iG (s:St) (regs shards:Int):Prop:=(s.k=0\/s.k=2)/\0<=s.a/\s.a<regs/\0<=s.b/\s.b<shards\/s.k=1/\0<=s.a/\s.a<regs/\0<=s.b/\s.b<regs/\s.a≠s.b
def zF (regs:Int) (P:List St):Prop:=0<=regs/\regs<=32/\P.length<=2000
def iH (regs:Int) (P:List St) (shards:Int):Prop:=zF regs P/\∀ i (hi:i<P.length),iG P[i] regs shards
def BIs (p:Prop) (w:ZT) (r:ZO) (w':ZT):Prop:=∃ b:Bool,r=Z3 (Z1 b)/\(b=ZV↔p)/\bW w w'
def aa0 (p:Prop) (w:ZT) (r:ZO) (w':ZT):Prop:=∃ b:Bool,r=Z3 (Z1 b)/\(b=ZV↔p)/\w'=w
def AM (n e:Int):Prop:=0<=n/\n<e
theorem tD (n e:Int) (w:ZT) :
 ZQ ZI 209 #[Z7 Z9 n,Z7 Z9 e] w λr w'=>aa0 (AM n e) w r w':=by
 by_cases a:0<=n
 . go_enter func209,ntmps209;go_wp2;go_ret;exact ⟨_,rfl,by unfold AM;simp [a],rfl⟩
 . go_enter func209,ntmps209;go_wp2;go_ret;exact ⟨_,rfl,by unfold AM;simp;omega,rfl⟩
def fj (n e:Int) (h:AM n e) (w:ZT) :
 ZQ ZI 209 #[Z7 Z9 n,Z7 Z9 e] w λr w'=>r=Z3 (Z1 ZV)/\w'=w:=by
 refine (tD n e w).mono ?_;rintro r w' ⟨b,rfl,a,rfl⟩;exact ⟨by rw [a.2 h],rfl⟩
def jF (n e:Int) (h:¬ AM n e) (w:ZT) :
 ZQ ZI 209 #[Z7 Z9 n,Z7 Z9 e] w λr w'=>r=Z3 (Z1 ZU)/\w'=w:=by
 refine (tD n e w).mono ?_;rintro r w' ⟨b,rfl,a,rfl⟩;cases b
 . exact ⟨rfl,rfl⟩
 . exact absurd (a.1 rfl) h
theorem BD (regs:Int) (v:ZS) (P:List St) (w:ZT) (h:Ps .u8 w v P) :
 ZQ ZI 195 #[.agg #[Z7 Z9 regs,v]] w λr w'=>BIs (zF regs P) w r w':=by
 obtain ⟨ao,c,rfl⟩:=h.slice;clear h;have d:bW w (w.alloc (Z4 #[Z7 Z9 regs,.slice ao P.length c] 214)):=bA _ _;by_cases b:AM regs 33
 . have a:=ak b;clear b;go_enter func195,ntmps195;go_wp2_with (go_at_call 209;refine (fj _ _ a.o _).mono ?_;rintro e w' ⟨rfl,rfl⟩);go_ret;refine ⟨_,rfl,?_,d⟩;have:=a.o;unfold AM at this;unfold zF;simp;omega
 . have a:=ak b;clear b;go_enter func195,ntmps195;go_wp2_with (go_at_call 209;refine (jF _ _ a.o _).mono ?_;rintro e w' ⟨rfl,rfl⟩);go_ret;refine ⟨_,rfl,?_,d⟩;have:=a.o;unfold AM at this;unfold zF;simp;omega
theorem Ia (s:St) (regs d:Int) (w:ZT) :
 ZQ ZI 196 #[.agg #[Z7 .u8 s.k,Z7 Z9 s.a,Z7 Z9 s.b,Z7 .u8 s.c],Z7 Z9 regs,Z7 Z9 d] w λr w'=>BIs (iG s regs d) w r w':=by
 obtain ⟨k,a,b,c⟩:=s;have j:bW w (w.alloc (Z4 #[Z7 .u8 k,Z7 Z9 a,Z7 Z9 b,Z7 .u8 c] 290)):=bA _ _;by_cases l:k=0\/k=2
 . by_cases g:AM a regs
   . by_cases i:AM b d
     . have f:=ak g;have h:=ak i;clear g i;rcases l with rfl|rfl;all_goals
        go_enter func196,ntmps196;go_wp2_with fail;refine (fj _ _ f.o _).mono ?_;rintro e w' ⟨rfl,rfl⟩;go_wp2_with fail;refine (fj _ _ h.o _).mono ?_;rintro e w' ⟨rfl,rfl⟩;go_wp2;go_ret;refine ⟨_,rfl,?_,j⟩;have:=f.o;have:=h.o;unfold AM at *;unfold iG;simp;omega
     . have f:=ak g;have h:=ak i;clear g i;rcases l with rfl|rfl;all_goals
        go_enter func196,ntmps196;go_wp2_with fail;refine (fj _ _ f.o _).mono ?_;rintro e w' ⟨rfl,rfl⟩;go_wp2_with fail;refine (jF _ _ h.o _).mono ?_;rintro e w' ⟨rfl,rfl⟩;go_wp2;go_ret;refine ⟨_,rfl,?_,j⟩;have:=f.o;have:=h.o;unfold AM at *;unfold iG;simp;omega
   . have f:=ak g;clear g;rcases l with rfl|rfl;all_goals
      go_enter func196,ntmps196;go_wp2_with (go_at_call 209;refine (jF _ _ f.o _).mono ?_;rintro e w' ⟨rfl,rfl⟩);go_ret;refine ⟨_,rfl,?_,j⟩;have:=f.o;unfold AM at *;unfold iG;simp;omega
 . by_cases k1:k=1
   . subst k1;clear l;by_cases g:AM a regs
     . by_cases i:AM b regs
       . have f:=ak g;have h:=ak i;clear g i;go_enter func196,ntmps196;go_wp2_with fail;refine (fj _ _ f.o _).mono ?_;rintro e w' ⟨rfl,rfl⟩;go_wp2_with fail;refine (fj _ _ h.o _).mono ?_;rintro e w' ⟨rfl,rfl⟩;go_wp2;go_ret;refine ⟨_,rfl,?_,j⟩;have:=f.o;have:=h.o;unfold AM at *;unfold iG;simp;omega
       . have f:=ak g;have h:=ak i;clear g i;go_enter func196,ntmps196;go_wp2_with fail;refine (fj _ _ f.o _).mono ?_;rintro e w' ⟨rfl,rfl⟩;go_wp2_with fail;refine (jF _ _ h.o _).mono ?_;rintro e w' ⟨rfl,rfl⟩;go_wp2;go_ret;refine ⟨_,rfl,?_,j⟩;have:=f.o;have:=h.o;unfold AM at *;unfold iG;simp;omega
     . have f:=ak g;clear g;go_enter func196,ntmps196;go_wp2_with (go_at_call 209;refine (jF _ _ f.o _).mono ?_;rintro e w' ⟨rfl,rfl⟩);go_ret;refine ⟨_,rfl,?_,j⟩;have:=f.o;unfold AM at *;unfold iG;simp;omega
   . have p:((k:Int)==0)=ZU:=(by rw [beq_eq_false_iff_ne];omega);have q:((k:Int)==1)=ZU:=(by rw [beq_eq_false_iff_ne];omega);have t:((k:Int)==2)=ZU:=(by rw [beq_eq_false_iff_ne];omega);have m:=ak l;have n:=ak k1;clear l k1;go_enter func196,ntmps196;go_wp2;go_ret;refine ⟨_,rfl,?_,j⟩;have:=m.out;have:=n.out;unfold iG;simp;omega
def Qq (regs:Int) (P:List St) (shards:Int) (w:ZT) (r:ZO) (w':ZT):Prop:=(iH regs P shards->r=Z3 .nilIface)/\(¬ iH regs P shards->r=Z3 (.iface 66 (Z7 Z9 4)))/\bW w w'
def ChR (w:ZT) (regs shards:Int) (P:List St) (i:ZS) (wr:ZT):Prop:=∃ k:Nat,k<=P.length/\i=Z7 Z9 k/\(∀ j (hj:j<P.length),j<k->iG P[j] regs shards)/\bW w wr
theorem aas {x:ZS} (h:ZR (n+1) (w.alloc (Z4 #[x,y] t)) w') (a:n=w.heap.size):w'.cell? ⟨n,0,ZX⟩=ZW x/\w'.cell? ⟨n,1,ZX⟩=ZW y:=by
 subst a;constructor
 . rw [h.cell (by simp)];simp
 . rw [h.cell (by simp)];simp
theorem Ib (regs d:Int) (v:ZS) (P:List St) (w:ZT) (h:Ps .u8 w v P) :
 ZQ ZI 173 #[.agg #[Z7 Z9 regs,v],Z7 Z9 d] w λr w'=>Qq regs P d w r w':=by
 have n:bW w (w.alloc (Z4 #[Z7 Z9 regs,v] 214)):=bA _ _;have y:=h.mono n;obtain ⟨ao,c,rfl⟩:=h.slice;go_enter func173,ntmps173;go_wp2_with fail;refine (BD regs _ P _ y).mono ?_;rintro r w1 ⟨b,rfl,q,l⟩;try change ZR _ _ _ at l
 rw [Uh] at l;obtain ⟨M,Y⟩:=aas l rfl;have L:=l.size;try change ZR _ _ _ at L
 rw [Uh] at L;have m:=n.trans (l.mono (by omega));cases b
 . have N:=ak (show ¬ iH regs P d from λg=>by have:=q.2 g.1;simp at this);clear q l y h n;go_wp2;go_ret;exact ⟨λg=>absurd g N.o,λ_=>rfl,m⟩
 . have G:=ak (q.1 rfl);have z:=h.mono m;clear q l y n h;rcases z.cases with ⟨rfl,O,Q,e⟩|⟨b,off,Q,e,_,C⟩
   . simp at e;obtain ⟨rfl,rfl⟩:=e;clear z;go_wp2;refine VC 1 ?_;rw [U5];go_wp2;go_ret;exact ⟨λ_=>rfl,λg=>absurd ⟨G.o,λi t=>by simp at t⟩ g,m⟩
   . simp at e;obtain ⟨rfl,rfl⟩:=e;clear z;go_wp2;go_loopw [14] (λi wr=>ChR w1 regs d P i wr) (λi _=>P.length-(intOf i).toNat)
     case atStart=>exact ⟨0,T5 _,rfl,λj _ D=>absurd D (by omega),TW _ _⟩
     case round=>
      rename ZT=>wo;obtain ⟨k,V,rfl,p,f⟩:=hrel;have E:=(f.cell (Ub M)).trans M;by_cases K:k<P.length
      . obtain ⟨c0,c1,u,x⟩:=C k K;have R:=(f.cell (Ub c0)).trans c0;have d1:=(f.cell (Ub c1)).trans c1;have S:=(f.cell (Ub u)).trans u;have T:=(f.cell (Ub x)).trans x;have B:=ak p;clear C p c0 c1 u x;have F:=(((TW wo.heap.size wo).alloc lR (Z4 #[Z7 .u8 P[k].k,Z7 Z9 P[k].a,Z7 Z9 P[k].b,Z7 .u8 P[k].c] 290)).cell (Ub E)).trans E;have H:=f.alloc f.size (Z4 #[Z7 .u8 P[k].k,Z7 Z9 P[k].a,Z7 Z9 P[k].b,Z7 .u8 P[k].c] 290);have X:=f.size;go_wp2_with fail;refine (Ia P[k] regs d _).mono ?_;rintro r w2 ⟨b2,rfl,J,s⟩;try change ZR _ _ _ at s
        rw [Uh] at s;have I:=H.trans (s.mono (by omega));have A:=ak J;clear s J R d1 S T E F f H;cases b2
        . go_wp2;go_ret;exact ⟨λg=>absurd (A.out.2 (g.2 k K)) (by simp),λ_=>rfl,m.trans (I.mono (by omega))⟩
        . go_wp2;go_roundw
          case rel=>
           refine ⟨k+1,by omega,by go_num,λj D W=>?_,I⟩;by_cases e:j=k
           . subst e;first|exact A.out.1 rfl|exact A.out.1 trivial
           . exact B.out j D (by omega)
          case measure=>simp [intOf];omega
      . have U:k=P.length:=(by omega);subst U;have B:=ak p;clear C p;go_wp2;go_ret;exact ⟨λ_=>rfl,λg=>absurd ⟨G.o,λi t=>B.out i t t⟩ g,m.trans (f.mono (by omega))⟩
def eC (kk:IntKind):List St->List ZS
 | []=>[]
 | s::P=>HU kk s++eC kk P
def rk (kk:IntKind):∀ P Q,eC kk (P++Q)=eC kk P++eC kk Q
 | [],_=>rfl
 | s::P,Q=>by simp [eC,rk kk P Q]
def Gb (kk:IntKind):∀ (P:List St) (i:Nat) (b:i<P.length) (j:Nat),j<4->(eC kk P)[i*4+j]?=(HU kk P[i])[j]?
 | s::P,0,_,j,a=>by
  simp only [eC,abt,Ui,abZ];rw [VD (by simpa [HU] using a)]
 | s::P,i+1,b,j,a=>by
  have e:(i+1)*4+j=(HU kk s).length+(i*4+j):=by simp [HU];omega
  simp only [eC,Yg];rw [e,U6 (Nat.le_add_right _ _),WN];exact Gb kk P i (by simpa using b) j a
def BE (w:ZT) (n:Nat) (b:n=w.heap.size) (x y z u:ZS) (t:ZL):∀ j v,[x,y,z,u][j]?=ZW v->(w.alloc (Z4 #[x,y,z,u] t)).cell? ((⟨n,0,ZX⟩:ZP).add j)=ZW v:=by
 subst b;intro j v a;rw [jC];rcases j with _|_|_|_|j;all_goals simp at a
 all_goals subst a;simp
def NR {e:ZL} {P:List St} (h:w.ownsRow base e 4 v P.length (eC kk P)) (hl:P.length<=4398046511104):Ps kk w v P:=by
 rcases h.2 with ⟨b,c⟩|⟨g,cap,cur,a,k,l,m,n,o,p⟩
 . have:P=[]:=UX c;subst this;exact ⟨ZX,0,b,by simp,λh=>absurd rfl h⟩
 . subst a;refine ⟨ZW ⟨g,0,ZX⟩,cap,rfl,hl,λ_=>⟨g,0,rfl,λi d=>?_⟩⟩;have at':∀ j,j<4->w.cell? ⟨g,0+i*4+j,ZX⟩=(HU kk P[i])[j]?:=λj f=>by
    rw [Ui,h.cellAt (i*4+j) (by omega),Gb kk P i d j f]
   exact ⟨at' 0 (by decide),at' 1 (by decide),at' 2 (by decide),at' 3 (by decide)⟩
def BF {ob:Option Nat} (h:w0.grownBy w ob) (o:Obj):w0.grownBy (w.alloc o) ob:=
 ⟨h.os,h.tape,h.output,by rw [Uh];have:=h.size;omega,λk a b=>by rw [<- h.block k a b];exact ((TW w.heap.size w).alloc lR o).block k (TZ a h.size)⟩
def dz (w:ZT) (b i:Nat) (v:ZS):w.grownBy (w.setCell ⟨b,i,ZX⟩ v) (ZW b):=
 ⟨rfl,rfl,rfl,by simp,λk _ a=>by
  have:b≠k:=λe=>a (by rw [e]);simp [World.setCell,VL,this]⟩
def oB (w:ZT) (o:Obj) (k:Nat) (h:k<w.heap.size):(w.alloc o).heap[k]?=w.heap[k]?:=((TW w.heap.size w).alloc lR o).block k h
def KU (w:ZT) (a b c:Obj):(((w.alloc a).alloc b).alloc c).heap.size=w.heap.size+3/\(((w.alloc a).alloc b).alloc c).heap[w.heap.size]?=ZW a/\(((w.alloc a).alloc b).alloc c).heap[w.heap.size+1]?=ZW b/\(((w.alloc a).alloc b).alloc c).heap[w.heap.size+1+1]?=ZW c:=by
 have d:=Uh w a;have e:=Uh (w.alloc a) b;have:=Uh ((w.alloc a).alloc b) c;refine ⟨by omega,?_,?_,?_⟩
 . rw [oB _ _ _ (by omega),oB _ _ _ (by omega)];exact UE w a
 . rw [oB _ _ _ (by omega),<- d];exact UE _ b
 . rw [<- d,<- e];exact UE _ c
def aw {ob:Nat} {x:ZS} (h:w.heap[ob]?=ZW (Z4 #[x,y] t (0,0))):w.cell? ⟨ob,0,ZX⟩=ZW x/\w.cell? ⟨ob,1,ZX⟩=ZW y/\w.frozen? ⟨ob,1,ZX⟩=ZU/\w.frozen? ⟨ob,0,ZX⟩=ZU:=by
 simp [World.cell?,World.frozen?,h]
def bI (P:List St) (k:Nat):St:=P.getD k ⟨3,0,0,0⟩
def dR (P:List St) (k:Nat) (h:k<P.length):bI P k=P[k]:=by simp [bI,h]
def fl (P:List St) (D:List a8):Nat->Option Nat
 | 0=>ZX
 | k+1=>match fl P D k with
  | some n=>ZW n
  | none=>if (bI P k).k=0 then ZW (D.getD (bI P k).b.toNat []).length else ZX
def oC (gone i:Nat):Prop:=gone/2^i%2=1
def NS (P:List St) (D:List a8) (gone i:Nat):Prop:=(bI P i).k=0->¬ oC gone (bI P i).b.toNat/\fl P D (i+1)=ZW (D.getD (bI P i).b.toNat []).length/\(D.getD (bI P i).b.toNat []).length<=4096
def gC (P:List St) (D:List a8) (gone:Nat):Prop:=∀ i,i<P.length->NS P D gone i
def eE (P:List St) (D:List a8):Nat:=(fl P D P.length).getD 0
def oD (P:List St) (D:List a8) (k n:Nat) (h:fl P D k=ZW n):fl P D (k+1)=ZW n:=by simp [fl,h]
def zG (P:List St) (D:List a8) (k:Nat) (h:fl P D k=ZX) (a:(bI P k).k=0):fl P D (k+1)=ZW (D.getD (bI P k).b.toNat []).length:=by simp [fl,h,a]
def tE (P:List St) (D:List a8) (k:Nat) (a:(bI P k).k≠0):fl P D (k+1)=fl P D k:=by
 cases h:fl P D k<;>simp [fl,h,a]
def Gc (P:List St) (D:List a8) (k n:Nat) (h:fl P D k=ZW n):∀ m,k<=m->fl P D m=ZW n:=by
 intro m a;induction m with
 | zero => have:k=0:=by omega
           subst this;exact h
 | succ m ih=>
  by_cases e:k=m+1
  . subst e;exact h
  . exact oD P D m n (ih (by omega))
def Qr {P:List St} {D:List a8} (h:gC P D gone) (i:Nat) (a:i<P.length) (c:(bI P i).k=0):(D.getD (bI P i).b.toNat []).length=eE P D:=by
 have:=(h i a c).2.1;have:=Gc P D (i+1) _ this P.length (by omega);simp [eE,this]
def Po {P:List St} {D:List a8} (h:gC P D gone):∀ k,k<=P.length->∀ n,fl P D k=ZW n->n<=4096
 | 0,_,n,e=>by simp [fl] at e
 | k+1,hk,n,e=>by
  cases a:fl P D k with
  | some m=>
   have:=Po h k (by omega) m a;rw [oD P D k m a] at e;simp at e;omega
  | none=>
   by_cases b:(bI P k).k=0
   . have q:=(h k (by omega) b);rw [q.2.1] at e;have:=UJ e;omega
   . rw [tE P D k b,a] at e;simp at e
def Ic {P:List St} {D:List a8} (h:gC P D gone):eE P D<=4096:=by
 unfold eE;cases hf:fl P D P.length with
 | none=>simp
 | some n=>exact Po h P.length lR n hf
def iI (x y:a8) (c:Nat):a8:=(YE x.length).map λj=>x.getD j 0^^^gm c (y.getD j 0)
def dM (D:List a8) (s:St) (R:List a8):List a8:=
 if s.k=0 then R.set s.a.toNat (D.getD s.b.toNat []) else if s.k=1 then R.set s.a.toNat (iI (R.getD s.a.toNat []) (R.getD s.b.toNat []) s.c) else R
def ia (s:St) (R:List a8) (O:List (Int×a8)):List (Int×a8):=if s.k=2 then O++[(s.b,R.getD s.a.toNat [])] else O
def bT (P:List St) (D:List a8) (R0:List a8):Nat->List a8
 | 0=>R0
 | k+1=>dM D (bI P k) (bT P D R0 k)
def dB (P:List St) (D:List a8) (R0:List a8):Nat->List (Int×a8)
 | 0=>[]
 | k+1=>ia (bI P k) (bT P D R0 k) (dB P D R0 k)
def eV (r n:Nat):List a8:=YF r (YF n 0)
def In (w:ZT) (b:Nat) (D:List a8) (gone:Nat):Prop:=∀ i (hi:i<D.length),(oC gone i->w.cell? ⟨b,i,ZX⟩=ZW (Z5 ZX 0 0))/\(¬ oC gone i->∃ a c,w.cell? ⟨b,i,ZX⟩=ZW (Z5 (ZW a) (D[i]).length c)/\Bs w (Z5 (ZW a) (D[i]).length c) D[i])
def In.mono {D:List a8} (h:In w b D gone) (d:bW w w'):In w' b D gone:=λi l=>by
 obtain ⟨g,j⟩:=h i l;refine ⟨λf=>by have:=g f;rw [d.cell (Ub this)];exact this,λf=>?_⟩;obtain ⟨a,c,e,k⟩:=j f;exact ⟨a,c,by rw [d.cell (Ub e)];exact e,k.mono d⟩
def zH (P:List St):Nat:=P.foldl (λs t=>if t.k=0 then s|||2^t.b.toNat else s) 0
def BG (P:List St) (t:St):zH (P++[t])=if t.k=0 then zH P|||2^t.b.toNat else zH P:=by unfold zH;rw [Wq];rfl
def KV {P:List St} (a:k<P.length):zH (P.take (k+1))=if P[k].k=0 then zH (P.take k)|||2^P[k].b.toNat else zH (P.take k):=by
 rw [Vh,Ua a,YV,BG]
theorem oE (P:List St) (i:Nat):(zH P).testBit i=ZV↔∃ s∈P,s.k=0/\s.b.toNat=i:=by
 obtain ⟨Q,rfl⟩:∃ Q,P=Q.reverse:=⟨P.reverse,by simp⟩;induction Q with
 | nil=>simp [zH]
 | cons t Q ih=>
  rw [List.reverse_cons,BG];by_cases h:t.k=0
  . rw [TT h,Wh,XH,XF,ih,Wt];constructor
    . rintro (⟨s,a,c⟩|a)
      . exact ⟨s,UL _ a,c⟩
      . exact ⟨t,by simp,h,a⟩
    . rintro ⟨s,a,c,d⟩;rcases Uj.1 a with q|q
      . exact .inl ⟨s,q,c,d⟩
      . rw [Vp] at q;exact .inr (by rw [<- q];exact d)
  . rw [TS h,ih];constructor
    . rintro ⟨s,a,c⟩;exact ⟨s,UL _ a,c⟩
    . rintro ⟨s,a,c⟩;rcases Uj.1 a with q|q
      . exact ⟨s,q,c⟩
      . rw [Vp] at q;exact absurd (q▸c.1) h
def KX {P:List St} (h:∀ s∈P,s.k=0->s.b.toNat<16):zH P<65536:=by
 refine Nat.lt_pow_two_of_testBit (n:=16) _ λi e=>?_;cases hb:(zH P).testBit i
 . rfl
 . obtain ⟨s,a,c,d⟩:=(oE P i).1 hb;have:=h s a c;omega
def LoR (w:ZT) (P:List St) (lv iv:ZS) (wr:ZT):Prop:=∃ k:Nat,k<=P.length/\iv=Z7 Z9 k/\lv=Z7 Z8 (zH (P.take k):Nat)/\bW w wr
theorem Ie (regs:Int) {v:ZS} {P:List St} {w:ZT} (h:Ps .u8 w v P) (y:∀ s∈P,s.k=0->0<=s.b/\s.b<16) (hl:P.length<=5000) :
 ZQ ZI 143 #[.agg #[Z7 Z9 regs,v]] w λe w'=>e=Z3 (Z7 Z8 (zH P:Nat))/\bW w w':=by
 obtain ⟨ao,c,rfl⟩:=h.slice;have n:bW w (w.alloc (Z4 #[Z7 Z9 regs,.slice ao P.length c] 214)):=bA w _;have p:(w.alloc (Z4 #[Z7 Z9 regs,.slice ao P.length c] 214)).heap[w.heap.size]?=ZW (Z4 #[Z7 Z9 regs,.slice ao P.length c] 214 (0,0)):=Ug _ _;obtain ⟨w1,u⟩:=nM (w.alloc (Z4 #[Z7 Z9 regs,.slice ao P.length c] 214));rw [u] at n p;have k1:w1.cell? ⟨w.heap.size,1,ZX⟩=ZW (.slice ao P.length c):=by simp [World.cell?,p]
 have H:=aE n h y;clear n p h y;go_enter func143,ntmps143;go_wp2;go_loopw [3,9] (λG q wr=>LoR w P G q wr) (λ_ q _=>P.length-(intOf q).toNat)
 case atStart=>exact ⟨0,T5 _,rfl,rfl,H.o.1⟩
 case round=>
  clear k1 u;rename ZT=>wo;obtain ⟨k,M,rfl,rfl,f⟩:=hrel;by_cases l:k<P.length
  . rcases (H.o.2.1.mono f).cases with ⟨rfl,_⟩|⟨b,off,I,e,_,z⟩
    . simp at l
    simp at e;obtain ⟨rfl,rfl⟩:=e;obtain ⟨J,d1,K,L⟩:=z k l;have t:=f.alloc f.size (Z4 #[Z7 .u8 P[k].k,Z7 Z9 P[k].a,Z7 Z9 P[k].b,Z7 .u8 P[k].c] 290);have j:=ak (KV l);have A:=ak (H.o.2.2 _ (TY l));have C:=ak (KX (P:=P.take k) (λs F B=>by have:=H.o.2.2 s (UY F) B;omega));have i:=ak t;clear z f t;generalize P[k].k=r at *;generalize P[k].b=sb at *;by_cases g:r=0
    . have tk:((r:Int)==0)=ZV:=(by simp [g]);have N:=A.o g;have d:=j.o;rw [TT g] at d;have m:=ak d;clear g d j;obtain ⟨x,rfl⟩:∃ x:Nat,sb=(x:Int):=⟨sb.toNat,by omega⟩;go_wp2_with fail;refine (lD (zH (P.take k)) x (by have:=C.out;omega) (by omega) _).mono ?_;rintro e O ⟨rfl,E⟩;subst E;go_wp2;go_roundw
      case rel=>exact ⟨k+1,by omega,by go_num,by rw [m.out,VG],i.o⟩
      case measure=>simp [intOf]<;>omega
    . have tk:((r:Int)==0)=ZU:=(by simp;omega);have d:=j.o;rw [TS g] at d;have m:=ak d;clear g d j;go_wp2;go_roundw
      case rel=>exact ⟨k+1,by omega,by go_num,by rw [m.out],i.o⟩
      case measure=>simp [intOf]<;>omega
  . have D:k=P.length:=(by omega);subst D;rw [VE];have i:=ak f;clear f;go_wp2;go_ret;exact ⟨rfl,i.o⟩
def bv (l:a8):List ZS:=l.map λx=>Value.int .u8 ((x:Nat):Int)
theorem KY (h:w.heap[g]?=ZW (Z4 (((bv l).toArray)++Builtin.zeroCells #[Z7 .u8 0] m) 5 (0,0))):aI w g (l++YF m 0):=by
 have e:((bv l).toArray++Builtin.zeroCells #[Z7 .u8 0] m)=((l++YF m 0).map (λx=>Value.int .u8 ((x:Nat):Int))).toArray:=by
  apply Array.ext';simp [bv,Builtin.zeroCells,Nat.mod_one,List.map_const']
 rw [e] at h;refine ⟨_,h,by simp,λi a=>?_⟩;rw [Xm,UA,Ua a];simp [vb,Ua a]
def Em (b:o.guard=ZX) (s x:ZJ) (t:ZL) (ho:o.op=.call { callee:=.builtin .append,args:=#[s,x],argTypes:=#[t,t] })
 (vs vx v':ZS) (hs:a.eval s=vs) (hx:a.eval x=vx) (h0:(Builtin.append_ #[t,t] o.type #[vs,vx]).run ZI w=.ok v' w') (h:wpList ZI ops Q rest (a.put o.dst v') w'):wpList ZI ops Q (o::rest) a w:=by
 refine VZ b λK hK=>?_;unfold Oper.wp;simp [execOp,ho,resolve,invoke,builtin,hs,hx,h0,Result.andThen];exact hK _ _ h
theorem En (d:ZP) (c:Nat) (l:a8) (w:ZT) (h:Bs w (Z5 (ZW d) l.length c) l) (hl:l.length<=100000) :
 ZQ ZI 177 #[Z5 (ZW d) l.length c] w λe w'=>∃ b m,e=Z3 (Z5 (ZW ⟨b,0,ZX⟩) l.length (l.length+m))/\w.heap.size<=b/\aI w' b (l++YF m 0)/\l.length+m<=9223372036854775807/\bW w w':=by
 obtain ⟨M,E,H,I,J⟩:=Us Tryz.R2;have D:=λN=>XO (P:=ZI) N 39 5 (ZW d) l.length c 0 0 Ul;have n:∀ j u,(bv l)[j]?=ZW u->(w.alloc (Z4 #[] 5)).cell? (d.add j)=ZW u:=by
  intro j u s;obtain ⟨t,O,e,_,_,_,z⟩:=h.mono ((TW _ _).alloc lR (Z4 #[] 5));have g:j<l.length:=by
   obtain ⟨q,_⟩:=Va.1 s;simpa [bv] using q
  obtain ⟨p,a,k,G⟩:=z (by intro e;rw [e] at g;simp at g);simp at e;rw [<- e.1] at k;simp at k;subst k;have x:(⟨p,a,ZX⟩:ZP).add j=⟨p,a+j,ZX⟩:=by unfold Addr.add;split<;>simp_all
  rw [x,G j g,<- s];simp [bv,g]
 have f:bW w (w.alloc (Z4 #[] 5)):=bA _ _;by_cases y:l.length=0
 . have F:l=[]:=UX y;subst F;clear h n;go_enter func177,ntmps177;simp only [UW] at D;go_wp2;go_ret;exact ⟨w.heap.size,0,rfl,TV _,⟨#[],UE w _,rfl,λi K=>by simp at K⟩,by omega,f⟩
 . have r:=run_append_grow (P:=ZI) (w:=w.alloc (Z4 #[] 5)) 39 39 5 M (Z7 .u8 0) Ul E H ⟨w.heap.size,0,ZX⟩ 0 0 [] (by simp) (λj v L=>by simp at L) d l.length c (bv l) (by rw [I];simp [bv]) n (by omega) (by omega) (by rw [J];have:=abr (need:=0+l.length) (old:=0) (bytes:=1) (by omega) (by omega);omega);obtain ⟨cp,Q,C,o⟩:∃ cp,l.length<=cp/\cp<=9223372036854775807/\(Builtin.append_ #[39,39] 39 #[Z5 (ZW ⟨w.heap.size,0,ZX⟩) 0 0,Z5 (ZW d) l.length c]).run ZI (w.alloc (Z4 #[] 5))=.ok (Z5 (ZW ⟨w.heap.size+1,0,ZX⟩) l.length cp) ((w.alloc (Z4 #[] 5)).drew.alloc (Z4 ((bv l).toArray++Builtin.zeroCells #[Z7 .u8 0] (cp-l.length)) 5)):=by
    refine ⟨grownCap (w.alloc (Z4 #[] 5)) (0+l.length) 0 5,by have:=abo (w.alloc (Z4 #[] 5)) (0+l.length) 0 5;omega,by have:=abp (w.alloc (Z4 #[] 5)) (0+l.length) 0 5 (by unfold maxLen;omega);unfold maxLen at this;omega,?_⟩;rw [r,Uh];simp [Value.cells]
   obtain ⟨m,rfl⟩:∃ m,cp=l.length+m:=⟨cp-l.length,by omega⟩;rw [WN] at o;have A:=ak o;clear o r n h;go_enter func177,ntmps177;go_wp2_with (at_builtin;refine Em rfl (Z0 5) (Z0 6) 39 rfl _ _ _ rfl rfl A.out ?_);go_ret;have B:aI ((w.alloc (Z4 #[] 5)).drew.alloc (Z4 ((bv l).toArray++Builtin.zeroCells #[Z7 .u8 0] m) 5)) (w.heap.size+1) (l++YF m 0):=by
    refine KY ?_;have:=UE (w.alloc (Z4 #[] 5)).drew (Z4 ((bv l).toArray++Builtin.zeroCells #[Z7 .u8 0] m) 5);rwa [show (w.alloc (Z4 #[] 5)).drew.heap.size=w.heap.size+1 from Uh _ _] at this
   exact ⟨w.heap.size+1,m,rfl,by omega,B,C,((show bW w (w.alloc (Z4 #[] 5)).drew from ⟨f.os,f.tape,f.output,f.size,f.block⟩).alloc (show w.heap.size<=(w.alloc _).heap.size by rw [Uh];omega) _)⟩
def LlR (w:ZT) (P:List St) (D:List a8) (gone:Nat) (lv sv iv:ZS) (wr:ZT):Prop:=
 ∃ k:Nat,k<=P.length/\iv=Z7 Z9 k/\lv=Z7 Z9 ((fl P D k).getD 0:Nat)/\sv=Z1 (fl P D k).isSome/\(∀ i,i<k->NS P D gone i)/\bW w wr
def Qs (P:List St) (D:List a8) (gone:Nat) (w:ZT) (r:ZO) (w':ZT):Prop:=
 (gC P D gone->r=Z3 (ZZ #[Z7 Z9 (eE P D:Nat),.nilIface]))/\(¬ gC P D gone->r=Z3 (ZZ #[Z7 Z9 0,.iface 66 (Z7 Z9 2)]))/\bW w w'
theorem pJ (v:ZS) (P:List St) (W ci:Nat) (D:List a8) (gone:Nat) (w:ZT) (h:Ps .u8 w v P) (L:In w W D gone) (hq:∀ l∈D,l.length<=100000)
 (N:∀ i,i<P.length->(bI P i).k=0->0<=(bI P i).b/\(bI P i).b<(D.length:Int)) (hl:P.length<=5000) :
 ZQ ZI 174 #[v,Z5 (ZW ⟨W,0,ZX⟩) D.length ci] w λr w'=>Qs P D gone w r w':=by
 obtain ⟨ao,c,rfl⟩:=h.slice;go_enter func174,ntmps174;go_wp2;go_loopw [6,7,13] (λlv sv S wr=>LlR w P D gone lv sv S wr) (λ_ _ S _=>P.length-(intOf S).toNat)
 case atStart=>exact ⟨0,T5 _,rfl,rfl,rfl,λi A=>absurd A (by omega),TW _ _⟩
 case round=>
  rename ZT=>wo;obtain ⟨k,hk,rfl,rfl,rfl,J,I⟩:=hrel;have k8:=I.size;by_cases y:k<P.length
  . rcases (h.mono I).cases with ⟨rfl,_⟩|⟨b,off,cc,e,_,X⟩
    . simp at y
    simp at e;obtain ⟨rfl,rfl⟩:=e;obtain ⟨d0,d1,d2,d3⟩:=X k y;have hy:=dR P k y;have K:=N k y;have E:=ak J;have u:=ak (oD P D k);have s:=ak (zG P D k);have H:=ak (tE P D k);have d:cA (NS P D gone k↔((bI P k).k=0->¬ oC gone (bI P k).b.toNat/\fl P D (k+1)=ZW (D.getD (bI P k).b.toNat []).length/\(D.getD (bI P k).b.toNat []).length<=4096)):=Iff.rfl;rw [hy] at K s H d;have j:=I.alloc k8 (Z4 #[Z7 .u8 P[k].k,Z7 Z9 P[k].a,Z7 Z9 P[k].b,Z7 .u8 P[k].c] 290);have M:=L.mono j;clear X J L h N hy;generalize P[k].k=T at *;generalize P[k].b=sb at *;by_cases z:T=0
    . have tk:((T:Int) != 0)=ZU:=(by simp [z]);obtain ⟨q1,q2⟩:=K z;have G:=ak z;clear z;obtain ⟨x,rfl⟩:∃ x:Nat,sb=(x:Int):=⟨sb.toNat,by omega⟩;have O:x<D.length:=(by omega);obtain ⟨Q,R⟩:=M x O;have Y:D.getD x []=D[x]:=(by simp [O]);have k9:=hq _ (TY O);rw [VG,Y] at s d;clear K q1 q2 M Y H;by_cases F:oC gone x
      . have ha:=Q F;have t:cA (¬ gC P D gone):=λhl=>((d.out.1 (hl k y)) G.out).1 F;have k5:=λU=>XO (P:=ZI) U 39 5 ZX 0 0 0 0 Ul;clear Q R d s u;cases hf:fl P D k
        . go_wp2;go_ret2;exact ⟨λhl=>absurd hl t.o,λ_=>rfl,j⟩
        . go_wp2;go_ret2;exact ⟨λhl=>absurd hl t.o,λ_=>rfl,j⟩
      . obtain ⟨ax,cx,ha,hz⟩:=R F;have k5:=λU=>XO (P:=ZI) U 39 5 (ZW ax) (D[x]).length cx 0 0 Ul;clear Q R hz;generalize D[x].length=n at *;cases hf:fl P D k with
        | none=>
         have f:=s.out hf G.out;by_cases g:n<=4096
         . have C:=d.out.2 (λ_=>⟨F,f,g⟩);have B:=ak C;have p:=ak f;clear d s u f C;go_wp2;go_roundw
           case rel=>
            refine ⟨k+1,by omega,by go_num,by first|(rw [p.out];rfl)|rw [p.out],by first|(rw [p.out];rfl)|rw [p.out],λi A=>?_,j⟩;by_cases e:i=k
            . subst e;exact B.out
            . exact E.out i (by omega)
           case measure=>simp [intOf];omega
         . have t:cA (¬ gC P D gone):=λhl=>g ((d.out.1 (hl k y)) G.out).2.2;have k7:(4096:Int)<(n:Int):=(by omega);clear d s u f;go_wp2;go_ret2;exact ⟨λhl=>absurd hl t.o,λ_=>rfl,j⟩
        | some m=>
         have f:=u.out m hf;by_cases g:n=m/\n<=4096
         . obtain ⟨rfl,g⟩:=g;have C:=d.out.2 (λ_=>⟨F,f,g⟩);have B:=ak C;have p:=ak f;have tt:(((n:Nat):Int) != (n:Int))=ZU:=(by simp);clear d s u f C;go_wp2;go_roundw
           case rel=>
            refine ⟨k+1,by omega,by go_num,by first|(rw [p.out];rfl)|rw [p.out],by first|(rw [p.out];rfl)|rw [p.out],λi A=>?_,j⟩;by_cases e:i=k
            . subst e;exact B.out
            . exact E.out i (by omega)
           case measure=>simp [intOf];omega
         . have t:cA (¬ gC P D gone):=λhl=>by
            have q:=(d.out.1 (hl k y)) G.out;rw [f] at q;have:=q.2.1;simp at this;omega
           clear d s u f;by_cases Z:n=m
           . have k7:(4096:Int)<(m:Int):=(by omega);have tt:(((n:Nat):Int) != (m:Int))=ZU:=(by simp;omega);clear g Z;go_wp2;go_ret2;exact ⟨λhl=>absurd hl t.o,λ_=>rfl,j⟩
           . have tt:(((n:Nat):Int) != (m:Int))=ZV:=(by simp;omega);clear g Z;go_wp2;go_ret2;exact ⟨λhl=>absurd hl t.o,λ_=>rfl,j⟩
    . have tk:((T:Int) != 0)=ZV:=(by simp;omega);have V:=ak (H.out z);have B:=ak (d.out.2 (λe=>absurd e z));clear H s u d K M z;go_wp2;go_roundw
      case rel=>
       refine ⟨k+1,by omega,by go_num,by rw [V.o],by rw [V.o],λi A=>?_,j⟩;by_cases e:i=k
       . subst e;exact B.out
       . exact E.out i (by omega)
      case measure=>simp [intOf];omega
  . have k6:k=P.length:=(by omega);subst k6;have E:=ak J;clear h L N J;go_wp2;go_ret2;exact ⟨λ_=>rfl,λg=>absurd (λi A=>E.out i A) g,I⟩
def aO (L:List (ByteArray×ZS)):List ZS:=L.flatMap λq=>[.string q.1,q.2]
def kC (L:List (ByteArray×ZS)):(aO L).length=L.length*2:=by
 induction L with
 | nil=>rfl
 | cons q L ih=>simp only [aO,VN,T8,UD] at ih ⊢;rw [ih];simp;omega
def tF (L:List (ByteArray×ZS)) (k:Nat) (a:k<L.length):(aO L)[k*2]?=ZW (.string L[k].1)/\(aO L)[k*2+1]?=ZW L[k].2:=by
 induction L generalizing k with
 | nil=>simp at a
 | cons q L ih=>
  have e:aO (q::L)=[.string q.1,q.2]++aO L:=by simp [aO]
  rw [e];cases k with
  | zero=>exact ⟨rfl,rfl⟩
  | succ k=>
   simp at a;obtain ⟨b,c⟩:=ih k a;refine ⟨?_,?_⟩
   . rw [U6 (by simp;omega),show (k+1)*2-[Value.string q.1,q.2].length=k*2 by simp;omega];exact b
   . rw [U6 (by simp;omega),show (k+1)*2+1-[Value.string q.1,q.2].length=k*2+1 by simp;omega];exact c
def jq (L M:List (ByteArray×ZS)):aO (L++M)=aO L++aO M:=by simp [aO]
structure rQ (w:ZT) (r base:Nat) (v:ZS) (L:List (ByteArray×ZS)):Prop where
 top:w.heap[r]?=ZW (Z4 #[v] 53 (0,0))
 own:w.ownsRow base 82 2 v L.length (aO L)
def rQ.shape {L:List (ByteArray×ZS)} (h:rQ w r base v L):(v=Z5 ZX 0 0/\L=[])\/∃ g cap,v=Z5 (ZW ⟨g,0,ZX⟩) L.length cap/\base<=g/\L.length<=cap /\
 ∀ k (d:k<L.length),w.cell? ⟨g,k*2,ZX⟩=ZW (.string L[k].1)/\w.cell? ⟨g,k*2+1,ZX⟩=ZW L[k].2:=by
 rcases h.own.2 with ⟨i,j⟩|⟨g,cap,cur,c,e,n,f,o,p,q⟩
 . exact .inl ⟨i,UX j⟩
 . refine .inr ⟨g,cap,c,e,f,λk d=>?_⟩;obtain ⟨l,m⟩:=tF L k d;have:=h.own.cells (g:=g) (by rw [c];rfl);have a:=this _ _ l;have b:=this _ _ m;rw [jC] at a b;exact ⟨a,b⟩
def rQ.cell {L:List (ByteArray×ZS)} (h:rQ w r base v L):w.cell? ⟨r,0,ZX⟩=ZW v/\w.frozen? ⟨r,0,ZX⟩=ZU:=by simp [World.cell?,World.frozen?,h.top]
def FiR (w:ZT) (L:List (ByteArray×ZS)) (name:ByteArray) (i:ZS) (wr:ZT):Prop:=∃ k:Nat,k<=L.length/\i=Z7 Z9 k/\wr=w/\∀ j (hj:j<L.length),j<k->¬ L[j].1.toList=name.toList
theorem jG {L:List (ByteArray×ZS)} (h:rQ w r base v L) (hl:L.length<=1000000) (name:ByteArray) :
 ZQ ZI 43 #[Z6 (ZW ⟨r,0,ZX⟩),.string name] w λe w'=>w'=w/\((∃ k,∃ m:k<L.length,e=Z3 (Z7 Z9 (k:Nat))/\L[k].1.toList=name.toList/\∀ j (a:j<L.length),j<k->¬ L[j].1.toList=name.toList)\/(e=Z3 (Z7 Z9 (-1))/\∀ j (a:j<L.length),¬ L[j].1.toList=name.toList)):=by
 obtain ⟨c0,_⟩:=h.cell;have t:=h.shape;go_enter func43,ntmps43;go_wp2;go_loopw [5] (λi wr=>FiR w L name i wr) (λi _=>L.length-(intOf i).toNat)
 case atStart=>exact ⟨0,T5 _,rfl,rfl,λj _ a=>absurd a (by omega)⟩
 case round=>
  obtain ⟨k,m,rfl,rfl,c⟩:=hrel;rcases t with ⟨rfl,rfl⟩|⟨g,cap,rfl,y,x,n⟩
  . have q:k=0:=(by simpa using m);subst q;clear c;go_wp2;go_ret;exact ⟨rfl,.inr ⟨rfl,λj a=>absurd a (by simp)⟩⟩
  . by_cases l:k<L.length
    . obtain ⟨c1,u⟩:=n k l;have d:=ak c;clear c;by_cases b:L[k].1.toList=name.toList
      . have p:(L[k].1.toList==name.toList)=ZV:=(by rw [b];exact beq_self_eq_true _);have f:=ak b;clear b;go_wp2;go_ret;exact ⟨rfl,.inl ⟨k,l,rfl,f.o,d.o⟩⟩
      . have p:(L[k].1.toList==name.toList)=ZU:=(by rw [beq_eq_false_iff_ne];exact b);have f:=ak b;clear b;go_wp2;refine ⟨⟨k+1,by omega,by go_num,rfl,λj a z=>?_⟩,by simp [intOf];omega⟩;by_cases e:j=k
        . subst e;exact f.o
        . exact d.o j a (by omega)
    . have s:k=L.length:=(by omega);subst s;have d:=ak c;clear c;go_wp2;go_ret;exact ⟨rfl,.inr ⟨rfl,λj a=>d.o j a a⟩⟩
def eK (n:ByteArray):Prop:=1<=n.size/\n.size<=16
def NT (L:List (ByteArray×ZS)) (name:ByteArray) (k:Nat):Prop:=∃ hk:k<L.length,L[k].1.toList=name.toList/\∀ j (hj:j<L.length),j<k->¬ L[j].1.toList=name.toList
def pK (L:List (ByteArray×ZS)) (name:ByteArray):Prop:=∀ j (hj:j<L.length),¬ L[j].1.toList=name.toList
def Qt (L:List (ByteArray×ZS)) (name:ByteArray) (e:ZO):Prop:=
 (¬ eK name/\e=Z3 (ZZ #[Z5 ZX 0 0,Z7 Z9 6]))\/(eK name/\pK L name/\e=Z3 (ZZ #[Z5 ZX 0 0,Z7 Z9 9]))\/(eK name/\∃ k,NT L name k/\e=Z3 (ZZ #[(L.getD k (ByteArray.empty,ZY)).2,Z7 Z9 0]))
theorem BH {L:List (ByteArray×ZS)} (h:rQ w r base v L) (hl:L.length<=1000000) (name:ByteArray) :
 ZQ ZI 23 #[Z6 (ZW ⟨r,0,ZX⟩),.string name] w λe w'=>w'=w/\Qt L name e:=by
 obtain ⟨c0,_⟩:=h.cell;have j:=h.shape;have l:=jG h hl name;by_cases t:name.size=0
 . have n0:(name.size:Int)=0:=(by omega);go_enter func23,ntmps23;go_wp2;go_ret2;exact ⟨rfl,.inl ⟨λq=>by have:=q.1;omega,rfl⟩⟩
 . have n0:¬ (name.size:Int)=0:=(by omega);by_cases x:16<name.size
   . have p:(16:Int)<(name.size:Int):=(by omega);go_enter func23,ntmps23;go_wp2;go_ret2;exact ⟨rfl,.inl ⟨λq=>by have:=q.2;omega,rfl⟩⟩
   . have p:¬ (16:Int)<(name.size:Int):=(by omega);have i:eK name:=⟨by omega,by omega⟩;go_enter func23,ntmps23;go_wp2_with fail;refine l.mono ?_;rintro e w' ⟨rfl,n⟩;clear l;rcases n with ⟨k,b,rfl,m,c⟩|⟨rfl,f⟩
     . rcases j with ⟨rfl,rfl⟩|⟨g,cap,rfl,y,u,d⟩
       . exact absurd b (by simp)
       . obtain ⟨c1,s⟩:=d k b;have a:=al m c;clear m c d;go_wp2;go_ret2;exact ⟨rfl,.inr (.inr ⟨i,k,⟨b,a.o.1,a.o.2⟩,by simp [b]⟩)⟩
     . have a:=ak f;clear f j;go_wp2;go_ret2;exact ⟨rfl,.inr (.inl ⟨i,a.o,rfl⟩)⟩
def BI:ZS->Nat
 | .slice _ n _=>n
 | _=>0
def kD (v:ZS):Prop:=∃ ao n c,v=.slice ao n c/\n<=1000000
def bQ (L:List (ByteArray×ZS)) (q k:Nat):Nat:=((L.take k).map λo=>BI o.2/q+1).sum
def lG (L:List (ByteArray×ZS)) (q k:Nat) (a:k<L.length):bQ L q (k+1)=bQ L q k+(BI L[k].2/q+1):=by
 unfold bQ;rw [Vh,Ua a];simp only [Uv,YB,YV,UG,Vg,XI,List.sum_nil,VR]
def oF (L:List (ByteArray×ZS)) (q k:Nat) (h:∀ o∈L,BI o.2<=1000000) (c:k<=L.length):bQ L q k<=k*1000001:=by
 induction k with
 | zero=>simp [bQ]
 | succ k ih=>
  rw [lG L q k (by omega)];have:=ih (by omega);have:=h L[k] (TY _);have:BI L[k].2/q<=BI L[k].2:=VU _ _;omega
def jr (L:List (ByteArray×ZS)) (data:Nat) (more:Int):Nat:=
 let q:=data*44
 if 0<=more then bQ L q L.length+(more.toNat/q+1)+2*((L.length+1)*200/q+1) else bQ L q L.length+2*(L.length*200/q+1)
def NeR (w:ZT) (L:List (ByteArray×ZS)) (q:Nat) (n i:ZS) (wr:ZT):Prop:=∃ k:Nat,k<=L.length/\n=Z7 Z9 (bQ L q k:Nat)/\i=Z7 Z9 k/\wr=w
theorem Eo {L:List (ByteArray×ZS)} (h:rQ w r base v L) (hl:L.length<=1000) (E:∀ o∈L,kD o.2) (data:Nat) (X:1<=data) (V:data<=1000) (more:Int) (Z:-1<=more) (hi:more<=1000000) :
 ZQ ZI 29 #[Z6 (ZW ⟨r,0,ZX⟩),Z7 Z9 data,Z7 Z9 more] w λe w'=>w'=w/\e=Z3 (Z7 Z9 (jr L data more:Nat)):=by
 obtain ⟨c0,_⟩:=h.cell;have p:=h.shape;have A:∀ o∈L,BI o.2<=1000000:=λo ho=>by obtain ⟨ao,n,c,e,C⟩:=E o ho;rw [e];exact C
 obtain ⟨q,D⟩:∃ q,q=data*44:=⟨_,rfl⟩;have hj:1<=q:=by omega
 have hp:q<=44000:=by omega
 have hr:(data:Int)*44=(q:Int):=by omega
 have x:=ak D;clear D;have B:v=Z5 ZX 0 0/\L.length=0\/∃ g cap,v=Z5 (ZW ⟨g,0,ZX⟩) L.length cap:=by
  rcases p with ⟨a,j⟩|⟨g,cap,a,_⟩
  . exact .inl ⟨a,by rw [j];rfl⟩
  . exact .inr ⟨g,cap,a⟩
 obtain ⟨ao,cap,F⟩:∃ ao cap,v=.slice ao L.length cap:=by
  rcases B with ⟨a,j⟩|⟨g,cap,a⟩
  . exact ⟨ZX,0,by rw [a,j]⟩
  . exact ⟨_,_,a⟩
 rw [F] at c0;go_enter func29,ntmps29;go_wp2;go_loopw [8,10] (λn i wr=>NeR w L q n i wr) (λ_ i _=>L.length-(intOf i).toNat)
 case atStart=>exact ⟨0,T5 _,rfl,rfl,rfl⟩
 case round=>
  obtain ⟨k,O,rfl,rfl,rfl⟩:=hrel;by_cases l:k<L.length
  . rcases p with ⟨_,rfl⟩|⟨g,y,t,W,U,z⟩
    . exact absurd l (by simp)
    . rw [F] at t;simp at t;obtain ⟨rfl,rfl⟩:=t;obtain ⟨c1,H⟩:=z k l;obtain ⟨P,n,Q,e,C⟩:=E L[k] (TY _);have s:=lG L q k l;have N:=oF L q k A O;rw [e] at H s;have J:(n:Int)/(q:Int)=((n/q:Nat):Int):=(by omega);have R:(n:Int).tdiv (q:Int)=((n/q:Nat):Int):=(by rw [XP (by omega)];exact J);have Y:n/q<=n:=VU _ _;have ho:NeR wr L q (Z7 Z9 ((bQ L q k+(n/q+1):Nat):Int)) (Z7 Z9 ((k:Int)+1)) wr:=⟨k+1,by omega,by rw [s];rfl,rfl,rfl⟩;have G:=ak ho;clear ho s z;generalize bQ L q k=S at *;generalize n/q=d at *;go_wp2;have:=G.o;rw [show ((S+(d+1):Nat):Int)=(S:Int)+(d:Int)+1 by omega] at this;exact ⟨this,by simp [intOf];omega⟩
  . have M:k=L.length:=(by omega);subst M;have N:=oF L q L.length A lR;clear p B;by_cases u:0<=more
    . obtain ⟨m,rfl⟩:=Int.eq_ofNat_of_zero_le u;have b:jr L data (m:Int)=bQ L q L.length+(m/q+1)+2*((L.length+1)*200/q+1):=by
       unfold jr;rw [TT u,<- x.o,VG]
      have T:(m:Int).tdiv (q:Int)=((m/q:Nat):Int):=(by rw [XP (by omega)];omega);have K:(((L.length:Int)+1)*200).tdiv (q:Int)=(((L.length+1)*200/q:Nat):Int):=by
       rw [XP (by omega),show ((L.length:Int)+1)*200=(((L.length+1)*200:Nat):Int) by omega];omega
      have b5:m/q<=m:=VU _ _;have b6:(L.length+1)*200/q<=(L.length+1)*200:=VU _ _;have f:=ak b;clear b;generalize bQ L q L.length=S at *;generalize m/q=d at *;generalize (L.length+1)*200/q=I at *;go_wp2;go_ret;exact ⟨rfl,by rw [f.o];congr 2⟩
    . have b:jr L data more=bQ L q L.length+2*(L.length*200/q+1):=by
       unfold jr;rw [TS u,<- x.o]
      have K:((L.length:Int)*200).tdiv (q:Int)=((L.length*200/q:Nat):Int):=by
       rw [XP (by omega),show (L.length:Int)*200=((L.length*200:Nat):Int) by omega];omega
      have b6:L.length*200/q<=L.length*200:=VU _ _;have f:=ak b;clear b;generalize bQ L q L.length=S at *;generalize L.length*200/q=I at *;go_wp2;go_ret;exact ⟨rfl,by rw [f.o];congr 2⟩
def Ep {a:Nat} (h:a^^^c=b^^^c):a=b:=by
 have:=Uy (·^^^c) h;simpa [U3] using this
def Qu {a:Nat} (h:c^^^a=c^^^b):a=b:=Ep (c:=c) (by rw [W0 a,W0 b];exact h)
def BJ (h:r<4294967296):du r/2^28=cI.getD (r%16) 0/2^28:=by
 unfold du;rw [abE,Xy (show r/16<2^28 by omega),VT]
def BK (d:r<4294967296) (e:s<4294967296) (h:du r=du s):r=s:=by
 have a:cI.getD (r%16) 0/2^28=cI.getD (s%16) 0/2^28:=by rw [<- BJ d,<- BJ e,h]
 have c:∀ i j:Fin 16,cI.getD i.1 0/2^28=cI.getD j.1 0/2^28->i.1=j.1:=by decide
 have b:r%16=s%16:=c ⟨r%16,V9 _ (by decide)⟩ ⟨s%16,V9 _ (by decide)⟩ a;unfold du at h;rw [b] at h;have:r/16=s/16:=Ep h;omega
def BL (e:r<4294967296) (f:s<4294967296) (g:b<256) (i:c<256) (h:dC r b=dC s c):r^^^b=s^^^c:=
 have a:r^^^b<4294967296:=V7 (n:=32) e (by omega);have d:s^^^c<4294967296:=V7 (n:=32) f (by omega)
 BK a d (BK (gv a) (gv d) h)
def BM:∀ (l:a8) {r s:Nat},r<4294967296->s<4294967296->(∀ x∈l,x<256)->l.foldl dC r=l.foldl dC s->r=s
 | [],_,_,_,_,_,h=>h
 | b::l,r,s,c,d,hl,h=>by
  have a:=hl b (by simp);exact Ep (BL c d a a (BM l (fh c a) (fh d a) (λx e=>hl x (by simp [e])) h))
def KZ {p q:a8} (j:∀ x∈p,x<256) (f:∀ x∈q,x<256) (d:b<256) (e:c<256) (h:nI (p++b::q)=nI (p++c::q)):b=c:=by
 have a:=ni j;have g:∀ y,di (p++y::q)=q.foldl dC (dC (di p) y):=λy=>by unfold di;rw [Wq,W4]
 have:=zm q _ (fh a d) f;have:=zm q _ (fh a e) f;unfold nI at h;rw [g,g] at h;have i:q.foldl dC (dC (di p) b)=q.foldl dC (dC (di p) c):=by omega
 exact Qu (BL a a d e (BM q (fh a d) (fh a e) f i))
def Gd (a:m<4294967296) (b:n<4294967296) (h:be m 4=be n 4):m=n:=by
 have:=Uy fL h;rwa [lu m 4 (by decide) a,lu n 4 (by decide) b] at this
def tG (hl:l.length=64) (h:(rM l).blk=l):l=YF 64 0\/∃ t,t.length=60/\l=be (nI t) 4++t/\1<=t.getD 0 0/\t.getD 0 0<=3:=by
 by_cases a:(rM l).body.length=0
 . left;unfold bw.blk at h;rw [TT a] at h;exact h.symm
 . right;have b:1<=l.getD 4 0/\l.getD 4 0<=3:=by
    unfold rM at a;by_cases d:l.getD 4 0=1
    . omega
    . by_cases e:l.getD 4 0=2
      . omega
      . by_cases f:l.getD 4 0=3
        . omega
        . rw [TS d,TS e,TS f] at a;exact absurd rfl a
   unfold bw.blk at h;rw [TS a] at h;unfold cJ at h;obtain ⟨t,g⟩:=nM ((rM l).body++YF (60-(rM l).body.length) 0);rw [g] at h;have c:=Uy List.length h;rw [T8,aC,hl] at c;refine ⟨t,by omega,h.symm,?_⟩;rw [<- h,T6,U6 (by rw [aC];decide),aC] at b;rw [T6];exact b
def NU (l:a8) {j:Nat} (h:j<l.length) (x:Nat):l.set j x=l.take j++x::l.drop (j+1):=by rw [List.set_eq_take_append_cons_drop,TT h]
def NV (l:a8) {j:Nat} (h:j<l.length):l=l.take j++l.getD j 0::l.drop (j+1):=by
 rw [T6,Ua h];show l=l.take j++l[j]::l.drop (j+1);rw [<- X7 h,Wo]
theorem rm (p:j<64) (w:x<256) (v:x≠0):¬ ∃ t,t.length=60/\(YF 64 0).set j x=be (nI t) 4++t/\1<=t.getD 0 0/\t.getD 0 0<=3:=by
 rintro ⟨t,r,h,c,f⟩;have a:∀ i,t.getD i 0=((YF 64 0).set j x).getD (i+4) 0:=λi=>by
  rw [h,T6,T6,U6 (by rw [aC];omega),aC,Nat.add_sub_cancel]
 have b:∀ i,((YF 64 0).set j x).getD i 0=if j=i then x else 0:=λi=>by
  rw [T6,Xh];by_cases e:j=i
  . rw [TT e,TT e,XX,TT p];rfl
  . rw [TS e,TS e,WC];split<;>rfl
 have k:j=4:=by
  have:=a 0;rw [b] at this;by_cases e:j=0+4
  . exact e
  . rw [TS e] at this;omega
 subst k;have n:t.getD 0 0=x:=by rw [a,b];rfl
 have m:t=x::YF 59 0:=by
  refine Vb (by simp [r]) λi s z=>?_;have q:=(a i).trans (b _);rw [T6,Ua s] at q;have u:t[i]=if 4=i+4 then x else 0:=q;rw [u];match i with
  | 0=>rfl
  | i+1=>rw [TS (by omega),Yg,List.getElem_replicate]
 have o:be (nI t) 4=[0,0,0,0]:=by
  have:=Uy (YK 4) h;rw [VV (by rw [aC];exact TV _),UI (l:=be (nI t) 4) (by rw [aC];exact TV _)] at this;rw [<- this];simp [YF]
 have d:nI t=0:=Gd (zn _) (by decide) o;rw [n] at c f;have g:∀ y:Fin 4,1<=y.1->nI (y.1::YF 59 0)≠0:=by decide +kernel
 rw [m] at d;exact g ⟨x,by omega⟩ c d
def K2 (hl:l.length=64) (z:∀ y∈l,y<256) {j x:Nat} (c:j<64) (v:x<256) (a:x≠l.getD j 0) (h:(rM l).blk=l):(rM (l.set j x)).blk≠l.set j x:=by
 intro r;have g:j<l.length:=by omega
 have C:l.getD j 0<256:=by rw [T6,Ua g];exact z _ (TY g)
 have s:(l.set j x).set j (l.getD j 0)=l:=by
  rw [List.set_set,T6,Ua g];exact List.set_getElem_self _
 have u:(l.set j x).getD j 0=x:=by rw [T6,abn g];rfl
 rcases tG hl h with e|⟨t,E,e,A,B⟩
 . rcases tG (by rw [VY];exact hl) r with b|w
   . have q:=u;rw [b,T6,WC,TT c] at q;rw [e,T6,WC,TT c] at a;exact a q.symm
   . have q:l.getD j 0=0:=(by rw [e,T6,WC,TT c];rfl);rw [q] at a;rw [e] at w;exact rm c v a w
 . rcases tG (by rw [VY];exact hl) r with b|⟨H,I,b,_⟩
   . have q:x=0:=by
      have q:=u;rw [b,T6,WC,TT c] at q;exact q.symm
     rw [b] at s;rw [q] at a;exact rm c C (λq=>a q.symm) ⟨t,E,s.trans e,A,B⟩
   . by_cases m:j<4
     . have o:(be (nI t) 4++t).set j x=(be (nI t) 4).set j x++t:=List.set_append_left _ _ (by rw [aC];exact m);rw [e,o] at b;have D:((be (nI t) 4).set j x).length=(be (nI H) 4).length:=(by rw [VY,aC,aC]);obtain ⟨k,p⟩:=YW b D;rw [<- p] at k;have f:((be (nI t) 4).set j x).getD j 0=(be (nI t) 4).getD j 0:=(by rw [k]);rw [T6,abn (by rw [aC];exact m)] at f;rw [e,T6,VD (by rw [aC];exact m),<- T6] at a;exact a f
     . have o:(be (nI t) 4++t).set j x=be (nI t) 4++t.set (j-4) x:=(by rw [abM _ _ (by rw [aC];omega),aC]);rw [e,o] at b;obtain ⟨k,p⟩:=YW b (by rw [aC,aC]);have f:=Gd (zn _) (zn _) k;have i:j-4<t.length:=(by omega);have n:∀ y∈t,y<256:=λy d=>z y (by rw [e];exact V6 _ d);rw [<- p,NU t i] at f;have G:nI (t.take (j-4)++t.getD (j-4) 0::t.drop (j-4+1))=nI (t.take (j-4)++x::t.drop (j-4+1)):=(by rw [<- NV t i];exact f);have F:=KZ (λy d=>n y (UY d)) (λy d=>n y (U0 d)) (by rw [T6,Ua i];exact n _ (TY i)) v G;rw [e,T6,U6 (by rw [aC];omega),aC,<- T6] at a;exact a F.symm
