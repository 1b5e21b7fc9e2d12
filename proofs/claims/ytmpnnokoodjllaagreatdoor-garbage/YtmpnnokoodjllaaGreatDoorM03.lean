import Derived.Test.YtmpnnokoodjllaaGreatDoorM02
import Derived.ChangeKeysEq
import Derived.Laws.StructEq
import Derived.Defers
import Derived.Recover
import Derived.LaidEql
import Derived.Stop.Asserts
import Derived.RowKitTokens
import Derived.ChangeSame
import Derived.ChangeVars
import Derived.JoinedOf
import Derived.RowKit
import Derived.LaidLaws
import Derived.LaidHandle
import Derived.Stop.Joined
import Derived.Lib.SmallJoins
import Derived.WalkMore
import Derived.Deep.AppendSrc
import Derived.Deep.RegionHeld
import Derived.Deep.AppendLies
import Derived.Deep.RegionHeld3
set_option maxRecDepth 100000
set_option linter.all false
set_option maxHeartbeats 8000000
open Go.IntKind renaming i64 -> Z9, u64 -> Z8
open Go.Value renaming int -> Z7, pointer -> Z6, slice -> Z5, bool -> Z1, string -> ZZ, tuple -> ZY
open Go.Obj renaming cells -> Z4
open Go.Ending renaming returned -> Z3
open Go.Operand renaming tmp -> Z0
open Go renaming undef -> ZX, World -> ZS, Value -> ZR, Calls -> ZQ, Addr -> ZP, Oper -> ZO, TypeId -> ZN, Operand -> ZM
open Option renaming none -> ZW, some -> ZV
open Bool renaming true -> ZU, false -> ZT
open List renaming range -> YC, replicate -> YD, take -> YF, length -> YJ, drop -> YL
open Go renaming method -> YE
open Eq renaming trans -> YG
open Nat renaming reduceAdd -> YH, reduceSub -> YI
open Array renaming foldl -> YK, ext_getElem? -> YN
open Option renaming toList_some -> YM
open Go.Proofs.Tryz renaming prog -> ZL
open Go.Proofs.Tryz
namespace Go.Proofs.YtmpnnokoodjllaaGreatDoor
def abh:=@List.drop_eq_getElem_cons
def WN:=@Array.getElem?_eq_none
def Yd:=@Go.Proofs.Tryz.underlying231
def VQ:=@List.take_zero
def UL:=@List.setIfInBounds_toArray
def UM:=@List.set_cons_zero
def WO:=@Go.Proofs.Tryz.underlying5
def WQ:=@Nat.eq_zero_or_pos
def Ww:=@Go.World.cell?_alloc_lt
def XF:=@Nat.lt_or_ge
def Ye:=@Go.World.frozen?_alloc_old
def WR:=@Go.RowKit.Below.setCell
def WS:=@Go.run_typeAssert_lacksB
def abi:=@Go.Proofs.Tryz.underlying240
def abj:=@Go.Proofs.Tryz.underlying156
def Wx:=@List.flatMap_append
def VR:=@List.flatMap_cons
def Wc:=@List.take_append_drop
def abk:=@List.prefix_append_right_inj
def Vt:=@Go.Value.slice.injEq
def abl:=@List.length_singleton
def Yf:=@List.prefix_refl
def Wd:=@Go.run_takeDeferred
def VS:=@Go.callsIn_of_wp_marks
def Uj:=@Go.Boxed.new
def VT:=@Go.wpIn_rangeFunc_ownG
def UR:=@Go.Proofs.enters_of
def abm:=@Go.KeepsOthers.of_grownBy
def Vz:=@Go.KeepsOthers.setCell
def Xg:=@List.map_map
def abn:=@List.take_succ_eq_append_getElem
def Wy:=@Go.wpAny_take
def XG:=@Go.wpAny_ready
def Xh:=@Go.AllReady.cons
def XH:=@Go.AllReady.nil
def Yg:=@Go.wp_load_mid
def XI:=@Go.Proofs.Tryz.underlying39
def Xi:=@Nat.add_mul
def Yh:=@Go.heap_alloc_new
def XJ:=@List.take_left
def Xj:=@Go.Proofs.Tryz.underlying3
def U8:=@Go.Src.ofSlice
def Yi:=@Go.heap_setCell_same
def VA:=@Nat.testBit_or
def XK:=@Int.tdiv_eq_ediv_of_nonneg
end Go.Proofs.YtmpnnokoodjllaaGreatDoor
namespace Go.Proofs.YtmpnnokoodjllaaGreatDoor
open Go.RowKit Go.Deep Go.Shelf Gf
variable {a:Act} {ops:Array ZO} {Q:Exit->Act->ZS->Prop} {F:aR} {fn:Func} {room:Int} {O:List (Int×Nat×Nat×a9)} {R M:List a9} {T:List (Nat×Nat×a9)} {l src s dl:a9} {vs xs:List ZR} {b off n cap v c D r B L G t f q p ps ho S sb k ar D' L' G' t' f' n' base g i N gone sp q7:Nat} {Dn:Nat->Bool} {K:Nat->Prop} {o:ZO} {P:Program} {e:ZN} {pg ob x u:ZR} {w w0 w' Z:ZS}
def bm:bx->ZR
 | .blank=>.iface 206 (.agg #[])
 | .root D L G t f n=>.iface 110 (.agg (av D L G t f n))
 | .filled=>.iface 182 (.agg #[])
 | .shard l=>.iface 233 (.agg (aJ l).toArray)
def mL (h:aS w b l):w.rangeAt b 0 (aJ l):=λj v hv=>by
 have:(aw l)[j]?=ZV v:=by unfold aw;simpa using hv
 have a:w.heap[b]?=ZV (Z4 (aw l) 40 (0,0)):=h;simp [World.cell?,a,this]
def J6 (h:aS w b l) (i:Nat) (a:i<l.length):w.cell? ⟨b,i,ZW⟩=ZV (Z7 .u8 ((l.getD i 0:Nat):Int)):=by
 have:=mL h i (Z7 .u8 ((l.getD i 0:Nat):Int)) Zp;rwa [Uc] at this
def ti (l:a9) (i:Nat) (h:i<l.length):(l.drop i).take 1=[l.getD i 0]:=by
 rw [abh h,T6,T2 h];rfl
def J7 (b:l.length=64) (a:l.getD 4 0=1):Dq l=.root (dh ((l.drop 5).take 1)) (dh (((l.drop 5).drop 1).take 1)) (dh (((l.drop 5).drop 2).take 1)) (dh (((l.drop 5).drop 3).take 8)) (dh (((l.drop 5).drop 11).take 4)) (dh (((l.drop 5).drop 15).take 4)):=by
 unfold Dq;rw [if_pos a,VF,VF,VF,VF,VF,ti l 5 eb,ti l (5+1) eb,ti l (5+2) eb]
def AY:∀ (l:List ZR) (k:Nat) (z:Array ZR),((l.zipIdx k).foldl (λcs x=>cs.setIfInBounds x.2 x.1) z).size=z.size/\∀ i,((l.zipIdx k).foldl (λcs x=>cs.setIfInBounds x.2 x.1) z)[i]?=if k<=i/\i<k+l.length/\i<z.size then l[i-k]? else z[i]?
 | [],k,z=>⟨rfl,λi=>by
  show z[i]?=if k<=i/\i<k+0/\i<z.size then _ else z[i]?;rw [if_neg eb]⟩
 | v::l,k,z=>by
  obtain ⟨b,c⟩:=AY l (k+1) (z.setIfInBounds k v);rw [List.zipIdx_cons,Wf];refine ⟨by rw [b];simp,λi=>?_⟩;rw [c i,Array.size_setIfInBounds,Yy];simp only [Um];by_cases e:k=i
  . subst e;rw [if_neg eb,if_pos rfl];by_cases a:k<z.size
    . rw [if_pos a,if_pos eb,Wp];rfl
    . rw [if_neg a,if_neg eb];simp [a]
  . rw [if_neg e];by_cases a:k+1<=i/\i<k+1+l.length/\i<z.size
    . rw [if_pos a,if_pos eb,(eb:i-k=(i-(k+1))+1)];rfl
    . rw [if_neg a,if_neg eb]
theorem wV (z a:Array ZR) (n:Nat) (g:z.size=n) (c:a.size=n):YK (λcs x=>cs.setIfInBounds x.snd x.fst) z a.zipIdx 0 n=a:=by
 have e:YK (λcs x=>cs.setIfInBounds x.snd x.fst) z a.zipIdx 0 n=(a.toList.zipIdx).foldl (λcs x=>cs.setIfInBounds x.2 x.1) z:=by
  rw [<- c,(ek:a.size=a.zipIdx.size),<- Array.foldl_toList,Array.toList_zipIdx]
 rw [e];obtain ⟨d,b⟩:=AY a.toList 0 z;apply YN;intro i;rw [b i];by_cases f:i<n
 . rw [if_pos en];simp
 . rw [if_neg eb];simp [WN (eb:z.size<=i),WN (eb:a.size<=i)]
theorem GH (l:a9) (w:ZS) (y:l.length=64) (m:∀ x∈l,x<256) :
 ZQ ZL 159 #[.agg (aw l)] w λe w'=>e=Z3 (bm (Dq l))/\bW w w':=by
 have o:=aS.new w l;have c:bW w (w.alloc (Z4 (aw l) 40)):=bA w _;have b:(w.alloc (Z4 (aw l) 40)).heap.size=w.heap.size+1:=ek
 obtain ⟨w1,G⟩:=nM (w.alloc (Z4 (aw l) 40));rw [G] at o c b;have s:=J6 o 4 eb;have j:w1.rangeAt w.heap.size 5 (aJ (l.drop 5)):=by have:=fP 5 (mL o);rwa [Uc] at this
 have i:w1.rangeAt w.heap.size 20 (aJ (l.drop 20)):=by have:=fP 20 (mL o);rwa [Uc] at this
 have k:∀ x∈l.drop 5,x<256:=λx h=>m x (UV h);have d:(l.drop 5).length=59:=by rw [Ue,y]
 have f:(l.drop 20).length=44:=by rw [Ue,y]
 by_cases g:l.getD 4 0=1
 . have a:=J7 y g;rw [g] at s;have p:=Dx w.heap.size 5 (l.drop 5) w1 d k j eb;rw [d] at p;rw [a];obtain ⟨ra,u⟩:=nM (av (dh ((l.drop 5).take 1)) (dh (((l.drop 5).drop 1).take 1)) (dh (((l.drop 5).drop 2).take 1)) (dh (((l.drop 5).drop 3).take 8)) (dh (((l.drop 5).drop 11).take 4)) (dh (((l.drop 5).drop 15).take 4)));rw [u] at p;have E:=al u;clear u;have H:=au c b;clear a i j k f m d c b;go_enter func159,ntmps159;go_wp2_with fail;refine p.mono ?_;rintro e w2 ⟨rfl,B⟩;clear p;have D:=al B;clear B;go_wp2;go_ret;exact ⟨by rw [show bm (.root (dh ((l.drop 5).take 1)) (dh (((l.drop 5).drop 1).take 1)) (dh (((l.drop 5).drop 2).take 1)) (dh (((l.drop 5).drop 3).take 8)) (dh (((l.drop 5).drop 11).take 4)) (dh (((l.drop 5).drop 15).take 4)))=.iface 110 (.agg ra) from (by unfold bm;rw [<- E.out])];rfl,H.out.1.trans (D.out.mono (eT H.out.2))⟩
 . by_cases n:l.getD 4 0=2
   . have a:Dq l=.filled:=(by unfold Dq;rw [if_neg g,if_pos n]);rw [n] at s;rw [a];have H:=au c b;clear a i j k f m d c b;unfold bm;go_enter func159,ntmps159;go_wp2;go_ret;exact ⟨rfl,H.out.1⟩
   . by_cases t:l.getD 4 0=3
     . have a:Dq l=.shard (l.drop 20):=(by unfold Dq;rw [if_neg g,if_neg n,if_pos t]);rw [t] at s;rw [a];have H:=a5 c b i f;clear a i j k f m d c b;have I:∀ (r:ZP) (w:ZS),(Instr.arrayAt 231 (Z5 (ZV r) 44 44)).run ZL w=.ok (Z6 (ZV r)) w:=λr w=>by simp [Instr.arrayAt,Uw Yd]
       have C:(aJ (l.drop 20)).toArray.size=44:=(by rw [Uy,aW];exact H.out.2.2.2);go_enter func159,ntmps159;obtain ⟨q,v⟩:=nM ((aJ (l.drop 20)).toArray);rw [v] at C;have A:=al v;go_wp2_with (refine Yz rfl 231 (Z0 17) rfl w.heap.size 20 rfl (aJ (l.drop 20)) _ H.out.2.2.1 Yd rfl (by rw [aW,H.out.2.2.2];kernel_rfl) ?_;rw [A.out];clear v);have F:∀ z:Array ZR,z.size=44->YK (λcs x=>cs.setIfInBounds x.snd x.fst) z q.zipIdx 0 44=q:=λz b=>wV z q 44 b C;rw [F _ rfl];go_ret;exact ⟨by rw [show bm (.shard (l.drop 20))=.iface 233 (.agg q) from (by unfold bm;rw [<- A.out])];rfl,H.out.1⟩
     . have a:Dq l=.blank:=(by unfold Dq;rw [if_neg g,if_neg n,if_neg t]);rw [a];have H:=au c b;have n1:¬ ((l.getD 4 0:Nat):Int)=1:=eb;have J:¬ ((l.getD 4 0:Nat):Int)=2:=eb;have K:¬ ((l.getD 4 0:Nat):Int)=3:=eb;clear a i j k f m d c b;generalize l.getD 4 0=x at *;unfold bm;go_enter func159,ntmps159;go_wp2;go_ret;exact ⟨rfl,H.out.1⟩
def spl (l:a9) (off:Nat) (src:a9):a9:=l.take off++(src++l.drop (off+src.length))
def oF (h:off+src.length<=l.length):(spl l off src).length=l.length:=by unfold spl;simp;omega
def oG {v:ZR} (h:ZN) (p:aS w b l) (r:Bs w v src) (i:src≠[]) (y:src.length<=n) (t:off+src.length<=l.length) :
 (Builtin.copy_ #[31,31] h #[Z5 (ZV ⟨b,off,ZW⟩) n cap,v]).run ZL w=.ok (Z7 Z9 (src.length:Nat)) (w.setRow b (aw (spl l off src))):=by
 obtain ⟨ao,c,rfl,z,A,B,k⟩:=r;obtain ⟨g,o,rfl,s⟩:=k i;have m:=run_copy_row (P:=ZL) w 31 31 h 5 b off n cap ⟨g,o,ZW⟩ src.length c (aw l) 40 (aJ src) Ui ei p (by rw [aW];exact (VV y).symm) (λj u f=>by
  have a:j<src.length:=by obtain ⟨q,_⟩:=UT.1 f;rwa [aW] at q
  rw [Vj,s j a,<- f];unfold aJ;rw [Ul,T2 a,T6,T2 a];rfl) (by rw [aW,iw];exact t) (λu d=>by
  unfold aJ at d;rw [T1] at d;obtain ⟨x,_,rfl⟩:=d;rfl)
 rw [m];have e:(YF off (aw l).toList++aJ src++YL (off+(aJ src).length) (aw l).toList).toArray=aw (spl l off src):=by
  rw [wF,aW];unfold aw spl;rw [bK,bK,UI];unfold aJ;rw [Wi,Wj]
 simp only [UI] at e ⊢;rw [e,aW];rfl
noncomputable def RBk:Array ZO:=((Tryz.f158.body.bind (nZ · 5))).getD #[]
def aaF:List (Op×Option Nat×a9):=[(Op.slice 40 (Z0 3) ZW (ZV (Operand.const (Value.int IntKind.i64 4))) ZW,ZV 13,[]),
 (Op.slice 40 (Z0 3) (ZV (Operand.const (Value.int IntKind.i64 4))) ZW ZW,ZV 14,[]),
 (Op.call { callee:=Callee.value (Operand.func 177),args:=#[Z0 14],argTypes:=#[31] },ZV 15,[1]),
 (Op.convert 297 108 (Z0 15),ZV 16,[2]),
 (Op.call { callee:=Callee.value (Operand.func 152),args:=#[Operand.const (Value.slice ZW 0 0),Z0 16,Operand.const (Value.int IntKind.i64 4)],argTypes:=#[31,108,3] },ZV 17,[3,2]),
 (Op.call { callee:=Callee.builtin Builtin.copy,args:=#[Z0 13,Z0 17],argTypes:=#[31,31] },ZV 18,[0,4,4])]
def GJ:aL RBk 13 19 aaF:=bj ei ei
def VBk (w0:ZS) (b c:Nat) (i:Nat) (u:ZR) (w:ZS):Prop:=match i with
 | 0=>u=Z5 (ZV ⟨b,0,ZW⟩) 4 64
 | 1=>u=Z5 (ZV ⟨b,4,ZW⟩) 60 60
 | 2=>u=Z7 .u32 (c:Nat)
 | 3=>u=Z7 Z8 (c:Nat)
 | 4=>w.ownsRow w0.heap.size 5 1 u (0+4) (aJ (be c 4))
 | _=>True
def AZ (j:b<w0.heap.size) (g:∀ k,k≠b->k<w.heap.size->w'.heap[k]?=w.heap[k]?) (a:w.os=w'.os/\w.tape=w'.tape/\w.output=w'.output/\w.heap.size<=w'.heap.size) (i:Nat) (u:ZR) (h:VBk w0 b c i u w):VBk w0 b c i u w':=by
 match i with
 | 0|1|2|3=>exact h
 | 4=>exact World.ownsRow.kept h (row:=ZV b) ⟨a.1.symm,a.2.1.symm,a.2.2.1.symm,a.2.2.2,λk d f=>g k (λe=>f Zc) d⟩ (.inr λe=>eT ((World.ownsRow.lt h b e).1))
 | n+5=>trivial
def BBk (w0:ZS) (b c:Nat) (l:a9) (D:Nat->Bool) (w:ZS):Prop:=aS w b (if D 5=ZU then spl l 0 (be c 4) else l)/\aa (λk=>k=b) w0 w
def oH {D:Nat->Bool} (h:BBk w0 b c l D w) (i:Nat) (d:i≠5) (a:aa (λ_=>False) w w'):BBk w0 b c l (du D i) w':=by
 refine ⟨?_,h.2.later a (λ_ _ q=>q.elim)⟩;unfold du;rw [if_neg (λe:5=i=>d e.symm)];exact h.1.keep (a.block _ h.1.lt (λq=>q))
def aY.out (h:aY w) (a:aa (λk=>k=b) w w') (c:b≠2):aY w':=λj d=>by
 have:=h j d;rw [<- this];exact Uh (a.block _ (T8 this) (λe=>c e.symm))
theorem j8 (N:RBk=ops) (d:aS w b l) (F:l.length=64) (Z:∀ x∈l,x<256) (hv:aY w) (P:b≠2) (hs:a.tmps.size=20)
 (H:a.eval (Z0 3)=Z6 (ZV ⟨b,0,ZW⟩)) (L:∀ (w':ZS) (vs:List ZR),vs.length=6->aS w' b (spl l 0 (be (OD (l.drop 4)) 4))->aa (λk=>k=b) w w'->Q .normal (Act.RL a 13 vs) w'):(Code.region 5 ops ZU).wp ZL Q a w:=by
 subst N;obtain ⟨c,G⟩:=nM (OD (l.drop 4));have z:c<4294967296:=G▸O6 _;rw [G] at L;have K:=d.lt;refine fw ei GJ a w eb (VBk w b c) (BBk w b c l) ⟨d,aa.drew w⟩ ?_ ?_
 . intro i E;match i,E with
   | 0,_=>
    intro o g w' D A ho m r t z s d p;have u0:g.eval (Z0 3)=Z6 (ZV ⟨b,0,ZW⟩):=(r.slot 3 eb).trans H;exact ag (v:=Z5 (ZV ⟨b,0,ZW⟩) 4 64) ee m ⟨oH d 0 ec (aa.refl _ _),rfl,kq⟩
   | 1,_=>
    intro o g w' D A ho m r t z s d p;have u0:g.eval (Z0 3)=Z6 (ZV ⟨b,0,ZW⟩):=(r.slot 3 eb).trans H;exact ag (v:=Z5 (ZV ⟨b,4,ZW⟩) 60 60) ee m ⟨oH d 1 ec (aa.refl _ _),rfl,kq⟩
   | 2,_=>
    intro o g w' D A ho m r t z s d p;have u0:g.eval (Z0 14)=Z5 (ZV ⟨b,4,ZW⟩) 60 60:=p 1 (s 1 ec);have R:D 5=ZT:=by
     cases q:D 5 with
     | false=>rfl
     | true=>have:=(z 5 q).2 4 ec;have:=(z 4 this).2 2 ec;rw [t] at this;cases this
    have C:aS w' b l:=(by have:=d.1;rw [if_neg (by rw [R];decide)] at this;exact this);have M:Bs w' (Z5 (ZV ⟨b,4,ZW⟩) (l.drop 4).length 60) (l.drop 4):=Bs.mid (by rw [Ue,F];decide) (by rw [Ue,F];decide) (λx h=>Z x (UV h)) (by have:=fP 4 (mL C);rwa [Uc] at this);rw [show (l.drop 4).length=60 by rw [Ue,F]] at M;refine mG (f:=177) (args:=#[Z5 (ZV ⟨b,4,ZW⟩) 60 60]) (w1:=w') lk m (M6 _ (l.drop 4) w' M (hv.out d.2 P)) ?_;rintro e B ⟨rfl,rfl⟩;rw [G];exact ⟨_,rfl,oH d 2 ec (aa.refl _ _),rfl,kq⟩
   | 3,_=>
    intro o g w' D A ho m r t I s d p;have u0:g.eval (Z0 15)=Z7 .u32 (c:Nat):=p 2 (s 2 ec);exact ag (v:=Z7 Z8 (c:Nat)) (by (conv at ho=>rhs;whnf);simp only [execOp,ho,u0];go_simp;rw [Vh];omega) m ⟨oH d 3 ec (aa.refl _ _),rfl,kq⟩
   | 4,_=>
    intro o g w' D A ho m r t I s d p;have u0:g.eval (Z0 16)=Z7 Z8 (c:Nat):=p 3 (s 3 ec);refine mG (f:=152) (args:=#[Z5 ZW 0 0,Z7 Z8 (c:Nat),Z7 Z9 (4:Nat)]) (w1:=w') lk m (eQ w.heap.size (Z5 ZW 0 0) 0 [] c 4 w' (UB _ _ _ _) d.2.size ec ec) ?_;rintro e B ⟨v',rfl,Y,T,hr⟩;have y:aa (λ_=>False) w' B:=T.mono (λk _ q=>by simp [Value.ownBlock] at q);refine ⟨v',rfl,oH d 4 ec y,Y,λj u V q=>AZ K (λk _ r=>y.block k r (λq=>q)) ⟨y.os.symm,y.tape.symm,y.output.symm,y.size⟩ j u q⟩
   | 5,_=>
    intro o g w' D A ho m r t I s d p;have u0:g.eval (Z0 13)=Z5 (ZV ⟨b,0,ZW⟩) 4 64:=p 0 (s 0 ec);have u1:w'.ownsRow w.heap.size 5 1 (g.eval (Z0 17)) (0+4) (aJ (be c 4)):=p 4 (s 4 ec);have C:aS w' b l:=(by have:=d.1;rw [if_neg abF] at this;exact this);have U:=oG (n:=4) (cap:=64) (off:=0) o.type C (Bs.Sq u1 (sQ _ _) (by rw [dD];decide)) (by intro e;have:=dD c 4;rw [e] at this;cases this) (by rw [dD];decide) (by rw [dD,F];decide);refine ag (v:=Z7 Z9 ((be c 4).length:Nat)) (w':=w'.setRow b (aw (spl l 0 (be c 4)))) (by (conv at ho=>rhs;whnf);simp only [execOp,ho,resolve,invoke,builtin,Uo,UW,Uz,Vy,UD,U5,u0,U]) m ⟨⟨?_,d.2.later (aa.setRow (S:=λk=>k=b) _ _ _ rfl) (λ_ _ q=>q)⟩,trivial,λj u V q=>AZ K (λk X r=>(aF _ _ _).block k r (λe=>X Zq)) ⟨rfl,rfl,rfl,B2⟩ j u q⟩;show aS _ b (if du D 5 5=ZU then _ else _);rw [if_pos B9];exact C.setRow _
   | n+6,hn=>exact absurd hn (by show ¬ n+6<6;omega)
 . rintro g w' W ⟨D,O,J⟩ p;have e:g=Act.RL a 13 ((YC 6).map λi=>g.eval (.tmp (13+i))):=W.out _ Y5 eb (λi E=>by
    rw [TZ,Uv] at E;rw [T6,Ul,Ve E];rfl)
   rw [e];have:=J.1;rw [if_pos (O 5 ec)] at this;exact L w' _ Y5 this J.2
def J8 (h:vs.length=6):∃ a b c d e f,vs=[a,b,c,d,e,f]:=by
 match vs,h with
 | [a,b,c,d,e,f],_=>exact ⟨_,_,_,_,_,_,rfl⟩
structure DL (w0 w:ZS) (r b:Nat) (l:a9):Prop where
 res:aS w r zb
 blk:aS w b l
 below:bW w0 w
 rs:r=w0.heap.size
 bs:b=w0.heap.size+1
def DL.new (w:ZS):DL w ((w.alloc (Z4 (aw zb) 40)).alloc (Z4 (aw zb) 40)) w.heap.size (w.heap.size+1) zb:=by
 refine ⟨(Ut _ _ _ ek).trans (T9 _ _),?_,(bA w _).alloc ek _,rfl,rfl⟩;have:=T9 (w.alloc (Z4 (aw zb) 40)) (Z4 (aw zb) 40);simpa [aS] using this
def DL.mono (h:DL w0 w r b l) (a:bW w w'):DL w0 w' r b l:=
 ⟨h.res.keep (a.block _ h.res.lt),h.blk.keep (a.block _ h.blk.lt),h.below.trans (a.mono (by have:=h.res.lt;have:=h.rs;omega)),h.rs,h.bs⟩
def DL.set {l':a9} (h:DL w0 w r b l) (a:aa (λk=>k=b) w w') (c:aS w' b l'):DL w0 w' r b l':=
 ⟨h.res.keep (a.block _ h.res.lt (λe=>by have:=h.rs;have:=h.bs;omega)),c,h.below.trans (a.below λk d=>⟨by have:=h.blk.lt;have:=h.bs;omega,λe=>eT h.bs⟩),h.rs,h.bs⟩
def aY.below (h:aY w) (b:Below B w w') (a:2<B):aY w':=λj c=>(b.cell (p:=⟨2,j,ZW⟩) a).trans (h j c)
def aY.lt (h:aY w):2<w.heap.size:=T8 (h 0 ec)
theorem zo {body:a9} (c:body.length<=60):spl (spl zb 4 body) 0 (be (OD ((spl zb 4 body).drop 4)) 4)=dQ body:=by
 have a:(spl zb 4 body).drop 4=body++YD (60-body.length) 0:=by
  unfold spl;rw [List.drop_append_of_le_length (by simp [zb]),show (YF 4 zb).drop 4=[] by simp [zb]];simp only [Uk];congr 1;unfold zb;rw [XZ];congr 1;omega
 have b:∀ (X s:a9),spl X 0 s=s++X.drop s.length:=λX s=>by unfold spl;rw [VQ,Uk,Uc]
 rw [b,dD,a];rfl
def DM (b:∀ x∈l,x<256) (c:∀ x∈src,x<256):∀ x∈spl l off src,x<256:=by
 intro x a;unfold spl at a;simp only [Ub] at a;rcases a with h|h|h
 . exact b x (US h)
 . exact c x h
 . exact b x (UV h)
def J9:∀ x∈zb,x<256:=λx a=>eT (Vn a)
theorem A0 (w:ZS):ZQ ZL 158 #[bm .blank] w λe w'=>e=Z3 (.agg (aw bx.blank.blk))/\bW w w':=by
 have j:=zeroBlk;have b:=DL.new w;obtain ⟨w1,h⟩:=nM ((w.alloc (Z4 (aw zb) 40)).alloc (Z4 (aw zb) 40));rw [h] at b;have c:=al b;clear b;unfold bm;go_enter func158,ntmps158;go_wp2_with fail;refine (Dw w1).mono ?_;rintro e w2 ⟨rfl,d⟩;have f:=c.out.mono d;have a:=al f;clear f d c;go_wp2_with (first|(refine mD rfl (Z0 3) rfl (w.heap.size+1) zb rfl a.out.blk bw ?_)|(refine eG rfl (Z0 2) (Z0 19) rfl w.heap.size zb zb rfl rfl a.out.res bw bw ?_));have g:=a.out.res.setRow zb;refine Uf (v:=.agg (aw zb)) (VG results158 _ _ w.heap.size 40 (aw zb) (0,0) _ rfl g Wr rfl (eX bw)) rfl ?_;exact ⟨rfl,a.out.below.trans ⟨rfl,rfl,rfl,B2,λk i=>(aF _ _ _).block k (eT a.out.res.lt) (λe=>Zf)⟩⟩
theorem DN (D L G t f n:Nat) (w:ZS) (l:(bx.root D L G t f n).ok) (hv:aY w) :
 ZQ ZL 158 #[bm (.root D L G t f n)] w λe w'=>e=Z3 (.agg (aw (bx.root D L G t f n).blk))/\bW w w':=by
 have W:=zeroBlk;have o:=DL.new w;obtain ⟨w1,T⟩:=nM ((w.alloc (Z4 (aw zb) 40)).alloc (Z4 (aw zb) 40));rw [T] at o;have B:=jA l;have r:=mB l;have x:(bx.root D L G t f n).blk=dQ (bx.root D L G t f n).body:=by unfold bx.blk;rw [if_neg Zz]
 have p:0<(bx.root D L G t f n).body.length:=Zz
 have d:=Gm D L G t f n w1 l;rw [x];obtain ⟨body,u⟩:=nM ((bx.root D L G t f n).body);rw [u] at B r p d ⊢;have b:=aE o r hv;unfold bm;obtain ⟨ra,E⟩:=nM (av D L G t f n);simp only [E] at d ⊢;clear o r hv l x E u;go_enter func158,ntmps158;go_wp2_with fail;refine d.mono ?_;clear d;rintro e w2 ⟨v,rfl,q,A⟩;have g:=b.out.1.mono A;obtain ⟨ao,c,rfl,M,N,O,P⟩:=id q;have C:body≠[]:=by intro e;rw [e] at p;simp at p
 have Q:=oG (n:=60) (cap:=60) (off:=4) 3 g.blk q C eb ZA;have h:DL w (w2.setRow (w.heap.size+1) (aw (spl zb 4 body))) w.heap.size (w.heap.size+1) (spl zb 4 body):=g.set (aa.setRow (S:=λk=>k=w.heap.size+1) _ _ _ rfl) (g.blk.setRow _);obtain ⟨U,H⟩:=nM (w2.setRow (w.heap.size+1) (aw (spl zb 4 body)));rw [H] at Q h;have R:(spl zb 4 body).length=64:=by rw [oF ZA,bw]
 have J:=b.out.2.2.lt;have hv3:aY U:=b.out.2.2.below h.below J;have m:=au h hv3;clear g q A M N O P H h hv3 C;go_wp2_with fail;refine j8 ei m.out.1.blk R (DM J9 b.out.2.1) m.out.2 eb rfl rfl ?_;intro X vs F y z;obtain ⟨Y,Z,x2,x3,x4,x5,rfl⟩:=J8 F;have i:=m.out.1.set z y;rw [zo B] at i;have j:(dQ body).length=64:=abG
 obtain ⟨sb,s⟩:=nM (dQ body);rw [s] at i j;have K:=al s;have a:=al i;clear i y z F s;rename_i hK
 refine hK _ _ ?_;clear hK;simp only [Act.RL,Act.put,UL,UJ,UM];go_wp2_with (first|(refine mD rfl (Z0 3) rfl (w.heap.size+1) sb rfl a.out.blk j ?_)|(refine eG rfl (Z0 2) (Z0 19) rfl w.heap.size sb zb rfl rfl a.out.res bw j ?_));have I:=a.out.res.setRow sb;refine Uf (v:=.agg (aw sb)) (VG results158 _ _ w.heap.size 40 (aw sb) (0,0) _ rfl I Wr rfl (eX j)) rfl ?_;exact ⟨by rw [K.out],a.out.below.trans ⟨rfl,rfl,rfl,B2,λk V=>(aF _ _ _).block k (eT a.out.res.lt) (λe=>Zf)⟩⟩
def oI (r:bx):Prop:=∀ w,aY w->ZQ ZL 158 #[bm r] w λe w'=>e=Z3 (.agg (aw r.blk))/\bW w w'
def A3:oI .blank:=λw _=>A0 w
def tj (a:(bx.root D L G t f n).ok):oI (.root D L G t f n):=λw hv=>DN D L G t f n w a hv
noncomputable def ROf:Array ZO:=((Tryz.f133.body.bind (nZ · 2))).getD #[]
def aaG:List (Op×Option Nat×a9):=[(Op.move (Z0 4),ZV 7,[]),
 (Op.call { callee:=Callee.value (Operand.func 158),args:=#[Z0 7],argTypes:=#[195] },ZV 8,[0]),
 (Op.load 40 (Z0 1),ZV 9,[]),
 (Op.binOp BinOp.neq 40 (Z0 8) (Z0 9) 40,ZV 10,[1,2])]
def GK:aL ROf 7 11 aaG:=bj ei ei
def Tryz.S4:ZL.cellsOf 5=1:=ei
def wW (l:a9) (i:Nat) (a:i<l.length) (w:ZS):(part 5 (aw l) (i*1)).run ZL w=.ok (Z7 .u8 ((l.getD i 0:Nat):Int)) w:=by
 have b:(aw l)[i]?=ZV (Z7 .u8 ((l.getD i 0:Nat):Int)):=by
  unfold aw aJ;rw [WM,Ul,T2 a,T6,T2 a];rfl
 rw [VW];have c:=WO;simp [part,isAgg,Uw c,b]
theorem A4 (d:Nat) (l1 l2:a9) (w:ZS):∀ (a:a9),(∀ i∈a,i<l1.length/\i<l2.length)->(Op.eqItems (d+1) 5 1 (aw l1) (aw l2) a).run ZL w=.ok (a.all λi=>l1.getD i 0==l2.getD i 0) w
 | [],_=>by simp [Op.eqItems]
 | i::a,h=>by
  obtain ⟨g,k⟩:=h i ek;have ih:=A4 d l1 l2 w a (λj m=>h j (by simp [m]));have l:=run_equalIn_int (P:=ZL) (w:=w) d 5 .u8 .u8 ((l1.getD i 0:Nat):Int) ((l2.getD i 0:Nat):Int) WO;simp only [Op.eqItems,Uo,wW l1 i g w,wW l2 i k w,Uz,l,List.all_cons];generalize l1.getD i 0=x;generalize l2.getD i 0=y;by_cases e:x=y
  . subst e;rw [if_neg ek,ih];simp
  . have b:¬ ((x:Nat):Int)=((y:Nat):Int):=λq=>e eb;have c:((x:Int)==(y:Int))=ZT:=(vE b);have f:(x==y)=ZT:=(vE e);rw [c,f];simp
theorem Ka {l1 l2:a9} (c:l1.length=64) (d:l2.length=64):((YC 64).all λi=>l1.getD i 0==l2.getD i 0)=decide (l1=l2):=by
 rw [YA,Xa,decide_eq_true_eq];constructor
 . intro h;refine U4 eb λi a b=>?_;have:=h i (Uq.2 eb);simpa [a,b] using this
 . rintro rfl i _;simp
def Pz (l1 l2:a9) (b:l1.length=64) (c:l2.length=64) (w:ZS):(Op.equalIn 10000 40 (.agg (aw l1)) (.agg (aw l2))).run ZL w=.ok (decide (l1=l2)) w:=by
 obtain ⟨f,a,_⟩:=Ur Tryz.Sg;rw [show (10000:Nat)=9998+1+1 from rfl,run_equalIn_array w (9998+1) (t:=40) (e:=5) (n:=64) (aw l1) (aw l2) Wr a,Tryz.S4,A4 9998 l1 l2 w _ (λi d=>eT (Uq.1 d)),Ka b c]
theorem GL {r:bx} (A:ROf=ops) (F:oI r) (G:r.ok) (q:aS w b l) (x:l.length=64) (hv:aY w) (I:a.tmps.size=12)
 (y:a.eval (Z0 1)=Z6 (ZV ⟨b,0,ZW⟩)) (z:a.eval (Z0 4)=bm r) (E:∀ (w':ZS),bW w w'->Q .normal (Act.RL a 7 [bm r,.agg (aw r.blk),.agg (aw l),Z1 (!decide (r.blk=l))]) w'):(Code.region 2 ops ZU).wp ZL Q a w:=by
 subst A;refine fw ei GK a w eb (λi v _=>v=[bm r,.agg (aw r.blk),.agg (aw l),Z1 (!decide (r.blk=l))].getD i ZX) (λ_ w'=>aS w' b l/\bW w w') ⟨q,(TX _ w).drew⟩ ?_ ?_
 . intro i t;match i,t with
   | 0,_=>exact λo g w' D s ho h k m p j q d=>ag (ah ho ((k.slot 4 eb).trans z) w') h ⟨q,rfl,kq⟩
   | 1,_=>
    intro o g w' D s ho h k m p j c d;have u0:g.eval (Z0 7)=bm r:=d 0 (j 0 ec);refine mG (f:=158) (args:=#[bm r]) (w1:=w') lk h (F w' (hv.below c.2 hv.lt)) ?_;rintro e H ⟨rfl,u⟩;exact ⟨_,rfl,⟨c.1.keep (u.block _ c.1.lt),c.2.trans (u.mono c.2.size)⟩,rfl,kq⟩
   | 2,_=>
    intro o g w' D s ho h k m p j c d;have u0:g.eval (Z0 1)=Z6 (ZV ⟨b,0,ZW⟩):=(k.slot 1 eb).trans y;exact ag (v:=.agg (aw l)) (by (conv at ho=>rhs;whnf);simp [execOp,ho,u0,jV c.1 x]) h ⟨c,rfl,kq⟩
   | 3,_=>
    intro o g w' D s ho h k m p j c d;have u0:g.eval (Z0 8)=.agg (aw r.blk):=d 1 (j 1 ec);have u1:g.eval (Z0 9)=.agg (aw l):=d 2 (j 2 ec);exact ag (v:=Z1 (!decide (r.blk=l))) (by (conv at ho=>rhs;whnf);simp only [execOp,ho,u0,u1];go_simp;rw [Pz r.blk l (dJ G) x w'];rfl) h ⟨c,rfl,kq⟩
   | n+4,hn=>exact absurd hn ab2
 . rintro g w' B ⟨D,J,c⟩ d;have C:∀ i:Nat,i<4->g.eval (.tmp (7+i))=[bm r,.agg (aw r.blk),.agg (aw l),Z1 (!decide (r.blk=l))].getD i ZX:=by
    intro i t;match i,t with
    | 0,_=>exact d 0 ec
    | 1,_=>exact d 1 ec
    | 2,_=>exact d 2 ec
    | 3,_=>exact d 3 ec
    | n+4,hn=>exact absurd hn ab2
   rw [B.out [bm r,.agg (aw r.blk),.agg (aw l),Z1 (!decide (r.blk=l))] rfl eb C];exact E w' c.2
theorem aM.SR (h:aM w b l):w.heap[b]?=ZV (Z4 (aJ l).toArray 5 (0,0)):=by
 obtain ⟨c,d,g,f⟩:=h;have e:c=(aJ l).toArray:=by
  apply YN;intro i;by_cases a:i<l.length
  . rw [f i a];unfold vb aJ;simp [T6,T2 a]
  . rw [WN eb,WN (by rw [Uy,aW];omega)]
 rw [<- e];exact d
def aM.TH (h:w.heap[b]?=ZV (Z4 (aJ l).toArray 5 (0,0))):aM w b l:=
 ⟨_,h,by rw [Uy,aW],λi a=>by
  unfold vb aJ;simp [T6,T2 a]⟩
def A5 {v:ZR} (h:ZN) (d:aM w b l) (t:Bs w v src) (A:src.length<=n) (z:off+src.length<=l.length) :
 ∃ w',(Builtin.copy_ #[31,31] h #[Z5 (ZV ⟨b,off,ZW⟩) n cap,v]).run ZL w=.ok (Z7 Z9 (src.length:Nat)) w'/\aM w' b (spl l off src)/\w.grownBy w' (ZV b):=by
 obtain ⟨ao,c,rfl,B,C,D,r⟩:=t;have m:(ZL.info? 5).map (λi=>i.size)=ZV 1:=ei
 by_cases k:src=[]
 . subst k;refine ⟨w,run_copy_none (P:=ZL) w 31 31 h 5 (ZV ⟨b,off,ZW⟩) ao n cap 0 c Ui m ek,?_,Wh _ _⟩;have e:spl l off []=l:=(by unfold spl;simp);rw [e];exact d
 . obtain ⟨g,o,rfl,y⟩:=r k;have s:=run_copy_row (P:=ZL) w 31 31 h 5 b off n cap ⟨g,o,ZW⟩ src.length c (aJ l).toArray 5 (aJ src) Ui m d.SR (by rw [aW];exact (VV A).symm) (λj u p=>by
    have a:j<src.length:=(by obtain ⟨q,_⟩:=UT.1 p;rwa [aW] at q);rw [Vj,y j a,<- p];unfold aJ;rw [Ul,T2 a,T6,T2 a];rfl) (by rw [aW,Uy,aW];exact z) (λu f=>by
    unfold aJ at f;rw [T1] at f;obtain ⟨x,_,rfl⟩:=f;rfl)
   have e:(YF off (aJ l)++aJ src++YL (off+(aJ src).length) (aJ l)).toArray=(aJ (spl l off src)).toArray:=by
    rw [aW];unfold spl;rw [bK,bK,UI];unfold aJ;rw [Wi,Wj]
   refine ⟨w.setRow b (aJ (spl l off src)).toArray,?_,aM.TH (U3 w b (aJ l).toArray (aJ (spl l off src)).toArray _ _ d.SR),aF _ _ _⟩;rw [s];simp only [UI] at e ⊢;rw [e,aW];rfl
def GM (w:ZS) (a:Nat):(w.alloc (Z4 #[Z7 .u8 (a:Int)] 5)).ownsRow w.heap.size 5 1 (Z5 (ZV ⟨w.heap.size,0,ZW⟩) 1 1) 1 (aJ [a]):=
 ⟨rfl,.inr ⟨w.heap.size,1,_,rfl,TV _,T9 _ _,TV _,eD,rfl,rfl⟩⟩
theorem A6 (w:ZS):ZQ ZL 254 #[.agg #[]] w λe w'=>∃ v,e=Z3 v/\Bs w' v bx.filled.body/\bW w w':=by
 have ho:=GM (w.alloc (Z4 #[] 182)) 2;have a:bW w ((w.alloc (Z4 #[] 182)).alloc (Z4 #[Z7 .u8 ((2:Nat):Int)] 5)):=(bA w _).alloc ek _;have H:=au ho a;clear ho a;go_enter func254,ntmps254;go_wp2;go_ret;have b:=Bs.Sq H.out.1 (λx c=>by simp at c;omega) ec;simp only [Ua] at b;exact ⟨_,rfl,b,H.out.2⟩
noncomputable def RSb:Array ZO:=((Tryz.f256.body.bind (nZ · 3))).getD #[]
def aaH:List (Op×Option Nat×a9):=[(Op.move (Z0 3),ZV 7,[]),
 (Op.slice 31 (Z0 7) (ZV (Operand.const (Value.int IntKind.i64 16))) ZW ZW,ZV 8,[0]),
 (Op.fieldAddr 233 (Z0 1) 0,ZV 9,[]),
 (Op.slice 231 (Z0 9) ZW ZW ZW,ZV 10,[2]),
 (Op.call { callee:=Callee.builtin Builtin.copy,args:=#[Z0 8,Z0 10],argTypes:=#[31,31] },ZV 11,[1,3])]
def GN:aL RSb 7 12 aaH:=bj ei ei
def VSb (b q:Nat) (i:Nat) (u:ZR) (_:ZS):Prop:=match i with
 | 0=>u=Z5 (ZV ⟨b,0,ZW⟩) 60 60
 | 1=>u=Z5 (ZV ⟨b,16,ZW⟩) 44 44
 | 2=>u=Z6 (ZV ⟨q,0,ZW⟩)
 | 3=>u=Z5 (ZV ⟨q,0,ZW⟩) 44 44
 | _=>True
def BSb (w0:ZS) (b:Nat) (l s:a9) (D:Nat->Bool) (w:ZS):Prop:=aM w b (if D 4=ZU then spl l 16 s else l)/\aa (λk=>k=b) w0 w
def r9 {D:Nat->Bool} (h:BSb w0 b l s D w) (i:Nat) (a:i≠4):BSb w0 b l s (du D i) w:=by
 refine ⟨?_,h.2⟩;unfold du;rw [if_neg (λe:4=i=>a e.symm)];exact h.1
theorem zq (G:RSb=ops) (c:aM w b l) (X:l.length=60) (C:w.heap[q]?=ZV (Z4 (aJ s).toArray 233 (0,0))) (R:s.length=44) (U:∀ x∈s,x<256) (L:q≠b) (Y:a.tmps.size=13)
 (F:a.eval (Z0 3)=Z5 (ZV ⟨b,0,ZW⟩) 60 60) (E:a.eval (Z0 1)=Z6 (ZV ⟨q,0,ZW⟩)) (K:∀ (w':ZS) (vs:List ZR),vs.length=5->aM w' b (spl l 16 s)->aa (λk=>k=b) w w'->Q .normal (Act.RL a 7 vs) w'):(Code.region 3 ops ZU).wp ZL Q a w:=by
 subst G;refine fw ei GN a w eb (VSb b q) (BSb w b l s) ⟨c,aa.drew w⟩ ?_ ?_
 . intro i y;match i,y with
   | 0,_=>exact λo d w' Dn t ho f m p z h c g=>ag (ah ho ((m.slot 3 eb).trans F) w') f ⟨r9 c _ ec,rfl,kq⟩
   | 1,_=>
    intro o d w' D t ho f m p z h c g;have u0:d.eval (Z0 7)=Z5 (ZV ⟨b,0,ZW⟩) 60 60:=g 0 (h 0 ec);exact ag (v:=Z5 (ZV ⟨b,16,ZW⟩) 44 44) ee f ⟨r9 c 1 ec,rfl,kq⟩
   | 2,_=>
    intro o d w' D t ho f m p z h c g;have u0:d.eval (Z0 1)=Z6 (ZV ⟨q,0,ZW⟩):=(m.slot 1 eb).trans E;exact ag (v:=Z6 (ZV ⟨q,0,ZW⟩)) ee f ⟨r9 c 2 ec,rfl,kq⟩
   | 3,_=>
    intro o d w' D t ho f m p z h c g;have u0:d.eval (Z0 9)=Z6 (ZV ⟨q,0,ZW⟩):=g 2 (h 2 ec);exact ag (v:=Z5 (ZV ⟨q,0,ZW⟩) 44 44) ee f ⟨r9 c 3 ec,rfl,kq⟩
   | 4,_=>
    intro o d w' D t ho f m p V h c g;have u0:d.eval (Z0 8)=Z5 (ZV ⟨b,16,ZW⟩) 44 44:=g 1 (h 1 ec);have u1:d.eval (Z0 10)=Z5 (ZV ⟨q,0,ZW⟩) 44 44:=g 3 (h 3 ec);have I:aM w' b l:=(by have:=c.1;rw [if_neg W8] at this;exact this);have P:w'.heap[q]?=ZV (Z4 (aJ s).toArray 233 (0,0)):=(c.2.block q (TW.1 C).1 (λe=>L e)).trans C;have B:Bs w' (Z5 (ZV ⟨q,0,ZW⟩) s.length 44) s:=Bs.mid eb eb U (λj u S=>by
     have:(aJ s).toArray[j]?=ZV u:=vE S
     simp [World.cell?,P,this])
    rw [R] at B;obtain ⟨w2,M,H,r⟩:=A5 (n:=44) (cap:=44) (off:=16) o.type I B eb eb;refine ag (v:=Z7 Z9 (s.length:Nat)) (w':=w2) (by (conv at ho=>rhs;whnf);simp only [execOp,ho,resolve,invoke,builtin,Uo,UW,Uz,Vy,UD,U5,u0,u1,M]) f ⟨⟨?_,c.2.later (T:=λk=>k=b) ⟨r.os,r.tape,r.output,r.size,λk m O=>r.block k m (λe=>O Zq)⟩ (λ_ _ q=>q)⟩,trivial,λj u W q=>by
     match j,q with
     | 0,q|1,q|2,q|3,q=>exact q
     | j+4,_=>trivial⟩
    show aM _ b (if du D 4 4=ZU then _ else _);rw [if_pos B9];exact H
   | n+5,hn=>exact absurd hn (by show ¬ n+5<5;omega)
 . rintro d w' N ⟨D,J,A⟩ g;have e:d=Act.RL a 7 ((YC 5).map λi=>d.eval (.tmp (7+i))):=N.out _ Y5 eb (λi y=>by
    rw [TZ,Uv] at y;rw [T6,Ul,Ve y];rfl)
   rw [e];have:=A.1;rw [if_pos (J 4 ec)] at this;exact K w' _ Y5 this A.2
def Ro (h:vs.length=5):∃ a b c d e,vs=[a,b,c,d,e]:=by
 match vs,h with
 | [a,b,c,d,e],_=>exact ⟨a,b,c,d,e,rfl⟩
theorem DO (l:a9) (w:ZS) (B:(bx.shard l).ok) :
 ZQ ZL 256 #[.agg (aJ l).toArray] w λe w'=>∃ v,e=Z3 v/\Bs w' v (bx.shard l).body/\bW w w':=by
 obtain ⟨a,A⟩:=B;have j:=T9 w (Z4 (aJ l).toArray 233);have d:bW w (w.alloc (Z4 (aJ l).toArray 233)):=bA w _;have m:(w.alloc (Z4 (aJ l).toArray 233)).heap.size=w.heap.size+1:=ek
 have C:(aJ l).toArray.size=44:=by rw [Uy,aW,a]
 obtain ⟨w1,z⟩:=nM (w.alloc (Z4 (aJ l).toArray 233));rw [z] at j d m;obtain ⟨ra,f⟩:=nM ((aJ l).toArray);have H:=a7 j d m A f;rw [f] at z C ⊢;clear j d m A f;go_enter func256,ntmps256;go_wp2_with (at_make;refine eo _ rfl (.const (Z7 Z9 60)) (.const (Z7 Z9 60)) rfl _ 60 rfl rfl rfl eb ?_;intro w2 h t I;have E:=h.cell 0 ec;have F:=h.frozen 0);have q:aM (w2.setCell ⟨w1.heap.size,0,ZW⟩ (Z7 .u8 3)) w1.heap.size ((YD 60 0).set 0 3):=h.set 0 3;have G:=H.out.2.2.1;have x:(w2.setCell ⟨w1.heap.size,0,ZW⟩ (Z7 .u8 3)).heap[w.heap.size]?=ZV (Z4 (aJ l).toArray 233 (0,0)):=(T7 _ _ _ _ (by show w.heap.size≠w1.heap.size;omega)).trans ((t.block _ eb).trans H.out.1);have c:bW w (w2.setCell ⟨w1.heap.size,0,ZW⟩ (Z7 .u8 3)):=(H.out.2.1.trans (t.mono eb)).setCell (p:=⟨w1.heap.size,0,ZW⟩) (by show w.heap.size<=w1.heap.size;omega) _;refine zq ei q ek x a H.out.2.2.2.1 eb rfl rfl rfl ?_;intro D vs y b s;obtain ⟨K,L,M,N,O,rfl⟩:=Ro y;have u:bW w D:=c.trans (s.below λk J=>⟨eT c.size,λe=>eb⟩);have i:spl ((YD 60 0).set 0 3) 16 l=(bx.shard l).body:=by
  unfold spl bx.body;rw [a];simp [YD]
 rw [i] at b;have g:=Bs.SD (n:=60) b (by rw [<- i,oF Zv];simp) ec (mB (r:=.shard l) ⟨a,H.out.2.2.2.1⟩);rw [UU (jA (r:=.shard l) ⟨a,H.out.2.2.2.1⟩),show (bx.shard l).body.length=60 by rw [<- i,oF Zv];simp] at g;have o:=au g u;clear g u b s c x q y;rename_i hK
 refine hK _ _ ?_;clear hK;simp only [Act.RL,Act.put,UL,UJ,UM];go_wp2;go_ret;exact ⟨_,rfl,o.out.1,o.out.2⟩
theorem zt (w:ZS) (hv:aY w) :
 ZQ ZL 158 #[bm .filled] w λe w'=>e=Z3 (.agg (aw bx.filled.blk))/\bW w w':=by
 have P:=zeroBlk;have j:=DL.new w;obtain ⟨w1,M⟩:=nM ((w.alloc (Z4 (aw zb) 40)).alloc (Z4 (aw zb) 40));rw [M] at j;have z:=jA (r:=.filled) trivial;have p:=mB (r:=.filled) trivial;have t:bx.filled.blk=dQ bx.filled.body:=by unfold bx.blk;rw [if_neg Zz]
 have m:0<bx.filled.body.length:=Zz
 have l:=A6 w1;rw [t];obtain ⟨body,s⟩:=nM (bx.filled.body);rw [s] at z p m l ⊢;have b:=aE j p hv;unfold bm;clear j p hv t s;go_enter func158,ntmps158;go_wp2_with fail;refine l.mono ?_;clear l;rintro e w2 ⟨v,rfl,o,y⟩;have d:=b.out.1.mono y;obtain ⟨ao,c,rfl,G,H,I,J⟩:=id o;have A:body≠[]:=by intro e;rw [e] at m;simp at m
 have K:=oG (n:=60) (cap:=60) (off:=4) 3 d.blk o A eb ZA;have f:DL w (w2.setRow (w.heap.size+1) (aw (spl zb 4 body))) w.heap.size (w.heap.size+1) (spl zb 4 body):=d.set (aa.setRow (S:=λk=>k=w.heap.size+1) _ _ _ rfl) (d.blk.setRow _);obtain ⟨N,C⟩:=nM (w2.setRow (w.heap.size+1) (aw (spl zb 4 body)));rw [C] at K f;have L:(spl zb 4 body).length=64:=by rw [oF ZA,bw]
 have E:=b.out.2.2.lt;have hv3:aY N:=b.out.2.2.below f.below E;have i:=au f hv3;clear d o y G H I J C f hv3 A;go_wp2_with fail;refine j8 ei i.out.1.blk L (DM J9 b.out.2.1) i.out.2 eb rfl rfl ?_;intro Q vs B u x;obtain ⟨R,T,U,V,W,X,rfl⟩:=J8 B;have g:=i.out.1.set x u;rw [zo z] at g;have h:(dQ body).length=64:=abG
 obtain ⟨sb,q⟩:=nM (dQ body);rw [q] at g h;have F:=al q;have a:=al g;clear g u x B q;rename_i hK
 refine hK _ _ ?_;clear hK;simp only [Act.RL,Act.put,UL,UJ,UM];go_wp2_with (first|(refine mD rfl (Z0 3) rfl (w.heap.size+1) sb rfl a.out.blk h ?_)|(refine eG rfl (Z0 2) (Z0 19) rfl w.heap.size sb zb rfl rfl a.out.res bw h ?_));have D:=a.out.res.setRow sb;refine Uf (v:=.agg (aw sb)) (VG results158 _ _ w.heap.size 40 (aw sb) (0,0) _ rfl D Wr rfl (eX h)) rfl ?_;exact ⟨by rw [F.out],a.out.below.trans ⟨rfl,rfl,rfl,B2,λk O=>(aF _ _ _).block k (eT a.out.res.lt) (λe=>Zf)⟩⟩
theorem A7 (l:a9) (w:ZS) (j:(bx.shard l).ok) (hv:aY w) :
 ZQ ZL 158 #[bm (.shard l)] w λe w'=>e=Z3 (.agg (aw (bx.shard l).blk))/\bW w w':=by
 have R:=zeroBlk;have o:=DL.new w;obtain ⟨w1,O⟩:=nM ((w.alloc (Z4 (aw zb) 40)).alloc (Z4 (aw zb) 40));rw [O] at o;have A:=jA j;have r:=mB j;have u:(bx.shard l).blk=dQ (bx.shard l).body:=by unfold bx.blk;rw [if_neg Zz]
 have p:0<(bx.shard l).body.length:=Zz
 have d:=DO l w1 j;rw [u];obtain ⟨body,t⟩:=nM ((bx.shard l).body);rw [t] at A r p d ⊢;have b:=aE o r hv;unfold bm;obtain ⟨ra,C⟩:=nM ((aJ l).toArray);simp only [C] at d ⊢;clear o r hv j u C t;go_enter func158,ntmps158;go_wp2_with fail;refine d.mono ?_;clear d;rintro e w2 ⟨v,rfl,q,z⟩;have f:=b.out.1.mono z;obtain ⟨ao,c,rfl,I,J,K,L⟩:=id q;have B:body≠[]:=by intro e;rw [e] at p;simp at p
 have M:=oG (n:=60) (cap:=60) (off:=4) 3 f.blk q B eb ZA;have g:DL w (w2.setRow (w.heap.size+1) (aw (spl zb 4 body))) w.heap.size (w.heap.size+1) (spl zb 4 body):=f.set (aa.setRow (S:=λk=>k=w.heap.size+1) _ _ _ rfl) (f.blk.setRow _);obtain ⟨P,E⟩:=nM (w2.setRow (w.heap.size+1) (aw (spl zb 4 body)));rw [E] at M g;have N:(spl zb 4 body).length=64:=by rw [oF ZA,bw]
 have G:=b.out.2.2.lt;have hv3:aY P:=b.out.2.2.below g.below G;have m:=au g hv3;clear f q z I J K L E g hv3 B;go_wp2_with fail;refine j8 ei m.out.1.blk N (DM J9 b.out.2.1) m.out.2 eb rfl rfl ?_;intro T vs D x y;obtain ⟨U,V,W,X,Y,Z,rfl⟩:=J8 D;have h:=m.out.1.set y x;rw [zo A] at h;have i:(dQ body).length=64:=abG
 obtain ⟨sb,s⟩:=nM (dQ body);rw [s] at h i;have H:=al s;have a:=al h;clear h x y D s;rename_i hK
 refine hK _ _ ?_;clear hK;simp only [Act.RL,Act.put,UL,UJ,UM];go_wp2_with (first|(refine mD rfl (Z0 3) rfl (w.heap.size+1) sb rfl a.out.blk i ?_)|(refine eG rfl (Z0 2) (Z0 19) rfl w.heap.size sb zb rfl rfl a.out.res bw i ?_));have F:=a.out.res.setRow sb;refine Uf (v:=.agg (aw sb)) (VG results158 _ _ w.heap.size 40 (aw sb) (0,0) _ rfl F Wr rfl (eX i)) rfl ?_;exact ⟨by rw [H.out],a.out.below.trans ⟨rfl,rfl,rfl,B2,λk Q=>(aF _ _ _).block k (eT a.out.res.lt) (λe=>Zf)⟩⟩
def oJ:oI .filled:=λw hv=>zt w hv
def rm (a:(bx.shard l).ok):oI (.shard l):=λw hv=>A7 l w a hv
def bk (w:ZS) (v p D L G ps ho:Nat):Prop:=w.heap[v]?=ZV (Z4 #[Z6 (ZV ⟨p,0,ZW⟩),Z7 Z9 D,Z7 Z9 L,Z7 Z9 G,Z6 (ZV ⟨ps,0,ZW⟩),Z7 Z8 ho] 137 (0,0))
def bk.keep (h:bk w v p D L G ps ho) (e:w'.heap[v]?=w.heap[v]?):bk w' v p D L G ps ho:=e.trans h
def bk.lt (h:bk w v p D L G ps ho):v<w.heap.size:=(TW.1 h).1
def bk.cells (h:bk w v p D L G ps ho):w.cell? ⟨v,0,ZW⟩=ZV (Z6 (ZV ⟨p,0,ZW⟩))/\w.cell? ⟨v,1,ZW⟩=ZV (Z7 Z9 D)/\w.cell? ⟨v,2,ZW⟩=ZV (Z7 Z9 L)/\w.cell? ⟨v,3,ZW⟩=ZV (Z7 Z9 G)/\w.cell? ⟨v,4,ZW⟩=ZV (Z6 (ZV ⟨ps,0,ZW⟩))/\w.cell? ⟨v,5,ZW⟩=ZV (Z7 Z8 ho):=by
 have a:w.heap[v]?=ZV (Z4 #[Z6 (ZV ⟨p,0,ZW⟩),Z7 Z9 D,Z7 Z9 L,Z7 Z9 G,Z6 (ZV ⟨ps,0,ZW⟩),Z7 Z8 ho] 137 (0,0)):=h;simp [World.cell?,a]
def aY.outside {S:Nat->Prop} (h:aY w) (a:aa S w w') (b:¬ S 2):aY w':=λj c=>by
 have:=h j c;rw [<- this];exact Uh (a.block _ (T8 this) b)
theorem zu (n:Int) (w:ZS):ZQ ZL 64 #[.nilIface,.iface 54 (Z7 Z9 n)] w λe w'=>e=Z3 (Z1 ZT)/\w'=w:=by
 have a:∀ d w,(Op.equalIn (d+1) 42 .nilIface (.iface 54 (Z7 Z9 n))).run ZL w=.ok ZT w:=λd w=>by
  simp only [Op.equalIn,Uo,Uw underlying42,Uz];rfl
 have b:∀ w,(Op.equalIn 10000 42 .nilIface (.iface 54 (Z7 Z9 n))).run ZL w=.ok ZT w:=λw=>a 9999 w;have c:∀ w,(binOp .eql 42 .nilIface (.iface 54 (Z7 Z9 n))).run ZL w=.ok (Z1 ZT) w:=λw=>by
  simp only [binOp];simp [Op.equal,Op.maxDepth,b]
 clear a b;go_enter func64,ntmps64;go_wp2;go_ret;exact ⟨rfl,rfl⟩
theorem Kb (w:ZS):ZQ ZL 132 #[.nilIface] w λe w'=>e=Z3 (ZY #[])/\w'=w:=by
 go_enter func132,ntmps132;go_wp2_with fail;refine (zu 13 w).mono ?_;rintro e w' ⟨rfl,rfl⟩;go_wp2;first|go_end0|skip
 exact ⟨rfl,rfl⟩
theorem tl (p:ZP) (w:ZS):CallsD ZL 94 #[Z6 (ZV p)] .returning w λe u' w'=>e=Z3 (ZY #[])/\u'=.returning/\w'=w:=by
 refine callsD_of_wpS func94 rfl λa cs f=>?_;have g:∀ w,(binOp .eql 20 .nilIface .nilIface).run ZL w=.ok (Z1 ZU) w:=λw=>by
  have b:∀ d,(Op.equalIn (d+1) 20 .nilIface .nilIface).run ZL w=.ok ZU w:=λd=>by
   simp only [Op.equalIn,Uo,Uw underlying20,Uz];rfl
  have c:=b 9999;simp only [binOp];simp [Op.equal,Op.maxDepth,c]
 apply wpS_seq;apply wpS_region;generalize hN:Code.wpS ZL _ _=N;simp [wpOpsS,go_sem,recoverD,f,ntmps94,Exit.thenS];rw [<- hN];clear hN;refine wpS_of_wp ?_;simp only [UX,UY,UZ,Uk,UH,UL,UJ,UM,U0];go_wp2;cases a;simp_all [bodyPostS,results,results94]
def isErr (v:ZR):Prop:=v=.nilIface\/∃ t u,v=.iface t u
def nl (D L G:Int) (lost:Int) (reading:Bool) (regs:Int) (steps:ZR) (n o:ZR):Array ZR:=#[Z7 Z9 D,Z7 Z9 L,Z7 Z9 G,Z7 Z8 lost,Z1 reading,Z7 Z9 regs,steps,n,o]
structure pW (w:ZS) (sb:Nat) (room:Int):Prop where
 ends:w.heap[sb]?=ZV (Z4 (nl 0 0 0 0 ZT 0 (Z5 ZW 0 0) (Z6 (ZV ⟨sb,0,ZW⟩)) (Z6 (ZV ⟨sb,0,ZW⟩))) 236 (0,0))
 map:∃ n,w.heap[sb+1]?=ZV (.map #[] n)
 list:w.heap[sb+1+1]?=ZV (Z4 #[Z7 Z9 room,.map (ZV (sb+1)),Z6 (ZV ⟨sb,0,ZW⟩)] 239 (0,0))
 Sc:w.heap[sb+1+1+1]?=ZV (Z4 #[Z6 (ZV ⟨sb+1+1,0,ZW⟩)] 191 (0,0))
def pW.lt (h:pW w sb room):sb+1+1+1<w.heap.size:=(TW.1 h.Sc).1
def pW.keep (h:pW w sb room) (a:∀ k,sb<=k->k<=sb+1+1+1->w'.heap[k]?=w.heap[k]?):pW w' sb room:=
 ⟨(a _ eb eb).trans h.ends,h.map.imp λ_ q=>(a _ eb eb).trans q,(a _ eb eb).trans h.list,(a _ eb eb).trans h.Sc⟩
def pW.below (h:pW w sb room) (a:bW w w'):pW w' sb room:=h.keep λk _ b=>a.block k (eT h.lt)
def np (w:ZS) (a b c:Obj):(((w.alloc a).alloc b).alloc c).heap[w.heap.size]?=ZV a/\(((w.alloc a).alloc b).alloc c).heap[w.heap.size+1]?=ZV b/\(((w.alloc a).alloc b).alloc c).heap[w.heap.size+1+1]?=ZV c:=by
 refine ⟨(Ut _ _ _ en).trans ((Ut _ _ _ ek).trans (T9 _ _)),(Ut _ _ _ ek).trans ?_,?_⟩
 . have:=T9 (w.alloc a) b;rwa [Ua] at this
 . have:=T9 ((w.alloc a).alloc b) c;rwa [Ua,Ua] at this
structure aaI (w:ZS) (sb:Nat) (room:Int):Prop where
 ends:w.heap[sb]?=ZV (Z4 (nl 0 0 0 0 ZT 0 (Z5 ZW 0 0) (Z6 (ZV ⟨sb,0,ZW⟩)) (Z6 (ZV ⟨sb,0,ZW⟩))) 236 (0,0))
 map:∃ n,w.heap[sb+1]?=ZV (.map #[] n)
 list:w.heap[sb+1+1]?=ZV (Z4 #[Z7 Z9 room,.map (ZV (sb+1)),Z6 (ZV ⟨sb,0,ZW⟩)] 239 (0,0))
theorem vJ (n:Int) (w:ZS):ZQ ZL 93 #[Z7 Z9 n] w λe w'=>e=Z3 (Z6 (ZV ⟨w.heap.size+1+1,0,ZW⟩))/\aaI w' w.heap.size n/\w'.heap.size=w.heap.size+1+1+1/\bW w w':=by
 have i:∀ w,(Instr.makeMap 237 ZW).run ZL w=.ok (.map (ZV w.heap.size)) (w.alloc (.map #[] 0)):=λ_=>rfl;have a:∀ b c d:Obj,bW w (((w.alloc b).alloc c).alloc d):=λb c d=>((bA w _).alloc ek _).alloc en _;have H:=al a;clear a;go_enter func93,ntmps93;go_wp2;go_ret;obtain ⟨f,g,h⟩:=np w (Z4 (nl 0 0 0 0 ZT 0 (Z5 ZW 0 0) (Z6 (ZV ⟨w.heap.size,0,ZW⟩)) (Z6 (ZV ⟨w.heap.size,0,ZW⟩))) 236) (.map #[] 0) (Z4 #[Z7 Z9 n,.map (ZV (w.heap.size+1)),Z6 (ZV ⟨w.heap.size,0,ZW⟩)] 239);exact ⟨rfl,⟨f,⟨0,g⟩,h⟩,ek,H.out _ _ _⟩
theorem zv (n:Int) (w:ZS):ZQ ZL 62 #[Z7 Z9 n] w λe w'=>∃ b,e=Z3 (Z6 (ZV ⟨b+1+1+1,0,ZW⟩))/\w.heap.size<=b/\pW w' b n/\bW w w':=by
 go_enter func62,ntmps62;go_wp2_with fail;refine (vJ n w).mono ?_;rintro e w1 ⟨rfl,a,d,c⟩;have H:=aE c a d;have g:=c.size;clear c a d;go_wp2;go_ret;obtain ⟨c,a,d⟩:=H.out;have f:bW w1 (w1.alloc (Z4 #[Z6 (ZV ⟨w.heap.size+1+1,0,ZW⟩)] 191)):=bA w1 _;refine ⟨w.heap.size,by rw [d];rfl,TV _,⟨(f.block _ eb).trans a.ends,a.map.imp λ_ q=>(f.block _ eb).trans q,(f.block _ eb).trans a.list,?_⟩,c.trans (f.mono g)⟩;have:=T9 w1 (Z4 #[Z6 (ZV ⟨w.heap.size+1+1,0,ZW⟩)] 191);rwa [d] at this
theorem DP (p D L G:Nat) (n:Int) (w:ZS):ZQ ZL 44 #[Z6 (ZV ⟨p,0,ZW⟩),.agg #[Z7 Z9 D,Z7 Z9 L,Z7 Z9 G],Z7 Z9 n] w λe w'=>∃ v b,e=Z3 (Z6 (ZV ⟨v,0,ZW⟩))/\w.heap.size<=v/\bk w' v p D L G (b+1+1+1) 0/\(w.heap.size<=b/\b+1+1+1<v/\pW w' b n)/\bW w w':=by
 obtain ⟨w1,l⟩:=nM (w.alloc (Z4 #[Z7 Z9 (D:Int),Z7 Z9 (L:Int),Z7 Z9 (G:Int)] 26));have d:w1.heap[w.heap.size]?=ZV (Z4 #[Z7 Z9 (D:Int),Z7 Z9 (L:Int),Z7 Z9 (G:Int)] 26 (0,0)):=by rw [<- l];exact T9 w (Z4 #[Z7 Z9 (D:Int),Z7 Z9 (L:Int),Z7 Z9 (G:Int)] 26)
 have k:bW w w1:=by rw [<- l];exact bA w _
 have o:w1.cell? ⟨w.heap.size,0,ZW⟩=ZV (Z7 Z9 (D:Int)):=Ok
 have c1:w1.cell? ⟨w.heap.size,1,ZW⟩=ZV (Z7 Z9 (L:Int)):=Ok
 have q:w1.cell? ⟨w.heap.size,2,ZW⟩=ZV (Z7 Z9 (G:Int)):=Ok
 have H:=au d k;clear d k;go_enter func44,ntmps44;go_wp2_with fail;go_region_with (go_at_call 62;refine (zv n _).mono ?_;rintro e w2 ⟨b,rfl,g,c,a⟩;have f:=(a.block _ (TW.1 H.out.1).1).trans H.out.1;have r:w2.cell? ⟨w.heap.size,0,ZW⟩=ZV (Z7 Z9 (D:Int)):=Ze;have d1:w2.cell? ⟨w.heap.size,1,ZW⟩=ZV (Z7 Z9 (L:Int)):=Ze;have s:w2.cell? ⟨w.heap.size,2,ZW⟩=ZV (Z7 Z9 (G:Int)):=Ze;have m:=aE g c a;clear g c a f);all_goals (
  go_wp2;go_ret;obtain ⟨g,c,a⟩:=m.out;have h:=H.out.2.size;have t:w1.heap.size<=w2.heap.size:=a.size;have j:=(TX _ w2).alloc lR (Z4 #[Z6 (ZV ⟨p,0,ZW⟩),Z7 Z9 D,Z7 Z9 L,Z7 Z9 G,Z6 (ZV ⟨b+1+1+1,0,ZW⟩),Z7 Z8 0] 137);have i:bW w w2:=H.out.2.drew.trans (a.mono h);exact ⟨_,b,rfl,eb,T9 _ _,⟨TU h g,c.lt,c.below j⟩,i.trans (j.mono i.size)⟩)
section
open Go.Extern.Stop Go.Stop Go.Extern
def Tryz.TI (t:ZP) (w:ZS):(ReflectliteValue.unpack (.iface 101 (Z6 (ZV t)))).run ZL w
 = .ok (.agg #[Z6 (ZV ⟨3,101,ZW⟩),Z6 (ZV ⟨w.heap.size,0,ZW⟩),Z7 Z8 150]) (w.alloc (Z4 #[Z6 (ZV t)] 101)):=ei
def Tryz.typeP (a:ZP) (w:ZS):(ReflectliteValue.methodAny (ReflectliteValue.valueError "reflectlite.Value.Type" 0) (λt _ _ _=>ReflectliteType.toType t) #[.agg #[Z6 (ZV ⟨3,101,ZW⟩),Z6 (ZV a),Z7 Z8 150]]).run ZL w
 = .ok (.iface 148 (.agg #[Z6 (ZV ⟨3,101,ZW⟩)])) w:=ei
def Tryz.Tf (h:ZR) (w:ZS):(YE 463 148 (.agg #[h]) "Kind").run ZL w=.ok (231,h) w:=ei
def Tryz.kindP (w:ZS):((ReflectliteType.abiMethod λt=>(λa:Nat=>Value.int IntKind.u8 (a:Int)) <$> Rtype.kind t) #[Z6 (ZV ⟨3,101,ZW⟩)]).run ZL w=.ok (Z7 .u8 22) w:=ei
def Tryz.kindE (w:ZS):((ReflectliteType.abiMethod λt=>(λa:Nat=>Value.int IntKind.u8 (a:Int)) <$> Rtype.kind t) #[Z6 (ZV ⟨3,54,ZW⟩)]).run ZL w=.ok (Z7 .u8 2) w:=ei
def Tryz.TL (a:ZP) (w:ZS):(ReflectliteValue.parts (.agg #[Z6 (ZV ⟨3,101,ZW⟩),Z6 (ZV a),Z7 Z8 150])).run ZL w=.ok (ZV (101,a,150)) w:=ei
theorem Tryz.isNilP (a p:ZP) (W:ZS) (b:W.cell? a=ZV (Z6 (ZV p))) :
 (ReflectliteValue.method (ReflectliteValue.valueError "reflectlite.Value.IsNil" 0) ReflectliteValue.isNil #[.agg #[Z6 (ZV ⟨3,101,ZW⟩),Z6 (ZV a),Z7 Z8 150]]).run ZL W=.ok (Z1 ZT) W:=by
 refine YG (congrArg (λz=>Sem.run ZL z W) (show ReflectliteValue.method _ _ #[.agg #[Z6 (ZV ⟨3,101,ZW⟩),Z6 (ZV a),Z7 Z8 150]]=(ReflectliteValue.parts (.agg #[Z6 (ZV ⟨3,101,ZW⟩),Z6 (ZV a),Z7 Z8 150]) >>= _) from rfl)) ?_;simp only [Uo,Tryz.TL,Result.andThen];simp [ReflectliteValue.isNil,loadVar,isAgg,underlying,underlying101,b,Result.andThen]
def Tryz.Td (h:ZR) (w:ZS):(YE 463 148 (.agg #[h]) "Elem").run ZL w=.ok (246,.agg #[h]) w:=ei
def Tryz.Sx (h:ZR) (w:ZS):(YE 463 148 (.agg #[h]) "Implements").run ZL w=.ok (247,.agg #[h]) w:=ei
def Tryz.Sm (h:ZR) (w:ZS):(YE 463 148 (.agg #[h]) "AssignableTo").run ZL w=.ok (244,.agg #[h]) w:=ei
def Tryz.elemP (w:ZS):(ReflectliteType.method ReflectliteType.elem #[.agg #[Z6 (ZV ⟨3,101,ZW⟩)]]).run ZL w=.ok (.iface 148 (.agg #[Z6 (ZV ⟨3,54,ZW⟩)])) w:=ei
def Tryz.S0 (w:ZS):(ReflectliteType.relation "Implements" ReflectliteType.implements_ #[.agg #[Z6 (ZV ⟨3,54,ZW⟩)],.iface 148 (.agg #[Z6 (ZV ⟨3,42,ZW⟩)])]).run ZL w=.ok (Z1 ZU) w:=ei
def Tryz.SP (v:ZR) (w:ZS):(ReflectliteType.typeOf #[.iface 54 v]).run ZL w=.ok (.iface 148 (.agg #[Z6 (ZV ⟨3,54,ZW⟩)])) w:=ei
def Tryz.SY (w:ZS):(ReflectliteType.relation "AssignableTo" ReflectliteType.assignableTo #[.agg #[Z6 (ZV ⟨3,54,ZW⟩)],.iface 148 (.agg #[Z6 (ZV ⟨3,54,ZW⟩)])]).run ZL w=.ok (Z1 ZU) w:=ei
def Tryz.TR (x:Int) (w:ZS):(ReflectliteValue.unpack (.iface 54 (Z7 Z9 x))).run ZL w
 = .ok (.agg #[Z6 (ZV ⟨3,54,ZW⟩),Z6 (ZV ⟨w.heap.size,0,ZW⟩),Z7 Z8 130]) (w.alloc (Z4 #[Z7 Z9 x] 54)):=ei
def Tryz.elemOfP (w:ZS):(Rtype.elem? 101).run ZL w=.ok (ZV 54) w:=ei
def Tryz.mkE (p:ZP) (w:ZS):(ReflectliteValue.mk 54 p ReflectliteValue.flagAddr).run ZL w=.ok (.agg #[Z6 (ZV ⟨3,54,ZW⟩),Z6 (ZV p),Z7 Z8 386]) w:=ei
theorem Tryz.elemVP (a p:ZP) (W:ZS) (b:W.cell? a=ZV (Z6 (ZV p))) :
 (ReflectliteValue.method (ReflectliteValue.valueError "reflectlite.Value.Elem" 0) ReflectliteValue.elem #[.agg #[Z6 (ZV ⟨3,101,ZW⟩),Z6 (ZV a),Z7 Z8 150]]).run ZL W
  = .ok (.agg #[Z6 (ZV ⟨3,54,ZW⟩),Z6 (ZV p),Z7 Z8 386]) W:=by
 refine YG (congrArg (λz=>Sem.run ZL z W) (show ReflectliteValue.method _ _ #[.agg #[Z6 (ZV ⟨3,101,ZW⟩),Z6 (ZV a),Z7 Z8 150]]=(ReflectliteValue.parts (.agg #[Z6 (ZV ⟨3,101,ZW⟩),Z6 (ZV a),Z7 Z8 150]) >>= _) from rfl)) ?_;simp only [Uo,Tryz.TL,Result.andThen];simp [ReflectliteValue.elem,loadVar,isAgg,underlying,underlying101,b,Result.andThen,Tryz.elemOfP,Tryz.mkE]
def Tryz.partsEa (a:ZP) (w:ZS):(ReflectliteValue.parts (.agg #[Z6 (ZV ⟨3,54,ZW⟩),Z6 (ZV a),Z7 Z8 386])).run ZL w=.ok (ZV (54,a,386)) w:=ei
def Tryz.partsE (a:ZP) (w:ZS):(ReflectliteValue.parts (.agg #[Z6 (ZV ⟨3,54,ZW⟩),Z6 (ZV a),Z7 Z8 130])).run ZL w=.ok (ZV (54,a,130)) w:=ei
def Tryz.directE (w:ZS):(Rtype.directlyAssignable 54 54).run ZL w=.ok ZU w:=ei
theorem Tryz.setE (a b:ZP) (x:Int) (old:ZR) (W:ZS) (c:W.cell? b=ZV (Z7 Z9 x)) (ht:W.cell? a=ZV old) (d:W.frozen? a=ZT) :
 (ReflectliteValue.set #[.agg #[Z6 (ZV ⟨3,54,ZW⟩),Z6 (ZV a),Z7 Z8 386],.agg #[Z6 (ZV ⟨3,54,ZW⟩),Z6 (ZV b),Z7 Z8 130]]).run ZL W
  = .ok (ZY #[]) (W.setCell a (Z7 Z9 x)):=by
 refine YG (congrArg (λz=>Sem.run ZL z W) (show ReflectliteValue.set #[.agg #[Z6 (ZV ⟨3,54,ZW⟩),Z6 (ZV a),Z7 Z8 386],.agg #[Z6 (ZV ⟨3,54,ZW⟩),Z6 (ZV b),Z7 Z8 130]]=(ReflectliteValue.parts (.agg #[Z6 (ZV ⟨3,54,ZW⟩),Z6 (ZV a),Z7 Z8 386]) >>= λp=>ReflectliteValue.parts (.agg #[Z6 (ZV ⟨3,54,ZW⟩),Z6 (ZV b),Z7 Z8 130]) >>= (_:_->Sem ZR)) from rfl)) ?_;simp only [Uo,Tryz.partsEa,Tryz.partsE,Result.andThen];simp [ReflectliteValue.flagAddr,loadVar,isAgg,underlying,underlying54,c,Result.andThen,Tryz.directE,storeVar,Value.cells,storeCells,Addr.add];rw [run_store ZL W a _ _ l3];simp [ht,d]
theorem PA (x:Int) (t:ZP) (old:ZR) (w:ZS) (c:w.cell? ⟨0,0,ZW⟩=ZV (.iface 148 (.agg #[Z6 (ZV ⟨3,42,ZW⟩)]))) (a:w.cell? t=ZV old) (f:w.frozen? t=ZT) :
 ZQ ZL 31 #[.iface 54 (Z7 Z9 x),.iface 101 (Z6 (ZV t))] w λd w'=>d=Z3 (Z1 ZU)/\w'=((((w.alloc (Z4 #[Z6 (ZV t)] 101)).alloc (Z4 #[Z6 (ZV ⟨3,101,ZW⟩),Z6 (ZV ⟨w.heap.size,0,ZW⟩),Z7 Z8 150] 120)).alloc (Z4 #[Z6 (ZV ⟨3,101,ZW⟩),Z6 (ZV ⟨w.heap.size,0,ZW⟩),Z7 Z8 150] 120)).alloc (Z4 #[Z7 Z9 x] 54)).setCell t (Z7 Z9 x):=by
 have o := @run_callFunc_extern ZL 47 _ (λargs=>ReflectliteValue.unpack (args.getD 0 (ZY #[]))) func47 ei ei ei ei;have p := @run_callFunc_extern ZL 48 _ (ReflectliteValue.methodAny (ReflectliteValue.valueError "reflectlite.Value.Type" 0) (λt _ _ _=>ReflectliteType.toType t)) func48 ei ei ei ei;have q := @run_callFunc_extern ZL 49 _ (ReflectliteValue.method (ReflectliteValue.valueError "reflectlite.Value.IsNil" 0) ReflectliteValue.isNil) func49 ei ei ei ei;have u := @run_callFunc_extern ZL 231 _ (ReflectliteType.abiMethod λt=>do pure (Z7 .u8 (<- Rtype.kind t))) func231 ei ei ei ei;have y := @run_callFunc_extern ZL 246 _ (ReflectliteType.method ReflectliteType.elem) func246 ei ei ei ei;have z := @run_callFunc_extern ZL 247 _ (ReflectliteType.relation "Implements" ReflectliteType.implements_) func247 ei ei ei ei;have n := @run_callFunc_extern ZL 72 _ ReflectliteType.typeOf func72 ei ei ei ei;have v := @run_callFunc_extern ZL 244 _ (ReflectliteType.relation "AssignableTo" ReflectliteType.assignableTo) func244 ei ei ei ei;have r := @run_callFunc_extern ZL 73 _ (ReflectliteValue.method (ReflectliteValue.valueError "reflectlite.Value.Elem" 0) ReflectliteValue.elem) func73 ei ei ei ei;have s := @run_callFunc_extern ZL 74 _ ReflectliteValue.set func74 ei ei ei ei;have J:=Tryz.SP;have E:=Tryz.Sm;have i:=Tryz.SY;have K:=Tryz.TR;have l:=Tryz.TI;have m:=Tryz.typeP;have H:=Tryz.Tf;have F:=Tryz.Td;have G:=Tryz.Sx;have D:=Tryz.kindP;have C:=Tryz.kindE;have j:=Tryz.elemP;have B:=Tryz.S0;have I:=Tryz.isNilP ⟨w.heap.size,0,ZW⟩ t ((w.alloc (Z4 #[Z6 (ZV t)] 101)).alloc (Z4 #[Z6 (ZV ⟨3,101,ZW⟩),Z6 (ZV ⟨w.heap.size,0,ZW⟩),Z7 Z8 150] 120)) ek;have g:0<w.heap.size:=by
  rcases WQ w.heap.size with e|h
  . simp [World.cell?,e] at c
  . exact h
 have A:((w.alloc (Z4 #[Z6 (ZV t)] 101)).alloc (Z4 #[Z6 (ZV ⟨3,101,ZW⟩),Z6 (ZV ⟨w.heap.size,0,ZW⟩),Z7 Z8 150] 120)).cell? ⟨0,0,ZW⟩=ZV (.iface 148 (.agg #[Z6 (ZV ⟨3,42,ZW⟩)])):=by
  rw [Ww _ _ ⟨0,0,ZW⟩ ek,Ww _ _ ⟨0,0,ZW⟩ g];exact c
 have b:t.block<w.heap.size:=by
  rcases XF t.block w.heap.size with h|h
  . exact h
  . simp [World.cell?,WN h] at a
 have k:=Tryz.elemVP ⟨w.heap.size,0,ZW⟩ t (((w.alloc (Z4 #[Z6 (ZV t)] 101)).alloc (Z4 #[Z6 (ZV ⟨3,101,ZW⟩),Z6 (ZV ⟨w.heap.size,0,ZW⟩),Z7 Z8 150] 120)).alloc (Z4 #[Z6 (ZV ⟨3,101,ZW⟩),Z6 (ZV ⟨w.heap.size,0,ZW⟩),Z7 Z8 150] 120)) (by rw [Ww _ _ ⟨w.heap.size,0,ZW⟩ en];simp);have st:=Tryz.setE t ⟨w.heap.size+1+1+1,0,ZW⟩ x old ((((w.alloc (Z4 #[Z6 (ZV t)] 101)).alloc (Z4 #[Z6 (ZV ⟨3,101,ZW⟩),Z6 (ZV ⟨w.heap.size,0,ZW⟩),Z7 Z8 150] 120)).alloc (Z4 #[Z6 (ZV ⟨3,101,ZW⟩),Z6 (ZV ⟨w.heap.size,0,ZW⟩),Z7 Z8 150] 120)).alloc (Z4 #[Z7 Z9 x] 54))
  (by rw [World.cell?_alloc_at _ _ _ _ ek];rfl)
  (by rw [Ww _ _ t en,Ww _ _ t en,Ww _ _ t en,Ww _ _ t b];exact a)
  (by rw [Ye _ _ t en,Ye _ _ t en,Ye _ _ t en,Ye _ _ t (Nat.ne_of_lt b)];exact f)
 go_enter func31,ntmps31;go_wp2;refine VL 1 ?_;rw [Vw];go_wp2;go_ret;exact ⟨rfl,rfl⟩
theorem oK (w:ZS) :
 ZQ ZL 12 #[.nilIface] w λe w'=>e=Z3 (Z7 Z9 0)/\bW w w':=by
 go_enter func12,ntmps12;go_wp2;go_ret;exact ⟨rfl,bA _ _⟩
theorem nI (x:Int) (w:ZS) (a:w.cell? ⟨0,0,ZW⟩=ZV (.iface 148 (.agg #[Z6 (ZV ⟨3,42,ZW⟩)]))) :
 ZQ ZL 12 #[.iface 54 (Z7 Z9 x)] w λe w'=>e=Z3 (Z7 Z9 x)/\bW w w':=by
 have d:0<w.heap.size:=by
  rcases WQ w.heap.size with b|h
  . simp [World.cell?,b] at a
  . exact h
 have c:(w.alloc (Z4 #[Z7 Z9 0] 54)).cell? ⟨0,0,ZW⟩=ZV (.iface 148 (.agg #[Z6 (ZV ⟨3,42,ZW⟩)])):=by
  rw [Ww _ _ ⟨0,0,ZW⟩ d];exact a
 go_enter func12,ntmps12;go_wp2_with (go_at_call 31;refine (PA x ⟨w.heap.size,0,ZW⟩ (Z7 Z9 0) _ c ek ek).mono ?_;rintro e w' ⟨rfl,rfl⟩);go_ret;refine ⟨rfl,?_⟩;repeat (first|exact TX _ _|refine WR ?_ ek _|refine Below.alloc ?_ (by (try simp only [Ug]);omega) _)
theorem se (x:Int) (w:ZS) :
 ZQ ZL 20 #[Z7 Z9 x] w λe w'=>e=Z3 (Z7 Z9 x)/\w'=w:=by
 go_enter func20,ntmps20;go_wp2;go_ret;exact ⟨rfl,rfl⟩
end
def Tryz.Tq:(ZL.info? 54).map (λi=>i.comparable)=ZV ZU:=ei
def wX (n m:Int) (w:ZS):(binOp .eql 42 (.iface 54 (Z7 Z9 n)) (.iface 54 (Z7 Z9 m))).run ZL w=.ok (Z1 (n==m)) w:=by
 obtain ⟨i,f,c⟩:=VU.1 Tryz.Tq;have a:∀ d,(Op.equalIn (d+1) 54 (Z7 Z9 n) (Z7 Z9 m)).run ZL w=.ok (n==m) w:=λd=>run_equalIn_int (w:=w) d 54 .i64 .i64 n m underlying54;have b:∀ d,(Op.equalIn (d+1+1) 42 (.iface 54 (Z7 Z9 n)) (.iface 54 (Z7 Z9 m))).run ZL w=.ok (n==m) w:=λd=>by
  rw [Op.equalIn];simp [Uo,Uw underlying42,Uz,typeInfo,f,c,a d]
 have e:=b 9998;simp only [binOp];simp [Op.equal,Op.maxDepth,e]
theorem GO (n:Int) (a:n≠13) (w:ZS):ZQ ZL 95 #[.iface 54 (Z7 Z9 n),.iface 54 (Z7 Z9 13),Z1 ZU] w λe w'=>e=Z3 (Z1 ZT)/\w'=w:=by
 have f:∀ w,(binOp .eql 42 (.iface 54 (Z7 Z9 n)) (.iface 54 (Z7 Z9 13))).run ZL w=.ok (Z1 ZT) w:=λw=>by rw [wX];simp [a]
 have b:∀ w:ZS,(Instr.typeAssert (.iface 54 (Z7 Z9 n)) 42 240 ZU).run ZL w=.ok (ZY #[.nilIface,Z1 ZT]) w:=λw=>WS abi ei ei _ _ w;have c:∀ w:ZS,(Instr.typeAssert (.iface 54 (Z7 Z9 n)) 42 156 ZU).run ZL w=.ok (ZY #[.nilIface,Z1 ZT]) w:=λw=>WS abj ei ei _ _ w;have d:∀ w:ZS,(Instr.typeAssert (.iface 54 (Z7 Z9 n)) 42 157 ZU).run ZL w=.ok (ZY #[.nilIface,Z1 ZT]) w:=λw=>WS underlying157 ei ei _ _ w;go_enter func95,ntmps95;go_wp2;refine VL 1 ?_;rw [Vw];go_wp2;go_ret;exact ⟨rfl,rfl⟩
theorem Kc (n:Int) (a:n≠13) (w:ZS):ZQ ZL 64 #[.iface 54 (Z7 Z9 n),.iface 54 (Z7 Z9 13)] w λe w'=>e=Z3 (Z1 ZT)/\w'=w:=by
 have ht:=Tryz.SP (Z7 Z9 13);have b := @run_callFunc_extern ZL 72 _ Extern.ReflectliteType.typeOf func72 ei ei ei ei;have d:∀ (h:ZR) (w:ZS),(YE 463 148 (.agg #[h]) "Comparable").run ZL w=.ok (245,.agg #[h]) w:=λh w=>ei
 have c:∀ w:ZS,(callFunc 245 #[.agg #[Z6 (ZV ⟨3,54,ZW⟩)]]).run ZL w=.ok (.value (Z1 ZU)) w:=λw=>ei
 go_enter func64,ntmps64;go_wp2_with fail;refine (GO n a w).mono ?_;rintro e w' ⟨rfl,rfl⟩;go_wp2;go_ret;exact ⟨rfl,rfl⟩
def lL (v D L G t f n:Nat) (pg ob:ZR) (off:Bool):Array ZR:=#[Z6 (ZV ⟨v,0,ZW⟩),Z7 Z9 D,Z7 Z9 L,Z7 Z9 G,Z7 Z8 t,Z7 Z9 f,Z7 Z9 n,pg,ob,Z1 off]
def bf (w:ZS) (a v D L G t f n:Nat) (pg ob:ZR) (off:Bool):Prop:=w.heap[a]?=ZV (Z4 (lL v D L G t f n pg ob off) 115 (0,0))
def fJ (v:ZR):Prop:=v=.nilIface\/∃ n:Int,n≠13/\v=.iface 54 (Z7 Z9 n)
def fJ.isErr {v:ZR} (h:fJ v):isErr v:=by
 rcases h with h|⟨n,_,h⟩
 . exact .inl h
 . exact .inr ⟨_,_,h⟩
section
attribute [local go_sem] Oper.semAt_some
def bp (K:Nat->Prop) (w:ZS) (v:ZR) (l:a9):Prop:=
 ∃ ao c,v=.slice ao l.length c/\l.length<=1000000/\(l≠[]->∃ b off,ao=ZV ⟨b,off,ZW⟩/\K b/\b<w.heap.size/\∀ i (hi:i<l.length),w.cell? ⟨b,off+i,ZW⟩=ZV (Z7 Z9 ((l[i]:Nat):Int)))
structure Ob where
 name:ByteArray
 size:Nat
 RM:a9
def fa (K:Nat->Prop) (w:ZS) (v:ZR) (os:List Ob):Prop:=
 ∃ ao c,v=.slice ao os.length c/\os.length<=1000000/\(os≠[]->∃ b off,ao=ZV ⟨b,off,ZW⟩/\K b/\b<w.heap.size/\∀ i (hi:i<os.length),∃ sv,
  w.cell? ⟨b,off+i*3,ZW⟩=ZV (ZZ os[i].name)/\w.cell? ⟨b,off+i*3+1,ZW⟩=ZV (Z7 Z9 (os[i].size:Nat))/\w.cell? ⟨b,off+i*3+2,ZW⟩=ZV sv/\bp K w sv os[i].RM)
def dN (K:Nat->Prop) (w w':ZS):Prop:=w.heap.size<=w'.heap.size/\∀ k,k<w.heap.size->K k->w'.heap[k]?=w.heap[k]?
def dN.refl (K:Nat->Prop) (w:ZS):dN K w w:=⟨TV _,λ_ _ _=>rfl⟩
def dN.trans {a b c:ZS} (h:dN K a b) (k:dN K b c):dN K a c:=⟨TU h.1 k.1,λi d e=>(k.2 i (TY d h.1) e).trans (h.2 i d e)⟩
def dN.RN (h:bW w w'):dN K w w':=⟨h.size,λk a _=>h.block k a⟩
def bp.keep {v:ZR} (h:bp K w v l) (a:dN K w w'):bp K w' v l:=by
 obtain ⟨ao,c,f,g,j⟩:=h;refine ⟨ao,c,f,g,λm=>?_⟩;obtain ⟨b,off,n,d,e,o⟩:=j m;exact ⟨b,off,n,d,TY e a.1,λi k=>(Uh (a.2 b e d)).trans (o i k)⟩
def fa.keep {v:ZR} {os:List Ob} (h:fa K w v os) (d:dN K w w'):fa K w' v os:=by
 obtain ⟨ao,c,g,j,k⟩:=h;refine ⟨ao,c,g,j,λm=>?_⟩;obtain ⟨b,off,n,e,f,o⟩:=k m;refine ⟨b,off,n,e,TY f d.1,λi l=>?_⟩;obtain ⟨t,p,q,r,s⟩:=o i l;have a:=d.2 b f e;exact ⟨t,(Uh a).trans p,(Uh a).trans q,(Uh a).trans r,s.keep d⟩
def bp.nil (K:Nat->Prop) (w:ZS):bp K w (Z5 ZW 0 0) []:=⟨ZW,0,rfl,ec,λh=>absurd rfl h⟩
def fa.nil (K:Nat->Prop) (w:ZS):fa K w (Z5 ZW 0 0) []:=⟨ZW,0,rfl,ec,λh=>absurd rfl h⟩
def an (os:List Ob):a9:=os.flatMap (·.RM)
def DQ (os:List Ob) (k:Nat) (a:k<os.length):an (os.take (k+1))=an (os.take k)++os[k].RM:=by
 have e:os.take (k+1)=os.take k++[os[k]]:=by rw [Vd,T2 a];rfl
 rw [e];unfold an;rw [Wx];simp
def nJ (x:Nat):Array ZR:=#[Z7 Z9 (x:Int)]
def A8 {os:List Ob} (m:Nat) (b:k<os.length):an (os.take k)++(os[k].RM).take m<+:an os:=by
 have a:an os=an (os.take k)++(os[k].RM++an (os.drop (k+1))):=by
  have e:an (os.take k++os[k]::os.drop (k+1))=an (os.take k)++(os[k].RM++an (os.drop (k+1))):=by unfold an;rw [Wx,VR]
  rwa [<- abh b,Wc] at e
 rw [a];refine (abk _).2 ?_;exact (List.take_prefix m _).trans (Xp _ _)
theorem lM (K:Nat->Prop) (n l b1:Nat) (v:ZR) (os:List Ob) (J V:a9->ZS->Prop) (k7:∀ pre A B,J pre A->bW A B->J pre B)
 (G:a9) (hY:∀ pre x W,J pre W->pre++[x]<+:G->YieldAt Fence.wide (n-1) ZL l (nJ x) W λe g=>(e=Z3 (Z1 ZU)/\J (pre++[x]) g/\dN K W g)\/(e=Z3 (Z1 ZT)/\V (pre++[x]) g))
 (a:a9) (k8:a++an os<+:G) (W:ZS) (L:W.cell? ⟨b1,0,ZW⟩=ZV v) (N:fa K W v os) (X:J a W) :
 CallsIn Fence.wide n ZL 153 #[.func (.yield l) #[] #[],Z6 (ZV ⟨b1,0,ZW⟩)] W λe g=>(∃ v,e=Z3 v) /\
  ((J (a++an os) g)\/(∃ pre,pre<+:an os/\V (a++pre) g)):=by
 obtain ⟨ao,c,rfl,kb,t⟩:=id N;refine WL func153 rfl trivial ?_ rfl;simp only [ntmps153,Uy,Um,UQ,YH,YI,UX,UY,UZ,U0,Uk,UH];have U:=au N X;clear N X t;gi_wp2;gi_loopw [9] (λp wr=>∃ k:Nat,p=Z7 Z9 (k:Nat)/\k<=os.length/\J (a++an (os.take k)) wr/\fa K wr (.slice ao os.length c) os)
  (λp _=>os.length-(intOf p).toNat)
 case atStart=>
  exact ⟨0,rfl,T3 _,by simpa [an] using U.out.2,U.out.1⟩
 case round=>
  obtain ⟨k,rfl,hk,r,z⟩:=hrel;by_cases i:k<os.length
  . obtain ⟨hd,c',o,_,t⟩:=id z;obtain ⟨b,off,I,kh,ki,hz⟩:=t (λe=>by rw [e] at i;simp at i);simp only [Vt] at o;obtain ⟨rfl,_,rfl⟩:=o;subst I;obtain ⟨sv,r1,r2,r3,F⟩:=hz k i;obtain ⟨so,sc,rfl,ke,s⟩:=id F;obtain ⟨st,R⟩:=nM (os[k].RM);obtain ⟨NN,Z⟩:=nM (os.length);obtain ⟨nm,k0⟩:=nM (os[k].name);obtain ⟨sz,k6⟩:=nM (((os[k].size:Nat):Int));rw [R] at r3 F ke s;rw [k0] at r1;rw [k6] at r2;have H:=a7 r z F R Z;clear r z t hz F s R Z k0 k6;gi_wp2;obtain ⟨wx,S⟩:=nM (wr.alloc (Z4 #[ZZ nm,Z7 Z9 sz,.slice so st.length sc] 130));have D:bW wr wx:=(by rw [<- S];exact bA wr _);rw [S];clear S;have hx:=k7 _ _ _ H.out.1 D;have hr:=H.out.2.1.keep (dN.RN D);have hs:=H.out.2.2.1.keep (dN.RN D);gi_loopw [16] (λp T=>∃ m:Nat,p=Z7 Z9 (m:Nat)/\m<=st.length/\J (a++(an (os.take k)++st.take m)) T/\fa K T (Z5 (ZV ⟨b,off,ZW⟩) os.length c) os/\bp K T (.slice so st.length sc) st)
     (λp _=>st.length-(intOf p).toNat)
    case atStart=>
     exact ⟨0,rfl,T3 _,vE hx,hr,hs⟩
    case round=>
     clear hx hr hs D;obtain ⟨m,rfl,hm,f,w,C⟩:=hrel;by_cases q:m<st.length
     . obtain ⟨kk,kj,o,_,s⟩:=id C;obtain ⟨b2,hb,I,kg,k9,Y⟩:=s (λe=>by rw [e] at q;simp at q);simp only [Vt] at o;obtain ⟨rfl,_,rfl⟩:=o;subst I;have g1:=Y m q;obtain ⟨y,E⟩:=nM (st[m]);rw [E] at g1;have k5:(a++(an (os.take k)++st.take m))++[y]<+:G:=by
        have L:=A8 (os:=os) (m+1) i;rw [H.out.2.2.2.1,Vd,T2 q,E] at L;have h2:=((abk a).2 L).trans k8;simpa using h2
       obtain ⟨fn,tmps,assign,body,kf,hR⟩:=hY _ y _ f k5;clear k5;unfold nJ at kf;have d:=a7 f w C hR E;clear f w C hR s Y E;gi_wp2;refine ⟨λh=>Bf,d.out.2.2.2.1.mono ?_⟩;have u:a++(an (os.take k)++st.take m)++[y]=a++(an (os.take k)++st.take (m+1)):=by
        have e:st.take (m+1)=st.take m++[y]:=(by rw [Vd,T2 q,d.out.2.2.2.2];rfl);rw [e];simp
       rintro e W3 (⟨rfl,P,Q⟩|⟨rfl,M⟩)
       . rw [u] at P;have j:=aE P (d.out.2.1.keep Q) (d.out.2.2.1.keep Q);clear P Q u;gi_wp2;go_roundw
         case rel=>exact ⟨m+1,e8,eb,j.out.1,j.out.2.1,j.out.2.2⟩
         case measure=>simp only [intOf];omega
       . rw [u] at M;have j:=al M;clear M u;gi_wp2;refine Uf (Xc rfl _ _ _) rfl ?_;have hp:=A8 (os:=os) (m+1) i;rw [H.out.2.2.2.1] at hp;exact ⟨⟨_,rfl⟩,.inr ⟨_,hp,j.out⟩⟩
     . have kc:m=st.length:=eb;subst kc;rw [VE] at f;have O:=DQ os k i;rw [H.out.2.2.2.1] at O;rw [<- O] at f;have d:=au f w;clear f w C O;gi_wp2;go_roundw
       case rel=>exact ⟨k+1,e8,eb,d.out.1,d.out.2⟩
       case measure=>simp only [intOf];omega
  . have ka:k=os.length:=eb;subst ka;rw [VE] at r;have HJ:=al r;clear r z;gi_wp2;go_end0
    exact ⟨⟨_,rfl⟩,.inl HJ.out⟩
def Ke {α:Type} {pre l:List α} {x:α} (h:pre++[x]<+:l):pre.length<l.length:=by
 have:=h.length_le;rw [T5,abl] at this;omega
def tn (K:Nat->Prop) (n l b1:Nat) (v:ZR) (os:List Ob) (J c:a9->ZS->Prop) (g:∀ pre A B,J pre A->bW A B->J pre B)
 (N:Nat) (j:∀ pre x W,J pre W->pre.length<N->YieldAt Fence.wide (n-1) ZL l (nJ x) W λe b=>(e=Z3 (Z1 ZU)/\J (pre++[x]) b/\dN K W b)\/(e=Z3 (Z1 ZT)/\c (pre++[x]) b))
 (a:a9) (m:a.length+(an os).length<=N) (W:ZS) (f:W.cell? ⟨b1,0,ZW⟩=ZV v) (i:fa K W v os) (d:J a W) :
 CallsIn Fence.wide n ZL 153 #[.func (.yield l) #[] #[],Z6 (ZV ⟨b1,0,ZW⟩)] W λe b=>(∃ v,e=Z3 v) /\
  ((J (a++an os) b)\/(∃ pre,pre<+:an os/\c (a++pre) b)):=
 lM K n l b1 v os J c g (a++an os) (λpre x W h k=>j pre x W h (by have:=Ke k;rw [T5] at this;omega)) a (Yf _) W f i d
end
def bf.cells {a:Nat} {off:Bool} (h:bf w a v D L G t f n pg ob off):w.cell? ⟨a,0,ZW⟩=ZV (Z6 (ZV ⟨v,0,ZW⟩))/\w.cell? ⟨a,4,ZW⟩=ZV (Z7 Z8 t)/\w.cell? ⟨a,6,ZW⟩=ZV (Z7 Z9 n)/\w.cell? ⟨a,7,ZW⟩=ZV pg/\w.cell? ⟨a,8,ZW⟩=ZV ob:=by
 have b:w.heap[a]?=ZV (Z4 (lL v D L G t f n pg ob off) 115 (0,0)):=h;simp [World.cell?,b,lL]
def bf.keep {off:Bool} (h:bf w ar v D' L' G' t' f' n' pg ob off) (e:w'.heap[ar]?=w.heap[ar]?):bf w' ar v D' L' G' t' f' n' pg ob off:=YG e h
def bf.lt {off:Bool} (h:bf w ar v D' L' G' t' f' n' pg ob off):ar<w.heap.size:=(TW.1 h).1
theorem iq (h:bk w v p D L G ps ho):ZQ ZL 67 #[Z6 (ZV ⟨v,0,ZW⟩)] w λe w'=>e=Z3 (.agg #[Z7 Z9 D,Z7 Z9 L,Z7 Z9 G])/\bW w w'/\w'.heap.size=w.heap.size+1/\w'.heap[w.heap.size]?=ZV (Z4 #[Z7 Z9 D,Z7 Z9 L,Z7 Z9 G] 26 (0,0)):=by
 have o:=h.lt;have d:bk (w.alloc (Z4 #[Z7 Z9 0,Z7 Z9 0,Z7 Z9 0] 26)) v p D L G ps ho:=h.keep (Ut _ _ _ o);obtain ⟨i,c1,l,m,n⟩:=d.cells;have b:bW w (w.alloc (Z4 #[Z7 Z9 0,Z7 Z9 0,Z7 Z9 0] 26)):=bA w _;have ht:=T9 w (Z4 #[Z7 Z9 0,Z7 Z9 0,Z7 Z9 0] 26);obtain ⟨w1,c⟩:=nM (w.alloc (Z4 #[Z7 Z9 0,Z7 Z9 0,Z7 Z9 0] 26));rw [c] at i c1 l m n b ht;have s:w1.cell? ⟨w.heap.size,0,ZW⟩=ZV (Z7 Z9 0):=ZE
 have t:w1.cell? ⟨w.heap.size,1,ZW⟩=ZV (Z7 Z9 0):=ZE
 have u:w1.cell? ⟨w.heap.size,2,ZW⟩=ZV (Z7 Z9 0):=ZE
 have a:∀ k,w1.frozen? ⟨w.heap.size,k,ZW⟩=ZT:=λk=>by simp [World.frozen?,ht]
 have q:=a 0;have f1:=a 1;have r:=a 2;have f:w1.heap.size=w.heap.size+1:=by rw [<- c];simp
 have H:=aE b ht f;clear d b ht a h f;go_enter func67,ntmps67;go_wp2;have g:=ai (j:=2) (ai (j:=1) (ai (j:=0) H.out.2.1 (Z7 Z9 (D:Int))) (Z7 Z9 (L:Int))) (Z7 Z9 (G:Int));refine Uf (v:=.agg #[Z7 Z9 D,Z7 Z9 L,Z7 Z9 G]) (VG results67 _ _ w.heap.size 26 #[Z7 Z9 (D:Int),Z7 Z9 (L:Int),Z7 Z9 (G:Int)] (0,0) _ rfl g underlying26 rfl ei) rfl ?_;exact ⟨rfl,((H.out.1.setCell (p:=⟨w.heap.size,0,ZW⟩) lR _).setCell (p:=⟨w.heap.size,1,ZW⟩) lR _).setCell (p:=⟨w.heap.size,2,ZW⟩) lR _,by simp [World.setCell,H.out.2.2],g⟩
def vL (h:bk w v p D L G ps ho):ZQ ZL 67 #[Z6 (ZV ⟨v,0,ZW⟩)] w λe w'=>e=Z3 (.agg #[Z7 Z9 D,Z7 Z9 L,Z7 Z9 G])/\bW w w':=(iq h).mono λ_ _ q=>⟨q.1,q.2.1⟩
theorem cG (h:bk w v p D L G ps ho) (g:D<=1000):ZQ ZL 83 #[Z6 (ZV ⟨v,0,ZW⟩)] w λe w'=>e=Z3 (Z7 Z9 ((D*44:Nat):Int))/\w'=w:=by
 obtain ⟨b,c1,c,d,f⟩:=h.cells;have a:((D*44:Nat):Int)=(D:Int)*44:=eb
 rw [a];go_enter func83,ntmps83;go_wp2;go_ret;exact ⟨rfl,rfl⟩
theorem j9 {a:Nat} {off:Bool} (d:bf w a v D' L' G' t f n pg ob off) (h:bk w v p D L G ps ho) (j:1<=D) (c:D<=1000):ZQ ZL 121 #[Z6 (ZV ⟨a,0,ZW⟩)] w λe w'=>e=Z3 (Z7 Z9 ((D*44-4:Nat):Int))/\w'=w:=by
 obtain ⟨i,_⟩:=d.cells;have b:((D*44-4:Nat):Int)=((D*44:Nat):Int)-4:=eb
 rw [b];have g:=cG h c;have b1:D*44<=44000:=eb
 generalize D*44=q at *;go_enter func121,ntmps121;go_wp2_with fail;refine g.mono ?_;rintro e w' ⟨rfl,rfl⟩;go_wp2;go_ret;exact ⟨rfl,rfl⟩
theorem length_nil (w:ZS):ZQ ZL 87 #[Z5 ZW 0 0] w λe w'=>e=Z3 (Z7 Z9 0)/\w'=w:=by
 go_enter func87,ntmps87;go_wp2;refine VL 1 ?_;rw [Vw];go_wp2;go_ret;exact ⟨rfl,rfl⟩
theorem DR {A:aA} (h:aj w p A F):ZQ ZL 43 #[Z6 (ZV ⟨p,0,ZW⟩)] w λe w'=>e=Z3 (Z7 Z9 A.n)/\w'=w:=by
 obtain ⟨a,c1,_,_⟩:=h.R4;go_enter func43,ntmps43;go_wp2;go_ret;exact ⟨rfl,rfl⟩
theorem kl {A:aA} (h:aj w p A F) (a:0<A.n):ZQ ZL 29 #[Z6 (ZV ⟨p,0,ZW⟩)] w λe w'=>e=Z3 (Z7 Z9 A.nb)/\w'=w:=by
 obtain ⟨b,c1,_,_⟩:=h.R4;obtain ⟨c,d1,d,f⟩:=h.Sd 0 a;rw [Xe,Uc] at d1;go_enter func29,ntmps29;go_wp2;go_ret;exact ⟨rfl,rfl⟩
section
attribute [local go_sem] Oper.semAt_some
abbrev Mb (s:Nat):={ x:Nat // x<16/\s.testBit x=ZU }
def wY {s:Nat} (x:Mb s):Array ZR:=#[Z7 Z9 (x.1:Int)]
def ep {s:Nat} (pre:List (Mb s)):a9:=pre.map (·.1)
def cK {s:Nat} (pre:List (Mb s)) (x:Mb s):ep (pre++[x])=ep pre++[x.1]:=by unfold ep;simp
def oL (h:n<=16):ae (2^n-1)=YC n:=by
 have:∀ k:Fin 17,ae (2^k.1-1)=YC k.1:=ec
 exact this ⟨n,eb⟩
theorem A9 (n:Nat) (l Bs s:Nat) (A:s<65536) (J g:List (Mb s)->ZS->Prop)
 (y:∀ pre x W,J pre W->pre.length<(ae s).length->YieldAt Fence.wide (n-1) ZL l (wY x) W λe c=>
  (e=Z3 (Z1 ZU)/\J (pre++[x]) c/\(aK W->aK c))\/(e=Z3 (Z1 ZT)/\g (pre++[x]) c))
 (W:ZS) (E:W.cell? ⟨Bs,0,ZW⟩=ZV (Z7 Z8 s)) (w:aK W) (m:J [] W) :
 CallsIn Fence.wide n ZL 156 #[.func (.yield l) #[] #[],Z6 (ZV ⟨Bs,0,ZW⟩)] W λe c=>(∃ v,e=Z3 v) /\
  ((∃ k,k.map (·.1)=ae s/\J k c)\/(∃ pre,pre.map (·.1)<+:ae s/\g pre c)):=by
 refine WL func156 rfl trivial ?_ rfl;simp only [ntmps156,Uy,Um,UQ,YH,YI,UX,UY,UZ,U0,Uk,UH];gi_wp2;gi_loopw [3] (λp wr=>∃ (pre:List (Mb s)) (q:Nat),p=Z7 Z8 q/\q<65536/\ae s=pre.map (·.1)++ae q/\J pre wr/\aK wr)
  (λp _=>(intOf p).toNat)
 case atStart=>
  exact ⟨[],s,rfl,A,rfl,m,w⟩
 case round=>
  obtain ⟨pre,q,rfl,b,d,i,j⟩:=hrel;by_cases a:q=0
  . subst a;gi_wp2;go_end0
    exact ⟨⟨_,rfl⟩,.inl ⟨pre,by rw [d,wM,V7],i⟩⟩
  . have D:((q:Int) != 0)=ZU:=en;have f:ox q<16/\s.testBit (ox q)=ZU:=bS.1 Zd;obtain ⟨fn,tmps,assign,body,B,u⟩:=y pre ⟨ox q,f⟩ wr i Zd;unfold wY at B;gi_wp2;refine bX (JE q a b wr j) ?_;rintro e w' ⟨rfl,rfl⟩;gi_wp2;refine ⟨λh=>Bf,u.mono ?_⟩;rintro e C (⟨rfl,r,t⟩|⟨rfl,o⟩)
    . have F:IntKind.u64.wrap ((q:Int)-1)=((q-1:Nat):Int):=Zn;have z:=gh q (q-1) eb eb;rw [Ff a b] at z;gi_wp2;go_roundw
      case rel=>exact ⟨pre++[⟨ox q,f⟩],bI q (ox q),rfl,pP _ _ b,Zd,r,t j⟩
      case measure=>have:=oy a b;simp only [intOf];omega
    . gi_wp2;refine Uf (Xc rfl _ _ _) rfl ?_;exact ⟨⟨_,rfl⟩,.inr ⟨pre++[⟨ox q,f⟩],Zd,o⟩⟩
def nK (n Bs s:Nat) (h:s<65536) (w:ZS) (d:Bs<w.heap.size) (g:w.cell? ⟨Bs,0,ZW⟩=ZV (Z7 Z8 s)) (j:3<=w.heap.size) (e:aK w) :
 SeqStopsK Fence.wide n ZL 156 #[Z6 (ZV ⟨Bs,0,ZW⟩)] (wY (s:=s)) Fh (λi=>i.map (·.1)=ae s) (λpre=>pre.map (·.1)<+:ae s) (ae s).length w:=λl J b W a _ _ f c=>
 A9 n l Bs s h J b f W ((a.cell (p:=⟨Bs,0,ZW⟩) d).trans g) (e.mono eb a) c
end
section
attribute [local go_sem] Oper.semAt_some
def aA.putAt (A:aA) (ds:a9) (b:Nat) (f:Nat->a9):aA:={ A with blk:=λi m=>if i∈ds/\m=b then f i else A.blk i m,bad:=λi m=>if i∈ds/\m=b then ZT else A.bad i m }
def wZ (A:aA) (b:Nat) (f:Nat->a9):A.putAt [] b f=A:=by simp [aA.putAt]
theorem tq (A:aA) (ds:a9) (d b:Nat) (f:Nat->a9):((A.putAt ds b f).RX d b (f d)).RU d b ZT=A.putAt (ds++[d]) b f:=by
 unfold aA.putAt aA.RX aA.RU;congr 1
 . funext i m;simp only [Ub,U9];by_cases e:i=d/\m=b
   . obtain ⟨rfl,rfl⟩:=e;rw [if_pos ⟨rfl,rfl⟩,if_pos ⟨.inr rfl,rfl⟩]
   . rw [if_neg e];by_cases a:i∈ds/\m=b
     . rw [if_pos a,if_pos ⟨.inl a.1,a.2⟩]
     . rw [if_neg a,if_neg (λq=>q.1.elim (λh=>a ⟨h,q.2⟩) (λh=>e ⟨h,q.2⟩))]
 . funext i m;simp only [Ub,U9];by_cases e:i=d/\m=b
   . obtain ⟨rfl,rfl⟩:=e;rw [if_pos ⟨rfl,rfl⟩,if_pos ⟨.inr rfl,rfl⟩]
   . rw [if_neg e];by_cases a:i∈ds/\m=b
     . rw [if_pos a,if_pos ⟨.inl a.1,a.2⟩]
     . rw [if_neg a,if_neg (λq=>q.1.elim (λh=>a ⟨h,q.2⟩) (λh=>e ⟨h,q.2⟩))]
theorem aA.fit.putAt {A:aA} (h:A.fit) (ds:a9) (b:Nat) (f:Nat->a9) (a:∀ i,i∈ds->(f i).length=64/\∀ x∈f i,x<256):(A.putAt ds b f).fit:=by
 refine ⟨h.n,h.nb,λk m=>?_,λk m=>?_⟩
 . show (if k∈ds/\m=b then f k else A.blk k m).length=64;split
   . rename_i q;exact (a k q.1).1
   . exact h.len k m
 . show ∀ x∈(if k∈ds/\m=b then f k else A.blk k m),x<256;split
   . rename_i q;exact (a k q.1).2
   . exact h.byt k m
def aK.keep (h:aK w) (e:w'.heap[1]?=w.heap[1]?):aK w':=λj a=>by
 rw [<- h j a];unfold World.cell?;rw [e]
def aK.lt (h:aK w):1<w.heap.size:=T8 (h 0 ec)
def aY.keep (h:aY w) (e:w'.heap[2]?=w.heap[2]?):aY w':=λj a=>by
 rw [<- h j a];unfold World.cell?;rw [e]
structure rp (w:ZS) (v p D L G ps ho:Nat) (A:aA) (F:aR):Prop where
 vol:bk w v p D L G ps ho
 arr:aj w p A F
 laid:aY w
 RZ:aK w
 room:3<=w.heap.size
structure m8 (F:aR) (p n v:Nat):Prop where
 v:¬ F.has p n v
 g:¬ F.has p n 2
 t:¬ F.has p n 1
def rp.below {A:aA} (h:rp w v p D L G ps ho A F) {B:Nat} (a:Below B w w') (b:w.heap.size<=B):rp w' v p D L G ps ho A F:=
 ⟨h.vol.keep (a.block _ (TY h.vol.lt b)),h.arr.below a b,h.laid.below a (TY h.laid.lt b),h.RZ.keep (a.block _ (TY h.RZ.lt b)),TU h.room a.size⟩
def rp.turn {A A':aA} (h:rp w v p D L G ps ho A F) (b:m8 F p n v) (a:aa (F.has p n) w w') (c:aj w' p A' F):rp w' v p D L G ps ho A' F:=
 ⟨h.vol.keep (a.block _ h.vol.lt b.v),c,h.laid.keep (a.block _ h.laid.lt b.g),h.RZ.keep (a.block _ h.RZ.lt b.t),TU h.room a.size⟩
def Ba {t8:Nat} {ty:ZN} {R:Ending->ZS->Prop} (f:fn.results=#[.cell t8 ty]) (c:a.defers=[{ target:=.collected D',args:=#[] }]) (h8:a.tmps.getD t8 ZX=Z6 (ZV ⟨b,0,ZW⟩))
 (hl:∀ w,w.heap[b]?=Z.heap[b]?->(loadVar ty ⟨b,0,ZW⟩).run ZL w=.ok x w) (hK:Z.heap[D']?=ZV (.deferred (ZV []))) (hD:b≠D')
 (hR:R (Z3 x) (Z.putObj D' (.deferred ZW))):bodyPostM Fence.wide n ZL fn R .ret a Z:=by
 obtain ⟨g,h⟩:=a;simp only at c h8;subst c;refine ⟨ek,.inl ⟨_,_,rfl,Wd hK,?_⟩⟩;have d:=hl (Z.putObj D' (.deferred ZW)) (UE hD);refine ⟨x,?_,hR⟩;have e:g[t8]?.getD ZX=Z6 (ZV ⟨b,0,ZW⟩):=vE h8
 simp [results,f,asAddr,e,d]
theorem ts {s:Nat} (h:Boxed Z b 131 (Z7 Z8 s)) (w:ZS) (e:w.heap[b]?=Z.heap[b]?):(loadVar 131 ⟨b,0,ZW⟩).run ZL w=.ok (Z7 Z8 s) w:=by
 have a:w.cell? ⟨b,0,ZW⟩=ZV (Z7 Z8 s):=(show Boxed w b 131 (Z7 Z8 s) from e.trans h).cell;simp [go_sem,a]
end
theorem kt (h:bk w v p D L G ps ho) (k:D<=12) (n:L<=4) (l:G<=4) (j:D+L+G<=16):ZQ ZL 103 #[Z6 (ZV ⟨v,0,ZW⟩)] w λe w'=>e=Z3 (Z7 Z8 ((2^(D+L+G)-1:Nat):Int))/\bW w w':=by
 obtain ⟨_,c1,g,i,_⟩:=h.cells;obtain ⟨m,d⟩:=nM (D+L+G);obtain ⟨q,a⟩:=nM (((2^m-1:Nat):Int));rw [d,a];have c:=al a;clear a;go_enter func103,ntmps103;go_wp2_with fail;refine (dU (D:Int) (L:Int) (G:Int) w ⟨eb,eb⟩ ⟨eb,eb⟩ ⟨eb,eb⟩).mono ?_;rintro e f ⟨rfl,b⟩;rw [(eb:((D:Int)+(L:Int)+(G:Int))=(m:Int))];have H:=al b;clear b;go_wp2_with fail;refine (mH m eb f).mono ?_;rw [c.out];rintro e o ⟨rfl,rfl⟩;go_wp2;go_ret;exact ⟨rfl,H.out⟩
def Tryz.S9:(ZL.info? 195).map (λi=>(i.zero,i.size,i.bytes))=ZV (ZV .nilIface,1,16):=ei
def vM (w:ZS) {ops:Array ZO} {rest:List ZO} {o:ZO} {a:Act} {Q:Exit->Act->ZS->Prop}
 (h:o.guard=ZW) (l c:ZM) (e:o.op=Op.makeSlice 140 l c) (C:Int) (n:Nat) (i:a.eval l=Z7 Z9 C) (g:a.eval c=Z7 Z9 C) (f:C=(n:Int)) (j:n<=1000000)
 (hK:∀ w',w'.rowIs w.heap.size 195 n (λ_=>.nilIface)->bW w w'->w'.heap.size=w.heap.size+1->wpList ZL ops Q rest (a.put o.dst (Z5 (ZV ⟨w.heap.size,0,ZW⟩) n n)) w') :
 wpList ZL ops Q (o::rest) a w:=by
 refine VD h λK d=>?_;have b:=Xs (P:=ZL) 140 195 .nilIface 16 underlying140 Tryz.S9 rfl .i64 .i64 n eb eb w;subst f;unfold Oper.wp;simp [execOp,e,i,g,b,Result.andThen];exact d _ _ (hK _ (W5 w _ n _) (bA _ _) (Ug _ _))
def iL (r:bx):∃ a x,bm r=.iface a x:=by cases r<;>exact ⟨_,_,rfl⟩
section
attribute [local go_sem] Oper.semAt_some
def Kf (w:ZS) (base g:Nat) (R:List a9):Prop:=base<=g/\g<w.heap.size/\∀ i (hi:i<R.length),∃ b off c,w.cell? ⟨g,i,ZW⟩=ZV (Z5 (ZV ⟨b,off,ZW⟩) 44 c)/\base<=b/\b<w.heap.size/\w.rangeAt b off (aJ R[i])/\R[i].length=44/\∀ x∈R[i],x<256
def Kf.keep (h:Kf w base g R) (f:w.heap.size<=w'.heap.size) (e:∀ k,base<=k->k<w.heap.size->w'.heap[k]?=w.heap[k]?):Kf w' base g R:=by
 obtain ⟨a,d,n⟩:=h;refine ⟨a,TY d f,λi o=>?_⟩;obtain ⟨b,off,c,p,l,m,q,r⟩:=n i o;exact ⟨b,off,c,(Uh (e g a d)).trans p,l,TY m f,λj v hv=>(Uh (e b l m)).trans (q j v hv),r⟩
noncomputable def RWs:Array ZO:=((Tryz.f91.body.bind (nZ · 3))).getD #[]
def Rp:List (Op×Option Nat×a9):=[(Op.load 106 (Z0 4),ZV 13,[]),
 (Op.move (Z0 9),ZV 14,[]),
 (Op.load 3 (Z0 5),ZV 15,[]),
 (Op.load 176 (Z0 6),ZV 16,[]),
 (Op.move (Z0 9),ZV 17,[]),
 (Op.indexAddr 176 (Z0 16) (Z0 17),ZV 18,[3,4]),
 (Op.load 31 (Z0 18),ZV 19,[5]),
 (Op.sliceToArrayPointer 231 (Z0 19),ZV 20,[6]),
 (Op.load 231 (Z0 20),ZV 21,[7]),
 (Op.build 233 #[(0,Z0 21)],ZV 22,[8]),
 (Op.makeInterface 233 (Z0 22),ZV 23,[9]),
 (Op.call { callee:=Callee.value (Operand.func 130),args:=#[Z0 13,Z0 14,Z0 15,Z0 23],argTypes:=#[106,3,3,195] },ZV 24,[0,1,2,10]),
 (Op.binOp BinOp.neq 42 (Z0 24) (Operand.const Value.nilIface) 42,ZV 25,[11])]
def GP:aL RWs 13 26 Rp:=bj ei ei
def Kg (h:vs.length=12):∃ a b c d e f g i j k l m,vs=[a,b,c,d,e,f,g,i,j,k,l,m]:=by
 match vs,h with
 | [a,b,c,d,e,f,g,i,j,k,l,m],_=>exact ⟨a,b,c,d,e,f,g,i,j,k,l,m,rfl⟩
end
section
attribute [local go_sem] Oper.semAt_some
abbrev Ch (D:Nat):={ i:Nat // i<D }
def C9 (g i:Nat):ZR:=Z5 (ZV ⟨g,i*44,ZW⟩) 44 44
def Fo (g:Nat) {D:Nat} (x:Ch D):Array ZR:=#[C9 g x.1]
noncomputable def RCh:Array ZO:=((Tryz.f196.body.bind (nZ · 3))).getD #[]
def aaJ:List (Op×Option Nat×a9):=[(Op.load 3 (Z0 2),ZV 13,[]),
 (Op.load 31 (Z0 1),ZV 14,[]),
 (Op.move (Z0 4),ZV 15,[]),
 (Op.slice 31 (Z0 14) (ZV (Z0 15)) ZW ZW,ZV 16,[1,2]),
 (Op.call { callee:=Callee.builtin Builtin.len,args:=#[Z0 16],argTypes:=#[31] },ZV 17,[3]),
 (Op.call { callee:=Callee.builtin Builtin.min,args:=#[Z0 13,Z0 17],argTypes:=#[3,3] },ZV 18,[0,4]),
 (Op.assign (Z0 18),ZV 5,[5,0,1,2,3,4,5])]
def GQ:aL RCh 5 19 aaJ:=bj ei ei
def aaK (g D k:Nat):List ZR:=[Z7 Z9 44,Z5 (ZV ⟨g,0,ZW⟩) (D*44) (D*44),Z7 Z9 (k*44:Nat),Z5 (ZV ⟨g,k*44,ZW⟩) (D*44-k*44) (D*44-k*44),Z7 Z9 (D*44-k*44:Nat),Z7 Z9 44,Z7 Z9 44]
theorem zw {b1 b2:Nat} (E:RCh=ops) (r:k<D) (B:w.cell? ⟨b1,0,ZW⟩=ZV (Z5 (ZV ⟨g,0,ZW⟩) (D*44) (D*44))) (C:w.cell? ⟨b2,0,ZW⟩=ZV (Z7 Z9 44)) (L:a.tmps.size=31)
 (y:a.eval (Z0 1)=Z6 (ZV ⟨b1,0,ZW⟩)) (z:a.eval (Z0 2)=Z6 (ZV ⟨b2,0,ZW⟩)) (A:a.eval (Z0 4)=Z7 Z9 (k*44:Nat))
 (F:Q .normal (Act.RL a 5 [Z7 Z9 44,a.eval (Z0 6),a.eval (Z0 7),a.eval (Z0 8),a.eval (Z0 9),a.eval (Z0 10),a.eval (Z0 11),a.eval (Z0 12),Z7 Z9 44,Z5 (ZV ⟨g,0,ZW⟩) (D*44) (D*44),Z7 Z9 (k*44:Nat),Z5 (ZV ⟨g,k*44,ZW⟩) (D*44-k*44) (D*44-k*44),Z7 Z9 (D*44-k*44:Nat),Z7 Z9 44]) w.drew) :
 (Code.region 3 ops ZU).wp ZL Q a w:=by
 subst E;refine cQ ei GQ a w eb (λi u _=>u=(aaK g D k).getD i ZX) (λ_ w'=>w'=w.drew) rfl ?_ ?_
 . intro i t;have c1:w.drew.cell? ⟨b1,0,ZW⟩=ZV (Z5 (ZV ⟨g,0,ZW⟩) (D*44) (D*44)):=B;have H:w.drew.cell? ⟨b2,0,ZW⟩=ZV (Z7 Z9 44):=C;match i,t with
   | 0,_=>
    intro o c w' Dn q ho f r m p j d b;subst d;have u0:c.eval (Z0 2)=Z6 (ZV ⟨b2,0,ZW⟩):=(r.slot 2 eb).trans z;exact ag (v:=Z7 Z9 44) ee f ⟨rfl,rfl,kq⟩
   | 1,_=>
    intro o c w' Dn q ho f r m p j d b;subst d;have u0:c.eval (Z0 1)=Z6 (ZV ⟨b1,0,ZW⟩):=(r.slot 1 eb).trans y;exact ag (v:=Z5 (ZV ⟨g,0,ZW⟩) (D*44) (D*44)) ee f ⟨rfl,rfl,kq⟩
   | 2,_=>exact λo c w' Dn q ho f r m p j d b=>ag (ah ho ((r.slot 4 eb).trans A) w') f ⟨d,rfl,kq⟩
   | 3,_=>
    intro o c w' Dn q ho f s m p j d b;have u0:c.eval (Z0 14)=Z5 (ZV ⟨g,0,ZW⟩) (D*44) (D*44):=b 1 (j 1 ec);have u1:c.eval (Z0 15)=Z7 Z9 (k*44:Nat):=b 2 (j 2 ec);have J:k*44<D*44:=eb;have G:c.tmps[15]?.getD ZX=Z7 Z9 (k*44:Nat):=A1;have K:¬ D*44=k*44:=eb;refine ag (v:=Z5 (ZV ⟨g,k*44,ZW⟩) (D*44-k*44) (D*44-k*44)) ?_ f ⟨d,rfl,kq⟩;(conv at ho=>rhs;whnf);simp only [execOp,ho,u0];generalize k*44=M at *;generalize D*44=x at *;go_simp;intro h;omega
   | 4,_=>
    intro o c w' Dn q ho f s m p j d b;have u0:c.eval (Z0 16)=Z5 (ZV ⟨g,k*44,ZW⟩) (D*44-k*44) (D*44-k*44):=b 3 (j 3 ec);refine ag (v:=Z7 Z9 (D*44-k*44:Nat)) ?_ f ⟨d,rfl,kq⟩;(conv at ho=>rhs;whnf);simp only [execOp,ho,resolve,invoke,builtin,Uo,UW,Uz,Vy,UD,U5,u0];generalize D*44-k*44=x at *;go_simp
   | 5,_=>
    intro o c w' Dn q ho f s m p j d b;have u0:c.eval (Z0 13)=Z7 Z9 44:=b 0 (j 0 ec);have u1:c.eval (Z0 17)=Z7 Z9 (D*44-k*44:Nat):=b 4 (j 4 ec);refine ag (v:=Z7 Z9 44) ?_ f ⟨d,rfl,kq⟩;(conv at ho=>rhs;whnf);simp only [execOp,ho,resolve,invoke,builtin,Uo,UW,Uz,Vy,UD,U5,u0,u1,gy];rw [if_neg eb]
   | 6,_=>
    intro o c w' Dn q ho f s m p j d b;have u0:c.eval (Z0 18)=Z7 Z9 44:=b 5 (j 5 ec);exact ag (v:=Z7 Z9 44) (by (conv at ho=>rhs;whnf);simp [execOp,ho,u0]) f ⟨d,rfl,kq⟩
   | n+7,hn=>exact absurd hn (by show ¬ n+7<7;omega)
 . rintro c w' s l ⟨Dn,I,d⟩ b;subst d;have e:c=Act.RL a 5 [Z7 Z9 44,a.eval (Z0 6),a.eval (Z0 7),a.eval (Z0 8),a.eval (Z0 9),a.eval (Z0 10),a.eval (Z0 11),a.eval (Z0 12),Z7 Z9 44,Z5 (ZV ⟨g,0,ZW⟩) (D*44) (D*44),Z7 Z9 (k*44:Nat),Z5 (ZV ⟨g,k*44,ZW⟩) (D*44-k*44) (D*44-k*44),Z7 Z9 (D*44-k*44:Nat),Z7 Z9 44]:=s.out _ rfl eb (λi t=>?_)
   . rw [e];exact F
   . match i,t with
     | 0,_=>exact b 6 ec
     | 1,_=>exact l 6 ec
     | 2,_=>exact l 7 ec
     | 3,_=>exact l 8 ec
     | 4,_=>exact l 9 ec
     | 5,_=>exact l 10 ec
     | 6,_=>exact l 11 ec
     | 7,_=>exact l 12 ec
     | 8,_=>exact b 0 ec
     | 9,_=>exact b 1 ec
     | 10,_=>exact b 2 ec
     | 11,_=>exact b 3 ec
     | 12,_=>exact b 4 ec
     | 13,_=>exact b 5 ec
     | n+14,hn=>exact absurd hn ek
def Kp2 (b1 b2:Nat) (W W':ZS):Prop:=W'.heap[b1]?=W.heap[b1]?/\W'.heap[b2]?=W.heap[b2]?
theorem DS (n l b1 b2 g D:Nat) (N:D<=1000) (J m:List (Ch D)->ZS->Prop) (K:∀ pre W,J pre W->J pre W.drew)
 (L:∀ pre x W,J pre W->pre.length<D->YieldAt Fence.wide (n-1) ZL l (Fo g x) W λe a=>
  (e=Z3 (Z1 ZU)/\J (pre++[x]) a/\Kp2 b1 b2 W a)\/(e=Z3 (Z1 ZT)/\m (pre++[x]) a))
 (W:ZS) (G:W.cell? ⟨b1,0,ZW⟩=ZV (Z5 (ZV ⟨g,0,ZW⟩) (D*44) (D*44))) (I:W.cell? ⟨b2,0,ZW⟩=ZV (Z7 Z9 44)) (F:J [] W) :
 CallsIn Fence.wide n ZL 196 #[.func (.yield l) #[] #[],Z6 (ZV ⟨b1,0,ZW⟩),Z6 (ZV ⟨b2,0,ZW⟩)] W λe a=>(∃ v,e=Z3 v) /\
  ((∃ B,B.map (·.1)=YC D/\J B a)\/(∃ pre,pre.map (·.1)<+:YC D/\m pre a)):=by
 refine WL func196 rfl trivial ?_ rfl;simp only [ntmps196,Uy,Um,UQ,YH,YI,UX,UY,UZ,U0,Uk,UH];gi_wp2;gi_loopw [4] (λp wr=>∃ (pre:List (Ch D)) (k:Nat),p=Z7 Z9 (k*44:Nat)/\k<=D/\pre.map (·.1)=YC k/\J pre wr/\wr.cell? ⟨b1,0,ZW⟩=ZV (Z5 (ZV ⟨g,0,ZW⟩) (D*44) (D*44))/\wr.cell? ⟨b2,0,ZW⟩=ZV (Z7 Z9 44))
  (λp _=>D*44-(intOf p).toNat)
 case atStart=>
  exact ⟨[],0,rfl,T3 _,rfl,F,G,I⟩
 case round=>
  obtain ⟨pre,k,rfl,Q,b,c,c1,q⟩:=hrel;have t:pre.length=k:=by have:=congrArg YJ b;simpa using this
  by_cases d:k<D
  . have R:((k*44:Nat):Int)<((D*44:Nat):Int):=eb;have i:wr.drew.cell? ⟨b1,0,ZW⟩=ZV (Z5 (ZV ⟨g,0,ZW⟩) (D*44) (D*44)):=c1;have j:wr.drew.cell? ⟨b2,0,ZW⟩=ZV (Z7 Z9 44):=q;obtain ⟨fn,tmps,assign,body,A,z⟩:=L pre ⟨k,d⟩ wr.drew (K _ _ c) eb;unfold Fo C9 at A;simp only at A;have H:=a5 z c b t;clear z c b t;gi_wp2;refine wpIn_wide.2 (zw ei d c1 q rfl rfl rfl rfl ?_);rename_i hK
    refine hK _ _ ?_;clear hK;simp only [Act.RL,Act.put,UL,UJ,UM];have O:k*44+44-k*44=44:=eb;have P:k*44+44<=D*44:=eb;generalize y:k*44=M at *;generalize ha:D*44=r at *;generalize hf:M+44=E at *;gi_wp2;refine ⟨λh=>Bf,H.out.1.mono ?_⟩;rintro e o (⟨rfl,u,w⟩|⟨rfl,s⟩)
    . have d1:o.cell? ⟨b1,0,ZW⟩=ZV (Z5 (ZV ⟨g,0,ZW⟩) r r):=(Uh w.1).trans i;have C:o.cell? ⟨b2,0,ZW⟩=ZV (Z7 Z9 44):=(Uh w.2).trans j;have f:=al u;clear u;gi_wp2;go_roundw
      case rel=>exact ⟨pre++[⟨k,d⟩],k+1,by rw [(eb:(k+1)*44=E)];congr 1;omega,eb,by rw [Uu,H.out.2.2.1,Vl];rfl,f.out,by rw [ha];exact d1,C⟩
      case measure=>simp only [intOf];omega
    . have f:=al s;clear s;gi_wp2;refine Uf (Xc rfl _ _ _) rfl ?_;refine ⟨⟨_,rfl⟩,.inr ⟨pre++[⟨k,d⟩],?_,f.out⟩⟩;rw [Uu,H.out.2.2.1];refine ⟨(YC D).drop (k+1),?_⟩;show YC k++[k]++_=_;rw [<- Vl];have:YC (k+1)=(YC D).take (k+1):=by rw [List.take_range,VV eb]
      rw [this,Wc]
  . have y:k=D:=eb;subst y;gi_wp2;go_end0
    exact ⟨⟨_,rfl⟩,.inl ⟨pre,b,c⟩⟩
def zx (n b1 b2 g D:Nat) (k:D<=1000) (w:ZS) (i:b1<w.heap.size) (j:b2<w.heap.size) (d:w.cell? ⟨b1,0,ZW⟩=ZV (Z5 (ZV ⟨g,0,ZW⟩) (D*44) (D*44))) (f:w.cell? ⟨b2,0,ZW⟩=ZV (Z7 Z9 44)) :
 SeqStopsK Fence.wide n ZL 196 #[Z6 (ZV ⟨b1,0,ZW⟩),Z6 (ZV ⟨b2,0,ZW⟩)] (Fo g (D:=D)) (Kp2 b1 b2) (λq=>q.map (·.1)=YC D) (λpre=>pre.map (·.1)<+:YC D) D w:=λl J b W a m _ o c=>
 DS n l b1 b2 g D k J b (λpre X h=>m pre X X.drew ZW h ⟨rfl,rfl,rfl,TV _,λ_ _ _=>rfl⟩ (λr e=>Za)) o W ((a.cell (p:=⟨b1,0,ZW⟩) i).trans d) ((a.cell (p:=⟨b2,0,ZW⟩) j).trans f) c
theorem GR (g D:Nat) (w:ZS) :
 ZQ ZL 185 #[Z5 (ZV ⟨g,0,ZW⟩) (D*44) (D*44),Z7 Z9 44] w λe w'=>e=Z3 (.func (.func 196) #[] #[Z6 (ZV ⟨w.heap.size,0,ZW⟩),Z6 (ZV ⟨w.heap.size+1,0,ZW⟩)])/\w'=(w.alloc (Z4 #[Z5 (ZV ⟨g,0,ZW⟩) (D*44) (D*44)] 31)).alloc (Z4 #[Z7 Z9 44] 3):=by
 generalize D*44=a;go_enter func185,ntmps185;go_wp2;go_ret;exact ⟨rfl,rfl⟩
end
section
attribute [local go_sem] Oper.semAt_some
def xt {size:Nat} {v:ZR} (h:w.ownsRow base e size v n xs) {j:Nat} {o:Obj} (a:v.ownBlock=ZV j) (ho:w.heap[j]?=ZV o):o.isCells=ZU:=by
 rcases h.2 with ⟨d,_⟩|⟨g,cap,cur,b,f,c,_⟩
 . rw [d] at a;simp [Value.ownBlock] at a
 . rw [b] at a;simp [Value.ownBlock] at a;subst a;rw [c] at ho;cases ho;rfl
def lN {size:Nat} {v:ZR} {row:Option Nat} (h:w.ownsRow base e size v n xs) (a:w.grownBy w' row) (c:∀ r,row=ZV r->∃ o:Obj,w.heap[r]?=ZV o/\o.isCells=ZT):w'.ownsRow base e size v n xs:=by
 cases row with
 | none=>
  cases hv:v.ownBlock with
  | none=>exact h.kept a (.inl hv)
  | some q=>exact h.kept a (.inr (by rw [hv];intro e;cases e))
 | some r=>
  obtain ⟨o,ho,b⟩:=c r rfl;exact h.kept a (.inr λe=>by have:=xt h e ho;rw [b] at this;cases this)
def tw (w:ZS) (b i:Nat) (v:ZR):w.grownBy (w.setCell ⟨b,i,ZW⟩ v) (ZV b):=
 ⟨rfl,rfl,rfl,l7,λk _ a=>T7 _ _ _ _ (λe=>a Zc)⟩
def Fp {R:Ending->ZS->Prop} (d:fn.results=#[.tmp t]) (b:a.defers=[{ target:=.collected D',args:=#[] }]) (hx:a.tmps.getD t ZX=x)
 (hK:Z.heap[D']?=ZV (.deferred (ZV []))) (hR:R (Z3 x) (Z.putObj D' (.deferred ZW))):bodyPostM Fence.wide n ZL fn R .ret a Z:=by
 obtain ⟨e,f⟩:=a;simp only at b hx;subst b;refine ⟨ek,.inl ⟨_,_,rfl,Wd hK,?_⟩⟩;refine ⟨x,?_,hR⟩;have c:e[t]?.getD ZX=x:=vE hx
 simp [results,d,c]
def Rq (w:ZS) (g:Nat) (B D:Nat) (pre:List (Ch D)) (X:ZS):Prop:=
 (∃ v,Boxed X w.heap.size 176 v/\X.ownsRow (w.heap.size+1) 31 1 v pre.length (pre.map λx=>C9 g x.1))/\bW w X/\B<=X.heap.size
def Rq.own (i:w.heap.size+1<=B):OwnFrom B (Rq w g B D):=by
 rintro pre X Y row ⟨⟨v,c,f⟩,d,h⟩ a b;exact ⟨⟨v,(a.block _ c.lt (λe=>eT ((b _ e.symm).1))).trans c,lN f a λr e=>(b r e).2⟩,d.grown a d.size (λk e=>eT ((b k e).1)),TU h a.size⟩
def Tryz.Sk:(ZL.info? 31).map (λi=>(i.zero,i.size,i.bytes))=ZV (ZV (Z5 ZW 0 0),1,24):=ei
def Kh {F:Fence} {rest:List ZO} (t:o.guard=ZW) (x y:ZM) (ho:o.op=.call { callee:=.builtin .append,args:=#[x,y],argTypes:=#[176,176] })
 (n0 q:Nat) (k:Nat) (xs:List ZR) (u v:ZR) (hx:a.eval x=v) (hy:a.eval y=Z5 (ZV ⟨q,0,ZW⟩) 1 1) (h3:w.ownsRow n0 31 1 v k xs) (hc:w.cell? ⟨q,0,ZW⟩=ZV u) (hu:u.oneCell'=ZU) (h7:n0<=w.heap.size) (hk:k<=1000000)
 (hK:∀ c b w2,n0<=c->w2.ownsRow n0 31 1 (Z5 (ZV ⟨c,0,ZW⟩) (k+1) b) (k+1) (xs++[u])->w.grownBy w2 v.ownBlock->wpListIn F n ZL ops Q rest (a.put o.dst (Z5 (ZV ⟨c,0,ZW⟩) (k+1) b)) w2):wpListIn F n ZL ops Q (o::rest) a w:=by
 obtain ⟨z,l,m,p,r⟩:=Ur Tryz.Sk;refine wpListIn_append_own w t x y 176 ho n0 31 z (Z5 ZW 0 0) 1 24 Wl l m p r rfl ec v k xs hx h3 ⟨q,0,ZW⟩ 1 1 [u] hy rfl (λj u' d=>?_) (λu' f=>by simp at f;subst f;exact hu) eD eb h7 ?_
 . cases j with
   | zero=>simp at d;subst d;exact hc
   | succ j=>simp at d
 . intro A w2 e h _;obtain ⟨c,b,rfl,i⟩:∃ c b,A=Z5 (ZV ⟨c,0,ZW⟩) (k+1) b/\n0<=c:=by
    rcases e.2 with ⟨_,B⟩|⟨g,cap,cur,hv,s,_⟩
    . omega
    . exact ⟨g,cap,hv,s⟩
   exact hK c b w2 i e h
theorem pX (g D b1 b2:Nat) (Q:D<=1000) (w:ZS) (F:b1<w.heap.size) (G:b2<w.heap.size) (O:w.cell? ⟨b1,0,ZW⟩=ZV (Z5 (ZV ⟨g,0,ZW⟩) (D*44) (D*44))) (P:w.cell? ⟨b2,0,ZW⟩=ZV (Z7 Z9 44)) :
 ZQ ZL 195 #[Z5 ZW 0 0,.func (.func 196) #[] #[Z6 (ZV ⟨b1,0,ZW⟩),Z6 (ZV ⟨b2,0,ZW⟩)]] w λe w'=>∃ v,e=Z3 v/\w'.ownsRow w.heap.size 31 1 v D ((YC D).map (C9 g))/\bW w w':=by
 obtain ⟨n,L⟩:∃ n:Nat,Hid (9<=n):=⟨9,TV _⟩;refine (U6 (n:=n)).1 ?_;refine VS func195 rfl trivial ?_ rfl;simp only [ntmps195,Uy,Um,UQ,YH,YI,UX,UY,UZ,U0,Uk,UH];gi_wp2;obtain ⟨w1,m⟩:=nM (w.alloc (Z4 #[Z5 ZW 0 0] 176));have N:Boxed w1 w.heap.size 176 (Z5 ZW 0 0):=by rw [<- m];exact Uj w _ _
 have k8:w1.heap.size=w.heap.size+1:=by rw [<- m];simp
 have A:bW w w1:=by rw [<- m];exact bA w _
 rw [m];clear m;have U:Rq w g w1.heap.size D [] w1:=⟨⟨_,N,UB _ _ _ _⟩,A,TV _⟩;refine VT rfl (eT L.out) (gf:=196) (lb:=#[Z6 (ZV ⟨b1,0,ZW⟩),Z6 (ZV ⟨b2,0,ZW⟩)]) rfl trivial (UR func196 ei rfl)
  (zx (n-1) b1 b2 g D Q w1 eb eb ((A.cell (p:=⟨b1,0,ZW⟩) F).trans O) ((A.cell (p:=⟨b2,0,ZW⟩) G).trans P)) (λh k=>⟨k.1.trans h.1,k.2.trans h.2⟩) (λW l o o' hl _ _ _=>⟨UE eb,UE eb⟩) (TX _ _) (λ_=>rfl)
  (Rq w g w1.heap.size D) (λ_ _ _=>False) (Rq.own eb) (λ_ _ _ _ _ h _ _=>h.elim) U
  (λx=>{ tmps:=#[Z5 ZW 0 0,.func (.func 196) #[] #[Z6 (ZV ⟨b1,0,ZW⟩),Z6 (ZV ⟨b2,0,ZW⟩)],Z6 (ZV ⟨w.heap.size,0,ZW⟩),ZX,Z5 ZW 0 0,C9 g x.1,.func (.func 196) #[] #[Z6 (ZV ⟨b1,0,ZW⟩),Z6 (ZV ⟨b2,0,ZW⟩)],C9 g x.1,ZX,ZX,ZX,ZX,ZX],defers:=[] }) ?assign ?body ?done ?stop
 case assign=>
  intro l2 x X Kk hK;unfold Fo;gi_wp2;exact hK
 case body=>
  rintro l2 pre x X ⟨⟨v,hv,b⟩,a,u⟩ hq;have M:=hv.cell;have hz:=hv.lt;have k7:pre.length<=1000:=eb
  obtain ⟨c,Y⟩:=nM (x.1*44);have i:C9 g x.1=Z5 (ZV ⟨g,c,ZW⟩) 44 44:=by rw [<- Y];rfl
  have R:(Value.slice (ZV ⟨g,c,ZW⟩) 44 44).oneCell'=ZU:=rfl;have T:(X.alloc (Z4 #[Z5 (ZV ⟨g,c,ZW⟩) 44 44] 31)).cell? ⟨X.heap.size,0,ZW⟩=ZV (Z5 (ZV ⟨g,c,ZW⟩) 44 44):=(Uj X 31 (Z5 (ZV ⟨g,c,ZW⟩) 44 44)).cell;have H:=a7 hv b a u i;rw [i];clear hv b a u i;have B:Hid ((X.alloc (Z4 #[Z5 (ZV ⟨g,c,ZW⟩) 44 44] 31)).ownsRow (w.heap.size+1) 31 1 v pre.length (pre.map λx=>C9 g x.1)):=al (aB H.out.2.1 (bA X _));have K:Hid (w.heap.size+1<=(X.alloc (Z4 #[Z5 (ZV ⟨g,c,ZW⟩) 44 44] 31)).heap.size):=al en;gi_wp2_with (
   gi_at_builtin;
   refine Kh rfl (Z0 8) (Z0 10) rfl (w.heap.size+1) X.heap.size pre.length (pre.map λx=>C9 g x.1) (Z5 (ZV ⟨g,c,ZW⟩) 44 44) v l3 l3 (by exact B.out) (by exact T) R K.out eb ?_;
   intro C d w2 k6 E f;
   have z:Boxed w2 w.heap.size 176 v:=(f.block w.heap.size en (λe=>eT ((H.out.2.1.lt _ e.symm).1))).trans (H.out.1.alloc _);
   have d0:=z.cell;
   have f0:=z.frozen)
  obtain ⟨hv,b,a,u,i⟩:=H.out;have Z:∀ q,v.ownBlock=ZV q->w.heap.size+1<=q:=λq e=>(b.lt q e).1;have hy:=f.size;simp only [Ua] at hy;have V:KeepsOthers X w2:=(KeepsOthers.alloc X (Z4 #[Z5 (ZV ⟨g,c,ZW⟩) 44 44] 31)).trans (abm f λj o e ho=>xt B.out e ho);have y:∀ k,k<w.heap.size->w2.heap[k]?=X.heap[k]?:=λk s=>(f.block k en (λe=>eT (Z k e.symm))).trans (Ut _ _ _ eb);have I:∀ k,k≠w.heap.size->(w2.setCell ⟨w.heap.size,0,ZW⟩ (Z5 (ZV ⟨C,0,ZW⟩) (pre.length+1) d)).heap[k]?=w2.heap[k]?:=λk s=>T7 _ _ _ _ s;refine ⟨(V.trans (Vz _ _ _)).from _,⟨(I _ eb).trans (y _ F),(I _ eb).trans (y _ G)⟩,⟨_,z.set _,?_⟩,?_,Zr⟩
  . have q:=E.kept (tw w2 w.heap.size 0 (Z5 (ZV ⟨C,0,ZW⟩) (pre.length+1) d)) (.inr λe=>eT ((E.lt _ e).1));have e:(pre++[x]).map (λx=>C9 g x.1)=pre.map (λx=>C9 g x.1)++[Z5 (ZV ⟨g,c,ZW⟩) 44 44]:=(by rw [Uu,<- i];rfl);rw [e,T5];exact q
  . refine (WR (p:=⟨w.heap.size,0,ZW⟩) ?_ lR _);exact ⟨f.os.trans a.os,f.tape.trans a.tape,f.output.trans a.output,eT a.size,λk s=>(y k s).trans (a.block k s)⟩
 case done=>
  rintro D' xs X S J ⟨⟨v,hv,b⟩,a,u⟩ hK;have M:=hv.cell;have H:=aE b a hK;clear hv b a hK;gi_wp2;obtain ⟨b,a,hK⟩:=H.out;have k0:xs.length=D:=by have:=congrArg YJ J;simpa using this
  have k5:xs.map (λx=>C9 g x.1)=(YC D).map (C9 g):=by rw [<- J,Xg];rfl
  rw [k0,k5] at b;refine Fp (t:=4) results195 rfl rfl hK ⟨_,rfl,?_,?_⟩
  . exact cE (lN b (WK X D' (.deferred ZW)) λr e=>by cases e;exact ⟨_,hK,rfl⟩) eb
  . exact Below.RY a eb (TW.1 hK).1 _
 case stop=>
  rintro D' cc pre X S hs hx hK;exact hx.elim
theorem tA (g D b1 b2:Nat) (j:D<=1000) (w:ZS) (h:b1<w.heap.size) (i:b2<w.heap.size) (b:w.cell? ⟨b1,0,ZW⟩=ZV (Z5 (ZV ⟨g,0,ZW⟩) (D*44) (D*44))) (c:w.cell? ⟨b2,0,ZW⟩=ZV (Z7 Z9 44)) :
 ZQ ZL 184 #[.func (.func 196) #[] #[Z6 (ZV ⟨b1,0,ZW⟩),Z6 (ZV ⟨b2,0,ZW⟩)]] w λe w'=>∃ v,e=Z3 v/\w'.ownsRow w.heap.size 31 1 v D ((YC D).map (C9 g))/\bW w w':=by
 have f:=pX g D b1 b2 j w h i b c;clear b c;go_enter func184,ntmps184;go_wp2_with fail;refine f.mono ?_;rintro e w' ⟨v,rfl,a,d⟩;have H:=au a d;clear f a d;go_wp2;go_ret;exact ⟨_,rfl,H.out.1,H.out.2⟩
def pY (D:Nat) (dl:a9):a9:=dl++YD (D*44-dl.length) 0
def gX (D:Nat) (dl:a9):List a9:=(YC D).map λi=>((pY D dl).drop (i*44)).take 44
def Ki (h:dl.length<=D*44):(pY D dl).length=D*44:=by unfold pY;simp;omega
def fh (D:Nat) (dl:a9):(gX D dl).length=D:=by simp [gX]
def tB (a:i<(gX D dl).length):(gX D dl)[i]=((pY D dl).drop (i*44)).take 44:=by simp [gX]
def pZ (h:dl.length<=D*44) (a:i<D):(((pY D dl).drop (i*44)).take 44).length=44:=by
 rw [Ud,Ue,Ki h];omega
def Nl (h:∀ x∈dl,x<256):∀ x∈pY D dl,x<256:=by
 intro x a;unfold pY at a;rw [Ub] at a;rcases a with a|a
 . exact h x a
 . have:=Vn a;omega
theorem PC (h:bk w v p D L G ps ho) (hD:D<=12) (W:ZR) (dl:a9) (P:Bs w W dl) (hl:dl.length<=D*44) :
 ZQ ZL 167 #[Z6 (ZV ⟨v,0,ZW⟩),W] w λe w'=>∃ u,e=Z3 u/\Rd w' u (gX D dl)/\bW w w':=by
 have V:=cG h eb;obtain ⟨b,y⟩:=nM (D*44);have hy:b<=528:=eb
 rw [y] at V hl;have I:=al P;clear P;go_enter func167,ntmps167;go_wp2_with fail;refine V.mono ?_;rintro e w1 ⟨rfl,rfl⟩;go_wp2_with (at_make;refine eo _ rfl (Z0 7) (Z0 7) rfl _ b l3 l3 rfl eb ?_;intro w2 O z k5;obtain ⟨a,hq,o,S⟩:=A5 (n:=b) (cap:=b) (off:=0) 3 O (I.out.mono z) eb en);have r:bW w1 a:=z.grown S eb (λk e=>D2);have N:spl (YD b 0) 0 dl=pY D dl:=by
  unfold spl pY;rw [VQ,Uk,Uc,XZ,y]
 rw [N] at o;have A:=GR w1.heap.size D a;rw [y] at A;have F:=aE o r A;clear hq O z S o r A N;refine F.out.2.2.mono ?_;rintro e f ⟨rfl,rfl⟩;obtain ⟨f,d⟩:=nM ((a.alloc (Z4 #[Z5 (ZV ⟨w1.heap.size,0,ZW⟩) b b] 31)).alloc (Z4 #[Z7 Z9 44] 3));have s:bW a f:=by rw [<- d];exact (bA a _).alloc ek _
 have k0:f.heap.size=a.heap.size+2:=by rw [<- d];simp
 have g1:f.cell? ⟨a.heap.size,0,ZW⟩=ZV (Z5 (ZV ⟨w1.heap.size,0,ZW⟩) (D*44) (D*44)):=by rw [<- d,y];exact ((Uj a _ _).alloc _).cell
 have K:f.cell? ⟨a.heap.size+1,0,ZW⟩=ZV (Z7 Z9 44):=by
  have:=(Uj (a.alloc (Z4 #[Z5 (ZV ⟨w1.heap.size,0,ZW⟩) b b] 31)) 3 (Z7 Z9 44)).cell;rw [Ua] at this;rw [<- d];exact this
 have R:=tA w1.heap.size D a.heap.size (a.heap.size+1) eb f eb eb g1 K;rw [d];have H:=au s R;clear d s R g1 K k0;go_wp2_with fail;refine H.out.2.mono ?_;rintro e E ⟨u,rfl,m,t⟩;have X:=au m t;clear m t;go_wp2;go_ret;obtain ⟨o,r,_⟩:=F.out;obtain ⟨s,_⟩:=H.out;obtain ⟨m,t⟩:=X.out;have M:bW a E:=s.trans (t.mono s.size);have hp:aM E w1.heap.size (pY D dl):=o.below M;refine ⟨u,rfl,?_,r.trans (M.mono r.size)⟩;rcases m.2 with ⟨Y,Z⟩|⟨q,cap,cur,J,e2,e3,e4,e5,e6,e7⟩
 . subst Y;have:gX D dl=[]:=by rw [<- Wk,fh];exact Z
   exact ⟨ZW,0,by rw [this];rfl,by rw [this];decide,λC=>absurd this C⟩
 . refine ⟨ZV ⟨q,0,ZW⟩,cap,by rw [J,fh],by rw [fh];omega,λ_=>⟨q,0,rfl,λi Q=>?_⟩⟩;have B:=Q;rw [fh] at B;refine ⟨C9 w1.heap.size i,?_,?_⟩
   . have:=m.cells (g:=q) (by rw [J];rfl) i (C9 w1.heap.size i) (by simp [B]);rw [jU] at this;rw [Uc];exact this
   . rw [tB Q];have hg:=pZ (D:=D) (dl:=dl) eb B;have hr:E.rangeAt w1.heap.size 0 (aJ (pY D dl)):=λj u hu=>by
      have C:=hp.SR;have hz:(aJ (pY D dl)).toArray[j]?=ZV u:=(vE hu);simp [World.cell?,C,hz]
     have U:=nE 44 (fP (i*44) hr);rw [Uc] at U;have T:=Bs.mid (c:=44) (l:=((pY D dl).drop (i*44)).take 44) eb eb (λx hx=>Nl I.out.lt x (UV (US hx))) U;rw [hg] at T;exact T
end
def Fq (h:k<64):2^k<18446744073709551616:=TY (VC ec h) lR
theorem iM (x k:Nat) (c:x<18446744073709551616) (d:k<=60) (w:ZS):ZQ ZL 75 #[Z7 Z8 x,Z7 Z9 k] w λe w'=>e=Z3 (Z7 Z8 ((x|||2^k:Nat):Int))/\w'=w:=by
 have key:bits .or .u64 (x:Int) (IntKind.u64.wrap (2^k))=((x|||2^k:Nat):Int):=by
  have b:=Fq (k:=k) eb;have e:((2:Int)^k)=((2^k:Nat):Int):=by rw [X3];rfl
  have a:IntKind.u64.wrap (2^k)=((2^k:Nat):Int):=by
   rw [e,Vh];generalize 2^k=q at *;omega
  rw [a];exact YB x (2^k) c b
 go_enter func75,ntmps75;go_wp2;go_ret;exact ⟨rfl,rfl⟩
theorem vN (h ao:Option ZP) (cap a c:Nat) (w:ZS) (n:c<256) :
 ZQ ZL 164 #[.slice h 0 cap,.slice ao 0 a,Z7 .u8 c] w λe w'=>e=Z3 (ZY #[])/\bW w w':=by
 by_cases d:c=0
 . subst d;go_enter func164,ntmps164;go_wp2;exact Uf (v:=ZY #[]) ZG rfl ⟨rfl,TX _ _⟩
 . have p:((c:Int)==0)=ZT:=B8;clear d;go_enter func164,ntmps164;go_wp2_with fail;refine (lI c n _).mono ?_;rintro e w1 ⟨cs,rfl,m,f,b⟩;have l:=b.size;go_wp2_with (refine nF _ rfl (Z0 6) (Z0 11) rfl w1.heap.size c cs _ rfl rfl (UG w1 _) rfl m f ?_;intro w2 i g);have j:bW w w2:=by
    refine (b.trans ((TX _ _).alloc l _)).grown g K1 (λk o=>by simp at o;omega)
   clear g i f b;refine VL 1 ?_;rw [Vw];go_wp2;go_end0
   exact ⟨rfl,j⟩
def zy (b ao:Option ZP) (n m cap a c:Nat) (w:ZS) (g:n=0) (f:m=0) (d:c<256) :
 ZQ ZL 164 #[.slice b n cap,.slice ao m a,Z7 .u8 c] w λe w'=>e=Z3 (ZY #[])/\bW w w':=by
 subst g f;exact vN b ao cap a c w d
def Rs (row:a9) (D:List a9):Nat->Nat->Nat
 | 0,_=>0
 | t+1,k=>Rs row D t k^^^gm (row.getD t 0) ((D.getD t []).getD k 0)
def cW (row:a9) (D:List a9) (n t:Nat):a9:=(YC n).map (Rs row D t)
def fR (row:a9) (D:List a9) (n t:Nat):(cW row D n t).length=n:=by simp [cW]
theorem Bb (row:a9) (D:List a9) (n:Nat):cW row D n 0=YD n 0:=by
 unfold cW;apply U4
 . simp
 . intro j a b;simp [Rs]
def PD (row:a9) (D:List a9) (a:∀ x∈row,x<256) (t k:Nat):Rs row D t k<256:=by
 induction t with
 | zero=>exact (by decide:(0:Nat)<256)
 | succ t ih=>exact xlt ih (bD _ (bh a t))
def ql (row:a9) (D:List a9) (a:∀ x∈row,x<256) (n t:Nat):∀ x∈cW row D n t,x<256:=by
 intro x b;obtain ⟨k,_,rfl⟩:=T1.1 b;exact PD row D a t k
def tC (row:a9) (D:List a9) (n t k:Nat) (a:k<n):(cW row D n t).getD k 0=Rs row D t k:=by simp [cW,a]
def Bd (row:a9) (D:List a9) (n t j:Nat) (a:j<n) :
 tv (gW (λi=>(cW row D n t).getD i 0) (λi=>(D.getD t []).getD i 0) (row.getD t 0) 0 n) j=vb (cW row D n (t+1)) j:=by
 unfold tv vb gW;rw [if_pos eb,tC _ _ _ _ _ a];show Value.int .u8 (((cW row D n t).getD j 0^^^gm (row.getD t 0) ((D.getD t []).getD (j-0) 0):Nat):Int)=_;rw [tC _ _ _ _ _ a,XW];rfl
def CbR (w:ZS) (row:a9) (D:List a9) (n:Nat) (i:ZR) (wr:ZS):Prop:=
 ∃ t:Nat,t<=row.length/\i=Z7 Z9 t/\aM wr w.heap.size (cW row D n t)/\bW w wr
theorem Be (vr vd:ZR) (row:a9) (D:List a9) (n:Nat) (w:ZS) (U:Bs w vr row) (hd:Rd w vd D) (hn:n<=4096) (v:∀ i (T:i<D.length),(D[i]).length=n) (q:row.length=D.length) (z:0<D.length) :
 ZQ ZL 183 #[vr,vd] w λe w'=>∃ b,e=Z3 (Z5 (ZV ⟨b,0,ZW⟩) n n)/\w.heap.size<=b/\aM w' b (cW row D n D.length)/\bW w w':=by
 have ke:=U.lt;obtain ⟨ao,cr,rfl,h1,h2,_,N⟩:=U;obtain ⟨rb,h,rfl,kc⟩:=N (by intro e;rw [e] at q;simp at q;omega);rcases hd.cases with ⟨rfl,_⟩|⟨b,off,c,rfl,hl,A⟩
 . simp at z
 obtain ⟨u0,F,kg⟩:=A 0 z;obtain ⟨ko,c0,rfl,l1,l2,_,_⟩:=kg;have f:=v 0 z;rw [f] at F;have HR:=al kc;have HC:=al A;have I:=al v;have O:=al q;clear kc A v q h1 h2 N f l1 l2;rw [Vs] at F;go_enter func183,ntmps183;go_wp2_with (at_make;refine eo _ rfl (Z0 11) (Z0 11) rfl _ n rfl rfl rfl eb ?_;intro w1 y P hz;clear hz);rw [<- Bb row D n] at y;clear F;go_loopw [15] (λi wr=>CbR w row D n i wr) (λi _=>row.length-(intOf i).toNat)
 case atStart=>exact ⟨0,T3 _,rfl,y,P⟩
 case round=>
  clear y P;rename ZS=>wo;obtain ⟨t,ht,rfl,d,g⟩:=hrel;have km:=d.lt;by_cases ka:t<row.length
  . have r:t<D.length:=(by rw [<- O.out];exact ka);have c1:=HR.out t ka;have kp:wo.cell? ⟨rb,h+t,ZW⟩=ZV (Z7 .u8 ((row.getD t 0:Nat):Int)):=(by rw [g.cell (T8 c1)];exact c1);obtain ⟨u,G,kh⟩:=HC.out t r;obtain ⟨fo,M,rfl,q1,q2,q3,H⟩:=kh;have kk:wo.cell? ⟨b,off+t,ZW⟩=ZV (.slice fo (D[t]).length M):=(by rw [g.cell (T8 G)];exact G);rw [I.out t r] at kk;have k6:=bh ke t;have k8:D.getD t []=D[t]:=(by simp [r]);have o:=Bd row D n t;rw [k8] at o;have Y:=I.out t r;have k:=al Y;generalize D[t]=l at *;generalize kj:row.getD t 0=x at *;clear c1 G k8 kj Y;by_cases f:n=0
    . have Q:aM wo w.heap.size (cW row D n (t+1)):=(by rw [f] at d ⊢;exact d);have K:=al f;clear o H d f;go_wp2_with fail;refine (zy _ _ _ _ _ _ x _ K.out K.out k6).mono ?_;rintro e w2 ⟨rfl,C⟩;have B:=Q.below C;have E:=g.trans (C.mono eb);clear Q C;go_wp2;go_roundw
      case rel=>exact ⟨t+1,eb,e8,B,E⟩
      case measure=>simp [intOf];omega
    . obtain ⟨m,a,rfl,s⟩:=H (by intro e;rw [e] at k;exact f k.out.symm);rw [k.out] at s;have ki:m<w.heap.size:=T8 (s 0 eb);have R:∀ i,i<n->wo.cell? ⟨m,a+i,ZW⟩=ZV (Z7 .u8 ((l.getD i 0:Nat):Int)):=λi T=>by
       rw [g.cell (p:=⟨m,a+i,ZW⟩) ki];exact s i T
      have S:wo.rowIs w.heap.size 5 n (tv (λi=>(cW row D n t).getD i 0)):=by
       have:=d;unfold aM at this;rw [fR] at this;exact this
      have L:=al o;have J:=al R;have X:=al S;have k9:=λj=>bh (ql row D ke n t) j;have Z:=λj=>bh q3 j;have W:=al k9;have V:=al Z;clear o s R S d H k9 Z k;go_wp2_with fail;refine (jq w.heap.size 5 n 0 n n m a M x (λi=>(cW row D n t).getD i 0) (λi=>l.getD i 0) wo k6 X.out W.out V.out eb eb J.out (.inl eb)).mono ?_;rintro e w2 ⟨rfl,kb,k7⟩;have B:aM w2 w.heap.size (cW row D n (t+1)):=by
       unfold aM;rw [fR];exact kb.congr (λj hj=>L.out j hj)
      have E:=iX g k7 eb lR;clear kb k7 L J X W V;go_wp2;go_roundw
      case rel=>exact ⟨t+1,eb,e8,B,E⟩
      case measure=>simp [intOf];omega
  . have kf:t=D.length:=(by rw [<- O.out];omega);rw [kf] at d;clear kf;go_wp2;go_ret;exact ⟨w.heap.size,rfl,TV _,d,g⟩
def Bh (D:List a9) (l:a9):Prop:=l.length=(D.getD 0 []).length/\l.length<=4096
def Ru (D:List a9):Prop:=∀ i (hi:i<D.length),Bh D D[i]
def EvR (D:List a9) (i:ZR):Prop:=∃ k:Nat,k<=D.length/\i=Z7 Z9 k/\∀ j (hj:j<D.length),j<k->Bh D D[j]
def PE (D:List a9) (w:ZS) (e:Ending) (w':ZS):Prop:=∃ r:Bool,e=Z3 (Z1 r)/\(r=ZU↔Ru D)/\w'=w
theorem Kj (v:ZR) (D:List a9) (w:ZS) (F:Rd w v D) (g:0<D.length) :
 ZQ ZL 182 #[v] w λe w'=>PE D w e w':=by
 rcases F.cases with ⟨rfl,_⟩|⟨b,off,c,rfl,O,l⟩
 . simp at g
 obtain ⟨u0,s,C⟩:=l 0 g;obtain ⟨A,I,rfl,l1,l2,_,_⟩:=C;have q:(D.getD 0 []).length=(D[0]).length:=by simp [g]
 have B:(D[0]).length<=140737488355328:=eb
 rw [<- q] at s B;rw [Vs] at s;have x:=al l;clear l l1 l2 q;go_enter func182,ntmps182;go_wp2;go_loop [7] (λi=>EvR D i) (λi=>D.length-(intOf i).toNat)
 case atStart=>exact ⟨0,T3 _,rfl,λj m h=>absurd h eb⟩
 case round=>
  obtain ⟨k,N,rfl,d⟩:=hrel;by_cases r:k<D.length
  . obtain ⟨u,P,E⟩:=x.out k r;obtain ⟨K,J,rfl,n,o,_,_⟩:=E;have M:(D[k]).length<=140737488355328:=eb;by_cases a:Bh D D[k]
    . have t1:((((D[k]).length:Nat):Int) != (((D.getD 0 []).length:Nat):Int))=ZT:=(by rw [a.1];simp);have H:¬ (4096:Int)<(((D[k]).length:Nat):Int):=(eT a.2);have z:Hid (∀ j (m:j<D.length),j<k+1->Bh D D[j]):=by
       intro j m L;by_cases e:j=k
       . subst e;exact a
       . exact d j m eb
      generalize (D.getD 0 []).length=n0 at *;generalize (D[k]).length=t at *;clear d a n o;go_wp2;go_round
      case rel=>exact ⟨k+1,eb,e8,z.out⟩
      case measure=>simp [intOf];omega
    . have p:Hid (¬ Ru D):=λh=>a (h k r);by_cases f:(D[k]).length=(D.getD 0 []).length
      . have t1:((((D[k]).length:Nat):Int) != (((D.getD 0 []).length:Nat):Int))=ZT:=(by rw [f];simp);have H:(4096:Int)<(((D[k]).length:Nat):Int):=by
         have:¬ (D[k]).length<=4096:=λh=>a ⟨f,h⟩;omega
        generalize (D.getD 0 []).length=n0 at *;generalize (D[k]).length=t at *;clear d a f n o;go_wp2;go_ret;exact ⟨ZT,rfl,⟨λh=>by simp at h,λh=>absurd h p.out⟩,rfl⟩
      . have t1:((((D[k]).length:Nat):Int) != (((D.getD 0 []).length:Nat):Int))=ZU:=(by rw [bne_iff_ne];omega);generalize (D.getD 0 []).length=n0 at *;generalize (D[k]).length=t at *;clear d a f n o;go_wp2;go_ret;exact ⟨ZT,rfl,⟨λh=>by simp at h,λh=>absurd h p.out⟩,rfl⟩
  . have y:Hid (Ru D):=λi G=>d i G eb;clear d;go_wp2;go_ret;exact ⟨ZU,rfl,⟨λ_=>y.out,λ_=>rfl⟩,rfl⟩
section
open Go.ChangeShapes Go.WideShapes
def Tryz.own:ownKnob ZL.godebug=ZW:=ei
def Tryz.et:ZL.globalNamed "errors.errorType"=ZV 0:=ei
def Tryz.rt:(ZL.cutTypes.find? (λx=>x.1 == "internal/reflectlite.rtype")).map (λx=>x.2)=ZV 148:=ei
def Tryz.oneRow:((YC 363).filter λt=>ZL.rowNamed t [101,114,114,111,114])=[42]:=ei
def Tryz.size:ZL.types.size=363:=ei
def bz (w:ZS):Prop:=w.cell? ⟨0,0,ZW⟩=ZV (.iface 148 (.agg #[Z6 (ZV ⟨3,42,ZW⟩)]))
def tD {W:ZS} (h:laidMetH ZL [("errors.errorType",Rows.laid_errors_errorType)] W):bz W:=by
 have i:laidMet ZL [] W/\handlesMet ZL [("errors.errorType",Rows.laid_errors_errorType)] W:=h;obtain ⟨name,u,k,c,d,e,f,a⟩:=i.2 _ (U9.2 rfl);have g:name=[101,114,114,111,114]:=(UA c).symm;subst g;obtain rfl:=UA (Tryz.rt.symm.trans d);have b:k∈(YC 363).filter λt=>ZL.rowNamed t [101,114,114,111,114]:=Vq.2 ⟨Uq.2 (by rw [<- Tryz.size];exact e),f⟩;rw [Tryz.oneRow] at b;obtain rfl:=U9.1 b;have j:typeHandle ZL 42=Z6 (ZV ⟨3,42,ZW⟩):=ei
 rw [j] at a;unfold bz;simpa using World.var?_cell Tryz.et a 0
end
def vP (M:List a9) (D:List a9) (n:Nat):List a9:=M.map λrow=>cW row D n D.length
def nr (w:ZS) {ops:Array ZO} {rest:List ZO} {o:ZO} {a:Act} {Q:Exit->Act->ZS->Prop}
 (h:o.guard=ZW) (l c:ZM) (e:o.op=Op.makeSlice 176 l c) (C:Int) (n:Nat) (i:a.eval l=Z7 Z9 C) (g:a.eval c=Z7 Z9 C) (f:C=(n:Int)) (j:n<=1000000)
 (hK:∀ w',w'.rowIs w.heap.size 31 n (λ_=>Z5 ZW 0 0)->bW w w'->w'.heap.size=w.heap.size+1->wpList ZL ops Q rest (a.put o.dst (Z5 (ZV ⟨w.heap.size,0,ZW⟩) n n)) w') :
 wpList ZL ops Q (o::rest) a w:=by
 refine VD h λK d=>?_;have b:=Xs (P:=ZL) 176 31 (Z5 ZW 0 0) 24 Wl Tryz.Sy rfl .i64 .i64 n eb eb w;subst f;unfold Oper.wp;simp [execOp,e,i,g,b,Result.andThen];exact d _ _ (hK _ (W5 w _ n _) (bA _ _) (Ug _ _))
def shv (T:List (Nat×Nat×a9)) (i:Nat):ZR:=if i<T.length then jT (T.getD i (0,0,[])) else Z5 ZW 0 0
structure oM (w:ZS) (base g N:Nat) (T:List (Nat×Nat×a9)):Prop where
 RZ:w.rowIs g 31 N (shv T)
 row:∀ p∈T,base<=p.1/\aM w p.1 p.2.2/\p.2.1<=p.2.2.length/\(p.2.1<=140737488355328/\p.2.2.length<=9223372036854775807)/\∀ x∈p.2.2,x<256
 nodup:(T.map (λp=>p.1)).Nodup
def oM.below (h:oM w base g N T) (d:bW w w'):oM w' base g N T:=
 ⟨h.RZ.of_block (d.block g h.RZ.lt),λp e=>by obtain ⟨a,b,c⟩:=h.row p e;exact ⟨a,b.below d,c⟩,h.nodup⟩
theorem oM.push (h:oM w base g N T) (A:base<=b) (s:aM w b l) (B:n<=l.length) (F:l.length<=140737488355328) (j:∀ x∈l,x<256) (v:∀ p∈T,p.1≠b) :
 oM (w.setCell ⟨g,T.length,ZW⟩ (Z5 (ZV ⟨b,0,ZW⟩) n l.length)) base g N (T++[(b,n,l)]):=by
 have r:∀ c m,aM w c m->c≠g:=by
  intro c m f e;obtain ⟨x,j,_⟩:=f;obtain ⟨y,D,_⟩:=h.RZ;rw [e,D] at j;simp at j
 refine ⟨?_,λp d=>?_,?_⟩
 . refine (h.RZ.set T.length (Z5 (ZV ⟨b,0,ZW⟩) n l.length)).congr λi E=>?_;unfold shv;by_cases e:i=T.length
   . subst e;simp [jT]
   . rw [if_neg e];by_cases k:i<T.length
     . rw [if_pos k,if_pos en];simp [U7 k]
     . rw [if_neg k,if_neg en]
 . rcases Ub.1 d with d|d
   . obtain ⟨t,o,u⟩:=h.row p d;exact ⟨t,o.other (r _ _ o) _,u⟩
   . simp at d;subst d;exact ⟨A,s.other (r _ _ s) _,B,⟨by show n<=140737488355328;omega,by show l.length<=9223372036854775807;omega⟩,j⟩
 . rw [Uu,Vc];refine ⟨h.nodup,ek,?_⟩;intro a z c f;obtain ⟨q,C,rfl⟩:=T1.1 z;simp at f;subst f;exact v q C
theorem oM.done (h:oM w base g N T) (d:N=T.length) (f:base<=g) (j:N<=maxLen):iU w base (Z5 (ZV ⟨g,0,ZW⟩) N N) T:=by
 subst d;refine ⟨⟨ek,.inr ?_⟩,h.row,h.nodup⟩;obtain ⟨c,e,k,hv⟩:=h.RZ;refine ⟨g,T.length,c,rfl,f,e,TV _,j,eb,?_⟩;apply U4
 . simp;omega
 . intro i b a;simp at b a;have:=hv i a;rw [Vr eb] at this;simp at this;simp [this,shv,a]
def oM.lt (h:oM w base g N T):g<w.heap.size:=h.RZ.lt
def EcR (w:ZS) (B g N n:Nat) (M D:List a9) (i:ZR) (wr:ZS):Prop:=
 ∃ k T,k<=N/\i=Z7 Z9 (k:Nat)/\oM wr B g N T/\cO T n (vP (M.take k) D n)/\Below B w wr/\B<=wr.heap.size
def PF (w:ZS) (n:Nat) (M D:List a9) (x:ZR) (e:Ending) (w':ZS):Prop:=∃ v T,e=Z3 (ZY #[v,x])/\iU w' w.heap.size v T/\cO T n (vP M D n)/\bW w w'
def cO.at (h:cO T D M) {i:Nat} (a:i<T.length) (b:i<M.length):T[i].2=(D,M[i]):=by
 have:=List.getElem_of_eq h (i:=i) (vE a);simpa using this
def Kl (D L G:Nat):(bE D L G).length=D+L+G:=by simp [bE];omega
def Km (D L G:Nat) {i:Nat} (b:i<(bE D L G).length):((bE D L G)[i]).length=D:=by
 have a:(bE D L G)[i]∈bE D L G:=T4 b;unfold bE at a;rcases Ub.1 a with a|a
 . rcases Ub.1 a with a|a
   . obtain ⟨j,_,e⟩:=T1.1 a;unfold bE;rw [<- e];simp [fI]
   . obtain ⟨j,_,e⟩:=T1.1 a;unfold bE;rw [<- e];simp [eR]
 . obtain ⟨j,_,e⟩:=T1.1 a;unfold bE;rw [<- e];simp [dn]
def GS (M D:List a9) (n k:Nat) (a:k<M.length):vP (M.take (k+1)) D n=vP (M.take k) D n++[cW M[k] D n D.length]:=by
 unfold vP;rw [abn a,Uu];rfl
theorem DT (D L G:Nat) (hr:cJ D L G=ZU) (qe:1<=D) (hD:D<=12) (hL:1<=L) (q1:L<=4) (hG:G<=4) (kb:D%L=0) (vd:ZR) (a:List a9) (w:ZS) (W:Rd w vd a) (B:a.length=D) (s:Ru a) :
 ZQ ZL 166 #[.agg #[Z7 Z9 D,Z7 Z9 L,Z7 Z9 G],vd] w λe w'=>PF w (a.getD 0 []).length (bE D L G) a .nilIface e w':=by
 have qg:(((a.length:Nat):Int) != (D:Int))=ZT:=by rw [B];simp
 have E:0<a.length:=eb
 obtain ⟨ao,c,rfl,hl,q7⟩:=id W;have qa:(a.getD 0 []).length<=4096:=by
  have:=(s 0 E);have R:=this.2;rw [this.1] at R;exact R
 have Y:∀ i (l:i<a.length),(a[i]).length=(a.getD 0 []).length:=λi l=>(s i l).1;generalize hn:(a.getD 0 []).length=n at *;have hy:=al Y;have HF:=al s;have k0:=al B;clear q7 hn Y s B;go_enter func166,ntmps166;go_wp2_with fail;refine (jZ D L G hr hD hL q1 hG kb _).mono ?_;rintro e wa ⟨v,T,rfl,t,F,m⟩;try change Below _ _ _ at t
 try change Below _ _ _ at m
 rw [Ug] at t m;have qb:=m.size;try change Below _ _ _ at qb
 rw [Ug] at qb;obtain ⟨p0,p1,p2⟩:=fQ m;have q:bW w wa:=(bA _ _).trans (m.mono eb);have km:=W.mono q;go_wp2_with fail;refine (Kj _ a _ km E).mono ?_;rintro e h ⟨r,rfl,ks,rfl⟩;obtain rfl:r=ZU:=ks.2 HF.out;obtain ⟨mo,hb,rfl,kr⟩:=t.slice;have j:=F.length;rw [Kl] at j;obtain ⟨mg,rfl⟩:=kr (by intro e;rw [e] at j;simp at j;omega);have q3:T.length<=20:=eb
 have qd:=al j;clear j kr ks;go_wp2_with (at_make;refine nr _ rfl (Z0 31) (Z0 31) rfl _ T.length rfl rfl rfl eb ?_;intro wc X P hz;clear hz);have kg:oM wc h.heap.size h.heap.size T.length []:=⟨X.congr (λi _=>by simp [shv]),λp H=>by simp at H,ek⟩;have kv:=P.size;generalize hM:bE D L G=M at *;have HM:Hid (∀ i (l:i<M.length),(M[i]).length=D):=by intro i l;subst hM;exact Km D L G l
 have Q:=al F;have ky:=al hM;clear X hM F p0 p1 p2;go_loopw [35] (λi wr=>EcR h h.heap.size h.heap.size T.length n M a i wr) (λi _=>T.length-(intOf i).toNat)
 case atStart=>exact ⟨0,[],T3 _,rfl,kg,rfl,P,kv⟩
 case round=>
  clear kg P kv;rename ZS=>wo;obtain ⟨k,S,hk,rfl,d,f,g,qc⟩:=hrel;have U:=Q.out.length;have y:=f.length;unfold vP at y;rw [TZ,Ud] at y;by_cases A:k<T.length
  . have C:k<M.length:=eb;have N:=t.below g;have ko:=km.mono g;have z:=N.SN A;have b:=N.Tb A;have O:=Q.out.at A C;have K:=HM.out k C;obtain ⟨⟨rb,rn,rl⟩,kk⟩:∃ p,p=T[k]:=⟨_,rfl⟩;rw [<- kk] at z b O;simp only [jT,WH] at z b O;obtain ⟨rfl,rfl⟩:=O;rw [UU eb] at b;rw [K] at z b;have ki:S.length=k:=eb;have V:=GS M a n k C;have Z:=al V;have kc:=al f;have kz:=al ki;have I:=al K;clear V f ki K U y kk;go_wp2_with fail;refine (Be _ _ M[k] a n wo (by rw [I.out] at *;exact b) ko qa hy.out (by rw [I.out,k0.out]) E).mono ?_;rintro e w2 ⟨b2,rfl,qf,kf,o⟩;have u:=d.below o;have q6:=u.RZ.cell (i:=k) A;have q8:=u.RZ.frozen k;have qi:=o.size;have qh:=d.lt;have kh:=u.push (n:=n) eb kf (by rw [fR];omega) (by rw [fR];omega) (ql _ _ (λx hx=>b.lt x hx) _ _) (λp H=>eT ((d.row p H).2.1.lt));rw [fR,kz.out] at kh;have q4:=(g.trans (o.mono qc)).setCell (p:=⟨h.heap.size,k,ZW⟩) lR (Z5 (ZV ⟨b2,0,ZW⟩) n n);have J:=kc.out.push b2 (cW M[k] a n a.length);rw [<- Z.out] at J;have kx:=al J;generalize shv S k=ov at *;clear d u kf o g b z N ko J Z kc I;go_wp2;go_roundw
    case rel=>exact ⟨k+1,_,eb,e8,kh,kx.out,q4,by rw [nblk_setCell];omega⟩
    case measure=>simp [intOf];omega
  . have q9:k=T.length:=eb;have kp:k=M.length:=eb;have q0:cO S n (vP M a n):=(by rw [kp,VE] at f;exact f);have kj:=d.done eb lR eD;have q5:=q.trans (g.mono q.size);have q2:=kj.weaken (base':=w.heap.size) q.size;clear f d g kj q9 kp U y;go_wp2;go_ret2;exact ⟨_,S,rfl,q2,by rw [ky.out];exact q0,q5⟩
def dG (M:List a9) (lost k:Nat):List a9:=((YC k).filter (λi=>decide (lost/2^i%2=0))).map (λi=>M.getD i [])
def Nm (M:List a9) (lost k:Nat) (h:lost/2^k%2=0):dG M lost (k+1)=dG M lost k++[M.getD k []]:=by
 simp [dG,Vl,h]
def Ko (M:List a9) (lost k:Nat) (h:lost/2^k%2≠0):dG M lost (k+1)=dG M lost k:=by
 simp [dG,Vl,h]
def tE (M:List a9) (lost k:Nat) (c:k<=M.length):∀ l∈dG M lost k,l∈M:=by
 intro l a;simp [dG] at a;obtain ⟨i,⟨b,_⟩,rfl⟩:=a;rw [T2 eb];exact T4 _
def oN (M:List a9) (lost k:Nat):(dG M lost k).length<=k:=by
 unfold dG;rw [TZ];exact TU (Wq _ _) ek
theorem Nn (T:List a9) (v:Nat->Nat):yP T 0 v↔∃ l∈T,v=m7 l:=by
 constructor
 . rintro ⟨i,a,_,rfl⟩;exact ⟨_,T4 a,rfl⟩
 . rintro ⟨l,b,rfl⟩;obtain ⟨i,a,rfl⟩:=aa7.1 b;exact ⟨i,a,T3 _,rfl⟩
theorem Kp (M:List a9) (lost k:Nat) (v:Nat->Nat):yP (dG M lost k) 0 v↔∃ i,i<k/\lost/2^i%2=0/\v=m7 (M.getD i []):=by
 rw [Nn];constructor
 . rintro ⟨l,c,rfl⟩;simp only [dG,T1,Vq,Uq,decide_eq_true_eq] at c;obtain ⟨i,⟨b,a⟩,rfl⟩:=c;exact ⟨i,b,a,rfl⟩
 . rintro ⟨i,b,a,rfl⟩;refine ⟨_,?_,rfl⟩;simp only [dG,T1,Vq,Uq,decide_eq_true_eq];exact ⟨i,⟨b,a⟩,rfl⟩
theorem Kq (D i:Nat) (a:i<D):m7 (fI D i)=nh i:=by
 funext j;unfold m7 fI nh;by_cases e:j=i
 . subst e;simp [a]
 . rw [if_neg e];simp [V5 e,abg];split<;>rfl
def Kr (D L G i:Nat) (a:i<D):(bE D L G).getD i []=fI D i:=by
 simp [bE,List.getElem?_append,a]
def No (lost k:Nat) (a:lost<18446744073709551616):bits .and .u64 ((lost:Int)/2^k) 1=((lost/2^k%2:Nat):Int):=by
 have c:(lost:Int)/2^k=((lost/2^k:Nat):Int):=ek
 have h:lost/2^k<18446744073709551616:=Xy (VK _ _) a;have e:=u64_and_nat (lost/2^k) 1 h ec;rw [Q5] at e;rw [c];exact e
def Rl (w0 w:ZS) (v:ZR) (K:List a9):Prop:=
 ∃ xs:List ZR,xs.length=K.length/\(∀ i (h:i<xs.length) (h':i<K.length),Bs w0 xs[i] K[i])/\w.ownsRow w0.heap.size 31 1 v xs.length xs/\bW w0 w
def Rl.nil (w:ZS):Rl w w (Z5 ZW 0 0) []:=⟨[],rfl,λi h=>absurd h ek,UB _ _ _ _,TX _ _⟩
def Rl.rd {v:ZR} {K:List a9} (h:Rl w0 w v K) (s:K.length<=100000):Rd w v K:=by
 obtain ⟨xs,e,f,b,j⟩:=h;rcases b.2 with ⟨d,r⟩|⟨g,cap,cur,a,l,m,n,o,p,q⟩
 . have:K=[]:=UK eb;subst this;exact ⟨ZW,0,d,ek,λh=>absurd rfl h⟩
 . refine ⟨ZV ⟨g,0,ZW⟩,cap,by rw [a,e],eb,λ_=>⟨g,0,rfl,λi k=>?_⟩⟩;have c:i<xs.length:=eb;have:=b.cells (g:=g) Zw i xs[i] ZB;rw [jU] at this;exact ⟨xs[i],by rw [Uc];exact this,(f i c k).mono j⟩
def Rl.push {w1 w2:ZS} {v v':ZR} {K:List a9} {o:Obj} (b:xs.length=K.length) (j:∀ i (h:i<xs.length) (d:i<K.length),Bs w0 xs[i] K[i])
 (g:w.ownsRow w0.heap.size 31 1 v xs.length xs) (a:bW w0 w) (q:w1=w.alloc o) (p:Bs w0 u l)
 (m:w1.grownBy w2 v.ownBlock) (f:w2.ownsRow w0.heap.size 31 1 v' (xs.length+1) (xs++[u])):Rl w0 w2 v' (K++[l]):=by
 subst q;refine ⟨xs++[u],abQ,λi h d=>?_,vE f,(a.alloc a.size o).grown m (by rw [Ug];have:=a.size;omega) λk n=>(g.lt k n).1⟩;by_cases c:i<xs.length
 . rw [WZ c,WZ eb];exact j i c eb
 . have e:i=xs.length:=(by simp at h;omega);subst e;rw [Xo lR,Xo eb];simpa [b] using p
def Bs.one (h:Bs w u l):u.oneCell'=ZU:=by
 obtain ⟨ao,c,rfl,_⟩:=h;rfl
def KpR (w:ZS) (M:List a9) (lost:Nat) (v i:ZR) (wr:ZS):Prop:=∃ k:Nat,k<=M.length/\i=Z7 Z9 k/\Rl w wr v (dG M lost k)
theorem Ks (D:ZR) (M:List a9) (lost:Nat) (w:ZS) (z:Rd w D M) (Q:lost<18446744073709551616) (X:M.length<=64) :
 ZQ ZL 102 #[D,Z7 Z8 lost] w λe w'=>∃ v,e=Z3 v/\Rl w w' v (dG M lost M.length):=by
 obtain ⟨V,O,S,T,U⟩:=Ur Tryz.Sy;rcases z.cases with ⟨rfl,ao,c,rfl⟩|⟨b,off,c,rfl,_,l⟩
 . go_enter func102,ntmps102;go_wp2;refine VL 1 ?_;rw [Vw];go_wp2;go_ret;exact ⟨_,rfl,Rl.nil _⟩
 . clear z;go_enter func102,ntmps102;go_wp2;go_loopw [5,10] (λv i wr=>KpR w M lost v i wr) (λ_ i _=>M.length-(intOf i).toNat)
   case atStart=>exact ⟨0,T3 _,rfl,Rl.nil _⟩
   case round=>
    rename ZS=>wo;obtain ⟨k,W,rfl,a⟩:=hrel;by_cases B:k<M.length
    . obtain ⟨u,m,j⟩:=l k B;have R:wo.cell? ⟨b,off+k,ZW⟩=ZV u:=(by rw [a.choose_spec.2.2.2.cell (T8 m)];exact m);obtain ⟨H,I,rfl,_⟩:=id j;have s:=No lost k Q;have E:=al (oN M lost k);have n:=al j;have t:M.getD k []=M[k]:=(by simp [B]);have J:=al t;clear l j m t;by_cases d:lost/2^k%2=0
      . rw [d] at s;have K:=al (Nm M lost k d);clear d;obtain ⟨xs,f,A,g,h⟩:=a;have G:=al A;have N:=al f;have Z:xs.length<=64:=(by rw [f];exact TU E.out eb);have Y:=h.size;clear A f;go_wp2_with (at_builtin;refine X7 _ rfl (Z0 20) (Z0 22) 176 rfl w.heap.size 31 V (Z5 ZW 0 0) 1 24 Wl O S T U rfl ec _ xs.length xs rfl (aB g (bA _ _)) ⟨wo.heap.size,0,ZW⟩ 1 1 [.slice H (M[k]).length I] rfl rfl (M7 _ _ rfl _ _) (by intro q C;simp at C;rw [C];exact n.out.one) eD eb K1 ?_;intro v' w2 r o P);have x:=Rl.push N.out G.out g h rfl n.out o r;rw [<- J.out,<- K.out] at x;clear g r o P h R;go_wp2;go_roundw
        case rel=>exact ⟨k+1,eb,e8,x⟩
        case measure=>simp [intOf];omega
      . have p:lost/2^k%2=1:=eb;rw [p] at s;have L:=al (Ko M lost k d);clear d p;have F:=al a;clear a;go_wp2;go_roundw
        case rel=>exact ⟨k+1,eb,e8,by rw [L.out];exact F.out⟩
        case measure=>simp [intOf];omega
    . have y:k=M.length:=eb;rw [y] at a;clear l y;go_wp2;go_ret;exact ⟨_,rfl,a⟩
def eJ (a:Act) (i:Nat) (v:ZR) (h:i<a.tmps.size):(a.put (ZV i) v).eval (.tmp i)=v:=by simp [Act.put,Act.eval,h]
def aD (a:Act) (i j:Nat) (v:ZR) (h:i≠j):(a.put (ZV i) v).eval (.tmp j)=a.eval (.tmp j):=by
 simp [Act.put,Act.eval,Vx,h]
def fy (a:Act) (d:Option Nat) (v:ZR):(a.put d v).tmps.size=a.tmps.size:=by
 cases d<;>simp [Act.put]
def Kt (a:Act) (i j:Nat) (v u:ZR) (h:i≠j):(a.put (ZV i) v).put (ZV j) u=(a.put (ZV j) u).put (ZV i) v:=by
 simp only [Act.put];rw [Array.setIfInBounds_comm _ _ h]
def cY (b:o.guard=ZW):Region.wanted o (yielded ops a.tmps)=ZU:=by simp [Region.wanted,b]
def jb {x:ZM} {v:ZR} (b:o.guard=ZW) (ho:o.op=.move x) (c:a.eval x=v):Yields P ops o v a:=
 .inl ⟨cY b,λw=>by simp [execOp,ho,c]⟩
def rg:Code->Nat->Option (Array ZO)
 | .region i ops _,n=>if i=n then ZV ops else ZW
 | .seq a b,n=>(rg a n).orElse λ_=>rg b n
 | .cond _ a b,n=>(rg a n).orElse λ_=>rg b n
 | .block _ a,n=>rg a n
 | .loop a,n=>rg a n
 | .scope a,n=>rg a n
 | _,_=>ZW
noncomputable def PG:Array ZO:=((Tryz.f101.body.bind (rg · 12))).getD #[]
def Rv (l:a9):Array Bool:=l.foldl (λa i=>a.setIfInBounds i ZU) (Array.replicate 12 ZT)
def gO:(YC 12).map (λi=>(PG[i]?).map λo=>(o.op,o.dst,o.guard))=[
 ZV (.move (Z0 4),ZV 28,ZW),ZV (.move (Z0 6),ZV 29,ZW),ZV (.move (Z0 6),ZV 30,ZW),ZV (.indexAddr 257 (Z0 3) (Z0 30),ZV 31,ZW),
 ZV (.load 39 (Z0 31),ZV 32,ZW),ZV (.move (Z0 4),ZV 33,ZW),ZV (.indexAddr 257 (Z0 3) (Z0 33),ZV 34,ZW),ZV (.load 39 (Z0 34),ZV 35,ZW),
 ZV (.indexAddr 257 (Z0 3) (Z0 28),ZV 36,ZW),ZV (.store 39 (Z0 36) (Z0 32),ZW,ZW),ZV (.indexAddr 257 (Z0 3) (Z0 29),ZV 37,ZW),ZV (.store 39 (Z0 37) (Z0 35),ZW,ZW)]:=ei
def gP {x:Op} {d:Option Nat} (f:i<12) (h:((YC 12).map (λi=>(PG[i]?).map λo=>(o.op,o.dst,o.guard)))[i]?=ZV (ZV (x,d,ZW))):∃ o,PG[i]?=ZV o/\o.op=x/\o.dst=d/\o.guard=ZW:=by
 simp only [Ul,Ve f,Wv,UC,VU,WH] at h;obtain ⟨o,a,b,c,e⟩:=h;exact ⟨o,a,b,c,e⟩
theorem oO (b p:Nat) (f:p<64) {o:ZO} {a:Act} {x y:ZM} (ho:o.op=.indexAddr 257 x y) (c:a.eval x=Z6 (ZV ⟨b,0,ZW⟩)) (d:a.eval y=Z7 Z9 (p:Nat)) (w:ZS) :
 (execOp a.eval o).run ZL w=.ok (.value (Z6 (ZV ⟨b,p*64,ZW⟩))) w:=by
 have e:(p:Int)<64:=eb
 simp only [execOp,ho,c,d];go_simp
def Tryz.Tj:(ZL.info? 39).map (λi=>i.size)=ZV 64:=ei
def Ku (a:Act) (gb p r:Nat) (cp cr:List ZR):Act:=
 ((((((((((a.put (ZV 28) (Z7 Z9 (r:Nat))).put (ZV 29) (Z7 Z9 (p:Nat))).put (ZV 30) (Z7 Z9 (p:Nat))).put (ZV 33) (Z7 Z9 (r:Nat))).put (ZV 31) (Z6 (ZV ⟨gb,p*64,ZW⟩))).put (ZV 34) (Z6 (ZV ⟨gb,r*64,ZW⟩))).put (ZV 32) (.agg cp.toArray)).put (ZV 35) (.agg cr.toArray)).put (ZV 36) (Z6 (ZV ⟨gb,r*64,ZW⟩))).put ZW ZX).put (ZV 37) (Z6 (ZV ⟨gb,p*64,ZW⟩)) |>.put ZW ZX
theorem Kv (e p r:Nat) (cp f:List ZR) (hR:PG=ops) (j:∀ c n v a w,Q (.panic c) (a.put (ZV n) v) w->Q (.panic c) a w)
 (m:a.tmps.size=47) (hp:p<64) (hr:r<64) (e3:a.eval (Z0 3)=Z6 (ZV ⟨e,0,ZW⟩)) (V:a.eval (Z0 4)=Z7 Z9 (r:Nat)) (W:a.eval (Z0 6)=Z7 Z9 (p:Nat))
 (lp:cp.length=64) (lr:f.length=64) (op:cp.toArray.all (λv=>v.oneCell')=ZU) (or:f.toArray.all (λv=>v.oneCell')=ZU)
 (Z:w.drew.rangeAt e (p*64) cp) (gr:w.drew.rangeAt e (r*64) f) (tr:w.drew.there e (r*64) 64) (tp:w.drew.there e (p*64) 64)
 (h:Q .normal (Ku a e p r cp f) ((w.drew.setCells e (r*64) cp).setCells e (p*64) f)):(Code.region 12 ops ZU).wp ZL Q a w:=by
 subst hR;obtain ⟨o0,g0,x0,M,k0⟩:=gP (i:=0) ec Wb;obtain ⟨o1,g1,x1,d1,k1⟩:=gP (i:=1) ec Wb;obtain ⟨o2,g2,x2,N,k2⟩:=gP (i:=2) ec Wb;obtain ⟨o3,g3,x3,O,k3⟩:=gP (i:=3) ec Wb;obtain ⟨o4,X,x4,P,k4⟩:=gP (i:=4) ec Wb;obtain ⟨o5,g5,x5,R,k5⟩:=gP (i:=5) ec Wb;obtain ⟨o6,g6,x6,S,k6⟩:=gP (i:=6) ec Wb;obtain ⟨o7,Y,x7,T,k7⟩:=gP (i:=7) ec Wb;obtain ⟨o8,g8,x8,U,k8⟩:=gP (i:=8) ec Wb;obtain ⟨o9,g9,x9,d9,k9⟩:=gP (i:=9) ec Wb;obtain ⟨h3,y,H,d10,A⟩:=gP (i:=10) ec Wb;obtain ⟨h4,z,I,d11,B⟩:=gP (i:=11) ec Wb;have g:Region.noSelect PG=ZU:=ei
 have h1:PG.size=12:=ei
 refine wp_region_any ei ?_;rw [h1];change wpAny _ _ _ _ _ (Rv []) _ (World.drew _);refine Wy g0 g ei ei (λc a w h=>j c _ _ a w (by rw [M] at h;exact h)) (jb k0 x0 V) ?_;rw [M];refine Wy g1 g ei ei (λc a w h=>j c _ _ a w (by rw [d1] at h;exact h)) (jb (v:=Z7 Z9 (p:Nat)) k1 x1 (by rw [aD _ _ _ _ ec];exact W)) ?_;rw [d1];refine Wy g2 g ei ei (λc a w h=>j c _ _ a w (by rw [N] at h;exact h)) (jb (v:=Z7 Z9 (p:Nat)) k2 x2 (by rw [aD _ _ _ _ ec,aD _ _ _ _ ec];exact W)) ?_;rw [N];refine Wy g5 g ei ei (λc a w h=>j c _ _ a w (by rw [R] at h;exact h)) (jb (v:=Z7 Z9 (r:Nat)) k5 x5 (by rw [aD _ _ _ _ ec,aD _ _ _ _ ec,aD _ _ _ _ ec];exact V)) ?_;rw [R];generalize hb:(((a.put (ZV 28) (Z7 Z9 (r:Nat))).put (ZV 29) (Z7 Z9 (p:Nat))).put (ZV 30) (Z7 Z9 (p:Nat))).put (ZV 33) (Z7 Z9 (r:Nat))=b;have sb:b.tmps.size=47:=by rw [<- hb];simp only [fy,m]
 have b3:b.eval (Z0 3)=Z6 (ZV ⟨e,0,ZW⟩):=by rw [<- hb];simp only [aD _ _ _ _ (ec:(33:Nat)≠3),aD _ _ _ _ (ec:(30:Nat)≠3),aD _ _ _ _ (ec:(29:Nat)≠3),aD _ _ _ _ (ec:(28:Nat)≠3),e3]
 have s:b.eval (Z0 30)=Z7 Z9 (p:Nat):=by rw [<- hb,aD _ _ _ _ ec,eJ _ _ _ abH]
 have t:b.eval (Z0 33)=Z7 Z9 (r:Nat):=by rw [<- hb,eJ _ _ _ abH]
 have o:b.eval (Z0 28)=Z7 Z9 (r:Nat):=by rw [<- hb,aD _ _ _ _ ec,aD _ _ _ _ ec,aD _ _ _ _ ec,eJ _ _ _ (by simp only [m];decide)]
 have q:b.eval (Z0 29)=Z7 Z9 (p:Nat):=by rw [<- hb,aD _ _ _ _ ec,aD _ _ _ _ ec,eJ _ _ _ abH]
 unfold Ku at h;rw [hb] at h;clear hb;refine Wy g3 g ei ei (λc a w h=>j c _ _ a w (by rw [O] at h;exact h)) (.inl ⟨cY k3,oO e p hp x3 b3 s⟩) ?_;rw [O];refine Wy g6 g ei ei (λc a w h=>j c _ _ a w (by rw [S] at h;exact h)) (.inl ⟨cY k6,oO e r hr x6 (by rw [aD _ _ _ _ ec];exact b3) (by rw [aD _ _ _ _ ec];exact t)⟩) ?_;rw [S];generalize hc:(b.put (ZV 31) (Z6 (ZV ⟨e,p*64,ZW⟩))).put (ZV 34) (Z6 (ZV ⟨e,r*64,ZW⟩))=c;have G:c.tmps.size=47:=by rw [<- hc];simp only [fy,sb]
 have c3:c.eval (Z0 3)=Z6 (ZV ⟨e,0,ZW⟩):=by rw [<- hc,aD _ _ _ _ ec,aD _ _ _ _ ec,b3]
 have u:c.eval (Z0 28)=Z7 Z9 (r:Nat):=by rw [<- hc,aD _ _ _ _ ec,aD _ _ _ _ ec,o]
 have x:c.eval (Z0 29)=Z7 Z9 (p:Nat):=by rw [<- hc,aD _ _ _ _ ec,aD _ _ _ _ ec,q]
 have k:c.eval (Z0 31)=Z6 (ZV ⟨e,p*64,ZW⟩):=by rw [<- hc,aD _ _ _ _ ec,eJ _ _ _ (by rw [sb];decide)]
 have l:c.eval (Z0 34)=Z6 (ZV ⟨e,r*64,ZW⟩):=by rw [<- hc,eJ _ _ _ (by simp only [fy,sb];decide)]
 rw [hc] at h;clear hc;have J:(ZL.info? 39).map (λi=>i.size)=ZV cp.length:=by rw [lp];exact Tryz.Tj
 have L:(ZL.info? 39).map (λi=>i.size)=ZV f.length:=by rw [lr];exact Tryz.Tj
 have fin:wpAny ZL .any PG Q 4 (Rv [0,1,2,5,3,6,4,7]) ((c.put (ZV 32) (.agg cp.toArray)).put (ZV 35) (.agg f.toArray)) w.drew:=by
  generalize hd:(c.put (ZV 32) (.agg cp.toArray)).put (ZV 35) (.agg f.toArray)=d;have sd:d.tmps.size=47:=by rw [<- hd];simp only [fy,G]
  have q3:d.eval (Z0 3)=Z6 (ZV ⟨e,0,ZW⟩):=by rw [<- hd,aD _ _ _ _ ec,aD _ _ _ _ ec,c3]
  have C:d.eval (Z0 28)=Z7 Z9 (r:Nat):=by rw [<- hd,aD _ _ _ _ ec,aD _ _ _ _ ec,u]
  have D:d.eval (Z0 29)=Z7 Z9 (p:Nat):=by rw [<- hd,aD _ _ _ _ ec,aD _ _ _ _ ec,x]
  have E:d.eval (Z0 32)=.agg cp.toArray:=by rw [<- hd,aD _ _ _ _ ec,eJ _ _ _ (by rw [G];decide)]
  have F:d.eval (Z0 35)=.agg f.toArray:=by rw [<- hd,eJ _ _ _ (by simp only [fy,G];decide)]
  rw [hd] at h;clear hd;refine Wy g8 g ei ei (λc a w h=>j c _ _ a w (by rw [U] at h;exact h)) (.inl ⟨cY k8,oO e r hr x8 q3 C⟩) ?_;rw [U];refine XG (rs:=[9]) ei ek ?_;refine Xh g9 (λK hK=>?_) XH;rw [if_pos (cY k9)];refine wp_store_mid 39 (Z0 36) (Z0 32) x9 e (r*64) cp.toArray (by rw [eJ _ _ _ (by rw [sd];decide)]) (by rw [aD _ _ _ _ ec,E]) (by simpa [lp] using tr) (vE J) op ?_;refine hK _ _ ?_;rw [d9];refine Wy y g ei ei (λc a w h=>j c _ _ a w (by rw [d10] at h;exact h)) (.inl ⟨cY A,oO e p hp H (by show (d.put (ZV 36) _).eval _=_;rw [aD _ _ _ _ ec];exact q3) (by show (d.put (ZV 36) _).eval _=_;rw [aD _ _ _ _ ec];exact D)⟩) ?_;rw [d10];refine XG (rs:=[11]) ei ek ?_;refine Xh z (λK hK=>?_) XH;rw [if_pos (cY B)];refine wp_store_mid 39 (Z0 37) (Z0 35) I e (p*64) f.toArray (by rw [eJ _ _ _ (by show 37<(d.put (ZV 36) _).tmps.size;rw [fy,sd];decide)]) (by rw [aD _ _ _ _ ec];show (d.put (ZV 36) _).eval _=_;rw [aD _ _ _ _ ec,F]) (by simpa [lr] using World.there_setCells tp e (r*64) cp) (vE L) or ?_;refine hK _ _ ?_;rw [d11];exact wpAny_done ei h _
 refine XG (rs:=[4,7]) ei ek ?_;refine Xh X (λK hK=>?_) (Xh Y (λK hK=>?_) XH)
 . rw [if_pos (cY k4)];refine Yg 39 (Z0 31) x4 e (p*64) k cp _ Z XI rfl J ?_;refine hK _ _ ?_;rw [P];refine XG (rs:=[7]) ei ek ?_;refine Xh Y (λK hK=>?_) XH;rw [if_pos (cY k7)];refine Yg 39 (Z0 34) x7 e (r*64) (by rw [aD _ _ _ _ ec];exact l) f _ gr XI rfl L ?_;refine hK _ _ ?_;rw [T];exact fin
 . rw [if_pos (cY k7)];refine Yg 39 (Z0 34) x7 e (r*64) l f _ gr XI rfl L ?_;refine hK _ _ ?_;rw [T];refine XG (rs:=[4]) ei ek ?_;refine Xh X (λK hK=>?_) XH;rw [if_pos (cY k4)];refine Yg 39 (Z0 31) x4 e (p*64) (by rw [aD _ _ _ _ ec];exact k) cp _ Z XI rfl J ?_;refine hK _ _ ?_;rw [P,Kt _ _ _ _ _ ec];exact fin
def vQ:Array ZR->Nat->List ZR->Array ZR
 | cur,_,[]=>cur
 | cur,o,v::r=>vQ (cur.setIfInBounds o v) (o+1) r
def xu:∀ (vs:List ZR) (o:Nat) (cur:Array ZR),(vQ cur o vs).size=cur.size
 | [],_,_=>rfl
 | v::r,o,cur=>by unfold vQ;rw [xu r];simp
def xw:∀ (vs:List ZR) (o:Nat) (cur:Array ZR),o+vs.length<=cur.size->(vQ cur o vs).toList.take (o+vs.length)=cur.toList.take o++vs
 | [],o,cur,_=>by simp [vQ]
 | v::r,o,cur,h=>by
  simp only [Um] at h ⊢;unfold vQ;have:=xw r (o+1) (cur.setIfInBounds o v) en;rw [(eb:o+(r.length+1)=o+1+r.length),this,aba];have e:(cur.toList.set o v).take (o+1)=cur.toList.take o++[v]:=by
   rw [Vd,List.take_set_of_le (TV o),List.getElem?_set_self en];rfl
  rw [e,UI];rfl
def jr:∀ (vs:List ZR) (o:Nat) (w:ZS) {b:Nat} {cur:Array ZR} {t:ZN} {a:Nat×Nat},w.heap[b]?=ZV (Z4 cur t a)->(w.setCells b o vs).heap[b]?=ZV (Z4 (vQ cur o vs) t a)
 | [],_,_,_,_,_,_,h=>h
 | v::r,o,w,b,cur,t,a,h=>by
  show ((w.setCell ⟨b,o,ZW⟩ v).setCells b (o+1) r).heap[b]?=_;exact jr r (o+1) _ (by simp [World.setCell,Vv,h])
def b9 (w:ZS) (b o:Nat) (vs:List ZR):w.grownBy (w.setCells b o vs) (ZV b):=by
 obtain ⟨c,d,f⟩:=jn b vs o w;exact ⟨c,d,f,by rw [jm];exact TV _,λk _ a=>aU b vs o w k (λe=>a Zc)⟩
theorem kY (w:ZS) (base:Nat) (t tx p e:ZN) (i:TypeInfo) (z:ZR) (size bytes:Nat) (ht:P.underlying t=ZV (.slice e)) (l:P.info? e=ZV i) (D:i.zero=ZV z)
 (F:i.size=size) (J:i.bytes=bytes) (O:z.cells.size=size) (v:ZR) (n:Nat) (xs:List ZR) (f:w.ownsRow base e size v n xs)
 (x:ZR) (m:Nat) (news:List ZR) (a:Src P size tx x m news w) (B:n+m<=maxLen) (A:(n+m)*bytes<=140737488355328) (E:base<=w.heap.size) :
 ∃ q w',(Builtin.append_ #[t,tx] p #[v,x]).run P w=.ok q w'/\w'.ownsRow base e size q (n+m) (xs++news)/\w.grownBy w' v.ownBlock/\(q.ownBlock=v.ownBlock\/q.ownBlock=ZV w.heap.size):=by
 subst F;subst J;have:n+m<=9223372036854775807:=by simp only [maxLen] at B;omega
 have h:(xs++news).length=(n+m)*i.size:=by rw [T5,f.1,a.newsLen,Xi]
 have grown:∀ (old:Nat),∀ (row:Option Nat),
  (w.drew.alloc (Z4 ((xs++news).toArray++Builtin.zeroCells z.cells (grownCap w (n+m) old e-(n+m))) e)).ownsRow base e i.size
   (Z5 (ZV ⟨w.heap.size,0,ZW⟩) (n+m) (grownCap w (n+m) old e)) (n+m) (xs++news) /\
  w.grownBy (w.drew.alloc (Z4 ((xs++news).toArray++Builtin.zeroCells z.cells (grownCap w (n+m) old e-(n+m))) e)) row:=by
  intro old row;have N:=Ya w (n+m) old e;have s:grownCap w (n+m) old e<=maxLen:=Yb w (n+m) old e B;refine ⟨⟨h,.inr ⟨w.heap.size,_,_,rfl,E,Yh w.drew _,N,s,?_,?_⟩⟩,⟨rfl,rfl,rfl,ek,λk o _=>(Ut w.drew _ k o:_)⟩⟩
  . rw [Array.size_append,Uy,size_zeroCells,O,h,<- Xi];congr 1;omega
  . rw [Array.toList_append,<- h];exact XJ
 rcases f.2 with ⟨rfl,rfl⟩|⟨g,cap,cur,rfl,I,y,T,s,C,G⟩
 . have Q:xs=[]:=UK (vE f.1);subst Q;by_cases L:m=0
   . subst L;have M:news=[]:=UK (vE a.newsLen);subst M;refine ⟨Z5 ZW 0 0,w,?_,UB w base e i.size,⟨rfl,rfl,rfl,TV _,λ_ _ _=>rfl⟩,.inl rfl⟩;rcases a.kind with ⟨R,o⟩|o<;>simp [Builtin.append_,Uw ht,Uw o,sizeOf,typeInfo,l,a.len,a.cells]
   . have c:=run_append_grow_src (P:=P) (w:=w) t tx p e i z ht l D ZW 0 0 [] (by simp [Builtin.firstCells]) x m news a eb eb (X9 eb (vE A));have d:=grown 0 (Value.ownBlock (Z5 ZW 0 0));simp only [Uc,Uk] at d c ⊢;exact ⟨_,_,c,d.1,d.2,.inr rfl⟩
 . by_cases r:n+m<=cap
   . have H:n*i.size+news.length<=cur.size:=(by rw [a.newsLen,C,<- Xi];exact Xd _ r);have c:=run_append_room_src (P:=P) (w:=w) t tx p e i ht l g 0 n cap x m news a r (λj K=>by simp [World.cell?,y];omega) (λj K=>by simp [World.frozen?,y]);rw [Uc] at c;refine ⟨_,_,c,⟨h,.inr ⟨g,cap,_,rfl,I,jr news _ w y,r,s,by rw [xu];exact C,?_⟩⟩,b9 w g _ news,.inl rfl⟩;rw [Xi,<- a.newsLen,xw news _ cur H,G]
   . have b:∀ j u,xs[j]?=ZV u->w.cell? ((⟨g,0,ZW⟩:ZP).add j)=ZV u:=f.cells (g:=g) rfl;have c:=run_append_grow_src (P:=P) (w:=w) t tx p e i z ht l D (ZV ⟨g,0,ZW⟩) n cap xs (run_firstCells_some w.drew i.size n ⟨g,0,ZW⟩ n cap xs f.1 (vE b)) x m news a eb eb (X9 eb A);have d:=grown cap (Value.ownBlock (Z5 (ZV ⟨g,0,ZW⟩) n cap));exact ⟨_,_,c,d.1,d.2,.inr rfl⟩
def af (w:ZS) {ops:Array ZO} {rest:List ZO} {o:ZO} {a:Act} {Q:Exit->Act->ZS->Prop} (g:o.guard=ZW) (s x:ZM) (t tx:ZN)
 (ho:o.op=.call { callee:=.builtin .append,args:=#[s,x],argTypes:=#[t,tx] }) (base:Nat) (e:ZN) (i:TypeInfo) (z:ZR) (size bytes:Nat) (ht:P.underlying t=ZV (.slice e)) (hi:P.info? e=ZV i) (hz:i.zero=ZV z)
 (h5:i.size=size) (h8:i.bytes=bytes) (ha:z.cells.size=size) (v:ZR) (n:Nat) (xs:List ZR) (hv:a.eval s=v) (h6:w.ownsRow base e size v n xs)
 (u:ZR) (hu:a.eval x=u) (m:Nat) (news:List ZR) (hs:Src P size tx u m news w) (h7:n+m<=maxLen) (h0:(n+m)*bytes<=140737488355328) (h1:base<=w.heap.size)
 (h:∀ b w',w'.ownsRow base e size b (n+m) (xs++news)->w.grownBy w' v.ownBlock->(b.ownBlock=v.ownBlock\/b.ownBlock=ZV w.heap.size)->wpList P ops Q rest (a.put o.dst b) w'):wpList P ops Q (o::rest) a w:=by
 obtain ⟨b,w',j,c,d,f⟩:=kY (P:=P) w base t tx o.type e i z size bytes ht hi hz h5 h8 ha v n xs h6 u m news hs h7 h0 h1;refine VD g λK hK=>?_;unfold Oper.wp execOp;simp only [ho,resolve,invoke,builtin,Uo,UW,Uz,Vy,UD,U5,hv,hu,j];exact hK _ _ (h b w' c d f)
def qt (w:ZS) (t u q e:ZN) (k:IntKind) (i:TypeInfo) (z:ZR) (ht:P.underlying t=ZV (.slice e)) (m:P.underlying u=ZV (.int k)) (g:P.info? e=ZV i) (p:i.zero=ZV z) (f:i.bytes=1) (l:i.size=1)
 (n:Nat) (a:0<n) (r:n<=1000000) :
 (Builtin.append_ #[t,u] q #[Z5 ZW 0 0,Z7 Z9 n]).run P w =
  .ok (Z5 (ZV ⟨w.heap.size,0,ZW⟩) n (grownCap w n 0 e)) (w.drew.alloc (Z4 (Builtin.zeroCells z.cells n++Builtin.zeroCells z.cells (grownCap w n 0 e-n)) e)):=by
 have j:n≠0:=eb
 have d:¬ (9223372036854775807<(n:Int)):=eb
 have o:IntKind.i64.wrap (n:Int)=n:=iE
 have h:¬ ((n:Int)<0):=eb
 have c:¬ (281474976710656<Builtin.nextslicecap n 0):=by rw [nextslicecap_zero a];omega
 have b:¬ (281474976710656<(n:Int)):=eb
 simp [Builtin.append_,Uw ht,Uw m,sizeOf,typeInfo,zeroValue,g,p,f,l,j,d,c,b,o,h,Question.forced,run_firstCells_none,newRow,grownCap,asInt,asIntOf]
def Tryz.Sj:(ZL.info? 5).map (λi=>(i.zero,i.size,i.bytes))=ZV (ZV (Z7 .u8 0),1,1):=ei
def GT (w:ZS) (n c:Nat) (b:n<=c) (a:c<=maxLen):(w.drew.alloc (Z4 (Builtin.zeroCells (Value.cells (Z7 .u8 0)) n++Builtin.zeroCells (Value.cells (Z7 .u8 0)) (c-n)) 5)).ownsRow w.heap.size 5 1 (Z5 (ZV ⟨w.heap.size,0,ZW⟩) 0 c) 0 []:=by
 refine ⟨rfl,.inr ⟨w.heap.size,c,_,rfl,TV _,T9 w.drew _,T3 _,a,?_,ek⟩⟩;simp [Builtin.zeroCells,Value.cells];omega
def zA (w w':ZS) {ops:Array ZO} {rest:List ZO} {o:ZO} {a:Act} {Q:Exit->Act->ZS->Prop} (b:o.guard=ZW) (s x:ZM) (t tx:ZN)
 (ho:o.op=.call { callee:=.builtin .append,args:=#[s,x],argTypes:=#[t,tx] }) (v u v':ZR) (hv:a.eval s=v) (hu:a.eval x=u) (hr:∀ c,(Builtin.append_ #[t,tx] c #[v,u]).run P w=.ok v' w')
 (h:wpList P ops Q rest (a.put o.dst v') w'):wpList P ops Q (o::rest) a w:=by
 refine VD b λK hK=>?_;unfold Oper.wp execOp;simp only [ho,resolve,invoke,builtin,Uo,UW,Uz,Vy,UD,U5,hv,hu,hr];exact hK _ _ h
theorem Kw (n:Nat) (q:n<=1000000) (w:ZS):ZQ ZL 150 #[Z5 ZW 0 0,Z7 Z9 n] w λe w'=>∃ v,e=Z3 v/\w'.ownsRow w.heap.size 5 1 v 0 []/\bW w w':=by
 obtain ⟨r,k,m,o,p⟩:=Ur Tryz.Sj;by_cases j:0<n
 . have a:=λs=>qt (P:=ZL) w 31 3 s 5 .i64 r (Z7 .u8 0) Ui Xj k m p o n j q;have f:n<=grownCap w n 0 5:=Ya w n 0 5;have d:grownCap w n 0 5<=maxLen:=Yb w n 0 5 eD;have c:=GT w n (grownCap w n 0 5) f d;have b:bW w (w.drew.alloc (Z4 (Builtin.zeroCells (Value.cells (Z7 .u8 0)) n++Builtin.zeroCells (Value.cells (Z7 .u8 0)) (grownCap w n 0 5-n)) 5)):=(TX _ w).drew.alloc lR _;obtain ⟨cp,g⟩:=nM (grownCap w n 0 5);rw [g] at a f d c b;obtain ⟨w2,h⟩:=nM (w.drew.alloc (Z4 (Builtin.zeroCells (Value.cells (Z7 .u8 0)) n++Builtin.zeroCells (Value.cells (Z7 .u8 0)) (cp-n)) 5));rw [h] at a c b;have H:=au c b;have i:=al a;clear c b h g d a;go_enter func150,ntmps150;go_wp2_with (show wpList _ _ _ ({ dst:=ZV 22,op:=_,type:=_,pos:=_,after:=_,guard:=_ }::_) _ _;refine zA w w2 rfl (Z0 20) (Z0 21) 31 3 rfl (Z5 ZW 0 0) (Z7 Z9 n) (Z5 (ZV ⟨w.heap.size,0,ZW⟩) n cp) rfl rfl (by exact i.out) ?_);go_ret;exact ⟨_,rfl,H.out.1,H.out.2⟩
 . have l:n=0:=eb;subst l;go_enter func150,ntmps150;go_wp2;go_ret;exact ⟨_,rfl,UB _ _ _ _,TX _ _⟩
def dX {size:Nat} {v:ZR} (h:w.ownsRow base e size v n xs) {k:Nat} (a:v.ownBlock=ZV k):base<=k:=by
 rcases h.2 with ⟨c,_⟩|⟨g,cap,cur,b,d,_⟩
 . rw [c] at a;simp [Value.ownBlock] at a
 . rw [b] at a;simp [Value.ownBlock] at a;omega
def CcR (w:ZS) (K:Nat) (s i:ZR) (wr:ZS):Prop:=∃ k:Nat,k<=K/\i=Z7 Z9 k/\s=Z7 Z9 ((44*k:Nat):Int)/\wr=w
def CdR (w:ZS) (R:List a9) (v i:ZR) (wr:ZS):Prop:=∃ k:Nat,k<=R.length/\i=Z7 Z9 k/\wr.ownsRow w.heap.size 5 1 v (44*k) (aJ (R.take k).flatten)/\bW w wr
theorem GU (Q:Kf w base g R) (U:R.length<=1000):ZQ ZL 116 #[Z5 (ZV ⟨g,0,ZW⟩) R.length c] w λe w'=>∃ v,e=Z3 v/\w'.ownsRow w.heap.size 5 1 v (44*R.length) (aJ R.flatten)/\bW w w':=by
 obtain ⟨i0,X,hy,hz,k0⟩:=Ur Tryz.Sj;obtain ⟨K,hK⟩:=nM (R.length);obtain ⟨_,W,E⟩:=Q;have f:=au E hK;rw [hK] at U ⊢;clear E hK;go_enter func116,ntmps116;go_wp2_with fail;go_loopw [3,11] (λs i wr=>CcR w K s i wr) (λ_ i _=>K-(intOf i).toNat)
 case atStart=>exact ⟨0,T3 _,rfl,rfl,rfl⟩
 case round=>
  obtain ⟨k,k7,rfl,rfl,N⟩:=hrel;obtain rfl:w=wr:=N.symm;clear N;by_cases B:k<K
  . obtain ⟨b,off,h,c1,z,l,m,n,A⟩:=f.out.1 k (by rw [f.out.2];exact B);clear z l m n A;have r:((44*k:Nat):Int)+44=((44*(k+1):Nat):Int):=eb;have S:44*(k+1)<=44000:=eb;obtain ⟨M,o⟩:=nM (44*k);obtain ⟨M',y⟩:=nM (44*(k+1));rw [o,y] at r;rw [y] at S;rw [o];go_wp2;refine ⟨⟨k+1,eb,e8,by rw [y],rfl⟩,e9⟩
  . have hx:k=K:=eb;subst hx;obtain ⟨M,o⟩:=nM (44*k);have k5:M<=44000:=eb;rw [o];go_wp2_with fail;refine (Kw M eb w).mono ?_;rintro e w1 ⟨v,rfl,d,a⟩;have p:=au d a;clear d a;go_wp2_with fail;go_loopw [6,27] (λv i D=>CdR w R v i D) (λ_ i _=>k-(intOf i).toNat)
    case atStart=>exact ⟨0,T3 _,rfl,p.out.1,p.out.2⟩
    case round=>
     clear p;obtain ⟨j,Z,rfl,d,a⟩:=hrel;rw [f.out.2] at Z;by_cases B:j<k
     . have G:j<R.length:=(by rw [f.out.2];exact B);obtain ⟨b,off,h,c1,z,l,m,n,A⟩:=f.out.1 j G;have O:wr.cell? ⟨g,j,ZW⟩=ZV (Z5 (ZV ⟨b,off,ZW⟩) 44 h):=(Uh (a.block g W)).trans c1;have t:Src ZL 1 31 (Z5 (ZV ⟨b,off,ZW⟩) 44 h) 44 (aJ R[j]) wr:=U8 wr Ui ⟨b,off,ZW⟩ 44 h (aJ R[j]) (by rw [aW,n]) (λq u Y=>by have F:wr.cell? ⟨b,off+q,ZW⟩=ZV u:=(Uh (a.block b l)).trans (m q u Y);unfold Addr.add;split<;>first|exact F|(rename_i P;subst P;exact F)) (λu hu=>by
        obtain ⟨x,_,rfl⟩:=T1.1 hu;rfl)
       have ht:aJ (R.take (j+1)).flatten=aJ (R.take j).flatten++aJ R[j]:=by
        rw [Vd,T2 G,YM,List.flatten_append,bK];simp
       obtain ⟨C,J⟩:=nM (aJ R[j]);obtain ⟨rt,I⟩:=nM (aJ (R.take j).flatten);rw [J] at t ht;rw [I] at d ht;have L:=a.size;have H:=a5 d a t ht;have k6:44*j+44<=44000:=eb;clear d a t ht z l m n A c1 J I;go_wp2_with (show wpList _ _ _ ({ dst:=ZV 33,op:=_,type:=_,pos:=_,after:=_,guard:=_ }::_) _ _;refine af _ rfl (Z0 31) (Z0 32) 31 31 rfl w.heap.size 5 i0 (Z7 .u8 0) 1 1 Ui X hy hz k0 rfl _ (44*j) rt l3 abI _ l3 44 C (by exact H.out.2.2.1) eD eb (by exact L) ?_;intro v' w3 T V _);obtain ⟨d,a,_,ht⟩:=H.out;refine ⟨⟨j+1,by rw [f.out.2];omega,e8,?_,a.grown V L λq e=>dX d e⟩,e9⟩;rw [ht,(eb:44*(j+1)=44*j+44)];exact T
     . have hs:j=k:=eb;subst hs;have H:=au d a;clear d a;go_wp2;go_ret;refine ⟨_,rfl,?_,H.out.2⟩;have:=H.out.1;rw [UU (by rw [f.out.2];exact TV _)] at this;exact this
def Rw (v b g N gone sp:Nat):Array ZR:=#[Z6 (ZV ⟨v,0,ZW⟩),Z7 Z9 b,Z5 (ZV ⟨g,0,ZW⟩) N N,Z7 Z8 gone,Z7 Z8 sp]
def cP (w:ZS) (r v b g N gone sp:Nat):Prop:=w.heap[r]?=ZV (Z4 (Rw v b g N gone sp) 217 (0,0))
def cP.keep (h:cP w r v b g N gone sp) (e:w'.heap[r]?=w.heap[r]?):cP w' r v b g N gone sp:=e.trans h
def cP.lt (h:cP w r v b g N gone sp):r<w.heap.size:=(TW.1 h).1
def cP.cells (h:cP w r v b g N gone sp):w.cell? ⟨r,0,ZW⟩=ZV (Z6 (ZV ⟨v,0,ZW⟩))/\w.cell? ⟨r,1,ZW⟩=ZV (Z7 Z9 b)/\w.cell? ⟨r,2,ZW⟩=ZV (Z5 (ZV ⟨g,0,ZW⟩) N N)/\w.cell? ⟨r,3,ZW⟩=ZV (Z7 Z8 gone)/\w.cell? ⟨r,4,ZW⟩=ZV (Z7 Z8 sp):=by
 have a:w.heap[r]?=ZV (Z4 (Rw v b g N gone sp) 217 (0,0)):=h;simp [World.cell?,a,Rw]
def cP.free (h:cP w r v b g N gone sp) (i:Nat):w.frozen? ⟨r,i,ZW⟩=ZT:=by
 have a:w.heap[r]?=ZV (Z4 (Rw v b g N gone sp) 217 (0,0)):=h;simp [World.frozen?,a]
def vR (w:ZS) {ops:Array ZO} {rest:List ZO} {o:ZO} {a:Act} {Q:Exit->Act->ZS->Prop}
 (h:o.guard=ZW) (l c:ZM) (e:o.op=Op.makeSlice 176 l c) (C:Int) (n:Nat) (i:a.eval l=Z7 Z9 C) (g:a.eval c=Z7 Z9 C) (f:C=(n:Int)) (j:n<=1000000)
 (hK:∀ w',w'.rowIs w.heap.size 31 n (λ_=>Z5 ZW 0 0)->bW w w'->w'.heap.size=w.heap.size+1->wpList ZL ops Q rest (a.put o.dst (Z5 (ZV ⟨w.heap.size,0,ZW⟩) n n)) w') :
 wpList ZL ops Q (o::rest) a w:=by
 refine VD h λK d=>?_;have b:=Xs (P:=ZL) 176 31 (Z5 ZW 0 0) 24 Wl Tryz.Sk rfl .i64 .i64 n eb eb w;subst f;unfold Oper.wp;simp [execOp,e,i,g,b,Result.andThen];exact d _ _ (hK _ (W5 w _ n _) (bA _ _) (Ug _ _))
theorem tF (w:ZS) (l:ZN) (g N c:Nat) (f:Nat->ZR) (h:w.rowIs g 31 N f) (r:0<N):(Builtin.clear_ #[176] l #[Z5 (ZV ⟨g,0,ZW⟩) N c]).run ZL w=.ok (ZY #[]) (w.setRow g (YD N (Value.slice ZW 0 0)).toArray):=by
 obtain ⟨cs,d,e,n⟩:=h;obtain ⟨s,b,j,p,q⟩:=Ur Tryz.Sk;have k:(Builtin.zeroCells (Value.cells (Z5 ZW 0 0)) N).toList=YD N (Value.slice ZW 0 0):=by
  apply U4
  . simp [Builtin.zeroCells,Value.cells]
  . intro i _ _;simp [Builtin.zeroCells,Value.cells,Nat.mod_one]
 have a:=run_storeCells_from (P:=ZL) g 31 (YD N (Value.slice ZW 0 0)) 0 cs w d (by simp [e]) (λv hv=>by rw [Vn hv];rfl);have:N≠0:=eb
 simp only [VQ,Uk] at a;obtain ⟨m,rfl⟩:∃ m,N=m+1:=⟨N-1,eb⟩;simp [Builtin.clear_,Uw Wl,zeroValue,typeInfo,b,j,k,a]
def zB (w:ZS) {ops:Array ZO} {rest:List ZO} {o:ZO} {a:Act} {Q:Exit->Act->ZS->Prop} (j:o.guard=ZW) (s:ZM)
 (ho:o.op=.call { callee:=.builtin .clear,args:=#[s],argTypes:=#[176] }) (h0:o.dst=ZW) {g N c:Nat} {f:Nat->ZR} (hv:a.eval s=Z5 (ZV ⟨g,0,ZW⟩) N c) (hr:w.rowIs g 31 N f) (hN:0<N)
 (h:∀ w',w'.rowIs g 31 N (λ_=>Z5 ZW 0 0)->aa (λk=>k=g) w w'->wpList ZL ops Q rest a w'):wpList ZL ops Q (o::rest) a w:=by
 refine VD j λK hK=>?_;unfold Oper.wp execOp;simp only [ho,resolve,invoke,builtin,Uo,UW,Uz,Vy,UD,U5,hv,tF w _ g N c f hr hN];have b:=aF w g (YD N (Value.slice ZW 0 0)).toArray;obtain ⟨cs,d,_⟩:=hr;refine hK _ _ ?_;rw [h0];exact h _ ⟨_,U3 _ _ _ _ _ _ d,ek,λi m=>by simp [m]⟩ ⟨b.os,b.tape,b.output,b.size,λk n l=>b.block k n (λe=>l (UA e))⟩
def DU (w:ZS) (r:Nat) {v b0 g N gone sp:Nat} (h:cP w r v b0 g N gone sp) (b ho:Nat):cP (((w.setCell ⟨r,1,ZW⟩ (Z7 Z9 b)).setCell ⟨r,3,ZW⟩ (Z7 Z8 0)).setCell ⟨r,4,ZW⟩ (Z7 Z8 ho)) r v b g N 0 ho/\aa (λk=>k=r) w (((w.setCell ⟨r,1,ZW⟩ (Z7 Z9 b)).setCell ⟨r,3,ZW⟩ (Z7 Z8 0)).setCell ⟨r,4,ZW⟩ (Z7 Z8 ho)):=by
 refine ⟨?_,((aa.setCell (S:=λk=>k=r) w ⟨r,1,ZW⟩ _ rfl).trans (aa.setCell _ ⟨r,3,ZW⟩ _ rfl)).trans (aa.setCell _ ⟨r,4,ZW⟩ _ rfl)⟩;have a:=Yi w r 1 _ _ (Z7 Z9 b) h;have c:=Yi _ r 3 _ _ (Z7 Z8 0) a;exact Yi _ r 4 _ _ (Z7 Z8 ho) c
theorem Fs {b0:Nat} {f:Nat->ZR} (h:cP w r v b0 g N gone sp) (m:bk w v p D L G ps ho) (n:w.rowIs g 31 N f) (x:0<N) (d:g≠r) (u:v≠g) (b:Nat) :
 ZQ ZL 113 #[Z6 (ZV ⟨r,0,ZW⟩),Z7 Z9 b] w λe w'=>e=Z3 (ZY #[])/\cP w' r v b g N 0 ho/\w'.rowIs g 31 N (λ_=>Z5 ZW 0 0)/\aa (λk=>k=r\/k=g) w w':=by
 obtain ⟨o,c1,q,s,t⟩:=h.cells;have H:=aE h m n;clear h m n;go_enter func113,ntmps113;go_wp2_with (show wpList _ _ _ ({ dst:=ZW,op:=.call { callee:=.builtin .clear,args:=_,argTypes:=_ },type:=_,pos:=_,after:=_,guard:=_ }::_) _ _;refine zB _ rfl (Z0 7) rfl rfl (g:=g) (N:=N) (c:=N) (f:=f) rfl (by exact H.out.2.2) x ?_;intro w1 l a;obtain ⟨z,d1,A,B,C⟩:=(H.out.1.keep (a.block _ H.out.1.lt (λe=>d e.symm))).cells;obtain ⟨_,_,_,_,_,I⟩:=(H.out.2.1.keep (a.block _ H.out.2.1.lt u)).cells;have f1:=(H.out.1.keep (a.block _ H.out.1.lt (λe=>d e.symm))).free 1;have E:=(H.out.1.keep (a.block _ H.out.1.lt (λe=>d e.symm))).free 3;have F:=(H.out.1.keep (a.block _ H.out.1.lt (λe=>d e.symm))).free 4;have i:=au l a;clear l a o c1 q s t);first|go_end0|skip
 have y:=H.out.1.keep (i.out.2.block _ H.out.1.lt (λe=>d e.symm));have j:=DU w1 r y b ho;refine ⟨rfl,j.1,i.out.1.of_block (j.2.block _ i.out.1.lt (λe=>d e)),(i.out.2.mono λ_ _ e=>.inr e).trans (j.2.mono λ_ _ e=>.inl e)⟩
def ku {D:Nat->Bool}:du D i i=ZU:=if_pos rfl
def Np (w:ZS) (S:Nat) (Dn:Nat->Bool) (w':ZS):Prop:=w'=if Dn 11=ZU then w.drew.alloc (Z4 #[Z7 Z8 S] 131) else w.drew
def kA (h:Np w S Dn w') (i:Nat) (a:11≠i):Np w S (du Dn i) w':=by unfold Np;rw [dm a];exact h
theorem oP (h:Np w S Dn w') {a:ZP} {v:ZR} (b:w.cell? a=ZV v):w'.cell? a=ZV v:=by
 unfold Np at h;subst h;split
 . exact (World.cell?_alloc_some w.drew a _ (by rw [show w.drew.cell? a=w.cell? a from rfl,b];rfl)).trans b
 . exact b
def MQ (w:ZS) (K:ZS->Prop) (Dn:Nat->Bool) (w':ZS):Prop:=if Dn 9=ZU then K w' else w'=w.drew
def dO {K:ZS->Prop} (h:MQ w K Dn w') (i:Nat) (a:9≠i):MQ w K (du Dn i) w':=by unfold MQ;rw [dm a];exact h
def Nq (w:ZS) (g x q7:Nat) (Dn:Nat->Bool) (w':ZS):Prop:=w'=if Dn 8=ZU then w.drew.setCell ⟨g,x,ZW⟩ (Z5 (ZV ⟨q7,0,ZW⟩) 44 44) else w.drew
def mM {x:Nat} (h:Nq w g x q7 Dn w') (i:Nat) (a:8≠i):Nq w g x q7 (du Dn i) w':=by unfold Nq;rw [dm a];exact h
theorem Bi {x:Nat} (h:Nq w g x q7 Dn w') {a:ZP} (c:a.block≠g) {v:ZR} (b:w.cell? a=ZV v):w'.cell? a=ZV v:=by
 unfold Nq at h;subst h;split
 . exact (Uh (T7 _ _ _ _ c)).trans b
 . exact b
noncomputable def Rx:Array ZO:=((Tryz.f126.body.bind (nZ · 1))).getD #[]
def Kx:List (Op×Option Nat×a9):=[(Op.move (Z0 1),ZV 9,[]),
 (Op.load 164 (Z0 2),ZV 10,[]),
 (Op.nilCheck (Z0 10),ZV 11,[1]),
 (Op.fieldAddr 217 (Z0 11) 3,ZV 12,[2]),
 (Op.load 131 (Z0 12),ZV 13,[3]),
 (Op.binOp BinOp.andNot 131 (Z0 9) (Z0 13) 131,ZV 14,[0,4]),
 (Op.load 164 (Z0 2),ZV 15,[]),
 (Op.nilCheck (Z0 15),ZV 16,[6]),
 (Op.fieldAddr 217 (Z0 16) 4,ZV 17,[7]),
 (Op.load 131 (Z0 17),ZV 18,[8]),
 (Op.binOp BinOp.andNot 131 (Z0 14) (Z0 18) 131,ZV 19,[5,9]),
 (Op.call { callee:=Callee.value (Operand.func 129),args:=#[Z0 19],argTypes:=#[131] },ZV 20,[10])]
def DV:aL Rx 9 21 Kx:=bj ei ei
def Bj (w:ZS) (r S gone sp S1 S2:Nat):List ZR:=[Z7 Z8 S,Z6 (ZV ⟨r,0,ZW⟩),Z6 (ZV ⟨r,0,ZW⟩),Z6 (ZV ⟨r,3,ZW⟩),Z7 Z8 gone,Z7 Z8 S1,Z6 (ZV ⟨r,0,ZW⟩),Z6 (ZV ⟨r,0,ZW⟩),Z6 (ZV ⟨r,4,ZW⟩),Z7 Z8 sp,Z7 Z8 S2,.func (.func 156) #[] #[Z6 (ZV ⟨w.heap.size,0,ZW⟩)]]
theorem vS {S1 S2:Nat} (F:Boxed w q 164 (Z6 (ZV ⟨r,0,ZW⟩))) (K:cP w r v b g N gone sp) (P:bits .andNot .u64 (S:Int) (gone:Int)=(S1:Int)) (R:bits .andNot .u64 (S1:Int) (sp:Int)=(S2:Int)) (G:Rx=ops) (T:a.tmps.size=100)
 (E:a.eval (Z0 1)=Z7 Z8 S) (B:a.eval (Z0 2)=Z6 (ZV ⟨q,0,ZW⟩))
 (I:∀ (w':ZS),w'=w.drew.alloc (Z4 #[Z7 Z8 S2] 131)->Q .normal (Act.RL a 9 [Z7 Z8 S,Z6 (ZV ⟨r,0,ZW⟩),Z6 (ZV ⟨r,0,ZW⟩),Z6 (ZV ⟨r,3,ZW⟩),Z7 Z8 gone,Z7 Z8 S1,Z6 (ZV ⟨r,0,ZW⟩),Z6 (ZV ⟨r,0,ZW⟩),Z6 (ZV ⟨r,4,ZW⟩),Z7 Z8 sp,Z7 Z8 S2,.func (.func 156) #[] #[Z6 (ZV ⟨w.heap.size,0,ZW⟩)]]) w'):(Code.region 1 ops ZU).wpIn Fence.wide n ZL Q a w:=by
 subst G;obtain ⟨_,_,_,C,D⟩:=K.cells;have A:=F.cell;refine bu ei DV a w eb (λi u _=>u=(Bj w r S gone sp S1 S2).getD i ZX) (Np w S2) rfl ?_ ?_
 . intro i z;match i,z with
   | 0,_=>
    intro o k w' Dn x ho l p s t m j d;have u0:k.eval (Z0 1)=Z7 Z8 S:=(p.slot 1 eb).trans E;exact bC (ah ho u0 w') ej l ⟨kA j 0 ec,rfl,kq⟩
   | 1,_=>
    intro o k w' Dn x ho l p s t m j d;have u0:k.eval (Z0 2)=Z6 (ZV ⟨q,0,ZW⟩):=(p.slot 2 eb).trans B;have y:w'.cell? ⟨q,0,ZW⟩=ZV (Z6 (ZV ⟨r,0,ZW⟩)):=oP j A;exact bC (v:=Z6 (ZV ⟨r,0,ZW⟩)) ee ej l ⟨kA j 1 ec,rfl,kq⟩
   | 2,_|3,_|7,_|8,_=>
    intro o k w' Dn x ho l p s t m j d;have u0:=d _ (m _ (.head _));simp only [Kx,Bj,bT,dy,wK,wJ] at ho u0;exact bC (by simp only [execOp,ho,u0,Bj,wK,wJ];go_simp) ej l ⟨kA j _ ec,rfl,kq⟩
   | 5,_|10,_=>
    intro o k w' Dn x ho l p s t m j d;have u0:=d _ (m _ (.head _));have u1:=d _ (m _ (.tail _ (.head _)));simp only [Kx,Bj,bT,dy,wK,wJ] at ho u0 u1;exact bC (by simp only [execOp,ho,u0,u1,Bj,wK,wJ];go_simp) ej l ⟨kA j _ ec,rfl,kq⟩
   | 4,_=>
    intro o k w' Dn x ho l p s t m j d;have u0:k.eval (Z0 12)=Z6 (ZV ⟨r,3,ZW⟩):=d 3 (m 3 ec);have y:w'.cell? ⟨r,3,ZW⟩=ZV (Z7 Z8 gone):=oP j C;exact bC (v:=Z7 Z8 gone) ee ej l ⟨kA j 4 ec,rfl,kq⟩
   | 6,_=>
    intro o k w' Dn x ho l p s t m j d;have u0:k.eval (Z0 2)=Z6 (ZV ⟨q,0,ZW⟩):=(p.slot 2 eb).trans B;have y:w'.cell? ⟨q,0,ZW⟩=ZV (Z6 (ZV ⟨r,0,ZW⟩)):=oP j A;exact bC (v:=Z6 (ZV ⟨r,0,ZW⟩)) ee ej l ⟨kA j 6 ec,rfl,kq⟩
   | 9,_=>
    intro o k w' Dn x ho l p s t m j d;have u0:k.eval (Z0 17)=Z6 (ZV ⟨r,4,ZW⟩):=d 8 (m 8 ec);have y:w'.cell? ⟨r,4,ZW⟩=ZV (Z7 Z8 sp):=oP j D;exact bC (v:=Z7 Z8 sp) ee ej l ⟨kA j 9 ec,rfl,kq⟩
   | 11,_=>
    intro o k w' Dn x ho l p s t m j d;have u0:k.eval (Z0 19)=Z7 Z8 S2:=d 10 (m 10 ec);refine oA (f:=129) (args:=#[Z7 Z8 S2]) (w1:=w') lk ej l (dj S2 w') ?_;rintro e M ⟨rfl,rfl⟩;have L:w'=w.drew:=(by have:=j;unfold Np at this;rw [if_neg abJ] at this;exact this);subst L;exact ⟨_,rfl,by unfold Np;rw [if_pos ku],rfl,kq⟩
   | n+12,hn=>exact absurd hn (by show ¬ n+12<12;omega)
 . rintro k w' J O ⟨Dn,H,j⟩ d;have e:k=Act.RL a 9 [Z7 Z8 S,Z6 (ZV ⟨r,0,ZW⟩),Z6 (ZV ⟨r,0,ZW⟩),Z6 (ZV ⟨r,3,ZW⟩),Z7 Z8 gone,Z7 Z8 S1,Z6 (ZV ⟨r,0,ZW⟩),Z6 (ZV ⟨r,0,ZW⟩),Z6 (ZV ⟨r,4,ZW⟩),Z7 Z8 sp,Z7 Z8 S2,.func (.func 156) #[] #[Z6 (ZV ⟨w.heap.size,0,ZW⟩)]]:=J.out _ rfl eb (λi z=>?_)
   . rw [e];exact I w' (by unfold Np at j;rw [if_pos (H 11 ec)] at j;exact j)
   . match i,z with
     | 0,_=>exact d 0 ec
     | 1,_=>exact d 1 ec
     | 2,_=>exact d 2 ec
     | 3,_=>exact d 3 ec
     | 4,_=>exact d 4 ec
     | 5,_=>exact d 5 ec
     | 6,_=>exact d 6 ec
     | 7,_=>exact d 7 ec
     | 8,_=>exact d 8 ec
     | 9,_=>exact d 9 ec
     | 10,_=>exact d 10 ec
     | 11,_=>exact d 11 ec
     | n+12,hn=>exact absurd hn ek
noncomputable def RF4:Array ZO:=((Tryz.f126.body.bind (nZ · 4))).getD #[]
def aaL:List (Op×Option Nat×a9):=[(Op.load 164 (Z0 2),ZV 31,[]),
 (Op.nilCheck (Z0 31),ZV 32,[0]),
 (Op.fieldAddr 217 (Z0 32) 0,ZV 33,[1]),
 (Op.load 106 (Z0 33),ZV 34,[2]),
 (Op.move (Z0 4),ZV 35,[]),
 (Op.load 164 (Z0 2),ZV 36,[]),
 (Op.nilCheck (Z0 36),ZV 37,[5]),
 (Op.fieldAddr 217 (Z0 37) 1,ZV 38,[6]),
 (Op.load 3 (Z0 38),ZV 39,[7]),
 (Op.call { callee:=Callee.value (Operand.func 96),args:=#[Z0 34,Z0 35,Z0 39],argTypes:=#[106,3,3] },ZV 40,[3,4,8]),
 (Op.move (Z0 40),ZV 30,[9]),
 (Op.extract (Z0 30) 0,ZV 41,[10]),
 (Op.extract (Z0 30) 1,ZV 42,[10]),
 (Op.assign (Z0 41),ZV 5,[11,9,0,1,2,3,4,5,6,7,8,9,10,11]),
 (Op.assign (Z0 42),ZV 6,[12,13,0,1,2,3,4,5,6,7,8,9,10,11,12,13])]
def GV:aL RF4 5 43 aaL:=bj ei ei
def aaM (r v x b:Nat) (Xv Yv:ZR):List ZR:=[Z6 (ZV ⟨r,0,ZW⟩),Z6 (ZV ⟨r,0,ZW⟩),Z6 (ZV ⟨r,0,ZW⟩),Z6 (ZV ⟨v,0,ZW⟩),Z7 Z9 x,Z6 (ZV ⟨r,0,ZW⟩),Z6 (ZV ⟨r,0,ZW⟩),Z6 (ZV ⟨r,1,ZW⟩),Z7 Z9 b,ZY #[Xv,Yv],ZY #[Xv,Yv],Xv,Yv,Xv,Yv]
noncomputable def RF8:Array ZO:=((Tryz.f126.body.bind (nZ · 8))).getD #[]
def PH:List (Op×Option Nat×a9):=[(Op.load 164 (Z0 2),ZV 47,[]),
 (Op.nilCheck (Z0 47),ZV 48,[0]),
 (Op.fieldAddr 217 (Z0 48) 2,ZV 49,[1]),
 (Op.load 176 (Z0 49),ZV 50,[2]),
 (Op.move (Z0 4),ZV 51,[]),
 (Op.fieldAddr 233 (Z0 7) 0,ZV 52,[]),
 (Op.slice 231 (Z0 52) ZW ZW ZW,ZV 53,[5]),
 (Op.indexAddr 176 (Z0 50) (Z0 51),ZV 54,[3,4,0,1,2,3,4,5,6]),
 (Op.store 31 (Z0 54) (Z0 53),ZW,[7,6,0,1,2,3,4,5,6])]
def GW:aL RF8 47 55 PH:=bj ei ei
def Ky (r g N x q7:Nat):List ZR:=[Z6 (ZV ⟨r,0,ZW⟩),Z6 (ZV ⟨r,0,ZW⟩),Z6 (ZV ⟨r,2,ZW⟩),Z5 (ZV ⟨g,0,ZW⟩) N N,Z7 Z9 x,Z6 (ZV ⟨q7,0,ZW⟩),Z5 (ZV ⟨q7,0,ZW⟩) 44 44,Z6 (ZV ⟨g,x,ZW⟩),ZX]
theorem vT {l:Nat} {f:Nat->ZR} (K:Boxed w q 164 (Z6 (ZV ⟨r,0,ZW⟩))) (T:cP w r v b g N gone sp) (C:w.rowIs g 31 N f) (x:Nat) (V:x<N) (P:q≠g) (R:r≠g) (L:RF8=ops) (Y:a.tmps.size=100)
 (G:a.eval (Z0 2)=Z6 (ZV ⟨q,0,ZW⟩)) (H:a.eval (Z0 4)=Z7 Z9 x) (I:a.eval (Z0 7)=Z6 (ZV ⟨q7,0,ZW⟩))
 (O:∀ (w':ZS),w'=w.drew.setCell ⟨g,x,ZW⟩ (Z5 (ZV ⟨q7,0,ZW⟩) 44 44)->Q .normal (Act.RL a 47 [Z6 (ZV ⟨r,0,ZW⟩),Z6 (ZV ⟨r,0,ZW⟩),Z6 (ZV ⟨r,2,ZW⟩),Z5 (ZV ⟨g,0,ZW⟩) N N,Z7 Z9 x,Z6 (ZV ⟨q7,0,ZW⟩),Z5 (ZV ⟨q7,0,ZW⟩) 44 44,Z6 (ZV ⟨g,x,ZW⟩)]) w'):(Code.region 8 ops ZU).wpIn (Fence.wide.inRound l) n ZL Q a w:=by
 subst L;obtain ⟨_,_,D,_,_⟩:=T.cells;have F:=K.cell;have E:=C.cell (i:=x) V;have J:=C.frozen x;refine bu ei GW a w eb (λi u _=>u=(Ky r g N x q7).getD i ZX) (Nq w g x q7) rfl ?_ ?_
 . intro i A;match i,A with
   | 0,_=>
    intro o k w' Dn z ho p s t y m j d;have u0:k.eval (Z0 2)=Z6 (ZV ⟨q,0,ZW⟩):=(s.slot 2 eb).trans G;have B:w'.cell? ⟨q,0,ZW⟩=ZV (Z6 (ZV ⟨r,0,ZW⟩)):=Bi j P F;exact ak (v:=Z6 (ZV ⟨r,0,ZW⟩)) ee ej p ⟨mM j 0 ec,rfl,kq⟩
   | 1,_|2,_|6,_=>
    intro o k w' Dn z ho p s t y m j d;have u0:=d _ (m _ (.head _));simp only [PH,Ky,bT,dy,wK,wJ] at ho u0;exact ak (by simp only [execOp,ho,u0,Ky,wK,wJ];go_simp) ej p ⟨mM j _ ec,rfl,kq⟩
   | 7,_=>
    intro o k w' Dn z ho p s t y m j d;have u0:=d _ (m _ (.head _));have u1:=d _ (m _ (.tail _ (.head _)));simp only [PH,Ky,bT,dy,wK,wJ] at ho u0 u1;exact ak (by simp only [execOp,ho,u0,u1,Ky,wK,wJ];go_simp) ej p ⟨mM j _ ec,rfl,kq⟩
   | 3,_=>
    intro o k w' Dn z ho p s t y m j d;have u0:k.eval (Z0 49)=Z6 (ZV ⟨r,2,ZW⟩):=d 2 (m 2 ec);have B:w'.cell? ⟨r,2,ZW⟩=ZV (Z5 (ZV ⟨g,0,ZW⟩) N N):=Bi j R D;exact ak (v:=Z5 (ZV ⟨g,0,ZW⟩) N N) ee ej p ⟨mM j 3 ec,rfl,kq⟩
   | 4,_=>
    intro o k w' Dn z ho p s t y m j d;have u0:k.eval (Z0 4)=Z7 Z9 x:=(s.slot 4 eb).trans H;exact ak (ah ho u0 w') ej p ⟨mM j 4 ec,rfl,kq⟩
   | 5,_=>
    intro o k w' Dn z ho p s t y m j d;have u0:k.eval (Z0 7)=Z6 (ZV ⟨q7,0,ZW⟩):=(s.slot 7 eb).trans I;exact ak (v:=Z6 (ZV ⟨q7,0,ZW⟩)) ee ej p ⟨mM j 5 ec,rfl,kq⟩
   | 8,_=>
    intro o k w' Dn z ho p s t y m j d;have u0:k.eval (Z0 54)=Z6 (ZV ⟨g,x,ZW⟩):=d 7 (m 7 ec);have u1:k.eval (Z0 53)=Z5 (ZV ⟨q7,0,ZW⟩) 44 44:=d 6 (m 6 ec);have U:w'=w.drew:=(by have:=j;unfold Nq at this;rw [if_neg abF] at this;exact this);subst U;have B:w.drew.cell? ⟨g,x,ZW⟩=ZV (f x):=E;have W:w.drew.frozen? ⟨g,x,ZW⟩=ZT:=J;exact jD (w':=w.drew.setCell ⟨g,x,ZW⟩ (Z5 (ZV ⟨q7,0,ZW⟩) 44 44)) ua ej ⟨by unfold Nq;rw [if_pos ku],rfl,kq⟩
   | n+9,hn=>exact absurd hn (by show ¬ n+9<9;omega)
 . rintro k w' S X ⟨Dn,M,j⟩ d;have e:k=Act.RL a 47 [Z6 (ZV ⟨r,0,ZW⟩),Z6 (ZV ⟨r,0,ZW⟩),Z6 (ZV ⟨r,2,ZW⟩),Z5 (ZV ⟨g,0,ZW⟩) N N,Z7 Z9 x,Z6 (ZV ⟨q7,0,ZW⟩),Z5 (ZV ⟨q7,0,ZW⟩) 44 44,Z6 (ZV ⟨g,x,ZW⟩)]:=S.out _ rfl eb (λi A=>?_)
   . rw [e];exact O w' (by unfold Nq at j;rw [if_pos (M 8 ec)] at j;exact j)
   . match i,A with
     | 0,_=>exact d 0 ec
     | 1,_=>exact d 1 ec
     | 2,_=>exact d 2 ec
     | 3,_=>exact d 3 ec
     | 4,_=>exact d 4 ec
     | 5,_=>exact d 5 ec
     | 6,_=>exact d 6 ec
     | 7,_=>exact d 7 ec
     | n+8,hn=>exact absurd hn ek
def Bk (P:List St):Nat:=P.foldl (λs t=>if t.k=0 then s|||2^t.b.toNat else s) 0
def Bm (P:List St) (t:St):Bk (P++[t])=if t.k=0 then Bk P|||2^t.b.toNat else Bk P:=by unfold Bk;rw [V3];rfl
def Kz {P:List St} (a:k<P.length):Bk (P.take (k+1))=if P[k].k=0 then Bk (P.take k)|||2^P[k].b.toNat else Bk (P.take k):=by
 rw [Vd,T2 a,YM,Bm]
theorem oQ (P:List St) (i:Nat):(Bk P).testBit i=ZU↔∃ s∈P,s.k=0/\s.b.toNat=i:=by
 obtain ⟨Q,rfl⟩:∃ Q,P=Q.reverse:=⟨P.reverse,ek⟩;induction Q with
 | nil=>simp [Bk]
 | cons t Q ih=>
  rw [List.reverse_cons,Bm];by_cases h:t.k=0
  . rw [if_pos h,VA,Xz,Bool.or_eq_true,ih,decide_eq_true_eq];constructor
    . rintro (⟨s,a,c⟩|a)
      . exact ⟨s,UN _ a,c⟩
      . exact ⟨t,ek,h,a⟩
    . rintro ⟨s,a,c,d⟩;rcases Ub.1 a with q|q
      . exact .inl ⟨s,q,c,d⟩
      . rw [U9] at q;exact .inr (by rw [<- q];exact d)
  . rw [if_neg h,ih];constructor
    . rintro ⟨s,a,c⟩;exact ⟨s,UN _ a,c⟩
    . rintro ⟨s,a,c⟩;rcases Ub.1 a with q|q
      . exact ⟨s,q,c⟩
      . rw [U9] at q;exact absurd (q▸c.1) h
def KA {P:List St} (h:∀ s∈P,s.k=0->s.b.toNat<16):Bk P<65536:=by
 refine Nat.lt_pow_two_of_testBit (n:=16) _ λi e=>?_;cases hb:(Bk P).testBit i
 . rfl
 . obtain ⟨s,a,c,d⟩:=(oQ P i).1 hb;have:=h s a c;omega
def LoR (w:ZS) (P:List St) (lv iv:ZR) (wr:ZS):Prop:=∃ k:Nat,k<=P.length/\iv=Z7 Z9 k/\lv=Z7 Z8 (Bk (P.take k):Nat)/\bW w wr
theorem GX (regs:Int) {v:ZR} {P:List St} {w:ZS} (h:Ps .u8 w v P) (t:∀ s∈P,s.k=0->0<=s.b/\s.b<16) (L:P.length<=5000) :
 ZQ ZL 149 #[.agg #[Z7 Z9 regs,v]] w λe w'=>e=Z3 (Z7 Z8 (Bk P:Nat))/\bW w w':=by
 obtain ⟨ao,c,rfl⟩:=h.slice;have m:bW w (w.alloc (Z4 #[Z7 Z9 regs,.slice ao P.length c] 189)):=bA w _;have n:(w.alloc (Z4 #[Z7 Z9 regs,.slice ao P.length c] 189)).heap[w.heap.size]?=ZV (Z4 #[Z7 Z9 regs,.slice ao P.length c] 189 (0,0)):=T9 _ _;obtain ⟨w1,r⟩:=nM (w.alloc (Z4 #[Z7 Z9 regs,.slice ao P.length c] 189));rw [r] at m n;have k1:w1.cell? ⟨w.heap.size,1,ZW⟩=ZV (.slice ao P.length c):=by simp [World.cell?,n]
 have H:=aE m h t;clear m n h t;go_enter func149,ntmps149;go_wp2;go_loopw [3,9] (λE o wr=>LoR w P E o wr) (λ_ o _=>P.length-(intOf o).toNat)
 case atStart=>exact ⟨0,T3 _,rfl,rfl,H.out.1⟩
 case round=>
  clear k1 r;rename ZS=>wo;obtain ⟨k,K,rfl,rfl,d⟩:=hrel;by_cases j:k<P.length
  . rcases (H.out.2.1.mono d).cases with ⟨rfl,_⟩|⟨b,off,F,e,_,u⟩
    . simp at j
    simp at e;obtain ⟨rfl,rfl⟩:=e;obtain ⟨G,d1,I,J⟩:=u k j;have q:=d.alloc d.size (Z4 #[Z7 .u8 P[k].k,Z7 Z9 P[k].a,Z7 Z9 P[k].b,Z7 .u8 P[k].c] 288);have i:=al (Kz j);have y:=al (H.out.2.2 _ (T4 j));have A:=al (KA (P:=P.take k) (λs D z=>eT (H.out.2.2 s (US D) z)));have g:=al q;clear u d q;generalize P[k].k=p at *;generalize P[k].b=sb at *;by_cases f:p=0
    . have tk:((p:Int)==0)=ZU:=(by simp [f]);have M:=y.out f;have ht:=i.out;rw [if_pos f] at ht;have l:=al ht;clear f ht i;obtain ⟨x,rfl⟩:∃ x:Nat,sb=(x:Int):=⟨sb.toNat,eb⟩;go_wp2_with fail;refine (iM (Bk (P.take k)) x (eT A.out) eb _).mono ?_;rintro e N ⟨rfl,C⟩;subst C;go_wp2;go_roundw
      case rel=>exact ⟨k+1,eb,e8,by rw [l.out,VO],g.out⟩
      case measure=>simp [intOf]<;>omega
    . have tk:((p:Int)==0)=ZT:=en;have ht:=i.out;rw [if_neg f] at ht;have l:=al ht;clear f ht i;go_wp2;go_roundw
      case rel=>exact ⟨k+1,eb,e8,by rw [l.out],g.out⟩
      case measure=>simp [intOf]<;>omega
  . have B:k=P.length:=eb;subst B;rw [VE];have g:=al d;clear d;go_wp2;go_ret;exact ⟨rfl,g.out⟩
def qu:List (Int×Nat×Nat×a9)->List ZR
 | []=>[]
 | q::O=>[Z7 Z9 q.1,jT q.2]++qu O
def rq:∀ O a,qu (O++a)=qu O++qu a
 | [],_=>rfl
 | q::O,a=>by simp [qu,rq O a]
def Ft:∀ (O:List (Int×Nat×Nat×a9)) (i:Nat) (a:i<O.length),(qu O)[i*2]?=ZV (Z7 Z9 O[i].1)/\(qu O)[i*2+1]?=ZV (jT O[i].2)
 | q::O,0,_=>by simp [qu]
 | q::O,i+1,a=>by
  have:=Ft O i (vE a);have b:(i+1)*2=i*2+2:=eb
  have c:(i+1)*2+1=i*2+1+2:=eb
  simp only [qu,X8];refine ⟨?_,?_⟩
  . rw [b];simpa using this.1
  . rw [c];simpa using this.2
structure m9 (t:ZN) (w:ZS) (base:Nat) (v:ZR) (O:List (Int×Nat×Nat×a9)):Prop where
 own:w.ownsRow base t 2 v O.length (qu O)
 row:∀ q∈O,base<=q.2.1/\aM w q.2.1 q.2.2.2/\q.2.2.1<=q.2.2.2.length/\(q.2.2.1<=140737488355328/\q.2.2.2.length<=9223372036854775807)/\∀ x∈q.2.2.2,x<256
 nodup:(O.map (λq=>q.2.1)).Nodup
def m9.nil (t:ZN) (w:ZS) (base:Nat):m9 t w base (Z5 ZW 0 0) []:=⟨UB _ _ _ _,λq a=>ZH,ek⟩
def m9.below {t:ZN} {v:ZR} (h:m9 t w base v O) (d:bW w w'):m9 t w' base v O:=
 ⟨aB h.own d,λq e=>by obtain ⟨a,b,c⟩:=h.row q e;exact ⟨a,b.below d,c⟩,h.nodup⟩
def m9.cases {t:ZN} {v:ZR} (h:m9 t w base v O):(O=[]/\v=Z5 ZW 0 0)\/∃ g cap,v=Z5 (ZV ⟨g,0,ZW⟩) O.length cap/\∀ i (b:i<O.length),w.cell? ⟨g,i*2,ZW⟩=ZV (Z7 Z9 O[i].1)/\w.cell? ⟨g,i*2+1,ZW⟩=ZV (jT O[i].2):=by
 rcases h.own.2 with ⟨c,d⟩|⟨g,cap,cur,a,_⟩
 . exact .inl ⟨UK d,c⟩
 . refine .inr ⟨g,cap,a,λi b=>?_⟩;have ho:=h.own;rw [a] at ho;obtain ⟨e,f⟩:=Ft O i b;exact ⟨by rw [ho.cellAt (i*2) eb];exact e,by rw [ho.cellAt (i*2+1) eb];exact f⟩
def DW (k n:Nat):eZ (k+1) n=eZ k n++[YD n 0]:=by
 unfold eZ;rw [List.replicate_succ']
def MkR (w:ZS) (B g r n:Nat) (i:ZR) (wr:ZS):Prop:=
 ∃ k T,k<=r/\i=Z7 Z9 (k:Nat)/\oM wr B g r T/\cO T n (eZ k n)/\Below B w wr/\B<=wr.heap.size
def PI (r n:Nat) (w:ZS) (e:Ending) (w':ZS):Prop:=∃ g T,e=Z3 (Z5 (ZV ⟨g,0,ZW⟩) r r)/\iU w' w.heap.size (Z5 (ZV ⟨g,0,ZW⟩) r r) T/\cO T n (eZ r n)/\bW w w'
theorem qw (h:cO T D M):T.length=M.length:=vE (congrArg YJ h)
theorem zC (r n:Nat) (w:ZS) (M:r<=32) (L:n<=4096) :
 ZQ ZL 175 #[Z7 Z9 r,Z7 Z9 n] w λe w'=>PI r n w e w':=by
 go_enter func175,ntmps175;go_wp2_with (at_make;refine nr _ rfl (Z0 7) (Z0 7) rfl _ r rfl rfl rfl eb ?_;intro wc j f G;clear G);have m:oM wc w.heap.size w.heap.size r []:=⟨j.congr (λi _=>by simp [shv]),λp h=>by simp at h,ek⟩;have u:=f.size;clear j;go_loopw [11] (λi wr=>MkR w w.heap.size w.heap.size r n i wr) (λi _=>r-(intOf i).toNat)
 case atStart=>exact ⟨0,[],T3 _,rfl,m,rfl,f,u⟩
 case round=>
  clear m f u;rename ZS=>wo;obtain ⟨k,T,K,rfl,g,a,t,E⟩:=hrel;have q:=qw a;have A:T.length=k:=by rw [q];simp [eZ]
  by_cases D:k<r
  . have c:=al a;clear a q
    go_wp2_with (at_make;refine eo _ rfl (Z0 16) (Z0 16) rfl _ n rfl rfl rfl eb ?_;intro w2 B s J
                 have d:=g.below s;have H:=d.RZ.cell (i:=k) D;have I:=d.RZ.frozen k)
    have o:=d.push (b:=wo.heap.size) (n:=n) (l:=YD n 0) eb B ek en (by intro x F;have:=Vn F;omega) (λp h e=>eT ((g.row p h).2.1.lt));rw [A,Yx] at o;refine ⟨⟨k+1,_,eb,e8,o,?_,(t.trans (s.mono E)).setCell ek _,en⟩,e9⟩;have y:=c.out;unfold cO at y ⊢;rw [DW,Uu,Uu,y];rfl
  . have C:k=r:=eb;subst C;have v:=g.done eb lR eD;have z:=al v;have c:=al a;clear v a;go_wp2;go_ret;exact ⟨_,T,rfl,z.out,c.out,t⟩
def KB (w:ZS) (f:ZN) (g n cap:Nat) (old src:a9) (ao:Option ZP) (c:Nat) (d:aM w g old) (A:Bs w (.slice ao src.length c) src) (C:src.length=n) (ho:old.length=n) :
 ∃ w',(Builtin.copy_ #[31,31] f #[Z5 (ZV ⟨g,0,ZW⟩) n cap,.slice ao src.length c]).run ZL w=.ok (Z7 Z9 (n:Nat)) w'/\aM w' g src/\w.grownBy w' (ZV g):=by
 subst C;have o:(ZL.info? 5).map (λi=>i.size)=ZV 1:=ei
 by_cases a:src.length=0
 . have z:src=[]:=UK a;have y:old=[]:=UK eb;subst z y;exact ⟨w,run_copy_none (P:=ZL) w 31 31 f 5 (ZV ⟨g,0,ZW⟩) ao 0 cap 0 c Ui o ek,d,Wh _ _⟩
 . obtain ⟨r,D,e,_,_,F,t⟩:=A;simp at e;obtain ⟨b,off,h,B⟩:=t Zx;rw [<- e.1] at h;subst h;have l:=run_copy_row (P:=ZL) w 31 31 f 5 g 0 src.length cap ⟨b,off,ZW⟩ src.length c _ 5 (bv src) Ui o d.heap (by simp [bv]) (λj v p=>by
    have m:j<src.length:=by
     obtain ⟨q,_⟩:=UT.1 p;simpa [bv] using q
    rw [Vj,B j m,<- p];simp [bv,m]) (by simp [bv];omega) (by intro v hv;simp [bv] at hv;obtain ⟨x,_,rfl⟩:=hv;rfl)
   have s:(YF 0 (List.map (λx=>Value.int .u8 ((x:Nat):Int)) old).toArray.toList++bv src++YL (0+(bv src).length) (List.map (λx=>Value.int .u8 ((x:Nat):Int)) old).toArray.toList)=src.map (λx=>Value.int .u8 ((x:Nat):Int)):=by
    simp [bv];omega
   rw [s] at l;refine ⟨w.setRow g (src.map (λx=>Value.int .u8 ((x:Nat):Int))).toArray,by rw [l];simp [bv,goInt],?_,?_⟩
   . exact aM.of_heap (U3 w g (old.map (λx=>Value.int .u8 ((x:Nat):Int))).toArray (src.map (λx=>Value.int .u8 ((x:Nat):Int))).toArray 5 _ d.heap)
   . refine ⟨rfl,rfl,rfl,B2,λk E u=>setRow_other w g k _ (λe=>u Zc)⟩
def GY {K:Act->ZS->Prop} {E:Prop} (b:o.guard=ZW) (d s:ZM) (ho:o.op=.call { callee:=.builtin .copy,args:=#[d,s],argTypes:=#[31,31] })
 (vd vs v':ZR) (hd:a.eval d=vd) (hs:a.eval s=vs) (h0:(Builtin.copy_ #[31,31] o.type #[vd,vs]).run ZL w=.ok v' w') (h:K (a.put o.dst v') w'):if Region.wanted o (yielded ops a.tmps)=ZU then Oper.wp ZL o a w K Q else E:=by
 rw [if_pos (by simp [Region.wanted,b])];unfold Oper.wp;simp [execOp,ho,resolve,invoke,builtin,hd,hs,h0,Result.andThen];exact h
def zD {v:ZR} (h:w.ownsRow base 270 2 v n xs) {b:Nat} {l:a9} (i:aM w b l):v.ownBlock≠ZV b:=by
 intro e;rcases h.2 with ⟨f,_⟩|⟨g,cap,cur,d,k,a,_⟩
 . rw [f] at e;simp [Value.ownBlock] at e
 . rw [d] at e;simp [Value.ownBlock] at e;subst e;obtain ⟨c,j,_⟩:=i;rw [j] at a;simp at a
def m9.aside {v:ZR} (h:m9 270 w base v O) (j:aM w b l) (f:w.grownBy w' (ZV b)) (i:∀ q∈O,q.2.1≠b):m9 270 w' base v O:=
 ⟨h.own.kept f (.inr (zD h.own j)),λq g=>by
  obtain ⟨a,c,d⟩:=h.row q g;exact ⟨a,c.grown f (by intro e;simp at e;exact i q g e),d⟩,h.nodup⟩
def GZ (h:cO T n R) (i:Nat) (b:i<T.length) (l:a9):cO (T.set i (T[i].1,T[i].2.1,l)) n (R.set i l):=by
 have:=qw h;have a:=h.at b eb;unfold cO at *;rw [List.map_set,List.map_set,h,a]
section
def tG (x y:a9) (c:Nat):(iJ x y c).length=x.length:=by simp [iJ]
def G0 {x y:a9} (e:∀ a∈x,a<256) (d:c<256):∀ a∈iJ x y c,a<256:=by
 intro a b;simp only [iJ,T1,Uq] at b;obtain ⟨j,_,rfl⟩:=b;exact WA (n:=8) (bh e j) (bD _ d)
theorem zE (b d n c:Nat) (x y:a9) (w:ZS) (p:c<256) (r:aM w b x) (s:aM w d y) (f:x.length=n) (t:y.length=n) (l:d≠b) (m:∀ a∈x,a<256) (o:∀ a∈y,a<256) (z:n<=100000) :
 ZQ ZL 164 #[Z5 (ZV ⟨b,0,ZW⟩) n n,Z5 (ZV ⟨d,0,ZW⟩) n n,Z7 .u8 c] w λe w'=>e=Z3 (ZY #[])/\aM w' b (iJ x y c)/\w.grownBy w' (ZV b):=by
 have q:w.rowIs b 5 n (tv (λi=>x.getD i 0)):=by
  have:=r;unfold aM at this;rw [f] at this;exact this
 refine (jq b 5 n 0 n n d 0 n c (λi=>x.getD i 0) (λi=>y.getD i 0) w p q (λj=>bh m j) (λj=>bh o j) eb eb (λi u=>by rw [Uc];exact s.cell i eb) (.inl l)).mono ?_;rintro e w' ⟨rfl,g,h⟩;refine ⟨rfl,?_,h⟩;unfold aM;rw [tG,f];refine g.congr λj v=>?_;have k:j<x.length:=eb
 unfold tv vb gW iJ;rw [if_pos eb];simp [k]
structure Rn (w0:ZS) (B:Nat) (P:List St) (D R0:List a9) (n r gR k:Nat) (vO:ZR) (T:List (Nat×Nat×a9)) (O:List (Int×Nat×Nat×a9)) (wr:ZS):Prop where
 RZ:iU wr B (Z5 (ZV ⟨gR,0,ZW⟩) r r) T
 hold:cO T n (bU P D R0 k)
 len:∀ l∈bU P D R0 k,l.length=n
 outs:m9 270 wr B vO O
 vals:O.map (λq=>(q.1,q.2.2.2.take q.2.2.1))=dM P D R0 k
 apart:∀ p∈T,∀ q∈O,p.1≠q.2.1
 below:Below B w0 wr
 size:B<=wr.heap.size
variable {w0:ZS} {B:Nat} {P:List St} {D R0:List a9} {n r gR k:Nat} {vO:ZR} {T:List (Nat×Nat×a9)} {O:List (Int×Nat×Nat×a9)} {w:ZS}
def Rn.next (h:Rn w0 B P D R0 n r gR k vO T O w) {w':ZS} (a:bW w w'):Rn w0 B P D R0 n r gR k vO T O w':=
 ⟨h.RZ.below a,h.hold,h.len,h.outs.below a,h.vals,h.apart,h.below.trans (a.mono h.size),TU h.size a.size⟩
def Rn.tlen (h:Rn w0 B P D R0 n r gR k vO T O w):T.length=r:=by
 rcases h.RZ.shape with ⟨e,_⟩|⟨g,cap,e,_⟩
 . simp at e
 . simp at e;omega
def Rn.reg (h:Rn w0 B P D R0 n r gR k vO T O w) (A:Nat) (C:A<r):∃ g,(∃ a:A<T.length,T[A]=(g,n,(bU P D R0 k).getD A []))/\w.cell? ⟨gR,A,ZW⟩=ZV (Z5 (ZV ⟨g,0,ZW⟩) n n)/\aM w g ((bU P D R0 k).getD A [])/\((bU P D R0 k).getD A []).length=n/\(∀ x∈(bU P D R0 k).getD A [],x<256)/\g≠gR/\B<=g/\g<w.heap.size/\gR<w.heap.size/\B<=gR:=by
 have:=h.tlen;have a:A<T.length:=eb
 have:=qw h.hold;have c:A<(bU P D R0 k).length:=eb
 have d:=h.hold.at a c;have o:(bU P D R0 k).getD A []=(bU P D R0 k)[A]:=ZB
 have l:=h.len _ (T4 c);obtain ⟨m,b,y,z,i⟩:=h.RZ.row _ (T4 a);rw [o];have p:T[A]=(T[A].1,n,(bU P D R0 k)[A]):=by rw [<- d]
 have j:T[A].2.2=(bU P D R0 k)[A]:=by rw [d]
 have q:T[A].2.1=n:=by rw [d]
 rcases h.RZ.shape with ⟨e,_⟩|⟨g,cap,e,v,_,_,s,u,_,t⟩
 . simp at e
 . simp at e;obtain ⟨rfl,_⟩:=e;have f:=u A a;unfold jT at f;rw [j,q,l] at f;rw [j] at b i;exact ⟨T[A].1,⟨a,p⟩,f,b,l,i,t _ (T4 a),m,b.lt,s,v⟩
def Rn.write (h:Rn w0 B P D R0 n r gR k vO T O w) {w':ZS} {A g:Nat} {l0 src:a9} (s:∃ s:A<T.length,T[A]=(g,n,l0)) (E:l0.length=n) (b:w.grownBy w' (ZV g)) (y:aM w' g src) (z:src.length=n) (C:∀ x∈src,x<256)
 (t:bU P D R0 (k+1)=(bU P D R0 k).set A src) (ho:dM P D R0 (k+1)=dM P D R0 k):∃ T',Rn w0 B P D R0 n r gR (k+1) vO T' O w':=by
 obtain ⟨f,e⟩:=s;have d:=T4 f;obtain ⟨m,o,_⟩:=h.RZ.row _ d;have a:T[A].1=g:=Zc
 have v:T[A].2.2=l0:=Zc
 rw [a] at m o;refine ⟨T.set A (T[A].1,T[A].2.1,src),?_,?_,?_,?_,?_,?_,?_,?_⟩
 . exact h.RZ.wrote f (by rw [a];exact b) (by rw [a];exact y) (by rw [v];omega) C
 . rw [t];exact GZ h.hold A f src
 . rw [t];intro l i;rcases XE i with i|rfl
   . exact h.len l i
   . exact z
 . exact h.outs.aside o b (λq c u=>h.apart _ d q c (by rw [a,u]))
 . rw [ho];exact h.vals
 . intro p j q c;rcases XE j with j|rfl
   . exact h.apart p j q c
   . exact h.apart _ d q c
 . exact iX h.below b h.size m
 . exact TU h.size b.size
def Rn.reg_ne (h:Rn w0 B P D R0 n r gR k vO T O w) {A X g d:Nat} {l p:a9} (c:∃ c:A<T.length,T[A]=(g,n,l)) (a:∃ c:X<T.length,T[X]=(d,n,p)) (o:A≠X):d≠g:=by
 obtain ⟨f,e⟩:=c;obtain ⟨a,m⟩:=a;have i:=Wg.1 h.RZ.nodup;intro q;have j:T[A].1=T[X].1:=by rw [e,m];exact q.symm
 rcases Nat.lt_or_gt_of_ne o with b|b
 . exact i A X (vE f) (vE a) b (vE j)
 . exact i X A (vE a) (vE f) b (vE j.symm)
def tH {B':Nat} {m:Nat} {ys:List ZR} {vO:ZR} (h:w.ownsRow B 31 1 (Z5 (ZV ⟨g,0,ZW⟩) c m) n xs) {n':Nat} (k:w.ownsRow B' 270 2 vO n' ys):vO.ownBlock≠ZV g:=by
 intro e;rcases h.2 with ⟨a,_⟩|⟨g1,cap,cur,f,l,j,_⟩
 . simp at a
 . simp at f;obtain ⟨rfl,_⟩:=f;rcases k.2 with ⟨a,_⟩|⟨p,b,d,f1,o,i,_⟩
   . rw [a] at e;simp [Value.ownBlock] at e
   . rw [f1] at e;simp [Value.ownBlock] at e;subst e;rw [j] at i;simp at i
theorem xA (P:List St) (D R0:List a9):∀ k,(dM P D R0 k).length<=k
 | 0=>TV _
 | k+1=>by
  have:=xA P D R0 k;unfold dM im;split<;>simp<;>omega
theorem Rn.olen (h:Rn w0 B P D R0 n r gR k vO T O w):O.length<=k:=by
 have:=congrArg YJ h.vals;rw [TZ] at this;rw [this];exact xA P D R0 k
def Rn.put (h:Rn w0 B P D R0 n r gR k vO T O w) {w1 y:ZS} {o:Obj} {b m:Nat} {l:a9} {sh:Int} {vO':ZR} (H:bW w w1) (J:w.heap.size<=b) (F:aM w1 b (l++YD m 0)) (v:l.length=n) (L:n<=100000) (K:n+m<=9223372036854775807) (I:∀ x∈l,x<256)
 (g:(w1.alloc o).grownBy y vO.ownBlock) (E:y.ownsRow B 270 2 vO' (O.length+1) (qu O++[Z7 Z9 sh,Z5 (ZV ⟨b,0,ZW⟩) n (n+m)]))
 (C:bU P D R0 (k+1)=bU P D R0 k) (ho:dM P D R0 (k+1)=dM P D R0 k++[(sh,l)]):Rn w0 B P D R0 n r gR (k+1) vO' T (O++[(sh,b,n,l++YD m 0)]) y:=by
 have f:=(h.next H).next ((TX w1.heap.size w1).alloc lR o);have:=h.size;have hll:(l++YD m 0).length=n+m:=by simp [v]
 have z:=F.alloc o;refine ⟨?_,by rw [C];exact h.hold,by rw [C];exact h.len,?_,?_,?_,?_,?_⟩
 . refine ⟨f.RZ.own.kept g (.inr λe=>?_),λp s=>?_,f.RZ.nodup⟩
   . exact tH f.RZ.own f.outs.own (by rw [<- e];rfl)
   . obtain ⟨t,i,u⟩:=f.RZ.row p s;exact ⟨t,i.grown g (λe=>zD f.outs.own i e.symm),u⟩
 . refine ⟨?_,λq d=>?_,?_⟩
   . rw [rq];simpa [qu,jT,hll,v] using E
   . rcases Ub.1 d with d|d
     . obtain ⟨t,i,u⟩:=f.outs.row q d;exact ⟨t,i.grown g (λe=>zD f.outs.own i e.symm),u⟩
     . simp at d;subst d;refine ⟨by show B<=b;omega,z.grown g (λe=>zD f.outs.own z e.symm),by show n<=(l++YD m 0).length;omega,⟨by show n<=140737488355328;omega,by show (l++YD m 0).length<=9223372036854775807;omega⟩,?_⟩;intro x j;rcases Ub.1 j with j|j
       . exact I x j
       . have:=Vn j;omega
   . rw [Uu,Vc];refine ⟨h.outs.nodup,ek,?_⟩;intro a G c A;obtain ⟨q,d,rfl⟩:=T1.1 G;simp at A;subst A;have:=(h.outs.row q d).2.1.lt;omega
 . rw [ho,Uu,h.vals];simp [<- v]
 . intro p s q d;rcases Ub.1 d with d|d
   . exact h.apart p s q d
   . simp at d;subst d;have:=(h.RZ.row p s).2.1.lt;show p.1≠b;omega
 . exact f.below.grown g f.size (λq d=>(f.outs.own.lt q d).1)
 . exact TU f.size g.size
end
def tI (a:∀ x∈l,x<256) (i:Nat):l.getD i 0<256:=by
 rw [T6];cases h:l[i]? with
 | none=>decide
 | some x=>exact a x (List.mem_of_getElem? h)
theorem KC (e:l.length=64) (b:∀ x∈l,x<256):(Dq l).ok:=by
 have c:∀ n,dh ((l.drop n).take 4)<4294967296:=λn=>by
  have a:=wI ((l.drop n).take 4) KP (λx h=>b x (UV (US h)));have d:((l.drop n).take 4).length<=4:=KP
  exact TY a (TU (Vm ec d) ec)
 have a:∀ n,dh [l.getD n 0]<256:=λn=>by rw [M1 _ (tI b n)];exact tI b n
 unfold Dq;split
 . exact ⟨a _,a _,a _,O5 _,c _,c _⟩
 . split
   . trivial
   . split
     . exact ⟨by rw [Ue,e],λx h=>b x (UV h)⟩
     . trivial
def qA {r:bx} (h:r.ok):oI r:=by
 cases r with
 | blank=>exact A3
 | root D L G t f n=>exact tj h
 | filled=>exact oJ
 | shard l=>exact rm h
def MR (l:a9):Option bx:=if (Dq l).blk=l then ZV (Dq l) else ZW
def ofV:Option bx->ZR
 | some r=>ZY #[bm r,Z1 ZU]
 | none=>ZY #[.nilIface,Z1 ZT]
theorem DX (a:l.length=64) (b:∀ x∈l,x<256) {r:bx} (h:MR l=ZV r):r.ok/\r.blk=l:=by
 unfold MR at h;split at h
 . next e=>cases h;exact ⟨KC a b,e⟩
 . cases h
theorem PJ (l:a9) (w:ZS) (f:l.length=64) (o:∀ x∈l,x<256) (hv:aY w) :
 ZQ ZL 133 #[.agg (aw l)] w λe w'=>e=Z3 (ofV (MR l))/\bW w w':=by
 have n:=KC f o;have A:=qA n;have m:=aS.new w l;have i:bW w (w.alloc (Z4 (aw l) 40)):=bA w _;obtain ⟨w1,B⟩:=nM (w.alloc (Z4 (aw l) 40));rw [B] at m i;have d:=GH l w1 f o;obtain ⟨r,j⟩:=nM (Dq l);have z:MR l=if r.blk=l then ZV r else ZW:=by unfold MR;rw [j]
 rw [j] at d A n;obtain ⟨rv,k⟩:=nM (bm r);rw [k] at d;have a:=au k z;have b:=au m i;clear o m i k z j;go_enter func133,ntmps133;go_wp2_with (refine mD rfl (Z0 1) rfl w.heap.size l rfl b.out.1 f ?_);refine d.mono ?_;rintro e w2 ⟨rfl,h⟩;have u:=b.out.1.keep (h.block _ b.out.1.lt);have s:=b.out.2.trans (h.mono b.out.2.size);have c:=au u s;clear d h u s;go_wp2_with fail;refine GL ei A n c.out.1 f (hv.below c.out.2 hv.lt) rfl rfl a.out.1.symm ?_;intro C v;have t:=c.out.2.trans (v.mono c.out.2.size);have p:=al t;clear v t;rename_i hK
 by_cases q:r.blk=l
 . rw [a.out.1,q,decide_eq_true (rfl:l=l)];have g:=al q;clear q;refine hK _ _ ?_;clear hK;simp only [Act.RL,Act.put,UL,UJ,UM];go_wp2;go_ret2;refine ⟨?_,p.out⟩;rw [a.out.2,if_pos g.out,<- a.out.1];rfl
 . rw [a.out.1,decide_eq_false q];obtain ⟨bl,y⟩:=nM (aw r.blk);rw [y];have g:=al q;clear q y;refine hK _ _ ?_;clear hK;simp only [Act.RL,Act.put,UL,UJ,UM];go_wp2;go_ret2;refine ⟨?_,p.out⟩;rw [a.out.2,if_neg g.out];rfl
def aQ (L:List (ByteArray×ZR)):List ZR:=L.flatMap λq=>[ZZ q.1,q.2]
def kC (L:List (ByteArray×ZR)):(aQ L).length=L.length*2:=by
 induction L with
 | nil=>rfl
 | cons q L ih=>simp only [aQ,VR,T5,Um] at ih ⊢;rw [ih];simp;omega
def tJ (L:List (ByteArray×ZR)) (k:Nat) (a:k<L.length):(aQ L)[k*2]?=ZV (ZZ L[k].1)/\(aQ L)[k*2+1]?=ZV L[k].2:=by
 induction L generalizing k with
 | nil=>simp at a
 | cons q L ih=>
  have e:aQ (q::L)=[ZZ q.1,q.2]++aQ L:=by simp [aQ]
  rw [e];cases k with
  | zero=>exact ⟨rfl,rfl⟩
  | succ k=>
   simp at a;obtain ⟨b,c⟩:=ih k a;refine ⟨?_,?_⟩
   . rw [Vp en,(en:(k+1)*2-[Value.string q.1,q.2].length=k*2)];exact b
   . rw [Vp en,(en:(k+1)*2+1-[Value.string q.1,q.2].length=k*2+1)];exact c
def js (L M:List (ByteArray×ZR)):aQ (L++M)=aQ L++aQ M:=by simp [aQ]
structure ru (w:ZS) (r base:Nat) (v:ZR) (L:List (ByteArray×ZR)):Prop where
 top:w.heap[r]?=ZV (Z4 #[v] 61 (0,0))
 own:w.ownsRow base 79 2 v L.length (aQ L)
def ru.shape {v:ZR} {L:List (ByteArray×ZR)} (h:ru w r base v L):(v=Z5 ZW 0 0/\L=[])\/∃ g cap,v=Z5 (ZV ⟨g,0,ZW⟩) L.length cap/\base<=g/\L.length<=cap /\
 ∀ k (d:k<L.length),w.cell? ⟨g,k*2,ZW⟩=ZV (ZZ L[k].1)/\w.cell? ⟨g,k*2+1,ZW⟩=ZV L[k].2:=by
 rcases h.own.2 with ⟨i,j⟩|⟨g,cap,cur,c,e,n,f,o,p,q⟩
 . exact .inl ⟨i,UK j⟩
 . refine .inr ⟨g,cap,c,e,f,λk d=>?_⟩;obtain ⟨l,m⟩:=tJ L k d;have:=h.own.cells (g:=g) (by rw [c];rfl);have a:=this _ _ l;have b:=this _ _ m;rw [jU] at a b;exact ⟨a,b⟩
def ru.cell {v:ZR} {L:List (ByteArray×ZR)} (h:ru w r base v L):w.cell? ⟨r,0,ZW⟩=ZV v/\w.frozen? ⟨r,0,ZW⟩=ZT:=by simp [World.cell?,World.frozen?,h.top]
def FiR (w:ZS) (L:List (ByteArray×ZR)) (name:ByteArray) (i:ZR) (wr:ZS):Prop:=∃ k:Nat,k<=L.length/\i=Z7 Z9 k/\wr=w/\∀ j (hj:j<L.length),j<k->¬ L[j].1.toList=name.toList
theorem jG {v:ZR} {L:List (ByteArray×ZR)} (h:ru w r base v L) (A:L.length<=1000000) (name:ByteArray) :
 ZQ ZL 38 #[Z6 (ZV ⟨r,0,ZW⟩),ZZ name] w λe w'=>w'=w/\((∃ k,∃ m:k<L.length,e=Z3 (Z7 Z9 (k:Nat))/\L[k].1.toList=name.toList/\∀ j (a:j<L.length),j<k->¬ L[j].1.toList=name.toList)\/(e=Z3 (Z7 Z9 (-1))/\∀ j (a:j<L.length),¬ L[j].1.toList=name.toList)):=by
 obtain ⟨t,_⟩:=h.cell;have s:=h.shape;go_enter func38,ntmps38;go_wp2;go_loopw [5] (λi wr=>FiR w L name i wr) (λi _=>L.length-(intOf i).toNat)
 case atStart=>exact ⟨0,T3 _,rfl,rfl,λj _ a=>absurd a eb⟩
 case round=>
  obtain ⟨k,m,rfl,rfl,c⟩:=hrel;rcases s with ⟨rfl,rfl⟩|⟨g,cap,rfl,y,x,n⟩
  . have p:k=0:=(vE m);subst p;clear c;go_wp2;go_ret;exact ⟨rfl,.inr ⟨rfl,λj a=>absurd a ek⟩⟩
  . by_cases l:k<L.length
    . obtain ⟨c1,u⟩:=n k l;have d:=al c;clear c;by_cases b:L[k].1.toList=name.toList
      . have o:(L[k].1.toList==name.toList)=ZU:=(by rw [b];exact beq_self_eq_true _);have f:=al b;clear b;go_wp2;go_ret;exact ⟨rfl,.inl ⟨k,l,rfl,f.out,d.out⟩⟩
      . have o:(L[k].1.toList==name.toList)=ZT:=(by rw [beq_eq_false_iff_ne];exact b);have f:=al b;clear b;go_wp2;refine ⟨⟨k+1,eb,e8,rfl,λj a z=>?_⟩,e9⟩;by_cases e:j=k
        . subst e;exact f.out
        . exact d.out j a eb
    . have q:k=L.length:=eb;subst q;have d:=al c;clear c;go_wp2;go_ret;exact ⟨rfl,.inr ⟨rfl,λj a=>d.out j a a⟩⟩
def eA (n:ByteArray):Prop:=1<=n.size/\n.size<=16
def Nr (L:List (ByteArray×ZR)) (name:ByteArray) (k:Nat):Prop:=∃ hk:k<L.length,L[k].1.toList=name.toList/\∀ j (hj:j<L.length),j<k->¬ L[j].1.toList=name.toList
def isNone (L:List (ByteArray×ZR)) (name:ByteArray):Prop:=∀ j (hj:j<L.length),¬ L[j].1.toList=name.toList
def Ry (L:List (ByteArray×ZR)) (name:ByteArray) (e:Ending):Prop:=
 (¬ eA name/\e=Z3 (ZY #[Z5 ZW 0 0,Z7 Z9 6]))\/(eA name/\isNone L name/\e=Z3 (ZY #[Z5 ZW 0 0,Z7 Z9 9]))\/(eA name/\∃ k,Nr L name k/\e=Z3 (ZY #[(L.getD k (ByteArray.empty,ZX)).2,Z7 Z9 0]))
theorem Bn {v:ZR} {L:List (ByteArray×ZR)} (h:ru w r base v L) (o:L.length<=1000000) (name:ByteArray) :
 ZQ ZL 18 #[Z6 (ZV ⟨r,0,ZW⟩),ZZ name] w λe w'=>w'=w/\Ry L name e:=by
 obtain ⟨p,_⟩:=h.cell;have j:=h.shape;have l:=jG h o name;by_cases t:name.size=0
 . have n0:(name.size:Int)=0:=eb;go_enter func18,ntmps18;go_wp2;go_ret2;exact ⟨rfl,.inl ⟨λq=>eT q.1,rfl⟩⟩
 . have n0:¬ (name.size:Int)=0:=eb;by_cases x:16<name.size
   . have n1:(16:Int)<(name.size:Int):=eb;go_enter func18,ntmps18;go_wp2;go_ret2;exact ⟨rfl,.inl ⟨λq=>eT q.2,rfl⟩⟩
   . have n1:¬ (16:Int)<(name.size:Int):=eb;have i:eA name:=⟨eb,eb⟩;go_enter func18,ntmps18;go_wp2_with fail;refine l.mono ?_;rintro e w' ⟨rfl,n⟩;clear l;rcases n with ⟨k,b,rfl,m,c⟩|⟨rfl,f⟩
     . rcases j with ⟨rfl,rfl⟩|⟨g,cap,rfl,y,u,d⟩
       . exact absurd b ek
       . obtain ⟨c1,s⟩:=d k b;have a:=au m c;clear m c d;go_wp2;go_ret2;exact ⟨rfl,.inr (.inr ⟨i,k,⟨b,a.out.1,a.out.2⟩,abQ⟩)⟩
     . have a:=al f;clear f j;go_wp2;go_ret2;exact ⟨rfl,.inr (.inl ⟨i,a.out,rfl⟩)⟩
def DY:ZR->Nat
 | .slice _ n _=>n
 | _=>0
def kD (v:ZR):Prop:=∃ ao n c,v=.slice ao n c/\n<=1000000
def bY (L:List (ByteArray×ZR)) (q k:Nat):Nat:=((L.take k).map λo=>DY o.2/q+1).sum
def lO (L:List (ByteArray×ZR)) (q k:Nat) (a:k<L.length):bY L q (k+1)=bY L q k+(DY L[k].2/q+1):=by
 unfold bY;rw [Vd,T2 a];simp only [Uu,X2,YM,UD,U5,abc,List.sum_nil,Vs]
def oR (L:List (ByteArray×ZR)) (q k:Nat) (h:∀ o∈L,DY o.2<=1000000) (c:k<=L.length):bY L q k<=k*1000001:=by
 induction k with
 | zero=>simp [bY]
 | succ k ih=>
  rw [lO L q k eb];have:=ih eb;have:=h L[k] (T4 _);have:DY L[k].2/q<=DY L[k].2:=VK _ _;omega
def kF (L:List (ByteArray×ZR)) (data:Nat) (more:Int):Nat:=
 let q:=data*44
 if 0<=more then bY L q L.length+(more.toNat/q+1)+2*((L.length+1)*200/q+1) else bY L q L.length+2*(L.length*200/q+1)
def NeR (w:ZS) (L:List (ByteArray×ZR)) (q:Nat) (n i:ZR) (wr:ZS):Prop:=∃ k:Nat,k<=L.length/\n=Z7 Z9 (bY L q k:Nat)/\i=Z7 Z9 k/\wr=w
theorem tK {v:ZR} {L:List (ByteArray×ZR)} (h:ru w r base v L) (hl:L.length<=1000) (E:∀ o∈L,kD o.2) (data:Nat) (X:1<=data) (V:data<=1000) (more:Int) (Z:-1<=more) (hi:more<=1000000) :
 ZQ ZL 24 #[Z6 (ZV ⟨r,0,ZW⟩),Z7 Z9 data,Z7 Z9 more] w λe w'=>w'=w/\e=Z3 (Z7 Z9 (kF L data more:Nat)):=by
 obtain ⟨G,_⟩:=h.cell;have p:=h.shape;have A:∀ o∈L,DY o.2<=1000000:=λo ho=>by obtain ⟨ao,n,c,e,C⟩:=E o ho;rw [e];exact C
 obtain ⟨q,D⟩:∃ q,q=data*44:=⟨_,rfl⟩;have hj:1<=q:=eb
 have hp:q<=44000:=eb
 have hr:(data:Int)*44=(q:Int):=eb
 have x:=al D;clear D;have B:v=Z5 ZW 0 0/\L.length=0\/∃ g cap,v=Z5 (ZV ⟨g,0,ZW⟩) L.length cap:=by
  rcases p with ⟨a,j⟩|⟨g,cap,a,_⟩
  . exact .inl ⟨a,by rw [j];rfl⟩
  . exact .inr ⟨g,cap,a⟩
 obtain ⟨ao,cap,hv⟩:∃ ao cap,v=.slice ao L.length cap:=by
  rcases B with ⟨a,j⟩|⟨g,cap,a⟩
  . exact ⟨ZW,0,by rw [a,j]⟩
  . exact ⟨_,_,a⟩
 rw [hv] at G;go_enter func24,ntmps24;go_wp2;go_loopw [8,10] (λn i wr=>NeR w L q n i wr) (λ_ i _=>L.length-(intOf i).toNat)
 case atStart=>exact ⟨0,T3 _,rfl,rfl,rfl⟩
 case round=>
  obtain ⟨k,O,rfl,rfl,rfl⟩:=hrel;by_cases l:k<L.length
  . rcases p with ⟨_,rfl⟩|⟨g,y,t,W,U,z⟩
    . exact absurd l ek
    . rw [hv] at t;simp at t;obtain ⟨rfl,rfl⟩:=t;obtain ⟨c1,H⟩:=z k l;obtain ⟨P,n,Q,e,C⟩:=E L[k] (T4 _);have s:=lO L q k l;have N:=oR L q k A O;rw [e] at H s;have J:(n:Int)/(q:Int)=((n/q:Nat):Int):=eb;have R:(n:Int).tdiv (q:Int)=((n/q:Nat):Int):=(by rw [XK eb];exact J);have Y:n/q<=n:=VK _ _;have ho:NeR wr L q (Z7 Z9 ((bY L q k+(n/q+1):Nat):Int)) (Z7 Z9 ((k:Int)+1)) wr:=⟨k+1,eb,by rw [s];rfl,rfl,rfl⟩;have F:=al ho;clear ho s z;generalize bY L q k=S at *;generalize n/q=d at *;go_wp2;have:=F.out;rw [(eb:((S+(d+1):Nat):Int)=(S:Int)+(d:Int)+1)] at this;exact ⟨this,e9⟩
  . have M:k=L.length:=eb;subst M;have N:=oR L q L.length A lR;clear p B;by_cases u:0<=more
    . obtain ⟨m,rfl⟩:=Int.eq_ofNat_of_zero_le u;have b:kF L data (m:Int)=bY L q L.length+(m/q+1)+2*((L.length+1)*200/q+1):=by
       unfold kF;rw [if_pos u,<- x.out,VO]
      have T:(m:Int).tdiv (q:Int)=((m/q:Nat):Int):=(by rw [XK eb];omega);have K:(((L.length:Int)+1)*200).tdiv (q:Int)=(((L.length+1)*200/q:Nat):Int):=by
       rw [XK eb,(eb:((L.length:Int)+1)*200=(((L.length+1)*200:Nat):Int))];omega
      have b5:m/q<=m:=VK _ _;have b6:(L.length+1)*200/q<=(L.length+1)*200:=VK _ _;have f:=al b;clear b;generalize bY L q L.length=S at *;generalize m/q=d at *;generalize (L.length+1)*200/q=I at *;go_wp2;go_ret;exact ⟨rfl,by rw [f.out];congr 2⟩
    . have b:kF L data more=bY L q L.length+2*(L.length*200/q+1):=by
       unfold kF;rw [if_neg u,<- x.out]
      have K:((L.length:Int)*200).tdiv (q:Int)=((L.length*200/q:Nat):Int):=by
       rw [XK eb,(eb:(L.length:Int)*200=((L.length*200:Nat):Int))];omega
      have b6:L.length*200/q<=L.length*200:=VK _ _;have f:=al b;clear b;generalize bY L q L.length=S at *;generalize L.length*200/q=I at *;go_wp2;go_ret;exact ⟨rfl,by rw [f.out];congr 2⟩
theorem jB.bad {R A:aA} (h:jB R A) (d b:Nat) (x:Bool):jB (R.RU d b x) (A.RU d b x):=by
 refine ⟨h.n,h.nb,h.wait,h.lost,h.reads,λi a=>?_⟩;obtain ⟨c,e⟩:=h.here i a;refine ⟨c,funext λj=>?_⟩;show (if i=d/\j=b then x else R.bad i j)=if i=d/\j=b then x else A.bad i j;rw [e]
theorem G2 {A:aA} (h:aq w p A F) (j:A.fit) (d b:Nat) (a:d<A.n) (g:b<A.nb):ZQ ZL 10 #[Z6 (ZV ⟨p,0,ZW⟩),Z7 Z9 d,Z7 Z9 b,Z7 Z9 (-1)] w λe w'=>e=Z3 (ZY #[])/\aq w' p (A.RU d b ZU) F/\aa (F.has p A.n) w w':=by
 obtain ⟨k,c1,_,_⟩:=h.R4;obtain ⟨m,d1,o,q⟩:=h.Sd d a;have c:=h.bad d a;have l:=Yw c (i:=b) g;have B:=World.rowIs.frozen c b;have f:=kl (h.at j) eb;have r:¬ (d:Int)<0:=eb
 have s:¬ (A.n:Int)<=(d:Int):=eb
 have t:¬ (b:Int)<0:=eb
 have u:(d:Int)<(A.n:Int):=eb
 have x:(b:Int)<(A.nb:Int):=eb
 have y:(0:Int)<=(d:Int):=eb
 have z:(0:Int)<=(b:Int):=eb
 have H:=au h f;clear h f c;go_enter func10,ntmps10;go_wp2_with fail;refine H.out.2.mono ?_;rintro e w' ⟨rfl,rfl⟩;go_wp2;refine Uf (v:=ZY #[]) (by simp [results,results10,go_sem]) rfl ?_;exact ⟨rfl,H.out.1.RU d b a ZU,aa.setCell _ _ _ (.inr (.inr ⟨d,a,.inr rfl⟩))⟩
def G3 {A:aA} (h:aj w p A F) (d b:Nat) (k:d<A.n) (j:b<A.nb):ZQ ZL 10 #[Z6 (ZV ⟨p,0,ZW⟩),Z7 Z9 d,Z7 Z9 b,Z7 Z9 (-1)] w λe w'=>e=Z3 (ZY #[])/\aj w' p (A.RU d b ZU) F/\aa (F.has p A.n) w w':=by
 obtain ⟨R,g,c,a⟩:=h;refine (G2 g c d b (by rw [a.n];exact k) (by rw [a.nb];exact j)).mono ?_;rintro e w' ⟨rfl,i,f⟩;rw [a.n] at f;exact ⟨rfl,⟨_,i,c.RU _ _ _,a.bad d b ZU⟩,f⟩
