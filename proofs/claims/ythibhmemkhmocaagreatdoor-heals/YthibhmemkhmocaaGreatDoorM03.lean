import Derived.Test.YthibhmemkhmocaaGreatDoorM02
import Derived.Laws.CopyOwn
import Derived.Deep.RegionWith
import Derived.ChangeKeysEq
import Derived.Laws.StructEq
import Derived.LaidEql
import Derived.Stop.Asserts
import Derived.RowKitTokens
import Derived.Lib.TrailingZeros
import Derived.Laws.BitsAllLaws
import Derived.Laws.Tables
import Derived.Deep.WholeRow
import Derived.BigRegion
import Derived.Deep.AppendSrc
import Derived.Lib.SliceRun
set_option maxRecDepth 100000
set_option linter.all false
set_option maxHeartbeats 8000000
open Go.IntKind renaming i64 -> Z9, u64 -> Z8
open Go.Value renaming int -> Z7, pointer -> Z6, slice -> Z5, bool -> Z1, tuple -> ZZ
open Go.Obj renaming cells -> Z4
open Go.Ending renaming returned -> Z3
open Go.Operand renaming tmp -> Z0
open Go renaming undef -> ZY, World -> ZT, Value -> ZS, Calls -> ZQ, Addr -> ZP, Ending -> ZO, TypeId -> ZN
open Option renaming none -> ZX, some -> ZW
open Bool renaming true -> ZV, false -> ZU
open Go.RowKit renaming Below -> ZR
open List renaming range -> YE, replicate -> YF, length -> YJ, take -> YL, take_set -> YP
open Go renaming method -> YG
open Exists renaming intro -> YH
open Array renaming replicate -> YI, foldl -> YK, ext_getElem? -> YN
open Nat renaming testBit_two_pow_mul_add -> YM, div_mul_le_self -> YO
open Go.Proofs.Tryz renaming prog -> ZM
open Go.Proofs.Tryz
namespace Go.Proofs.YthibhmemkhmocaaGreatDoor
def YB:=@Array.ext
def abV:=@Go.wpList_copy_splice
def Vo:=@Go.Addr.add_mid
def X7:=@List.drop_replicate
def WY:=@Nat.add_sub_cancel_left
def Wx:=@Go.World.grownBy.refl
def UF:=@Go.Deep.blk_alloc_lt
def WJ:=@List.map_take
def X8:=@List.getElem?_take
def WK:=@List.map_drop
def Wf:=@List.getElem?_drop
def Vv:=@Nat.add_assoc
def Wo:=@Nat.min_eq_left
def Uk:=@Go.World.cell?_of_block
def Um:=@List.length_drop
def abW:=@Go.World.rangeAt_alloc
def Wp:=@Go.results_cell_row
def XF:=@Go.Proofs.Tryz.underlying142
def Xo:=@Array.getElem?_eq_none
def UL:=@Go.run_underlying
def abX:=@Go.Proofs.Tryz.underlying211
def UH:=@List.size_toArray
def Wq:=@List.take_zero
def TZ:=@List.setIfInBounds_toArray
def T5:=@List.set_cons_zero
def YC:=@List.map_toArray
def U1:=@List.map_cons
def Wr:=@List.map_nil
def Xq:=@List.getElem?_toArray
def Wg:=@Nat.mul_one
def Xr:=@Go.Proofs.Tryz.underlying5
def WZ:=@Go.World.cell?_alloc_lt
def YD:=@Go.World.frozen?_alloc_old
def Xs:=@Go.RowKit.Below.setCell
def Xt:=@Go.run_typeAssert_lacksB
def abY:=@Go.Proofs.Tryz.underlying246
def abZ:=@Go.Proofs.Tryz.underlying165
def ab0:=@Go.run_storeAt_mid
def XG:=@Nat.testBit_and
def X9:=@Nat.testBit_two_pow
def aco:=@Nat.testBit_two_pow_self
def Wy:=@Nat.testBit_eq_decide_div_mod_eq
def Vw:=@List.range_succ
def abk:=@List.sum_append
def XH:=@List.sum_cons
def Xu:=@Int.natCast_pow
def WL:=@Nat.and_le_left
def Ya:=@Int.natCast_ediv
def VR:=@Nat.add_zero
def Yb:=@Go.u64_andNot_nat
def acj:=@Nat.testBit_mul_two_pow
def ack:=@Nat.testBit_div_two_pow
def U8:=@List.mem_cons_self
def UJ:=@List.mem_cons_of_mem
def Xv:=@Go.callsIn_of_wp
def Vg:=@Array.replicate_succ
def Vh:=@Array.replicate_zero
def Vj:=@List.push_toArray
def Vk:=@List.append_toArray
def Ws:=@List.append_nil
def XI:=@Go.results_none
def ab1:=@Go.World.rowIs_alloc
def Yc:=@Array.all_eq_true
def abl:=@Go.wpList_load_row
def Yd:=@Go.Proofs.Tryz.underlying287
def Wz:=@Go.wpList_store_row
def Vp:=@List.length_range
def UC:=@Go.heap_alloc_last
def ab2:=@Go.World.cell?_setCell_other
def W0:=@Nat.mul_le_mul_right
def XJ:=@Int.natCast_mul
def Ye:=@List.mem_or_eq_of_mem_set
def ab3:=@Go.wpList_make_own
def VS:=@Go.Proofs.Tryz.underlying108
def WM:=@Go.wpList_append_own
def abm:=@List.range_zero
def UM:=@Option.some.inj
def UN:=@List.getElem_map
def XK:=@Nat.not_lt_zero
def abn:=@List.take_succ_eq_append_getElem
def XL:=@Nat.add_mul
def abo:=@Go.grownCap_ge
def abp:=@Go.grownCap_le_maxLen
def abq:=@Go.heap_alloc_new
def Yf:=@List.take_left
def abr:=@Go.growslice_fits
def abt:=@Nat.zero_mul
def ab4:=@List.getElem_cons_zero
def XM:=@Go.Lib.run_eql_slice_nil
def VL:=@List.flatMap_cons
def XN:=@Int.tdiv_eq_ediv_of_nonneg
def VD:=@Int.toNat_natCast
end Go.Proofs.YthibhmemkhmocaaGreatDoor
namespace Go.Proofs.YthibhmemkhmocaaGreatDoor
open Go.RowKit Go.Deep Gf Go.Shelf
variable {a:Act} {ops:Array Oper} {cs vals args:Array ZS} {Rr:ZO->ZT->Prop} {Q:Exit->Act->ZT->Prop} {f:FuncId} {y:Int} {kk:IntKind} {L:List (ByteArray×ZS)} {D M:List a8} {T T':List (Nat×Nat×a8)} {l src l' lp:a8} {rest:List Oper} {b base g n cap off c q r B d x k W p m:Nat} {o:Oper} {P:Program} {t:ZN} {v:ZS} {Vi:ZS->ZT->Prop} {w w' w0 w1 wc wr wr':ZT} {S:ZT->Prop}
def xr (c:Nat) (l:a8):a8:=l.map (λx=>x^^^c)
def rQ (c k:Nat) (l:a8):a8:=(YE l.length).map λj=>if j<k then l.getD j 0^^^c else l.getD j 0
theorem Ho (c:Nat) (l:a8):rQ c 0 l=l:=by
 unfold rQ;apply Vc
 . simp
 . intro j b a;simp [a]
theorem Kq (c:Nat) (l:a8):rQ c l.length l=xr c l:=by
 unfold rQ xr;apply Vc
 . simp
 . intro j a b;simp at a;simp [a]
def Kr (c k:Nat) (l:a8):(rQ c k l).length=l.length:=by simp [rQ]
def Ks (c k:Nat) (l:a8) (a:k<l.length):(rQ c k l).getD k 0=l.getD k 0:=by simp [rQ,a]
theorem Hp (c k:Nat) (l:a8):(rQ c k l).set k (l.getD k 0^^^c)=rQ c (k+1) l:=by
 unfold rQ;apply Vc
 . simp
 . intro j b d;simp [Wl];by_cases e:k=j
   . subst e;simp
   . simp only [TS e];by_cases a:j<k
     . rw [TT a,TT ec]
     . rw [TS a,TS ec]
def SA2 (wo:ZT) (b c:Nat) (l:a8) (i:ZS) (wr:ZT):Prop:=
 ∃ k:Nat,k<=l.length/\i=Z7 Z9 k/\wo.grownBy wr (ZW b)/\aM wr b (rQ c k l)
def Rd (w:ZT) (v:ZS) (D:List a8):Prop:=
 ∃ ao c,v=.slice ao D.length c/\D.length<=5864062014805/\(D≠[]->∃ b off,ao=ZW ⟨b,off,ZX⟩/\∀ i (hi:i<D.length),∃ u,w.cell? ⟨b,off+i,ZX⟩=ZW u/\Bs w u D[i])
def Bs.lt (h:Bs w v l):∀ x∈l,x<256:=by
 obtain ⟨_,_,_,_,_,a,_⟩:=h;exact a
def Rd.mono (h:Rd w v D) (a:bW w w'):Rd w' v D:=by
 obtain ⟨ao,c,f,g,j⟩:=h;refine ⟨ao,c,f,g,λl=>?_⟩;obtain ⟨b,off,e,m⟩:=j l;refine ⟨b,off,e,λi n=>?_⟩;obtain ⟨u,d,k⟩:=m i n;exact ⟨u,by rw [a.cell (Uf d)];exact d,k.mono a⟩
def Rd.cases (h:Rd w v D):(D=[]/\∃ ao c,v=.slice ao 0 c)\/∃ b off c,v=Z5 (ZW ⟨b,off,ZX⟩) D.length c/\D.length<=5864062014805/\∀ i (j:i<D.length),∃ u,w.cell? ⟨b,off+i,ZX⟩=ZW u/\Bs w u D[i]:=by
 obtain ⟨ao,c,a,e,f⟩:=h;by_cases d:D=[]
 . subst d;exact .inl ⟨rfl,ao,c,a⟩
 . obtain ⟨b,off,rfl,g⟩:=f d;exact .inr ⟨b,off,c,a,e,g⟩
theorem aM.heap (h:aM w b l):w.heap[b]?=ZW (Z4 (l.map (λx=>Value.int .u8 ((x:Nat):Int))).toArray 5 (0,0)):=by
 obtain ⟨c,d,g,e⟩:=h;have:c=(l.map (λx=>Value.int .u8 ((x:Nat):Int))).toArray:=by
  apply YB
  . simp [g]
  . intro i a j;have:=e i ec;rw [VK a] at this;simp [vb] at this;have f:i<l.length:=ec;simp [this,f]
 rw [<- this];exact d
def aM.of_heap (h:w.heap[b]?=ZW (Z4 (l.map (λx=>Value.int .u8 ((x:Nat):Int))).toArray 5 (0,0))):aM w b l:=
 ⟨_,h,ek,λi a=>by simp [vb,a]⟩
def xw (r:o.guard=ZX) (d s:Operand)
 (ho:o.op=.call { callee:=.builtin .copy,args:=#[d,s],argTypes:=#[40,40] }) (g n cap:Nat) (v:ZS) (hd:a.eval d=Z5 (ZW ⟨g,0,ZX⟩) n cap) (hs:a.eval s=v)
 (old src:a8) (hB:aM w g old) (hS:Bs w v src) (h9:src.length<=n) (hn:n<=old.length) (B:Nat) (w0:ZT) (hb:ZR B w0 w) (h5:B<=g)
 (h:∀ w',aM w' g (src++old.drop src.length)->ZR B w0 w'->wpList ZM ops Q rest (a.put o.dst (goInt src.length)) w'):wpList ZM ops Q (o::rest) a w:=by
 obtain ⟨ao,c,rfl,A,C,D,m⟩:=hS;refine abV r d s 40 40 ho 5 Un ei (ZW ⟨g,0,ZX⟩) ao n cap src.length c hd hs g 0 _ 5 hB.heap (src.map (λx=>Value.int .u8 ((x:Nat):Int))) ?_ ?_ ?_ ?_ B w0 hb h5 ?_
 . rw [Ue];show src.length=min src.length n;omega
 . intro k;rw [Ue] at k;obtain ⟨b,off,rfl,y⟩:=m (by intro e;rw [e] at k;simp at k);refine ⟨rfl,_,rfl,λj u i=>?_⟩;have f:j<src.length:=by
    have:=Va.1 i;obtain ⟨q,_⟩:=this;simpa using q
   rw [Vo,y j f];simp [f] at i;simp [f,i]
 . simp;omega
 . intro u z;obtain ⟨x,_,rfl⟩:=T9.1 z;rfl
 . intro w' t p;have e:(splice (old.map (λx=>Value.int .u8 ((x:Nat):Int))) 0 (src.map (λx=>Value.int .u8 ((x:Nat):Int))))=(src++old.drop src.length).map (λx=>Value.int .u8 ((x:Nat):Int)):=by
    simp [splice]
   have l:=t.out;rw [e] at l;rw [Ue];exact h w' (aM.of_heap l) p
def Eh (l:a8):l++(YF (l.length+2) 0).drop l.length=l++[0,0]:=by
 rw [X7,WY];rfl
def Kt (l:a8):((l++[0,0]).set l.length 71).set (l.length+1) 72=l++[71,72]:=by
 rw [abU _ _ lR,abU _ _ ec];simp
theorem Hs (v:ZS) (l:a8) (w:ZT) (h:Bs w v l) (hl:l.length<=1000000) :
 ZQ ZM 45 #[v] w λe w'=>∃ b,e=Z3 (Z5 (ZW ⟨b,0,ZX⟩) l.length (l.length+2))/\w.heap.size<=b/\aM w' b (l++[71,72])/\bW w w':=by
 have n:=h;obtain ⟨ao,c,rfl,f,g,i,j⟩:=h;clear f g i j;go_enter func45,ntmps45;go_wp2_with (first
  | (at_make;refine cP _ rfl (Z0 8) (Z0 8) rfl _ (l.length+2) rfl rfl ec ec ?_;intro w1 m d o;clear o)
  | (refine xw rfl (Z0 10) (Z0 11) rfl w.heap.size (l.length+2) (l.length+2) _ rfl rfl _ l m (n.mono d) ec ek w.heap.size w d lR ?_;intro w2 a k;rw [Eh] at a;have c1:=a.cell l.length ek;have p:=a.cell (l.length+1) ek;have q:=a.frozen l.length;have r:=a.frozen (l.length+1)))
 go_ret;refine ⟨w.heap.size,rfl,TV _,?_,?_⟩
 . have:=(a.set l.length 71).set (l.length+1) 72;rw [Kt] at this;exact this
 . exact (k.setCell ek _).setCell ek _
theorem Ht (b:Nat) (vb:ZS) (l:a8) (w:ZT) (g:aM w b (l++[71,72])) (o:Bs w vb l) (hl:l.length<=1000000) :
 ZQ ZM 47 #[Z5 (ZW ⟨b,0,ZX⟩) l.length (l.length+2),vb] w λe w'=>e=Z3 (Z1 ZV)/\w.grownBy w' (ZW b)/\aM w' b (xr 85 (l++[71,72])):=by
 have z:=o.lt;have i:(l++[71,72]).length=l.length+2:=ek
 have t:Bs w (Z5 (ZW ⟨b,0,ZX⟩) l.length (l.length+2)) l:=by
  have:=Bs.Sl (n:=l.length) g ek ec (by intro x d;rcases Ui.1 d with q|q;exact z x q;simp at q;omega);rw [i,List.take_left'] at this;exact this;rfl
 have c1:=g.cell l.length ek;have p:=g.cell (l.length+1) ek;have r:(l++[71,72]).getD l.length 0=71:=ek
 have s:(l++[71,72]).getD (l.length+1) 0=72:=ek
 rw [r] at c1;rw [s] at p;have u:=o;have d:∀ x∈l++[71,72],x<256:=by intro x d;rcases Ui.1 d with q|q;exact z x q;simp at q;omega
 obtain ⟨ao,c,rfl,A,B,C,D⟩:=o;clear A B C D r s;generalize hL:l++[71,72]=L at *;go_enter func47,ntmps47;go_wp2_with fail;refine (Ga _ _ l _ t u).mono ?_;rintro e w1 ⟨rfl,m,rfl⟩;clear t u hL;have h:=ak i;clear i;go_wp2;clear c1 p;go_loopw [8] (λj wr=>SA2 w b 85 L j wr) (λj _=>L.length-(intOf j).toNat)
 case atStart=>exact ⟨0,T8 _,rfl,sW (Wx _ _) _,by rw [Ho];exact g⟩
 case round=>
  obtain ⟨j,H,rfl,k,a⟩:=hrel;have J:j<=l.length+2:=by rw [<- h.out];exact H
  by_cases F:j<l.length+2
  . have v:j<L.length:=(by rw [h.out];exact F);have d1:=a.cell j (by rw [Kr];exact v);have I:=a.frozen j;rw [Ks 85 j L v] at d1;have G:=dm d j;have f:=a.set j (L.getD j 0^^^85);rw [Hp] at f;have E:=eF k j (Z7 .u8 ((L.getD j 0^^^85:Nat):Int));have K:bits .xor .u8 ((L.getD j 0:Nat):Int) 85=((L.getD j 0^^^85:Nat):Int):=ly (L.getD j 0) 85 G ee;generalize L.getD j 0=x at *;clear a k;go_wp2;go_roundw
    case rel=>exact ⟨j+1,ec,eT,E,f⟩
    case measure=>simp [intOf];omega
  . have y:j=L.length:=(by rw [h.out];omega);have f:aM wr b (xr 85 L):=(by rw [y,Kq] at a;exact a);clear a y;go_wp2;go_ret;exact ⟨rfl,k,f⟩
def eh.Sk {L:List (Nat×Nat×a8)} (h:eh w base (Z5 (ZW ⟨g,0,ZX⟩) n cap) L) {i:Nat} (a:i<L.length):w.cell? ⟨g,i,ZX⟩=ZW (fX L[i]):=by
 have:=h.own.cells (g:=g) rfl i (fX L[i]) Zg;rw [jG] at this;exact this
def eh.slice {L:List (Nat×Nat×a8)} (h:eh w base v L):∃ ao cap,v=.slice ao L.length cap/\(L≠[]->∃ g,ao=ZW ⟨g,0,ZX⟩):=by
 rcases h.shape with ⟨rfl,rfl⟩|⟨g,cap,rfl,_⟩
 . exact ⟨ZX,0,rfl,λh=>absurd rfl h⟩
 . exact ⟨_,cap,rfl,λ_=>⟨g,rfl⟩⟩
def aj (D L G t f n:Nat):Array ZS:=#[Z7 Z9 D,Z7 Z9 L,Z7 Z9 G,Z7 Z8 t,Z7 Z9 f,Z7 Z9 n]
def Bs.Se (h:w.ownsRow base 5 1 v n (aJ l)) (c:∀ x∈l,x<256) (hl:l.length<=1000000):Bs w v l:=by
 have b:l.length=n:=by have:=h.1;rw [aX] at this;omega
 rcases h.2 with ⟨rfl,d⟩|⟨g,cap,cur,rfl,e,f,i,j,m,o⟩
 . subst d;have:l=[]:=UW b;subst this;exact ⟨ZX,0,rfl,ek,ek,c,λh=>absurd rfl h⟩
 . refine ⟨ZW ⟨g,0,ZX⟩,cap,by rw [b],ec,ec,c,λ_=>⟨g,0,rfl,λk a=>?_⟩⟩;have:=h.cells (g:=g) rfl k (Z7 .u8 ((l.getD k 0:Nat):Int)) Y9;rw [jG] at this;rw [Uj];exact this
def Hu (w:ZT) (a b c d:Nat):(w.alloc (Z4 #[Z7 .u8 (a:Int),Z7 .u8 (b:Int),Z7 .u8 (c:Int),Z7 .u8 (d:Int)] 5)).ownsRow w.heap.size 5 1 (Z5 (ZW ⟨w.heap.size,0,ZX⟩) 4 4) 4 (aJ [a,b,c,d]):=
 ⟨rfl,.inr ⟨w.heap.size,4,_,rfl,TV _,Ug _ _,TV _,eD,rfl,rfl⟩⟩
theorem Ei (w:ZT):ZQ ZM 268 #[.agg #[]] w λe w'=>e=Z3 (Z5 ZX 0 0)/\bW w w':=by
 go_enter func268,ntmps268;go_wp2;go_ret;exact ⟨rfl,bA w _⟩
theorem Hv (D L G t f n:Nat) (w:ZT) (Z:(bG.root D L G t f n).ok) :
 ZQ ZM 254 #[.agg (aj D L G t f n)] w λe w'=>∃ v,e=Z3 v/\Bs w' v (bG.root D L G t f n).body/\bW w w':=by
 obtain ⟨m,p,q,E,F,H⟩:=Z;have O:(w.alloc (Z4 (aj D L G t f n) 142)).heap[w.heap.size]?=ZW (Z4 (aj D L G t f n) 142 (0,0)):=Ug _ _;have T:(w.alloc (Z4 (aj D L G t f n) 142)).heap.size=w.heap.size+1:=ek
 have A:=Hu (w.alloc (Z4 (aj D L G t f n) 142)) 1 D L G;have j:((w.alloc (Z4 (aj D L G t f n) 142)).alloc (Z4 #[Z7 .u8 1,Z7 .u8 (D:Int),Z7 .u8 (L:Int),Z7 .u8 (G:Int)] 5)).heap[w.heap.size]?=ZW (Z4 (aj D L G t f n) 142 (0,0)):=(UF _ _ _ ek).trans O;have z:bW w ((w.alloc (Z4 (aj D L G t f n) 142)).alloc (Z4 #[Z7 .u8 1,Z7 .u8 (D:Int),Z7 .u8 (L:Int),Z7 .u8 (G:Int)] 5)):=(bA w _).alloc ek _;have C:((w.alloc (Z4 (aj D L G t f n) 142)).alloc (Z4 #[Z7 .u8 1,Z7 .u8 (D:Int),Z7 .u8 (L:Int),Z7 .u8 (G:Int)] 5)).heap.size=w.heap.size+2:=ek
 rw [T] at A;unfold aj at *;obtain ⟨w1,B⟩:=nM ((w.alloc (Z4 #[Z7 Z9 D,Z7 Z9 L,Z7 Z9 G,Z7 Z8 t,Z7 Z9 f,Z7 Z9 n] 142)).alloc (Z4 #[Z7 .u8 1,Z7 .u8 (D:Int),Z7 .u8 (L:Int),Z7 .u8 (G:Int)] 5));have M:w1.ownsRow (w.heap.size+1) 5 1 (Z5 (ZW ⟨w.heap.size+1,0,ZX⟩) 4 4) 4 (aJ [1,D,L,G]):=by rw [<- B];exact A
 rw [B] at j z C;have c1:w1.cell? ⟨w.heap.size,3,ZX⟩=ZW (Z7 Z8 t):=by simp [World.cell?,j]
 have a:=a5 M j z C;clear A M j z O T C;go_enter func254,ntmps254;go_wp2_with fail;refine (fY (w.heap.size+1) _ 4 (aJ [1,D,L,G]) t 8 w1 a.o.1 (e9 a.o.2.2.2) ee ee).mono ?_;rintro e w2 ⟨v2,rfl,P,h,I⟩;have s:w2.heap[w.heap.size]?=ZW (Z4 #[Z7 Z9 D,Z7 Z9 L,Z7 Z9 G,Z7 Z8 t,Z7 Z9 f,Z7 Z9 n] 142 (0,0)):=(h.block _ (e9 a.o.2.2.2) (λe=>by simp [Value.ownBlock] at e)).trans a.o.2.1;have J:bW w w2:=a.o.2.2.1.trans (h.below λk y=>⟨e9 a.o.2.2.2,λe=>by simp [Value.ownBlock] at e;omega⟩);have R:=h.size;have V:w2.cell? ⟨w.heap.size,4,ZX⟩=ZW (Z7 Z9 f):=by simp [World.cell?,s]
 have b:=a6 P s J R I;clear P h I s J R B;go_wp2_with fail;refine (fY (w.heap.size+1) _ (4+8) (aJ [1,D,L,G]++aJ (be t 8)) f 4 w2 b.o.1 W8 ee ee).mono ?_;rintro e l ⟨v3,rfl,Q,i,X⟩;have x:∀ k,k<=w.heap.size->¬ v2.ownBlock=ZW k:=λk y e=>e9 ((b.o.1.lt k e).1)
 have u:l.heap[w.heap.size]?=ZW (Z4 #[Z7 Z9 D,Z7 Z9 L,Z7 Z9 G,Z7 Z8 t,Z7 Z9 f,Z7 Z9 n] 142 (0,0)):=(i.block _ W8 (x _ lR)).trans b.o.2.1;have K:bW w l:=b.o.2.2.1.trans (i.below λk y=>⟨W8,x k ec⟩);have S:=TU b.o.2.2.2.1 i.size;have W:l.cell? ⟨w.heap.size,5,ZX⟩=ZW (Z7 Z9 n):=Y3
 have c:=a5 Q u K S;clear Q i X u K S V x;go_wp2_with fail;refine (fY (w.heap.size+1) _ (4+8+4) (aJ [1,D,L,G]++aJ (be t 8)++aJ (be f 4)) n 4 l c.o.1 (by have:=a.o.2.2.2;have:=c.o.2.2.2;omega) ee ee).mono ?_;rintro e w4 ⟨v4,rfl,d,N,Y⟩;have g:bW w w4:=c.o.2.2.1.trans (N.below λk y=>⟨by have:=a.o.2.2.2;have:=c.o.2.2.2;omega,λe=>e9 ((c.o.1.lt k e).1)⟩);have U:=al d g;clear d N Y g W;go_wp2;go_ret;obtain ⟨d,g⟩:=U.o;refine ⟨v4,rfl,?_,g⟩;have hl:aJ [1,D,L,G]++aJ (be t 8)++aJ (be f 4)++aJ (be n 4)=aJ (bG.root D L G t f n).body:=by
  rw [<- bJ,<- bJ,<- bJ];simp only [bG.body,VY m,VY p,VY q,Uz]
 rw [hl] at d;exact Bs.Se d (rZ (r:=.root D L G t f n) ⟨m,p,q,E,F,H⟩) (TU (nS (r:=.root D L G t f n) ⟨m,p,q,E,F,H⟩) ee)
def Bs.mid (d:l.length<=c) (hl:l.length<=1000000) (e:∀ x∈l,x<256) (h:w.rangeAt b off (aJ l)):Bs w (Z5 (ZW ⟨b,off,ZX⟩) l.length c) l:=
 ⟨_,c,rfl,d,ec,e,λ_=>⟨b,off,rfl,λk a=>h k _ Y9⟩⟩
theorem nl (s:Nat) (h:w.rangeAt b off (aJ l)):w.rangeAt b off (aJ (l.take s)):=λj v a=>by
 unfold aJ at a;rw [WJ,X8] at a;split at a
 . exact h j v a
 . cases a
def fZ (s:Nat) (h:w.rangeAt b off (aJ l)):w.rangeAt b (off+s) (aJ (l.drop s)):=λj v a=>by
 unfold aJ at a;rw [WK,Wf] at a;rw [Vv];exact h (s+j) v a
theorem jH (q b off c s:Nat) (l:a8) (w:ZT) (d:w.heap[q]?=ZW (Z4 #[Z5 (ZW ⟨b,off,ZX⟩) l.length c] 40 (0,0))) (k:c<=1000) (g:∀ x∈l,x<256) (f:w.rangeAt b off (aJ l)) (i:s<=l.length) (n:s<c) :
 ZQ ZM 215 #[Z7 Z9 s,Z6 (ZW ⟨q,0,ZX⟩)] w λe w'=>e=Z3 (Z7 Z8 (fT (l.take s):Nat))/\w'=w.setCell ⟨q,0,ZX⟩ (Z5 (ZW ⟨b,off+s,ZX⟩) (l.length-s) (c-s)):=by
 have a:Bs w (Z5 (ZW ⟨b,off,ZX⟩) (l.take s).length c) (l.take s):=Bs.mid Jx Jx (λx h=>g x (UX h)) (nl s f);rw [Uo,Wo i] at a;have c0:w.cell? ⟨q,0,ZX⟩=ZW (Z5 (ZW ⟨b,off,ZX⟩) l.length c):=K0
 have j:w.frozen? ⟨q,0,ZX⟩=ZU:=by simp [World.frozen?,d]
 go_enter func215,ntmps215;go_wp2_with fail;refine (zA _ (l.take s) w a).mono ?_;rintro e w' ⟨rfl,rfl⟩;have m:¬ c=s:=ec
 clear a f g;go_wp2;go_ret;exact ⟨rfl,rfl⟩
structure Hw (w0 w:ZT) (q b off c:Nat) (l:a8) (vals:Array ZS):Prop where
 box:w.heap[q]?=ZW (Z4 #[Z5 (ZW ⟨b,off,ZX⟩) l.length c] 40 (0,0))
 res:w.heap[q+1]?=ZW (Z4 #[Z7 Z9 0,Z7 Z9 0,Z7 Z9 0,Z7 Z8 0,Z7 Z9 0,Z7 Z9 0] 142 (0,0))
 rv:w.heap[q+1+1]?=ZW (Z4 vals 142 (0,0))
 below:ZR q w0 w
 rng:w.rangeAt b off (aJ l)
 lt:b<q
def ag {j:Nat} (h:w.heap[b]?=ZW (Z4 cs t (0,0))) (v:ZS):(w.setCell ⟨b,j,ZX⟩ v).heap[b]?=ZW (Z4 (cs.setIfInBounds j v) t (0,0)):=by
 simp [World.setCell,Vy,h]
def xA {l:List ZS} (h:w.rangeAt b off l) {a:ZP} (c:b≠a.block) (v:ZS):(w.setCell a v).rangeAt b off l:=λj u d=>by
 have:=h j u d;rw [<- this];exact Uk (Ud _ _ _ _ c)
def Hw.step (h:Hw w0 w q b off c l vals) (s j:Nat) (v:ZS) :
 Hw w0 ((w.setCell ⟨q,0,ZX⟩ (Z5 (ZW ⟨b,off+s,ZX⟩) (l.length-s) (c-s))).setCell ⟨q+1+1,j,ZX⟩ v) q b (off+s) (c-s) (l.drop s) (vals.setIfInBounds j v):=by
 obtain ⟨a,d,e,f,g,i⟩:=h;refine ⟨?_,?_,?_,?_,?_,i⟩
 . rw [Ud _ _ _ _ (by show q≠q+1+1;omega),ag a,Um];rfl
 . rw [Ud _ _ _ _ (by show q+1≠q+1+1;omega),Ud _ _ _ _ (by show q+1≠q;omega)];exact d
 . exact ag ((Ud _ _ _ _ (by show q+1+1≠q;omega)).trans e) v
 . exact (f.setCell (p:=⟨q,0,ZX⟩) lR _).setCell (p:=⟨q+1+1,j,ZX⟩) (by show q<=q+1+1;omega) _
 . exact xA (xA (fZ s g) (by show b≠q;omega) _) (by show b≠q+1+1;omega) _
def Hw.cells (h:Hw w0 w q b off c l vals) (s j:Nat) (u:ZS) (a:vals[j]?=ZW u) :
 (w.setCell ⟨q,0,ZX⟩ (Z5 (ZW ⟨b,off+s,ZX⟩) (l.length-s) (c-s))).cell? ⟨q+1+1,j,ZX⟩=ZW u/\(w.setCell ⟨q,0,ZX⟩ (Z5 (ZW ⟨b,off+s,ZX⟩) (l.length-s) (c-s))).frozen? ⟨q+1+1,j,ZX⟩=ZU:=by
 have e:(w.setCell ⟨q,0,ZX⟩ (Z5 (ZW ⟨b,off+s,ZX⟩) (l.length-s) (c-s))).heap[q+1+1]?=_:=(Ud _ _ _ _ (by show q+1+1≠q;omega)).trans h.rv;exact ⟨by simp [World.cell?,e,a],by simp [World.frozen?,e]⟩
def xB:∀ (l:a8),l.length<=7->(∀ x∈l,x<256)->fT l<256^l.length:=by
 intro l hl a;induction hn:l.length generalizing l with
 | zero=>
  have:l=[]:=UW hn;subst this;decide
 | succ n ih=>
  rcases List.eq_nil_or_concat l with rfl|⟨l',x,rfl⟩
  . simp at hn
  . rw [List.concat_eq_append] at *;simp at hn;have b:l'.length<=7:=(by simp at hl;omega);have d:=ih l' b (λy c=>a y Za) hn;have e:=a x ek;rw [sU,XX];exact WX (Nat.mod_le _ _) ec
theorem Ej (b off:Nat) (l:a8) (w:ZT) (hl:l.length=59) (hx:∀ x∈l,x<256) (hr:w.rangeAt b off (aJ l)) (hb:b<w.heap.size) :
 ZQ ZM 201 #[Z5 (ZW ⟨b,off,ZX⟩) l.length 59] w λe w'=>e=Z3 (.agg (aj (fT (l.take 1)) (fT ((l.drop 1).take 1)) (fT ((l.drop 2).take 1)) (fT ((l.drop 3).take 8)) (fT ((l.drop 11).take 4)) (fT ((l.drop 15).take 4))))/\bW w w':=by
 have W:∀ s,∀ x∈l.drop s,x<256:=λs x h=>hx x (U0 h);have k5:∀ s k,k<=7->fT ((l.drop s).take k)<256^k:=λs k hk=>by
  have hf:((l.drop s).take k).length<=k:=Jx
  exact T7 (xB _ ec (λx h=>W s x (UX h))) (UY ee hf)
 have V:Hw w (((w.alloc (Z4 #[Z5 (ZW ⟨b,off,ZX⟩) l.length 59] 40)).alloc (Z4 #[Z7 Z9 0,Z7 Z9 0,Z7 Z9 0,Z7 Z8 0,Z7 Z9 0,Z7 Z9 0] 142)).alloc (Z4 #[Z7 Z9 0,Z7 Z9 0,Z7 Z9 0,Z7 Z8 0,Z7 Z9 0,Z7 Z9 0] 142)) w.heap.size b off 59 l #[Z7 Z9 0,Z7 Z9 0,Z7 Z9 0,Z7 Z8 0,Z7 Z9 0,Z7 Z9 0]:=by
  refine ⟨?_,?_,?_,((bA w _).alloc ek _).alloc en _,abW (abW (abW hr _) _) _,hb⟩
  . rw [UF _ _ _ en,UF _ _ _ ek];exact Ug _ _
  . rw [UF _ _ _ ek];have:=Ug (w.alloc (Z4 #[Z5 (ZW ⟨b,off,ZX⟩) l.length 59] 40)) (Z4 #[Z7 Z9 0,Z7 Z9 0,Z7 Z9 0,Z7 Z8 0,Z7 Z9 0,Z7 Z9 0] 142);simpa using this
  . have:=Ug ((w.alloc (Z4 #[Z5 (ZW ⟨b,off,ZX⟩) l.length 59] 40)).alloc (Z4 #[Z7 Z9 0,Z7 Z9 0,Z7 Z9 0,Z7 Z8 0,Z7 Z9 0,Z7 Z9 0] 142)) (Z4 #[Z7 Z9 0,Z7 Z9 0,Z7 Z9 0,Z7 Z8 0,Z7 Z9 0,Z7 Z9 0] 142);simpa using this
 obtain ⟨w1,k6⟩:=nM (((w.alloc (Z4 #[Z5 (ZW ⟨b,off,ZX⟩) l.length 59] 40)).alloc (Z4 #[Z7 Z9 0,Z7 Z9 0,Z7 Z9 0,Z7 Z8 0,Z7 Z9 0,Z7 Z9 0] 142)).alloc (Z4 #[Z7 Z9 0,Z7 Z9 0,Z7 Z9 0,Z7 Z8 0,Z7 Z9 0,Z7 Z9 0] 142));rw [k6] at V;have a:=aE W k5 hl;have H0:b9 (Hw w w1 w.heap.size b (off+0) 59 (l.drop 0) #[Z7 Z9 0,Z7 Z9 0,Z7 Z9 0,Z7 Z8 0,Z7 Z9 0,Z7 Z9 0]):=V;clear V hr hx W k5 hl hb;go_enter func201,ntmps201;go_wp2_with fail;obtain ⟨f,X⟩:∃ x,fT ((l.drop 0).take 1)=x:=⟨_,rfl⟩;have b0:f<4294967296:=T7 (X▸a.o.2.1 0 1 ee) ee;have N:=H0.o;refine (jH w.heap.size b (off+0) 59 1 (l.drop 0) w1 N.box ee (a.o.1 0) N.rng T1 ee).mono ?_;rintro e y0 ⟨rfl,ke⟩;rw [X];have H:=N.step 1 0 (Z7 Z9 (f:Nat));obtain ⟨t,C⟩:=N.cells 1 0 _ rfl;rw [<- ke] at H t C;clear ke;obtain ⟨w2,k7⟩:∃ z,y0.setCell ⟨w.heap.size+1+1,0,ZX⟩ (Z7 Z9 (f:Nat))=z:=⟨_,rfl⟩;rw [k7] at H;have hq:Hw w w2 w.heap.size b (off+1) 58 (l.drop 1) #[Z7 Z9 (f:Nat),Z7 Z9 0,Z7 Z9 0,Z7 Z8 0,Z7 Z9 0,Z7 Z9 0]:=by
  rw [VG,Vv off] at H;exact H
 have H1:=ak hq;clear N H hq;go_wp2_with fail;obtain ⟨g,Y⟩:∃ x,fT ((l.drop 1).take 1)=x:=⟨_,rfl⟩;have b1:g<4294967296:=T7 (Y▸a.o.2.1 1 1 ee) ee;have O:=H1.o;refine (jH w.heap.size b (off+1) 58 1 (l.drop 1) w2 O.box ee (a.o.1 1) O.rng T1 ee).mono ?_;rintro e y1 ⟨rfl,kf⟩;rw [Y];have I:=O.step 1 1 (Z7 Z9 (g:Nat));obtain ⟨u,D⟩:=O.cells 1 1 _ rfl;rw [<- kf] at I u D;clear kf;obtain ⟨w3,k8⟩:∃ z,y1.setCell ⟨w.heap.size+1+1,1,ZX⟩ (Z7 Z9 (g:Nat))=z:=⟨_,rfl⟩;rw [k8] at I;have hs:Hw w w3 w.heap.size b (off+2) 57 (l.drop 2) #[Z7 Z9 (f:Nat),Z7 Z9 (g:Nat),Z7 Z9 0,Z7 Z8 0,Z7 Z9 0,Z7 Z9 0]:=by
  rw [VG,Vv off] at I;exact I
 have H2:=ak hs;clear O I hs;go_wp2_with fail;obtain ⟨i,Z⟩:∃ x,fT ((l.drop 2).take 1)=x:=⟨_,rfl⟩;have b2:i<4294967296:=T7 (Z▸a.o.2.1 2 1 ee) ee;have P:=H2.o;refine (jH w.heap.size b (off+2) 57 1 (l.drop 2) w3 P.box ee (a.o.1 2) P.rng T1 ee).mono ?_;rintro e y2 ⟨rfl,kg⟩;rw [Z];have J:=P.step 1 2 (Z7 Z9 (i:Nat));obtain ⟨y,E⟩:=P.cells 1 2 _ rfl;rw [<- kg] at J y E;clear kg;obtain ⟨w4,k9⟩:∃ z,y2.setCell ⟨w.heap.size+1+1,2,ZX⟩ (Z7 Z9 (i:Nat))=z:=⟨_,rfl⟩;rw [k9] at J;have hv:Hw w w4 w.heap.size b (off+3) 56 (l.drop 3) #[Z7 Z9 (f:Nat),Z7 Z9 (g:Nat),Z7 Z9 (i:Nat),Z7 Z8 0,Z7 Z9 0,Z7 Z9 0]:=by
  rw [VG,Vv off] at J;exact J
 have H3:=ak hv;clear P J hv;go_wp2_with fail;obtain ⟨m,kc⟩:∃ x,fT ((l.drop 3).take 8)=x:=⟨_,rfl⟩;have Q:=H3.o;refine (jH w.heap.size b (off+3) 56 8 (l.drop 3) w4 Q.box ee (a.o.1 3) Q.rng T1 ee).mono ?_;rintro e y3 ⟨rfl,kh⟩;rw [kc];have K:=Q.step 8 3 (Z7 Z8 (m:Nat));obtain ⟨A,F⟩:=Q.cells 8 3 _ rfl;rw [<- kh] at K A F;clear kh;obtain ⟨w5,ka⟩:∃ z,y3.setCell ⟨w.heap.size+1+1,3,ZX⟩ (Z7 Z8 (m:Nat))=z:=⟨_,rfl⟩;rw [ka] at K;have hy:Hw w w5 w.heap.size b (off+11) 48 (l.drop 11) #[Z7 Z9 (f:Nat),Z7 Z9 (g:Nat),Z7 Z9 (i:Nat),Z7 Z8 (m:Nat),Z7 Z9 0,Z7 Z9 0]:=by
  rw [VG,Vv off] at K;exact K
 have H4:=ak hy;clear Q K hy;go_wp2_with fail;obtain ⟨n,hn⟩:∃ x,fT ((l.drop 11).take 4)=x:=⟨_,rfl⟩;have b4:n<4294967296:=T7 (hn▸a.o.2.1 11 4 ee) ee;have R:=H4.o;refine (jH w.heap.size b (off+11) 48 4 (l.drop 11) w5 R.box ee (a.o.1 11) R.rng T1 ee).mono ?_;rintro e y4 ⟨rfl,ki⟩;rw [hn];have L:=R.step 4 4 (Z7 Z9 (n:Nat));obtain ⟨B,G⟩:=R.cells 4 4 _ rfl;rw [<- ki] at L B G;clear ki;obtain ⟨w6,kb⟩:∃ z,y4.setCell ⟨w.heap.size+1+1,4,ZX⟩ (Z7 Z9 (n:Nat))=z:=⟨_,rfl⟩;rw [kb] at L;have hz:Hw w w6 w.heap.size b (off+15) 44 (l.drop 15) #[Z7 Z9 (f:Nat),Z7 Z9 (g:Nat),Z7 Z9 (i:Nat),Z7 Z8 (m:Nat),Z7 Z9 (n:Nat),Z7 Z9 0]:=by
  rw [VG,Vv off] at L;exact L
 have H5:=ak hz;clear R L hz;go_wp2_with fail;obtain ⟨q,hp⟩:∃ x,fT ((l.drop 15).take 4)=x:=⟨_,rfl⟩;have b5:q<4294967296:=T7 (hp▸a.o.2.1 15 4 ee) ee;have S:=H5.o;refine (jH w.heap.size b (off+15) 44 4 (l.drop 15) w6 S.box ee (a.o.1 15) S.rng T1 ee).mono ?_;rintro e y5 ⟨rfl,kj⟩;rw [hp];have M:=S.step 4 5 (Z7 Z9 (q:Nat));obtain ⟨T,U⟩:=S.cells 4 5 _ rfl;rw [<- kj] at M T U;clear kj;obtain ⟨d,km⟩:∃ z,y5.setCell ⟨w.heap.size+1+1,5,ZX⟩ (Z7 Z9 (q:Nat))=z:=⟨_,rfl⟩;rw [km] at M;have k0:Hw w d w.heap.size b (off+19) 40 (l.drop 19) #[Z7 Z9 (f:Nat),Z7 Z9 (g:Nat),Z7 Z9 (i:Nat),Z7 Z8 (m:Nat),Z7 Z9 (n:Nat),Z7 Z9 (q:Nat)]:=by
  rw [VG,Vv off] at M;exact M
 have c:=ak k0;clear S M k0;have g0:d.cell? ⟨w.heap.size+1+1,0,ZX⟩=ZW (Z7 Z9 (f:Nat)):=Pl
 have g1:d.cell? ⟨w.heap.size+1+1,1,ZX⟩=ZW (Z7 Z9 (g:Nat)):=Pl
 have g2:d.cell? ⟨w.heap.size+1+1,2,ZX⟩=ZW (Z7 Z9 (i:Nat)):=Pl
 have g3:d.cell? ⟨w.heap.size+1+1,3,ZX⟩=ZW (Z7 Z8 (m:Nat)):=Pl
 have g4:d.cell? ⟨w.heap.size+1+1,4,ZX⟩=ZW (Z7 Z9 (n:Nat)):=Pl
 have g5:d.cell? ⟨w.heap.size+1+1,5,ZX⟩=ZW (Z7 Z9 (q:Nat)):=Pl
 have r0:d.cell? ⟨w.heap.size+1,0,ZX⟩=ZW (Z7 Z9 0):=Lx
 have r1:d.cell? ⟨w.heap.size+1,1,ZX⟩=ZW (Z7 Z9 0):=Lx
 have r2:d.cell? ⟨w.heap.size+1,2,ZX⟩=ZW (Z7 Z9 0):=Lx
 have r3:d.cell? ⟨w.heap.size+1,3,ZX⟩=ZW (Z7 Z8 0):=Lx
 have r4:d.cell? ⟨w.heap.size+1,4,ZX⟩=ZW (Z7 Z9 0):=Lx
 have r5:d.cell? ⟨w.heap.size+1,5,ZX⟩=ZW (Z7 Z9 0):=Lx
 have r:∀ k,d.frozen? ⟨w.heap.size+1,k,ZX⟩=ZU:=λk=>by simp [World.frozen?,c.o.res]
 have f0:=r 0;have f1:=r 1;have f2:=r 2;have f3:=r 3;have f4:=r 4;have f5:=r 5;clear r k6 k7 k8 k9 ka kb t u y A B C D E F G H0 H1 H2 H3 H4 H5;go_wp2;have hh:=ag (j:=5) (ag (j:=4) (ag (j:=3) (ag (j:=2) (ag (j:=1) (ag (j:=0) c.o.res (Z7 Z9 (f:Nat))) (Z7 Z9 (g:Nat))) (Z7 Z9 (i:Nat))) (Z7 Z8 (m:Nat))) (Z7 Z9 (n:Nat))) (Z7 Z9 (q:Nat));refine Ut (v:=.agg (aj f g i m n q)) (Wp results201 _ _ (w.heap.size+1) 142 (aj f g i m n q) (0,0) _ rfl hh XF rfl ei) rfl ?_;have kk:=c.o.below;refine ⟨?_,(((((kk.setCell (p:=⟨w.heap.size+1,0,ZX⟩) eP _).setCell (p:=⟨w.heap.size+1,1,ZX⟩) eP _).setCell (p:=⟨w.heap.size+1,2,ZX⟩) eP _).setCell (p:=⟨w.heap.size+1,3,ZX⟩) eP _).setCell (p:=⟨w.heap.size+1,4,ZX⟩) eP _).setCell (p:=⟨w.heap.size+1,5,ZX⟩) eP _⟩;rw [<- X,<- Y,<- Z,<- kc,<- hn,<- hp,Xy]
def dI:bG->ZS
 | .blank=>.iface 231 (.agg #[])
 | .root D L G t f n=>.iface 142 (.agg (aj D L G t f n))
 | .filled=>.iface 180 (.agg #[])
 | .shard l=>.iface 213 (.agg (aJ l).toArray)
def mb (h:cL w b l):w.rangeAt b 0 (aJ l):=λj v c=>by
 have:(aH l)[j]?=ZW v:=by unfold aH;simpa using c
 have a:w.heap[b]?=ZW (Z4 (aH l) 114 (0,0)):=h;simp [World.cell?,a,this]
def Ku (h:cL w b l) (i:Nat) (a:i<l.length):w.cell? ⟨b,i,ZX⟩=ZW (Z7 .u8 ((l.getD i 0:Nat):Int)):=by
 have:=mb h i (Z7 .u8 ((l.getD i 0:Nat):Int)) Y9;rwa [Uj] at this
def ts (l:a8) (i:Nat) (h:i<l.length):(l.drop i).take 1=[l.getD i 0]:=by
 rw [X5 h,Ub,Uc h];rfl
def Kv (hl:l.length=64) (a:l.getD 4 0=1):rP l=.root (fT ((l.drop 5).take 1)) (fT (((l.drop 5).drop 1).take 1)) (fT (((l.drop 5).drop 2).take 1)) (fT (((l.drop 5).drop 3).take 8)) (fT (((l.drop 5).drop 11).take 4)) (fT (((l.drop 5).drop 15).take 4)):=by
 unfold rP;rw [TT a,VG,VG,VG,VG,VG,ts l 5 ec,ts l (5+1) ec,ts l (5+2) ec]
def Bv:∀ (l:List ZS) (k:Nat) (z:Array ZS),((l.zipIdx k).foldl (λcs x=>cs.setIfInBounds x.2 x.1) z).size=z.size/\∀ i,((l.zipIdx k).foldl (λcs x=>cs.setIfInBounds x.2 x.1) z)[i]?=if k<=i/\i<k+l.length/\i<z.size then l[i-k]? else z[i]?
 | [],k,z=>⟨rfl,λi=>by
  show z[i]?=if k<=i/\i<k+0/\i<z.size then _ else z[i]?;rw [TS ec]⟩
 | v::l,k,z=>by
  obtain ⟨b,c⟩:=Bv l (k+1) (z.setIfInBounds k v);rw [List.zipIdx_cons,Xc];refine ⟨by rw [b];simp,λi=>?_⟩;rw [c i,Array.size_setIfInBounds,abN];simp only [UA];by_cases e:k=i
  . subst e;rw [TS ec,TT rfl];by_cases a:k<z.size
    . rw [TT a,TT ec,Xb];rfl
    . rw [TS a,TS ec];simp [a]
  . rw [TS e];by_cases a:k+1<=i/\i<k+1+l.length/\i<z.size
    . rw [TT a,TT ec,(ec:i-k=(i-(k+1))+1)];rfl
    . rw [TS a,TS ec]
theorem xC (z a:Array ZS) (n:Nat) (g:z.size=n) (c:a.size=n):YK (λcs x=>cs.setIfInBounds x.snd x.fst) z a.zipIdx 0 n=a:=by
 have e:YK (λcs x=>cs.setIfInBounds x.snd x.fst) z a.zipIdx 0 n=(a.toList.zipIdx).foldl (λcs x=>cs.setIfInBounds x.2 x.1) z:=by
  rw [<- c,(ek:a.size=a.zipIdx.size),<- Array.foldl_toList,Array.toList_zipIdx]
 rw [e];obtain ⟨d,b⟩:=Bv a.toList 0 z;apply YN;intro i;rw [b i];by_cases f:i<n
 . rw [TT en];simp
 . rw [TS ec];simp [Xo (ec:z.size<=i),Xo (ec:a.size<=i)]
theorem Hx (l:a8) (w:ZT) (hl:l.length=64) (m:∀ x∈l,x<256) :
 ZQ ZM 183 #[.agg (aH l)] w λe w'=>e=Z3 (dI (rP l))/\bW w w':=by
 have p:=cL.new w l;have c:bW w (w.alloc (Z4 (aH l) 114)):=bA w _;have b:(w.alloc (Z4 (aH l) 114)).heap.size=w.heap.size+1:=ek
 obtain ⟨w1,G⟩:=nM (w.alloc (Z4 (aH l) 114));rw [G] at p c b;have t:=Ku p 4 ec;have j:w1.rangeAt w.heap.size 5 (aJ (l.drop 5)):=by have:=fZ 5 (mb p);rwa [Uj] at this
 have i:w1.rangeAt w.heap.size 20 (aJ (l.drop 20)):=by have:=fZ 20 (mb p);rwa [Uj] at this
 have k:∀ x∈l.drop 5,x<256:=λx h=>m x (U0 h);have d:(l.drop 5).length=59:=by rw [Um,hl]
 have f:(l.drop 20).length=44:=by rw [Um,hl]
 by_cases g:l.getD 4 0=1
 . have a:=Kv hl g;rw [g] at t;have q:=Ej w.heap.size 5 (l.drop 5) w1 d k j ec;rw [d] at q;rw [a];obtain ⟨ra,v⟩:=nM (aj (fT ((l.drop 5).take 1)) (fT (((l.drop 5).drop 1).take 1)) (fT (((l.drop 5).drop 2).take 1)) (fT (((l.drop 5).drop 3).take 8)) (fT (((l.drop 5).drop 11).take 4)) (fT (((l.drop 5).drop 15).take 4)));rw [v] at q;have E:=ak v;clear v;have H:=al c b;clear a i j k f m d c b;go_enter func183,ntmps183;go_wp2_with fail;refine q.mono ?_;rintro e w2 ⟨rfl,B⟩;clear q;have D:=ak B;clear B;go_wp2;go_ret;exact ⟨by rw [show dI (.root (fT ((l.drop 5).take 1)) (fT (((l.drop 5).drop 1).take 1)) (fT (((l.drop 5).drop 2).take 1)) (fT (((l.drop 5).drop 3).take 8)) (fT (((l.drop 5).drop 11).take 4)) (fT (((l.drop 5).drop 15).take 4)))=.iface 142 (.agg ra) from (by unfold dI;rw [<- E.o])];rfl,H.o.1.trans (D.o.mono (e9 H.o.2))⟩
 . by_cases n:l.getD 4 0=2
   . have a:rP l=.filled:=(by unfold rP;rw [TS g,TT n]);rw [n] at t;rw [a];have H:=al c b;clear a i j k f m d c b;unfold dI;go_enter func183,ntmps183;go_wp2;go_ret;exact ⟨rfl,H.o.1⟩
   . by_cases u:l.getD 4 0=3
     . have a:rP l=.shard (l.drop 20):=(by unfold rP;rw [TS g,TS n,TT u]);rw [u] at t;rw [a];have H:=a5 c b i f;clear a i j k f m d c b;have I:∀ (s:ZP) (w:ZT),(Instr.arrayAt 211 (Z5 (ZW s) 44 44)).run ZM w=.ok (Z6 (ZW s)) w:=λs w=>by simp [Instr.arrayAt,UL abX]
       have C:(aJ (l.drop 20)).toArray.size=44:=(by rw [UH,aX];exact H.o.2.2.2);go_enter func183,ntmps183;obtain ⟨r,y⟩:=nM ((aJ (l.drop 20)).toArray);rw [y] at C;have A:=ak y;go_wp2_with (refine abO rfl 211 (Z0 17) rfl w.heap.size 20 rfl (aJ (l.drop 20)) _ H.o.2.2.1 abX rfl (by rw [aX,H.o.2.2.2];kernel_rfl) ?_;rw [A.o];clear y);have F:∀ z:Array ZS,z.size=44->YK (λcs x=>cs.setIfInBounds x.snd x.fst) z r.zipIdx 0 44=r:=λz b=>xC z r 44 b C;rw [F _ rfl];go_ret;exact ⟨by rw [show dI (.shard (l.drop 20))=.iface 213 (.agg r) from (by unfold dI;rw [<- A.o])];rfl,H.o.1⟩
     . have a:rP l=.blank:=(by unfold rP;rw [TS g,TS n,TS u]);rw [a];have H:=al c b;have J:¬ ((l.getD 4 0:Nat):Int)=1:=ec;have K:¬ ((l.getD 4 0:Nat):Int)=2:=ec;have L:¬ ((l.getD 4 0:Nat):Int)=3:=ec;clear a i j k f m d c b;generalize l.getD 4 0=x at *;unfold dI;go_enter func183,ntmps183;go_wp2;go_ret;exact ⟨rfl,H.o.1⟩
def spl (l:a8) (off:Nat) (src:a8):a8:=l.take off++(src++l.drop (off+src.length))
def zH (h:off+src.length<=l.length):(spl l off src).length=l.length:=by unfold spl;simp;omega
def By (h:ZN) (p:cL w b l) (r:Bs w v src) (i:src≠[]) (y:src.length<=n) (t:off+src.length<=l.length) :
 (Builtin.copy_ #[40,40] h #[Z5 (ZW ⟨b,off,ZX⟩) n cap,v]).run ZM w=.ok (Z7 Z9 (src.length:Nat)) (w.setRow b (aH (spl l off src))):=by
 obtain ⟨ao,c,rfl,z,A,B,k⟩:=r;obtain ⟨g,o,rfl,s⟩:=k i;have m:=run_copy_row (P:=ZM) w 40 40 h 5 b off n cap ⟨g,o,ZX⟩ src.length c (aH l) 114 (aJ src) Un ei p (by rw [aX];exact (Wo y).symm) (λj u f=>by
  have a:j<src.length:=by obtain ⟨q,_⟩:=Va.1 f;rwa [aX] at q
  rw [Vo,s j a,<- f];unfold aJ;rw [UD,Uc a,Ub,Uc a];rfl) (by rw [aX,iu];exact t) (λu d=>by
  unfold aJ at d;rw [T9] at d;obtain ⟨x,_,rfl⟩:=d;rfl)
 rw [m];have e:(YL off (aH l).toList++aJ src++List.drop (off+(aJ src).length) (aH l).toList).toArray=aH (spl l off src):=by
  rw [wW,aX];unfold aH spl;rw [bJ,bJ,Uz];unfold aJ;rw [WJ,WK]
 simp only [Uz] at e ⊢;rw [e,aX];rfl
structure Kw (w0 w:ZT) (r b:Nat) (l:a8):Prop where
 res:cL w r zb
 blk:cL w b l
 below:bW w0 w
 rs:r=w0.heap.size
 bs:b=w0.heap.size+1
def Kw.new (w:ZT):Kw w ((w.alloc (Z4 (aH zb) 114)).alloc (Z4 (aH zb) 114)) w.heap.size (w.heap.size+1) zb:=by
 refine ⟨(UF _ _ _ ek).trans (Ug _ _),?_,(bA w _).alloc ek _,rfl,rfl⟩;have:=Ug (w.alloc (Z4 (aH zb) 114)) (Z4 (aH zb) 114);simpa [cL] using this
def Kw.mono (h:Kw w0 w r b l) (a:bW w w'):Kw w0 w' r b l:=
 ⟨h.res.keep (a.block _ h.res.lt),h.blk.keep (a.block _ h.blk.lt),h.below.trans (a.mono (by have:=h.res.lt;have:=h.rs;omega)),h.rs,h.bs⟩
def Kw.set (h:Kw w0 w r b l) (a:aa (λk=>k=b) w w') (c:cL w' b l'):Kw w0 w' r b l':=
 ⟨h.res.keep (a.block _ h.res.lt (λe=>by have:=h.rs;have:=h.bs;omega)),c,h.below.trans (a.below λk d=>⟨by have:=h.blk.lt;have:=h.bs;omega,λe=>e9 h.bs⟩),h.rs,h.bs⟩
def bV.below (h:bV w) (b:ZR B w w') (a:2<B):bV w':=λj c=>(b.cell (p:=⟨2,j,ZX⟩) a).trans (h j c)
def bV.lt (h:bV w):2<w.heap.size:=Uf (h 0 ee)
theorem N3 {body:a8} (c:body.length<=60):spl (spl zb 4 body) 0 (be (nR ((spl zb 4 body).drop 4)) 4)=eI body:=by
 have a:(spl zb 4 body).drop 4=body++YF (60-body.length) 0:=by
  unfold spl;rw [Xe (by simp [zb]),show (YL 4 zb).drop 4=[] by simp [zb]];simp only [Uq];congr 1;unfold zb;rw [X7];congr 1;omega
 have b:∀ (X s:a8),spl X 0 s=s++X.drop s.length:=λX s=>by unfold spl;rw [Wq,Uq,Uj]
 rw [b,aD,a];rfl
def Qo (b:∀ x∈l,x<256) (c:∀ x∈src,x<256):∀ x∈spl l off src,x<256:=by
 intro x a;unfold spl at a;simp only [Ui] at a;rcases a with h|h|h
 . exact b x (UX h)
 . exact c x h
 . exact b x (U0 h)
def aav:∀ x∈zb,x<256:=λx a=>e9 (VF a)
theorem Bz (w:ZT):ZQ ZM 150 #[dI .blank] w λe w'=>e=Z3 (.agg (aH bG.blank.blk))/\bW w w':=by
 have j:=zeroBlk;have b:=Kw.new w;obtain ⟨w1,h⟩:=nM ((w.alloc (Z4 (aH zb) 114)).alloc (Z4 (aH zb) 114));rw [h] at b;have c:=ak b;clear b;unfold dI;go_enter func150,ntmps150;go_wp2_with fail;refine (Ei w1).mono ?_;rintro e w2 ⟨rfl,d⟩;have f:=c.o.mono d;have a:=ak f;clear f d c;go_wp2_with (first|(refine r9 rfl (Z0 3) rfl (w.heap.size+1) zb rfl a.o.blk dD ?_)|(refine iH rfl (Z0 2) (Z0 19) rfl w.heap.size zb zb rfl rfl a.o.res dD dD ?_));have g:=a.o.res.setRow zb;refine Ut (v:=.agg (aH zb)) (Wp results150 _ _ w.heap.size 114 (aH zb) (0,0) _ rfl g XA rfl (iw dD)) rfl ?_;exact ⟨rfl,a.o.below.trans ⟨rfl,rfl,rfl,V1,λk i=>(aY _ _ _).block k (e9 a.o.res.lt) (λe=>Zb)⟩⟩
def xD (r:bG):Prop:=∀ w,bV w->ZQ ZM 150 #[dI r] w λe w'=>e=Z3 (.agg (aH r.blk))/\bW w w'
theorem tw {r:bG} {ty:ZN} {ra:Array ZS} (P:dI r=.iface ty (.agg ra)) (C:(ty=142/\f=254)\/(ty=180/\f=266)\/(ty=213/\f=267)) (Q:∀ w,ZQ ZM f #[.agg ra] w λe w'=>∃ v,e=Z3 v/\Bs w' v r.body/\bW w w') (K:r.ok) (m:0<r.body.length):xD r:=λw X=>by
 have hz:=zeroBlk;have E:=Kw.new w;obtain ⟨w1,ke⟩:=nM ((w.alloc (Z4 (aH zb) 114)).alloc (Z4 (aH zb) 114));rw [ke] at E;have W:=nS K;have J:=rZ K;have O:r.blk=eI r.body:=by unfold bG.blk;rw [TS (λe=>by rw [e] at m;cases m)]
 have F:=Q w1;rw [O,P];obtain ⟨body,N⟩:=nM (r.body);rw [N] at W J m F ⊢;have s:=aE E J X;clear E J X K O N Q P;rcases C with ⟨rfl,rfl⟩|⟨rfl,rfl⟩|⟨rfl,rfl⟩<;>(
  go_enter func150,ntmps150;go_wp2_with fail;refine F.mono ?_;clear F;rintro e w2 ⟨v,rfl,H,U⟩;have t:=s.o.1.mono U;obtain ⟨ao,c,rfl,k9,ka,kb,kc⟩:=id H;have Z:body≠[]:=by intro e;rw [e] at m;simp at m
  have z:=By (n:=60) (cap:=60) (off:=4) 3 t.blk H Z ec (by rw [dD];omega);have u:Kw w (w2.setRow (w.heap.size+1) (aH (spl zb 4 body))) w.heap.size (w.heap.size+1) (spl zb 4 body):=t.set (aa.setRow (S:=λk=>k=w.heap.size+1) _ _ _ rfl) (t.blk.setRow _);obtain ⟨d,k6⟩:=nM (w2.setRow (w.heap.size+1) (aH (spl zb 4 body)));rw [k6] at z u;have hv3:bV d:=s.o.2.2.below u.below s.o.2.2.lt;have g:=al u hv3;clear t H U k9 ka kb kc k6 u hv3 Z;go_wp2_with fail;have p:(spl zb 4 body).length=64:=by rw [zH (by rw [dD];omega),dD]
  obtain ⟨l,hl⟩:=nM (spl zb 4 body);have M:=Qo aav s.o.2.1 (off:=4);have B:=N3 W;rw [hl] at p g M B;obtain ⟨j,Y⟩:∃ c,nR (l.drop 4)=c:=⟨_,rfl⟩;have kf:j<4294967296:=Y▸zw _;have I:Bs d.drew (Z5 (ZW ⟨w.heap.size+1,4,ZX⟩) (l.drop 4).length 60) (l.drop 4):=Bs.mid (by rw [Um,p];decide) (by rw [Um,p];decide) (λx h=>M x (U0 h)) (by have:=fZ 4 (mb g.o.1.blk);rw [Uj] at this;exact this);rw [show (l.drop 4).length=60 by rw [Um,p]] at I;have G:=NX _ _ _ I (g.o.2.below ((TW _ d).drew) g.o.2.lt);rw [Y] at G B;have T:=fY d.heap.size (Z5 ZX 0 0) 0 [] j 4 d.drew (UK _ _ _ _) lR ee ee;refine dr 5 [(0,ZV),(1,ZV),(2,ZU),(3,ZV),(4,ZU),(5,ZU)] (λ_=>True) ei ei trivial ?_;iterate 2 (refine aF rfl rfl ?_;apply YH;refine ⟨λw' _=>?_,?_⟩;(first|(go_simp;done)|(go_simp;exact rfl));simp only [Act.put,TZ,TY,T5])
  refine fG G rfl rfl ua ?_;rintro e D ⟨rfl,rfl⟩;refine ⟨_,rfl,λ_=>trivial,?_⟩;simp only [Act.put,TZ,TY,T5];refine aF rfl rfl ⟨Z7 Z8 (j:Nat),λw' _=>by go_simp;rw [Vb];omega,?_⟩;simp only [Act.put,TZ,TY,T5];refine fG T rfl rfl ua ?_;rintro e D ⟨v4,rfl,k5,R,-⟩;refine ⟨_,rfl,λ_=>trivial,?_⟩;simp only [Act.put,TZ,TY,T5];have V:bW d D:=((TW _ d).drew).trans (R.below λk C=>⟨C,λq=>by simp [Value.ownBlock] at q⟩);have y:=g.o.1.mono V;have z:=By (n:=4) (cap:=64) (off:=0) 3 y.blk (Bs.Se k5 (qT _ _) acv) (by intro e;have:=aD j 4;rw [e] at this;cases this) acv (by rw [aD,p];decide);refine eJ rfl rfl (by simp only [execOp,resolve,invoke,builtin,UE,VP,UT,YC,U1,Wr];exact Ux (λr=>Result.andThen r λa w'=>Result.ok (Next.value a) w') z) (absurd rfl) (cH ?_);have b:=y.set (aa.setRow (S:=λk=>k=w.heap.size+1) D _ (aH (spl l 0 (be j 4))) rfl) (y.blk.setRow _);rw [B] at b ⊢;have A:(eI body).length=64:=by unfold eI;simp [aD];omega
  obtain ⟨sb,L⟩:=nM (eI body);rw [L] at b A ⊢;obtain ⟨w5,k7⟩:=nM (D.setRow (w.heap.size+1) (aH sb));rw [k7] at b ⊢;have k8:=ak L;have i:=ak b;clear b y V z k5 R L k7 G T I B M hl;rename_i hK
  refine hK _ _ ?_;clear hK;simp only [Act.put,TZ,TY,T5];go_wp2_with (first|(refine r9 rfl (Z0 3) rfl (w.heap.size+1) sb rfl i.o.blk A ?_)|(refine iH rfl (Z0 2) (Z0 19) rfl w.heap.size sb zb rfl rfl i.o.res dD A ?_));have b:=i.o.res.setRow sb;refine Ut (v:=.agg (aH sb)) (Wp results150 _ _ w.heap.size 114 (aH sb) (0,0) _ rfl b XA rfl (iw A)) rfl ?_;exact ⟨by rw [k8.out],i.o.below.trans ⟨rfl,rfl,rfl,V1,λk C=>(aY _ _ _).block k (e9 i.o.res.lt) (λe=>Zb)⟩⟩)
def BA:xD .blank:=λw _=>Bz w
def Ek {D L G t f:Nat} (a:(bG.root D L G t f n).ok):xD (.root D L G t f n):=tw rfl (.inl ⟨rfl,rfl⟩) (λw=>Hv D L G t f n w a) a Zh
def Tryz.SQ:ZM.cellsOf 5=1:=ei
def xE (l:a8) (i:Nat) (a:i<l.length) (w:ZT):(part 5 (aH l) (i*1)).run ZM w=.ok (Z7 .u8 ((l.getD i 0:Nat):Int)) w:=by
 have b:(aH l)[i]?=ZW (Z7 .u8 ((l.getD i 0:Nat):Int)):=by
  unfold aH aJ;rw [Xq,UD,Uc a,Ub,Uc a];rfl
 rw [Wg];have c:=Xr;simp [part,isAgg,UL c,b]
theorem BB (d:Nat) (l1 a:a8) (w:ZT):∀ (b:a8),(∀ i∈b,i<l1.length/\i<a.length)->(Op.eqItems (d+1) 5 1 (aH l1) (aH a) b).run ZM w=.ok (b.all λi=>l1.getD i 0==a.getD i 0) w
 | [],_=>by simp [Op.eqItems]
 | i::b,h=>by
  obtain ⟨k,l⟩:=h i ek;have ih:=BB d l1 a w b (λj n=>h j (by simp [n]));have m:=run_equalIn_int (P:=ZM) (w:=w) d 5 .u8 .u8 ((l1.getD i 0:Nat):Int) ((a.getD i 0:Nat):Int) Xr;simp only [Op.eqItems,UE,xE l1 i k w,xE a i l w,UT,m,List.all_cons];generalize l1.getD i 0=x;generalize a.getD i 0=y;by_cases e:x=y
  . subst e;rw [TS ek,ih];simp
  . have c:¬ ((x:Nat):Int)=((y:Nat):Int):=λq=>e ec;have f:((x:Int)==(y:Int))=ZU:=(oD c);have g:(x==y)=ZU:=(oD e);rw [f,g];simp
theorem Kx {l1 l2:a8} (c:l1.length=64) (d:l2.length=64):((YE 64).all λi=>l1.getD i 0==l2.getD i 0)=decide (l1=l2):=by
 rw [Ys,WU,V4];constructor
 . intro h;refine Vc ec λi a b=>?_;have:=h i (Ur.2 ec);simpa [a,b] using this
 . rintro rfl i _;simp
def Qp (l1 a:a8) (c:l1.length=64) (d:a.length=64) (w:ZT):(Op.equalIn 10000 114 (.agg (aH l1)) (.agg (aH a))).run ZM w=.ok (decide (l1=a)) w:=by
 obtain ⟨g,b,_⟩:=Uu Tryz.R4;rw [show (10000:Nat)=9998+1+1 from rfl,run_equalIn_array w (9998+1) (t:=114) (e:=5) (n:=64) (aH l1) (aH a) XA b,Tryz.SQ,BB 9998 l1 a w _ (λi f=>e9 (Ur.1 f)),Kx c d]
theorem aM.SO (h:aM w b l):w.heap[b]?=ZW (Z4 (aJ l).toArray 5 (0,0)):=by
 obtain ⟨c,d,g,f⟩:=h;have e:c=(aJ l).toArray:=by
  apply YN;intro i;by_cases a:i<l.length
  . rw [f i a];unfold vb aJ;simp [Ub,Uc a]
  . rw [Xo ec,Xo (by rw [UH,aX];omega)]
 rw [<- e];exact d
def aM.TK (h:w.heap[b]?=ZW (Z4 (aJ l).toArray 5 (0,0))):aM w b l:=
 ⟨_,h,by rw [UH,aX],λi a=>by
  unfold vb aJ;simp [Ub,Uc a]⟩
def BC (h:ZN) (d:aM w b l) (t:Bs w v src) (A:src.length<=n) (z:off+src.length<=l.length) :
 ∃ w',(Builtin.copy_ #[40,40] h #[Z5 (ZW ⟨b,off,ZX⟩) n cap,v]).run ZM w=.ok (Z7 Z9 (src.length:Nat)) w'/\aM w' b (spl l off src)/\w.grownBy w' (ZW b):=by
 obtain ⟨ao,c,rfl,B,C,D,r⟩:=t;have m:(ZM.info? 5).map (λi=>i.size)=ZW 1:=ei
 by_cases k:src=[]
 . subst k;refine ⟨w,run_copy_none (P:=ZM) w 40 40 h 5 (ZW ⟨b,off,ZX⟩) ao n cap 0 c Un m ek,?_,Wx _ _⟩;have e:spl l off []=l:=(by unfold spl;simp);rw [e];exact d
 . obtain ⟨g,o,rfl,y⟩:=r k;have s:=run_copy_row (P:=ZM) w 40 40 h 5 b off n cap ⟨g,o,ZX⟩ src.length c (aJ l).toArray 5 (aJ src) Un m d.SO (by rw [aX];exact (Wo A).symm) (λj u p=>by
    have a:j<src.length:=(by obtain ⟨q,_⟩:=Va.1 p;rwa [aX] at q);rw [Vo,y j a,<- p];unfold aJ;rw [UD,Uc a,Ub,Uc a];rfl) (by rw [aX,UH,aX];exact z) (λu f=>by
    unfold aJ at f;rw [T9] at f;obtain ⟨x,_,rfl⟩:=f;rfl)
   have e:(YL off (aJ l)++aJ src++List.drop (off+(aJ src).length) (aJ l)).toArray=(aJ (spl l off src)).toArray:=by
    rw [aX];unfold spl;rw [bJ,bJ,Uz];unfold aJ;rw [WJ,WK]
   refine ⟨w.setRow b (aJ (spl l off src)).toArray,?_,aM.TK (Vt w b (aJ l).toArray (aJ (spl l off src)).toArray _ _ d.SO),aY _ _ _⟩;rw [s];simp only [Uz] at e ⊢;rw [e,aX];rfl
def Hy (w:ZT) (a:Nat):(w.alloc (Z4 #[Z7 .u8 (a:Int)] 5)).ownsRow w.heap.size 5 1 (Z5 (ZW ⟨w.heap.size,0,ZX⟩) 1 1) 1 (aJ [a]):=
 ⟨rfl,.inr ⟨w.heap.size,1,_,rfl,TV _,Ug _ _,TV _,eD,rfl,rfl⟩⟩
theorem BD (w:ZT):ZQ ZM 266 #[.agg #[]] w λe w'=>∃ v,e=Z3 v/\Bs w' v bG.filled.body/\bW w w':=by
 have ho:=Hy (w.alloc (Z4 #[] 180)) 2;have a:bW w ((w.alloc (Z4 #[] 180)).alloc (Z4 #[Z7 .u8 ((2:Nat):Int)] 5)):=(bA w _).alloc ek _;have H:=al ho a;clear ho a;go_enter func266,ntmps266;go_wp2;go_ret;have b:=Bs.Se H.o.1 (λx c=>by simp at c;omega) ee;simp only [Ul] at b;exact ⟨_,rfl,b,H.o.2⟩
theorem El (l:a8) (w:ZT) (I:(bG.shard l).ok) :
 ZQ ZM 267 #[.agg (aJ l).toArray] w λe w'=>∃ v,e=Z3 v/\Bs w' v (bG.shard l).body/\bW w w':=by
 obtain ⟨hl,G⟩:=I;have z:=Ug w (Z4 (aJ l).toArray 213);have i:bW w (w.alloc (Z4 (aJ l).toArray 213)):=bA w _;have A:(w.alloc (Z4 (aJ l).toArray 213)).heap.size=w.heap.size+1:=ek
 have J:(aJ l).toArray.size=44:=by rw [UH,aX,hl]
 obtain ⟨w1,E⟩:=nM (w.alloc (Z4 (aJ l).toArray 213));rw [E] at z i A;obtain ⟨ra,s⟩:=nM ((aJ l).toArray);have H:=a6 z i A G s;rw [s] at E J ⊢;clear z i A G s;go_enter func267,ntmps267;go_wp2_with (at_make;refine cP _ rfl (.const (Z7 Z9 60)) (.const (Z7 Z9 60)) rfl _ 60 rfl rfl rfl ec ?_;intro w2 x C P;have c0:=x.cell 0 ee;have N:=x.frozen 0);have f:aM (w2.setCell ⟨w1.heap.size,0,ZX⟩ (Z7 .u8 3)) w1.heap.size ((YF 60 0).set 0 3):=x.set 0 3;have K:=H.o.2.2.1;have q:(w2.setCell ⟨w1.heap.size,0,ZX⟩ (Z7 .u8 3)).heap[w.heap.size]?=ZW (Z4 (aJ l).toArray 213 (0,0)):=(Ud _ _ _ _ (by show w.heap.size≠w1.heap.size;omega)).trans ((C.block _ ec).trans H.o.1);have c:bW w (w2.setCell ⟨w1.heap.size,0,ZX⟩ (Z7 .u8 3)):=(H.o.2.1.trans (C.mono ec)).setCell (p:=⟨w1.heap.size,0,ZX⟩) (by show w.heap.size<=w1.heap.size;omega) _;obtain ⟨d,F⟩:=nM (w2.setCell ⟨w1.heap.size,0,ZX⟩ (Z7 .u8 3));rw [F] at f q c ⊢;have h:Bs d.drew (Z5 (ZW ⟨w.heap.size,0,ZX⟩) l.length 44) l:=Bs.mid ec ec H.o.2.2.2.1 (λj u L=>by
  have:(aJ l).toArray[j]?=ZW u:=oD L
  show d.cell? _=_;simp [World.cell?,q,this])
 rw [hl] at h;obtain ⟨M,m,g,b⟩:=BC (w:=d.drew) (n:=44) (cap:=44) (off:=16) 3 f h ec en;rw [K] at m;refine dr 99 [(0,ZV),(1,ZV),(2,ZV),(3,ZV),(4,ZU)] (λ_=>True) ei ei trivial ?_;iterate 4 (refine aF rfl rfl ?_;apply YH;refine ⟨λw' _=>?_,?_⟩;(first|(go_simp;done)|(go_simp;exact rfl));simp only [Act.put,TZ,TY,T5])
 refine eJ rfl rfl (by simp [execOp,Act.eval,resolve,invoke,builtin];exact Ux (λr=>Result.andThen r λa w'=>Result.ok (Next.value a) w') m) (λ_=>trivial) (cH ?_);have D:bW w M:=c.trans ⟨b.os,b.tape,b.output,b.size,λk O=>b.block k (by have:=c.size;show k<d.heap.size;omega) (λe=>Zb)⟩;have y:spl ((YF 60 0).set 0 3) 16 l=(bG.shard l).body:=by
  unfold spl bG.body;rw [hl];simp [YF]
 rw [y] at g;have t:=Bs.Sl (n:=60) g (by rw [<- y,zH (by simp [hl])];simp) ee (rZ (r:=.shard l) ⟨hl,H.o.2.2.2.1⟩);rw [UI (nS (r:=.shard l) ⟨hl,H.o.2.2.2.1⟩),show (bG.shard l).body.length=60 by rw [<- y,zH (by simp [hl])];simp] at t;have B:=al t D;clear t D g c q f m b h F;rename_i hK
 refine hK _ _ ?_;clear hK;simp only [Act.put,TZ,TY,T5];go_wp2;go_ret;exact ⟨_,rfl,B.o.1,B.o.2⟩
def zI:xD .filled:=tw rfl (.inr (.inl ⟨rfl,rfl⟩)) (λw=>BD w) trivial Zh
def BE (a:(bG.shard l).ok):xD (.shard l):=tw rfl (.inr (.inr ⟨rfl,rfl⟩)) (λw=>El l w a) a Zh
def BF (a:∀ x∈l,x<256) (i:Nat):l.getD i 0<256:=by
 rw [Ub];cases h:l[i]? with
 | none=>decide
 | some x=>exact a x (List.mem_of_getElem? h)
theorem Qq (hl:l.length=64) (b:∀ x∈l,x<256):(rP l).ok:=by
 have c:∀ n,fT ((l.drop n).take 4)<4294967296:=λn=>by
  have a:=xB ((l.drop n).take 4) Jx (λx h=>b x (U0 (UX h)));have d:((l.drop n).take 4).length<=4:=Jx
  exact T7 a (TU (UY ee d) ee)
 have a:∀ n,fT [l.getD n 0]<256:=λn=>by rw [r6 _ (BF b n)];exact BF b n
 unfold rP;split
 . exact ⟨a _,a _,a _,P9 _,c _,c _⟩
 . split
   . trivial
   . split
     . exact ⟨by rw [Um,hl],λx h=>b x (U0 h)⟩
     . trivial
def xF {r:bG} (h:r.ok):xD r:=by
 cases r with
 | blank=>exact BA
 | root D L G t f n=>exact Ek h
 | filled=>exact zI
 | shard l=>exact BE h
def ofV:Option bG->ZS
 | some r=>ZZ #[dI r,Z1 ZV]
 | none=>ZZ #[.nilIface,Z1 ZU]
theorem Qr (l:a8) (w:ZT) (hl:l.length=64) (t:∀ x∈l,x<256) (D:bV w) :
 ZQ ZM 153 #[.agg (aH l)] w λe w'=>e=Z3 (ofV (JW l))/\bW w w':=by
 have s:=Qq hl t;have C:=xF s;have p:=cL.new w l;have i:bW w (w.alloc (Z4 (aH l) 114)):=bA w _;obtain ⟨w1,G⟩:=nM (w.alloc (Z4 (aH l) 114));rw [G] at p i;have d:=Hx l w1 hl t;obtain ⟨r,k⟩:=nM (rP l);have B:JW l=if r.blk=l then ZW r else ZX:=by unfold JW;rw [k]
 rw [k] at d C s;obtain ⟨rv,m⟩:=nM (dI r);rw [m] at d;have c:=al m B;have b:=al p i;clear t p i m B k;go_enter func153,ntmps153;go_wp2_with (refine r9 rfl (Z0 1) rfl w.heap.size l rfl b.o.1 hl ?_);refine d.mono ?_;rintro e w2 ⟨rfl,g⟩;have z:=b.o.1.keep (g.block _ b.o.1.lt);have y:=b.o.2.trans (g.mono b.o.2.size);have a:=al z y;clear d g z y;go_wp2_with fail;have n:=D.below a.o.2 D.lt;have j:=C w2.drew (n.below ((TW _ w2).drew) n.lt);rw [c.o.1] at j;refine dr 3 [(0,ZV),(2,ZV),(1,ZU),(3,ZU)] (λw'=>cL w' w.heap.size l) ei ei a.o.1 ?_;refine aF rfl rfl ⟨rv,λw' _=>ua,?_⟩;simp only [Act.put,TZ,TY,T5];refine aF rfl rfl ⟨.agg (aH l),λw' F=>by simp [execOp,Act.eval,nh F hl],?_⟩;simp only [Act.put,TZ,TY,T5];refine fG j rfl rfl ua ?_;rintro e E ⟨rfl,h⟩;refine ⟨_,rfl,λ_=>a.o.1.keep (h.block _ a.o.1.lt),?_⟩;simp only [Act.put,TZ,TY,T5];refine eJ (v:=Z1 (!decide (r.blk=l))) (w1:=E) rfl rfl (by go_simp;rw [Qp r.blk l (F8 s) hl E];rfl) (absurd rfl) (cH ?_);have u:=ak (a.o.2.trans ((((TW _ w2).drew).trans h).mono a.o.2.size));clear h j n;rename_i hK
 by_cases q:r.blk=l
 . rw [q,UZ (rfl:l=l)];have f:=ak q;clear q;refine hK _ _ ?_;clear hK;simp only [Act.put,TZ,TY,T5];go_wp2;go_ret2;refine ⟨?_,u.o⟩;rw [c.o.2,TT f.o,<- c.o.1];rfl
 . rw [Vr q];obtain ⟨bl,A⟩:=nM (aH r.blk);rw [A];have f:=ak q;clear q A;refine hK _ _ ?_;clear hK;simp only [Act.put,TZ,TY,T5];go_wp2;go_ret2;refine ⟨?_,u.o⟩;rw [c.o.2,TS f.o];rfl
section
open Go.Extern.Stop Go.Stop Go.Extern
def Tryz.TE (t:ZP) (w:ZT):(ReflectliteValue.unpack (.iface 107 (Z6 (ZW t)))).run ZM w
 = .ok (.agg #[Z6 (ZW ⟨3,107,ZX⟩),Z6 (ZW ⟨w.heap.size,0,ZX⟩),Z7 Z8 150]) (w.alloc (Z4 #[Z6 (ZW t)] 107)):=ei
def Tryz.typeP (a:ZP) (w:ZT):(ReflectliteValue.methodAny (ReflectliteValue.valueError "reflectlite.Value.Type" 0) (λt _ _ _=>ReflectliteType.toType t) #[.agg #[Z6 (ZW ⟨3,107,ZX⟩),Z6 (ZW a),Z7 Z8 150]]).run ZM w
 = .ok (.iface 157 (.agg #[Z6 (ZW ⟨3,107,ZX⟩)])) w:=ei
def Tryz.SZ (h:ZS) (w:ZT):(YG 479 157 (.agg #[h]) "Kind").run ZM w=.ok (246,h) w:=ei
def Tryz.kindP (w:ZT):((ReflectliteType.abiMethod λt=>(λa:Nat=>Value.int IntKind.u8 (a:Int)) <$> Rtype.kind t) #[Z6 (ZW ⟨3,107,ZX⟩)]).run ZM w=.ok (Z7 .u8 22) w:=ei
def Tryz.kindE (w:ZT):((ReflectliteType.abiMethod λt=>(λa:Nat=>Value.int IntKind.u8 (a:Int)) <$> Rtype.kind t) #[Z6 (ZW ⟨3,66,ZX⟩)]).run ZM w=.ok (Z7 .u8 2) w:=ei
def Tryz.TP (a:ZP) (w:ZT):(ReflectliteValue.parts (.agg #[Z6 (ZW ⟨3,107,ZX⟩),Z6 (ZW a),Z7 Z8 150])).run ZM w=.ok (ZW (107,a,150)) w:=ei
def Tryz.isNilP (a p:ZP) (W:ZT) (b:W.cell? a=ZW (Z6 (ZW p))) :
 (ReflectliteValue.method (ReflectliteValue.valueError "reflectlite.Value.IsNil" 0) ReflectliteValue.isNil #[.agg #[Z6 (ZW ⟨3,107,ZX⟩),Z6 (ZW a),Z7 Z8 150]]).run ZM W=.ok (Z1 ZU) W:=by
 refine X4 (Ux (λz=>Sem.run ZM z W) (show ReflectliteValue.method _ _ #[.agg #[Z6 (ZW ⟨3,107,ZX⟩),Z6 (ZW a),Z7 Z8 150]]=(ReflectliteValue.parts (.agg #[Z6 (ZW ⟨3,107,ZX⟩),Z6 (ZW a),Z7 Z8 150]) >>= _) from rfl)) ?_;simp only [UE,Tryz.TP,Result.andThen];simp [ReflectliteValue.isNil,loadVar,isAgg,underlying,underlying107,b,Result.andThen]
def Tryz.SR (h:ZS) (w:ZT):(YG 479 157 (.agg #[h]) "Elem").run ZM w=.ok (258,.agg #[h]) w:=ei
def Tryz.Sg (h:ZS) (w:ZT):(YG 479 157 (.agg #[h]) "Implements").run ZM w=.ok (259,.agg #[h]) w:=ei
def Tryz.R9 (h:ZS) (w:ZT):(YG 479 157 (.agg #[h]) "AssignableTo").run ZM w=.ok (256,.agg #[h]) w:=ei
def Tryz.elemP (w:ZT):(ReflectliteType.method ReflectliteType.elem #[.agg #[Z6 (ZW ⟨3,107,ZX⟩)]]).run ZM w=.ok (.iface 157 (.agg #[Z6 (ZW ⟨3,66,ZX⟩)])) w:=ei
def Tryz.SH (w:ZT):(ReflectliteType.relation "Implements" ReflectliteType.implements_ #[.agg #[Z6 (ZW ⟨3,66,ZX⟩)],.iface 157 (.agg #[Z6 (ZW ⟨3,64,ZX⟩)])]).run ZM w=.ok (Z1 ZV) w:=ei
def Tryz.SC (v:ZS) (w:ZT):(ReflectliteType.typeOf #[.iface 66 v]).run ZM w=.ok (.iface 157 (.agg #[Z6 (ZW ⟨3,66,ZX⟩)])) w:=ei
def Tryz.SM (w:ZT):(ReflectliteType.relation "AssignableTo" ReflectliteType.assignableTo #[.agg #[Z6 (ZW ⟨3,66,ZX⟩)],.iface 157 (.agg #[Z6 (ZW ⟨3,66,ZX⟩)])]).run ZM w=.ok (Z1 ZV) w:=ei
def Tryz.Tv (x:Int) (w:ZT):(ReflectliteValue.unpack (.iface 66 (Z7 Z9 x))).run ZM w
 = .ok (.agg #[Z6 (ZW ⟨3,66,ZX⟩),Z6 (ZW ⟨w.heap.size,0,ZX⟩),Z7 Z8 130]) (w.alloc (Z4 #[Z7 Z9 x] 66)):=ei
def Tryz.elemOfP (w:ZT):(Rtype.elem? 107).run ZM w=.ok (ZW 66) w:=ei
def Tryz.mkE (p:ZP) (w:ZT):(ReflectliteValue.mk 66 p ReflectliteValue.flagAddr).run ZM w=.ok (.agg #[Z6 (ZW ⟨3,66,ZX⟩),Z6 (ZW p),Z7 Z8 386]) w:=ei
def Tryz.elemVP (a p:ZP) (W:ZT) (b:W.cell? a=ZW (Z6 (ZW p))) :
 (ReflectliteValue.method (ReflectliteValue.valueError "reflectlite.Value.Elem" 0) ReflectliteValue.elem #[.agg #[Z6 (ZW ⟨3,107,ZX⟩),Z6 (ZW a),Z7 Z8 150]]).run ZM W
  = .ok (.agg #[Z6 (ZW ⟨3,66,ZX⟩),Z6 (ZW p),Z7 Z8 386]) W:=by
 refine X4 (Ux (λz=>Sem.run ZM z W) (show ReflectliteValue.method _ _ #[.agg #[Z6 (ZW ⟨3,107,ZX⟩),Z6 (ZW a),Z7 Z8 150]]=(ReflectliteValue.parts (.agg #[Z6 (ZW ⟨3,107,ZX⟩),Z6 (ZW a),Z7 Z8 150]) >>= _) from rfl)) ?_;simp only [UE,Tryz.TP,Result.andThen];simp [ReflectliteValue.elem,loadVar,isAgg,underlying,underlying107,b,Result.andThen,Tryz.elemOfP,Tryz.mkE]
def Tryz.partsEa (a:ZP) (w:ZT):(ReflectliteValue.parts (.agg #[Z6 (ZW ⟨3,66,ZX⟩),Z6 (ZW a),Z7 Z8 386])).run ZM w=.ok (ZW (66,a,386)) w:=ei
def Tryz.partsE (a:ZP) (w:ZT):(ReflectliteValue.parts (.agg #[Z6 (ZW ⟨3,66,ZX⟩),Z6 (ZW a),Z7 Z8 130])).run ZM w=.ok (ZW (66,a,130)) w:=ei
def Tryz.directE (w:ZT):(Rtype.directlyAssignable 66 66).run ZM w=.ok ZV w:=ei
def Tryz.setE (a b:ZP) (x:Int) (old:ZS) (W:ZT) (c:W.cell? b=ZW (Z7 Z9 x)) (e:W.cell? a=ZW old) (d:W.frozen? a=ZU) :
 (ReflectliteValue.set #[.agg #[Z6 (ZW ⟨3,66,ZX⟩),Z6 (ZW a),Z7 Z8 386],.agg #[Z6 (ZW ⟨3,66,ZX⟩),Z6 (ZW b),Z7 Z8 130]]).run ZM W
  = .ok (ZZ #[]) (W.setCell a (Z7 Z9 x)):=by
 refine X4 (Ux (λz=>Sem.run ZM z W) (show ReflectliteValue.set #[.agg #[Z6 (ZW ⟨3,66,ZX⟩),Z6 (ZW a),Z7 Z8 386],.agg #[Z6 (ZW ⟨3,66,ZX⟩),Z6 (ZW b),Z7 Z8 130]]=(ReflectliteValue.parts (.agg #[Z6 (ZW ⟨3,66,ZX⟩),Z6 (ZW a),Z7 Z8 386]) >>= λp=>ReflectliteValue.parts (.agg #[Z6 (ZW ⟨3,66,ZX⟩),Z6 (ZW b),Z7 Z8 130]) >>= (_:_->Sem ZS)) from rfl)) ?_;simp only [UE,Tryz.partsEa,Tryz.partsE,Result.andThen];simp [ReflectliteValue.flagAddr,loadVar,isAgg,underlying,underlying66,c,Result.andThen,Tryz.directE,storeVar,Value.cells,storeCells,Addr.add];rw [run_store ZM W a _ _ um];simp [e,d]
theorem Qs (x:Int) (t:ZP) (old:ZS) (w:ZT) (c:w.cell? ⟨0,0,ZX⟩=ZW (.iface 157 (.agg #[Z6 (ZW ⟨3,64,ZX⟩)]))) (a:w.cell? t=ZW old) (f:w.frozen? t=ZU) :
 ZQ ZM 40 #[.iface 66 (Z7 Z9 x),.iface 107 (Z6 (ZW t))] w λd w'=>d=Z3 (Z1 ZV)/\w'=((((w.alloc (Z4 #[Z6 (ZW t)] 107)).alloc (Z4 #[Z6 (ZW ⟨3,107,ZX⟩),Z6 (ZW ⟨w.heap.size,0,ZX⟩),Z7 Z8 150] 124)).alloc (Z4 #[Z6 (ZW ⟨3,107,ZX⟩),Z6 (ZW ⟨w.heap.size,0,ZX⟩),Z7 Z8 150] 124)).alloc (Z4 #[Z7 Z9 x] 66)).setCell t (Z7 Z9 x):=by
 have o := @run_callFunc_extern ZM 55 _ (λargs=>ReflectliteValue.unpack (args.getD 0 (ZZ #[]))) func55 ei ei ei ei;have p := @run_callFunc_extern ZM 56 _ (ReflectliteValue.methodAny (ReflectliteValue.valueError "reflectlite.Value.Type" 0) (λt _ _ _=>ReflectliteType.toType t)) func56 ei ei ei ei;have q := @run_callFunc_extern ZM 57 _ (ReflectliteValue.method (ReflectliteValue.valueError "reflectlite.Value.IsNil" 0) ReflectliteValue.isNil) func57 ei ei ei ei;have u := @run_callFunc_extern ZM 246 _ (ReflectliteType.abiMethod λt=>do pure (Z7 .u8 (<- Rtype.kind t))) func246 ei ei ei ei;have y := @run_callFunc_extern ZM 258 _ (ReflectliteType.method ReflectliteType.elem) func258 ei ei ei ei;have z := @run_callFunc_extern ZM 259 _ (ReflectliteType.relation "Implements" ReflectliteType.implements_) func259 ei ei ei ei;have n := @run_callFunc_extern ZM 80 _ ReflectliteType.typeOf func80 ei ei ei ei;have v := @run_callFunc_extern ZM 256 _ (ReflectliteType.relation "AssignableTo" ReflectliteType.assignableTo) func256 ei ei ei ei;have r := @run_callFunc_extern ZM 81 _ (ReflectliteValue.method (ReflectliteValue.valueError "reflectlite.Value.Elem" 0) ReflectliteValue.elem) func81 ei ei ei ei;have s := @run_callFunc_extern ZM 82 _ ReflectliteValue.set func82 ei ei ei ei;have J:=Tryz.SC;have E:=Tryz.R9;have i:=Tryz.SM;have K:=Tryz.Tv;have l:=Tryz.TE;have m:=Tryz.typeP;have H:=Tryz.SZ;have F:=Tryz.SR;have G:=Tryz.Sg;have D:=Tryz.kindP;have C:=Tryz.kindE;have j:=Tryz.elemP;have B:=Tryz.SH;have I:=Tryz.isNilP ⟨w.heap.size,0,ZX⟩ t ((w.alloc (Z4 #[Z6 (ZW t)] 107)).alloc (Z4 #[Z6 (ZW ⟨3,107,ZX⟩),Z6 (ZW ⟨w.heap.size,0,ZX⟩),Z7 Z8 150] 124)) ek;have g:0<w.heap.size:=by
  rcases WG w.heap.size with e|h
  . simp [World.cell?,e] at c
  . exact h
 have A:((w.alloc (Z4 #[Z6 (ZW t)] 107)).alloc (Z4 #[Z6 (ZW ⟨3,107,ZX⟩),Z6 (ZW ⟨w.heap.size,0,ZX⟩),Z7 Z8 150] 124)).cell? ⟨0,0,ZX⟩=ZW (.iface 157 (.agg #[Z6 (ZW ⟨3,64,ZX⟩)])):=by
  rw [WZ _ _ ⟨0,0,ZX⟩ ek,WZ _ _ ⟨0,0,ZX⟩ g];exact c
 have b:t.block<w.heap.size:=by
  rcases X3 t.block w.heap.size with h|h
  . exact h
  . simp [World.cell?,Xo h] at a
 have k:=Tryz.elemVP ⟨w.heap.size,0,ZX⟩ t (((w.alloc (Z4 #[Z6 (ZW t)] 107)).alloc (Z4 #[Z6 (ZW ⟨3,107,ZX⟩),Z6 (ZW ⟨w.heap.size,0,ZX⟩),Z7 Z8 150] 124)).alloc (Z4 #[Z6 (ZW ⟨3,107,ZX⟩),Z6 (ZW ⟨w.heap.size,0,ZX⟩),Z7 Z8 150] 124)) (by rw [WZ _ _ ⟨w.heap.size,0,ZX⟩ en];simp);have st:=Tryz.setE t ⟨w.heap.size+1+1+1,0,ZX⟩ x old ((((w.alloc (Z4 #[Z6 (ZW t)] 107)).alloc (Z4 #[Z6 (ZW ⟨3,107,ZX⟩),Z6 (ZW ⟨w.heap.size,0,ZX⟩),Z7 Z8 150] 124)).alloc (Z4 #[Z6 (ZW ⟨3,107,ZX⟩),Z6 (ZW ⟨w.heap.size,0,ZX⟩),Z7 Z8 150] 124)).alloc (Z4 #[Z7 Z9 x] 66))
  (by rw [World.cell?_alloc_at _ _ _ _ ek];rfl)
  (by rw [WZ _ _ t en,WZ _ _ t en,WZ _ _ t en,WZ _ _ t b];exact a)
  (by rw [YD _ _ t en,YD _ _ t en,YD _ _ t en,YD _ _ t (Nat.ne_of_lt b)];exact f)
 go_enter func40,ntmps40;go_wp2;refine VH 1 ?_;rw [Vz];go_wp2;go_ret;exact ⟨rfl,rfl⟩
theorem lA (w:ZT) :
 ZQ ZM 20 #[.nilIface] w λe w'=>e=Z3 (Z7 Z9 0)/\bW w w':=by
 go_enter func20,ntmps20;go_wp2;go_ret;exact ⟨rfl,bA _ _⟩
theorem Em (x:Int) (w:ZT) (a:w.cell? ⟨0,0,ZX⟩=ZW (.iface 157 (.agg #[Z6 (ZW ⟨3,64,ZX⟩)]))) :
 ZQ ZM 20 #[.iface 66 (Z7 Z9 x)] w λe w'=>e=Z3 (Z7 Z9 x)/\bW w w':=by
 have d:0<w.heap.size:=by
  rcases WG w.heap.size with b|h
  . simp [World.cell?,b] at a
  . exact h
 have c:(w.alloc (Z4 #[Z7 Z9 0] 66)).cell? ⟨0,0,ZX⟩=ZW (.iface 157 (.agg #[Z6 (ZW ⟨3,64,ZX⟩)])):=by
  rw [WZ _ _ ⟨0,0,ZX⟩ d];exact a
 go_enter func20,ntmps20;go_wp2_with (go_at_call 40;refine (Qs x ⟨w.heap.size,0,ZX⟩ (Z7 Z9 0) _ c ek ek).mono ?_;rintro e w' ⟨rfl,rfl⟩);go_ret;refine ⟨rfl,?_⟩;repeat (first|exact TW _ _|refine Xs ?_ ek _|refine Below.alloc ?_ (by (try simp only [Uh]);omega) _)
theorem nW (x:Int) (w:ZT) :
 ZQ ZM 30 #[Z7 Z9 x] w λe w'=>e=Z3 (Z7 Z9 x)/\w'=w:=by
 go_enter func30,ntmps30;go_wp2;go_ret;exact ⟨rfl,rfl⟩
end
def Tryz.Tm:(ZM.info? 66).map (λi=>i.comparable)=ZW ZV:=ei
def xG (n m:Int) (w:ZT):(binOp .eql 64 (.iface 66 (Z7 Z9 n)) (.iface 66 (Z7 Z9 m))).run ZM w=.ok (Z1 (n==m)) w:=by
 obtain ⟨i,f,c⟩:=Wk.1 Tryz.Tm;have a:∀ d,(Op.equalIn (d+1) 66 (Z7 Z9 n) (Z7 Z9 m)).run ZM w=.ok (n==m) w:=λd=>run_equalIn_int (w:=w) d 66 .i64 .i64 n m underlying66;have b:∀ d,(Op.equalIn (d+1+1) 64 (.iface 66 (Z7 Z9 n)) (.iface 66 (Z7 Z9 m))).run ZM w=.ok (n==m) w:=λd=>by
  rw [Op.equalIn];simp [UE,UL underlying64,UT,typeInfo,f,c,a d]
 have e:=b 9998;simp only [binOp];simp [Op.equal,Op.maxDepth,e]
theorem Hz (n:Int) (a:n≠13) (w:ZT):ZQ ZM 107 #[.iface 66 (Z7 Z9 n),.iface 66 (Z7 Z9 13),Z1 ZV] w λe w'=>e=Z3 (Z1 ZU)/\w'=w:=by
 have f:∀ w,(binOp .eql 64 (.iface 66 (Z7 Z9 n)) (.iface 66 (Z7 Z9 13))).run ZM w=.ok (Z1 ZU) w:=λw=>by rw [xG];simp [a]
 have b:∀ w:ZT,(Instr.typeAssert (.iface 66 (Z7 Z9 n)) 64 246 ZV).run ZM w=.ok (ZZ #[.nilIface,Z1 ZU]) w:=λw=>Xt abY ei ei _ _ w;have c:∀ w:ZT,(Instr.typeAssert (.iface 66 (Z7 Z9 n)) 64 165 ZV).run ZM w=.ok (ZZ #[.nilIface,Z1 ZU]) w:=λw=>Xt abZ ei ei _ _ w;have d:∀ w:ZT,(Instr.typeAssert (.iface 66 (Z7 Z9 n)) 64 166 ZV).run ZM w=.ok (ZZ #[.nilIface,Z1 ZU]) w:=λw=>Xt underlying166 ei ei _ _ w;go_enter func107,ntmps107;go_wp2;refine VH 1 ?_;rw [Vz];go_wp2;go_ret;exact ⟨rfl,rfl⟩
theorem Ky (n:Int) (a:n≠13) (w:ZT):ZQ ZM 76 #[.iface 66 (Z7 Z9 n),.iface 66 (Z7 Z9 13)] w λe w'=>e=Z3 (Z1 ZU)/\w'=w:=by
 have d:=Tryz.SC (Z7 Z9 13);have b := @run_callFunc_extern ZM 80 _ Extern.ReflectliteType.typeOf func80 ei ei ei ei;have f:∀ (h:ZS) (w:ZT),(YG 479 157 (.agg #[h]) "Comparable").run ZM w=.ok (257,.agg #[h]) w:=λh w=>ei
 have c:∀ w:ZT,(callFunc 257 #[.agg #[Z6 (ZW ⟨3,66,ZX⟩)]]).run ZM w=.ok (.value (Z1 ZV)) w:=λw=>ei
 go_enter func76,ntmps76;go_wp2_with fail;refine (Hz n a w).mono ?_;rintro e w' ⟨rfl,rfl⟩;go_wp2;go_ret;exact ⟨rfl,rfl⟩
theorem zJ (n:Int) (w:ZT):ZQ ZM 76 #[.nilIface,.iface 66 (Z7 Z9 n)] w λe w'=>e=Z3 (Z1 ZU)/\w'=w:=by
 have a:∀ d w,(Op.equalIn (d+1) 64 .nilIface (.iface 66 (Z7 Z9 n))).run ZM w=.ok ZU w:=λd w=>by
  simp only [Op.equalIn,UE,UL underlying64,UT];rfl
 have b:∀ w,(Op.equalIn 10000 64 .nilIface (.iface 66 (Z7 Z9 n))).run ZM w=.ok ZU w:=λw=>a 9999 w;have c:∀ w,(binOp .eql 64 .nilIface (.iface 66 (Z7 Z9 n))).run ZM w=.ok (Z1 ZU) w:=λw=>by
  simp only [binOp];simp [Op.equal,Op.maxDepth,b]
 clear a b;go_enter func76,ntmps76;go_wp2;go_ret;exact ⟨rfl,rfl⟩
theorem Kz (w:ZT):ZQ ZM 151 #[.nilIface] w λe w'=>e=Z3 (ZZ #[])/\w'=w:=by
 go_enter func151,ntmps151;go_wp2_with fail;refine (zJ 13 w).mono ?_;rintro e w' ⟨rfl,rfl⟩;go_wp2;first|go_end0|skip
 exact ⟨rfl,rfl⟩
def si (q:Nat):ZS:=.iface 269 (Z6 (ZW ⟨q,0,ZX⟩))
def ga (w:ZT) (q d b:Nat) (n:Int):Prop:=w.heap[q]?=ZW (Z4 #[Z7 Z9 d,Z7 Z9 b,Z7 Z9 n] 271 (0,0))
def ga.lt {n:Int} (h:ga w q d b n):q<w.heap.size:=(TX.1 h).1
def ga.cell {n:Int} (h:ga w q d b n):w.cell? ⟨q,2,ZX⟩=ZW (Z7 Z9 n):=by
 have a:w.heap[q]?=_:=h;simp [World.cell?,a]
def ga.new (w:ZT) (d b:Nat) (n:Int):ga (w.alloc (Z4 #[Z7 Z9 d,Z7 Z9 b,Z7 Z9 n] 271)) w.heap.size d b n:=Ug w _
def ga.below {n:Int} (h:ga w q d b n) (a:bW w w'):ga w' q d b n:=(a.block _ h.lt).trans h
def Ia (q:Nat) (m:Int) (w:ZT):(binOp .eql 64 (si q) (.iface 66 (Z7 Z9 m))).run ZM w=.ok (Z1 ZU) w:=by
 have a:∀ d,(Op.equalIn (d+1) 64 (.iface 269 (Z6 (ZW ⟨q,0,ZX⟩))) (.iface 66 (Z7 Z9 m))).run ZM w=.ok ZU w:=λd=>by
  rw [Op.equalIn];simp [UE,UL underlying64,UT]
 have b:=a 9999;unfold si;simp only [binOp];simp [Op.equal,Op.maxDepth,b]
theorem En {n:Int} (h:ga w q d b n):ZQ ZM 270 #[Z6 (ZW ⟨q,0,ZX⟩)] w λe w'=>e=Z3 (.iface 66 (Z7 Z9 n))/\w'=w:=by
 have c:=h.cell;go_enter func270,ntmps270;go_wp2;go_ret;exact ⟨rfl,rfl⟩
theorem Ib {n:Int} (h:ga w q d b n) (m:Int):ZQ ZM 107 #[si q,.iface 66 (Z7 Z9 m),Z1 ZV] w λe w'=>e=Z3 (Z1 (n==m))/\w'=w:=by
 have a:=Ia q m;have c:=xG n m;have b1:∀ w:ZT,(Instr.typeAssert (si q) 64 246 ZV).run ZM w=.ok (ZZ #[.nilIface,Z1 ZU]) w:=λw=>Xt abY ei ei _ _ w;have b2:∀ w:ZT,(Instr.typeAssert (si q) 64 165 ZV).run ZM w=.ok (ZZ #[si q,Z1 ZV]) w:=λw=>run_typeAssert_hasB abZ ei _ _ w;have g:∀ w:ZT,(Instr.typeAssert (.iface 66 (Z7 Z9 n)) 64 246 ZV).run ZM w=.ok (ZZ #[.nilIface,Z1 ZU]) w:=λw=>Xt abY ei ei _ _ w;have i:∀ w:ZT,(Instr.typeAssert (.iface 66 (Z7 Z9 n)) 64 165 ZV).run ZM w=.ok (ZZ #[.nilIface,Z1 ZU]) w:=λw=>Xt abZ ei ei _ _ w;have j:∀ w:ZT,(Instr.typeAssert (.iface 66 (Z7 Z9 n)) 64 166 ZV).run ZM w=.ok (ZZ #[.nilIface,Z1 ZU]) w:=λw=>Xt underlying166 ei ei _ _ w;have k:∀ w:ZT,(YG 479 269 (Z6 (ZW ⟨q,0,ZX⟩)) "Unwrap").run ZM w=.ok (270,Z6 (ZW ⟨q,0,ZX⟩)) w:=λw=>ei
 have f:=En h;unfold si at a b1 b2 ⊢;clear h;cases h2:(n==m)<;>(
  rw [h2] at c;go_enter func107,ntmps107;go_wp2;refine VH 2 ?_;rw [Vz];go_wp2_with fail;refine f.mono ?_;rintro e w' ⟨rfl,rfl⟩;go_wp2;rw [Vz];go_wp2;go_ret;exact ⟨rfl,rfl⟩)
theorem BG {n:Int} (h:ga w q d b n) (m:Int):ZQ ZM 76 #[si q,.iface 66 (Z7 Z9 m)] w λe w'=>e=Z3 (Z1 (n==m))/\w'=w:=by
 have g:=Tryz.SC (Z7 Z9 m);have c := @run_callFunc_extern ZM 80 _ Extern.ReflectliteType.typeOf func80 ei ei ei ei;have i:∀ (h:ZS) (w:ZT),(YG 479 157 (.agg #[h]) "Comparable").run ZM w=.ok (257,.agg #[h]) w:=λh w=>ei
 have f:∀ w:ZT,(callFunc 257 #[.agg #[Z6 (ZW ⟨3,66,ZX⟩)]]).run ZM w=.ok (.value (Z1 ZV)) w:=λw=>ei
 have a:=Ib h m;unfold si at a ⊢;clear h;generalize (n==m)=nm at a ⊢;go_enter func76,ntmps76;go_wp2_with fail;refine a.mono ?_;rintro e w' ⟨rfl,rfl⟩;go_wp2;go_ret;exact ⟨rfl,rfl⟩
theorem tA {n:Int} (h:ga w q d b n) (c:n≠13):ZQ ZM 151 #[si q] w λe w'=>e=Z3 (ZZ #[])/\w'=w:=by
 have a:=BG h 13;rw [(oD c:(n==13)=ZU)] at a;unfold si at a ⊢;clear h;go_enter func151,ntmps151;go_wp2_with fail;refine a.mono ?_;rintro e w' ⟨rfl,rfl⟩;go_wp2;first|go_end0|skip
 exact ⟨rfl,rfl⟩
section
variable {w:ZT} {p:Nat} {R:eQ} {F:aK}
def Qt (w:ZT) (d b:Nat) (R:eQ) (F:aK) (e:ZO) (w':ZT):Prop:=(R.lost d=ZU/\e=Z3 (ZZ #[Z6 (ZW ⟨F.g,d*4,ZX⟩),.nilIface])/\w'=w)\/(R.lost d=ZV/\e=Z3 (ZZ #[.pointer ZX,si w.heap.size])/\w'=w.alloc (Z4 #[Z7 Z9 d,Z7 Z9 b,Z7 Z9 11] 271))
theorem Gh (h:ah w p R F) (d b:Nat) (e:d<R.n) (m:b<R.nb) :
 ZQ ZM 181 #[Z6 (ZW ⟨p,0,ZX⟩),Z7 Z9 d,Z7 Z9 b] w (Qt w d b R F):=by
 obtain ⟨c0,c1⟩:=h.RQ;obtain ⟨a,d1,f,r,g⟩:=h.R3 d e;have i:¬ (d:Int)<0:=ec
 have j:¬ (R.n:Int)<=(d:Int):=ec
 have c:(d:Int)<(R.n:Int):=ec
 have k:¬ (b:Int)<0:=ec
 have l:¬ (R.nb:Int)<=(b:Int):=ec
 clear h;cases hl:R.lost d<;>(
  rw [hl] at a;go_enter func181,ntmps181;go_wp2;go_ret2;first|exact .inl ⟨hl,rfl,rfl⟩|exact .inr ⟨hl,rfl,rfl⟩)
def Qu (w:ZT) (p d b:Nat) (R:eQ) (F:aK) (e:ZO) (w':ZT):Prop:=
 ah w' p R F/\aa F.S w w'/\((R.lost d=ZU/\R.bad d b=ZU/\e=Z3 (ZZ #[.agg (aH (R.blk d b)),.nilIface]))\/((R.lost d=ZV\/R.bad d b=ZV)/\∃ q,e=Z3 (ZZ #[.agg (aH zb),si q])/\w.heap.size<=q/\ga w' q d b (if R.lost d=ZV then 11 else 12)))
theorem N4 (h:ah w p R F) (d b:Nat) (E:d<R.n) (M:b<R.nb) :
 ZQ ZM 152 #[Z6 (ZW ⟨p,0,ZX⟩),Z7 Z9 d,Z7 Z9 b] w (Qu w p d b R F):=by
 have hz:=zeroBlk;have L:=(h.len d b).1;have c:=h.alloc (Z4 (aH zb) 114);have A:=cL.new w zb;have y:∀ k,F.S k->k<w.heap.size:=λk G=>h.RN G;have u:aa F.S w (w.alloc (Z4 (aH zb) 114)):=aa.alloc w _;have e3:¬ (b:Int)<0:=ec
 have e4:(b:Int)<(R.nb:Int):=ec
 obtain ⟨w1,Q⟩:=nM (w.alloc (Z4 (aH zb) 114));have hr:w1.heap.size=w.heap.size+1:=by rw [<- Q];simp
 rw [Q] at c A u;have i:∀ (a:ZT) (l:a8),ah a p R F->aa F.S w a->ah (a.setRow w.heap.size (aH l)) p R F/\aa F.S w (a.setRow w.heap.size (aH l))/\∀ j,j≠w.heap.size->j<a.heap.size->(a.setRow w.heap.size (aH l)).heap[j]?=a.heap[j]?:=λa l O X=>by
  have P:∀ j,j≠w.heap.size->j<a.heap.size->(a.setRow w.heap.size (aH l)).heap[j]?=a.heap[j]?:=λj Y hl=>(aY a w.heap.size (aH l)).block j hl (λe=>by cases e;exact Y rfl);exact ⟨O.keep λk G=>P k (e9 (y k G)) (O.RN G),X.later (T:=λk=>k=w.heap.size) (aa.setRow _ _ _ rfl) λk G e=>absurd e ec,P⟩
 have J:=Gh c d b E M;have H:=a6 c A u y i;clear h c A u y i;go_enter func152,ntmps152;go_wp2_with fail;refine J.mono ?_;rintro e w2 (⟨hl,rfl,rfl⟩|⟨hl,rfl,N⟩)
 . obtain ⟨c,A,u,y,i⟩:=H.o;obtain ⟨d0,d1,d2,r,d3⟩:=c.R3 d E;have hn:=c.Sa (d*4+3);obtain ⟨a,I⟩:=nM (w2.setCell ⟨F.g,d*4+3,ZX⟩ (Z7 Z9 (wrap64 (r+1))));have m:=c.count d (wrap64 (r+1));rw [I] at m;obtain ⟨q0,q1,q2,_⟩:=m.R3 d E;have V:a.cell? ⟨F.bd d,b,ZX⟩=ZW (Z1 (R.bad d b)):=(m.bad d E).cell M;have qr:a.rangeAt (F.bb d) (b*64) (aJ (R.blk d b)):=m.range E M;have hs:a.heap.size=w2.heap.size:=(by rw [<- I];simp [World.setCell]);have f:cL a w.heap.size zb:=A.keep (by rw [<- I];exact Ud _ _ _ _ (by have:=y _ c.sg;show w.heap.size≠F.g;omega));have z:aa F.S w a:=u.trans (by rw [<- I];exact aa.setCell _ _ _ c.sg);cases h6:R.bad d b with
   | false=>
    rw [h6] at V;have x:=a5 m z i f;clear c A u y i m z f J;go_wp2_with (first|(refine D7 rfl (Z0 46) rfl (F.bb d) (b*64) (R.blk d b) rfl qr L ?_)|(refine iH rfl (Z0 6) (Z0 47) rfl w.heap.size (R.blk d b) zb rfl rfl x.o.2.2.2 dD L ?_));obtain ⟨m,z,i,f⟩:=x.o;refine Ut (v:=ZZ #[.agg (aH (R.blk d b)),.nilIface]) (fF results152 _ _ _ _ _ rfl rfl (lx (f.setRow _) L)) rfl ?_;obtain ⟨C,D,_⟩:=i _ (R.blk d b) m z;exact ⟨C,D,.inl ⟨hl,h6,rfl⟩⟩
   | true=>
    rw [h6] at V;obtain ⟨W,U⟩:=nM (a.alloc (Z4 #[Z7 Z9 d,Z7 Z9 b,Z7 Z9 12] 271));obtain ⟨q,B⟩:=nM (w.heap.size+1);have Z:a.heap.size=q:=ec;have s:ga W q d b 12:=(by rw [<- U,<- Z];exact ga.new _ _ _ _);have t:bW a W:=(by rw [<- U];exact bA a _);have x:=a7 (m.below t lR) (z.trans (aa.RL t _)) i (f.keep (t.block _ f.lt)) s (ec:w.heap.size<q);clear c A u y i m z f J s t;go_wp2_with (refine iH rfl (Z0 6) (Z0 35) rfl w.heap.size zb zb rfl rfl (by exact x.o.2.2.2.1) dD dD ?_);obtain ⟨m,z,i,f,s,hp⟩:=x.o;refine Ut (v:=ZZ #[.agg (aH zb),.iface 269 (Z6 (ZW ⟨q,0,ZX⟩))]) (fF results152 _ _ _ _ _ rfl rfl (lx (f.setRow _) dD)) rfl ?_;obtain ⟨C,D,K⟩:=i _ zb m z;exact ⟨C,D,.inr ⟨.inr h6,q,rfl,ec,by rw [hl];exact (K q ec s.lt).trans s⟩⟩
 . obtain ⟨q,B⟩:=nM (w1.heap.size);have s:ga w2 q d b 11:=(by rw [N,<- B];exact ga.new _ _ _ _);have t:bW w1 w2:=(by rw [N];exact bA w1 _);rw [B];unfold si;have f:=H.o.2.1.keep (t.block _ H.o.2.1.lt);have x:=a5 s t f B;clear s t f B N J;go_wp2_with (refine iH rfl (Z0 6) (Z0 19) rfl w.heap.size zb zb rfl rfl x.o.2.2.1 dD dD ?_);obtain ⟨s,t,f,B⟩:=x.o;obtain ⟨c,A,u,y,i⟩:=H.o;refine Ut (v:=ZZ #[.agg (aH zb),.iface 269 (Z6 (ZW ⟨q,0,ZX⟩))]) (fF results152 _ _ _ _ _ rfl rfl (lx (f.setRow _) dD)) rfl ?_;obtain ⟨C,D,K⟩:=i _ zb (c.below t lR) (u.trans (aa.RL t _));exact ⟨C,D,.inr ⟨.inl hl,q,rfl,ec,by rw [TT hl];exact (K q ec s.lt).trans s⟩⟩
def wbR (A:eQ) (d b:Nat) (l:a8):eQ:=A.RT d λm=>if m=b then l else A.blk d m
def wrR (A:eQ) (d b:Nat) (l:a8):eQ:=(wbR A d b l).RZ d λm=>if m=b then ZU else A.bad d m
def Qv (w:ZT) (p d b:Nat) (l:a8) (R:eQ) (F:aK) (x:ZS) (w':ZT):Prop:=aa F.S w w'/\((R.lost d=ZU/\x=.nilIface/\ah w' p (wrR R d b l) F)\/(R.lost d=ZV/\ah w' p R F/\∃ q,x=si q/\ga w' q d b 11))
theorem KA (h:ah w p R F) (d b:Nat) (f:d<R.n) (z:b<R.nb) (l:a8) (r:l.length=64) (U:∀ x∈l,x<256) :
 ZQ ZM 149 #[Z6 (ZW ⟨p,0,ZX⟩),Z7 Z9 d,Z7 Z9 b,.agg (aH l)] w λe w'=>∃ x,e=Z3 x/\Qv w p d b l R F x w':=by
 have a:=h.alloc (Z4 (aH l) 114);have j:=cL.new w l;have m:aa F.S w (w.alloc (Z4 (aH l) 114)):=aa.alloc w _;have V:¬ (b:Int)<0:=ec
 have W:(b:Int)<(R.nb:Int):=ec
 have Q:¬ F.S w.heap.size:=λq=>e9 (h.RN q)
 obtain ⟨w1,T⟩:=nM (w.alloc (Z4 (aH l) 114));rw [T] at a j m;obtain ⟨c0,c1⟩:=a.RQ;have A:=Gh a d b f z;have H:=aE a j m;clear h a j m;go_enter func149,ntmps149;go_wp2_with fail;refine A.mono ?_;rintro e w2 (⟨hl,rfl,rfl⟩|⟨hl,rfl,y⟩)
 . obtain ⟨a,j,m⟩:=H.o;clear A;go_wp2_with fail;have c:=a.R3 d f;refine dr 14 [(0,ZV),(1,ZV),(2,ZV),(3,ZV),(4,ZV),(5,ZV),(6,ZV),(7,ZV),(8,ZV),(9,ZV),(10,ZV),(11,ZV),(12,ZU),(13,ZV),(14,ZU)] (λw'=>w'.cell? ⟨F.g,d*4+1,ZX⟩=ZW (Z5 (ZW ⟨F.bb d,0,ZX⟩) R.nb R.nb)/\w'.cell? ⟨F.g,d*4+2,ZX⟩=ZW (Z5 (ZW ⟨F.bd d,0,ZX⟩) R.nb R.nb)/\cL w' w.heap.size l) ei ei ⟨c.2.1,c.2.2.1,j⟩ ?_;iterate 10 (refine aF rfl rfl ?_;apply YH;refine ⟨λw' i=>?_,?_⟩;(obtain ⟨I,J,L⟩:=i;first|(go_simp;done)|(go_simp;exact rfl));simp only [Act.put,TZ,TY,T5])
   refine aF rfl rfl ⟨_,λw' i=>by simp [execOp,Act.eval,nh i.2.2 r];rfl,?_⟩;refine aF rfl rfl ?_;apply YH;refine ⟨λw' i=>?_,?_⟩;(obtain ⟨I,J,L⟩:=i;first|(go_simp;done)|(go_simp;exact rfl));simp only [Act.put,TZ,TY,T5];have v:=ab0 (P:=ZM) w2.drew (F.bb d) (b*64) 114 (aH l) (by rw [iu,r];exact a.there f z) (iw r) (Be l);rw [wW] at v;refine te rfl rfl λK hK=>?_;simp [Oper.wp,execOp,Act.eval,v];have k:=(a.keep (Y:=w2.drew) λ_ _=>rfl).setBlk f b r U;have C:aa F.S w2 (w2.drew.setCells (F.bb d) (b*64) (aJ l)):=(aa.drew w2).trans (aa.setCells _ _ _ _ (a.sb f));have B:cL (w2.drew.setCells (F.bb d) (b*64) (aJ l)) w.heap.size l:=cL.keep j (aQ _ _ _ _ _ (λe=>Q (e▸a.sb f)));have t:=k.R3 d f;have M:=(k.bad d f).cell z;have N:=(k.bad d f).frozen b;refine hK _ _ (λ_=>⟨t.2.1,t.2.2.1,B⟩) ?_;obtain ⟨X,E⟩:=nM (w2.drew.setCells (F.bb d) (b*64) (aJ l));rw [E] at k C B M N ⊢;clear hK E v c t;refine aF rfl rfl ?_;apply YH;refine ⟨λw' i=>?_,?_⟩;(obtain ⟨I,J,L⟩:=i;first|(go_simp;done)|(go_simp;exact rfl));simp only [Act.put,TZ,TY,T5];refine te rfl rfl λK hK=>?_;go_simp;have O:=k.Tx f b ZU;refine hK _ _ (absurd rfl) (cH ?_);clear hK;rename_i hK _
   refine hK _ _ ?_;go_wp2;go_ret;exact ⟨_,rfl,m.trans (C.trans (aa.setCell _ _ _ (a.sd f))),.inl ⟨hl,rfl,O⟩⟩
 . have u:ga w2 w1.heap.size d b 11:=(by rw [y];exact ga.new _ _ _ _);have D:bW w1 w2:=(by rw [y];exact bA w1 _);obtain ⟨q,G⟩:=nM (w1.heap.size);rw [G] at u ⊢;unfold si;have s:=al u D;clear u D G y A c0 c1;go_wp2;go_ret;exact ⟨_,rfl,H.o.2.2.trans (aa.RL s.o.2 _),.inr ⟨hl,H.o.1.below s.o.2 lR,q,rfl,s.o.1⟩⟩
end
def aG (w:ZT):Prop:=∀ j,j<64->w.cell? ⟨1,j,ZX⟩=ZW (Z7 .u8 ((Lib.deBruijn64tab.getD j 0:Nat):Int))
def aG.mono (h:aG w) (a:1<B) (b:ZR B w w'):aG w':=λj c=>(b.cell (p:=⟨1,j,ZX⟩) a).trans (h j c)
def Qw (x a:Nat) (d:x<18446744073709551616) (e:x≠0) (c:x &&& (18446744073709551616-x)=a) :
 IntKind.u64.wrap (bits BinOp.and IntKind.u64 (x:Int) (IntKind.u64.wrap (-(x:Int)))*285870213051353865)/288230376151711744=((a*285870213051353865%18446744073709551616/288230376151711744:Nat):Int):=by
 have b:IntKind.u64.wrap (-(x:Int))=((18446744073709551616-x:Nat):Int):=K1
 rw [b,bits_and_u64_nat x _ d ec,c,Vb];omega
def nX (x:Nat):Nat:=Lib.ctzFrom 64 x
def tB (a:x≠0) (b:x<65536):∃ m,x=2^nX x*(2*m+1)/\nX x<64:=Lib.ctzFrom_spec 64 x ec ec
theorem N5 (x k idx:Nat) (w:ZT) (b:((x:Int)==0)=ZU)
 (key:IntKind.u64.wrap (bits BinOp.and IntKind.u64 (x:Int) (IntKind.u64.wrap (-(x:Int)))*285870213051353865)/288230376151711744=(idx:Int))
 (c:idx<64) (d:k<64) (a:w.cell? ⟨1,idx,ZX⟩=ZW (Z7 .u8 k)) :
 ZQ ZM 148 #[Z7 Z8 x] w λe w'=>e=Z3 (Z7 Z9 k)/\w'=w:=by
 go_enter func148,ntmps148;go_wp2_with (simp only [key]);go_ret;exact ⟨rfl,rfl⟩
def KB (x:Nat) (a:x≠0) (j:x<65536) (w:ZT) (i:aG w) :
 ZQ ZM 148 #[Z7 Z8 x] w λe w'=>e=Z3 (Z7 Z9 (nX x))/\w'=w:=by
 obtain ⟨m,f,d⟩:=tB a j;have g:x &&& (18446744073709551616-x)=2^nX x:=by
  have:=Lib.and_neg 64 (nX x) m (by rw [<- f];omega);rw [<- f] at this;exact this
 obtain ⟨c,h⟩:=Lib.deBruijn64_at _ d;have b:=i _ c;rw [h] at b;exact N5 x _ _ w en (Qw x _ ec a g) c d b
theorem Gi (n:x≠0) (p:x<65536):x &&& (x-1)=bB x (nX x):=by
 obtain ⟨m,d,_⟩:=tB n p;generalize nX x=k at d;have:0<2^k:=VO k;have o:2^(k+1)=2*2^k:=by rw [XX];omega
 have f:x=2^(k+1)*m+2^k:=by rw [d,o,Nat.mul_add,Wg,WC 2 (2^k),Nat.mul_assoc]
 have g:x-1=2^(k+1)*m+(2^k-1):=ec
 apply Xw;intro j;rw [XG,g,fu];have h:=YM m (i:=k+1) (b:=2^k) ec j;have l:=YM m (i:=k+1) (b:=2^k-1) ec j;rw [l,f,h];by_cases a:j<k+1
 . rw [TT a,TT a,X9,XC];have c:decide (k<j)=ZU:=en;rw [c,Bool.false_and];by_cases e:k=j
   . simp [e]
   . simp [e]
 . rw [TS a,TS a];have c:decide (k<j)=ZV:=en;rw [c,abT,Bool.and_self]
theorem sj (e:x≠0) (g:x<65536):x.testBit (nX x)=ZV/\∀ j,j<nX x->x.testBit j=ZU:=by
 obtain ⟨m,d,_⟩:=tB e g;generalize nX x=k at d;have:0<2^k:=VO k;have f:2^(k+1)=2*2^k:=by rw [XX];omega
 have a:x=2^(k+1)*m+2^k:=by rw [d,f,Nat.mul_add,Wg,WC 2 (2^k),Nat.mul_assoc]
 have c:=λj=>YM m (i:=k+1) (b:=2^k) ec j;constructor
 . rw [a,c,TT ec,aco]
 . intro j h;rw [a,c,TT ec,X9];simp;omega
def KC (b:x≠0) (a:x<65536):nX x<16:=by
 refine Nat.lt_of_not_le λh=>?_;have:=WD (x:=x) (i:=nX x) (T7 a (UY (n:=2) ee h));rw [(sj b a).1] at this;cases this
def iK (b:x≠0) (c:x<65536):ab x=nX x::ab (bB x (nX x)):=by
 have h:nX x∈ab x:=cE.2 ⟨KC b c,(sj b c).1⟩;obtain ⟨pre,R,e⟩:=List.append_of_mem h;rw [A8 e];have f:=qS x;rw [e] at f;cases pre with
 | nil=>exact e
 | cons a pre=>
  have g:=(abJ.1 f).2.2 a ek (nX x) ek;have d:=(cE.1 (show a∈ab x by rw [e];simp)).2;rw [(sj b c).2 a g] at d;cases d
def pC (x k:Nat) (a:x<65536):bB x k<65536:=by
 unfold bB;exact WX (YO _ _) a
def xH:ab 0=[]:=ee
def sw1 (x:Nat):Nat:=(x/2 &&& 6148914691236517205)+(x &&& 6148914691236517205)
def sw2 (x:Nat):Nat:=(x/4 &&& 3689348814741910323)+(x &&& 3689348814741910323)
def sw3 (x:Nat):Nat:=(x/16+x) &&& 1085102592571150095
def sw (x:Nat):Nat:=sw3 (sw2 (sw1 x))
def pb (b:Nat):Nat:=b%2+b/2%2+b/4%2+b/8%2+b/16%2+b/32%2+b/64%2+b/128%2
def tst (n:Nat):Nat->Bool
 | 0=>ZV
 | k+1=>(sw (n*256+k)==pb n*256+pb k)&&tst n k
def Qx:Nat->Bool
 | 0=>ZV
 | n+1=>tst n 256&&Qx n
def aa2:Qx 256=ZV:=Ax
def KD:∀ {k},tst n k=ZV->∀ j,j<k->sw (n*256+j)=pb n*256+pb j
 | 0,_,j,h=>absurd h ec
 | k+1,h,j,hj=>by
  obtain ⟨a,b⟩:=XE.1 h;by_cases e:j=k
  . rw [e];exact eq_of_beq a
  . exact KD b j ec
def Gj:∀ {n},Qx n=ZV->∀ i,i<n->tst i 256=ZV
 | 0,_,i,h=>absurd h ec
 | n+1,h,i,hi=>by
  obtain ⟨a,b⟩:=XE.1 h;by_cases e:i=n
  . rw [e];exact a
  . exact Gj b i ec
def aaw (a:x<65536):sw x=pb (x/256)*256+pb (x%256):=by
 have:=KD (Gj aa2 (x/256) ec) (x%256) ec;rwa [(ec:x/256*256+x%256=x)] at this
def Qy (x i:Nat):(if x.testBit i=ZV then 1 else 0)=x/2^i%2:=by
 rw [Wy];by_cases h:x/2^i%2=1
 . simp [h]
 . have:=VN (x/2^i);simp [h];omega
def PI (b:Nat):pb b<=8:=by unfold pb;omega
theorem KE (x:Nat):(ab x).length=pb (x/256)+pb (x%256):=by
 have h:∀ n,((YE n).filter (λi=>x.testBit i)).length=((YE n).map (λi=>x/2^i%2)).sum:=by
  intro n;induction n with
  | zero=>rfl
  | succ n ih=>
   rw [Vw,Wv,Ua,ih,Uw,abk];have e:=Qy x n;have m:([n].map (λi=>x/2^i%2)).sum=x/2^n%2:=ek;rw [m,<- e];by_cases e:x.testBit n=ZV
   . simp [e]
   . simp [e]
 unfold ab pb;rw [h];have a:YE 16=[0,1,2,3,4,5,6,7,8,9,10,11,12,13,14,15]:=ee
 rw [a];simp only [U1,Wr,XH,List.sum_nil,Nat.reducePow,Nat.div_one];have b:x%256%2=x%2:=ec
 have c:x%256/2%2=x/2%2:=ec
 have d:x%256/4%2=x/4%2:=ec
 have f:x%256/8%2=x/8%2:=ec
 have g:x%256/16%2=x/16%2:=ec
 have j:x%256/32%2=x/32%2:=ec
 have k:x%256/64%2=x/64%2:=ec
 have l:x%256/128%2=x/128%2:=ec
 rw [b,c,d,f,g,j,k,l];clear b c d f g j k l h a;simp only [Nat.div_div_eq_div_mul,Nat.reduceMul];generalize x%2=o;generalize x/2%2=p;generalize x/4%2=q;generalize x/8%2=r;generalize x/16%2=s;generalize x/32%2=t;generalize x/64%2=u;generalize x/128%2=v;generalize x/256%2=b0;generalize x/512%2=b1;generalize x/1024%2=b2;generalize x/2048%2=b3;generalize x/4096%2=b4;generalize x/8192%2=b5;generalize x/16384%2=b6;generalize x/32768%2=b7;omega
def BH (h:k<64):2^k<18446744073709551616:=T7 (VE ee h) lR
def Ic (k:Nat) (h:k<=16):IntKind.u64.wrap (IntKind.u64.wrap (2^k)-1)=((2^k-1:Nat):Int):=by
 have:=BH (k:=k) ec;have:0<2^k:=VO k;have e:((2:Int)^k)=((2^k:Nat):Int):=by rw [Xu];rfl
 rw [e,Vb,Vb];omega
theorem me (k:Nat) (a:k<=16) (w:ZT) :
 ZQ ZM 135 #[Z7 Z9 k] w λe w'=>e=Z3 (Z7 Z8 ((2^k-1:Nat):Int))/\w'=w:=by
 have key:=Ic k a;go_enter func135,ntmps135;go_wp2;go_ret;exact ⟨rfl,rfl⟩
def fH (a b:Nat) (c:a<18446744073709551616) (d:b<18446744073709551616):bits .and .u64 (a:Int) (b:Int)=((a &&& b:Nat):Int):=bits_and_u64_nat a b c d
theorem k1 (x:Nat) (h:x<65536):IntKind.u64.wrap (bits .and .u64 ((x:Int)/2) 6148914691236517205+bits .and .u64 (x:Int) 6148914691236517205)=((sw1 x:Nat):Int)/\sw1 x<131072:=by
 have e:(x:Int)/2=((x/2:Nat):Int):=ec
 have d:=fH (x/2) 6148914691236517205 ec ee;have f:=fH x 6148914691236517205 ec ee;have:=WL (n:=x/2) (m:=6148914691236517205);have:=WL (n:=x) (m:=6148914691236517205);unfold sw1;rw [e];refine ⟨?_,ec⟩;have c:bits .and .u64 ((x/2:Nat):Int) 6148914691236517205=((x/2 &&& 6148914691236517205:Nat):Int):=d;have g:bits .and .u64 (x:Int) 6148914691236517205=((x &&& 6148914691236517205:Nat):Int):=f;rw [c,g,Vb];generalize (x/2 &&& 6148914691236517205)=a at *;generalize (x &&& 6148914691236517205)=b at *;omega
theorem k2 (x:Nat) (h:x<131072):IntKind.u64.wrap (bits .and .u64 ((x:Int)/4) 3689348814741910323+bits .and .u64 (x:Int) 3689348814741910323)=((sw2 x:Nat):Int)/\sw2 x<262144:=by
 have e:(x:Int)/4=((x/4:Nat):Int):=ec
 have d:=fH (x/4) 3689348814741910323 ec ee;have f:=fH x 3689348814741910323 ec ee;have:=WL (n:=x/4) (m:=3689348814741910323);have:=WL (n:=x) (m:=3689348814741910323);unfold sw2;rw [e];refine ⟨?_,ec⟩;have c:bits .and .u64 ((x/4:Nat):Int) 3689348814741910323=((x/4 &&& 3689348814741910323:Nat):Int):=d;have g:bits .and .u64 (x:Int) 3689348814741910323=((x &&& 3689348814741910323:Nat):Int):=f;rw [c,g,Vb];generalize (x/4 &&& 3689348814741910323)=a at *;generalize (x &&& 3689348814741910323)=b at *;omega
def k3 (x:Nat) (a:x<262144):bits .and .u64 (IntKind.u64.wrap ((x:Int)/16+(x:Int))) 1085102592571150095=((sw3 x:Nat):Int):=by
 have e:IntKind.u64.wrap ((x:Int)/16+(x:Int))=((x/16+x:Nat):Int):=K1
 rw [e];exact fH (x/16+x) 1085102592571150095 ec ee
theorem k4 (x c:Nat) (a:x<1048576):IntKind.u64.wrap ((x:Int)+(x:Int)/(c:Int))=((x+x/c:Nat):Int):=by
 have:=VV x c;have e:(x:Int)/(c:Int)=((x/c:Nat):Int):=(Ya x c).symm;rw [Vb,e];generalize x/c=d at *;omega
def Qz (x:Nat):x &&& 127=x%128:=abR x 7
theorem KF (x:Nat) (v:x<65536) (w:ZT) :
 ZQ ZM 227 #[Z7 Z8 x] w λe w'=>e=Z3 (Z7 Z9 ((ab x).length:Nat))/\w'=w:=by
 obtain ⟨g,b1⟩:=k1 x v;obtain ⟨h,b2⟩:=k2 _ b1;have a:=k3 _ b2;have u:=aaw v;have y:=PI (x/256);have z:=PI (x%256);have t:=KE x;have e:sw3 (sw2 (sw1 x))=pb (x/256)*256+pb (x%256):=u;generalize pb (x/256)=p at *;generalize pb (x%256)=q at *;have b:=k4 (p*256+q) 256 ec;have n:p*256+q+(p*256+q)/256=p*257+q:=ec
 have c:=k4 (p*257+q) 65536 ec;have r:p*257+q+(p*257+q)/65536=p*257+q:=by rw [Xx ec,VR]
 have d:=k4 (p*257+q) 4294967296 ec;have s:p*257+q+(p*257+q)/4294967296=p*257+q:=by rw [Xx ec,VR]
 rw [n] at b;rw [r] at c;rw [s] at d;have f:=F9 (p*257+q) 127 ec ee;rw [Qz,(ec:(p*257+q)%128=p+q),<- t] at f;have i:wrap64 ((p*257+q:Nat):Int)=((p*257+q:Nat):Int):=E3
 rw [e] at a;clear e u t n r s;have H:=hide8 g h a b c d f i;clear g h a b c d f i;go_enter func227,ntmps227;go_wp2;obtain ⟨g,h,a,b,c,d,f,i⟩:=H.o;simp only [g];simp only [h];simp only [a];have j:IntKind.u64.wrap (((p*256+q:Nat):Int)+((p*256+q:Nat):Int)/256)=((p*257+q:Nat):Int):=b;have k:IntKind.u64.wrap (((p*257+q:Nat):Int)+((p*257+q:Nat):Int)/65536)=((p*257+q:Nat):Int):=c;have l:IntKind.u64.wrap (((p*257+q:Nat):Int)+((p*257+q:Nat):Int)/4294967296)=((p*257+q:Nat):Int):=d;have m:bits .and .i64 ((p*257+q:Nat):Int) 127=(((ab x).length:Nat):Int):=f;simp only [j,k,l,i,m];go_ret;exact ⟨rfl,rfl⟩
theorem BI (x:Nat) (a:x<65536) (w:ZT) :
 ZQ ZM 223 #[Z7 Z8 x] w λe w'=>e=Z3 (Z7 Z9 ((ab x).length:Nat))/\w'=w:=by
 go_enter func223,ntmps223;go_wp2_with fail;refine (KF x a _).mono ?_;rintro e w' ⟨rfl,rfl⟩;go_wp2;go_ret;exact ⟨rfl,rfl⟩
theorem Eo (x k:Nat) (c:x<65536) (f:k<=16):bits .andNot .u64 (x:Int) ((2^k-1:Nat):Int)=((x/2^k*2^k:Nat):Int):=by
 have d:=BH (k:=k) ec;have e:0<2^k:=VO k;have h:=Yb x (2^k-1) ec ec;rw [h];congr 1;apply Xw;intro j;rw [XG,acj,(ec:18446744073709551615-(2^k-1)=2^64-(2^k-1+1)),XB ec,XC,ack];by_cases a:k<=j
 . rw [(ec:j-k+k=j)];by_cases b:j<64
   . simp [a,b,(ec:¬ j<k)]
   . have:x.testBit j=ZU:=WD (T7 c (UY (n:=2) (i:=16) ee ec));simp [this]
 . simp [a,(ec:j<k)]
theorem Ep (x k:Nat) (a:x<65536) (c:k<16) (w:ZT) :
 ZQ ZM 231 #[Z7 Z8 x,Z7 Z9 k] w λe w'=>e=Z3 (Z7 Z8 (bB x k:Nat))/\w'=w:=by
 have key:=Eo x (k+1) a ec;have d:wrap64 ((k:Int)+1)=((k+1:Nat):Int):=E3
 have b:IntKind.i64.wrap ((k:Int)+1)=((k+1:Nat):Int):=l3
 have H:=ak key;clear key;go_enter func231,ntmps231;go_wp2_with fail;refine (me (k+1) ec _).mono ?_;rintro e w' ⟨rfl,rfl⟩;go_wp2;rw [H.o];go_ret;exact ⟨rfl,rfl⟩
section
attribute [local go_sem] Oper.semAt_some
def nY (b:q≠0) (c:q<65536):bB q (nX q)<q:=by
 refine Nat.lt_of_le_of_ne (YO _ _) λe=>?_;have a:=fu q (nX q) (nX q);rw [e,(sj b c).1] at a;simp at a
abbrev Sh:={ x:Nat // x<16 }
def qX (x:Sh):Array ZS:=#[Z7 Z9 (x.1:Int)]
def shs (s:Nat):List Sh:=(ab s).filterMap (λi=>if h:i<16 then ZW ⟨i,h⟩ else ZX)
def N6 (s:Nat):(shs s).map (·.1)=ab s:=by
 unfold shs;have h:∀ L:a8,(∀ i∈L,i<16)->(L.filterMap (λi=>if h:i<16 then ZW (⟨i,h⟩:Sh) else ZX)).map (·.1)=L:=by
  intro L;induction L with
  | nil=>intro _;rfl
  | cons a L ih=>
   intro d;have e:=d a U8;rw [List.filterMap_cons_some (b:=(⟨a,e⟩:Sh)) (by simp [e]),U1,ih (λi c=>d i (UJ _ c))]
 exact h _ (λi c=>(cE.1 c).1)
theorem dK (s:Nat) (w:ZT) :
 ZQ ZM 115 #[Z7 Z8 s] w λe w'=>e=Z3 (.func (.func 147) #[] #[Z6 (ZW ⟨w.heap.size,0,ZX⟩)])/\w'=w.alloc (Z4 #[Z7 Z8 s] 133):=by
 go_enter func115,ntmps115;go_wp2;go_ret;exact ⟨rfl,rfl⟩
theorem BJ (n:Nat) (l Bs s:Nat) (A:s<65536) (J g:List Sh->ZT->Prop)
 (y:∀ pre x W,J pre W->pre.length<(ab s).length->YieldAt Fence.wide (n-1) ZM l (qX x) W λe c=>
  (e=Z3 (Z1 ZV)/\J (pre++[x]) c/\(aG W->aG c))\/(e=Z3 (Z1 ZU)/\g (pre++[x]) c))
 (W:ZT) (E:W.cell? ⟨Bs,0,ZX⟩=ZW (Z7 Z8 s)) (w:aG W) (m:J [] W) :
 CallsIn Fence.wide n ZM 147 #[.func (.yield l) #[] #[],Z6 (ZW ⟨Bs,0,ZX⟩)] W λe c=>(∃ v,e=Z3 v) /\
  ((∃ k,k.map (·.1)=ab s/\J k c)\/(∃ pre,pre.map (·.1)<+:ab s/\g pre c)):=by
 refine Xv func147 rfl trivial ?_ rfl;simp only [ntmps147,UH,UA,UV,Nat.reduceAdd,Nat.reduceSub,Vg,Vh,Vj,Vk,Uq,US];gi_wp2;gi_loopw [3] (λp wr=>∃ (pre:List Sh) (q:Nat),p=Z7 Z8 q/\q<65536/\ab s=pre.map (·.1)++ab q/\J pre wr/\aG wr)
  (λp _=>(intOf p).toNat)
 case atStart=>
  exact ⟨[],s,rfl,A,rfl,m,w⟩
 case round=>
  obtain ⟨pre,q,rfl,b,d,i,j⟩:=hrel;by_cases a:q=0
  . subst a;gi_wp2;go_end0
    exact ⟨⟨_,rfl⟩,.inl ⟨pre,by rw [d,xH,Ws],i⟩⟩
  . have D:((q:Int) != 0)=ZV:=en;have f:=KC a b;obtain ⟨fn,tmps,assign,body,B,u⟩:=y pre ⟨nX q,f⟩ wr i (by rw [d,iK a b];simp);unfold qX at B;gi_wp2;refine cd (KB q a b wr j) ?_;rintro e w' ⟨rfl,rfl⟩;gi_wp2;refine ⟨λh=>vE,u.mono ?_⟩;rintro e C (⟨rfl,r,t⟩|⟨rfl,o⟩)
    . have F:IntKind.u64.wrap ((q:Int)-1)=((q-1:Nat):Int):=K1;have z:=fH q (q-1) ec ec;rw [Gi a b] at z;gi_wp2;go_roundw
      case rel=>exact ⟨pre++[⟨nX q,f⟩],bB q (nX q),rfl,pC _ _ b,by rw [d,iK a b];simp,r,t j⟩
      case measure=>have:=nY a b;simp only [intOf];omega
    . gi_wp2;refine Ut (XI rfl _ _ _) rfl ?_;exact ⟨⟨_,rfl⟩,.inr ⟨pre++[⟨nX q,f⟩],by rw [d,iK a b];simp,o⟩⟩
def Gk (W W':ZT):Prop:=aG W->aG W'
def qY {A B C:ZT} (h:Gk A B) (k:Gk B C):Gk A C:=λx=>k (h x)
def qZ (c:3<=w.heap.size) (W:ZT) (l:Nat) (o b:Obj) (hl:w.heap.size<=l) (h:W.heap[l]?=ZW o) (_:o.isCells=ZU) (_:o.isWalk=ZU):Gk W (W.putObj l b):=λa=>
 a.mono (B:=3) ee (Below.RO (TW _ W) ec (TX.1 h).1 _)
def Gk.RM {W W':ZT} (b:3<=B) (h:ZR B W W'):Gk W W':=λa=>a.mono ec h
def Gk.refl (W:ZT):Gk W W:=λh=>h
def eS (n Bs s:Nat) (h:s<65536) (w:ZT) (d:Bs<w.heap.size) (g:w.cell? ⟨Bs,0,ZX⟩=ZW (Z7 Z8 s)) (j:3<=w.heap.size) (e:aG w) :
 SeqStopsK Fence.wide n ZM 147 #[Z6 (ZW ⟨Bs,0,ZX⟩)] qX Gk (λi=>i.map (·.1)=ab s) (λpre=>pre.map (·.1)<+:ab s) (ab s).length w:=λl J b W a _ _ f c=>
 BJ n l Bs s h J b f W ((a.cell (p:=⟨Bs,0,ZX⟩) d).trans g) (e.mono ec a) c
end
def rR (c j:Nat):Nat:=if j<16 then gm c j else gm c ((j-16)*16)
def tv (f:Nat->Nat) (j:Nat):ZS:=Z7 .u8 ((f j:Nat):Int)
def QA {x:Int} (a b:Nat) (f:x=(a:Int)) (g:y=(b:Int)) (c:a<256) (d:b<256) (w:ZT) :
 ZQ ZM 188 #[Z7 .u8 x,Z7 .u8 y] w λe w'=>e=Z3 (Z7 .u8 ((gm a b:Nat):Int))/\w'=w:=by
 subst f g;exact l8 a b c d w
def fV (c n j:Nat):Nat:=if j<n then gm c j else 0
def NK (q:Nat):Prop:=q=1\/q=2\/q=4\/q=8\/q=16
def aa3 (w:ZT) (B c:Nat) (i d:ZS) (wr:ZT):Prop:=
 ∃ q:Nat,NK q/\i=Z7 Z9 q/\d=Z7 .u8 ((gm c q:Nat):Int)/\wr.rowIs (B+1) 287 16 (tv (fV c q))/\wr.rowIs B 287 16 (λ_=>Z7 .u8 0)/\ZR B w wr
def PJ (w:ZT) (B c q:Nat) (i:ZS) (wr:ZT):Prop:=
 ∃ k:Nat,k<=q/\i=Z7 Z9 k/\wr.rowIs (B+1) 287 16 (tv (fV c (q+k)))/\wr.rowIs B 287 16 (λ_=>Z7 .u8 0)/\ZR B w wr
def KG (w:ZT):(w.alloc (Z4 (YI 16 (Z7 .u8 0)) 287)).rowIs w.heap.size 287 16 (λ_=>Z7 .u8 0):=by
 have h:=ab1 w (YI 16 (Z7 .u8 0)) 287 (λ_=>Z7 .u8 0) (λi a=>by simp at a;simp [a]);simpa using h
def QB (w:ZT):(w.alloc (Z4 (YI 32 (Z7 .u8 0)) 321)).rowIs w.heap.size 321 32 (λ_=>Z7 .u8 0):=by
 have h:=ab1 w (YI 32 (Z7 .u8 0)) 321 (λ_=>Z7 .u8 0) (λi a=>by simp at a;simp [a]);simpa using h
def KH:∀ i,i<1->i^^^1=1+i:=ee
def KI:∀ i,i<2->i^^^2=2+i:=ee
def KJ:∀ i,i<4->i^^^4=4+i:=ee
def KK:∀ i,i<8->i^^^8=8+i:=ee
def N7 {i:Nat} (a:NK q) (b:q<16) (h:i<q):i^^^q=q+i:=by
 rcases a with rfl|rfl|rfl|rfl|rfl
 . exact KH i h
 . exact KI i h
 . exact KJ i h
 . exact KK i h
 . omega
def QC:∀ c,c<256->tx (gm c 1)=gm c 2:=Ax
def QD:∀ c,c<256->tx (gm c 2)=gm c 4:=Ax
def QE:∀ c,c<256->tx (gm c 4)=gm c 8:=Ax
def QF:∀ c,c<256->tx (gm c 8)=gm c 16:=Ax
def aax (b:NK q) (d:q<16) (a:c<256):tx (gm c q)=gm c (q*2):=by
 rcases b with rfl|rfl|rfl|rfl|rfl
 . exact QC c a
 . exact QD c a
 . exact QE c a
 . exact QF c a
 . omega
def KL (b:NK q) (a:q<16):NK (q*2):=by unfold NK at *;omega
def Er (f:NK q) (d:q<16) (e:k<q) (j:Nat):tv (fV c (q+(k+1))) j=if j=q+k then Z7 .u8 ((fV c (q+k) k^^^gm c q:Nat):Int) else tv (fV c (q+k)) j:=by
 unfold tv fV;by_cases a:j=q+k
 . rw [TT a,TT ec,TT ec,<- fA,N7 f d e,a]
 . rw [TS a];by_cases b:j<q+k
   . rw [TT b,TT ec]
   . rw [TS b,TS ec]
def pD {f:Nat->Nat} (b:cs.size=n) (h:∀ j,j<n->cs[j]?=ZW (tv f j)):cs.all (λv=>v.oneCell')=ZV:=by
 rw [Yc];intro i a;have:=h i ec;rw [VK a] at this;simp at this;rw [this];rfl
def Ie {x:Int} (a:Nat) (b:x=(a:Int)) (h:a<256) (w:ZT):ZQ ZM 202 #[Z7 .u8 x] w λe w'=>e=Z3 (Z7 .u8 (tx a:Int))/\w'=w:=by
 subst b;exact ni a h w
theorem KM (c n j:Nat) (a:c<256):fV c n j<256:=by
 unfold fV;split
 . exact bu _ a
 . decide
def Tryz.Sx:(ZM.info? 287).map (λi=>i.size)=ZW 16:=ei
theorem mR (c:Nat) (m:c<256) (w:ZT) :
 ZQ ZM 214 #[Z7 .u8 c] w λe w'=>∃ cs:Array ZS,e=Z3 (.agg cs)/\cs.size=16/\(∀ j,j<16->cs[j]?=ZW (tv (fV c 16) j))/\bW w w':=by
 go_enter func214,ntmps214;go_wp2;go_loopw [4,0] (λi d wr=>aa3 w w.heap.size c i d wr) (λi _ _=>16-(intOf i).toNat)
 case atStart=>
  refine ⟨1,.inl rfl,rfl,by rw [eo c m],?_,?_,?_⟩
  . have h:=KG (w.alloc (Z4 (YI 16 (Z7 .u8 0)) 287));try change ZR _ _ _ at h
    rw [Uh] at h;refine h.congr λj R=>?_;unfold tv fV;by_cases e:j<1
    . rw [TT e,(ec:j=0),bD];rfl
    . rw [TS e];rfl
  . exact (KG w).alloc _
  . exact (bA _ _).alloc B8 _
 case round=>
  obtain ⟨q,n,rfl,rfl,b,f,g⟩:=hrel;have A:q<=16:=by unfold NK at n;omega
  have F:gm c q<256:=bu _ m;by_cases x:q<16
  . have X:q<=8:=(by unfold NK at n;omega);have l:=ak n;have J:=ak (show PJ w w.heap.size c q (Z7 Z9 (0:Nat)) wr from ⟨0,T8 _,rfl,b,f,g⟩);clear b f g n;have Y:(q:Int)<16:=ec;rename ZT=>wo;go_wp2;go_loopw [11] (λi wr=>PJ w w.heap.size c q i wr) (λi _=>q-(intOf i).toNat)
    case atStart=>exact J.o
    case round=>
     obtain ⟨k,W,rfl,b,f,g⟩:=hrel;by_cases S:k<q
     . have c1:=b.cell (i:=k) ec;have M:=b.cell (i:=q+k) ec;have U:=b.frozen (q+k);have T:=KM c (q+k) k m;have hy:=ly _ _ T F;have B:=(b.set (q+k) (Z7 .u8 ((fV c (q+k) k^^^gm c q:Nat):Int))).congr (λj R=>(Er l.o x S j).symm);have C:=f.setOther (a:=⟨w.heap.size+1,q+k,ZX⟩) ek (Z7 .u8 ((fV c (q+k) k^^^gm c q:Nat):Int));have D:=g.setCell (p:=⟨w.heap.size+1,q+k,ZX⟩) ek (Z7 .u8 ((fV c (q+k) k^^^gm c q:Nat):Int));have r:=aE B C D;clear B C D b f g;unfold tv at c1 M;have O:(k:Int)<q:=ec;have V:(k:Int)<16:=ec;have Z:(q:Int)+(k:Int)<16:=ec;have hx:IntKind.i64.wrap ((q:Int)+(k:Int))=((q+k:Nat):Int):=l3;have hv:wrap64 ((q:Int)+(k:Int))=((q+k:Nat):Int):=E3;go_wp2;go_roundw
       case rel=>exact ⟨k+1,ec,eT,r.o.1,r.o.2.1,r.o.2.2⟩
       case measure=>simp [intOf];omega
     . have P:k=q:=ec;have t:=aE b f g;clear b f g;have O:¬ ((k:Int)<q):=ec;go_wp2_with fail;refine (Ie (gm c q) rfl F _).mono ?_;rintro e w' ⟨rfl,rfl⟩;go_wp2;go_roundw
       case rel=>exact ⟨q*2,KL l.o x,eT,by rw [aax l.o x m],by have:=t.o.1;rwa [P,(ec:q+q=q*2)] at this,t.o.2.1,t.o.2.2⟩
       case measure=>have Q:=l.o;unfold NK at Q;simp only [intOf];omega
  . have A:q=16:=ec;subst A;obtain ⟨cs,E,y,u⟩:=b;obtain ⟨I,G,hz,_⟩:=f;have N:=pD y u;have L:=ak u;have H:(ZM.info? 287).map (λi=>i.size)=ZW cs.size:=(by rw [Tryz.Sx,y]);have s:=ak H;have K:=ak E;have z:=ak G;clear u H E G;go_wp2_with (first
     | refine abl rfl 287 (Z0 3) rfl (w.heap.size+1) rfl 287 cs (0,0) _ K.o Yd rfl s.o ?_
     | refine Wz rfl 287 (Z0 2) (Z0 26) rfl w.heap.size cs rfl rfl 287 I z.o s.o ec N ?_)
    exact Ut (v:=.agg cs) (Wp results214 _ _ w.heap.size 287 cs (0,0) _ rfl (Vt _ _ I cs _ _ z.o) Yd rfl s.o) rfl ⟨cs,rfl,y,L.o,below_setRow g lR cs⟩
def Tryz.Su:(ZM.info? 321).map (λi=>i.size)=ZW 32:=ei
theorem If (c j:Nat) (a:c<256) (b:j<32):(if j<16 then fV c 16 j else fV (gm c 16) 16 (j-16))=rR c j:=by
 unfold fV rR;by_cases h:j<16
 . rw [TT h,TT h,TT h]
 . rw [TS h,TS h,TT ec,fD a ee ec];congr 1;have:∀ x,x<16->gm 16 x=x*16:=by decide +kernel
   exact this _ ec
def rh (c:Nat):Array ZS:=((YE 32).map (λj=>Value.int .u8 ((if j<16 then fV c 16 j else fV (gm c 16) 16 (j-16):Nat):Int))).toArray
def kC (c:Nat):(rh c).size=32:=by unfold rh;rw [UH,Ue,Vp]
def xI (c j:Nat) (b:c<256) (a:j<32):(rh c)[j]?=ZW (tv (rR c) j):=by
 unfold rh tv;simp only [Xq,UD,Ww a,WV,If c j b a]
def Es (c:Nat):(ZM.info? 321).map (λi=>i.size)=ZW (rh c).size:=by rw [kC,Tryz.Su]
def BK {f:Nat->Nat} (b:cs.size=16) (h:∀ j,j<16->cs[j]?=ZW (tv f j)) :
 cs=#[tv f 0,tv f 1,tv f 2,tv f 3,tv f 4,tv f 5,tv f 6,tv f 7,tv f 8,tv f 9,tv f 10,tv f 11,tv f 12,tv f 13,tv f 14,tv f 15]:=by
 have e:cs=((YE 16).map (tv f)).toArray:=by
  refine YB acx λi a c=>?_;have:=h i ec;rw [VK a] at this;simp at this ⊢;exact this
 exact e
theorem lB (c:Nat) (b:c<256) (w:ZT) :
 ZQ ZM 199 #[Z7 .u8 c] w λe w'=>∃ cs:Array ZS,e=Z3 (.agg cs)/\cs.size=32/\(∀ j,j<32->cs[j]?=ZW (tv (rR c) j))/\bW w w':=by
 have C:=QB w;have E:gm c 16<256:=bu _ b;go_enter func199,ntmps199;go_wp2_with fail;refine (mR c b _).mono ?_;rintro e w1 ⟨A,rfl,s,q,a⟩;obtain rfl:=BK s q;clear s q;simp only [tv];go_wp2_with fail;refine (QA c 16 rfl rfl b ee _).mono ?_;rintro e w' ⟨rfl,rfl⟩;go_wp2_with fail;refine (mR (gm c 16) E _).mono ?_;rintro e w2 ⟨B,rfl,t,r,g⟩;obtain rfl:=BK t r;clear t r;simp only [tv];obtain ⟨d,x,D,_⟩:=C;have u:w2.heap[w.heap.size]?=ZW (Z4 d 321 (0,0)):=(g.block _ (by have:=a.size;rw [Uh] at this;omega)).trans ((a.block _ B8).trans x);have n:=ak u;have y:b9 (bW w w2):=ak (((bA w _).trans (a.mono B8)).trans (g.mono (by have:=a.size;rw [Uh] at this;omega)));clear a g x u;have f:=ak (Es c);have m:b9 (d.size=(rh c).size):=ak (by rw [D,kC]);have k:=ak (pD (kC c) (λj i=>xI c j b i));have l:b9 (∀ j,j<32->(rh c)[j]?=ZW (tv (rR c) j)):=ak (λj i=>xI c j b i);have p:=ak (kC c);obtain ⟨cs,h⟩:=nM (rh c);rw [h] at f m k l p;have z:=ak h;clear h;go_wp2_with (refine Wz rfl 321 (Z0 2) (Z0 8) rfl w.heap.size cs rfl (by rw [<- z.o];rfl) 321 d n.o f.o m.o k.o ?_);refine Ut (v:=.agg cs) (Wp results199 _ _ w.heap.size 321 cs (0,0) _ rfl (Vt _ _ d cs _ _ n.o) underlying321 rfl f.o) rfl ?_;exact ⟨cs,rfl,p.out,l.o,below_setRow y.o lR _⟩
def mh (w:ZT) (t c:Nat):Prop:=∀ j,j<32->w.cell? ⟨t,j,ZX⟩=ZW (tv (rR c) j)
def N8:∀ b,b<256->b=(b%16)^^^(b/16*16):=Ax
def KN (c b:Nat) (a:b<256):rR c (b%16)^^^rR c (16+b/16)=gm c b:=by
 unfold rR;rw [TT ec,TS ec,WY,<- fA,<- N8 b a]
theorem Gl (c j:Nat) (a:c<256):rR c j<256:=by
 unfold rR;split<;>exact bu _ a
def aay (b:Nat) (a:b<256):bits .and .u8 (b:Int) 15=((b%16:Nat):Int):=by
 rw [u8_and15 _ ec ec];rfl
theorem xJ (t c b:Nat) (g:c<256) (f:b<256) (w:ZT) (a:mh w t c) :
 ZQ ZM 200 #[Z6 (ZW ⟨t,0,ZX⟩),Z7 .u8 b] w λe w'=>e=Z3 (Z7 .u8 ((gm c b:Nat):Int))/\∃ m,w'=w.drewN m:=by
 have c1:=a (b%16) ec;have h:=a (16+b/16) ec;have j:=Gl c (b%16) g;have k:=Gl c (16+b/16) g;have d:=KN c b f;have l:=aay b f;have i:=ly _ _ j k;unfold tv at c1 h;rw [d] at i;clear a d;go_enter func200,ntmps200;go_wp2;go_quiet (fail);go_wp2;go_ret;exact ⟨rfl,_,rfl⟩
def gU (g F:Nat->Nat) (c off k j:Nat):Nat:=if off<=j/\j<off+k then g j^^^gm c (F (j-off)) else g j
def AdR (w:ZT) (b t N off k c tb fb foff:Nat) (g F:Nat->Nat) (i:ZS) (wr:ZT):Prop:=
 ∃ j:Nat,j<=k/\i=Z7 Z9 j/\wr.rowIs b t N (tv (gU g F c off j))/\mh wr tb c/\(∀ i,i<k->wr.cell? ⟨fb,foff+i,ZX⟩=ZW (Z7 .u8 ((F i:Nat):Int)))/\w.grownBy wr (ZW b)
def Et (g F:Nat->Nat) (c off j x:Nat):tv (gU g F c off (j+1)) x=if x=off+j then Z7 .u8 ((g (off+j)^^^gm c (F j):Nat):Int) else tv (gU g F c off j) x:=by
 unfold tv gU;by_cases h:x=off+j
 . subst h;rw [TT rfl,TT ec,WY]
 . rw [TS h];by_cases a:off<=x/\x<off+j
   . rw [TT a,TT ec]
   . rw [TS a,TS ec]
theorem Eu (g F:Nat->Nat) (c off:Nat):gU g F c off 0=g:=by
 funext j;unfold gU;rw [TS ec]
theorem Ev (g F:Nat->Nat) (off k:Nat):gU g F 0 off k=g:=by
 funext j;unfold gU;rw [bI,U4];split<;>rfl
def ri {t:Nat} (h:mh w t c) {a:ZP} (b:t≠a.block) (v:ZS):mh (w.setCell a v) t c:=λj d=>by
 rw [<- h j d];exact Uk (Ud _ _ _ _ b)
def np (w:ZT) {ops:Array Oper} {rest:List Oper} {o:Oper} {a:Act} {Q:Exit->Act->ZT->Prop} (h:o.guard=ZX) (x y:Operand) (ho:o.op=.store 321 x y)
 (g c:Nat) (cs old:Array ZS) (m:a.eval x=Z6 (ZW ⟨g,0,ZX⟩)) (n:a.eval y=.agg cs) (f:w.heap[g]?=ZW (Z4 old 321 (0,0))) (hold:old.size=32) (d:cs.size=32) (b:∀ j,j<32->cs[j]?=ZW (tv (rR c) j))
 (hK:∀ w2,mh w2 g c->w.grownBy w2 (ZW g)->wpList ZM ops Q rest (a.put o.dst ZY) w2):wpList ZM ops Q (o::rest) a w:=by
 refine Wz h 321 x y ho g cs m n 321 old f (by rw [Tryz.Su,d]) ec (pD d b) (hK _ ?_ ?_)
 . intro j l;rw [cell_of_row _ g j cs 321 (0,0) (Vt w g old cs _ _ f)];exact b j l
 . refine ⟨rfl,rfl,rfl,ek,λk p i=>?_⟩;have:g≠k:=λe=>i Wb;simp [World.setRow,Vy,this]
theorem jt (b t N off n cap l d r c:Nat) (g F:Nat->Nat) (w:ZT) (C:c<256) (A:w.rowIs b t N (tv g)) (O:∀ j,g j<256) (J:∀ j,F j<256) (hn:off+n<=N) (k5:n<=140737488355328)
 (T:∀ i,i<n->w.cell? ⟨l,d+i,ZX⟩=ZW (Z7 .u8 ((F i:Nat):Int))) (k6:l≠b\/d+n<=off\/off+n<=d) :
 ZQ ZM 179 #[Z5 (ZW ⟨b,off,ZX⟩) n cap,Z5 (ZW ⟨l,d,ZX⟩) n r,Z7 .u8 c] w λe w'=>e=Z3 (ZZ #[])/\w'.rowIs b t N (tv (gU g F c off n))/\w.grownBy w' (ZW b):=by
 by_cases H:c=0
 . subst H;go_enter func179,ntmps179;go_wp2;exact Ut (v:=ZZ #[]) Zr rfl ⟨rfl,by rw [Ev];exact A,Wx _ _⟩
 . have kc:((c:Int)==0)=ZU:=vy;clear H;go_enter func179,ntmps179;go_wp2_with fail;refine (lB c C _).mono ?_;rintro e w1 ⟨cs,rfl,ka,I,p⟩;have k9:=p.size;go_wp2_with (refine np _ rfl (Z0 6) (Z0 11) rfl w1.heap.size c cs _ rfl rfl (UC w1 _) rfl ka I ?_;intro w2 M q);have P:b<w.heap.size:=A.lt;have h:w.grownBy w2 ZX:=by
    refine ⟨q.os.trans p.os,q.tape.trans p.tape,q.output.trans p.output,?_,λk E _=>?_⟩
    . have:=q.size;rw [Uh] at this;omega
    . rw [q.block k B8 (by intro e;simp at e;omega),UF _ _ _ ec,p.block k E]
   have V:w2.rowIs b t N (tv g):=A.of_block (h.block b P ek);have R:∀ i,i<n->w2.cell? ⟨l,d+i,ZX⟩=ZW (Z7 .u8 ((F i:Nat):Int)):=λi D=>by
    have:=T i D;exact h.cell this ek
   have Y:w.grownBy w2 (ZW b):=⟨h.os,h.tape,h.output,h.size,λk E _=>h.block k E ek⟩;have kb:w1.heap.size≠b:=ec;clear q h A T I p k9 P;go_loopw [17] (λi wr=>AdR w b t N off n c w1.heap.size l d g F i wr) (λi _=>n-(intOf i).toNat)
   case atStart=>exact ⟨0,T8 _,rfl,by rw [Eu];exact V,M,R,Y⟩
   case round=>
    clear M R Y V;obtain ⟨j,Q,rfl,s,u,z,B⟩:=hrel;by_cases k8:j<n
    . have c1:=s.cell (i:=off+j) ec;have f1:=s.frozen (off+j);have Z:=z j k8;have G:tv (gU g F c off j) (off+j)=Z7 .u8 ((g (off+j):Nat):Int):=(by unfold tv gU;rw [TS ec]);rw [G] at c1;have W:=ly (g (off+j)) (gm c (F j)) (O _) (bu _ C);have X:=(s.set (off+j) (Z7 .u8 ((g (off+j)^^^gm c (F j):Nat):Int))).congr (λx _=>(Et g F c off j x).symm);have L:=ri u (a:=⟨b,off+j,ZX⟩) kb (Z7 .u8 ((g (off+j)^^^gm c (F j):Nat):Int));have U:=eF B (off+j) (Z7 .u8 ((g (off+j)^^^gm c (F j):Nat):Int));have S:∀ i,i<n->(wr.setCell ⟨b,off+j,ZX⟩ (Z7 .u8 ((g (off+j)^^^gm c (F j):Nat):Int))).cell? ⟨l,d+i,ZX⟩=ZW (Z7 .u8 ((F i:Nat):Int)):=λi D=>by
       rw [<- z i D];by_cases k0:l=b
       . exact ab2 _ _ _ _ (by intro e;have h1:off+j=d+i:=Ux Addr.off e;omega)
       . exact Uk (Ud _ _ _ _ k0)
      have K:=J j;have f:=a5 X L S U;have HT:=ak u;generalize F j=y at Z W K f;generalize g (off+j)=x at c1 W f;clear G X L U S s u z B O J;go_wp2;go_region_with ((go_at_call 200;refine (xJ w1.heap.size c y C K _ (by exact λj Q=>HT.o j Q)).mono ?_;rintro e w' ⟨rfl,m,rfl⟩));all_goals
       go_wp2;go_roundw
       case rel=>exact ⟨j+1,ec,eT,f.o.1,f.o.2.1,f.o.2.2.1,⟨f.o.2.2.2.os,f.o.2.2.2.tape,f.o.2.2.2.output,f.o.2.2.2.size,f.o.2.2.2.block⟩⟩
       case measure=>simp [intOf];omega
    . have k7:j=n:=ec;subst k7;clear u z;go_wp2;go_end0
      exact ⟨rfl,s,B⟩
def dh (D i:Nat):a8:=(YF D 0).set i 1
theorem BL (D L G i:Nat) (g:D<=12) (d:i<D) (w:ZT) :
 ZQ ZM 157 #[.agg #[Z7 Z9 D,Z7 Z9 L,Z7 Z9 G],Z7 Z9 i] w λe w'=>∃ b,e=Z3 (Z5 (ZW ⟨b,0,ZX⟩) D D)/\w.heap.size<=b/\aM w' b (dh D i)/\bW w w':=by
 go_enter func157,ntmps157;go_wp2_with (at_make;refine cP _ rfl (Z0 7) (Z0 7) rfl D D rfl rfl rfl ec ?_;intro w1 a c f;rw [Uh] at a c f;have h:=a.cell i (oD d);have j:=a.frozen i);go_ret;refine ⟨w.heap.size+1,rfl,ec,?_,?_⟩
 . exact a.set i 1
 . exact ((bA _ _).trans (c.mono ec)).setCell ek _
def dw (D L g:Nat):a8:=(YE D).map λj=>if g*(D/L)<=j/\j<(g+1)*(D/L) then 1 else 0
def eY (D s k:Nat):a8:=(YE D).map λj=>if s<=j/\j<k then 1 else 0
theorem mS (D s:Nat):eY D s s=YF D 0:=by
 unfold eY;apply Vc
 . simp
 . intro i a b;simp
theorem nZ (D s k:Nat) (d:s<=k):(eY D s k).set k 1=eY D s (k+1):=by
 unfold eY;apply Vc
 . simp
 . intro i b c;simp [Wl];by_cases e:k=i
   . subst e;simp;omega
   . simp only [TS e];by_cases a:s<=i/\i<k
     . rw [TT a,TT ⟨a.1,ec⟩]
     . rw [TS a,TS ec]
def BM {D L:Nat} (a:D%L=0) (b:g<L):(g+1)*(D/L)<=D:=by
 have:(g+1)*(D/L)<=L*(D/L):=W0 _ b;have:L*(D/L)=D:=Nat.mul_div_cancel' (Nat.dvd_of_mod_eq_zero a);omega
theorem zK (D L G g:Nat) (E:D<=12) (F:1<=L) (H:L<=4) (m:D%L=0) (y:g<L) (w:ZT) :
 ZQ ZM 158 #[.agg #[Z7 Z9 D,Z7 Z9 L,Z7 Z9 G],Z7 Z9 g] w λe w'=>∃ b,e=Z3 (Z5 (ZW ⟨b,0,ZX⟩) D D)/\w.heap.size<=b/\aM w' b (dw D L g)/\bW w w':=by
 have M:=BM m y;have O:D/L<=D:=VV _ _;have f:dw D L g=eY D (g*(D/L)) ((g+1)*(D/L)):=rfl;have B:wrap64 ((D:Int)/(L:Int))=((D/L:Nat):Int):=by
  rw [<- Ya];exact iG ec
 generalize D/L=q at *;have r:g*q<=(g+1)*q:=W0 _ ec;have l:wrap64 ((g:Int)*(q:Int))=((g*q:Nat):Int):=by
  rw [<- XJ];unfold wrap64;omega
 have C:wrap64 (((g:Int)+1)*(q:Int))=(((g+1)*q:Nat):Int):=by
  have:((g:Int)+1)*(q:Int)=(((g+1)*q:Nat):Int):=by push_cast;rfl
  rw [this];unfold wrap64;omega
 generalize g*q=s at *;generalize (g+1)*q=t at *;have HF:=ak f;clear f;go_enter func158,ntmps158;go_wp2_with (at_make;refine cP _ rfl (Z0 9) (Z0 9) rfl D D rfl rfl rfl ec ?_;intro w1 d a A;rw [Uh] at d a A;have z:=a.cell (p:=⟨w.heap.size,0,ZX⟩) ek;have x:=a.cell (p:=⟨w.heap.size,1,ZX⟩) ek);rw [<- mS D s] at d;go_loopw [7] (λi wr=>∃ k:Nat,s<=k/\k<=t/\i=Z7 Z9 k/\aM wr (w.heap.size+1) (eY D s k)/\bW w wr) (λi _=>t-(intOf i).toNat)
 case atStart=>exact ⟨s,TV _,r,by rw [l],d,(bA _ _).trans (a.mono ec)⟩
 case round=>
  obtain ⟨k,u,J,rfl,c,j⟩:=hrel;clear d a z x;by_cases N:k<t
  . have I:=c.cell k (by simp [eY];omega);have K:=c.frozen k;have h:=c.set k 1;rw [nZ _ _ _ u] at h;have n:=j.setCell (p:=⟨w.heap.size+1,k,ZX⟩) ek (Z7 .u8 1);go_wp2;go_roundw
    case rel=>exact ⟨k+1,ec,ec,eT,h,n⟩
    case measure=>simp [intOf];omega
  . have v:k=t:=ec;subst v;go_wp2;go_ret;exact ⟨w.heap.size+1,rfl,ec,by rw [HF.o];exact c,j⟩
def de (D i:Nat):a8:=(YE D).map λj=>gi ((D+i)^^^j)
def ew (D i k:Nat):a8:=(YE D).map λj=>if j<k then gi ((D+i)^^^j) else 0
theorem lC (D i:Nat):ew D i 0=YF D 0:=by
 unfold ew;apply Vc
 . simp
 . intro j a b;simp
theorem oe (D i:Nat):ew D i D=de D i:=by
 unfold ew de;apply Vc
 . simp
 . intro j a b;simp at a;simp [a]
theorem mT (D i k:Nat):(ew D i k).set k (gi ((D+i)^^^k))=ew D i (k+1):=by
 unfold ew;apply Vc
 . simp
 . intro j b c;simp [Wl];by_cases e:k=j
   . subst e;simp
   . simp only [TS e];by_cases a:j<k
     . rw [TT a,TT ec]
     . rw [TS a,TS ec]
theorem BN (D i j:Nat) (a:D<=12) (b:i<=4) (c:j<D):(D+i)^^^j<256/\bits .xor .i64 ((D:Int)+(i:Int)) (j:Int)=(((D+i)^^^j:Nat):Int):=by
 refine ⟨rO ec ec,?_⟩;have:=zy (D+i) j ec ec;rw [<- this];congr 1
theorem vY (D L G i:Nat) (s:D<=12) (t:i<=4) (w:ZT) :
 ZQ ZM 159 #[.agg #[Z7 Z9 D,Z7 Z9 L,Z7 Z9 G],Z7 Z9 i] w λe w'=>∃ b,e=Z3 (Z5 (ZW ⟨b,0,ZX⟩) D D)/\w.heap.size<=b/\aM w' b (de D i)/\bW w w':=by
 go_enter func159,ntmps159;go_wp2_with (at_make;refine cP _ rfl (Z0 8) (Z0 8) rfl D D rfl rfl rfl ec ?_;intro w1 c d u;rw [Uh] at c d u;have f:=d.cell (p:=⟨w.heap.size,0,ZX⟩) ek);rw [<- lC D i] at c;simp at f;go_loopw [12] (λj wr=>∃ k:Nat,k<=D/\j=Z7 Z9 k/\aM wr (w.heap.size+1) (ew D i k)/\wr.cell? ⟨w.heap.size,0,ZX⟩=ZW (Z7 Z9 D)/\bW w wr) (λj _=>D-(intOf j).toNat)
 case atStart=>exact ⟨0,T8 _,rfl,c,f,(bA _ _).trans (d.mono ec)⟩
 case round=>
  obtain ⟨k,B,rfl,a,q,h⟩:=hrel;clear c d f;by_cases n:k<D
  . have z:=a.cell k (by simp [ew];omega);have A:=a.frozen k;obtain ⟨r,v⟩:=BN D i k s t n;have g:=a.set k (gi ((D+i)^^^k));rw [mT] at g;have l:=h.setCell (p:=⟨w.heap.size+1,k,ZX⟩) ek (Z7 .u8 (gi ((D+i)^^^k)));have o:(wr.setCell ⟨w.heap.size+1,k,ZX⟩ (Z7 .u8 (gi ((D+i)^^^k)))).cell? ⟨w.heap.size,0,ZX⟩=ZW (Z7 Z9 D):=(by rw [<- q];exact Uk (Ud _ _ _ _ ek));generalize (D+i)^^^k=x at *;have y:(x:Int)<256:=ec;go_wp2_with (go_at_call 187;refine (se x r _).mono ?_;rintro e w' ⟨rfl,rfl⟩);go_roundw
    case rel=>exact ⟨k+1,ec,eT,g,o,l⟩
    case measure=>simp [intOf];omega
  . have m:k=D:=ec;subst m;rw [oe] at a;go_wp2;go_ret;exact ⟨w.heap.size+1,rfl,ec,a,h⟩
def aT (D L G:Nat):List a8:=(YE D).map (dh D)++(YE L).map (dw D L)++(YE G).map (de D)
def cM (T:List (Nat×Nat×a8)) (D:Nat) (M:List a8):Prop:=T.map (λp=>p.2)=M.map (λr=>(D,r))
def cM.push {D:Nat} (h:cM T D M) (b:Nat) (r:a8):cM (T++[(b,D,r)]) D (M++[r]):=by
 unfold cM at *;simp [h]
def cM.length {D:Nat} (h:cM T D M):T.length=M.length:=by
 have:=Ux YJ h;simpa using this
def BO (D i:Nat):(dh D i).length=D/\∀ x∈dh D i,x<256:=by
 refine ⟨by simp [dh],λx a=>?_⟩;rcases Ye a with h|h
 . have:=VF h;omega
 . omega
theorem xK (D L g:Nat):(dw D L g).length=D/\∀ x∈dw D L g,x<256:=by
 refine ⟨by simp [dw],λx a=>?_⟩;obtain ⟨j,_,rfl⟩:=T9.1 a;split<;>decide
def tC (D i:Nat) (c:D<=12) (d:i<=4):(de D i).length=D/\∀ x∈de D i,x<256:=by
 refine ⟨by simp [de],λx b=>?_⟩;obtain ⟨j,a,rfl⟩:=T9.1 b;exact iz (rO ec (e9 (Ur.1 a)))
def eh.append {w2:ZT} {v':ZS} {D:Nat} {r:a8} {o:Obj} (h:eh w base v T) (g:bW w w1) (k:base<=w.heap.size) (l:w.heap.size<=b) (f:aM w1 b r) (a:r.length=D/\∀ x∈r,x<256) (m:D<=1000000)
 (i:(w1.alloc o).grownBy w2 v.ownBlock) (c:w2.ownsRow base 40 1 v' (T.length+1) (T.map fX++[Z5 (ZW ⟨b,0,ZX⟩) D D])):eh w2 base v' (T++[(b,D,r)]):=by
 have d:=(h.below g).alloc o;refine d.push i (p:=(b,D,r)) ?_ ⟨by show base<=b;omega,f.alloc o,by show D<=r.length;omega,⟨by show D<=140737488355328;omega,by show r.length<=9223372036854775807;omega⟩,a.2⟩ ?_
 . have e:fX (b,D,r)=Z5 (ZW ⟨b,0,ZX⟩) D D:=(by unfold fX;simp [a.1]);rw [e];exact c
 . intro q j;have:=(h.row q j).2.1.lt;show q.1≠b;omega
def cQ {wx:ZT} {a b c:ZS} (h:ZR (w.heap.size+1) (w.alloc (Z4 #[a,b,c] t)) wx) :
 wx.cell? ⟨w.heap.size,0,ZX⟩=ZW a/\wx.cell? ⟨w.heap.size,1,ZX⟩=ZW b/\wx.cell? ⟨w.heap.size,2,ZX⟩=ZW c:=by
 have d:=h.cell (p:=⟨w.heap.size,0,ZX⟩) ek;have e:=h.cell (p:=⟨w.heap.size,1,ZX⟩) ek;have f:=h.cell (p:=⟨w.heap.size,2,ZX⟩) ek;rw [World.cell?_alloc_at _ _ _ _ rfl] at d e f;exact ⟨d,e,f⟩
def Ew {wa wb:ZT} (c:ZR B w0 wa) (b:B<=wa.heap.size) (a:bW wa wb) (d:wb.grownBy wc ZX):ZR B w0 wc:=
 (c.trans (a.mono b)).grown d (e9 a.size) (λk e=>by simp at e)
def eh.made (h:wc.ownsRow base 40 1 (Z5 (ZW ⟨g,0,ZX⟩) 0 cap) 0 []):eh wc base (Z5 (ZW ⟨g,0,ZX⟩) 0 cap) []:=
 ⟨h,λp a=>Zm,ek⟩
def cM.nil (D:Nat):cM [] D []:=rfl
def gd {α:Type} (f:Nat->α) (k:Nat):(YE (k+1)).map f=(YE k).map f++[f k]:=by
 rw [Vw,Uw];rfl
theorem kD (D L G:Nat) (Z:cW D L G=ZV) (E:D<=12) (V:1<=L) (X:L<=4) (Y:G<=4) (W:D%L=0) (w:ZT) :
 ZQ ZM 122 #[.agg #[Z7 Z9 D,Z7 Z9 L,Z7 Z9 G]] w λe w'=>∃ v T,e=Z3 (ZZ #[v,.nilIface])/\eh w' (w.heap.size+1) v T/\cM T D (aT D L G)/\bW w w':=by
 obtain ⟨K,F,H,I,J⟩:=Uu Tryz.RU;go_enter func122,ntmps122;go_wp2_with fail;refine (pA D L G _).mono ?_;rintro e wa ⟨rfl,u⟩;try change ZR _ _ _ at u
 rw [Uh] at u;have P:=u.size;try change ZR _ _ _ at P
 rw [Uh] at P;obtain ⟨q,r,s⟩:=cQ u;go_wp2_with fail;refine (du D L G _ ec ec ec).mono ?_;rintro e wb ⟨rfl,M⟩;have k5:=M.size;clear q r s;go_wp2_with (at_make;refine ab3 _ rfl (.const (Z7 Z9 0)) (Z0 13) 108 rfl (w.heap.size+1) 40 K (Z5 ZX 0 0) 1 VS F H I .i64 .i64 (D+L+G) (D+L+G) rfl rfl ec (by rw [J];omega) eD ec ?_;intro wc R O;have N:=Ew u P M O;obtain ⟨q,r,s⟩:=cQ N);have a:=eh.made R;have k6:=O.size;clear R O u M;generalize Value.slice (ZW ⟨wb.heap.size,0,ZX⟩) 0 (D+L+G)=v0 at *;go_loopw [4,17] (λv i wr=>∃ k T,k<=D/\i=Z7 Z9 (k:Nat)/\eh wr (w.heap.size+1) v T/\cM T D ((YE k).map (dh D))/\ZR (w.heap.size+1) (w.alloc (Z4 #[Z7 Z9 D,Z7 Z9 L,Z7 Z9 G] 27)) wr/\w.heap.size+1<=wr.heap.size) (λ_ i _=>D-(intOf i).toNat)
 case atStart=>exact ⟨0,[],T8 _,rfl,a,cM.nil D,N,ec⟩
 case round=>
  clear a N q r s;obtain ⟨k,T,C,rfl,a,d,f,j⟩:=hrel;obtain ⟨q,r,s⟩:=cQ f;by_cases t:k<D
  . have m:=d.length;rw [Ue,Vp] at m;have Q:T.length<=12:=ec;clear m;have h:=ak d;clear d;go_wp2_with fail;refine (BL D L G k E t _).mono ?_;rintro e w1 ⟨b,rfl,y,n,c⟩;have S:=c.size;go_wp2_with (at_builtin;refine WM _ rfl (Z0 20) (Z0 24) 108 rfl (w.heap.size+1) 40 K (Z5 ZX 0 0) 1 24 VS F H I J rfl ee _ T.length (T.map fX) rfl ((a.below c).alloc _).own ⟨w1.heap.size,0,ZX⟩ 1 1 [Z5 (ZW ⟨b,0,ZX⟩) D D] rfl rfl (Yx _ _ _) B9 eD ec B8 ?_;intro U w2 l g B);have x:=eh.append a c j y n (BO D k) ec g l;have z:=dM a f c j g;have p:=g.size;try change ZR _ _ _ at p
    rw [Uh] at p;clear a l g B n c f;go_roundw
    case rel=>exact ⟨k+1,_,ec,eT,x,by rw [gd];exact h.o.push b _,z,ec⟩
    case measure=>simp [intOf];omega
  . have A:D=k:=ec;clear t C;subst A;have h:=ak d;clear d;go_wp2_with fail;go_loopw [4,29] (λv i wr=>∃ k T,k<=L/\i=Z7 Z9 (k:Nat)/\eh wr (w.heap.size+1) v T/\cM T D ((YE D).map (dh D)++(YE k).map (dw D L))/\ZR (w.heap.size+1) (w.alloc (Z4 #[Z7 Z9 D,Z7 Z9 L,Z7 Z9 G] 27)) wr/\w.heap.size+1<=wr.heap.size) (λ_ i _=>L-(intOf i).toNat)
    case atStart=>exact ⟨0,T,T8 _,rfl,a,by rw [abm,Wr,Ws];exact h.o,f,j⟩
    case round=>
     clear a f q r s h j;obtain ⟨k,T,C,rfl,a,d,f,j⟩:=hrel;obtain ⟨q,r,s⟩:=cQ f;by_cases t:k<L
     . have m:=d.length;simp only [Ua,Ue,Vp] at m;have Q:T.length<=20:=ec;clear m;have h:=ak d;clear d;go_wp2_with fail;refine (zK D L G k E V X W t _).mono ?_;rintro e w1 ⟨b,rfl,y,n,c⟩;have S:=c.size;go_wp2_with (at_builtin;refine WM _ rfl (Z0 32) (Z0 36) 108 rfl (w.heap.size+1) 40 K (Z5 ZX 0 0) 1 24 VS F H I J rfl ee _ T.length (T.map fX) rfl ((a.below c).alloc _).own ⟨w1.heap.size,0,ZX⟩ 1 1 [Z5 (ZW ⟨b,0,ZX⟩) D D] rfl rfl (Yx _ _ _) B9 eD ec B8 ?_;intro U w2 l g B);have x:=eh.append a c j y n (xK D L k) ec g l;have z:=dM a f c j g;have p:=g.size;try change ZR _ _ _ at p
       rw [Uh] at p;clear a l g B n c f;go_roundw
       case rel=>exact ⟨k+1,_,ec,eT,x,by rw [gd,<- Uz];exact h.o.push b _,z,ec⟩
       case measure=>simp [intOf];omega
     . have A:L=k:=ec;clear t C;subst A;have h:=ak d;clear d;go_wp2_with fail;go_loopw [4,41] (λv i wr=>∃ k T,k<=G/\i=Z7 Z9 (k:Nat)/\eh wr (w.heap.size+1) v T/\cM T D (((YE D).map (dh D)++(YE L).map (dw D L))++(YE k).map (de D))/\ZR (w.heap.size+1) (w.alloc (Z4 #[Z7 Z9 D,Z7 Z9 L,Z7 Z9 G] 27)) wr/\w.heap.size+1<=wr.heap.size) (λ_ i _=>G-(intOf i).toNat)
       case atStart=>exact ⟨0,T,T8 _,rfl,a,by rw [abm,Wr,Ws];exact h.o,f,j⟩
       case round=>
        clear a f q r s h j;obtain ⟨k,T,C,rfl,a,d,f,j⟩:=hrel;obtain ⟨q,r,s⟩:=cQ f;by_cases t:k<G
        . have m:=d.length;simp only [Ua,Ue,Vp] at m;have Q:T.length<=20:=ec;clear m;have h:=ak d;clear d;go_wp2_with fail;refine (vY D L G k E ec _).mono ?_;rintro e w1 ⟨b,rfl,y,n,c⟩;have S:=c.size;go_wp2_with (at_builtin;refine WM _ rfl (Z0 44) (Z0 48) 108 rfl (w.heap.size+1) 40 K (Z5 ZX 0 0) 1 24 VS F H I J rfl ee _ T.length (T.map fX) rfl ((a.below c).alloc _).own ⟨w1.heap.size,0,ZX⟩ 1 1 [Z5 (ZW ⟨b,0,ZX⟩) D D] rfl rfl (Yx _ _ _) B9 eD ec B8 ?_;intro U w2 l g B);have x:=eh.append a c j y n (tC D k E ec) ec g l;have z:=dM a f c j g;have p:=g.size;try change ZR _ _ _ at p
          rw [Uh] at p;clear a l g B n c f;go_roundw
          case rel=>exact ⟨k+1,_,ec,eT,x,by rw [gd,<- Uz];exact h.o.push b _,z,ec⟩
          case measure=>simp [intOf];omega
        . have A:G=k:=ec;clear t C;subst A;have h:=ak d;clear d;go_wp2;go_ret2;refine ⟨_,T,rfl,a,h.o,?_⟩;exact (bA _ _).trans (f.mono ec)
def vZ (T:List (Nat×Nat×a8)) (p r:Nat):List (Nat×Nat×a8):=(T.set p (T.getD r (0,0,[]))).set r (T.getD p (0,0,[]))
def gz (T:List (Nat×Nat×a8)) (p r:Nat):(vZ T p r).length=T.length:=by simp [vZ]
theorem mi (T:List (Nat×Nat×a8)) (p r i:Nat) (b:p<T.length) (c:r<T.length) (g:i<T.length) (f:i<(vZ T p r).length) :
 (vZ T p r)[i]=if i=r then T[p] else if i=p then T[r] else T[i]:=by
 have d:T.getD p (0,0,[])=T[p]:=acx
 have e:T.getD r (0,0,[])=T[r]:=Za
 apply UM;rw [<- Uc f];unfold vZ;rw [d,e,Xn,Xn];by_cases c1:r=i
 . subst c1;simp [c]
 . by_cases a:p=i
   . subst a;simp [b,c1,Vn c1]
   . simp [c1,a,Vn c1,Vn a,g]
theorem Gm (T:List (Nat×Nat×a8)) (p r:Nat) (c:p<T.length) (d:r<T.length):∀ x∈vZ T p r,x∈T:=by
 intro x e;obtain ⟨i,a,rfl⟩:=XD.1 e;have b:i<T.length:=by rw [gz] at a;exact a
 rw [mi T p r i c d b];split
 . exact T6 _
 . split
   . exact T6 _
   . exact T6 _
theorem eh.swap (h:eh w B (Z5 (ZW ⟨g,0,ZX⟩) n cap) T) {p r:Nat} (d:p<T.length) (f:r<T.length) :
 eh ((w.setCell ⟨g,p,ZX⟩ (fX T[r])).setCell ⟨g,r,ZX⟩ (fX T[p])) B (Z5 (ZW ⟨g,0,ZX⟩) n cap) (vZ T p r):=by
 obtain ⟨P,v⟩:=h.own;have C:∀ q∈T,q.1≠g:=λq l e=>py h.own (h.row q l).2.1 (by rw [e];rfl);have N:∀ q∈T,aM ((w.setCell ⟨g,p,ZX⟩ (fX T[r])).setCell ⟨g,r,ZX⟩ (fX T[p])) q.1 q.2.2:=λq l=>
  ((h.row q l).2.1.other (a:=⟨g,p,ZX⟩) (C q l) _).other (a:=⟨g,r,ZX⟩) (C q l) _
 refine ⟨⟨by simp [vZ],?_⟩,λq l=>?_,?_⟩
 . rcases v with ⟨M,_⟩|⟨Q,x,cur,y,G,H,I,J,K,L⟩
   . simp at M
   . simp at y;obtain ⟨rfl,rfl,rfl⟩:=y;refine .inr ⟨g,cap,(cur.setIfInBounds p (fX T[r])).setIfInBounds r (fX T[p]),by rw [gz],G,?_,by rw [gz];exact I,J,oD K,?_⟩
     . simp [World.setCell,Vy,H]
     . rw [gz];simp only [Yz];rw [YP,YP,L];apply Vc
       . simp [vZ]
       . intro i R v;have k:i<T.length:=(by simpa [vZ] using v);rw [UN,mi T p r i d f k];simp only [Wl,UN];by_cases c1:r=i
         . subst c1;simp
         . by_cases c:p=i
           . subst c;simp [c1,Vn c1]
           . simp [c1,c,Vn c1,Vn c]
 . have D:=Gm T p r d f q l;obtain ⟨E,O,F⟩:=h.row q D;exact ⟨E,N q D,F⟩
 . have A:=V3.1 h.nodup;have key:∀ i j (k:i<T.length) (m:j<T.length),i≠j->T[i].1≠T[j].1:=by
    intro i j k m z e;rcases Yw z with u|u
    . exact A i j (oD k) (oD m) u (oD e)
    . exact A j i (oD m) (oD k) u (oD e.symm)
   refine V3.2 λi j k m z=>?_;have s:i<T.length:=(by simpa [vZ] using k);have t:j<T.length:=(by simpa [vZ] using m);rw [UN,UN,mi T p r i d f s,mi T p r j d f t];by_cases c1:i=r
   . rw [TT c1];by_cases c:j=r
     . omega
     . rw [TS c];by_cases b:j=p
       . rw [TT b];exact key p r d f ec
       . rw [TS b];exact key p j d t (λh=>b h.symm)
   . rw [TS c1];by_cases c:i=p
     . rw [TT c];by_cases b:j=r
       . rw [TT b];exact key r p f d ec
       . rw [TS b];by_cases o:j=p
         . omega
         . rw [TS o];exact key r j f t (λh=>b h.symm)
     . rw [TS c];by_cases b:j=r
       . rw [TT b];exact key i p s d c
       . rw [TS b];by_cases o:j=p
         . rw [TT o];exact key i r s f c1
         . rw [TS o];exact key i j s t ec
def lD (l lp:a8) (f c j:Nat):a8:=(YE l.length).map λq=>if c<=q/\q<j then l.getD q 0^^^gm f (lp.getD q 0) else l.getD q 0
def tD (l lp:a8) (f c j:Nat):(lD l lp f c j).length=l.length:=by simp [lD]
theorem Ex (l lp:a8) (f c:Nat):lD l lp f c c=l:=by
 unfold lD;apply Vc
 . simp
 . intro q b a;simp [a];omega
def KO (l lp:a8) (f c j:Nat) (a:j<l.length):(lD l lp f c j).getD j 0=l.getD j 0:=by simp [lD,a]
theorem Ig (l lp:a8) (f c j:Nat) (b:c<=j):(lD l lp f c j).set j (l.getD j 0^^^gm f (lp.getD j 0))=lD l lp f c (j+1):=by
 unfold lD;apply Vc
 . simp
 . intro q d g;simp [Wl];by_cases e:j=q
   . subst e;simp [b]
   . simp only [TS e];by_cases a:c<=q/\q<j
     . rw [TT a,TT ⟨a.1,ec⟩]
     . rw [TS a,TS ec]
theorem N9 (hl:∀ x∈l,x<256) {f:Nat} (a:f<256) (c j:Nat):∀ x∈lD l lp f c j,x<256:=by
 intro x b;obtain ⟨q,_,rfl⟩:=T9.1 b;have:=dm hl q;split
 . exact rO this (bu _ a)
 . exact this
theorem KQ (l lp:a8) (f c W:Nat) (a:l.length=W) (j:lp.length=W) (i:∀ q,q<c->dH lp q=0):dH (lD l lp f c W)=cA (dH l) f (dH lp):=by
 funext q;show (lD l lp f c W).getD q 0=l.getD q 0^^^gm f (lp.getD q 0);by_cases d:q<W
 . by_cases b:c<=q
   . simp [lD,a,d,b]
   . have:lp.getD q 0=0:=i q ec;rw [this,bD,U4];simp [lD,a,d,b]
 . have e:lp.getD q 0=0:=(by simp [Vm (ec:lp.length<=q)]);have g:l.getD q 0=0:=(by simp [Vm (ec:l.length<=q)]);have h:(lD l lp f c W).getD q 0=0:=by
    rw [Ub,Vm (by rw [tD];omega)];rfl
   rw [e,g,h,bD];exact (UU 0).symm
def rS (D:List a8):Prop:=D.length<=64/\∀ i (hi:i<D.length),(D[i]).length<=64
def wd (D:List a8):Nat->Nat
 | 0=>0
 | k+1=>if wd D k<(D.getD k []).length then (D.getD k []).length else wd D k
theorem aaz (D:List a8) (i:Nat):∀ k,i<k->(D.getD i []).length<=wd D k:=by
 intro k;induction k with
 | zero=>intro h;omega
 | succ k ih=>
  intro h;unfold wd;by_cases e:i=k
  . subst e;split<;>omega
  . have:=ih ec;split<;>omega
def JX (W:Nat) (l:a8):a8:=l++YF (W-l.length) 0
theorem Oa (W:Nat) (l:a8):dH (JX W l)=dH l:=by
 funext j;unfold dH JX;by_cases a:j<l.length
 . simp [VC a,a]
 . rw [Ub,U7 (WR.1 a)];by_cases b:j-l.length<W-l.length
   . simp [b,Vm (WR.1 a)]
   . simp [b,Vm (WR.1 a)]
def sm (W:Nat) (l:a8) (h:l.length<=W):(JX W l).length=W:=by simp [JX];omega
def QG (W:Nat) (l:a8) (h:∀ x∈l,x<256):∀ x∈JX W l,x<256:=by
 intro x a;rcases Ui.1 a with q|q
 . exact h x q
 . have:=VF q;omega
structure EI (w:ZT) (B W c r:Nat) (v:ZS) (D:List a8) (T:List (Nat×Nat×a8)) (wr:ZT):Prop where
 tab:eh wr B v T
 wid:∀ i (hi:i<T.length),T[i].2.1=W/\T[i].2.2.length=W
 rle:r<=T.length
 len:T.length=D.length
 zer:∀ i (hi:i<T.length),r<=i->∀ j,j<c->dH T[i].2.2 j=0
 tak:∀ k,cT (64-c) (nH (T.map (λp=>p.2.2)) r) c k->m7 D (r+k)
 bel:ZR B w wr
 siz:B<=wr.heap.size
def EI.skip (h:EI w B W c r v D T wr) (g:c<64) (d:∀ i (a:i<T.length),r<=i->dH T[i].2.2 c=0):EI w B W (c+1) r v D T wr:=
 { h with
  zer:=λi a b j l=>by
   by_cases e:j=c
   . subst e;exact d i a b
   . exact h.zer i a b j ec
  tak:=λk f=>by
   refine h.tak k ?_;have e:64-c=64-(c+1)+1:=ec;rw [e];refine sL (λi a b=>?_) f;rw [UN];exact d i (oD a) b }
theorem EI.TC (h:EI w B W c r v D T wr) (I:c<64) (s:r<=p) (u:p<T.length) (z:dH T[p].2.2 c≠0)
 (o:eh wr' B v T') (hl:T'.length=T.length) (A:∀ i (a:i<T'.length),T'[i].2.1=W/\T'[i].2.2.length=W)
 (n:∀ i (a:i<T'.length),r<i->∃ f,∃ h:(if i=p then r else i)<T.length,f<256/\dH T'[i].2.2=cA (dH T[if i=p then r else i].2.2) f (dH T[p].2.2)/\dH T'[i].2.2 c=0)
 (C:ZR B w wr') (F:B<=wr'.heap.size):EI w B W (c+1) (r+1) v D T' wr' where
 tab:=o
 wid:=A
 rle:=ec
 len:=by rw [hl];exact h.len
 zer:=λi a x j J=>by
  obtain ⟨f,b,t,e,m⟩:=n i a ec;by_cases y:j=c
  . subst y;exact m
  . rw [e];have G:=h.zer _ b ZE j ec;have H:=h.zer p u s j ec;show dH T[if i=p then r else i].2.2 j^^^gm f (dH T[p].2.2 j)=0;rw [G,H,bD];exact UU 0
 tak:=λk E=>by
  have e:r+1+k=r+(k+1):=ec
  rw [e];refine h.tak (k+1) ?_;have e:64-c=64-(c+1)+1:=ec
  rw [e];refine qQ (p:=p) (T':=T'.map (λp=>p.2.2)) ?_ ?_ (oD hl) s (oD u) (by rw [UN];exact z) ?_ E
  . intro l d;obtain ⟨q,g,rfl⟩:=T9.1 d;exact (h.tab.row q g).2.2.2.2
  . intro l d;obtain ⟨q,g,rfl⟩:=T9.1 d;exact (o.row q g).2.2.2.2
  . intro i a x;obtain ⟨f,b,t,e,m⟩:=n i (oD a) x;exact ⟨f,oD b,t,by simp only [UN];exact e,by simp only [UN];exact m⟩
 bel:=C
 siz:=F
def EI.start (h:eh wr w.heap.size v T) (d:T.map (λp=>p.2)=D.map (λl=>(W,JX W l))) (m:∀ i (f:i<D.length),(D[i]).length<=W) (n:bW w wr) (q:w.heap.size<=wr.heap.size):EI w w.heap.size W 0 0 v D T wr:=by
 have hl:T.length=D.length:=oD (Ux YJ d)
 have c:∀ i (a:i<T.length) (b:i<D.length),T[i].2=(W,JX W D[i]):=by
  intro i a b;have:=List.getElem_of_eq d (i:=i) (oD a);simpa using this
 refine ⟨h,λi f=>?_,T8 _,hl,λ_ _ _ j o=>absurd o (XK _),λk g=>?_,n,q⟩
 . rw [c i f ec];exact ⟨rfl,sm W _ (m i ec)⟩
 . rw [Uj];have e:nH (T.map (λp=>p.2.2)) 0=nH D 0:=wQ (oD hl) (λi a b=>by
    rw [UN];have:=c i (oD a) b;rw [this];exact Oa W _) 0
   rw [e] at g;exact g
def EI.done (h:EI w B W c r v D T wr) (a:W<=c):m7 D r:=
 h.tak 0 (sM (λl hl=>by
  obtain ⟨q,d,rfl⟩:=T9.1 hl;obtain ⟨i,b,rfl⟩:=XD.1 d;rw [(h.wid i b).2];exact a))
def RC (w:ZT) (W:Nat) (v:ZS) (D:List a8) (rv cv:ZS) (wr:ZT):Prop:=
 ∃ (r c:Nat) (T:List (Nat×Nat×a8)),c<=W/\rv=Z7 Z9 (r:Nat)/\cv=Z7 Z9 (c:Nat)/\EI w w.heap.size W c r v D T wr
def RP (T:List (Nat×Nat×a8)) (r c:Nat) (av iv:ZS):Prop:=
 ∃ k:Nat,r<=k/\k<=T.length/\iv=Z7 Z9 (k:Nat)/\((av=Z7 Z9 (-1)/\∀ i (hi:i<T.length),r<=i->i<k->dH T[i].2.2 c=0)\/∃ p:Nat,∃ hp:p<T.length,r<=p/\av=Z7 Z9 (p:Nat)/\dH T[p].2.2 c≠0)
structure EW (w:ZT) (B W c r k:Nat) (v:ZS) (S:List (Nat×Nat×a8)) (lp:a8) (T:List (Nat×Nat×a8)) (wr:ZT):Prop where
 tab:eh wr B v T
 len:T.length=S.length
 wid:∀ i (hi:i<T.length),T[i].2.1=W/\T[i].2.2.length=W
 old:∀ i (hi:i<T.length) (hi':i<S.length),i<=r\/k<=i->T[i]=S[i]
 new:∀ i (hi:i<T.length) (hi':i<S.length),r<i->i<k->∃ f,f<256/\dH T[i].2.2=cA (dH S[i].2.2) f (dH lp)/\dH T[i].2.2 c=0
 bel:ZR B w wr
 siz:B<=wr.heap.size
def RW (w:ZT) (B W c r:Nat) (v:ZS) (S:List (Nat×Nat×a8)) (lp:a8) (iv:ZS) (wr:ZT):Prop:=
 ∃ (k:Nat) (T:List (Nat×Nat×a8)),r<k/\k<=S.length/\iv=Z7 Z9 (k:Nat)/\EW w B W c r k v S lp T wr
def EW.step {S:List (Nat×Nat×a8)} {f:Nat} (h:EW w B W c r k v S lp T wr) (u:r<k) (d:k<T.length) (g:wr.grownBy wr' (ZW T[k].1)) (m:aM wr' T[k].1 l') (j:l'.length=W) (s:∀ x∈l',x<256)
 (p:f<256) (o:dH l'=cA (dH T[k].2.2) f (dH lp)) (n:dH l' c=0):EW w B W c r (k+1) v S lp (T.set k (T[k].1,T[k].2.1,l')) wr':=by
 have q:=h.tab.row _ (T6 d);refine ⟨h.tab.wrote d g m (by rw [j,(h.wid k d).2]) s,by rw [VZ];exact h.len,λi a=>?_,λi a b ho=>?_,λi a b l t=>?_,gE h.bel g h.siz q.1,TU h.siz g.size⟩
 . rw [VZ] at a;rw [Wl];by_cases e:k=i
   . rw [TT e];exact ⟨(h.wid k d).1,j⟩
   . rw [TS e];exact h.wid i a
 . rw [VZ] at a;rw [Wl,TS ec];exact h.old i a b ec
 . rw [VZ] at a;rw [Wl];by_cases e:k=i
   . subst e;rw [TT rfl];refine ⟨f,p,?_,n⟩;rw [<- h.old k a b (.inr lR)];exact o
   . rw [TS e];exact h.new i a b l ec
def EW.keep {S:List (Nat×Nat×a8)} (h:EW w B W c r k v S lp T wr) (j:k<T.length) (f:dH T[k].2.2 c=0):EW w B W c r (k+1) v S lp T wr:=
 { h with
  old:=λi b a ho=>h.old i b a ec
  new:=λi b a d g=>by
   by_cases e:i=k
   . subst e;refine ⟨0,ee,?_,f⟩;rw [pj,h.old i b a (.inr lR)]
   . exact h.new i b a d ec }
def eh.ne (h:eh w B v T) {i j:Nat} (c:i<T.length) (d:j<T.length) (f:i≠j):T[i].1≠T[j].1:=by
 have b:=V3.1 h.nodup;intro e;rcases Yw f with a|a
 . exact b i j (oD c) (oD d) a (oD e)
 . exact b j i (oD d) (oD c) a (oD e.symm)
def eh.head (h:eh w B (Z5 (ZW ⟨g,0,ZX⟩) n cap) T) (b:∀ i (a:i<T.length),T[i].2.1=W/\T[i].2.2.length=W) {i:Nat} (a:i<T.length):w.cell? ⟨g,i,ZX⟩=ZW (Z5 (ZW ⟨T[i].1,0,ZX⟩) W W):=by
 have:=h.Sk a;unfold fX at this;rw [(b i a).1,(b i a).2] at this;exact this
def eh.byte (h:eh w B v T) (d:∀ i (a:i<T.length),T[i].2.1=W/\T[i].2.2.length=W) {i:Nat} (a:i<T.length) (b:c<W):w.cell? ⟨T[i].1,c,ZX⟩=ZW (Z7 .u8 ((dH T[i].2.2 c:Nat):Int))/\dH T[i].2.2 c<256:=
 ⟨(h.row _ (T6 a)).2.1.cell c (by rw [(d i a).2];exact b),dm (h.row _ (T6 a)).2.2.2.2 c⟩
def EI.cells (h:EI w B W c r (Z5 (ZW ⟨g,0,ZX⟩) n cap) D T wr) (b:c<W) (i:Nat) (a:i<T.length) :
 wr.cell? ⟨g,i,ZX⟩=ZW (Z5 (ZW ⟨T[i].1,0,ZX⟩) W W)/\wr.cell? ⟨T[i].1,c,ZX⟩=ZW (Z7 .u8 ((dH T[i].2.2 c:Nat):Int))/\dH T[i].2.2 c<256:=
 ⟨h.tab.head h.wid a,h.tab.byte h.wid a b⟩
def EI.swap (h:EI w B W c r (Z5 (ZW ⟨g,0,ZX⟩) n cap) D T wr) (d:B<=g) (b:r<T.length) (a:p<T.length) :
 EW w B W c r (r+1) (Z5 (ZW ⟨g,0,ZX⟩) n cap) (vZ T p r) T[p].2.2 (vZ T p r) ((wr.setCell ⟨g,p,ZX⟩ (Z5 (ZW ⟨T[r].1,0,ZX⟩) W W)).setCell ⟨g,r,ZX⟩ (Z5 (ZW ⟨T[p].1,0,ZX⟩) W W)):=by
 have k:fX T[r]=Z5 (ZW ⟨T[r].1,0,ZX⟩) W W:=by unfold fX;rw [(h.wid r b).1,(h.wid r b).2]
 have l:fX T[p]=Z5 (ZW ⟨T[p].1,0,ZX⟩) W W:=by unfold fX;rw [(h.wid p a).1,(h.wid p a).2]
 have f:=h.tab.swap a b;rw [k,l] at f;refine ⟨f,rfl,λi o=>?_,λ_ _ _ _=>rfl,λi _ _ m s=>absurd m ec,?_,?_⟩
 . obtain ⟨j,q,e⟩:=XD.1 (Gm T p r a b _ (T6 o));rw [<- e];exact h.wid j q
 . exact (h.bel.setCell (p:=⟨g,p,ZX⟩) d _).setCell (p:=⟨g,r,ZX⟩) d _
 . rw [Yv,Yv];exact h.siz
theorem EI.Sq (h:EI w B W c r v D T wr) (q:c<64) (o:r<=p) (d:p<T.length) (m:dH T[p].2.2 c≠0)
 (a:EW w B W c r k v (vZ T p r) T[p].2.2 T' wr') (y:T.length<=k):EI w B W (c+1) (r+1) v D T' wr':=by
 have u:r<T.length:=ec
 have hl:T'.length=T.length:=by rw [a.len,gz]
 refine h.TC q o d m a.tab hl a.wid (λi t n=>?_) a.bel a.siz;obtain ⟨f,s,e,x⟩:=a.new i t (by rw [gz];omega) n ec;have l:(if i=p then r else i)<T.length:=ZE
 refine ⟨f,l,s,?_,x⟩;rw [e];have j:i<T.length:=ec
 have g:(vZ T p r)[i]'(by rw [gz];omega)=T[if i=p then r else i]:=by
  rw [mi T p r i d u j,TS ec];by_cases b:i=p
  . simp only [TT b]
  . simp only [TS b]
 rw [g]
def EW.top (a:r<T.length) (b:p<T.length) (h:EW w B W c r k v (vZ T p r) T[p].2.2 T' wr):∃ d:r<T'.length,T'[r]=T[p]:=by
 have:T'.length=T.length:=by rw [h.len,gz]
 refine ⟨ec,?_⟩;rw [h.old r ec (by rw [gz];exact a) (.inl lR),mi T p r r b a a,TT rfl]
def tE {x z:Int} (a b:Nat) (f:x=(a:Int)) (g:y=(b:Int)) (c:a<256) (d:b<256) (h:((gm a b:Nat):Int)=z) (w:ZT) :
 ZQ ZM 64 #[Z7 .u8 x,Z7 .u8 y] w λe w'=>e=Z3 (Z7 .u8 z)/\w'=w:=by
 subst f g h;exact tj a b c d w
def KR {x:Int} (a:Nat) (c:x=(a:Int)) (b:a<256) (w:ZT) :
 ZQ ZM 63 #[Z7 .u8 x] w λe w'=>e=Z3 (Z7 .u8 ((gi a:Nat):Int))/\w'=w:=by
 subst c;exact Bp a b w
def RJ (wi:ZT) (b:Nat) (l lp:a8) (f c W:Nat) (jv:ZS) (wr:ZT):Prop:=
 ∃ j:Nat,c<=j/\j<=W/\jv=Z7 Z9 (j:Nat)/\wi.grownBy wr (ZW b)/\aM wr b (lD l lp f c j)
def KS (D:List a8) (w:ZT) (e:ZO) (w':ZT):Prop:=(rS D->∃ k:Nat,k<=64/\e=Z3 (Z7 Z9 k)/\m7 D k)/\(¬ rS D->e=Z3 (Z7 Z9 (-1)))/\bW w w'
def RR1 (D:List a8) (wv i:ZS):Prop:=∃ k:Nat,k<=D.length/\wv=Z7 Z9 (wd D k:Nat)/\i=Z7 Z9 k/\wd D k<=64/\∀ j (hj:j<D.length),j<k->(D[j]).length<=64
def RR2 (w:ZT) (W:Nat) (D:List a8) (v i:ZS) (wr:ZT):Prop:=
 ∃ k T,k<=D.length/\i=Z7 Z9 (k:Nat)/\eh wr w.heap.size v T/\T.map (λp=>p.2)=(D.take k).map (λl=>(W,JX W l))/\bW w wr/\w.heap.size<=wr.heap.size
theorem Ih (vd:ZS) (D:List a8) (w:ZT) (hd:Rd w vd D) :
 ZQ ZM 43 #[vd] w λe w'=>KS D w e w':=by
 obtain ⟨i0,y8,kv,yj,yk⟩:=Uu Tryz.RU;by_cases ym:64<D.length
 . obtain ⟨ao,c,rfl,hl,_⟩:=hd;go_enter func43,ntmps43;go_wp2;go_ret;exact ⟨λh=>absurd h.1 ec,λ_=>rfl,TW _ _⟩
 by_cases kk:D=[]
 . subst kk;obtain ⟨ao,c,rfl,_⟩:=hd;go_enter func43,ntmps43;go_wp2;refine VH 1 ?_;rw [Vz];go_wp2;refine VH 1 ?_;rw [Vz];go_wp2;refine VH 1 ?_;rw [Vz];go_wp2;go_ret;exact ⟨λ_=>⟨0,ec,rfl,sM (T:=[]) (λl hl=>by simp at hl)⟩,λh=>absurd ⟨ek,λi s=>by simp at s⟩ h,TW _ _⟩
 have xb:=ak kk;have y1:=hd.cases;rcases y1 with ⟨h0,_⟩|⟨b,off,c,rfl,hl,hc⟩
 . exact absurd h0 kk
 clear kk;have qs:∀ i (s:i<D.length),D.getD i []=D[i]:=λi s=>by simp [s]
 have HC:=ak hc;have qd:=ak qs;clear hc qs;go_enter func43,ntmps43;go_wp2;go_loop [3,4] (λwv i=>RR1 D wv i) (λ_ i=>D.length-(intOf i).toNat)
 case atStart=>exact ⟨0,T8 _,rfl,rfl,T8 _,λj _ h=>absurd h ec⟩
 case round=>
  obtain ⟨k,hk,rfl,rfl,yh,kf⟩:=hrel;by_cases q6:k<D.length
  . obtain ⟨u,hu,Z⟩:=HC.o k q6;obtain ⟨fo,fc,rfl,q1,U,P,q4⟩:=Z;have O:(D[k]).length<=140737488355328:=ec;have qc:wd D (k+1)=if wd D k<(D[k]).length then (D[k]).length else wd D k:=(by rw [<- qd.out k q6];rfl);have kj:=ak qc;by_cases B:(D[k]).length<=64
    . have qf:b9 (∀ j (hj:j<D.length),j<k+1->(D[j]).length<=64):=by
       intro j hj yq;by_cases e:j=k
       . subst e;exact B
       . exact kf j hj ec
      clear qc kf q1 U P q4;generalize (D[k]).length=lk at *;by_cases F:wd D k<lk
      . have J:b9 (wd D (k+1)=lk):=(by rw [kj.out,TT F];exact (rfl:lk=lk));clear kj;go_wp2;go_round
        case rel=>exact ⟨k+1,ec,by rw [J.out],eT,by rw [J.out];omega,qf.out⟩
        case measure=>simp [intOf];omega
      . have J:b9 (wd D (k+1)=wd D k):=(by rw [kj.out,TS F];exact (rfl:wd D k=wd D k));clear kj;go_wp2;go_round
        case rel=>exact ⟨k+1,ec,by rw [J.out],eT,by rw [J.out];omega,qf.out⟩
        case measure=>simp [intOf];omega
    . have HN:b9 (¬ rS D):=λh=>B (h.2 k q6);clear qc kf q1 U P q4;generalize (D[k]).length=lk at *;go_wp2;go_ret;exact ⟨λh=>absurd h HN.o,λ_=>rfl,TW _ _⟩
  . have ya:k=D.length:=ec;have ka:rS D:=⟨ec,λi s=>kf i s ec⟩;have qp:∀ i (s:i<D.length),(D[i]).length<=wd D k:=λi s=>by
     have:=aaz D i k ec;rw [qd.out i s] at this;exact this
    generalize wd D k=W at *;have xg:=ak ka;have qh:=ak qp;clear kf ya ka qp;go_wp2;go_loopw [5,6] (λv i wr=>RR2 w W D v i wr) (λ_ i _=>D.length-(intOf i).toNat)
    case atStart=>exact ⟨0,[],T8 _,rfl,eh.nil _ _,rfl,TW _ _,TV _⟩
    case round=>
     rename ZT=>wo;obtain ⟨k2,T,yr,rfl,I,H,R,kr⟩:=hrel;have qn:T.length=min k2 D.length:=(oD (Ux YJ H));by_cases k6:k2<D.length
     . obtain ⟨u,hu,Z⟩:=HC.o k2 k6;have qk:=Z.mono R;have O:=qh.out k2 k6;have hx:=Z.lt;have qo:=abn k6;obtain ⟨fo,fc,rfl,q1,U,P,q4⟩:=Z;have qb:wo.cell? ⟨b,off+k2,ZX⟩=ZW (.slice fo (D[k2]).length fc):=(by rw [R.cell (Uf hu)];exact hu);have xx:T.length<=64:=ec;have HH:=ak H;have xn:=ak qo;clear H qn hu q1 U P q4 qo;generalize D[k2]=l at *;go_wp2_with (first
        | (at_make;refine cP _ rfl (Z0 51) (Z0 51) rfl _ W rfl rfl rfl ec ?_;intro w1 hB L n;clear n;have x4:=qb;rw [<- L.cell (Uf qb)] at x4)
        | (refine xw rfl (Z0 53) (Z0 57) rfl wo.heap.size W W _ rfl rfl _ l hB (qk.mono L) O ek wo.heap.size wo L lR ?_;intro w2 Q N)
        | (at_builtin;refine WM _ rfl (Z0 59) (Z0 61) 108 rfl w.heap.size 40 i0 (Z5 ZX 0 0) 1 24 VS y8 kv yj yk rfl ee _ T.length (T.map fX) rfl ((I.below N).alloc _).own ⟨w2.heap.size,0,ZX⟩ 1 1 [Z5 (ZW ⟨wo.heap.size,0,ZX⟩) W W] rfl rfl (l9 _ _ rfl _ _) B9 eD ec (by rw [Uh];have:=N.size;omega) ?_;intro v' w3 h9 h5 yb))
       have qj:aM w2 wo.heap.size (JX W l):=by
        have e:l++(YF W 0).drop l.length=JX W l:=(by rw [X7];rfl);rw [e] at Q;exact Q
       have xv:=eh.append2 I N kr lR qj (sm W l O).symm (by rw [sm W l O];omega) (by rw [sm W l O];omega) (QG W l hx) h5 h9;have xy:=dM I R N kr h5;have yf:=h5.size;have yz:=N.size;try change ZR _ _ _ at yf
       rw [Uh] at yf;have xh:b9 ((T++[(wo.heap.size,W,JX W l)]).map (λp=>p.2)=(D.take (k2+1)).map (λl=>(W,JX W l))):=by
        rw [xn.out,Uw,Uw,HH.o];exact (rfl:_=_)
       clear I h9 h5 yb hB Q qj L N R qk qb x4 hx;go_wp2;go_roundw
       case rel=>exact ⟨k2+1,_,ec,eT,xv,xh.out,xy,ec⟩
       case measure=>simp [intOf];omega
     . have qx:k2=D.length:=ec;rw [qx,VA] at H;have A:=EI.start I H qh.out R kr;have hs:T.length=D.length:=(oD (Ux YJ H));rcases I.shape with ⟨rfl,h0⟩|⟨g,cap,hv,y4,y5,q0,y6,_⟩
       . exact absurd (UW (by rw [<- hs,h0];rfl)) xb.out
       rw [hs] at hv;subst hv;clear I H R kr y5 q0 y6 qn hs qx;go_wp2;go_loopw [8,9] (λrv cv wr=>RC w W (Z5 (ZW ⟨g,0,ZX⟩) D.length cap) D rv cv wr) (λ_ cv _=>W-(intOf cv).toNat)
       case atStart=>exact ⟨0,0,T,T8 _,rfl,rfl,A⟩
       case round=>
        clear A;rename ZT=>wo2;obtain ⟨r,d,a,yn,rfl,rfl,A⟩:=hrel;have qz:=A.len;have yd:=A.rle;by_cases ky:d<W
        . have E:=ak A;have ki:=ak (EI.cells A ky);clear A;go_wp2;go_loop [10,11] (λav M=>RP a r d av M) (λ_ M=>a.length-(intOf M).toNat)
          case atStart=>exact ⟨r,TV _,yd,rfl,.inl ⟨rfl,λi s B F=>absurd B ec⟩⟩
          case round=>
           obtain ⟨k3,yc,yx,rfl,q8⟩:=hrel;by_cases qy:k3<a.length
           . obtain ⟨q1,U,P⟩:=ki.out k3 qy;have xk:=ak q8;clear q8;have kv:dH a[k3].2.2 d=dH a[k3].2.2 d:=rfl;have HZ:=ak kv;clear kv;by_cases n:dH a[k3].2.2 d=0
             . have HZ:=ak n;rw [n] at U;clear n P;go_wp2;go_round
               case rel=>
                refine ⟨k3+1,ec,ec,eT,?_⟩;rcases xk.out with ⟨e,B⟩|⟨p,C,B,F,h3⟩
                . refine .inl ⟨e,λi s a1 a2=>?_⟩;by_cases e:i=k3
                  . subst e;exact HZ.o
                  . exact B i s a1 ec
                . exact .inr ⟨p,C,B,F,h3⟩
               case measure=>simp [intOf];omega
             . have y2:(((dH a[k3].2.2 d:Nat):Int) != 0)=ZV:=Zl;have HZ:=ak n;clear n P;go_wp2;go_round
               case rel=>exact ⟨k3+1,ec,ec,eT,.inr ⟨k3,qy,yc,eT,HZ.o⟩⟩
               case measure=>simp [intOf];omega
           . rcases q8 with ⟨rfl,n⟩|⟨p,C,x1,rfl,q9⟩
             . have xc:=ak (E.o.skip ec (λi s hr=>n i s hr ec));clear n;go_wp2;go_roundw
               case rel=>exact ⟨r,d+1,a,ec,rfl,eT,xc.out⟩
               case measure=>simp [intOf];omega
             . obtain ⟨p1,p2,p3⟩:=ki.out p C;have kp:r<a.length:=ec;obtain ⟨r1,_,_⟩:=ki.out r kp;have X:=E.o.swap y4 kp C;have h7:=E.o.tab.own;rw [E.o.len] at h7;have f1:=h7.frozenAt p;have f2:(wo2.setCell ⟨g,p,ZX⟩ (Z5 (ZW ⟨a[r].1,0,ZX⟩) W W)).frozen? ⟨g,r,ZX⟩=ZU:=(World.frozen?_setCell _ _ _ _).trans (h7.frozenAt r);have c1:(wo2.setCell ⟨g,p,ZX⟩ (Z5 (ZW ⟨a[r].1,0,ZX⟩) W W)).cell? ⟨g,r,ZX⟩=ZW (Z5 (ZW ⟨a[r].1,0,ZX⟩) W W):=by
                by_cases e:p=r
                . subst e;exact World.cell?_setCell_same _ _ _ r1
                . rw [ab2 _ _ _ _ (by intro h;injection h with B F;exact e F)];exact r1
               obtain ⟨yg,x2⟩:=EW.top kp C X;have L:=(X.tab.byte X.wid yg ky).1;rw [x2] at L;have xq:(vZ a p r).length=a.length:=gz a p r;have x0:∀ q,q<d->dH a[p].2.2 q=0:=λq hq=>E.o.zer p C x1 q hq;have xj:=ak x0;have xf:=ak (λ(k:Nat) (T':List (Nat×Nat×a8)) (wr':ZT) (h':EW w w.heap.size W d r k (Z5 (ZW ⟨g,0,ZX⟩) D.length cap) (vZ a p r) a[p].2.2 T' wr') (hk:a.length<=k)=>E.o.Sq ec x1 C q9 h' hk);have kx:=ak (λ(k:Nat) (T':List (Nat×Nat×a8)) (wr':ZT) (h':EW w w.heap.size W d r k (Z5 (ZW ⟨g,0,ZX⟩) D.length cap) (vZ a p r) a[p].2.2 T' wr')=>EW.top kp C h');have qe:=ak (E.o.wid p C).2;have xm:=ak q9;have HS:=ak X;clear h7 x2 x0 q9 X ki E;generalize vZ a p r=S at *;generalize a[p]=t at *;generalize a[r].1=br at *;generalize x7:dH t.2.2 d=y at *;generalize qq:t.1=bp at *;have xp:=ak x7;have x8:=ak qq;clear x7 qq;go_wp2_with (go_at_call 63;refine (KR y rfl p3 _).mono ?_;rintro e w' ⟨rfl,rfl⟩);go_loopw [14] (λM wr=>RW w w.heap.size W d r (Z5 (ZW ⟨g,0,ZX⟩) D.length cap) S t.2.2 M wr) (λM _=>S.length-(intOf M).toNat)
               case atStart=>exact ⟨r+1,S,ec,ec,eT,HS.o⟩
               case round=>
                clear p1 p2 r1 f1 f2 c1 L HS;rename ZT=>V;obtain ⟨k4,z,qa,yv,rfl,m⟩:=hrel;have yy:z.length=a.length:=(by rw [m.len];exact xq);by_cases ys:k4<a.length
                . have G:k4<z.length:=ec;have hh:=m.tab.head m.wid G;obtain ⟨yi,ks⟩:=m.tab.byte m.wid G ky;have h8:=m.tab.row _ (T6 G);have y7:=py m.tab.own h8.2.1;have hll:=(m.wid k4 G).2;obtain ⟨x3,kh⟩:=kx.out k4 z V m;have q7:=m.tab.ne x3 G ec;have kg:=m.tab.row _ (T6 x3);rw [kh] at kg q7;rw [x8.out] at kg q7;have xa:=ak kg.2.1;have xi:=ak kg.2.2.2.2;have x9:=ak h8.2.1;have qi:=ak h8.2.2.2.2;have h6:=ak (λn=>m.keep G n);have qg:b9 (∀ (f:Nat) (l':a8) (wr':ZT),f<256->V.grownBy wr' (ZW z[k4].1)->aM wr' z[k4].1 l'->l'.length=W->(∀ x∈l',x<256)->dH l'=cA (dH z[k4].2.2) f (dH t.2.2)->dH l' d=0->∃ T',EW w w.heap.size W d r (k4+1) (Z5 (ZW ⟨g,0,ZX⟩) D.length cap) S t.2.2 T' wr'):=
                   λf l' wr' hf hg hB q5 hx Y hc=>⟨_,m.step qa G hg hB q5 hx hf Y hc⟩
                  clear m h8 kg kh;generalize O:z[k4].2.2=l at *;generalize z[k4].1=bk at *;generalize x6:dH l d=x at *;have kb:gm x (gi y)<256:=bu _ ks;have ke:=nJ ks p3 xm.out;generalize ko:gm x (gi y)=f at *;have ha:=ak ke;have xo:=ak x6;clear ke x6 O;by_cases km:f=0
                  . have kz:((gm x (gi y):Nat):Int)=0:=(by rw [ko,km];rfl);have x5:x=0:=(by have:=ha.out;rw [km,bI,U4] at this;exact this);have J:=ak (h6.out x5);clear km ko kb x5 h6 qg ha;have tn:(d:Int)<(W:Int):=ec;go_wp2_with (go_at_call 64;refine (tE x (gi y) rfl rfl ks (iz p3) kz _).mono ?_;rintro e V ⟨rfl,rfl⟩);refine VH 1 ?_;rw [Vz];go_wp2;go_roundw
                    case rel=>exact ⟨k4+1,z,ec,ec,eT,J.out⟩
                    case measure=>simp [intOf];omega
                  . have y2:(((f:Nat):Int) != 0)=ZV:=Zl;have kz:((gm x (gi y):Nat):Int)=((f:Nat):Int):=(by rw [ko]);clear km ko h6;go_wp2_with (go_at_call 64;refine (tE x (gi y) rfl rfl ks (iz p3) kz _).mono ?_;rintro e V ⟨rfl,rfl⟩);go_loopw [16] (λjv wr=>RJ V bk l t.2.2 f d W jv wr) (λjv _=>W-(intOf jv).toNat)
                    case atStart=>exact ⟨d,TV _,ec,rfl,Wx _ _,by rw [Ex];exact x9.out⟩
                    case round=>
                     rename ZT=>wj;obtain ⟨j,y0,yp,rfl,kc,K⟩:=hrel;have yo:=kc.cell hh y7;by_cases y9:j<W
                     . have N:=(xa.out.grown kc (by intro e;injection e with e;exact q7 e)).cell j (by rw [qe.out];exact y9);have ye:=K.cell j (by rw [tD];omega);rw [KO _ _ _ _ _ ec] at ye;have z0:=K.frozen j;have Q:=K.set j (l.getD j 0^^^gm f (t.2.2.getD j 0));rw [Ig _ _ _ _ _ y0] at Q;have q0:=eF kc j (Z7 .u8 ((l.getD j 0^^^gm f (t.2.2.getD j 0):Nat):Int));have y3:=dm xi.out j;have z1:=ly (l.getD j 0) (gm f (t.2.2.getD j 0)) (dm qi.out j) (bu _ kb);clear K kc hh yi;generalize l.getD j 0^^^gm f (t.2.2.getD j 0)=av at *;generalize l.getD j 0=a0 at *;generalize t.2.2.getD j 0=dd at *;go_wp2_with (go_at_call 64;refine (tE f dd rfl rfl kb y3 rfl _).mono ?_;rintro e w' ⟨rfl,rfl⟩);go_region;go_wp2;go_roundw
                       case rel=>exact ⟨j+1,ec,ec,eT,sW q0 1,Q⟩
                       case measure=>simp [intOf];omega
                     . have qv:j=W:=ec;rw [qv] at K;have Y:=KQ l t.2.2 f d W hll qe.out xj.out;have n:dH (lD l t.2.2 f d W) d=0:=by
                        rw [Y];show dH l d^^^gm f (dH t.2.2 d)=0;rw [xo.out,xp.out];exact ha.out
                       obtain ⟨T4,qm⟩:=qg.out f _ wj kb kc K (by rw [tD];exact hll) (N9 qi.out kb _ _) Y n;have xe:=ak qm;clear Y n qm K qv;go_wp2;go_roundw
                       case rel=>exact ⟨k4+1,T4,ec,ec,eT,xe.out⟩
                       case measure=>simp [intOf];omega
                . have xd:=ak (xf.out k4 z V m ec);clear m;go_wp2;go_roundw
                  case rel=>exact ⟨r+1,d+1,z,ec,eT,eT,xd.out⟩
                  case measure=>simp [intOf];omega
        . have xz:d=W:=ec;have HK:=ak (A.done ec);have HB:=ak A.bel;clear A xz;go_wp2;go_ret;exact ⟨λ_=>⟨r,ec,rfl,HK.o⟩,λh=>absurd xg.out h,HB.o⟩
def we:Array ZS->Nat->List ZS->Array ZS
 | cur,_,[]=>cur
 | cur,o,v::r=>we (cur.setIfInBounds o v) (o+1) r
def xL:∀ (a:List ZS) (o:Nat) (cur:Array ZS),(we cur o a).size=cur.size
 | [],_,_=>rfl
 | v::r,o,cur=>by unfold we;rw [xL r];simp
def xM:∀ (a:List ZS) (o:Nat) (cur:Array ZS),o+a.length<=cur.size->(we cur o a).toList.take (o+a.length)=cur.toList.take o++a
 | [],o,cur,_=>by simp [we]
 | v::r,o,cur,h=>by
  simp only [UA] at h ⊢;unfold we;have:=xM r (o+1) (cur.setIfInBounds o v) en;rw [(ec:o+(r.length+1)=o+1+r.length),this,Yz];have e:(cur.toList.set o v).take (o+1)=cur.toList.take o++[v]:=by
   rw [Ve,List.take_set_of_le (TV o),YA en];rfl
  rw [e,Uz];rfl
def ju:∀ (c:List ZS) (o:Nat) (w:ZT) {b:Nat} {cur:Array ZS} {t:ZN} {a:Nat×Nat},w.heap[b]?=ZW (Z4 cur t a)->(w.setCells b o c).heap[b]?=ZW (Z4 (we cur o c) t a)
 | [],_,_,_,_,_,_,h=>h
 | v::r,o,w,b,cur,t,a,h=>by
  show ((w.setCell ⟨b,o,ZX⟩ v).setCells b (o+1) r).heap[b]?=_;exact ju r (o+1) _ (by simp [World.setCell,Vy,h])
def cB (w:ZT) (b o:Nat) (a:List ZS):w.grownBy (w.setCells b o a) (ZW b):=by
 obtain ⟨d,f,g⟩:=js b a o w;exact ⟨d,f,g,by rw [jr];exact TV _,λk _ c=>aQ b a o w k (λe=>c Wb)⟩
theorem ld (w:ZT) (base:Nat) (t tx p e:ZN) (i:TypeInfo) (z:ZS) (size bytes:Nat) (o:P.underlying t=ZW (.slice e)) (h:P.info? e=ZW i) (D:i.zero=ZW z)
 (F:i.size=size) (J:i.bytes=bytes) (O:z.cells.size=size) (v:ZS) (n:Nat) (xs:List ZS) (d:w.ownsRow base e size v n xs)
 (x:ZS) (m:Nat) (news:List ZS) (a:Src P size tx x m news w) (B:n+m<=maxLen) (A:(n+m)*bytes<=140737488355328) (E:base<=w.heap.size) :
 ∃ q w',(Builtin.append_ #[t,tx] p #[v,x]).run P w=.ok q w'/\w'.ownsRow base e size q (n+m) (xs++news)/\w.grownBy w' v.ownBlock/\(q.ownBlock=v.ownBlock\/q.ownBlock=ZW w.heap.size):=by
 subst F;subst J;have:n+m<=9223372036854775807:=by simp only [maxLen] at B;omega
 have f:(xs++news).length=(n+m)*i.size:=by rw [Ua,d.1,a.newsLen,XL]
 have grown:∀ (old:Nat),∀ (row:Option Nat),
  (w.drew.alloc (Z4 ((xs++news).toArray++Builtin.zeroCells z.cells (grownCap w (n+m) old e-(n+m))) e)).ownsRow base e i.size
   (Z5 (ZW ⟨w.heap.size,0,ZX⟩) (n+m) (grownCap w (n+m) old e)) (n+m) (xs++news) /\
  w.grownBy (w.drew.alloc (Z4 ((xs++news).toArray++Builtin.zeroCells z.cells (grownCap w (n+m) old e-(n+m))) e)) row:=by
  intro old row;have N:=abo w (n+m) old e;have s:grownCap w (n+m) old e<=maxLen:=abp w (n+m) old e B;refine ⟨⟨f,.inr ⟨w.heap.size,_,_,rfl,E,abq w.drew _,N,s,?_,?_⟩⟩,⟨rfl,rfl,rfl,ek,λk l _=>(UF w.drew _ k l:_)⟩⟩
  . rw [Array.size_append,UH,size_zeroCells,O,f,<- XL];congr 1;omega
  . rw [Array.toList_append,<- f];exact Yf
 rcases d.2 with ⟨rfl,rfl⟩|⟨g,cap,cur,rfl,I,y,T,s,C,G⟩
 . have Q:xs=[]:=UW (oD d.1);subst Q;by_cases L:m=0
   . subst L;have M:news=[]:=UW (oD a.newsLen);subst M;refine ⟨Z5 ZX 0 0,w,?_,UK w base e i.size,⟨rfl,rfl,rfl,TV _,λ_ _ _=>rfl⟩,.inl rfl⟩;rcases a.kind with ⟨R,l⟩|l<;>simp [Builtin.append_,UL o,UL l,sizeOf,typeInfo,h,a.len,a.cells]
   . have b:=run_append_grow_src (P:=P) (w:=w) t tx p e i z o h D ZX 0 0 [] (by simp [Builtin.firstCells]) x m news a ec ec (abr ec (oD A));have c:=grown 0 (Value.ownBlock (Z5 ZX 0 0));simp only [Uj,Uq] at c b ⊢;exact ⟨_,_,b,c.1,c.2,.inr rfl⟩
 . by_cases r:n+m<=cap
   . have H:n*i.size+news.length<=cur.size:=(by rw [a.newsLen,C,<- XL];exact W0 _ r);have b:=run_append_room_src (P:=P) (w:=w) t tx p e i o h g 0 n cap x m news a r (λj K=>by simp [World.cell?,y];omega) (λj K=>by simp [World.frozen?,y]);rw [Uj] at b;refine ⟨_,_,b,⟨f,.inr ⟨g,cap,_,rfl,I,ju news _ w y,r,s,by rw [xL];exact C,?_⟩⟩,cB w g _ news,.inl rfl⟩;rw [XL,<- a.newsLen,xM news _ cur H,G]
   . have holds:∀ j u,xs[j]?=ZW u->w.cell? ((⟨g,0,ZX⟩:ZP).add j)=ZW u:=d.cells (g:=g) rfl;have b:=run_append_grow_src (P:=P) (w:=w) t tx p e i z o h D (ZW ⟨g,0,ZX⟩) n cap xs (run_firstCells_some w.drew i.size n ⟨g,0,ZX⟩ n cap xs d.1 (oD holds)) x m news a ec ec (abr ec A);have c:=grown cap (Value.ownBlock (Z5 (ZW ⟨g,0,ZX⟩) n cap));exact ⟨_,_,b,c.1,c.2,.inr rfl⟩
def ae (w:ZT) {ops:Array Oper} {rest:List Oper} {o:Oper} {a:Act} {Q:Exit->Act->ZT->Prop} (g:o.guard=ZX) (s x:Operand) (t tx:ZN)
 (ho:o.op=.call { callee:=.builtin .append,args:=#[s,x],argTypes:=#[t,tx] }) (base:Nat) (e:ZN) (i:TypeInfo) (z:ZS) (size bytes:Nat) (ht:P.underlying t=ZW (.slice e)) (hi:P.info? e=ZW i) (hz:i.zero=ZW z)
 (h5:i.size=size) (h8:i.bytes=bytes) (ha:z.cells.size=size) (v:ZS) (n:Nat) (xs:List ZS) (hv:a.eval s=v) (h6:w.ownsRow base e size v n xs)
 (u:ZS) (hu:a.eval x=u) (m:Nat) (news:List ZS) (hs:Src P size tx u m news w) (h7:n+m<=maxLen) (h0:(n+m)*bytes<=140737488355328) (h1:base<=w.heap.size)
 (h:∀ b w',w'.ownsRow base e size b (n+m) (xs++news)->w.grownBy w' v.ownBlock->(b.ownBlock=v.ownBlock\/b.ownBlock=ZW w.heap.size)->wpList P ops Q rest (a.put o.dst b) w'):wpList P ops Q (o::rest) a w:=by
 obtain ⟨b,w',j,c,d,f⟩:=ld (P:=P) w base t tx o.type e i z size bytes ht hi hz h5 h8 ha v n xs h6 u m news hs h7 h0 h1;refine V0 g λK hK=>?_;unfold Oper.wp execOp;simp only [ho,resolve,invoke,builtin,UE,VP,UT,YC,U1,Wr,hv,hu,j];exact hK _ _ (h b w' c d f)
def Oc (Fc:Fence) (n:Nat) (P:Program) (Q:Exit->Act->ZT->Prop) (lo hi:Nat) (sh:List (Op×Option Nat×a8)) (a0:Act) (V:Nat->ZS->ZT->Prop) (B:(Nat->Bool)->ZT->Prop) (i:Nat):Prop:=
 ∀ (o:Oper) (a:Act) (w:ZT) (D:Nat->Bool),o.guard=ZX->o.op=(gG sh i).1->o.dst=(gG sh i).2.1->gN lo hi a0 a->D i=ZU->(∀ j,D j=ZV->j<sh.length/\∀ k∈(gG sh j).2.2,D k=ZV) ->
  (∀ k∈(gG sh i).2.2,D k=ZV)->B D w->(∀ j,D j=ZV->V j (mQ (gG sh j).2.1 a) w) ->
  o.wpIn Fc n P a w (λa' w'=>∃ v,a'=a.put o.dst v/\(o.dst=ZX->v=ZY)/\B (Ge D i) w'/\V i v w'/\∀ j u,D j=ZV->V j u w->V j u w') Q
def jw {Fc:Fence} {lo hi:Nat} {sh:List (Op×Option Nat×a8)} (y:P.follows .mixedOrders=ZV) (v:eu ops lo hi sh) (b:Act) (w0:ZT) (u:hi<=b.tmps.size)
 (V:Nat->ZS->ZT->Prop) (B:(Nat->Bool)->ZT->Prop) (x:B (λ_=>ZU) w0.drew) (k:∀ i,i<sh.length->Oc Fc n P Q lo hi sh b V B i)
 (t:∀ (a:Act) (w:ZT),gN lo hi b a->(∀ s,(∀ i,i<sh.length->(gG sh i).2.1≠ZW s)->a.eval (.tmp s)=b.eval (.tmp s))->(∃ D,(∀ i,i<sh.length->D i=ZV)/\B D w)->(∀ i,i<sh.length->V i (mQ (gG sh i).2.1 a) w)->Q .normal a w):(Code.region m ops ZV).wpIn Fc n P Q b w0:=
 wpIn_region_any y (Hn (λo a w K=>o.wpIn Fc n P a w K Q) (wpAnyIn Fc n P .any ops Q) (λ_ _ _ h q=>⟨h,q⟩) (λf l a w c d=>⟨λe=>absurd e c,λi hi=>by
  obtain ⟨o,g,j,h⟩:=d i hi;unfold wpOpIn;rw [g];show if Region.wanted o (yielded ops a.tmps)=ZV then _ else _;rw [TT (by simp [Region.wanted,j])];exact h⟩) (λo a w K z h=>Oper.wpIn_mono h) v b _ u V B x (λi hi o a w D c d p r _=>k i hi o a w D c d p r) t)
def ia {l:Nat} {B:ZT->Prop} (i:(execOp a.eval o).run P w=.ok (.value v) w') (f:∀ c,o.op≠.defer c) {d:Nat} (g:o.dst=ZW d) (h:B w'/\Vi v w'/\S w') :
 o.wpIn (Fence.wide.inRound l) n P a w (λb w'=>∃ v,b=a.put o.dst v/\(o.dst=ZX->v=ZY)/\B w'/\Vi v w'/\S w') Q:=by
 refine ⟨λ_ _=>trivial,?_⟩;rw [Vu _ _ _ f,i];exact ⟨v,rfl,λe=>(by rw [g] at e;cases e),h.1,h.2.1,h.2.2⟩
def BP {l:Nat} {B:ZT->Prop} (e:(execOp a.eval o).run P w=.ok .skip w') (d:∀ c,o.op≠.defer c) (h:B w'/\Vi ZY w'/\S w') :
 o.wpIn (Fence.wide.inRound l) n P a w (λb w'=>∃ v,b=a.put o.dst v/\(o.dst=ZX->v=ZY)/\B w'/\Vi v w'/\S w') Q:=by
 refine ⟨λ_ _=>trivial,?_⟩;rw [Vu _ _ _ d,e];exact ⟨ZY,rfl,λ_=>rfl,h.1,h.2.1,h.2.2⟩
def BQ {l:Nat} {B:ZT->Prop} (m:(execOp a.eval o).run P w=.ok (.enter f args) w1) (g:∀ c,o.op≠.defer c) {d:Nat} (k:o.dst=ZW d) (j:ZQ P f args w1 Rr)
 (h:∀ e w',Rr e w'->∃ v,e=Z3 v/\B w'/\Vi v w'/\S w'):o.wpIn (Fence.wide.inRound l) n P a w (λb w'=>∃ v,b=a.put o.dst v/\(o.dst=ZX->v=ZY)/\B w'/\Vi v w'/\S w') Q:=by
 refine ⟨λ_ _=>trivial,?_⟩;rw [Vu _ _ _ g,m];refine ⟨λh=>vE,abS l (Vd.2 (j.mono λe w' i=>?_))⟩;obtain ⟨v,rfl,p,q,r⟩:=h e w' i;exact ⟨v,rfl,λe=>(by rw [k] at e;cases e),p,q,r⟩
def sn {B:ZT->Prop} (i:(execOp a.eval o).run P w=.ok (.value v) w') (f:∀ c,o.op≠.defer c) {d:Nat} (g:o.dst=ZW d) (h:B w'/\Vi v w'/\S w') :
 o.wpIn Fence.wide n P a w (λb w'=>∃ v,b=a.put o.dst v/\(o.dst=ZX->v=ZY)/\B w'/\Vi v w'/\S w') Q:=by
 refine ⟨λ_ _=>trivial,?_⟩;rw [Vu _ _ _ f,i];exact ⟨v,rfl,λe=>(by rw [g] at e;cases e),h.1,h.2.1,h.2.2⟩
def BR {B:ZT->Prop} (e:(execOp a.eval o).run P w=.ok .skip w') (d:∀ c,o.op≠.defer c) (h:B w'/\Vi ZY w'/\S w') :
 o.wpIn Fence.wide n P a w (λb w'=>∃ v,b=a.put o.dst v/\(o.dst=ZX->v=ZY)/\B w'/\Vi v w'/\S w') Q:=by
 refine ⟨λ_ _=>trivial,?_⟩;rw [Vu _ _ _ d,e];exact ⟨ZY,rfl,λ_=>rfl,h.1,h.2.1,h.2.2⟩
def KT {B:ZT->Prop} (l:(execOp a.eval o).run P w=.ok (.enter f args) w1) (g:∀ c,o.op≠.defer c) {d:Nat} (k:o.dst=ZW d) (j:ZQ P f args w1 Rr)
 (h:∀ e w',Rr e w'->∃ v,e=Z3 v/\B w'/\Vi v w'/\S w'):o.wpIn Fence.wide n P a w (λb w'=>∃ v,b=a.put o.dst v/\(o.dst=ZX->v=ZY)/\B w'/\Vi v w'/\S w') Q:=by
 refine ⟨λ_ _=>trivial,?_⟩;rw [Vu _ _ _ g,l];refine ⟨λh=>vE,(Vd.2 (j.mono λe w' i=>?_))⟩;obtain ⟨v,rfl,m,p,q⟩:=h e w' i;exact ⟨v,rfl,λe=>(by rw [k] at e;cases e),m,p,q⟩
structure St where
 k:Nat
 a:Int
 b:Int
 c:Nat
def Ii (kk:IntKind) (s:St):List ZS:=[.int kk s.k,Z7 Z9 s.a,Z7 Z9 s.b,Z7 .u8 s.c]
def zL (s:St):Prop:=s.k<256/\-9223372036854775808<=s.a/\s.a<=9223372036854775807/\-9223372036854775808<=s.b/\s.b<=9223372036854775807/\s.c<256
def Ps (kk:IntKind) (w:ZT) (v:ZS) (P:List St):Prop:=
 ∃ ao c,v=.slice ao P.length c/\P.length<=4398046511104/\(P≠[]->∃ b off,ao=ZW ⟨b,off,ZX⟩/\∀ i (hi:i<P.length),
  w.cell? ⟨b,off+i*4,ZX⟩=ZW (.int kk P[i].k)/\w.cell? ⟨b,off+i*4+1,ZX⟩=ZW (Z7 Z9 P[i].a)/\w.cell? ⟨b,off+i*4+2,ZX⟩=ZW (Z7 Z9 P[i].b)/\w.cell? ⟨b,off+i*4+3,ZX⟩=ZW (Z7 .u8 P[i].c))
def Ps.mono {P:List St} (h:Ps kk w v P) (a:bW w w'):Ps kk w' v P:=by
 obtain ⟨ao,c,g,j,k⟩:=h;refine ⟨ao,c,g,j,λl=>?_⟩;obtain ⟨b,off,e,m⟩:=k l;refine ⟨b,off,e,λi n=>?_⟩;obtain ⟨c0,c1,d,f⟩:=m i n;exact ⟨by rw [a.cell (Uf c0)];exact c0,by rw [a.cell (Uf c1)];exact c1,by rw [a.cell (Uf d)];exact d,by rw [a.cell (Uf f)];exact f⟩
def Ps.cases {P:List St} (h:Ps kk w v P):(P=[]/\∃ ao c,v=.slice ao 0 c)\/∃ b off c,v=Z5 (ZW ⟨b,off,ZX⟩) P.length c/\P.length<=4398046511104/\∀ i (l:i<P.length),
 w.cell? ⟨b,off+i*4,ZX⟩=ZW (.int kk P[i].k)/\w.cell? ⟨b,off+i*4+1,ZX⟩=ZW (Z7 Z9 P[i].a)/\w.cell? ⟨b,off+i*4+2,ZX⟩=ZW (Z7 Z9 P[i].b)/\w.cell? ⟨b,off+i*4+3,ZX⟩=ZW (Z7 .u8 P[i].c):=by
 obtain ⟨ao,c,d,f,g⟩:=h;by_cases e:P=[]
 . subst e;exact .inl ⟨rfl,ao,c,d⟩
 . obtain ⟨b,off,rfl,j⟩:=g e;exact .inr ⟨b,off,c,d,f,j⟩
def Ps.slice {P:List St} (h:Ps kk w v P):∃ ao c,v=.slice ao P.length c:=by
 obtain ⟨ao,c,a,_⟩:=h;exact ⟨ao,c,a⟩
def iL (s:St) (regs shards:Int):Prop:=(s.k=0\/s.k=2)/\0<=s.a/\s.a<regs/\0<=s.b/\s.b<shards\/s.k=1/\0<=s.a/\s.a<regs/\0<=s.b/\s.b<regs/\s.a≠s.b
def zM (regs:Int) (P:List St):Prop:=0<=regs/\regs<=32/\P.length<=2000
def iM (regs:Int) (P:List St) (shards:Int):Prop:=zM regs P/\∀ i (hi:i<P.length),iL P[i] regs shards
def BIs (p:Prop) (w:ZT) (r:ZO) (w':ZT):Prop:=∃ b:Bool,r=Z3 (Z1 b)/\(b=ZV↔p)/\bW w w'
def aa4 (p:Prop) (w:ZT) (r:ZO) (w':ZT):Prop:=∃ b:Bool,r=Z3 (Z1 b)/\(b=ZV↔p)/\w'=w
def A0 (n e:Int):Prop:=0<=n/\n<e
theorem tF (n e:Int) (w:ZT) :
 ZQ ZM 213 #[Z7 Z9 n,Z7 Z9 e] w λr w'=>aa4 (A0 n e) w r w':=by
 by_cases a:0<=n
 . go_enter func213,ntmps213;go_wp2;go_ret;exact ⟨_,rfl,by unfold A0;simp [a],rfl⟩
 . go_enter func213,ntmps213;go_wp2;go_ret;exact ⟨_,rfl,by unfold A0;simp;omega,rfl⟩
def fq (n e:Int) (h:A0 n e) (w:ZT) :
 ZQ ZM 213 #[Z7 Z9 n,Z7 Z9 e] w λr w'=>r=Z3 (Z1 ZV)/\w'=w:=by
 refine (tF n e w).mono ?_;rintro r w' ⟨b,rfl,a,rfl⟩;exact ⟨by rw [a.2 h],rfl⟩
def jI (n e:Int) (h:¬ A0 n e) (w:ZT) :
 ZQ ZM 213 #[Z7 Z9 n,Z7 Z9 e] w λr w'=>r=Z3 (Z1 ZU)/\w'=w:=by
 refine (tF n e w).mono ?_;rintro r w' ⟨b,rfl,a,rfl⟩;cases b
 . exact ⟨rfl,rfl⟩
 . exact absurd (a.1 rfl) h
theorem BS (regs:Int) (v:ZS) (P:List St) (w:ZT) (h:Ps .u8 w v P) :
 ZQ ZM 197 #[.agg #[Z7 Z9 regs,v]] w λr w'=>BIs (zM regs P) w r w':=by
 obtain ⟨ao,c,rfl⟩:=h.slice;clear h;have d:bW w (w.alloc (Z4 #[Z7 Z9 regs,.slice ao P.length c] 206)):=bA _ _;by_cases b:A0 regs 33
 . have a:=ak b;clear b;go_enter func197,ntmps197;go_wp2_with (go_at_call 213;refine (fq _ _ a.o _).mono ?_;rintro e w' ⟨rfl,rfl⟩);go_ret;refine ⟨_,rfl,?_,d⟩;have:=a.o;unfold A0 at this;unfold zM;simp;omega
 . have a:=ak b;clear b;go_enter func197,ntmps197;go_wp2_with (go_at_call 213;refine (jI _ _ a.o _).mono ?_;rintro e w' ⟨rfl,rfl⟩);go_ret;refine ⟨_,rfl,?_,d⟩;have:=a.o;unfold A0 at this;unfold zM;simp;omega
theorem Ij (s:St) (regs d:Int) (w:ZT) :
 ZQ ZM 198 #[.agg #[Z7 .u8 s.k,Z7 Z9 s.a,Z7 Z9 s.b,Z7 .u8 s.c],Z7 Z9 regs,Z7 Z9 d] w λr w'=>BIs (iL s regs d) w r w':=by
 obtain ⟨k,a,b,c⟩:=s;have j:bW w (w.alloc (Z4 #[Z7 .u8 k,Z7 Z9 a,Z7 Z9 b,Z7 .u8 c] 299)):=bA _ _;by_cases l:k=0\/k=2
 . by_cases g:A0 a regs
   . by_cases i:A0 b d
     . have f:=ak g;have h:=ak i;clear g i;rcases l with rfl|rfl;all_goals
        go_enter func198,ntmps198;go_wp2_with fail;refine (fq _ _ f.o _).mono ?_;rintro e w' ⟨rfl,rfl⟩;go_wp2_with fail;refine (fq _ _ h.o _).mono ?_;rintro e w' ⟨rfl,rfl⟩;go_wp2;go_ret;refine ⟨_,rfl,?_,j⟩;have:=f.o;have:=h.o;unfold A0 at *;unfold iL;simp;omega
     . have f:=ak g;have h:=ak i;clear g i;rcases l with rfl|rfl;all_goals
        go_enter func198,ntmps198;go_wp2_with fail;refine (fq _ _ f.o _).mono ?_;rintro e w' ⟨rfl,rfl⟩;go_wp2_with fail;refine (jI _ _ h.o _).mono ?_;rintro e w' ⟨rfl,rfl⟩;go_wp2;go_ret;refine ⟨_,rfl,?_,j⟩;have:=f.o;have:=h.o;unfold A0 at *;unfold iL;simp;omega
   . have f:=ak g;clear g;rcases l with rfl|rfl;all_goals
      go_enter func198,ntmps198;go_wp2_with (go_at_call 213;refine (jI _ _ f.o _).mono ?_;rintro e w' ⟨rfl,rfl⟩);go_ret;refine ⟨_,rfl,?_,j⟩;have:=f.o;unfold A0 at *;unfold iL;simp;omega
 . by_cases k1:k=1
   . subst k1;clear l;by_cases g:A0 a regs
     . by_cases i:A0 b regs
       . have f:=ak g;have h:=ak i;clear g i;go_enter func198,ntmps198;go_wp2_with fail;refine (fq _ _ f.o _).mono ?_;rintro e w' ⟨rfl,rfl⟩;go_wp2_with fail;refine (fq _ _ h.o _).mono ?_;rintro e w' ⟨rfl,rfl⟩;go_wp2;go_ret;refine ⟨_,rfl,?_,j⟩;have:=f.o;have:=h.o;unfold A0 at *;unfold iL;simp;omega
       . have f:=ak g;have h:=ak i;clear g i;go_enter func198,ntmps198;go_wp2_with fail;refine (fq _ _ f.o _).mono ?_;rintro e w' ⟨rfl,rfl⟩;go_wp2_with fail;refine (jI _ _ h.o _).mono ?_;rintro e w' ⟨rfl,rfl⟩;go_wp2;go_ret;refine ⟨_,rfl,?_,j⟩;have:=f.o;have:=h.o;unfold A0 at *;unfold iL;simp;omega
     . have f:=ak g;clear g;go_enter func198,ntmps198;go_wp2_with (go_at_call 213;refine (jI _ _ f.o _).mono ?_;rintro e w' ⟨rfl,rfl⟩);go_ret;refine ⟨_,rfl,?_,j⟩;have:=f.o;unfold A0 at *;unfold iL;simp;omega
   . have p:((k:Int)==0)=ZU:=vy;have q:((k:Int)==1)=ZU:=vy;have t:((k:Int)==2)=ZU:=vy;have m:=ak l;have n:=ak k1;clear l k1;go_enter func198,ntmps198;go_wp2;go_ret;refine ⟨_,rfl,?_,j⟩;have:=m.out;have:=n.out;unfold iL;simp;omega
def QH (regs:Int) (P:List St) (shards:Int) (w:ZT) (r:ZO) (w':ZT):Prop:=(iM regs P shards->r=Z3 .nilIface)/\(¬ iM regs P shards->r=Z3 (.iface 66 (Z7 Z9 4)))/\bW w w'
def ChR (w:ZT) (regs shards:Int) (P:List St) (i:ZS) (wr:ZT):Prop:=∃ k:Nat,k<=P.length/\i=Z7 Z9 k/\(∀ j (hj:j<P.length),j<k->iL P[j] regs shards)/\bW w wr
theorem aaA {x y:ZS} (h:ZR (n+1) (w.alloc (Z4 #[x,y] t)) w') (a:n=w.heap.size):w'.cell? ⟨n,0,ZX⟩=ZW x/\w'.cell? ⟨n,1,ZX⟩=ZW y:=by
 subst a;constructor
 . rw [h.cell ek];simp
 . rw [h.cell ek];simp
theorem Ik (regs d:Int) (v:ZS) (P:List St) (w:ZT) (h:Ps .u8 w v P) :
 ZQ ZM 176 #[.agg #[Z7 Z9 regs,v],Z7 Z9 d] w λr w'=>QH regs P d w r w':=by
 have n:bW w (w.alloc (Z4 #[Z7 Z9 regs,v] 206)):=bA _ _;have y:=h.mono n;obtain ⟨ao,c,rfl⟩:=h.slice;go_enter func176,ntmps176;go_wp2_with fail;refine (BS regs _ P _ y).mono ?_;rintro r w1 ⟨b,rfl,q,l⟩;try change ZR _ _ _ at l
 rw [Uh] at l;obtain ⟨M,X⟩:=aaA l rfl;have L:=l.size;try change ZR _ _ _ at L
 rw [Uh] at L;have m:=n.trans (l.mono ec);cases b
 . have HN:=ak (show ¬ iM regs P d from λg=>by have:=q.2 g.1;simp at this);clear q l y h n;go_wp2;go_ret;exact ⟨λg=>absurd g HN.o,λ_=>rfl,m⟩
 . have G:=ak (q.1 rfl);have z:=h.mono m;clear q l y n h;rcases z.cases with ⟨rfl,N,O,e⟩|⟨b,off,O,e,_,C⟩
   . simp at e;obtain ⟨rfl,rfl⟩:=e;clear z;go_wp2;refine VH 1 ?_;rw [Vz];go_wp2;go_ret;exact ⟨λ_=>rfl,λg=>absurd ⟨G.o,λi t=>by simp at t⟩ g,m⟩
   . simp at e;obtain ⟨rfl,rfl⟩:=e;clear z;go_wp2;go_loopw [14] (λi wr=>ChR w1 regs d P i wr) (λi _=>P.length-(intOf i).toNat)
     case atStart=>exact ⟨0,T8 _,rfl,λj _ D=>absurd D ec,TW _ _⟩
     case round=>
      rename ZT=>wo;obtain ⟨k,U,rfl,p,f⟩:=hrel;have E:=(f.cell (Uf M)).trans M;by_cases K:k<P.length
      . obtain ⟨c0,c1,u,x⟩:=C k K;have Q:=(f.cell (Uf c0)).trans c0;have d1:=(f.cell (Uf c1)).trans c1;have R:=(f.cell (Uf u)).trans u;have S:=(f.cell (Uf x)).trans x;have B:=ak p;clear C p c0 c1 u x;have F:=(((TW wo.heap.size wo).alloc lR (Z4 #[Z7 .u8 P[k].k,Z7 Z9 P[k].a,Z7 Z9 P[k].b,Z7 .u8 P[k].c] 299)).cell (Uf E)).trans E;have H:=f.alloc f.size (Z4 #[Z7 .u8 P[k].k,Z7 Z9 P[k].a,Z7 Z9 P[k].b,Z7 .u8 P[k].c] 299);have W:=f.size;go_wp2_with fail;refine (Ij P[k] regs d _).mono ?_;rintro r w2 ⟨b2,rfl,J,s⟩;try change ZR _ _ _ at s
        rw [Uh] at s;have I:=H.trans (s.mono ec);have A:=ak J;clear s J Q d1 R S E F f H;cases b2
        . go_wp2;go_ret;exact ⟨λg=>absurd (A.out.2 (g.2 k K)) ek,λ_=>rfl,m.trans (I.mono ec)⟩
        . go_wp2;go_roundw
          case rel=>
           refine ⟨k+1,ec,eT,λj D V=>?_,I⟩;by_cases e:j=k
           . subst e;first|exact A.out.1 rfl|exact A.out.1 trivial
           . exact B.out j D ec
          case measure=>simp [intOf];omega
      . have T:k=P.length:=ec;subst T;have B:=ak p;clear C p;go_wp2;go_ret;exact ⟨λ_=>rfl,λg=>absurd ⟨G.o,λi t=>B.out i t t⟩ g,m.trans (f.mono ec)⟩
def ez (kk:IntKind):List St->List ZS
 | []=>[]
 | s::P=>Ii kk s++ez kk P
def rj (kk:IntKind):∀ P Q,ez kk (P++Q)=ez kk P++ez kk Q
 | [],_=>rfl
 | s::P,Q=>by simp [ez,rj kk P Q]
def Gn (kk:IntKind):∀ (P:List St) (i:Nat) (b:i<P.length) (j:Nat),j<4->(ez kk P)[i*4+j]?=(Ii kk P[i])[j]?
 | s::P,0,_,j,a=>by
  simp only [ez,abt,Uj,ab4];rw [VC (by simpa [Ii] using a)]
 | s::P,i+1,b,j,a=>by
  have e:(i+1)*4+j=(Ii kk s).length+(i*4+j):=by simp [Ii];omega
  simp only [ez,X6];rw [e,U7 (Nat.le_add_right _ _),WY];exact Gn kk P i (oD b) j a
def BV (w:ZT) (n:Nat) (b:n=w.heap.size) (x y z u:ZS) (t:ZN):∀ j v,[x,y,z,u][j]?=ZW v->(w.alloc (Z4 #[x,y,z,u] t)).cell? ((⟨n,0,ZX⟩:ZP).add j)=ZW v:=by
 subst b;intro j v a;rw [jG];rcases j with _|_|_|_|j;all_goals simp at a
 all_goals subst a;simp
def Od {e:ZN} {P:List St} (h:w.ownsRow base e 4 v P.length (ez kk P)) (hl:P.length<=4398046511104):Ps kk w v P:=by
 rcases h.2 with ⟨b,c⟩|⟨g,cap,cur,a,k,l,m,n,o,p⟩
 . have:P=[]:=UW c;subst this;exact ⟨ZX,0,b,ek,λh=>absurd rfl h⟩
 . subst a;refine ⟨ZW ⟨g,0,ZX⟩,cap,rfl,hl,λ_=>⟨g,0,rfl,λi d=>?_⟩⟩;have at':∀ j,j<4->w.cell? ⟨g,0+i*4+j,ZX⟩=(Ii kk P[i])[j]?:=λj f=>by
    rw [Uj,h.cellAt (i*4+j) ec,Gn kk P i d j f]
   exact ⟨at' 0 ee,at' 1 ee,at' 2 ee,at' 3 ee⟩
def BW {ob:Option Nat} (h:w0.grownBy w ob) (o:Obj):w0.grownBy (w.alloc o) ob:=
 ⟨h.os,h.tape,h.output,by rw [Uh];have:=h.size;omega,λk a b=>by rw [<- h.block k a b];exact ((TW w.heap.size w).alloc lR o).block k (T7 a h.size)⟩
def dy (w:ZT) (b i:Nat) (v:ZS):w.grownBy (w.setCell ⟨b,i,ZX⟩ v) (ZW b):=
 ⟨rfl,rfl,rfl,ek,λk _ a=>by
  have:b≠k:=λe=>a Wb;simp [World.setCell,Vy,this]⟩
def og (w:ZT) (o:Obj) (k:Nat) (h:k<w.heap.size):(w.alloc o).heap[k]?=w.heap[k]?:=((TW w.heap.size w).alloc lR o).block k h
def KU (w:ZT) (a b c:Obj):(((w.alloc a).alloc b).alloc c).heap.size=w.heap.size+3/\(((w.alloc a).alloc b).alloc c).heap[w.heap.size]?=ZW a/\(((w.alloc a).alloc b).alloc c).heap[w.heap.size+1]?=ZW b/\(((w.alloc a).alloc b).alloc c).heap[w.heap.size+1+1]?=ZW c:=by
 have d:=Uh w a;have e:=Uh (w.alloc a) b;have:=Uh ((w.alloc a).alloc b) c;refine ⟨ec,?_,?_,?_⟩
 . rw [og _ _ _ ec,og _ _ _ ec];exact UC w a
 . rw [og _ _ _ ec,<- d];exact UC _ b
 . rw [<- d,<- e];exact UC _ c
def ay {ob:Nat} {x y:ZS} (h:w.heap[ob]?=ZW (Z4 #[x,y] t (0,0))):w.cell? ⟨ob,0,ZX⟩=ZW x/\w.cell? ⟨ob,1,ZX⟩=ZW y/\w.frozen? ⟨ob,1,ZX⟩=ZU/\w.frozen? ⟨ob,0,ZX⟩=ZU:=by
 simp [World.cell?,World.frozen?,h]
def bv (l:a8):List ZS:=l.map λx=>Value.int .u8 ((x:Nat):Int)
theorem KV (h:w.heap[g]?=ZW (Z4 (((bv l).toArray)++Builtin.zeroCells #[Z7 .u8 0] m) 5 (0,0))):aM w g (l++YF m 0):=by
 have e:((bv l).toArray++Builtin.zeroCells #[Z7 .u8 0] m)=((l++YF m 0).map (λx=>Value.int .u8 ((x:Nat):Int))).toArray:=by
  apply Array.ext';simp [bv,Builtin.zeroCells,Nat.mod_one,List.map_const']
 rw [e] at h;refine ⟨_,h,ek,λi a=>?_⟩;rw [Xq,UD,Uc a];simp [vb,Uc a]
def Ey (b:o.guard=ZX) (s x:Operand) (t:ZN) (ho:o.op=.call { callee:=.builtin .append,args:=#[s,x],argTypes:=#[t,t] })
 (vs vx v':ZS) (hs:a.eval s=vs) (hx:a.eval x=vx) (h0:(Builtin.append_ #[t,t] o.type #[vs,vx]).run ZM w=.ok v' w') (h:wpList ZM ops Q rest (a.put o.dst v') w'):wpList ZM ops Q (o::rest) a w:=by
 refine V0 b λK hK=>?_;unfold Oper.wp;simp [execOp,ho,resolve,invoke,builtin,hs,hx,h0,Result.andThen];exact hK _ _ h
theorem Ez (d:ZP) (c:Nat) (l:a8) (w:ZT) (h:Bs w (Z5 (ZW d) l.length c) l) (hl:l.length<=100000) :
 ZQ ZM 180 #[Z5 (ZW d) l.length c] w λe w'=>∃ b m,e=Z3 (Z5 (ZW ⟨b,0,ZX⟩) l.length (l.length+m))/\w.heap.size<=b/\aM w' b (l++YF m 0)/\l.length+m<=9223372036854775807/\bW w w':=by
 obtain ⟨M,E,H,I,J⟩:=Uu Tryz.R4;have D:=λN=>XM (P:=ZM) N 40 5 (ZW d) l.length c 0 0 Un;have n:∀ j u,(bv l)[j]?=ZW u->(w.alloc (Z4 #[] 5)).cell? (d.add j)=ZW u:=by
  intro j u s;obtain ⟨t,O,e,_,_,_,z⟩:=h.mono ((TW _ _).alloc lR (Z4 #[] 5));have g:j<l.length:=by
   obtain ⟨q,_⟩:=Va.1 s;simpa [bv] using q
  obtain ⟨p,a,k,G⟩:=z (by intro e;rw [e] at g;simp at g);simp at e;rw [<- e.1] at k;simp at k;subst k;have x:(⟨p,a,ZX⟩:ZP).add j=⟨p,a+j,ZX⟩:=by unfold Addr.add;split<;>simp_all
  rw [x,G j g,<- s];simp [bv,g]
 have f:bW w (w.alloc (Z4 #[] 5)):=bA _ _;by_cases y:l.length=0
 . have F:l=[]:=UW y;subst F;clear h n;go_enter func180,ntmps180;simp only [UV] at D;go_wp2;go_ret;exact ⟨w.heap.size,0,rfl,TV _,⟨#[],UC w _,rfl,λi K=>by simp at K⟩,ec,f⟩
 . have r:=run_append_grow (P:=ZM) (w:=w.alloc (Z4 #[] 5)) 40 40 5 M (Z7 .u8 0) Un E H ⟨w.heap.size,0,ZX⟩ 0 0 [] ek (λj v L=>by simp at L) d l.length c (bv l) (by rw [I];simp [bv]) n ec ec (by rw [J];have:=abr (need:=0+l.length) (old:=0) (bytes:=1) ec ec;omega);obtain ⟨cp,Q,C,o⟩:∃ cp,l.length<=cp/\cp<=9223372036854775807/\(Builtin.append_ #[40,40] 40 #[Z5 (ZW ⟨w.heap.size,0,ZX⟩) 0 0,Z5 (ZW d) l.length c]).run ZM (w.alloc (Z4 #[] 5))=.ok (Z5 (ZW ⟨w.heap.size+1,0,ZX⟩) l.length cp) ((w.alloc (Z4 #[] 5)).drew.alloc (Z4 ((bv l).toArray++Builtin.zeroCells #[Z7 .u8 0] (cp-l.length)) 5)):=by
    refine ⟨grownCap (w.alloc (Z4 #[] 5)) (0+l.length) 0 5,e9 (abo (w.alloc (Z4 #[] 5)) (0+l.length) 0 5),by have:=abp (w.alloc (Z4 #[] 5)) (0+l.length) 0 5 eD;unfold maxLen at this;omega,?_⟩;rw [r,Uh];simp [Value.cells]
   obtain ⟨m,rfl⟩:∃ m,cp=l.length+m:=⟨cp-l.length,ec⟩;rw [WY] at o;have A:=ak o;clear o r n h;go_enter func180,ntmps180;go_wp2_with (at_builtin;refine Ey rfl (Z0 5) (Z0 6) 40 rfl _ _ _ rfl rfl A.out ?_);go_ret;have B:aM ((w.alloc (Z4 #[] 5)).drew.alloc (Z4 ((bv l).toArray++Builtin.zeroCells #[Z7 .u8 0] m) 5)) (w.heap.size+1) (l++YF m 0):=by
    refine KV ?_;have:=UC (w.alloc (Z4 #[] 5)).drew (Z4 ((bv l).toArray++Builtin.zeroCells #[Z7 .u8 0] m) 5);rwa [show (w.alloc (Z4 #[] 5)).drew.heap.size=w.heap.size+1 from Uh _ _] at this
   exact ⟨w.heap.size+1,m,rfl,ec,B,C,((show bW w (w.alloc (Z4 #[] 5)).drew from ⟨f.os,f.tape,f.output,f.size,f.block⟩).alloc (B8:w.heap.size<=(w.alloc _).heap.size) _)⟩
def aO (L:List (ByteArray×ZS)):List ZS:=L.flatMap λq=>[.string q.1,q.2]
def kF (L:List (ByteArray×ZS)):(aO L).length=L.length*2:=by
 induction L with
 | nil=>rfl
 | cons q L ih=>simp only [aO,VL,Ua,UA] at ih ⊢;rw [ih];simp;omega
def tG (L:List (ByteArray×ZS)) (k:Nat) (a:k<L.length):(aO L)[k*2]?=ZW (.string L[k].1)/\(aO L)[k*2+1]?=ZW L[k].2:=by
 induction L generalizing k with
 | nil=>simp at a
 | cons q L ih=>
  have e:aO (q::L)=[.string q.1,q.2]++aO L:=by simp [aO]
  rw [e];cases k with
  | zero=>exact ⟨rfl,rfl⟩
  | succ k=>
   simp at a;obtain ⟨b,c⟩:=ih k a;refine ⟨?_,?_⟩
   . rw [U7 en,(en:(k+1)*2-[Value.string q.1,q.2].length=k*2)];exact b
   . rw [U7 en,(en:(k+1)*2+1-[Value.string q.1,q.2].length=k*2+1)];exact c
def jx (L M:List (ByteArray×ZS)):aO (L++M)=aO L++aO M:=by simp [aO]
structure rT (w:ZT) (r base:Nat) (v:ZS) (L:List (ByteArray×ZS)):Prop where
 top:w.heap[r]?=ZW (Z4 #[v] 38 (0,0))
 own:w.ownsRow base 101 2 v L.length (aO L)
def rT.shape (h:rT w r base v L):(v=Z5 ZX 0 0/\L=[])\/∃ g cap,v=Z5 (ZW ⟨g,0,ZX⟩) L.length cap/\base<=g/\L.length<=cap /\
 ∀ k (d:k<L.length),w.cell? ⟨g,k*2,ZX⟩=ZW (.string L[k].1)/\w.cell? ⟨g,k*2+1,ZX⟩=ZW L[k].2:=by
 rcases h.own.2 with ⟨i,j⟩|⟨g,cap,cur,c,e,n,f,o,p,q⟩
 . exact .inl ⟨i,UW j⟩
 . refine .inr ⟨g,cap,c,e,f,λk d=>?_⟩;obtain ⟨l,m⟩:=tG L k d;have:=h.own.cells (g:=g) (by rw [c];rfl);have a:=this _ _ l;have b:=this _ _ m;rw [jG] at a b;exact ⟨a,b⟩
def rT.cell (h:rT w r base v L):w.cell? ⟨r,0,ZX⟩=ZW v/\w.frozen? ⟨r,0,ZX⟩=ZU:=by simp [World.cell?,World.frozen?,h.top]
def FiR (w:ZT) (L:List (ByteArray×ZS)) (name:ByteArray) (i:ZS) (wr:ZT):Prop:=∃ k:Nat,k<=L.length/\i=Z7 Z9 k/\wr=w/\∀ j (hj:j<L.length),j<k->¬ L[j].1.toList=name.toList
theorem jJ (h:rT w r base v L) (hl:L.length<=1000000) (name:ByteArray) :
 ZQ ZM 37 #[Z6 (ZW ⟨r,0,ZX⟩),.string name] w λe w'=>w'=w/\((∃ k,∃ l:k<L.length,e=Z3 (Z7 Z9 (k:Nat))/\L[k].1.toList=name.toList/\∀ j (a:j<L.length),j<k->¬ L[j].1.toList=name.toList)\/(e=Z3 (Z7 Z9 (-1))/\∀ j (a:j<L.length),¬ L[j].1.toList=name.toList)):=by
 obtain ⟨c0,_⟩:=h.cell;have s:=h.shape;go_enter func37,ntmps37;go_wp2;go_loopw [5] (λi wr=>FiR w L name i wr) (λi _=>L.length-(intOf i).toNat)
 case atStart=>exact ⟨0,T8 _,rfl,rfl,λj _ a=>absurd a ec⟩
 case round=>
  obtain ⟨k,l,rfl,rfl,c⟩:=hrel;rcases s with ⟨rfl,rfl⟩|⟨g,cap,rfl,x,u,m⟩
  . have p:k=0:=(oD l);subst p;clear c;go_wp2;go_ret;exact ⟨rfl,.inr ⟨rfl,λj a=>absurd a ek⟩⟩
  . by_cases f:k<L.length
    . obtain ⟨c1,t⟩:=m k f;have HN:=ak c;clear c;by_cases b:L[k].1.toList=name.toList
      . have n:(L[k].1.toList==name.toList)=ZV:=(by rw [b];exact beq_self_eq_true _);have d:=ak b;clear b;go_wp2;go_ret;exact ⟨rfl,.inl ⟨k,f,rfl,d.o,HN.o⟩⟩
      . have n:(L[k].1.toList==name.toList)=ZU:=(by rw [beq_eq_false_iff_ne];exact b);have d:=ak b;clear b;go_wp2;refine ⟨⟨k+1,ec,eT,rfl,λj a y=>?_⟩,l7⟩;by_cases e:j=k
        . subst e;exact d.o
        . exact HN.o j a ec
    . have q:k=L.length:=ec;subst q;have HN:=ak c;clear c;go_wp2;go_ret;exact ⟨rfl,.inr ⟨rfl,λj a=>HN.o j a a⟩⟩
def eK (n:ByteArray):Prop:=1<=n.size/\n.size<=16
def Oe (L:List (ByteArray×ZS)) (name:ByteArray) (k:Nat):Prop:=∃ hk:k<L.length,L[k].1.toList=name.toList/\∀ j (hj:j<L.length),j<k->¬ L[j].1.toList=name.toList
def pE (L:List (ByteArray×ZS)) (name:ByteArray):Prop:=∀ j (hj:j<L.length),¬ L[j].1.toList=name.toList
def QI (L:List (ByteArray×ZS)) (name:ByteArray) (e:ZO):Prop:=
 (¬ eK name/\e=Z3 (ZZ #[Z5 ZX 0 0,Z7 Z9 6]))\/(eK name/\pE L name/\e=Z3 (ZZ #[Z5 ZX 0 0,Z7 Z9 9]))\/(eK name/\∃ k,Oe L name k/\e=Z3 (ZZ #[(L.getD k (ByteArray.empty,ZY)).2,Z7 Z9 0]))
theorem BX (h:rT w r base v L) (hl:L.length<=1000000) (name:ByteArray) :
 ZQ ZM 14 #[Z6 (ZW ⟨r,0,ZX⟩),.string name] w λe w'=>w'=w/\QI L name e:=by
 obtain ⟨c0,_⟩:=h.cell;have i:=h.shape;have j:=jJ h hl name;by_cases s:name.size=0
 . have n0:(name.size:Int)=0:=ec;go_enter func14,ntmps14;go_wp2;go_ret2;exact ⟨rfl,.inl ⟨λq=>e9 q.1,rfl⟩⟩
 . have n0:¬ (name.size:Int)=0:=ec;by_cases u:16<name.size
   . have n:(16:Int)<(name.size:Int):=ec;go_enter func14,ntmps14;go_wp2;go_ret2;exact ⟨rfl,.inl ⟨λq=>e9 q.2,rfl⟩⟩
   . have n:¬ (16:Int)<(name.size:Int):=ec;have f:eK name:=⟨ec,ec⟩;go_enter func14,ntmps14;go_wp2_with fail;refine j.mono ?_;rintro e w' ⟨rfl,m⟩;clear j;rcases m with ⟨k,a,rfl,l,b⟩|⟨rfl,d⟩
     . rcases i with ⟨rfl,rfl⟩|⟨g,cap,rfl,x,t,c⟩
       . exact absurd a ek
       . obtain ⟨c1,p⟩:=c k a;have HF:=al l b;clear l b c;go_wp2;go_ret2;exact ⟨rfl,.inr (.inr ⟨f,k,⟨a,HF.o.1,HF.o.2⟩,Zg⟩)⟩
     . have HF:=ak d;clear d i;go_wp2;go_ret2;exact ⟨rfl,.inr (.inl ⟨f,HF.o,rfl⟩)⟩
def BY:ZS->Nat
 | .slice _ n _=>n
 | _=>0
def kG (v:ZS):Prop:=∃ ao n c,v=.slice ao n c/\n<=1000000
def bN (L:List (ByteArray×ZS)) (q k:Nat):Nat:=((L.take k).map λo=>BY o.2/q+1).sum
def lE (L:List (ByteArray×ZS)) (q k:Nat) (a:k<L.length):bN L q (k+1)=bN L q k+(BY L[k].2/q+1):=by
 unfold bN;rw [Ve,Uc a];simp only [Uw,abk,Option.toList_some,U1,Wr,XH,List.sum_nil,VR]
def oh (L:List (ByteArray×ZS)) (q k:Nat) (h:∀ o∈L,BY o.2<=1000000) (c:k<=L.length):bN L q k<=k*1000001:=by
 induction k with
 | zero=>simp [bN]
 | succ k ih=>
  rw [lE L q k ec];have:=ih ec;have:=h L[k] (T6 _);have:BY L[k].2/q<=BY L[k].2:=VV _ _;omega
def jy (L:List (ByteArray×ZS)) (data:Nat) (more:Int):Nat:=
 let q:=data*44
 if 0<=more then bN L q L.length+(more.toNat/q+1)+2*((L.length+1)*200/q+1) else bN L q L.length+2*(L.length*200/q+1)
def NeR (w:ZT) (L:List (ByteArray×ZS)) (q:Nat) (n i:ZS) (wr:ZT):Prop:=∃ k:Nat,k<=L.length/\n=Z7 Z9 (bN L q k:Nat)/\i=Z7 Z9 k/\wr=w
theorem EA (h:rT w r base v L) (hl:L.length<=1000) (D:∀ o∈L,kG o.2) (data:Nat) (W:1<=data) (U:data<=1000) (more:Int) (Y:-1<=more) (Z:more<=1000000) :
 ZQ ZM 34 #[Z6 (ZW ⟨r,0,ZX⟩),Z7 Z9 data,Z7 Z9 more] w λe w'=>w'=w/\e=Z3 (Z7 Z9 (jy L data more:Nat)):=by
 obtain ⟨c0,_⟩:=h.cell;have l:=h.shape;have z:∀ o∈L,BY o.2<=1000000:=λo ho=>by obtain ⟨ao,n,c,e,B⟩:=D o ho;rw [e];exact B
 obtain ⟨q,C⟩:∃ q,q=data*44:=⟨_,rfl⟩;have hj:1<=q:=ec
 have hp:q<=44000:=ec
 have hr:(data:Int)*44=(q:Int):=ec
 have u:=ak C;clear C;have A:v=Z5 ZX 0 0/\L.length=0\/∃ g cap,v=Z5 (ZW ⟨g,0,ZX⟩) L.length cap:=by
  rcases l with ⟨a,f⟩|⟨g,cap,a,_⟩
  . exact .inl ⟨a,by rw [f];rfl⟩
  . exact .inr ⟨g,cap,a⟩
 obtain ⟨ao,cap,E⟩:∃ ao cap,v=.slice ao L.length cap:=by
  rcases A with ⟨a,f⟩|⟨g,cap,a⟩
  . exact ⟨ZX,0,by rw [a,f]⟩
  . exact ⟨_,_,a⟩
 rw [E] at c0;go_enter func34,ntmps34;go_wp2;go_loopw [8,10] (λn i wr=>NeR w L q n i wr) (λ_ i _=>L.length-(intOf i).toNat)
 case atStart=>exact ⟨0,T8 _,rfl,rfl,rfl⟩
 case round=>
  obtain ⟨k,N,rfl,rfl,rfl⟩:=hrel;by_cases j:k<L.length
  . rcases l with ⟨_,rfl⟩|⟨g,x,s,V,T,y⟩
    . exact absurd j ek
    . rw [E] at s;simp at s;obtain ⟨rfl,rfl⟩:=s;obtain ⟨c1,G⟩:=y k j;obtain ⟨O,n,P,e,B⟩:=D L[k] (T6 _);have p:=lE L q k j;have M:=oh L q k z N;rw [e] at G p;have I:(n:Int)/(q:Int)=((n/q:Nat):Int):=ec;have Q:(n:Int).tdiv (q:Int)=((n/q:Nat):Int):=(by rw [XN ec];exact I);have X:n/q<=n:=VV _ _;have ho:NeR wr L q (Z7 Z9 ((bN L q k+(n/q+1):Nat):Int)) (Z7 Z9 ((k:Int)+1)) wr:=⟨k+1,ec,by rw [p];rfl,rfl,rfl⟩;have F:=ak ho;clear ho p y;generalize bN L q k=S at *;generalize n/q=d at *;go_wp2;have:=F.o;rw [(ec:((S+(d+1):Nat):Int)=(S:Int)+(d:Int)+1)] at this;exact ⟨this,l7⟩
  . have K:k=L.length:=ec;subst K;have M:=oh L q L.length z lR;clear l A;by_cases t:0<=more
    . obtain ⟨m,rfl⟩:=Int.eq_ofNat_of_zero_le t;have b:jy L data (m:Int)=bN L q L.length+(m/q+1)+2*((L.length+1)*200/q+1):=by
       unfold jy;rw [TT t,<- u.o,VD]
      have R:(m:Int).tdiv (q:Int)=((m/q:Nat):Int):=(by rw [XN ec];omega);have J:(((L.length:Int)+1)*200).tdiv (q:Int)=(((L.length+1)*200/q:Nat):Int):=by
       rw [XN ec,(ec:((L.length:Int)+1)*200=(((L.length+1)*200:Nat):Int))];omega
      have b5:m/q<=m:=VV _ _;have b6:(L.length+1)*200/q<=(L.length+1)*200:=VV _ _;have HN:=ak b;clear b;generalize bN L q L.length=S at *;generalize m/q=d at *;generalize (L.length+1)*200/q=H at *;go_wp2;go_ret;exact ⟨rfl,by rw [HN.o];congr 2⟩
    . have b:jy L data more=bN L q L.length+2*(L.length*200/q+1):=by
       unfold jy;rw [TS t,<- u.o]
      have J:((L.length:Int)*200).tdiv (q:Int)=((L.length*200/q:Nat):Int):=by
       rw [XN ec,(ec:(L.length:Int)*200=((L.length*200:Nat):Int))];omega
      have b6:L.length*200/q<=L.length*200:=VV _ _;have HN:=ak b;clear b;generalize bN L q L.length=S at *;generalize L.length*200/q=H at *;go_wp2;go_ret;exact ⟨rfl,by rw [HN.o];congr 2⟩
