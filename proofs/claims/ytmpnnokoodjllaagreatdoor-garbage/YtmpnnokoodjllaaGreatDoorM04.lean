import Derived.Test.YtmpnnokoodjllaaGreatDoorM03
import Derived.Laws.EntriesVeiled
set_option maxRecDepth 100000
set_option linter.all false
set_option maxHeartbeats 8000000
open Go.IntKind renaming i64 -> Z9, u64 -> Z8
open Go.Value renaming int -> Z7, pointer -> Z6, slice -> Z5, bool -> Z1
open Go.Obj renaming cells -> Z4
open Go.Ending renaming returned -> Z3
open Go.Operand renaming tmp -> Z0
open Go renaming undef -> ZZ, World -> ZU, Value -> ZT, Calls -> ZR, Boxed -> ZQ
open Option renaming none -> ZY, some -> ZX
open Bool renaming true -> ZW, false -> ZV
open Go.RowKit renaming Below -> ZS
open List renaming range -> YC, drop_succ_cons -> YG, map_singleton -> YL, getElem?_set -> YN
open Array renaming replicate -> YD, size_modify -> YI, getElem_modify_self -> YK
open Nat renaming reduceAdd -> YE, reduceSub -> YF, le_succ -> YH
open Bool renaming eq_false_iff -> YJ, and_eq_true -> YM
open Go.Proofs.Tryz renaming prog -> ZP
open Go.Proofs.Tryz
namespace Go.Proofs.YtmpnnokoodjllaaGreatDoor
def Wm:=@Array.length_toList
def Xk:=@Go.Proofs.Tryz.underlying322
def Yj:=@Go.wpListIn_plain
def XL:=@Go.KeepsFrom.refl
def U1:=@Go.Obj.cells.injEq
def Wz:=@Nat.succ_mul
def VZ:=@List.map_congr_left
def Yk:=@List.mem_flatten
def WT:=@Nat.mul_le_mul
def abo:=@Go.World.grownBy_alloc
end Go.Proofs.YtmpnnokoodjllaaGreatDoor
namespace Go.Proofs.YtmpnnokoodjllaaGreatDoor
open Go.RowKit Go.Deep Gf Go.Shelf
variable {a:Act} {ops:Array Oper} {C C' x:Ck} {rec:Ck->Nat->Nat->cd->cd} {Q:Exit->Act->ZU->Prop} {F:Fence} {regs:Int} {M:List a9} {T:List (Nat×Nat×a9)} {K:a9} {rest:List Oper} {pre:List Sh} {P:List St} {xs:List ZT} {b t n p r c i m k D B L lost q l R h of Bl d n0 kept Bg g' cap' gone:Nat} {Dn:Nat->Bool} {G:Nat->Nat} {f:Nat->ZT} {ob:Obj} {o:Oper} {row:Option Nat} {s sx:cd} {J:cd->ZU->Prop} {v y u:ZT} {w w1 w2 w' W W' X w'' Y:ZU}
def PK (D:List a9) (w:ZU) (e:Ending) (w':ZU):Prop:=(vH D->e=Z3 (Z1 ZW))/\(¬ vH D->e=Z3 (Z1 ZV))/\w'=w
def FtR (D:List a9) (i:ZT):Prop:=∃ k:Nat,k<=D.length/\i=Z7 Z9 (k:Nat)/\∀ j (hj:j<D.length),j<k->(D[j]).length<=64
theorem Bo (s:ZT) (D:List a9) (w:ZU) (m:Rd w s D) :
 ZR ZP 140 #[s] w λe w'=>PK D w e w':=by
 by_cases F:64<D.length
 . obtain ⟨ao,c,rfl,A,_⟩:=m;go_enter func140,ntmps140;go_wp2;go_ret;exact ⟨λh=>absurd h.1 eb,λ_=>rfl,rfl⟩
 rcases m.cases with ⟨rfl,ao,c,rfl⟩|⟨b,off,c,rfl,A,l⟩
 . go_enter func140,ntmps140;go_wp2;refine VL 1 ?_;rw [Vw];go_wp2;go_ret;exact ⟨λ_=>rfl,λh=>absurd ⟨ek,λi d=>by simp at d⟩ h,rfl⟩
 have t:=al l;clear l;go_enter func140,ntmps140;go_wp2;go_loop [10] (λi=>FtR D i) (λi=>D.length-(intOf i).toNat)
 case atStart=>exact ⟨0,T3 _,rfl,λj _ h=>absurd h eb⟩
 case round=>
  obtain ⟨k,I,rfl,a⟩:=hrel;by_cases g:k<D.length
  . obtain ⟨u,J,z⟩:=t.out k g;obtain ⟨E,C,rfl,o,p,q,r⟩:=z;by_cases f:(D[k]).length<=64
    . have y:Hid (∀ j (n:j<D.length),j<k+1->(D[j]).length<=64):=by
       intro j n G;by_cases e:j=k
       . subst e;exact f
       . exact a j n eb
      clear a o p q r;generalize (D[k]).length=B at *;go_wp2;go_round
      case rel=>exact ⟨k+1,eb,e8,y.out⟩
      case measure=>simp [intOf];omega
    . have x:Hid (¬ vH D):=λh=>f (h.2 k g);have H:(D[k]).length<=140737488355328:=eb;clear a o p q r;generalize (D[k]).length=B at *;go_wp2;go_ret;exact ⟨λh=>absurd h x.out,λ_=>rfl,rfl⟩
  . have v:Hid (vH D):=⟨eb,λi d=>a i d eb⟩;clear a;go_wp2;go_ret;exact ⟨λ_=>rfl,λh=>absurd v.out h,rfl⟩
def wk (G:Nat->Nat) (top c iv k x:Nat):Nat:=if top<x/64/\x/64<k/\c<=x%64 then G x^^^gm (gm (G (x/64*64+c)) iv) (G (top*64+x%64)) else G x
theorem KD (G:Nat->Nat) (top c a:Nat):wk G top c a (top+1)=G:=by
 funext x;unfold wk;rw [if_neg eb]
theorem OL (h:∀ x,G x<256) {iv:Nat} (top c k x:Nat):wk G top c iv k x<256:=by
 unfold wk;split
 . exact xlt (h x) (bD _ (bD _ (h _)))
 . exact h x
def PL (G:Nat->Nat) (top c a k j:Nat) (b:j<64):wk G top c a k (top*64+j)=G (top*64+j):=by
 unfold wk;rw [if_neg eb]
def Ns (G:Nat->Nat) (top c a k j:Nat) (b:j<64):wk G top c a k (k*64+j)=G (k*64+j):=by
 unfold wk;rw [if_neg eb]
theorem Nt (G:Nat->Nat) (top c a k:Nat) (ht:top<k) (f:c<64):gW (wk G top c a k) (λi=>G (top*64+c+i)) (gm (G (k*64+c)) a) (k*64+c) (64-c)=wk G top c a (k+1):=by
 funext x;unfold gW;by_cases h:k*64+c<=x/\x<k*64+c+(64-c)
 . have d:x/64=k:=eb;have e:top*64+c+(x-(k*64+c))=top*64+x%64:=eb;rw [if_pos h];unfold wk;rw [if_neg eb,if_pos eb,d];show _^^^gm _ (G (top*64+c+(x-(k*64+c))))=_;rw [e]
 . rw [if_neg h];unfold wk;by_cases b:top<x/64/\x/64<k/\c<=x%64
   . rw [if_pos b,if_pos eb]
   . rw [if_neg b,if_neg eb]
theorem tL (w:ZU) (b o c:Nat) (g:c<64):(Instr.sliceAt 39 (Z6 (ZX ⟨b,o,ZY⟩)) (ZX (Z7 Z9 (c:Int))) ZY ZY).run ZP w=.ok (Z5 (ZX ⟨b,o+c,ZY⟩) (64-c) (64-c)) w:=by
 have a:ZP.arrayLen 39=64:=ei
 have f:ZP.underlying 39=ZX (.array (ZP.arrayLen 39) (ZP.elem 39)):=ei
 have e:∀ w,(sizeOf (ZP.elem 39)).run ZP w=.ok 1 w:=by
  have d:ZP.elem 39=5:=ei
  rw [d];intro w;go_simp
 rw [run_sliceAt_array_l w 39 _ f .i64 (c:Int) eb (by rw [a];omega),e,a];simp [slicedAt,Result.andThen];rw [if_neg eb];simp [Addr.add]
def WkR (w:ZU) (b t top c iv n:Nat) (G:Nat->Nat) (i:ZT) (wr:ZU):Prop:=
 ∃ k:Nat,top<k/\k<=max n (top+1)/\i=Z7 Z9 (k:Nat)/\wr.rowIs b t 4096 (tv (wk G top c iv k))/\w.grownBy wr (ZX b)
theorem Bp (b top c n:Nat) (G:Nat->Nat) (w:ZU) (f:∀ x,G x<256) (h:w.rowIs b 257 4096 (tv G)) (ht:top<64) (g:c<64) (L:n<=64) :
 ZR ZP 142 #[Z6 (ZX ⟨b,0,ZY⟩),Z7 Z9 top,Z7 Z9 c,Z7 Z9 n] w λe w'=>e=Z3 (.tuple #[])/\w'.rowIs b 257 4096 (tv (wk G top c (gi (G (top*64+c))) (max n (top+1))))/\w.grownBy w' (ZX b):=by
 have E:w.cell? ⟨b,top*64+c,ZY⟩=ZX (Z7 .u8 ((G (top*64+c):Nat):Int)):=h.cell eb;have z:=f (top*64+c);generalize hz:G (top*64+c)=y at *;go_enter func142,ntmps142;go_wp2_with (go_at_call 163;refine (rX y z _).mono ?_;rintro e l ⟨rfl,rfl⟩);have t:l.rowIs b 257 4096 (tv (wk G top c (gi y) (top+1))):=by rw [KD];exact h
 go_loopw [9] (λi wr=>WkR l b 257 top c (gi y) n G i wr) (λi _=>n-(intOf i).toNat)
 case atStart=>exact ⟨top+1,eb,eb,e8,t,Wh _ _⟩
 case round=>
  clear t h E;rename ZU=>wo;obtain ⟨k,J,M,rfl,d,p⟩:=hrel;by_cases N:k<n
  . have F:wo.cell? ⟨b,k*64+c,ZY⟩=ZX (Z7 .u8 ((wk G top c (gi y) k (k*64+c):Nat):Int)):=d.cell eb;rw [Ns _ _ _ _ _ _ g] at F;have v:=f (k*64+c);have o:∀ i,i<64-c->wo.cell? ⟨b,top*64+c+i,ZY⟩=ZX (Z7 .u8 ((G (top*64+c+i):Nat):Int)):=by
     intro i K;have m:wo.cell? ⟨b,top*64+c+i,ZY⟩=ZX (Z7 .u8 ((wk G top c (gi y) k (top*64+c+i):Nat):Int)):=d.cell eb;rw [Vb,PL _ _ _ _ _ _ eb,<- Vb] at m;exact m
    have u:=Nt G top c (gi y) k J g;have H:gm (G (k*64+c)) (gi y)<256:=bD _ v;have C:=al o;have D:=al u;clear o u;generalize G (k*64+c)=x at *;have A:=λw=>tL w b (k*64) c g;have B:=λw=>tL w b (top*64) c g;go_wp2;go_region_with (first
     | (go_at_call 165;refine (mF x (gi y) v (lz z) _).mono ?_;rintro e w' ⟨rfl,rfl⟩)
     | (go_at_call 164;refine (jq b 257 4096 (k*64+c) (64-c) (64-c) b (top*64+c) (64-c) (gm x (gi y)) (wk G top c (gi y) k) (λi=>G (top*64+c+i)) _ H (by exact d) (OL f top c k) (λj=>f _) eb eb (by exact C.out) (.inr (.inl eb))).mono ?_;rintro e w' ⟨rfl,r,a⟩))
    all_goals
     have s:=r;rw [D.out] at s;have I:l.grownBy w' (ZX b):=gx p ⟨a.os,a.tape,a.output,a.size,a.block⟩;clear r a A B;go_wp2;go_roundw
     case rel=>exact ⟨k+1,eb,eb,e8,s,I⟩
     case measure=>simp [intOf];omega
  . have q:k=max n (top+1):=eb;rw [q] at d;clear q;go_wp2;go_end0
    exact ⟨rfl,d,p⟩
def fT (D:List a9) (x:Nat):Nat:=(D.getD (x/64) []).getD (x%64) 0
def lP (D:List a9) (k x:Nat):Nat:=if x/64<k then fT D x else 0
def Tryz.TG:(ZP.info? 257).map (λi=>(i.zero,i.size,i.bytes))=ZX (ZX (.agg (YD 4096 (Z7 .u8 0))),4096,4096):=ei
def Tryz.SS:(ZP.info? 257).map (λi=>i.size)=ZX 4096:=ei
def Bq (w:ZU):(zeroValue 257).run ZP w=.ok (.agg (YD 4096 (Z7 .u8 0))) w:=by
 obtain ⟨c,a,b,_,_⟩:=Ur Tryz.TG;simp [zeroValue,typeInfo,Uo,a,b]
def Br (w:ZU):(w.alloc (Z4 (YD 4096 (Z7 .u8 0)) 257)).rowIs w.heap.size 257 4096 (λ_=>Z7 .u8 0):=by
 have h:=abd w (YD 4096 (Z7 .u8 0)) 257 (λ_=>Z7 .u8 0) (λi a=>by simp at a;simp [a]);simpa using h
theorem KE (h:w.rowIs b t n f):w.heap[b]?=ZX (Z4 ((YC n).map f).toArray t (0,0)):=by
 obtain ⟨c,d,g,e⟩:=h;have:c=((YC n).map f).toArray:=by
  apply Array.ext
  . simp [g]
  . intro i a j;have:=e i eb;rw [Vr a] at this;simp at this;simp [this]
 rw [<- this];exact d
def DZ (C:o.guard=ZY) (d s:Operand)
 (ho:o.op=.call { callee:=.builtin .copy,args:=#[d,s],argTypes:=#[31,31] }) (g off n cap N t:Nat) (v:ZT) (hd:a.eval d=Z5 (ZX ⟨g,off,ZY⟩) n cap) (hs:a.eval s=v)
 (F:Nat->Nat) (src:a9) (hB:w.rowIs g t N (tv F)) (hS:Bs w v src) (h8:src.length<=n) (hn:off+n<=N)
 (h:∀ w',w'.rowIs g t N (tv (λx=>if off<=x/\x<off+src.length then src.getD (x-off) 0 else F x))->ZS g w w'->wpList ZP ops Q rest (a.put o.dst (goInt src.length)) w'):wpList ZP ops Q (o::rest) a w:=by
 obtain ⟨ao,c,rfl,K,L,M,A⟩:=hS;refine aa8 C d s 31 31 ho 5 Ui ei (ZX ⟨g,off,ZY⟩) ao n cap src.length c hd hs g off _ t (KE hB) (src.map (λx=>Value.int .u8 ((x:Nat):Int))) ?_ ?_ ?_ ?_ g w (TX _ _) lR ?_
 . rw [TZ];show src.length=min src.length n;omega
 . intro l;rw [TZ] at l;obtain ⟨b,off,rfl,E⟩:=A (by intro e;rw [e] at l;simp at l);refine ⟨rfl,_,rfl,λj u k=>?_⟩;have f:j<src.length:=by
    have:=UT.1 k;obtain ⟨q,_⟩:=this;simpa using q
   rw [Vj,E j f];simp [f] at k;simp [f,k]
 . simp;omega
 . intro u G;obtain ⟨x,_,rfl⟩:=T1.1 G;rfl
 . intro w' D B;have H:=D.out;rw [TZ];refine h w' ⟨_,H,?_,λi m=>?_⟩ B
   . rw [Uy,length_splice _ _ _ en];simp
   . unfold splice;rw [WM];by_cases p:i<off
     . rw [U7 en];have I:¬ (off<=i/\i<off+src.length):=eb;simp only [tv,if_neg I];simp [p,m,tv]
     . rw [Vp en];have y:(((YC N).map (tv F)).take off).length=off:=en;rw [y];by_cases r:i<off+src.length
       . rw [U7 en];have J:i-off<src.length:=eb;simp [J,tv,r,Xn.1 p]
       . rw [Vp en];simp only [TZ];rw [VM];have z:off+src.length+(i-off-src.length)=i:=eb;rw [z];simp [m,tv,r]
def LyR (w:ZU) (B:Nat) (D:List a9) (i:ZT) (wr:ZU):Prop:=
 ∃ k:Nat,k<=D.length/\i=Z7 Z9 (k:Nat)/\wr.rowIs (B+1) 257 4096 (tv (lP D k))/\wr.rowIs B 257 4096 (λ_=>Z7 .u8 0)/\ZS B w wr
theorem Bt (D:List a9) (k:Nat) (f:k<D.length) (g:(D[k]).length<=64):(λx=>if k*64<=x/\x<k*64+(D[k]).length then (D[k]).getD (x-k*64) 0 else lP D k x)=lP D (k+1):=by
 have b:D.getD k []=D[k]:=by simp [f]
 funext x;unfold lP fT;by_cases h:k*64<=x/\x<k*64+(D[k]).length
 . rw [if_pos h,if_pos eb];have c:x/64=k:=eb;have d:x%64=x-k*64:=eb;rw [c,b,d]
 . rw [if_neg h];by_cases a:x/64<k
   . rw [if_pos a,if_pos eb]
   . rw [if_neg a];by_cases e:x/64=k
     . rw [if_pos eb,e,b,T6,VJ eb];rfl
     . rw [if_neg eb]
def D0 (D:List a9) (x:Nat):lP D D.length x=fT D x:=by
 unfold lP;by_cases h:x/64<D.length
 . rw [if_pos h]
 . rw [if_neg h];unfold fT;simp [VJ (Xn.1 h)]
def tM {cs:Array ZT} {N:Nat} {f:Nat->Nat} (b:cs.size=N) (h:∀ j,j<N->cs[j]?=ZX (tv f j)):cs.all (λv=>v.oneCell')=ZW:=by
 rw [XB];intro i a;have:=h i eb;rw [Vr a] at this;simp at this;rw [this];rfl
theorem Nu (K:ZT) (D:List a9) (w:ZU) (G:Rd w K D) (q:vH D) :
 ZR ZP 141 #[K] w λe w'=>∃ cs:Array ZT,e=Z3 (.agg cs)/\cs.size=4096/\(∀ j,j<4096->cs[j]?=ZX (tv (fT D) j))/\bW w w':=by
 have M:=al q;have Y:=q.1;have U:=G;obtain ⟨ao,c,rfl,X,F⟩:=G;have s:=al F;clear F q U;have V:=Bq;go_enter func141,ntmps141;go_wp2;clear V;go_loopw [8] (λi wr=>LyR w w.heap.size D i wr) (λi _=>D.length-(intOf i).toNat)
 case atStart=>
  refine ⟨0,T3 _,rfl,?_,?_,?_⟩
  . have h:=Br (w.alloc (Z4 (YD 4096 (Z7 .u8 0)) 257));try change ZS _ _ _ at h
    rw [Ug] at h;exact h.congr λj Q=>by unfold tv lP;simp
  . exact (Br w).alloc _
  . exact (bA _ _).alloc K1 _
 case round=>
  rename ZU=>wo;obtain ⟨k,W,rfl,f,C,m⟩:=hrel;by_cases a:k<D.length
  . obtain ⟨b,off,rfl,z⟩:=s.out Zx;obtain ⟨u,r,x⟩:=z k a;have S:=x.mono m;have E:=M.out.2 k a;have H:=Bt D k a E;have Z:wo.cell? ⟨b,off+k,ZY⟩=ZX u:=(by rw [m.cell (T8 r)];exact r);have R:=al H;clear z H r x s;generalize D[k]=l at *;go_wp2_with (refine DZ rfl (Z0 15) (Z0 16) rfl (w.heap.size+1) (k*64) 64 64 4096 257 u rfl rfl (lP D k) l f S E eb ?_;intro w2 d y);rw [R.out] at d;have T:=Vo C (y.block w.heap.size eb);go_wp2;go_roundw
    case rel=>exact ⟨k+1,eb,e8,d,T,m.trans (y.mono eb)⟩
    case measure=>simp [intOf];omega
  . have B:k=D.length:=eb;rw [B] at f;clear B;have d:=f.congr (g:=tv (fT D)) (λj Q=>by unfold tv;rw [D0]);obtain ⟨cs,A,p,o⟩:=d;obtain ⟨L,I,hy,_⟩:=C;have O:=tM p o;have N:=al o;have J:(ZP.info? 257).map (λi=>i.size)=ZX cs.size:=(by rw [Tryz.SS,p]);have n:=al J;have P:=al A;have t:=al I;clear o f J A I;go_wp2_with (first
     | refine X6 rfl 257 (Z0 3) rfl (w.heap.size+1) rfl 257 cs (0,0) _ P.out underlying257 rfl n.out ?_
     | refine V9 rfl 257 (Z0 2) (Z0 19) rfl w.heap.size cs rfl rfl 257 L t.out n.out eb O ?_)
    exact Uf (v:=.agg cs) (VG results141 _ _ w.heap.size 257 cs (0,0) _ rfl (U3 _ _ L cs _ _ t.out) underlying257 rfl n.out) rfl ⟨cs,rfl,p,N.out,below_setRow m lR cs⟩
def qB (G:Nat->Nat) (i:Nat):a9:=(YC 64).map λj=>G (i*64+j)
def lQ (G:Nat->Nat) (n:Nat):List a9:=(YC n).map (qB G)
def iN (G:Nat->Nat) (i j:Nat):m7 (qB G i) j=if j<64 then G (i*64+j) else 0:=by
 unfold m7 qB;by_cases h:j<64
 . simp [h]
 . simp [h]
def fU (G:Nat->Nat) (n:Nat):(lQ G n).length=n:=by simp [lQ]
def fV (G:Nat->Nat) (n i:Nat) (h:i<(lQ G n).length):(lQ G n)[i]=qB G i:=by simp [lQ]
def tN (a:∀ x,G x<256) (n:Nat):∀ l∈lQ G n,∀ x∈l,x<256:=by
 intro l b x c;obtain ⟨i,_,rfl⟩:=T1.1 b;obtain ⟨j,_,rfl⟩:=T1.1 c;exact a _
def Bu (G:Nat->Nat) (p r x:Nat):Nat:=if x/64=r then G (p*64+x%64) else if x/64=p then G (r*64+x%64) else G x
theorem zF (a:∀ x,G x<256) (p r x:Nat):Bu G p r x<256:=by
 unfold Bu;split
 . exact a _
 . split<;>exact a _
def D3 (G:Nat->Nat) (p r i j:Nat) (c:j<64):Bu G p r (i*64+j)=if i=r then G (p*64+j) else if i=p then G (r*64+j) else G (i*64+j):=by
 have a:(i*64+j)/64=i:=eb
 have b:(i*64+j)%64=j:=eb
 unfold Bu;rw [a,b]
def KF (G:Nat->Nat) (p r c n:Nat):Nat->Nat:=wk (Bu G p r) r c (gi (G (p*64+c))) (max n (r+1))
def KG (a:∀ x,G x<256) (p r c n x:Nat):KF G p r c n x<256:=OL (zF a p r) _ _ _ _
def KH (G:Nat->Nat) (p r c n i j:Nat) (_hc:c<64) (d:j<64) (f:r<i) (e:i<n):KF G p r c n (i*64+j)=if c<=j then Bu G p r (i*64+j)^^^gm (gm (Bu G p r (i*64+c)) (gi (G (p*64+c)))) (G (p*64+j)) else Bu G p r (i*64+j):=by
 have a:(i*64+j)/64=i:=eb
 have b:(i*64+j)%64=j:=eb
 unfold KF wk;rw [a,b,D3 G p r r j d,if_pos rfl];by_cases h:c<=j
 . rw [if_pos h,if_pos eb]
 . rw [if_neg h,if_neg eb]
theorem Fu (d:∀ x,G x<256) (b:c<64) (o:p<n) (l:r<=p) (k:G (p*64+c)≠0) (q:∀ i,r<=i->i<n->∀ j,j<c->G (i*64+j)=0) (g:r<i) (e:i<n) :
 ∃ f,f<256/\m7 (qB (KF G p r c n) i)=cI (m7 (qB G (if i=p then r else i))) f (m7 (qB G p))/\m7 (qB (KF G p r c n) i) c=0:=by
 have m:∀ j,j<64->Bu G p r (i*64+j)=G ((if i=p then r else i)*64+j):=by
  intro j a;rw [D3 G p r i j a,if_neg eb];split<;>rfl
 refine ⟨gm (Bu G p r (i*64+c)) (gi (G (p*64+c))),bD _ (zF d _ _ _),?_,?_⟩
 . funext j;show m7 (qB (KF G p r c n) i) j=m7 (qB G (if i=p then r else i)) j^^^gm _ (m7 (qB G p) j);rw [iN,iN,iN];by_cases a:j<64
   . rw [if_pos a,if_pos a,if_pos a,KH G p r c n i j b a g e,m j a];by_cases h:c<=j
     . rw [if_pos h]
     . rw [if_neg h,q p l o j eb,cL,Vg]
   . rw [if_neg a,if_neg a,if_neg a,cL];exact (U2 0).symm
 . rw [iN,if_pos b,KH G p r c n i c b b g e,if_pos lR];exact sG (zF d _ _ _) (d _) k
theorem D4 (a:∀ x,G x<256) (g:c<64) (l:p<n) (d:r<=p) (b:G (p*64+c)≠0) (t:∀ i,r<=i->i<n->∀ j,j<c->G (i*64+j)=0)
 (ht:dw m (yP (lQ (KF G p r c n) n) (r+1)) (c+1) k):dw (m+1) (yP (lQ G n) r) c (k+1):=by
 refine Az (p:=p) (T':=lQ (KF G p r c n) n) (tN a n) (tN (KG a p r c n) n) (by rw [fU,fU]) d (by rw [fU];exact l) ?_ ?_ ht
 . rw [fV,iN,if_pos g];exact b
 . intro i h q;rw [fU] at h;obtain ⟨f,s,e,o⟩:=Fu a g l d b t q h;refine ⟨f,by rw [fU];split<;>omega,s,?_,?_⟩
   . rw [fV,fV,fV];exact e
   . rw [fV];exact o
structure GI (D:List a9) (c r n:Nat) (G:Nat->Nat):Prop where
 byt:∀ x,G x<256
 rle:r<=n
 zer:∀ i,r<=i->i<n->∀ j,j<c->G (i*64+j)=0
 tak:∀ k,dw (64-c) (yP (lQ G n) r) c k->sH D (r+k)
def GI.skip {D:List a9} (h:GI D c r n G) (f:c<64) (d:∀ i,r<=i->i<n->G (i*64+c)=0):GI D (c+1) r n G:=
 { h with
  zer:=λi b a j l=>by
   by_cases e:j=c
   . subst e;exact d i b a
   . exact h.zer i b a j eb
  tak:=λk g=>by
   refine h.tak k ?_;have e:64-c=64-(c+1)+1:=eb;rw [e];refine Df (λi a b=>?_) g;rw [fV,iN,if_pos f];rw [fU] at a;exact d i b a }
theorem GI.pivot {D:List a9} (h:GI D c r n G) (b:c<64) (a:r<=p) (d:p<n) (o:G (p*64+c)≠0):GI D (c+1) (r+1) n (KF G p r c n) where
 byt:=KG h.byt p r c n
 rle:=eb
 zer:=λi y v j x=>by
  obtain ⟨f,_,e,l⟩:=Fu h.byt b d a o h.zer (eb:r<i) v;by_cases s:j=c
  . subst s;rw [iN,if_pos b] at l;exact l
  . have g:=congrFun e j;have t:=h.zer (if i=p then r else i) (by split<;>omega) (by split<;>omega) j eb;have u:=h.zer p a d j eb;rw [iN,if_pos eb] at g;rw [g];show m7 (qB G (if i=p then r else i)) j^^^gm f (m7 (qB G p) j)=0;generalize (if i=p then r else i)=q at *;have m:j<64:=eb;rw [iN,iN,if_pos m,if_pos m,t,u,cL];exact U2 0
 tak:=λk w=>by
  have e:r+1+k=r+(k+1):=eb
  rw [e];refine h.tak (k+1) ?_;have e:64-c=64-(c+1)+1:=eb
  rw [e];exact D4 h.byt b d a o h.zer w
def GI.done {D:List a9} (h:GI D 64 r n G):sH D r:=
 h.tak 0 rfl
def G4 {D:List a9} (a:∀ l∈D,∀ x∈l,x<256) (x:Nat):fT D x<256:=by
 unfold fT;by_cases h:x/64<D.length
 . have e:D.getD (x/64) []=D[x/64]:=(by simp [h]);rw [e];exact bh (a _ (T4 h)) _
 . have e:D.getD (x/64) []=[]:=(by simp [VJ (Xn.1 h)]);rw [e];simp
theorem GI.start {D:List a9} (g:∀ l∈D,∀ x∈l,x<256) (h:vH D):GI D 0 0 D.length (fT D) where
 byt:=G4 g
 rle:=T3 _
 zer:=λ_ _ _ j a=>absurd a (Nat.not_lt_zero _)
 tak:=λk c=>by
  rw [Uc];have e:yP (lQ (fT D) D.length) 0=yP D 0:=F6 (by rw [fU]) (λi n b=>by
   rw [fV];funext j;rw [iN];have m:D.getD i []=D[i]:=abQ;by_cases a:j<64
   . rw [if_pos a];have d:(i*64+j)/64=i:=eb;have f:(i*64+j)%64=j:=eb;unfold fT m7;rw [d,f,m]
   . rw [if_neg a];have:=h.2 i b;unfold m7;simp [VJ (eb:(D[i]).length<=j)]) 0
  rw [e] at c;exact c
def D5 (w:ZU) {ops:Array Oper} {rest:List Oper} {o:Oper} {a:Act} {Q:Exit->Act->ZU->Prop} (h:o.guard=ZY) (x y:Operand) (ho:o.op=.store 257 x y)
 (g:Nat) (f:Nat->Nat) (cs old:Array ZT) (l:a.eval x=Z6 (ZX ⟨g,0,ZY⟩)) (m:a.eval y=.agg cs) (d:w.heap[g]?=ZX (Z4 old 257 (0,0))) (hold:old.size=4096) (b:cs.size=4096) (c:∀ j,j<4096->cs[j]?=ZX (tv f j))
 (hK:∀ w2,w2.rowIs g 257 4096 (tv f)->w.grownBy w2 (ZX g)->wpList ZP ops Q rest (a.put o.dst ZZ) w2):wpList ZP ops Q (o::rest) a w:=by
 refine V9 h 257 x y ho g cs l m 257 old d (by rw [Tryz.SS,b]) eb (tM b c) (hK _ ?_ ?_)
 . exact ⟨cs,U3 w g old cs _ _ d,b,c⟩
 . refine ⟨rfl,rfl,rfl,ek,λk n i=>?_⟩;have:g≠k:=λe=>i Zc;simp [World.setRow,Vv,this]
theorem kG:∀ (a:List ZT) (o:Nat) (w:ZU) (f:Nat->ZT),w.rowIs b t n f->(w.setCells b o a).rowIs b t n (λx=>if o<=x/\x<o+a.length then a.getD (x-o) ZZ else f x)
 | [],o,w,f,h=>h.congr (λi _=>by rw [if_neg ek])
 | v::a,o,w,f,h=>(kG a (o+1) _ _ (h.set o v)).congr (λi _=>by
  by_cases c:o+1<=i/\i<o+1+a.length
  . have e:i-o=(i-(o+1))+1:=eb;rw [if_pos c,if_pos en,e];simp
  . rw [if_neg c];by_cases d:i=o
    . subst d;rw [if_pos rfl,if_pos ek];simp
    . rw [if_neg d,if_neg en])
def iO:∀ (a:List ZT) (o:Nat) (w w':ZU),w.grownBy w' (ZX b)->w.grownBy (w'.setCells b o a) (ZX b)
 | [],_,_,_,h=>h
 | v::a,o,w,_,h=>iO a (o+1) w _ (eY h o v)
def xB (G:Nat->Nat) (i:Nat):List ZT:=(YC 64).map λj=>tv G (i*64+j)
def oS (G:Nat->Nat) (i:Nat):(xB G i).length=64:=by simp [xB]
def Bv (G:Nat->Nat) (i j:Nat) (h:j<64):(xB G i).getD j ZZ=tv G (i*64+j):=by simp [xB,h]
def xC (h:w.rowIs b t 4096 (tv G)) {i:Nat} (c:i<64):w.rangeAt b (i*64) (xB G i):=by
 intro j v hv;have a:j<64:=by
  obtain ⟨q,_⟩:=UT.1 hv;rwa [oS] at q
 simp [xB,a] at hv;rw [h.cell eb,hv]
def xD (h:w.rowIs b t 4096 f) {i n:Nat} (a:i<64) (d:n<=64):w.there b (i*64) n:=λj c=>by
 rw [h.cell eb];exact ⟨rfl,h.frozen _⟩
def Fv (G:Nat->Nat) (i:Nat):(xB G i).toArray.all (λv=>v.oneCell')=ZW:=by
 rw [XB];intro j a;simp [xB,tv];rfl
theorem PM (h:w.rowIs b t 4096 (tv G)) (p r:Nat):((w.setCells b (r*64) (xB G p)).setCells b (p*64) (xB G r)).rowIs b t 4096 (tv (Bu G p r)):=by
 refine (kG (xB G r) (p*64) _ _ (kG (xB G p) (r*64) _ _ h)).congr (λx _=>?_);rw [oS,oS];by_cases e:p*64<=x/\x<p*64+64
 . have a:x/64=p:=eb;have c:x-p*64=x%64:=eb;rw [if_pos e,c,Bv _ _ _ eb];unfold tv Bu;rw [a];by_cases d:p=r
   . rw [if_pos d,d]
   . rw [if_neg d,if_pos rfl]
 . rw [if_neg e];by_cases f:r*64<=x/\x<r*64+64
   . have a:x/64=r:=eb;have c:x-r*64=x%64:=eb;rw [if_pos f,c,Bv _ _ _ eb];unfold tv Bu;rw [if_pos a]
   . rw [if_neg f];unfold tv Bu;rw [if_neg eb,if_neg eb]
def GpR (G:Nat->Nat) (r c n:Nat) (rv iv:ZT):Prop:=∃ k:Nat,r<=k/\k<=n/\rv=Z7 Z9 (r:Nat)/\iv=Z7 Z9 (k:Nat)/\∀ i,r<=i->i<k->G (i*64+c)=0
def GcR (w:ZU) (b:Nat) (D:List a9) (rv cv:ZT) (wr:ZU):Prop:=
 ∃ (r c:Nat) (G:Nat->Nat),c<=64/\rv=Z7 Z9 (r:Nat)/\cv=Z7 Z9 (c:Nat)/\GI D c r D.length G/\wr.rowIs b 257 4096 (tv G)/\bW w wr
theorem KI (vd:ZT) (D:List a9) (w:ZU) (P:Rd w vd D) (hb:∀ l∈D,∀ x∈l,x<256) :
 ZR ZP 101 #[vd] w λe w'=>Po D w e w':=by
 have y:=al P;have ks:=Bq;obtain ⟨ao,c,rfl,hl,hc⟩:=P;clear hc;by_cases o:vH D
 . have hp:=o.1;have q:=al o;clear o;go_enter func101,ntmps101;go_wp2;go_step3;go_wp2_with (first
    | (go_at_call 140;refine (Bo _ D _ y.out).mono ?_;rintro e wv ⟨f,_,rfl⟩;obtain rfl:=f q.out)
    | (go_at_call 141;refine (Nu _ D _ y.out q.out).mono ?_;rintro e L ⟨cs,rfl,k9,N,j⟩)
    | (refine D5 _ rfl (Z0 3) (Z0 11) rfl L.heap.size (fT D) cs _ rfl rfl (UG L _) ek k9 N ?_;intro wb T W))
   have U:bW wv wb:=iX (j.alloc j.size _) W (by rw [Ug];have:=j.size;omega) j.size;have S:=GI.start hb q.out;have kk:=j.size;have Q:=al S;clear N k9 j W ks S;generalize L.heap.size=d at *;go_step3;go_wp2;go_loopw [4,12] (λrv A wr=>GcR wv d D rv A wr) (λ_ A _=>64-(intOf A).toNat)
   case atStart=>exact ⟨0,0,fT D,eb,rfl,rfl,Q.out,T,U⟩
   case round=>
    clear T U Q;rename ZU=>wo;obtain ⟨r,a,G,km,rfl,rfl,g,O,J⟩:=hrel;have kp:=g.rle;by_cases t:a<64
    . have F:=al g;have z:=al O;have E:=al J;clear g O J;go_wp2;go_loop [4,6] (λrv K=>GpR G r a D.length rv K) (λ_ K=>D.length-(intOf K).toNat)
      case atStart=>exact ⟨r,TV _,kp,rfl,rfl,λi f s=>absurd f eb⟩
      case round=>
       obtain ⟨p,kr,kv,rfl,rfl,u⟩:=hrel;by_cases ko:p<D.length
       . have h8:wo.cell? ⟨d,p*64+a,ZY⟩=ZX (Z7 .u8 ((G (p*64+a):Nat):Int)):=z.out.cell eb;have kh:=al u;clear u;by_cases n:G (p*64+a)=0
         . rw [n] at h8;have HX:=al n;clear n;go_wp2;go_round
           case rel=>
            refine ⟨p+1,eb,eb,rfl,e8,λi f s=>?_⟩;by_cases e:i=p
            . subst e;exact HX.out
            . exact kh.out i f eb
           case measure=>simp [intOf];omega
         . have t0:(((G (p*64+a):Nat):Int)==0)=ZV:=B8;have kc:=al (F.out.pivot t kr ko n);clear n;have I:wo.drew.rowIs d 257 4096 (tv G):=z.out;have Y:Bu G p r (r*64+a)=G (p*64+a):=(by rw [D3 G p r r a t,if_pos rfl]);have hj:=al Y;have kb:=al (zF F.out.byt p r);have B:p<64:=eb;have C:r<64:=eb;clear Y;obtain ⟨v,ka,k8,Z⟩:∃ v,(wo.drew.setCells d (r*64) (xB G p)).setCells d (p*64) (xB G r)=v/\v.rowIs d 257 4096 (tv (Bu G p r))/\wo.drew.grownBy v (ZX d):=
            ⟨_,rfl,PM I p r,iO (b:=d) (xB G r) (p*64) wo.drew _ (iO (b:=d) (xB G p) (r*64) wo.drew wo.drew (Wh _ _))⟩
           have kg:=al k8;have ke:=al Z;have R:=al ka;have m:=al I;clear k8 Z ka I;go_wp2;refine Kv d p r (xB G p) (xB G r) ei (λ_ _ _ _ _ h=>h) rfl B C rfl rfl rfl (oS _ _) (oS _ _) (Fv _ _) (Fv _ _) (xC m.out B) (xC m.out C) (xD m.out C lR) (xD m.out B lR) ?_;rw [R.out];clear R m;unfold Ku;generalize (xB G p).toArray=cp;generalize (xB G r).toArray=cr;go_wp2_with (go_at_call 142;refine (Bp d r a D.length (Bu G p r) _ kb.out kg.out eb t hp).mono ?_;rintro e w2 ⟨rfl,H,X⟩);have ki:w2.rowIs d 257 4096 (tv (KF G p r a D.length)):=by
            rw [hj.out] at H;exact H
           have k:=gx ke.out X;have kj:=iX E.out (w:=wo) ⟨k.os,k.tape,k.output,k.size,k.block⟩ E.out.size kk;clear H X k;go_wp2;go_roundw
           case rel=>exact ⟨r+1,a+1,KF G p r a D.length,eb,e8,e8,kc.out,ki,kj⟩
           case measure=>simp [intOf];omega
       . have kf:=al (F.out.skip t (λi f s=>u i f eb));clear u;go_wp2;go_roundw
         case rel=>exact ⟨r,a+1,G,eb,rfl,e8,kf.out,z.out,E.out⟩
         case measure=>simp [intOf];omega
    . have V:a=64:=eb;rw [V] at g;have HK:=al g.done;clear g V;go_wp2;try rw [Exit.noGoto_ret]
      go_ret;exact ⟨λ_=>⟨r,eb,rfl,HK.out⟩,λh=>absurd q.out h,J⟩
 . have M:=al o;clear o;go_enter func101,ntmps101;go_wp2;go_step3;go_wp2_with (go_at_call 140;refine (Bo _ D _ y.out).mono ?_;rintro e w' ⟨_,s,rfl⟩;obtain rfl:=s M.out);try rw [Exit.noGoto_ret]
   go_ret;exact ⟨λh=>absurd h M.out,λ_=>rfl,TX _ _⟩
theorem iU.rdH (h:iU w B v T) (c:cO T D M) (k:∀ r∈M,r.length=D) (n:M.length<=100000):Rd w v M:=by
 have a:T.length=M.length:=vE (congrArg List.length c)
 obtain ⟨ao,cap,rfl,f⟩:=h.slice;refine ⟨ao,cap,by rw [a],eb,λm=>?_⟩;obtain ⟨g,rfl⟩:=f (by intro e;rw [e] at a;exact m (UK a.symm));refine ⟨g,0,rfl,λi d=>?_⟩;have b:i<T.length:=eb
 refine ⟨jT T[i],by rw [Uc];exact h.SN b,?_⟩;have:=h.Tb b;have j:T[i].2=(D,M[i]):=by
  have:=congrArg (λl=>l[i]?) c;simpa [b,d] using this
 rw [j] at this;have e:(M[i]).take D=M[i]:=by rw [<- k _ (T4 d),VE]
 rw [e] at this;exact this
def Rd.byte {D:List a9} (h:Rd w v D):∀ l∈D,∀ x∈l,x<256:=by
 rcases h.cases with ⟨rfl,_⟩|⟨b,off,c,rfl,_,d⟩
 . intro l a;simp at a
 . intro l a;obtain ⟨i,e,rfl⟩:=aa7.1 a;obtain ⟨u,_,f⟩:=d i e;exact f.lt
def gj (D L G:Nat):(bE D L G).length=D+L+G:=by simp [bE];omega
def mN (D L G:Nat):∀ r∈bE D L G,r.length=D:=by
 intro r a;simp only [bE,Ub,T1,Uq] at a;rcases a with (⟨i,_,rfl⟩|⟨i,_,rfl⟩)|⟨i,_,rfl⟩
 . simp [fI]
 . simp [eR]
 . simp [dn]
theorem oT (D L G:Nat) (c:D<=12) (d:G<=4):∀ r∈bE D L G,∀ x∈r,x<256:=by
 intro r b x a;simp only [bE,Ub,T1,Uq] at b;rcases b with (⟨i,_,rfl⟩|⟨i,_,rfl⟩)|⟨i,e,rfl⟩
 . rcases XE a with h|h
   . have:=Vn h;omega
   . omega
 . simp only [eR,T1] at a;obtain ⟨j,_,rfl⟩:=a;split<;>decide
 . simp only [dn,T1,Uq] at a;obtain ⟨j,f,rfl⟩:=a;exact lz (xlt eb eb)
def Nv (D L G lost:Nat):Prop:=Dg (yP (dG (bE D L G) lost (D+L+G)) 0) 0 D
def KJ {G:Nat} (c:D<=12) (d:G<=4) (h:sH (dG (bE D L G) lost (D+L+G)) k):k=D↔Nv D L G lost:=by
 have b:=tE (bE D L G) lost (D+L+G) abK;exact F7 (λl a=>oT D L G c d l (b l a)) (λl a=>by rw [mN D L G l (b l a)];omega) eb h
def KK (D L G lost:Nat) (b:D<=12) (d:L<=4) (c:G<=4):vH (dG (bE D L G) lost (D+L+G)):=by
 refine ⟨TU (oN _ _ _) eb,λi a=>?_⟩;rw [mN D L G _ (tE (bE D L G) lost (D+L+G) abK _ (T4 a))];omega
def PN (D L G lost:Nat) (w:ZU) (e:Ending) (w':ZU):Prop:=∃ b:Bool,e=Z3 (Z1 b)/\(b=ZW↔Nv D L G lost)/\bW w w'
theorem rO (D L G lost:Nat) (F:cJ D L G=ZW) (i:D<=12) (x:1<=L) (o:L<=4) (j:G<=4) (u:D%L=0) (E:lost<18446744073709551616) (w:ZU) :
 ZR ZP 69 #[.agg #[Z7 Z9 D,Z7 Z9 L,Z7 Z9 G],Z7 Z8 lost] w λe w'=>PN D L G lost w e w':=by
 go_enter func69,ntmps69;go_wp2_with fail;refine (jZ D L G F i x o j u _).mono ?_;rintro e w1 ⟨v,T,rfl,g,p,b⟩;try change ZS _ _ _ at g
 try change ZS _ _ _ at b
 rw [Ug] at g b;have s:=b.size;try change ZS _ _ _ at s
 rw [Ug] at s;obtain ⟨l,I,J⟩:=fQ b;have q:=g.rdH p (mN D L G) abK;have n:bW w w1:=(bA _ _).trans (b.mono eb);have A:=al q;have z:=al n;clear g p b I J q n;go_wp2;go_region_held (λw'=>w'.cell? ⟨w.heap.size,0,ZY⟩=ZX (Z7 Z9 (D:Nat))) (first|assumption|exact l)
  (first
   | (go_at_call 102;refine (Ks _ (bE D L G) lost _ (show Rd w1.drew _ _ from A.out) E abK).mono ?_;rintro e w2 ⟨N,rfl,f⟩;rw [gj] at f
      have d:w2.cell? ⟨w.heap.size,0,ZY⟩=ZX (Z7 Z9 (D:Nat)):=(by rw [f.choose_spec.2.2.2.cell (T8 l)];exact l);have h:=al f;clear f)
   | (go_at_call 101;refine (KI _ _ _ (h.out.rd (TU (oN _ _ _) eb)) (h.out.rd (TU (oN _ _ _) eb)).byte).mono ?_
      rintro e K ⟨m,_,c⟩;obtain ⟨k,M,rfl,r⟩:=m (KK D L G lost i o j);have H:K.cell? ⟨w.heap.size,0,ZY⟩=ZX (Z7 Z9 (D:Nat)):=(by rw [c.cell (T8 d)];exact d);have B:=al r;have y:=al c;clear m r c))
 go_wp2;go_ret;have a:=h.out.choose_spec.2.2.2;have c:=y.out;have C:=a.size;change w1.heap.size<=_ at C;have t:bW w w2:=z.out.trans ((show bW w1 w2 from ⟨a.os,a.tape,a.output,a.size,a.block⟩).mono eb);refine ⟨((k:Int)==(D:Int)),rfl,?_,t.trans (c.mono eb)⟩;rw [<- KJ i j B.out];simp;omega
structure D6 (lo hi:Nat) (a a':Act):Prop where
 size:a'.tmps.size=a.tmps.size
 defers:a'.defers=a.defers
 slot:∀ s,s<lo\/hi<=s->a'.eval (.tmp s)=a.eval (.tmp s)
def Da (p q:Nat) (w w1 w2:ZU) (Dn:Nat->Bool) (w':ZU):Prop:=w'=if Dn p=ZW then (if Dn q=ZW then w2 else w1) else w.drew
def cU (h:Da p q w w1 w2 Dn w') (i:Nat) (a:p≠i) (b:q≠i):Da p q w w1 w2 (du Dn i) w':=by unfold Da;rw [dm a,dm b];exact h
def iP (h:Da p q w w1 w2 Dn w') (a:Dn p=ZV):w'=w.drew:=by
 unfold Da at h;rwa [if_neg ZC] at h
def OM (w w1:ZU) (Dn:Nat->Bool) (w':ZU):Prop:=w'=if Dn 14=ZW then w1 else w.drew
def jc (h:OM w w1 Dn w') (i:Nat) (a:14≠i):OM w w1 (du Dn i) w':=by unfold OM;rw [dm a];exact h
def tP (h:OM w w1 Dn w') (a:Dn 14=ZV):w'=w.drew:=by
 unfold OM at h;rwa [if_neg ZC] at h
def D7 {o:Nat} {m:Nat->Nat} (h:w.rangeAt b o (cj m)):(Instr.loadAt 263 (Z6 (ZX ⟨b,o,ZY⟩))).run ZP w=.ok (.agg (cj m).toArray) w:=run_loadAt_mid (P:=ZP) w b o 263 (cj m) _ h XC rfl (vE (Tryz.Sv _))
def D8 {o:Nat} {m:Nat->Nat} (h:w.there b o 16):(Instr.storeAt 263 (Z6 (ZX ⟨b,o,ZY⟩)) (.agg (cj m).toArray)).run ZP w=.ok () (w.setCells b o (cj m)):=run_storeAt_mid (P:=ZP) w b o 263 (cj m).toArray (by simpa [jE] using h) (vE (Tryz.Sv _)) (J0 _)
noncomputable def RTl:Array Oper:=((Tryz.f200.body.bind (nZ · 4))).getD #[]
def PO:List (Op×Option Nat×a9):=[(Op.move (Z0 0),ZX 15,[]),
 (Op.move (Z0 0),ZX 16,[]),
 (Op.nilCheck (Z0 16),ZX 17,[1]),
 (Op.fieldAddr 322 (Z0 17) 1,ZX 18,[2]),
 (Op.load 3 (Z0 18),ZX 19,[3]),
 (Op.move (Z0 0),ZX 20,[]),
 (Op.move (Z0 5),ZX 21,[]),
 (Op.move (Z0 0),ZX 22,[]),
 (Op.move (Z0 5),ZX 23,[]),
 (Op.nilCheck (Z0 22),ZX 24,[7]),
 (Op.fieldAddr 322 (Z0 24) 0,ZX 25,[9]),
 (Op.indexAddr 320 (Z0 25) (Z0 23),ZX 26,[10,8]),
 (Op.load 263 (Z0 26),ZX 27,[11]),
 (Op.move (Z0 0),ZX 28,[]),
 (Op.move (Z0 0),ZX 29,[]),
 (Op.nilCheck (Z0 29),ZX 30,[14]),
 (Op.fieldAddr 322 (Z0 30) 1,ZX 31,[15]),
 (Op.load 3 (Z0 31),ZX 32,[16]),
 (Op.nilCheck (Z0 28),ZX 33,[13]),
 (Op.fieldAddr 322 (Z0 33) 0,ZX 34,[18]),
 (Op.indexAddr 320 (Z0 34) (Z0 32),ZX 35,[19,17]),
 (Op.load 263 (Z0 35),ZX 36,[20]),
 (Op.nilCheck (Z0 15),ZX 37,[0]),
 (Op.fieldAddr 322 (Z0 37) 0,ZX 38,[22]),
 (Op.indexAddr 320 (Z0 38) (Z0 19),ZX 39,[23,4,0,1,2,3,4,7,8,9,10,11,12,17,21]),
 (Op.store 263 (Z0 39) (Z0 27),ZY,[24,12,0,1,2,3,4,7,8,9,10,11,12,17,21]),
 (Op.nilCheck (Z0 20),ZX 40,[5]),
 (Op.fieldAddr 322 (Z0 40) 0,ZX 41,[26]),
 (Op.indexAddr 320 (Z0 41) (Z0 21),ZX 42,[27,6,0,1,2,3,4,5,6,7,8,9,10,11,12,13,14,15,16,17,18,19,20,21,22,23,24,25]),
 (Op.store 263 (Z0 42) (Z0 36),ZY,[28,21,25,0,1,2,3,4,5,6,7,8,9,10,11,12,13,14,15,16,17,18,19,20,21,22,23,24,25])]
def G5:aL RTl 15 43 PO:=bj ei ei
def KL (b r t:Nat) (m:Nat->Nat->Nat):List ZT:=[Z6 (ZX ⟨b,0,ZY⟩),Z6 (ZX ⟨b,0,ZY⟩),Z6 (ZX ⟨b,0,ZY⟩),Z6 (ZX ⟨b,128,ZY⟩),Z7 Z9 (t:Int),Z6 (ZX ⟨b,0,ZY⟩),Z7 Z9 (r:Int),Z6 (ZX ⟨b,0,ZY⟩),Z7 Z9 (r:Int),Z6 (ZX ⟨b,0,ZY⟩),Z6 (ZX ⟨b,0,ZY⟩),Z6 (ZX ⟨b,r*16,ZY⟩),.agg (cj (m r)).toArray,Z6 (ZX ⟨b,0,ZY⟩),Z6 (ZX ⟨b,0,ZY⟩),Z6 (ZX ⟨b,0,ZY⟩),Z6 (ZX ⟨b,128,ZY⟩),Z7 Z9 (t:Int),Z6 (ZX ⟨b,0,ZY⟩),Z6 (ZX ⟨b,0,ZY⟩),Z6 (ZX ⟨b,t*16,ZY⟩),.agg (cj (m t)).toArray,Z6 (ZX ⟨b,0,ZY⟩),Z6 (ZX ⟨b,0,ZY⟩),Z6 (ZX ⟨b,t*16,ZY⟩),ZZ,Z6 (ZX ⟨b,0,ZY⟩),Z6 (ZX ⟨b,0,ZY⟩),Z6 (ZX ⟨b,r*16,ZY⟩),ZZ]
theorem By (b r t:Nat) (m:Nat->Nat->Nat) (U:r<8) (ht:t<8) (q:w.drew.cell? ⟨b,128,ZY⟩=ZX (Z7 Z9 (t:Int)))
 (H:w.drew.rangeAt b (r*16) (cj (m r))) (I:w.drew.rangeAt b (t*16) (cj (m t))) (N:w.drew.there b (r*16) 16) (O:w.drew.there b (t*16) 16) (J:RTl=ops) (S:a.tmps.size=64)
 (x:a.eval (Z0 0)=Z6 (ZX ⟨b,0,ZY⟩)) (D:a.eval (Z0 5)=Z7 Z9 (r:Int))
 (K:∀ d,D6 15 43 a d->Q .normal d ((w.drew.setCells b (t*16) (cj (m r))).setCells b (r*16) (cj (m t)))):(Code.region 4 ops ZW).wp ZP Q a w:=by
 subst J;have R:(r:Int)<8:=eb
 have T:(t:Int)<8:=eb
 refine cQ ei G5 a w eb (λi u _=>u=(KL b r t m).getD i ZZ) (Da 25 29 w (w.drew.setCells b (t*16) (cj (m r))) ((w.drew.setCells b (t*16) (cj (m r))).setCells b (r*16) (cj (m t)))) rfl ?_ ?_
 . intro i M;match i,M with
   | 0,_=>
    intro o d w' Dn p ho f j k l g c h;have u0:d.eval (Z0 0)=Z6 (ZX ⟨b,0,ZY⟩):=(j.slot 0 eb).trans x;exact ag (ah ho u0 w') f ⟨cU c 0 ec ec,rfl,kq⟩
   | 1,_=>
    intro o d w' Dn p ho f j k l g c h;have u0:d.eval (Z0 0)=Z6 (ZX ⟨b,0,ZY⟩):=(j.slot 0 eb).trans x;exact ag (ah ho u0 w') f ⟨cU c 1 ec ec,rfl,kq⟩
   | 2,_|3,_|9,_|10,_|15,_|16,_|18,_|19,_|22,_|23,_|26,_|27,_=>
    intro o d w' Dn p ho f j k l g c h;have u0:=h _ (g _ (.head _));simp only [PO,KL,bT,dy,wK,wJ] at ho u0;exact ag (by simp only [execOp,ho,u0,KL,wK,wJ];go_simp) f ⟨cU c _ ec ec,rfl,kq⟩
   | 11,_|20,_|24,_|28,_=>
    intro o d w' Dn p ho f j k l g c h;have u0:=h _ (g _ (.head _));have u1:=h _ (g _ (.tail _ (.head _)));simp only [PO,KL,bT,dy,wK,wJ] at ho u0 u1;exact ag (by simp only [execOp,ho,u0,u1,KL,wK,wJ];go_simp) f ⟨cU c _ ec ec,rfl,kq⟩
   | 4,_=>
    intro o d w' Dn p ho f j k l g c h;have u0:d.eval (Z0 18)=Z6 (ZX ⟨b,128,ZY⟩):=h 3 (g 3 ec);have s:Dn 25=ZV:=by
     cases e:Dn 25 with
     | false=>rfl
     | true=>exact absurd ((l 25 e).2 4 ec) Y9
    have G:w'.cell? ⟨b,128,ZY⟩=ZX (Z7 Z9 (t:Int)):=(by rw [iP c s];exact q);exact ag (v:=Z7 Z9 (t:Int)) ee f ⟨cU c 4 ec ec,rfl,kq⟩
   | 5,_=>
    intro o d w' Dn p ho f j k l g c h;have u0:d.eval (Z0 0)=Z6 (ZX ⟨b,0,ZY⟩):=(j.slot 0 eb).trans x;exact ag (ah ho u0 w') f ⟨cU c 5 ec ec,rfl,kq⟩
   | 6,_=>
    intro o d w' Dn p ho f j k l g c h;have u0:d.eval (Z0 5)=Z7 Z9 (r:Int):=(j.slot 5 eb).trans D;exact ag (ah ho u0 w') f ⟨cU c 6 ec ec,rfl,kq⟩
   | 7,_=>
    intro o d w' Dn p ho f j k l g c h;have u0:d.eval (Z0 0)=Z6 (ZX ⟨b,0,ZY⟩):=(j.slot 0 eb).trans x;exact ag (ah ho u0 w') f ⟨cU c 7 ec ec,rfl,kq⟩
   | 8,_=>
    intro o d w' Dn p ho f j k l g c h;have u0:d.eval (Z0 5)=Z7 Z9 (r:Int):=(j.slot 5 eb).trans D;exact ag (ah ho u0 w') f ⟨cU c 8 ec ec,rfl,kq⟩
   | 12,_=>
    intro o d w' Dn p ho f j k l g c h;have u0:d.eval (Z0 26)=Z6 (ZX ⟨b,r*16,ZY⟩):=h 11 (g 11 ec);have s:Dn 25=ZV:=by
     cases e:Dn 25 with
     | false=>rfl
     | true=>exact absurd ((l 25 e).2 12 ec) Y9
    have C:=iP c s;have A:=D7 (w:=w') (by rw [C];exact H);exact ag (v:=.agg (cj (m r)).toArray) (by (conv at ho=>rhs;whnf);simp [execOp,ho,u0,A]) f ⟨cU c 12 ec ec,rfl,kq⟩
   | 13,_=>
    intro o d w' Dn p ho f j k l g c h;have u0:d.eval (Z0 0)=Z6 (ZX ⟨b,0,ZY⟩):=(j.slot 0 eb).trans x;exact ag (ah ho u0 w') f ⟨cU c 13 ec ec,rfl,kq⟩
   | 14,_=>
    intro o d w' Dn p ho f j k l g c h;have u0:d.eval (Z0 0)=Z6 (ZX ⟨b,0,ZY⟩):=(j.slot 0 eb).trans x;exact ag (ah ho u0 w') f ⟨cU c 14 ec ec,rfl,kq⟩
   | 17,_=>
    intro o d w' Dn p ho f j k l g c h;have u0:d.eval (Z0 31)=Z6 (ZX ⟨b,128,ZY⟩):=h 16 (g 16 ec);have s:Dn 25=ZV:=by
     cases e:Dn 25 with
     | false=>rfl
     | true=>exact absurd ((l 25 e).2 17 ec) Y9
    have G:w'.cell? ⟨b,128,ZY⟩=ZX (Z7 Z9 (t:Int)):=(by rw [iP c s];exact q);exact ag (v:=Z7 Z9 (t:Int)) ee f ⟨cU c 17 ec ec,rfl,kq⟩
   | 21,_=>
    intro o d w' Dn p ho f j k l g c h;have u0:d.eval (Z0 35)=Z6 (ZX ⟨b,t*16,ZY⟩):=h 20 (g 20 ec);have s:Dn 25=ZV:=by
     cases e:Dn 25 with
     | false=>rfl
     | true=>exact absurd ((l 25 e).2 21 ec) Y9
    have C:=iP c s;have A:=D7 (w:=w') (by rw [C];exact I);exact ag (v:=.agg (cj (m t)).toArray) (by (conv at ho=>rhs;whnf);simp [execOp,ho,u0,A]) f ⟨cU c 21 ec ec,rfl,kq⟩
   | 25,_=>
    intro o d w' Dn p ho f j k l g c h;have u0:d.eval (Z0 39)=Z6 (ZX ⟨b,t*16,ZY⟩):=h 24 (g 24 ec);have u1:d.eval (Z0 27)=.agg (cj (m r)).toArray:=h 12 (g 12 ec);have y:=iP c k;subst y;have B:=D8 (m:=m r) O;refine iY (w':=(w.drew.setCells b (t*16) (cj (m r)))) (by (conv at ho=>rhs;whnf);simp [execOp,ho,u0,u1,B]) ⟨?_,rfl,kq⟩;have L:Dn 29=ZV:=by
     cases e:Dn 29 with
     | false=>rfl
     | true=>exact absurd ((l 29 e).2 25 ec) Y9
    unfold Da;rw [if_pos ku,dm ec,if_neg (by rw [L];decide)]
   | 29,_=>
    intro o d w' Dn p ho f j k l g c h;have u0:d.eval (Z0 42)=Z6 (ZX ⟨b,r*16,ZY⟩):=h 28 (g 28 ec);have u1:d.eval (Z0 36)=.agg (cj (m t)).toArray:=h 21 (g 21 ec);have E:=g 25 ec;have y:w'=(w.drew.setCells b (t*16) (cj (m r))):=by
     have:=c;unfold Da at this;rwa [if_pos E,if_neg Y9] at this
    have B:=D8 (w:=w') (m:=m t) (b:=b) (o:=r*16) (by rw [y];exact World.there_setCells N _ _ _);refine iY (w':=w'.setCells b (r*16) (cj (m t))) (by (conv at ho=>rhs;whnf);simp [execOp,ho,u0,u1,B]) ⟨?_,rfl,kq⟩;unfold Da;rw [dm ec,if_pos E,if_pos ku,y]
   | n+30,hn=>exact absurd hn (by show ¬ n+30<30;omega)
 . rintro d w' z P ⟨Dn,F,c⟩ h;unfold Da at c;rw [if_pos (F 25 ec),if_pos (F 29 ec)] at c;rw [c];exact K d ⟨z.size,z.defers,z.slot⟩
noncomputable def RLv:Array Oper:=((Tryz.f215.body.bind (nZ · 6))).getD #[]
def PP:List (Op×Option Nat×a9):=[(Op.move (Z0 0),ZX 26,[]),
 (Op.move (Z0 5),ZX 27,[]),
 (Op.move (Z0 0),ZX 28,[]),
 (Op.move (Z0 0),ZX 29,[]),
 (Op.nilCheck (Z0 29),ZX 30,[3]),
 (Op.fieldAddr 322 (Z0 30) 2,ZX 31,[4]),
 (Op.load 3 (Z0 31),ZX 32,[5]),
 (Op.nilCheck (Z0 28),ZX 33,[2]),
 (Op.fieldAddr 322 (Z0 33) 0,ZX 34,[7]),
 (Op.indexAddr 320 (Z0 34) (Z0 32),ZX 35,[8,6]),
 (Op.load 263 (Z0 35),ZX 36,[9]),
 (Op.nilCheck (Z0 26),ZX 37,[0]),
 (Op.fieldAddr 322 (Z0 37) 0,ZX 38,[11]),
 (Op.indexAddr 320 (Z0 38) (Z0 27),ZX 39,[12,1,0,1,2,3,4,5,6,7,8,9,10]),
 (Op.store 263 (Z0 39) (Z0 36),ZY,[13,10,0,1,2,3,4,5,6,7,8,9,10])]
def G6:aL RLv 26 40 PP:=bj ei ei
def KM (b r t:Nat) (m:Nat->Nat->Nat):List ZT:=[Z6 (ZX ⟨b,0,ZY⟩),Z7 Z9 (r:Int),Z6 (ZX ⟨b,0,ZY⟩),Z6 (ZX ⟨b,0,ZY⟩),Z6 (ZX ⟨b,0,ZY⟩),Z6 (ZX ⟨b,129,ZY⟩),Z7 Z9 (t:Int),Z6 (ZX ⟨b,0,ZY⟩),Z6 (ZX ⟨b,0,ZY⟩),Z6 (ZX ⟨b,t*16,ZY⟩),.agg (cj (m t)).toArray,Z6 (ZX ⟨b,0,ZY⟩),Z6 (ZX ⟨b,0,ZY⟩),Z6 (ZX ⟨b,r*16,ZY⟩),ZZ]
theorem Nw (b r t:Nat) (m:Nat->Nat->Nat) (P:r<8) (ht:t<8) (q:w.drew.cell? ⟨b,129,ZY⟩=ZX (Z7 Z9 (t:Int)))
 (A:w.drew.rangeAt b (t*16) (cj (m t))) (J:w.drew.there b (r*16) 16) (B:RLv=ops) (N:a.tmps.size=40)
 (s:a.eval (Z0 0)=Z6 (ZX ⟨b,0,ZY⟩)) (z:a.eval (Z0 5)=Z7 Z9 (r:Int))
 (D:∀ d,D6 26 40 a d->Q .normal d (w.drew.setCells b (r*16) (cj (m t)))):(Code.region 6 ops ZW).wp ZP Q a w:=by
 subst B;have M:(r:Int)<8:=eb
 have O:(t:Int)<8:=eb
 refine cQ ei G6 a w eb (λi u _=>u=(KM b r t m).getD i ZZ) (OM w (w.drew.setCells b (r*16) (cj (m t)))) rfl ?_ ?_
 . intro i H;match i,H with
   | 0,_=>
    intro o d w' Dn p ho f j k l h c g;have u0:d.eval (Z0 0)=Z6 (ZX ⟨b,0,ZY⟩):=(j.slot 0 eb).trans s;exact ag (ah ho u0 w') f ⟨jc c 0 ec,rfl,kq⟩
   | 1,_=>
    intro o d w' Dn p ho f j k l h c g;have u0:d.eval (Z0 5)=Z7 Z9 (r:Int):=(j.slot 5 eb).trans z;exact ag (ah ho u0 w') f ⟨jc c 1 ec,rfl,kq⟩
   | 2,_=>
    intro o d w' Dn p ho f j k l h c g;have u0:d.eval (Z0 0)=Z6 (ZX ⟨b,0,ZY⟩):=(j.slot 0 eb).trans s;exact ag (ah ho u0 w') f ⟨jc c 2 ec,rfl,kq⟩
   | 3,_=>
    intro o d w' Dn p ho f j k l h c g;have u0:d.eval (Z0 0)=Z6 (ZX ⟨b,0,ZY⟩):=(j.slot 0 eb).trans s;exact ag (ah ho u0 w') f ⟨jc c 3 ec,rfl,kq⟩
   | 4,_|5,_|7,_|8,_|11,_|12,_=>
    intro o d w' Dn p ho f j k l h c g;have u0:=g _ (h _ (.head _));simp only [PP,KM,bT,dy,wK,wJ] at ho u0;exact ag (by simp only [execOp,ho,u0,KM,wK,wJ];go_simp) f ⟨jc c _ ec,rfl,kq⟩
   | 9,_|13,_=>
    intro o d w' Dn p ho f j k l h c g;have u0:=g _ (h _ (.head _));have u1:=g _ (h _ (.tail _ (.head _)));simp only [PP,KM,bT,dy,wK,wJ] at ho u0 u1;exact ag (by simp only [execOp,ho,u0,u1,KM,wK,wJ];go_simp) f ⟨jc c _ ec,rfl,kq⟩
   | 6,_=>
    intro o d w' Dn p ho f j k l h c g;have u0:d.eval (Z0 31)=Z6 (ZX ⟨b,129,ZY⟩):=g 5 (h 5 ec);have y:Dn 14=ZV:=by
     cases e:Dn 14 with
     | false=>rfl
     | true=>exact absurd ((l 14 e).2 6 ec) Y9
    have K:w'.cell? ⟨b,129,ZY⟩=ZX (Z7 Z9 (t:Int)):=(by rw [tP c y];exact q);exact ag (v:=Z7 Z9 (t:Int)) ee f ⟨jc c 6 ec,rfl,kq⟩
   | 10,_=>
    intro o d w' Dn p ho f j k l h c g;have u0:d.eval (Z0 35)=Z6 (ZX ⟨b,t*16,ZY⟩):=g 9 (h 9 ec);have y:Dn 14=ZV:=by
     cases e:Dn 14 with
     | false=>rfl
     | true=>exact absurd ((l 14 e).2 10 ec) Y9
    have G:=tP c y;have E:=D7 (w:=w') (by rw [G];exact A);exact ag (v:=.agg (cj (m t)).toArray) (by (conv at ho=>rhs;whnf);simp [execOp,ho,u0,E]) f ⟨jc c 10 ec,rfl,kq⟩
   | 14,_=>
    intro o d w' Dn p ho f j k l h c g;have u0:d.eval (Z0 39)=Z6 (ZX ⟨b,r*16,ZY⟩):=g 13 (h 13 ec);have u1:d.eval (Z0 36)=.agg (cj (m t)).toArray:=g 10 (h 10 ec);have I:=tP c k;subst I;have F:=D8 (m:=m t) J;refine iY (w':=(w.drew.setCells b (r*16) (cj (m t)))) (by (conv at ho=>rhs;whnf);simp [execOp,ho,u0,u1,F]) ⟨?_,rfl,kq⟩;unfold OM;rw [if_pos ku]
   | n+15,hn=>exact absurd hn abV
 . rintro d w' x L ⟨Dn,C,c⟩ g;unfold OM at c;rw [if_pos (C 14 ec)] at c;rw [c];exact D d ⟨x.size,x.defers,x.slot⟩
theorem D6.split {lo hi:Nat} {a':Act} (b:D6 lo hi a a') (p:lo<=hi) (q:hi<=a.tmps.size) :
 ∃ l:List ZT,l.length=hi-lo/\a'={ tmps:=(a.tmps.toList.take lo++(l++a.tmps.toList.drop hi)).toArray,defers:=a.defers }:=by
 have f:∀ (x:Act) (s:Nat),s<x.tmps.size->x.tmps[s]?=ZX (x.eval (.tmp s)):=λx s g=>by
  simp [Act.eval,Vx,g]
 refine ⟨(a'.tmps.toList.drop lo).take (hi-lo),?_,?_⟩
 . have:=b.size;simp;omega
 . obtain ⟨c,o⟩:=a';have g:=b.size;have j:=b.defers;simp only at g j;subst j;congr 1;apply Array.ext_getElem?;intro i;simp only [WM,List.getElem?_append,Xx,VM,Ud,Ue,Wm,Yc];by_cases c1:i<lo
   . rw [if_pos eb,if_pos c1];have e:=b.slot i (.inl c1);have d:=f ⟨c,a.defers⟩ i (by show i<c.size;omega);have h:=f a i eb;simp only at d;rw [d,h,e]
   . by_cases n:i<hi
     . rw [if_neg eb,if_pos eb,if_pos eb,(eb:lo+(i-min lo a.tmps.size)=i)]
     . rw [if_neg eb,if_neg eb];have m:hi+(i-min lo a.tmps.size-min (hi-lo) (c.size-lo))=i:=eb;rw [m];by_cases k:i<a.tmps.size
       . have e:=b.slot i (.inr eb);have d:=f ⟨c,a.defers⟩ i (by show i<c.size;omega);have h:=f a i k;simp only at d;rw [d,h,e]
       . rw [WN eb,WN eb]
def Rz {l:List ZT} (h:l.length=9):∃ u0 u1 u2 u3 u4 u5 u6 u7 u8,l=[u0,u1,u2,u3,u4,u5,u6,u7,u8]:=by
 match l,h with
 | [u0,u1,u2,u3,u4,u5,u6,u7,u8],_=>exact ⟨u0,u1,u2,u3,u4,u5,u6,u7,u8,rfl⟩
def RA {l:List ZT} (h:l.length=14):∃ u0 u1 u2 u3 u4 u5 u6 u7 u8 u9 u10 u11 u12 u13,l=[u0,u1,u2,u3,u4,u5,u6,u7,u8,u9,u10,u11,u12,u13]:=by
 match l,h with
 | [u0,u1,u2,u3,u4,u5,u6,u7,u8,u9,u10,u11,u12,u13],_=>exact ⟨u0,u1,u2,u3,u4,u5,u6,u7,u8,u9,u10,u11,u12,u13,rfl⟩
def RB {l:List ZT} (h:l.length=28):∃ u0 u1 u2 u3 u4 u5 u6 u7 u8 u9 u10 u11 u12 u13 u14 u15 u16 u17 u18 u19 u20 u21 u22 u23 u24 u25 u26 u27,l=[u0,u1,u2,u3,u4,u5,u6,u7,u8,u9,u10,u11,u12,u13,u14,u15,u16,u17,u18,u19,u20,u21,u22,u23,u24,u25,u26,u27]:=by
 match l,h with
 | [u0,u1,u2,u3,u4,u5,u6,u7,u8,u9,u10,u11,u12,u13,u14,u15,u16,u17,u18,u19,u20,u21,u22,u23,u24,u25,u26,u27],_=>exact ⟨u0,u1,u2,u3,u4,u5,u6,u7,u8,u9,u10,u11,u12,u13,u14,u15,u16,u17,u18,u19,u20,u21,u22,u23,u24,u25,u26,u27,rfl⟩
theorem Bz (b i:Nat) (C:Ck) (w:ZU) (h:aH w b C) (j:dV C) (u:i<16) :
 ZR ZP 215 #[Z6 (ZX ⟨b,0,ZY⟩),Z7 Z9 i] w λe w'=>
  (iC C i=ZY/\e=Z3 (Z1 ZV)/\w'=w)\/(∃ C',iC C i=ZX C'/\e=Z3 (Z1 ZW)/\aH w' b C'/\w.grownBy w' (ZX b)):=by
 go_enter func215,ntmps215;go_wp2_with fail;refine (wQ b i C w h j u).mono ?_;rintro e w1 ⟨rfl,E⟩;subst E;cases h2:dH C i with
 | none=>
  have g:Hid (iC C i=ZY):=al (by unfold iC;rw [h2];rfl);simp only [Rk];clear h2;go_wp2;go_ret;exact .inl ⟨g.out,rfl,rfl⟩
 | some r=>
  obtain ⟨H,I,J⟩:=ia h2;have g:Hid (iC C i=ZX (ig C i r)):=al (by unfold iC;rw [h2];rfl);have G:=j.So;simp only [Rk];clear h2;go_wp2_with fail;refine (wT b r i C _ h j eb u).mono ?_;rintro e w2 ⟨rfl,f,q⟩;have n:=f.SG;have B:=f.frozen 129;have p:(lJ C C.count r i).count=C.count:=rfl;rw [p] at n;have c:=wU f (C.count-1);have a:=eY q 129 (Z7 Z9 ((C.count-1:Nat):Int));have D:IntKind.i64.wrap ((C.count:Int)-1)=((C.count-1:Nat):Int):=iE
  obtain ⟨d,s⟩:=nM (w2.setCell ⟨b,129,ZY⟩ (Z7 Z9 ((C.count-1:Nat):Int)));rw [s] at c a;have A:=c.SG;have k:=al (zi (show aH d.drew b _ from c) r eb ((lJ C C.count r i).m (C.count-1)));have o:Hid (w1.grownBy (d.drew.setCells b (r*16) (cj ((lJ C C.count r i).m (C.count-1)))) (ZX b)):=al (oB _ _ _ _ ⟨a.os,a.tape,a.output,a.size,a.block⟩);have y:=al (j7 (show aH d.drew b _ from c) (C.count-1) eb);have z:=al (td (show aH d.drew b _ from c) r eb);clear f q c a h;go_wp2;clear s n B D p;refine Nw b r (C.count-1) (lJ C C.count r i).m eb eb A y.out z.out ei rfl rfl rfl ?_;intro F v;obtain ⟨l,x,rfl⟩:=v.split ec ek;clear v;obtain ⟨u0,u1,u2,u3,u4,u5,u6,u7,u8,u9,u10,u11,u12,u13,rfl⟩:=RA x;clear x;simp only [Xu,VQ,YG,UH,Uk,List.drop_nil,V7];obtain ⟨K,t⟩:=nM (d.drew.setCells b (r*16) (cj ((lJ C C.count r i).m (C.count-1))));rw [t] at k o ⊢;clear t;go_wp2;go_ret;exact .inr ⟨_,g.out,rfl,k.out,o.out⟩
theorem KN (m:Nat->Nat->Nat) (t r:Nat):vI (vI m t (m r)) r (m t)=cV m t r:=by
 funext k;unfold vI cV;by_cases b:k=r
 . rw [if_pos b];by_cases a:k=t
   . rw [if_pos a,<- b,<- a]
   . rw [if_neg a,if_pos b]
 . rw [if_neg b];by_cases a:k=t
   . rw [if_pos a,if_pos a]
   . rw [if_neg a,if_neg a,if_neg b]
theorem tQ (b i:Nat) (C:Ck) (w:ZU) (a:aH w b C) (c:dV C) (o:i<16) :
 ZR ZP 200 #[Z6 (ZX ⟨b,0,ZY⟩),Z7 Z9 i] w λe w'=>
  (pI C i=ZY/\e=Z3 (Z1 ZV)/\w'=w)\/(∃ C',pI C i=ZX C'/\e=Z3 (Z1 ZW)/\aH w' b C'/\w.grownBy w' (ZX b)):=by
 go_enter func200,ntmps200;go_wp2_with fail;refine (wQ b i C w a c o).mono ?_;rintro e w1 ⟨rfl,P⟩;subst P;cases h4:dH C i with
 | none=>
  have h:Hid (pI C i=ZY):=al (by unfold pI;rw [h4];rfl);simp only [Rk];clear h4;go_wp2;go_ret;exact .inl ⟨h.out,rfl,rfl⟩
 | some r=>
  obtain ⟨Y,Z,r3⟩:=ia h4;have h:Hid (pI C i=ZX (jk C i r)):=al (by unfold pI;rw [h4];rfl);have V:=c.So;simp only [Rk];clear h4;have d:=a.SE;have v:=zi (zi (show aH w1.drew b _ from a) C.told eb (C.m r)) r eb (C.m C.told);have t:(⟨vI (vI C.m C.told (C.m r)) r (C.m C.told),C.told,C.count⟩:Ck)=⟨cV C.m C.told r,C.told,C.count⟩:=by rw [KN]
  have x:aH ((w1.drew.setCells b (C.told*16) (cj (C.m r))).setCells b (r*16) (cj (C.m C.told))) b ⟨cV C.m C.told r,C.told,C.count⟩:=by rw [<- t];exact v
  have E:w1.grownBy ((w1.drew.setCells b (C.told*16) (cj (C.m r))).setCells b (r*16) (cj (C.m C.told))) (ZX b):=
   oB _ _ _ _ (oB _ _ _ _ ⟨rfl,rfl,rfl,TV _,λ_ _ _=>rfl⟩)
  have f:=al x;have k:=al E;have p:=al (j7 (show aH w1.drew b _ from a) r eb);have B:=al (j7 (show aH w1.drew b _ from a) C.told eb);have q:=al (td (show aH w1.drew b _ from a) r eb);have D:=al (td (show aH w1.drew b _ from a) C.told eb);clear v t x E a;go_wp2;refine By b r C.told C.m eb eb d p.out B.out q.out D.out ei rfl rfl rfl ?_;intro T H;obtain ⟨l,I,rfl⟩:=H.split ec ek;clear H p B q D;obtain ⟨u0,u1,u2,u3,u4,u5,u6,u7,u8,u9,u10,u11,u12,u13,u14,u15,u16,u17,u18,u19,u20,u21,u22,u23,u24,u25,u26,u27,rfl⟩:=RB I;clear I;simp only [Xu,VQ,YG,X1,UH,Uk];obtain ⟨w2,L⟩:=nM ((w1.drew.setCells b (C.told*16) (cj (C.m r))).setCells b (r*16) (cj (C.m C.told)));rw [L] at f k ⊢;clear L d;have d:=f.out.SE;have Q:dV ⟨cV C.m C.told r,C.told,C.count⟩:=⟨jy c.byt,c.le,c.So⟩;go_wp2_with fail;refine (AR b C.told i _ _ f.out Q eb o).mono ?_;rintro e w3 ⟨rfl,n,G⟩;have R:dV ⟨ez (cV C.m C.told r) C.told i,C.told,C.count⟩:=⟨sJ (jy c.byt),c.le,c.So⟩;have u:=gx k.out G;have j:=n.SE;have z:=al n;have A:=al u;clear n G u d f k;go_wp2_with fail;refine (wT b C.told i _ _ z.out R eb o).mono ?_;rintro e S ⟨rfl,g,J⟩;have y:=gx A.out J;have F:=J1 g (C.told+1);have K:=eY y 128 (Z7 Z9 ((C.told+1:Nat):Int));have s:=g.SE;have U:=g.frozen 128;have M:S.cell? ⟨b,128,ZY⟩=ZX (Z7 Z9 (C.told:Int)):=s;have X:wrap64 ((C.told:Int)+1)=((C.told+1:Nat):Int):=K0
  have W:IntKind.i64.wrap ((C.told:Int)+1)=((C.told+1:Nat):Int):=iE
  have N:=al F;have O:=al K;clear g J y F K s j z A;go_wp2;go_ret;exact .inr ⟨_,h.out,rfl,N.out,O.out⟩
def aV (C:Ck):Array ZT:=((YC 130).map (od C)).toArray
def bV (C:Ck):(aV C).size=130:=by unfold aV;rw [Uy,TZ,Uv]
def zG (C:Ck) (i:Nat) (a:i<130):(aV C)[i]?=ZX (od C i):=by
 unfold aV;rw [WM,Ul,Ve a];rfl
def Tryz.infoCk:(ZP.info? 322).map (λi=>i.size)=ZX 130:=ei
def dA (C:Ck):(ZP.info? 322).map (λi=>i.size)=ZX (aV C).size:=by rw [bV];exact Tryz.infoCk
theorem Nx (C:Ck) (i:Nat):(od C i).oneCell'=ZW:=by
 unfold od;split
 . rfl
 . split<;>rfl
def mO (C:Ck):(aV C).all (λv=>v.oneCell')=ZW:=by
 rw [XB];intro i a;have:=zG C i (by rw [<- bV C];exact a);rw [Vr a] at this;rw [UA this];exact Nx C i
theorem aH.heap (h:aH w b C):w.heap[b]?=ZX (Z4 (aV C) 322 (0,0)):=by
 obtain ⟨c,j,l,k⟩:=h;have e:c=aV C:=by
  apply Array.ext
  . rw [l,bV]
  . intro i f g;have a:=k i eb;have d:=zG C i eb;rw [Vr f] at a;rw [Vr g] at d;rw [UA a,UA d]
 rw [<- e];exact j
def aH.of_heap (h:w.heap[b]?=ZX (Z4 (aV C) 322 (0,0))):aH w b C:=⟨_,h,bV C,λi a=>zG C i a⟩
def aH.new (w:ZU) (C:Ck):aH (w.alloc (Z4 (aV C) 322)) w.heap.size C:=aH.of_heap (XA w _)
def aH.lt (h:aH w b C):b<w.heap.size:=(TW.1 h.heap).1
def aH.keep (h:aH w b C) (e:w'.heap[b]?=w.heap[b]?):aH w' b C:=aH.of_heap (e.trans h.heap)
def aH.setRow (C:Ck) (h:aH w b C'):aH (w.setRow b (aV C)) b C:=aH.of_heap (U3 w b (aV C') (aV C) _ _ h.heap)
def aP (w:ZU) (b:Nat) (cs:Array ZT):w.grownBy (w.setRow b cs) (ZX b):=
 ⟨rfl,rfl,rfl,ek,λk _ a=>by
  have:b≠k:=λe=>a Zc;simp [World.setRow,Vv,this]⟩
def mP (h:aH w b C):(Instr.loadAt 322 (Z6 (ZX ⟨b,0,ZY⟩))).run ZP w=.ok (.agg (aV C)) w:=by
 simp only [Instr.loadAt,Instr.sureAddr,Uo,UW,Uz,WE w b 322 322 (aV C) (0,0) _ h.heap Xk rfl (dA C)]
def nL (C:Ck) (h:aH w b C'):(Instr.storeAt 322 (Z6 (ZX ⟨b,0,ZY⟩)) (.agg (aV C))).run ZP w=.ok () (w.setRow b (aV C)):=by
 simp only [Instr.storeAt,Instr.sureAddr,Uo,UW,Uz,Xt w b 322 322 (aV C') (aV C) h.heap (dA C) (by rw [bV,bV]) (mO C)]
def kH (f:o.guard=ZY) (x:Operand) (ho:o.op=.load 322 x) (b:Nat) (C:Ck)
 (g:a.eval x=Z6 (ZX ⟨b,0,ZY⟩)) (e:aH w b C) (h:wpListIn F n ZP ops Q rest (a.put o.dst (.agg (aV C))) w):wpListIn F n ZP ops Q (o::rest) a w:=by
 refine Yj f λK hK=>?_;unfold Oper.wpIn;refine ⟨by simp [Oper.about,ho],?_⟩;rw [V8 F _ _ (by rw [ho];intro c d;cases d)];simp [execOp,ho,g,mP e,Result.andThen];exact hK _ _ h
def jH (f:o.guard=ZY) (x y:Operand) (ho:o.op=.store 322 x y) (b:Nat) (C C':Ck)
 (g:a.eval x=Z6 (ZX ⟨b,0,ZY⟩)) (i:a.eval y=.agg (aV C)) (e:aH w b C') (h:wpListIn F n ZP ops Q rest (a.put o.dst ZZ) (w.setRow b (aV C))):wpListIn F n ZP ops Q (o::rest) a w:=by
 refine Yj f λK hK=>?_;unfold Oper.wpIn;refine ⟨by simp [Oper.about,ho],?_⟩;rw [V8 F _ _ (by rw [ho];intro c d;cases d)];simp [execOp,ho,g,i,nL C e,Result.andThen];exact hK _ _ h
def dq:Ck:=⟨λ_ _=>0,0,0⟩
def Tryz.zeroCk:(ZP.info? 322).map (λi=>(i.zero,i.size,i.bytes))=ZX (ZX (.agg (aV dq)),130,144):=ei
def zeroCk (w:ZU):(zeroValue 322).run ZP w=.ok (.agg (aV dq)) w:=by
 obtain ⟨c,a,b,_,_⟩:=Ur Tryz.zeroCk;simp [zeroValue,typeInfo,Uo,a,b]
def aH.mono (h:aH w b C) (c:ZS B w w') (a:b<B):aH w' b C:=h.keep (c.block b a)
def Jd:Code->Nat->Option (Array Oper)
 | .region i ops _,n=>if i=n then ZX ops else ZY
 | .seq a b,n=>(Jd a n).orElse λ_=>Jd b n
 | .cond _ a b,n=>(Jd a n).orElse λ_=>Jd b n
 | .block _ a,n=>Jd a n
 | .loop a,n=>Jd a n
 | .scope a,n=>Jd a n
 | .rangeFunc _ _ a b,n=>(Jd a n).orElse λ_=>Jd b n
 | _,_=>ZY
noncomputable def RD:Array Oper:=((Tryz.f214.body.bind (Jd · 8))).getD #[]
def BA:List (Op×Option Nat×a9):=[(.load 322 (Z0 12),ZX 28,[]),(.load 131 (Z0 6),ZX 29,[]),(.move (Z0 11),ZX 30,[]),
 (.call { callee:=.value (.func 216),args:=#[Z0 29,Z0 30],argTypes:=#[131,3] },ZX 31,[1,2]),(.load 3 (Z0 7),ZX 32,[]),(.load 225 (Z0 8),ZX 33,[]),(.load 334 (Z0 9),ZX 34,[]),
 (.call { callee:=.value (.func 214),args:=#[Z0 28,Z0 31,Z0 32,Z0 33,Z0 34],argTypes:=#[322,131,3,225,334] },ZX 35,[0,3,4,5,6,3]),(.unOp .not 4 (Z0 35),ZX 36,[7])]
def D9:aL RD 28 37 BA:=bj ei ei
def Ea (w:ZU) (R:ZU->Prop) (Dn:Nat->Bool) (w':ZU):Prop:=if Dn 7=ZW then R w' else w'=w.drew
def gA {R:ZU->Prop} (h:Ea w R Dn w') (i:Nat) (a:7≠i):Ea w R (du Dn i) w':=by unfold Ea;rw [dm a];exact h
def mQ {R:ZU->Prop} (h:Ea w R Dn w') {j:Nat} (e:j<8) (a:Dn j=ZV) (b:∀ j,Dn j=ZW->j<BA.length/\∀ k∈(bT BA j).2.2,Dn k=ZW):w'=w.drew:=by
 unfold Ea at h;cases q:Dn 7 with
 | false=>rw [q] at h;exact h
 | true=>
  have c:=(b 7 q).2;have d:=(b 3 (c 3 ec)).2;exfalso;match j,e with
  | 0,_|3,_|4,_|5,_|6,_=>exact nomatch a.symm.trans (c _ ec)
  | 1,_|2,_=>exact nomatch a.symm.trans (d _ ec)
  | 7,_=>exact nomatch a.symm.trans q
theorem Eb (B E F G H i of q:Nat) (C:Ck) (z A:ZT) (R:ZU->Prop) (U:RD=ops)
 (sz:a.tmps.size=39) (V:i<16) (T:of<65536) (i12:a.eval (Z0 12)=Z6 (ZX ⟨B,0,ZY⟩)) (Y:a.eval (Z0 6)=Z6 (ZX ⟨E,0,ZY⟩)) (i11:a.eval (Z0 11)=Z7 Z9 (i:Int)) (Z:a.eval (Z0 7)=Z6 (ZX ⟨F,0,ZY⟩)) (i8:a.eval (Z0 8)=Z6 (ZX ⟨G,0,ZY⟩)) (i9:a.eval (Z0 9)=Z6 (ZX ⟨H,0,ZY⟩))
 (S:aH w.drew B C) (c6:w.drew.cell? ⟨E,0,ZY⟩=ZX (Z7 Z8 (of:Int))) (c7:w.drew.cell? ⟨F,0,ZY⟩=ZX (Z7 Z9 (q:Int))) (c8:w.drew.cell? ⟨G,0,ZY⟩=ZX z) (c9:w.drew.cell? ⟨H,0,ZY⟩=ZX A)
 (P:∀ m,CallsIn Fence.wide m ZP 214 #[.agg (aV C),Z7 Z8 (bI of i:Nat),Z7 Z9 (q:Int),z,A] w.drew λe w''=>e=Z3 (Z1 ZW)/\R w'')
 (h:∀ b w'',D6 28 37 a b->b.eval (Z0 36)=Z1 ZV->R w''->Q .normal b w''):(Code.region 8 ops ZW).wpIn (Fence.wide.inRound l) n ZP Q a w:=by
 subst U;refine bu ei D9 a w eb (λj u _=>u=([.agg (aV C),Z7 Z8 (of:Int),Z7 Z9 (i:Int),Z7 Z8 (bI of i:Nat),Z7 Z9 (q:Int),z,A,Z1 ZW,Z1 ZV]:List ZT).getD j ZZ) (Ea w R) rfl ?_ ?_
 . intro j W;match j,W with
   | 0,_=>
    intro o b w' Dn x ho p k s t r d g;obtain rfl:=mQ d ec s t;exact ak (by (conv at ho=>rhs;whnf);simp [execOp,ho,(k.slot 12 eb).trans i12,mP S,Result.andThen]) ej p ⟨gA d _ ec,rfl,kq⟩
   | 1,_=>
    intro o b w' Dn x ho p k s t r d g;obtain rfl:=mQ d ec s t;exact ak (v:=Z7 Z8 (of:Int)) (by (conv at ho=>rhs;whnf);simp only [execOp,ho,(k.slot 6 eb).trans Y];go_simp) ej p ⟨gA d _ ec,rfl,kq⟩
   | 2,_=>exact λo b w' Dn x ho p k s t r d g=>ak (ah ho ((k.slot 11 eb).trans i11) w') ej p ⟨gA d _ ec,rfl,kq⟩
   | 3,_=>
    intro o b w' Dn x ho p k s t r d g;have y:b.eval (Z0 29)=Z7 Z8 (of:Int):=g 1 (r 1 ec);have I:b.eval (Z0 30)=Z7 Z9 (i:Int):=g 2 (r 2 ec);refine gz (f:=216) (args:=#[Z7 Z8 (of:Int),Z7 Z9 (i:Int)]) (w1:=w') (by have D:b.eval (.func 216)=.func (.func 216) #[] #[]:=rfl;generalize b.eval=N at y I D ⊢;(conv at ho=>rhs;whnf);simp [execOp,ho,BA,resolve,invoke,y,I,D,go_sem]) ej p (DA of i T V _) ?_;rintro e w'' ⟨rfl,rfl⟩;exact ⟨_,rfl,gA d _ ec,rfl,kq⟩
   | 4,_=>
    intro o b w' Dn x ho p k s t r d g;obtain rfl:=mQ d ec s t;exact ak (v:=Z7 Z9 (q:Int)) (by (conv at ho=>rhs;whnf);simp only [execOp,ho,(k.slot 7 eb).trans Z];go_simp) ej p ⟨gA d _ ec,rfl,kq⟩
   | 5,_=>
    intro o b w' Dn x ho p k s t r d g;obtain rfl:=mQ d ec s t;exact ak (v:=z) (by (conv at ho=>rhs;whnf);simp only [execOp,ho,(k.slot 8 eb).trans i8];go_simp) ej p ⟨gA d _ ec,rfl,kq⟩
   | 6,_=>
    intro o b w' Dn x ho p k s t r d g;obtain rfl:=mQ d ec s t;exact ak (v:=A) (by (conv at ho=>rhs;whnf);simp only [execOp,ho,(k.slot 9 eb).trans i9];go_simp) ej p ⟨gA d _ ec,rfl,kq⟩
   | 7,_=>
    intro o b w' Dn x ho p k s t r d g;obtain rfl:=mQ d ec s t;have y:b.eval (Z0 28)=.agg (aV C):=g 0 (r 0 ec);have J:b.eval (Z0 31)=Z7 Z8 (bI of i:Nat):=g 3 (r 3 ec);have K:b.eval (Z0 32)=Z7 Z9 (q:Int):=g 4 (r 4 ec);have L:b.eval (Z0 33)=z:=g 5 (r 5 ec);have M:b.eval (Z0 34)=A:=g 6 (r 6 ec);refine gz (f:=214) (args:=#[.agg (aV C),Z7 Z8 (bI of i:Nat),Z7 Z9 (q:Int),z,A]) (w1:=w.drew) (by have D:b.eval (.func 214)=.func (.func 214) #[] #[]:=rfl;generalize b.eval=N at y J K L M D ⊢;(conv at ho=>rhs;whnf);simp [execOp,ho,BA,resolve,invoke,y,J,K,L,M,D,go_sem]) ej p (U6.1 (P 0)) ?_;rintro e w'' ⟨rfl,X⟩;exact ⟨_,rfl,(show R w'' from X),rfl,kq⟩
   | 8,_=>
    intro o b w' Dn x ho p k s t r d g;have y:b.eval (Z0 35)=Z1 ZW:=g 7 (r 7 ec);exact ak (v:=Z1 ZV) (by (conv at ho=>rhs;whnf);simp only [execOp,ho,y];go_simp) ej p ⟨gA d _ ec,rfl,kq⟩
 . rintro b w' k _ ⟨Dn,O,d⟩ g;unfold Ea at d;rw [O 7 ec,if_pos rfl] at d;exact h b w' ⟨k.size,k.defers,k.slot⟩ (g 8 ec) d
section
attribute [local go_sem] Oper.semAt_some
theorem xE (p least Bl:Nat) (w:ZU) (a:w.cell? ⟨Bl,0,ZY⟩=ZX (Z7 Z9 (least:Int))) :
 ZR ZP 210 #[Z7 Z9 p,Z6 (ZX ⟨Bl,0,ZY⟩)] w λe w'=>e=Z3 (Z1 (decide (p<least)))/\w'=w:=by
 go_enter func210,ntmps210;go_wp2;go_ret;exact ⟨ek,rfl⟩
def fm (Bl:Nat):ZT:=.func (.func 210) #[] #[Z6 (ZX ⟨Bl,0,ZY⟩)]
def Bx (W:ZU) (B:Nat) (v:ZT):Prop:=∃ t,ZQ W B t v
def Bx.cell (h:Bx W B v):W.cell? ⟨B,0,ZY⟩=ZX v:=by obtain ⟨t,h⟩:=h;exact h.cell
def Bx.frozen (h:Bx W B v):W.frozen? ⟨B,0,ZY⟩=ZV:=by obtain ⟨t,h⟩:=h;exact h.frozen
def Bx.lt (h:Bx W B v):B<W.heap.size:=by obtain ⟨t,h⟩:=h;exact h.lt
def Bx.keep (h:Bx W B v) (e:W'.heap[B]?=W.heap[B]?):Bx W' B v:=by obtain ⟨t,h⟩:=h;exact ⟨t,e.trans h⟩
def Bx.set (h:Bx W B v) (a:ZT):Bx (W.setCell ⟨B,0,ZY⟩ a) B a:=by obtain ⟨t,h⟩:=h;exact ⟨t,h.set a⟩
def Bx.new (W:ZU) (t:TypeId) (v:ZT):Bx (W.alloc (Z4 #[v] t)) W.heap.size v:=⟨t,Uj W t v⟩
def Bx.alloc (h:Bx W B v) (o:Obj):Bx (W.alloc o) B v:=by obtain ⟨t,h⟩:=h;exact ⟨t,h.alloc o⟩
structure VB (W:ZU) (h:Nat) (C:Ck) (of q Bl l:Nat):Prop where
 ck:aH W h C
 set:Bx W (h+1) (Z7 Z8 (of:Int))
 pas:Bx W (h+1+1) (Z7 Z9 (q:Int))
 SA:Bx W (h+1+1+1) (fm Bl)
 yld:Bx W (h+1+1+1+1) (.func (.yield l) #[] #[])
 res:Bx W (h+1+1+1+1+1) (Z1 ZV)
def VB.keep (v:VB W h C of q Bl l) (e:∀ k,h<=k->k<h+6->W'.heap[k]?=W.heap[k]?):VB W' h C of q Bl l:=
 ⟨v.ck.keep (e _ eb eb),v.set.keep (e _ eb eb),v.pas.keep (e _ eb eb),v.SA.keep (e _ eb eb),v.yld.keep (e _ eb eb),v.res.keep (e _ eb eb)⟩
def VB.passed (v:VB W h C of q Bl l) (a:Nat):VB (W.setCell ⟨h+1+1,0,ZY⟩ (Z7 Z9 (a:Int))) h C of a Bl l:=by
 have e:∀ k,k≠h+1+1->(W.setCell ⟨h+1+1,0,ZY⟩ (Z7 Z9 (a:Int))).heap[k]?=W.heap[k]?:=λk b=>VY _ _ _ _ b;exact ⟨v.ck.keep (e _ eb),v.set.keep (e _ eb),v.pas.set _,v.SA.keep (e _ eb),v.yld.keep (e _ eb),v.res.keep (e _ eb)⟩
def jd (K:a9) (d:Nat) (C:Ck) (of p:Nat) (s:cd) (pre:List Sh):Nat×cd×Bool:=(pre.map (·.1)).foldl (ik (yS K d) C of) (p,eW K s C,ZV)
def Ec (K:a9) (d:Nat) (C:Ck) (of p:Nat) (s:cd) (pre:List Sh) (x:Sh):jd K d C of p s (pre++[x])=ik (yS K d) C of (jd K d C of p s pre) x.1:=by
 unfold jd;rw [Uu,V3];rfl
def G7 (h:pre.map (·.1)=ae of):(jd K d C of p s pre).2.1=iF K d C of p s:=by
 unfold jd;rw [h,pK]
def Ed (h:pre.map (·.1)<+:ae of) (e:(jd K d C of p s pre).2.2=ZW):(jd K d C of p s pre).2.1=iF K d C of p s:=by
 obtain ⟨R,c⟩:=h;rw [pK,<- c,V3];show _=(R.foldl (ik (yS K d) C of) (jd K d C of p s pre)).2.1;obtain ⟨f,a⟩:∃ q sx,jd K d C of p s pre=(q,sx,ZW):=⟨_,_,by rw [<- e]⟩;obtain ⟨a,b⟩:=a;rw [b,wD]
def VI (K:a9) (d:Nat) (C:Ck) (of p:Nat) (s:cd) (W:ZU) (B n0 Bl l:Nat) (J:cd->ZU->Prop) (brk:Bool) (pre:List Sh) (X:ZU):Prop:=
 (jd K d C of p s pre).2.2=brk/\VB X W.heap.size C of (jd K d C of p s pre).1 Bl l/\J (jd K d C of p s pre).2.1 X/\br n0 W X/\(jd K d C of p s pre).1<=p+pre.length/\B<=X.heap.size
def VI.own {brk:Bool} (f:∀ s A B,J s A->ZS n0 A B->J s B) (o:W.heap.size+6<=B) (t:n0<=W.heap.size) :
 OwnFrom B (VI K d C of p s W B n0 Bl l J brk):=by
 rintro pre X Y row ⟨g,h,i,b,j,q⟩ a n;have c:∀ k,k<W.heap.size+6->Y.heap[k]?=X.heap[k]?:=λk c=>a.block k eb (λe=>eT ((n k e.symm).1));have:=a.size;refine ⟨g,h.keep (λk _ m=>c k m),f _ _ _ i ⟨a.os,a.tape,a.output,a.size,λk r=>c k eb⟩,⟨a.os.trans b.os,a.tape.trans b.tape,a.output.trans b.output,eT b.size,λk k1 k2=>(c k eb).trans (b.block k k1 k2)⟩,j,eb⟩
def VX (K:a9) (d:Nat) (C:Ck) (of p:Nat) (s:cd) (W:ZU) (B n0 Bl l:Nat) (J:cd->ZU->Prop) (c:Code) (pre:List Sh) (X:ZU):Prop:=c=.exit 0/\VI K d C of p s W B n0 Bl l J ZW pre X
def G8 (h:¬ q<sx.2):ik rec C of (q,sx,ZV) i=(q,sx,ZW):=by unfold ik;simp [h]
def G9 (h:q<sx.2) (a:iC C i=ZY):ik rec C of (q,sx,ZV) i=(q,sx,ZV):=by unfold ik;simp [h,a]
def Ny (h:q<sx.2) (a:iC C i=ZX C'):ik rec C of (q,sx,ZV) i=(q+1,rec C' (bI of i) q sx,ZV):=by unfold ik;simp [h,a]
def kI (s:Nat):(shs s).length=(ae s).length:=by rw [<- Nc s,TZ]
def qC (s:Nat):(shs s).length<=16:=by
 rw [kI];exact TU (Wq _ _) ek
theorem Ha (q:Nat) (h:q<=100000):wrap64 ((q:Int)+1)=((q+1:Nat):Int)/\IntKind.i64.wrap ((q:Int)+1)=((q+1:Nat):Int):=by
 constructor
 . unfold wrap64;omega
 . rw [Us];omega
theorem xF (b:∀ s A B,J s A->ZS n0 A B->J s B) (w:n0<=W.heap.size) (q:W.heap.size<=B) (r:W.heap.size<=D) (j:B≠D)
 (i:Bx X B (Z1 ZV)) (t:J s X) (o:br n0 W X) (hK:X.heap[D]?=ZX (.deferred (ZX []))) (f:a.defers=[{ target:=.collected D,args:=#[] }]) (h5:a.eval (Z0 10)=Z6 (ZX ⟨B,0,ZY⟩)) (hT:a.tmps.size=39) :
 bodyPostM Fence.wide n ZP Tryz.f214 (λe W'=>e=Z3 (Z1 ZW)/\J s W'/\br n0 W W') .ret a (X.setCell ⟨B,0,ZY⟩ (Z1 ZW)):=by
 have d:(X.setCell ⟨B,0,ZY⟩ (Z1 ZW)).heap[D]?=ZX (.deferred (ZX [])):=(Vz _ _ _).same D _ hK rfl;obtain ⟨g,u⟩:=a;simp only at f hT;subst f;refine ⟨ek,.inl ⟨_,_,rfl,Wd d,?_⟩⟩;have k:Bx (X.setCell ⟨B,0,ZY⟩ (Z1 ZW)) B (Z1 ZW):=i.set _;have l:Bx ((X.setCell ⟨B,0,ZY⟩ (Z1 ZW)).putObj D (.deferred ZY)) B (Z1 ZW):=k.keep (UE (λe=>j e));have c:=l.cell;have m:=(TW.1 d).1;have h:g.getD 10 ZZ=Z6 (ZX ⟨B,0,ZY⟩):=h5;refine ⟨Z1 ZW,?_,rfl,b _ _ _ (b _ _ _ t ((TX _ _).setCell (p:=⟨B,0,ZY⟩) (by show n0<=B;omega) _)) (Below.RY (TX _ _) eb m _),(o.setCell (p:=⟨B,0,ZY⟩) (.inr q) _).putObj (.inr r) _⟩;have v:g[10]' eb=Z6 (ZX ⟨B,0,ZY⟩):=by rw [<- h];simp [hT]
 simp only [results,results214];go_simp
theorem tR (K:a9) (n0 Bl l:Nat) (J:cd->ZU->Prop) (t:∀ s A B,J s A->ZS n0 A B->J s B)
 (k8:∀ s A,J s A->A.cell? ⟨Bl,0,ZY⟩=ZX (Z7 Z9 (s.2:Int))/\n0<=A.heap.size/\aK A) (qq:2<=n0)
 (hY:∀ m s C W1,J s W1->dV C->YieldAt Fence.wide m ZP l #[.agg (aV C)] W1 λe W'=>e=Z3 (Z1 ZW)/\J (eW K s C) W'/\br n0 W1 W')
 (d m:Nat) (C:Ck) (of p:Nat) (s:cd) (W:ZU) (hf:dV C) (km:of<65536) (hp:p+16<=100000) (hJ:J s W)
 (kp:∀ (m i:Nat) (C':Ck) (z p':Nat) (s':cd) (W':ZU),iC C i=ZX C'->z<65536->p'<=p+16->J s' W' ->
  CallsIn Fence.wide m ZP 214 #[.agg (aV C'),Z7 Z8 z,Z7 Z9 p',fm Bl,.func (.yield l) #[] #[]] W' λe H=>e=Z3 (Z1 ZW)/\J (yS K d C' z p' s') H/\br n0 W' H) :
 CallsIn Fence.wide m ZP 214 #[.agg (aV C),Z7 Z8 of,Z7 Z9 p,fm Bl,.func (.yield l) #[] #[]] W λe W'=>e=Z3 (Z1 ZW)/\J (iF K d C of p s) W'/\br n0 W W':=by
 obtain ⟨_,R,_⟩:=k8 s W hJ;obtain ⟨n,HN⟩:∃ n:Nat,Hid (5<=n):=⟨5,TV _⟩;refine U6.2 ((U6 (n:=n)).1 ?_);refine VS func214 rfl trivial ?_ rfl;simp only [ntmps214,Uy,Um,UQ,YE,YF,UX,UY,UZ,U0,Uk,UH];have N:bW W ((((((W.alloc (Z4 (aV C) 322)).alloc (Z4 #[Z7 Z8 (of:Int)] 131)).alloc (Z4 #[Z7 Z9 (p:Int)] 3)).alloc (Z4 #[fm Bl] 225)).alloc (Z4 #[.func (.yield l) #[] #[]] 334)).alloc (Z4 #[Z1 ZV] 4)):=
  (((((bA W _).alloc ek _).alloc en _).alloc en _).alloc en _).alloc en _
 have S:VB ((((((W.alloc (Z4 (aV C) 322)).alloc (Z4 #[Z7 Z8 (of:Int)] 131)).alloc (Z4 #[Z7 Z9 (p:Int)] 3)).alloc (Z4 #[fm Bl] 225)).alloc (Z4 #[.func (.yield l) #[] #[]] 334)).alloc (Z4 #[Z1 ZV] 4)) W.heap.size C of p Bl l:=by
  have M:∀ (X:ZU) (o:Obj) (k:Nat),k<X.heap.size->(X.alloc o).heap[k]?=X.heap[k]?:=λX o k h=>VN X o k h;refine ⟨?_,?_,?_,?_,?_,?_⟩
  . exact (aH.new W C).keep (by rw [M _ _ _ en,M _ _ _ en,M _ _ _ en,M _ _ _ en,M _ _ _ ek])
  . have h:=Bx.new (W.alloc (Z4 (aV C) 322)) 131 (Z7 Z8 (of:Int));rw [Ua] at h;exact (((h.alloc _).alloc _).alloc _).alloc _
  . have h:=Bx.new ((W.alloc (Z4 (aV C) 322)).alloc (Z4 #[Z7 Z8 (of:Int)] 131)) 3 (Z7 Z9 (p:Int));simp only [Ua] at h;exact ((h.alloc _).alloc _).alloc _
  . have h:=Bx.new (((W.alloc (Z4 (aV C) 322)).alloc (Z4 #[Z7 Z8 (of:Int)] 131)).alloc (Z4 #[Z7 Z9 (p:Int)] 3)) 225 (fm Bl);simp only [Ua] at h;exact (h.alloc _).alloc _
  . have h:=Bx.new ((((W.alloc (Z4 (aV C) 322)).alloc (Z4 #[Z7 Z8 (of:Int)] 131)).alloc (Z4 #[Z7 Z9 (p:Int)] 3)).alloc (Z4 #[fm Bl] 225)) 334 (.func (.yield l) #[] #[]);simp only [Ua] at h;exact h.alloc _
  . have h:=Bx.new (((((W.alloc (Z4 (aV C) 322)).alloc (Z4 #[Z7 Z8 (of:Int)] 131)).alloc (Z4 #[Z7 Z9 (p:Int)] 3)).alloc (Z4 #[fm Bl] 225)).alloc (Z4 #[.func (.yield l) #[] #[]] 334)) 4 (Z1 ZV);simp only [Ua] at h;exact h
 have ka:((((((W.alloc (Z4 (aV C) 322)).alloc (Z4 #[Z7 Z8 (of:Int)] 131)).alloc (Z4 #[Z7 Z9 (p:Int)] 3)).alloc (Z4 #[fm Bl] 225)).alloc (Z4 #[.func (.yield l) #[] #[]] 334)).alloc (Z4 #[Z1 ZV] 4)).heap.size=W.heap.size+6:=ek
 unfold fm at N S ka ⊢;obtain ⟨W6,ke⟩:=nM (((((((W.alloc (Z4 (aV C) 322)).alloc (Z4 #[Z7 Z8 (of:Int)] 131)).alloc (Z4 #[Z7 Z9 (p:Int)] 3)).alloc (Z4 #[.func (.func 210) #[] #[Z6 (ZX ⟨Bl,0,ZY⟩)]] 225)).alloc (Z4 #[.func (.yield l) #[] #[]] 334)).alloc (Z4 #[Z1 ZV] 4)));rw [ke] at N S ka;obtain ⟨fn,tmps,assign,body,hy,q1⟩:=hY (n-1) s C W6 (t s W W6 hJ (N.mono R)) hf;have c9:=S.yld.cell;have r:=al S;have HB:=al N;have HS:=al ka;clear S N ka;gi_wp2_with (first
  | (rw [ke];refine kH rfl (Z0 5) rfl W.heap.size C rfl r.out.ck ?_)
  | (refine kH rfl (Z0 5) rfl W.heap.size C rfl r.out.ck ?_))
 refine ⟨λh=>Bf,q1.mono ?_⟩;rintro e f ⟨rfl,q0,Z⟩;have hA:br n0 W f:=(br.RN HB.out).trans Z;have ks:VB f W.heap.size C of p Bl l:=r.out.keep (λk k1 k2=>Z.block k eb (eT HS.out));have qs:W.heap.size+6<=f.heap.size:=by have:=Z.size;have:=HS.out;omega
 have q7:=k8 _ _ q0;have c6:=ks.set.cell;clear hy q1 ke r HB HS Z c9;have r:=al ks;clear ks;gi_wp2;refine bX (dj of f) ?_;rintro e w' ⟨rfl,rfl⟩;have q2:aK (f.alloc (Z4 #[Z7 Z8 (of:Int)] 131)):=q7.2.2.mono (B:=f.heap.size) eb (bA _ _);have q4:(f.alloc (Z4 #[Z7 Z8 (of:Int)] 131)).cell? ⟨f.heap.size,0,ZY⟩=ZX (Z7 Z8 (of:Int)):=(Bx.new f 131 (Z7 Z8 (of:Int))).cell;have h0:VI K d C of p s W (f.alloc (Z4 #[Z7 Z8 (of:Int)] 131)).heap.size n0 Bl l J ZV [] (f.alloc (Z4 #[Z7 Z8 (of:Int)] 131)):=
  ⟨rfl,r.out.keep (λk k1 k2=>VN _ _ _ eb),t _ _ _ q0 ((TX _ _).alloc q7.2.1 _),hA.trans (br.RN (bA _ _)),TV _,TV _⟩
 have q9:(f.alloc (Z4 #[Z7 Z8 (of:Int)] 131)).heap.size=f.heap.size+1:=ek
 obtain ⟨V,q3⟩:=nM (f.alloc (Z4 #[Z7 Z8 (of:Int)] 131));have H0:=al h0;have HC:=al q4;have HT:=al q2;have j:=al q9;clear h0 q4 q2 q9;gi_wp2;rw [q3] at H0 HC HT j;clear q3;refine VT rfl (eT HN.out) (gf:=156) (lb:=#[Z6 (ZX ⟨f.heap.size,0,ZY⟩)]) rfl trivial (UR func156 ei rfl)
  (eH (n-1) f.heap.size of km V (eT j.out) HC.out (eT j.out) HT.out) (λh k=>qX h k) (qY (eT j.out)) (TX _ _) (λ_=>rfl)
  (VI K d C of p s W V.heap.size n0 Bl l J ZV) (VX K d C of p s W V.heap.size n0 Bl l J)
  (VI.own t (eT j.out) R) (λc=>by
   rintro pre X Y row ⟨w,b⟩ hg hr;exact ⟨w,VI.own t (eT j.out) R pre X Y row b hg hr⟩) H0.out
  (λx=>{ tmps:=#[.agg (aV C),Z7 Z8 (of:Int),Z7 Z9 (p:Int),.func (.func 210) #[] #[Z6 (ZX ⟨Bl,0,ZY⟩)],.func (.yield l) #[] #[],Z6 (ZX ⟨W.heap.size,0,ZY⟩),Z6 (ZX ⟨W.heap.size+1,0,ZY⟩),Z6 (ZX ⟨W.heap.size+1+1,0,ZY⟩),Z6 (ZX ⟨W.heap.size+1+1+1,0,ZY⟩),Z6 (ZX ⟨W.heap.size+1+1+1+1,0,ZY⟩),Z6 (ZX ⟨W.heap.size+1+1+1+1+1,0,ZY⟩),Z7 Z9 (x.1:Int),ZZ,.func (.yield l) #[] #[],.agg (aV C),Z1 ZW,Z1 ZV,Z7 Z8 (of:Int),.func (.func 156) #[] #[Z6 (ZX ⟨f.heap.size,0,ZY⟩)],Z7 Z9 (x.1:Int),ZZ,ZZ,ZZ,ZZ,ZZ,ZZ,ZZ,ZZ,ZZ,ZZ,ZZ,ZZ,ZZ,ZZ,ZZ,ZZ,ZZ,ZZ,ZZ],defers:=[] }) ?assign ?body ?done ?stop
 case assign=>
  intro l2 x X Kk hK;unfold qW;gi_wp2;exact hK
 case body=>
  rintro l2 pre x X ⟨w,b,g,u,y,E⟩ kj;obtain ⟨q,sx,qa⟩:∃ q sx,jd K d C of p s pre=(q,sx,ZV):=⟨_,_,by rw [<- w]⟩;have kr:=Ec K d C of p s pre x;rw [qa] at b g y kr;simp only at b g y;have kk:(ae of).length<=16:=by rw [<- kI of];exact qC of
  have hq:q<=p+16:=eb
  have qk:q<=100000:=eb
  have hl:=k8 _ _ g;have cl:=hl.1;have c7:=b.pas.cell;have f7:=b.pas.frozen;have c8:=b.SA.cell;unfold fm at c8;have r:=al b;have HJ:=al g;have HA:=al u;have kb:=al kr;have k6:=x.2;have U:=al E;clear b g u qa w kr hl E kj;gi_wp2;refine dS (xE q sx.2 Bl X cl) ?_;rintro e w' ⟨rfl,rfl⟩;by_cases Q:q<sx.2
  . have kh:decide (q<sx.2)=ZW:=decide_eq_true Q;rw [kh];have hz:=zeroCk;have kf:=r.out.ck;gi_wp2_with (first
     | (refine kH rfl (Z0 5) rfl W.heap.size C rfl kf ?_)
     | (refine jH rfl (Z0 12) (Z0 24) rfl w'.heap.size C dq rfl rfl (aH.new w' dq) ?_))
    have kg:aH ((w'.alloc (Z4 (aV dq) 322)).setRow w'.heap.size (aV C)) w'.heap.size C:=(aH.new w' dq).setRow C;have O:bW w' ((w'.alloc (Z4 (aV dq) 322)).setRow w'.heap.size (aV C)):=(bA _ _).grown (aP _ _ _) ek (λk e=>D2);refine dS (Bz w'.heap.size x.1 C _ kg hf k6) ?_;rintro e w2 (⟨q8,rfl,qn⟩|⟨C',P,rfl,kc,q5⟩)
    ·
     subst qn;have HL:=al q8;have F:=al O;clear q8 O kg hz kf;gi_wp2;have ki:=j.out;have E:=U.out;have qh:=r.out.keep (λk k1 k2=>F.out.block k eb);refine ⟨(br.RN F.out).keeps (T3 _),Fh.RN eb F.out,?_⟩;unfold VI;rw [kb.out,G9 Q HL.out];exact ⟨rfl,qh,t _ _ _ HJ.out (F.out.mono eb),HA.out.trans (br.RN F.out),by rw [T5];exact Yr y,eT F.out.size⟩
    ·
     have k9:bW w' w2:=O.grown q5 O.size (λk e=>D2);have qm:w'.heap.size<w2.heap.size:=kc.lt;have kx:=al P;have qc:=al k9;have qd:=al kc;have qj:W.heap.size+6<=w'.heap.size:=(by have:=j.out;have:=U.out;omega);have qb:VB w2 W.heap.size C of q Bl l:=r.out.keep (λk k1 k2=>k9.block k eb);have q6:J sx w2:=t _ _ _ HJ.out (k9.mono eb);have L:=al qb;have qe:=al q6;clear P k9 kc q5 O kg hz kf qb q6;gi_wp2;have k5:∀ m,CallsIn Fence.wide m ZP 214 #[.agg (aV C'),Z7 Z8 (bI of x.1:Nat),Z7 Z9 (q:Int),fm Bl,.func (.yield l) #[] #[]] w2.drew λe w''=>e=Z3 (Z1 ZW)/\(J (yS K d C' (bI of x.1) q sx) w''/\br n0 w2.drew w''):=
      λm=>kp m x.1 C' (bI of x.1) q sx w2.drew kx.out (pP _ _ km) eb (t _ _ _ qe.out (TX _ _).drew)
     refine Eb w'.heap.size (W.heap.size+1) (W.heap.size+1+1) (W.heap.size+1+1+1) (W.heap.size+1+1+1+1) x.1 of q C' (fm Bl) (.func (.yield l) #[] #[]) (λw''=>J (yS K d C' (bI of x.1) q sx) w''/\br n0 w2.drew w'') ei rfl k6 km rfl rfl rfl rfl rfl rfl
      (show aH w2.drew _ _ from qd.out) L.out.set.cell L.out.pas.cell L.out.SA.cell L.out.yld.cell k5 ?_
     clear k5;rintro a' T hk f36 ⟨ky,G⟩;obtain ⟨ls,P,rfl⟩:=hk.split ec ek;clear hk;obtain ⟨u0,u1,u2,u3,u4,u5,u6,u7,u8,rfl⟩:=Rz P;clear P;simp only [Xu,VQ,YG,X1,UH,Uk] at f36 ⊢;obtain rfl:u8=Z1 ZV:=f36;have h9:br n0 w2 T:=⟨G.os,G.tape,G.output,G.size,G.block⟩;have hv3:VB T W.heap.size C of q Bl l:=L.out.keep (λk k1 k2=>h9.block k eb eb);have c7:=hv3.pas.cell;have f7:=hv3.pas.frozen;obtain ⟨qv,qo⟩:=Ha q qk;have qg:=al hv3;have qf:=al ky;have kv:=al h9;clear hv3 ky h9 G;gi_wp2;have ki:=j.out;have E:=U.out;have kz:J (yS K d C' (bI of x.1) q sx) (T.setCell ⟨W.heap.size+1+1,0,ZY⟩ (Z7 Z9 ((q+1:Nat):Int))):=t _ _ _ qf.out ((TX _ _).setCell (p:=⟨W.heap.size+1+1,0,ZY⟩) (by show n0<=W.heap.size+1+1;omega) _);have hh:br n0 w' T:=(br.RN qc.out).trans kv.out;have qi:KeepsFrom V.heap.size w' (T.setCell ⟨W.heap.size+1+1,0,ZY⟩ (Z7 Z9 ((q+1:Nat):Int))):=(hh.keeps eb).trans ((Vz _ _ _).from _);refine ⟨qi,λ_=>(k8 _ _ kz).2.2,?_⟩;unfold VI;rw [kb.out,Ny Q kx.out];refine ⟨rfl,qg.out.passed (q+1),kz,(HA.out.trans hh).setCell (p:=⟨W.heap.size+1+1,0,ZY⟩) (.inr (TU (YH _) (YH _))) _,by rw [T5];exact Nat.succ_le_succ y,?_⟩;have:=kv.out.size;simp only [World.setCell,YI];omega
  . have kh:decide (q<sx.2)=ZV:=decide_eq_false Q;rw [kh];gi_wp2;refine ⟨XL _ _,rfl,?_⟩;unfold VI;rw [kb.out,G8 Q];exact ⟨rfl,r.out,HJ.out,HA.out,by rw [T5];exact Yr y,U.out⟩
 case done=>
  rintro D xs X hD qp ⟨w,b,g,u,y,E⟩ hK;have I:=G7 (K:=K) (d:=d) (C:=C) (p:=p) (s:=s) qp;rw [I] at g;have hb:=b.res.cell;have f10:=b.res.frozen;have ki:=j.out;have v:=aE b g u;clear b g u;gi_wp2;clear I;exact xF (a:=_) t R eb eb eb v.out.1.res v.out.2.1 v.out.2.2 hK ek Zs ek
 case stop=>
  rintro D c pre X hD ko ⟨rfl,w,b,g,u,y,E⟩ hK;have I:=Ed (K:=K) (d:=d) (C:=C) (p:=p) (s:=s) ko w;rw [I] at g;have hb:=b.res.cell;have f10:=b.res.frozen;have ki:=j.out;have v:=aE b g u;clear b g u;gi_wp2;clear I;exact xF (a:=_) t R eb eb eb v.out.1.res v.out.2.1 v.out.2.2 hK ek Zs ek
def Hb (a:dV C) (h:iC C i=ZX C'):dV C':=by
 obtain ⟨r,rfl,b,c,_⟩:=gv h;have:=a.So;exact ⟨nA a.byt,by show C.told<=C.count-1;omega,by show C.count-1<=8;omega⟩
def KO (K:a9) (n0 Bl l:Nat) (J:cd->ZU->Prop) (j:∀ s A B,J s A->ZS n0 A B->J s B)
 (k:∀ s A,J s A->A.cell? ⟨Bl,0,ZY⟩=ZX (Z7 Z9 (s.2:Int))/\n0<=A.heap.size/\aK A) (n:2<=n0)
 (o:∀ m s C f,J s f->dV C->YieldAt Fence.wide m ZP l #[.agg (aV C)] f λe W'=>e=Z3 (Z1 ZW)/\J (eW K s C) W'/\br n0 f W') :
 ∀ (d m:Nat) (C:Ck) (of p:Nat) (s:cd) (W:ZU),dV C->C.count<=C.told+d->of<65536->p+16*(d+1)<=100000->J s W ->
  CallsIn Fence.wide m ZP 214 #[.agg (aV C),Z7 Z8 of,Z7 Z9 p,fm Bl,.func (.yield l) #[] #[]] W λe W'=>e=Z3 (Z1 ZW)/\J (iF K d C of p s) W'/\br n0 W W':=by
 intro d;induction d with
 | zero=>
  intro m C of p s W b z g D h;refine tR K n0 Bl l J j k n o 0 m C of p s W b g eb h ?_;intro m i C' a q t W' c;obtain ⟨r,_,u,v,_⟩:=gv c;omega
 | succ d ih=>
  intro m C of p s W b z g D h;refine tR K n0 Bl l J j k n o (d+1) m C of p s W b g eb h ?_;intro m i C' a q t W' c ho E x;have y:=Hb b c;obtain ⟨r,w,u,v,_⟩:=gv c;exact ih m C' a q t W' y (by rw [w];show C.count-1<=C.told+d;omega) ho eb x
end
theorem xG {B':Nat} (h:aH W B C) (a:Bx W B' v):B≠B':=by
 rintro rfl;obtain ⟨t,a⟩:=a;have e:=h.heap.symm.trans a;simp only [UC,U1] at e;have:=congrArg Array.size e.1;rw [bV] at this;simp at this
noncomputable def RF1:Array Oper:=((Tryz.f202.body.bind (Jd · 1))).getD #[]
def RE:List (Op×Option Nat×a9):=[(.load 322 (Z0 2),ZX 11,[]),(.load 131 (Z0 3),ZX 12,[]),(.call { callee:=.value (.func 208),args:=#[Z0 12],argTypes:=#[131] },ZX 13,[1]),
 (.alloc 322,ZX 5,[]),(.alloc 3,ZX 6,[]),(.store 322 (Z0 5) (Z0 11),ZY,[3,0,2,0,3,4]),(.store 3 (Z0 6) (Z0 13),ZY,[4,2,5,0,1,2,3,4,5])]
def Hc:aL RF1 5 14 RE:=bj ei ei
def Nz (n t:Nat) (w:ZU) (b:Nat):Prop:=n<=b/\∃ c,w.heap[b]?=ZX (Z4 c t (0,0))
def ix {t':Nat} {c:Array ZT} (h:Nz n t' (w.alloc (Z4 c t)) b):Nz n t' w b\/(b=w.heap.size/\t'=t):=by
 obtain ⟨f,d,a⟩:=h;by_cases e:b<w.heap.size
 . exact .inl ⟨f,d,(Ut _ _ _ e).symm.trans a⟩
 . have g:=(TW.1 a).1;rw [Ua] at g;obtain rfl:b=w.heap.size:=eb;rw [T9] at a;cases a;exact .inr ⟨rfl,rfl⟩
def RF (w:ZU) (D:Nat->Bool) (w':ZU):Prop:=bW w w'/\(∀ t b b',Nz w.heap.size t w' b->Nz w.heap.size t w' b'->b=b')/\(D 3=ZV->∀ b,¬ Nz w.heap.size 322 w' b)/\(D 4=ZV->∀ b,¬ Nz w.heap.size 3 w' b)
def zH {D:Nat->Bool} (h:RF w D w') (i:Nat) (a:3≠i) (b:4≠i):RF w (du D i) w':=⟨h.1,h.2.1,by rw [dm a];exact h.2.2.1,by rw [dm b];exact h.2.2.2⟩
def Fw {D:Nat->Bool} (h:RF w D w') (i:Nat) (d:3≠i) (f:4≠i) (g:bW w w'') (a:∀ t b,Nz w.heap.size t w'' b->Nz w.heap.size t w' b):RF w (du D i) w'':=
 ⟨g,λt b c q j=>h.2.1 t b c (a t b q) (a t c j),λe b q=>h.2.2.1 (by rwa [dm d] at e) b (a _ b q),λe b q=>h.2.2.2 (by rwa [dm f] at e) b (a _ b q)⟩
def NA (w:ZU) (kept:Nat) (C:Ck) (i:Nat) (u:ZT) (w':ZU):Prop:=match i with
 | 0=>u=.agg (aV C)
 | 1=>u=Z7 Z8 (kept:Int)
 | 2=>u=Z7 Z9 ((ae kept).length:Nat)
 | 3=>∃ b,u=Z6 (ZX ⟨b,0,ZY⟩)/\w.heap.size<=b/\∃ Z,aH w' b Z
 | 4=>∃ b,u=Z6 (ZX ⟨b,0,ZY⟩)/\w.heap.size<=b/\∃ z,w'.heap[b]?=ZX (Z4 #[z] 3 (0,0))
 | 5=>∃ b,w.heap.size<=b/\aH w' b C
 | 6=>∃ b,w.heap.size<=b/\w'.heap[b]?=ZX (Z4 #[Z7 Z9 ((ae kept).length:Nat)] 3 (0,0))
 | _=>True
def BB (a:∀ b,w.heap.size<=b->b<w'.heap.size->w''.heap[b]?=w'.heap[b]?):∀ j u,NA w kept C j u w'->NA w kept C j u w'':=λj u h=>by
 match j,h with
 | 0,h|1,h|2,h=>exact h
 | 3,⟨b,h1,h2,Z,h3⟩=>exact ⟨b,h1,h2,Z,h3.keep (a b h2 h3.lt)⟩
 | 4,⟨b,h1,h2,z,h3⟩=>exact ⟨b,h1,h2,z,(a b h2 (TW.1 h3).1).trans h3⟩
 | 5,⟨b,h2,h3⟩=>exact ⟨b,h2,h3.keep (a b h2 h3.lt)⟩
 | 6,⟨b,h2,h3⟩=>exact ⟨b,h2,(a b h2 (TW.1 h3).1).trans h3⟩
 | _+7,_=>trivial
theorem Hd (Y P kept:Nat) (C:Ck) (hR:RF1=ops) (sz:a.tmps.size=35) (he:kept<65536)
 (i2:a.eval (Z0 2)=Z6 (ZX ⟨Y,0,ZY⟩)) (i3:a.eval (Z0 3)=Z6 (ZX ⟨P,0,ZY⟩)) (hh:aH w Y C) (ha:Bx w P (Z7 Z8 (kept:Int)))
 (h:∀ g w' R S,D6 5 14 a g->g.eval (Z0 5)=Z6 (ZX ⟨R,0,ZY⟩)->g.eval (Z0 6)=Z6 (ZX ⟨S,0,ZY⟩)->w.heap.size<=R->w.heap.size<=S->aH w' R C->Bx w' S (Z7 Z9 ((ae kept).length:Nat))->bW w w'->Q .normal g w') :
 (Code.region 1 ops ZW).wpIn Fence.wide n ZP Q a w:=by
 subst hR;refine bu ei Hc a w eb (NA w kept C) (RF w) ?_ ?_ ?_
 . have X:∀ t b,¬ Nz w.heap.size t w.drew b:=λt b ⟨N,c,B⟩=>by
    have:b<w.heap.size:=(TW.1 B).1;omega
   exact ⟨(TX _ w).drew,λt b _ q=>absurd q (X t b),λ_ b=>X _ b,λ_ b=>X _ b⟩
 . intro j s;match j,s with
   | 0,_=>
    intro o g w' D K ho y m r G x d i;exact bC (w':=w') (v:=.agg (aV C)) (by (conv at ho=>rhs;whnf);simp [execOp,ho,(m.slot 2 eb).trans i2,mP (hh.mono d.1 hh.lt),Result.andThen]) ej y ⟨zH d _ ec ec,rfl,kq⟩
   | 1,_=>
    intro o g w' D K ho y m r G x d i;have cs:=(ha.keep (d.1.block P ha.lt)).cell;exact bC (v:=Z7 Z8 (kept:Int)) (by (conv at ho=>rhs;whnf);simp only [execOp,ho,(m.slot 3 eb).trans i3];go_simp) ej y ⟨zH d _ ec ec,rfl,kq⟩
   | 2,_=>
    intro o g w' D K ho y m r G x d i;have s0:g.eval (Z0 12)=Z7 Z8 (kept:Int):=i 1 (x 1 ec);refine oA (f:=208) (args:=#[Z7 Z8 (kept:Int)]) (w1:=w') (by have sf:g.eval (.func 208)=.func (.func 208) #[] #[]:=rfl;generalize g.eval=ev at s0 sf ⊢;(conv at ho=>rhs;whnf);simp [execOp,ho,RE,resolve,invoke,s0,sf,go_sem]) ej y (AM kept he w') ?_;rintro e w'' ⟨rfl,rfl⟩;exact ⟨_,rfl,zH d _ ec ec,rfl,kq⟩
   | 3,_=>
    intro o g w' D K ho y m r G x d i;have A:=zeroCk w';have W:=(TX _ w').alloc lR (Z4 (aV dq) 322);refine bC (v:=Z6 (ZX ⟨w'.heap.size,0,ZY⟩)) (w':=w'.alloc (Z4 (aV dq) 322)) Ax ej y ⟨⟨d.1.alloc d.1.size _,λt b E q F=>?_,nofun,λe b q=>?_⟩,⟨_,rfl,d.1.size,dq,aH.new w' dq⟩,λj u _=>BB (λb _ V=>W.block b V) j u⟩
    . rcases ix q with q|⟨rfl,rfl⟩<;>rcases ix F with F|⟨rfl,e⟩
      . exact d.2.1 t b E q F
      . subst e;exact absurd q (d.2.2.1 r b)
      . exact absurd F (d.2.2.1 r E)
      . rfl
    . rcases ix q with q|⟨_,e⟩
      . exact d.2.2.2 (by rwa [dm ec] at e) b q
      . cases e
   | 4,_=>
    intro o g w' D K ho y m r G x d i;have W:=(TX _ w').alloc lR (Z4 #[Z7 Z9 0] 3);refine bC (v:=Z6 (ZX ⟨w'.heap.size,0,ZY⟩)) (w':=w'.alloc (Z4 #[Z7 Z9 0] 3)) Ax ej y ⟨⟨d.1.alloc d.1.size _,λt b E q F=>?_,λe b q=>?_,nofun⟩,⟨_,rfl,d.1.size,_,T9 _ _⟩,λj u _=>BB (λb _ V=>W.block b V) j u⟩
    . rcases ix q with q|⟨rfl,rfl⟩<;>rcases ix F with F|⟨rfl,e⟩
      . exact d.2.1 t b E q F
      . subst e;exact absurd q (d.2.2.2 r b)
      . exact absurd F (d.2.2.2 r E)
      . rfl
    . rcases ix q with q|⟨_,e⟩
      . exact d.2.2.1 (by rwa [dm ec] at e) b q
      . cases e
   | 5,_=>
    intro o g w' D K ho y m r G x d i;obtain ⟨b5,T,L,Z,I⟩:NA w kept C 3 (g.eval (Z0 5)) w':=i 3 (x 3 ec);have H:aH (w'.setRow b5 (aV C)) b5 C:=I.setRow C;have J:∀ k,k≠b5->k<w'.heap.size->(w'.setRow b5 (aV C)).heap[k]?=w'.heap[k]?:=λk m hl=>(aP w' b5 (aV C)).block k hl (λe=>m Zq);have hm:(w'.setRow b5 (aV C)).heap.size=w'.heap.size:=B2;refine oz (w':=w'.setRow b5 (aV C)) (by (conv at ho=>rhs;whnf);simp [execOp,ho,T,show g.eval (Z0 11)=.agg (aV C) from i 0 (x 0 ec),nL C I,Result.andThen]) ej ⟨Fw d _ ec ec (d.1.grown (aP w' b5 (aV C)) d.1.size (λk e=>by cases e;exact L)) λt b ⟨N,c,B⟩=>?_,⟨b5,L,H⟩,λj u s q=>?_⟩
    . by_cases e:b=b5
      . subst e;rw [H.heap] at B;cases B;exact ⟨N,_,I.heap⟩
      . exact ⟨N,c,(J b e (by rw [<- hm];exact (TW.1 B).1)).symm.trans B⟩
    . match j,s,q with
      | 0,_,q|1,_,q|2,_,q=>exact q
      | 3,_,⟨b,h1,h2,Z',h3⟩=>
       obtain rfl:b=b5:=d.2.1 _ b b5 ⟨h2,_,h3.heap⟩ ⟨L,_,I.heap⟩;exact ⟨b,h1,h2,C,H⟩
      | 4,_,⟨b,h1,h2,z,h3⟩=>exact ⟨b,h1,h2,z,(J b (λe=>by subst e;rw [I.heap] at h3;cases h3) (TW.1 h3).1).trans h3⟩
      | 5,s,_=>rw [r] at s;cases s
      | 6,s,_=>exact nomatch r.symm.trans ((G 6 s).2 5 ec)
      | _+7,_,_=>trivial
   | 6,_=>
    intro o g w' D K ho y m r G x d i;obtain ⟨b6,U,M,z,A⟩:NA w kept C 4 (g.eval (Z0 6)) w':=i 4 (x 4 ec);have cc:w'.cell? ⟨b6,0,ZY⟩=ZX z:=(by simp [World.cell?,A]);have ff:w'.frozen? ⟨b6,0,ZY⟩=ZV:=(by simp [World.frozen?,A]);have H:(w'.setCell ⟨b6,0,ZY⟩ (Z7 Z9 ((ae kept).length:Nat))).heap[b6]?=ZX (Z4 #[Z7 Z9 ((ae kept).length:Nat)] 3 (0,0)):=(by simp [World.setCell,Vv,A]);have J:∀ k,k≠b6->(w'.setCell ⟨b6,0,ZY⟩ (Z7 Z9 ((ae kept).length:Nat))).heap[k]?=w'.heap[k]?:=λk m=>T7 _ _ _ _ m;refine oz (w':=w'.setCell ⟨b6,0,ZY⟩ (Z7 Z9 ((ae kept).length:Nat))) (by (conv at ho=>rhs;whnf);simp only [execOp,ho,U,show g.eval (Z0 13)=Z7 Z9 ((ae kept).length:Nat) from i 2 (x 2 ec)];go_simp) ej ⟨Fw d _ ec ec (d.1.setCell (p:=⟨b6,0,ZY⟩) M _) λt b ⟨N,c,B⟩=>?_,⟨b6,M,H⟩,λj u s q=>?_⟩
    . by_cases e:b=b6
      . subst e;rw [H] at B;cases B;exact ⟨N,_,A⟩
      . exact ⟨N,c,(J b e).symm.trans B⟩
    . match j,s,q with
      | 0,_,q|1,_,q|2,_,q=>exact q
      | 3,_,⟨b,h1,h2,Z',h3⟩=>exact ⟨b,h1,h2,Z',h3.keep (J b (λe=>by subst e;have O:=h3.heap;rw [A] at O;cases O))⟩
      | 4,_,⟨b,h1,h2,z',h3⟩=>
       obtain rfl:b=b6:=d.2.1 _ b b6 ⟨h2,_,h3⟩ ⟨M,_,A⟩;exact ⟨b,h1,h2,_,H⟩
      | 5,_,⟨b,h2,h3⟩=>exact ⟨b,h2,h3.keep (J b (λe=>by subst e;have O:=h3.heap;rw [A] at O;cases O))⟩
      | 6,s,_=>rw [r] at s;cases s
      | _+7,_,_=>trivial
 . rintro g w' m _ ⟨D,hi,d⟩ i;obtain ⟨b5,T,L,Z,I⟩:NA w kept C 3 (g.eval (Z0 5)) w':=i 3 ec;obtain ⟨b6,U,M,z,A⟩:NA w kept C 4 (g.eval (Z0 6)) w':=i 4 ec;obtain ⟨b,l,hC⟩:NA w kept C 5 ZZ w':=i 5 ec;obtain ⟨E,l',hM⟩:NA w kept C 6 ZZ w':=i 6 ec;obtain rfl:b=b5:=d.2.1 _ b b5 ⟨l,_,hC.heap⟩ ⟨L,_,I.heap⟩;obtain rfl:E=b6:=d.2.1 _ E b6 ⟨l',_,hM⟩ ⟨M,_,A⟩;exact h g w' b E ⟨m.size,m.defers,m.slot⟩ T U L M hC ⟨_,hM⟩ d.1
noncomputable def RG:Array Oper:=((Tryz.f202.body.bind (Jd · 11))).getD #[]
def RH:List (Op×Option Nat×a9):=[(.load 322 (Z0 8),ZX 32,[]),(.load 3 (Z0 9),ZX 33,[]),(.store 322 (Z0 5) (Z0 32),ZY,[0,0]),(.store 3 (Z0 6) (Z0 33),ZY,[1,2,0,1,2])]
def Ee:aL RG 32 34 RH:=bj ei ei
theorem Ef (p q A y n:Nat) (C C':Ck) (v:ZT) (P:RG=ops) (sz:a.tmps.size=35)
 (U:a.eval (Z0 5)=Z6 (ZX ⟨p,0,ZY⟩)) (V:a.eval (Z0 6)=Z6 (ZX ⟨q,0,ZY⟩)) (X:a.eval (Z0 8)=Z6 (ZX ⟨A,0,ZY⟩)) (Y:a.eval (Z0 9)=Z6 (ZX ⟨y,0,ZY⟩))
 (O:aH w A C) (z:Bx w y (Z7 Z9 (n:Int))) (E:aH w p C') (F:Bx w q v)
 (h:∀ g,D6 32 34 a g->Q .normal g ((w.drew.setRow p (aV C)).setCell ⟨q,0,ZY⟩ (Z7 Z9 (n:Int)))) :
 (Code.region 11 ops ZW).wpIn (Fence.wide.inRound l) m ZP Q a w:=by
 subst P;obtain ⟨W,J⟩:=nM (w.drew.setRow p (aV C));have I:∀ k,k≠p->k<w.heap.size->W.heap[k]?=w.heap[k]?:=λk f R=>by rw [<- J];exact (aP w.drew p (aV C)).block k R (λe=>f Zq)
 have K:=F.keep (I q (xG E F).symm F.lt);have Z:=K.cell;have ff:=K.frozen;have M:∀ b:Bool,(if b=ZW then W else w.drew).cell? ⟨y,0,ZY⟩=ZX (Z7 Z9 (n:Int)):=λb=>by
  cases b
  . exact z.cell
  . exact (z.keep (I y (xG E z).symm z.lt)).cell
 have L:=nL C (show aH w.drew p C' from E);rw [J] at h L;refine bu ei Ee a w eb (λj u _=>u=([.agg (aV C),Z7 Z9 (n:Int),ZZ,ZZ]:List ZT).getD j ZZ) (Da 2 3 w W (W.setCell ⟨q,0,ZY⟩ (Z7 Z9 (n:Int)))) rfl ?_ ?_
 . intro j S;match j,S with
   | 0,_=>
    intro o g w' D G ho t f i s r d x;have N:D 2=ZV:=YJ.2 λe=>nomatch i.symm.trans ((s 2 e).2 0 ec);obtain rfl:=iP d N;exact ak (w':=w.drew) (by (conv at ho=>rhs;whnf);simp [execOp,ho,(f.slot 8 eb).trans X,mP (show aH w.drew A C from O),Result.andThen]) ej t ⟨cU d _ ec ec,rfl,kq⟩
   | 1,_=>
    intro o g w' D G ho t f i s r d x;have B:D 3=ZV:=YJ.2 λe=>nomatch i.symm.trans ((s 3 e).2 1 ec);have cs:=M (D 2);have T:w'=if D 2=ZW then W else w.drew:=(by unfold Da at d;rw [B] at d;exact d);rw [<- T] at cs;exact ak (v:=Z7 Z9 (n:Int)) (by (conv at ho=>rhs;whnf);simp only [execOp,ho,(f.slot 9 eb).trans Y];go_simp) ej t ⟨cU d _ ec ec,rfl,kq⟩
   | 2,_=>
    intro o g w' D G ho t f i s r d x;have B:D 3=ZV:=YJ.2 λe=>nomatch i.symm.trans ((s 3 e).2 2 ec);obtain rfl:=iP d i;exact jD (w':=W) (by (conv at ho=>rhs;whnf);simp [execOp,ho,(f.slot 5 eb).trans U,show g.eval (Z0 32)=.agg (aV C) from x 0 (r 0 ec),L,Result.andThen]) ej ⟨by unfold Da;rw [dm (j:=3) ec,B];rfl,rfl,kq⟩
   | 3,_=>
    intro o g w' D G ho t f i s r d x;unfold Da at d;rw [i,r 2 ec] at d;obtain rfl:w'=W:=d;exact jD (w':=w'.setCell ⟨q,0,ZY⟩ (Z7 Z9 (n:Int))) (by (conv at ho=>rhs;whnf);simp only [execOp,ho,(f.slot 6 eb).trans V,show g.eval (Z0 33)=Z7 Z9 (n:Int) from x 1 (r 1 ec)];go_simp) ej ⟨by unfold Da;rw [dm (j:=2) ec,r 2 ec];rfl,rfl,kq⟩
 . rintro g w' f _ ⟨D,H,d⟩ _;unfold Da at d;rw [H 2 ec,H 3 ec] at d;obtain rfl:w'=W.setCell ⟨q,0,ZY⟩ (Z7 Z9 (n:Int)):=d;exact h g ⟨f.size,f.defers,f.slot⟩
section
attribute [local go_sem] Oper.semAt_some
theorem zI (C:Ck) (kept Bl:Nat) (w:ZU) :
 ZR ZP 211 #[.agg (aV C),Z7 Z8 kept,fm Bl] w λe w'=>e=Z3 (.func (.func 213) #[] #[Z6 (ZX ⟨w.heap.size,0,ZY⟩),Z6 (ZX ⟨w.heap.size+1,0,ZY⟩),Z6 (ZX ⟨w.heap.size+1+1,0,ZY⟩)]) /\
  aH w' w.heap.size C/\Bx w' (w.heap.size+1) (Z7 Z8 (kept:Int))/\Bx w' (w.heap.size+1+1) (fm Bl)/\bW w w'/\w'.heap.size=w.heap.size+3:=by
 unfold fm;go_enter func211,ntmps211;go_wp2;go_ret;refine ⟨rfl,?_,?_,?_,?_,ek⟩
 . exact (aH.new w C).keep (by rw [VN _ _ _ en,VN _ _ _ ek])
 . have h:=Bx.new (w.alloc (Z4 (aV C) 322)) 131 (Z7 Z8 (kept:Int));rw [Ua] at h;exact h.alloc _
 . have h:=Bx.new ((w.alloc (Z4 (aV C) 322)).alloc (Z4 #[Z7 Z8 (kept:Int)] 131)) 225 (.func (.func 210) #[] #[Z6 (ZX ⟨Bl,0,ZY⟩)]);simp only [Ua] at h;exact h
 . exact ((bA w _).alloc ek _).alloc en _
theorem zJ (K:a9) (n0 Bl l:Nat) (J:cd->ZU->Prop) (i:∀ s A B,J s A->ZS n0 A B->J s B)
 (j:∀ s A,J s A->A.cell? ⟨Bl,0,ZY⟩=ZX (Z7 Z9 (s.2:Int))/\n0<=A.heap.size/\aK A) (o:2<=n0)
 (q:∀ m s C b,J s b->dV C->YieldAt Fence.wide m ZP l #[.agg (aV C)] b λe W'=>e=Z3 (Z1 ZW)/\J (eW K s C) W'/\br n0 b W')
 (n a Bs c:Nat) (C:Ck) (kept:Nat) (s:cd) (W:ZU) (r:aH W a C) (u:Bx W Bs (Z7 Z8 (kept:Int))) (k:Bx W c (fm Bl)) (d:dV C) (t:kept<65536) (p:J s W) :
 CallsIn Fence.wide n ZP 213 #[.func (.yield l) #[] #[],Z6 (ZX ⟨a,0,ZY⟩),Z6 (ZX ⟨Bs,0,ZY⟩),Z6 (ZX ⟨c,0,ZY⟩)] W λe W'=>(∃ v,e=Z3 v)/\J (iF K 8 C kept 0 s) W':=by
 have hv:=λm=>KO K n0 Bl l J i j o q 8 m C kept 0 s W d (eT d.So) t ec p;have c1:=u.cell;have f:=k.cell;unfold fm at f hv;refine WL func213 rfl trivial ?_ rfl;simp only [ntmps213,Uy,Um,UQ,YE,YF,UX,UY,UZ,U0,Uk,UH];gi_wp2_with (refine kH rfl (Z0 1) rfl a C rfl r ?_)
 refine ⟨trivial,λh=>Bf,(hv _).mono ?_⟩;rintro e W' ⟨rfl,g,_⟩;gi_wp2;go_end0
 exact ⟨⟨_,rfl⟩,g⟩
structure FI (w:ZU) (kept B5 B6 B7:Nat) (s:cd) (W:ZU):Prop where
 SU:aH W B5 s.1
 least:Bx W B6 (Z7 Z9 (s.2:Int))
 SA:Bx W B7 (fm B6)
 set:Bx W (w.heap.size+1) (Z7 Z8 (kept:Int))
 res:aH W (w.heap.size+1+1) dq
 below:bW w W
def FI.mono {B5 B6 B7:Nat} (h:FI w kept B5 B6 B7 s W) (a:ZS B W W') (b:W.heap.size<=B\/(B5<B/\B6<B/\B7<B/\w.heap.size+3<=B)):FI w kept B5 B6 B7 s W':=by
 have:=h.SU.lt;have:=h.least.lt;have:=h.SA.lt;have:=h.res.lt;exact ⟨h.SU.keep (a.block _ eb),h.least.keep (a.block _ eb),h.SA.keep (a.block _ eb),h.set.keep (a.block _ eb),h.res.keep (a.block _ eb),h.below.trans (a.mono eb)⟩
def KQ {z:Int} (p least Bl:Nat) (w:ZU) (b:z=(p:Int)) (a:w.cell? ⟨Bl,0,ZY⟩=ZX (Z7 Z9 (least:Int))) :
 ZR ZP 210 #[Z7 Z9 z,Z6 (ZX ⟨Bl,0,ZY⟩)] w λe w'=>e=Z3 (Z1 (decide (p<least)))/\w'=w:=by
 subst b;exact xE p least Bl w a
def cR (x:Ck) (pre:List Sh):Nat:=((pre.map (·.1)).filter (cy x)).length
theorem NC (x:Ck) (pre:List Sh) (i:Sh):cR x (pre++[i])=cR x pre+(if cy x i.1=ZW then 1 else 0):=by
 unfold cR;rw [Uu,V4,T5];congr 1;by_cases h:cy x i.1=ZW
 . simp [h]
 . simp [h]
def PQ (h:pre.map (·.1)=ae kept):cR x pre=jl (ae kept) x:=by unfold cR jl;rw [h]
def ND (h:pre.map (·.1)<+:ae kept):cR x pre<=jl (ae kept) x:=by
 unfold cR jl;obtain ⟨R,a⟩:=h;rw [<- a,V4,T5];omega
def RI (x:Ck) (pre:List Sh):cR x pre<=pre.length:=by
 unfold cR;exact TU (Wq _ _) (by rw [TZ];exact TV _)
def InI (X:ZU) (s:cd) (x:Ck) (pre:List Sh) (Y:ZU):Prop:=bW X Y/\Bx Y X.heap.size (Z7 Z9 (cR x pre:Int))/\(cR x pre=0\/cR x pre<s.2)
def InI.own (i:X.heap.size+1<=B):OwnFrom B (λpre Y=>InI X s x pre Y):=by
 rintro pre A h row ⟨c,d,g⟩ b a;have f:=d.lt;exact ⟨c.grown b (eT c.size) (λk e=>eT ((a k e).1)),d.keep (b.block _ f (λe=>eT ((a _ e.symm).1))),g⟩
theorem Eg (C:Ck) (kept:Nat) (w:ZU) (hf:dV C) (U:kept<65536) (hT:aK w) (h2:3<=w.heap.size) :
 ZR ZP 202 #[.agg (aV C),Z7 Z8 kept] w λe w'=>e=Z3 (.agg (aV (aT 8 C kept).1))/\bW w w':=by
 have Z:=bV C;have h9:=bV dq;have hz:=zeroCk;obtain ⟨n,HN⟩:∃ n:Nat,Hid (9<=n):=⟨9,TV _⟩;refine (U6 (n:=n)).1 ?_;refine VS func202 rfl trivial ?_ rfl;simp only [ntmps202,Uy,Um,UQ,YE,YF,UX,UY,UZ,U0,Uk,UH];have b0:bW w (((w.alloc (Z4 (aV C) 322)).alloc (Z4 #[Z7 Z8 (kept:Int)] 131)).alloc (Z4 (aV dq) 322)):=((bA w _).alloc ek _).alloc en _;have c0:aH (((w.alloc (Z4 (aV C) 322)).alloc (Z4 #[Z7 Z8 (kept:Int)] 131)).alloc (Z4 (aV dq) 322)) w.heap.size C:=(aH.new w C).keep (by rw [VN _ _ _ en,VN _ _ _ ek]);have s0:Bx (((w.alloc (Z4 (aV C) 322)).alloc (Z4 #[Z7 Z8 (kept:Int)] 131)).alloc (Z4 (aV dq) 322)) (w.heap.size+1) (Z7 Z8 (kept:Int)):=by
  have h:=Bx.new (w.alloc (Z4 (aV C) 322)) 131 (Z7 Z8 (kept:Int));rw [Ua] at h;exact h.alloc _
 have r0:aH (((w.alloc (Z4 (aV C) 322)).alloc (Z4 #[Z7 Z8 (kept:Int)] 131)).alloc (Z4 (aV dq) 322)) (w.heap.size+1+1) dq:=by
  have h:=aH.new ((w.alloc (Z4 (aV C) 322)).alloc (Z4 #[Z7 Z8 (kept:Int)] 131)) dq;simp only [Ua] at h;exact h
 have z0:(((w.alloc (Z4 (aV C) 322)).alloc (Z4 #[Z7 Z8 (kept:Int)] 131)).alloc (Z4 (aV dq) 322)).heap.size=w.heap.size+3:=ek
 obtain ⟨w3,qe⟩:=nM (((w.alloc (Z4 (aV C) 322)).alloc (Z4 #[Z7 Z8 (kept:Int)] 131)).alloc (Z4 (aV dq) 322));rw [qe] at b0 c0 s0 r0 z0;have HB:=al b0;have HC:=al c0;have HS:=al s0;have N:=al r0;have HZ:=al z0;clear b0 c0 s0 r0 z0;gi_wp2;refine JJ ?_;gi_wp2;refine Hd w.heap.size (w.heap.size+1) kept C ei rfl U rfl rfl HC.out HS.out ?_;rintro O d f a q7 e5 e6 l5 l6 c5 F u;obtain ⟨ls,V,rfl⟩:=q7.split ec ek;clear q7;obtain ⟨u0,u1,u2,u3,u4,u5,u6,u7,u8,rfl⟩:=Rz V;clear V;simp only [Xu,VQ,YG,X1,UH,Uk] at e5 e6 ⊢;obtain rfl:u0=Z6 (ZX ⟨f,0,ZY⟩):=e5;obtain rfl:u1=Z6 (ZX ⟨a,0,ZY⟩):=e6;clear qe;have qg:=HZ.out;have cN:=(Bx.new d 225 .nilFunc).cell;have fN:=(Bx.new d 225 .nilFunc).frozen;have t:bW d ((d.alloc (Z4 #[.nilFunc] 225)).setCell ⟨d.heap.size,0,ZY⟩ (fm a)):=(bA _ _).setCell (p:=⟨d.heap.size,0,ZY⟩) lR _;have L:FI w kept f a d.heap.size (C,(ae kept).length) ((d.alloc (Z4 #[.nilFunc] 225)).setCell ⟨d.heap.size,0,ZY⟩ (fm a)):=
  ⟨c5.keep (t.block _ c5.lt),F.keep (t.block _ F.lt),(Bx.new d 225 .nilFunc).set _,HS.out.keep ((t.block _ (eT u.size)).trans (u.block _ eb)),N.out.keep ((t.block _ (eT u.size)).trans (u.block _ eb)),(HB.out.trans (u.mono eb)).trans (t.mono (eT u.size))⟩
 have k8:aH ((d.alloc (Z4 #[.nilFunc] 225)).setCell ⟨d.heap.size,0,ZY⟩ (fm a)) w.heap.size C:=HC.out.keep ((t.block _ (eT u.size)).trans (u.block _ eb));have qh:((d.alloc (Z4 #[.nilFunc] 225)).setCell ⟨d.heap.size,0,ZY⟩ (fm a)).heap.size=d.heap.size+1:=l7
 have x9:=u.size;have xp:=F.lt;obtain ⟨j,kj⟩:=nM ((d.alloc (Z4 #[.nilFunc] 225)).setCell ⟨d.heap.size,0,ZY⟩ (fm a));rw [kj] at L k8 qh;unfold fm at kj;have Q:=L.SA.cell;unfold fm at Q;have c3:=L.set.cell;have G:=al L;have qj:=al k8;have T:=al qg;clear L k8 qh t c5 F u HB HC HS N HZ x9 qg hz Z h9;have ka:=zI C kept a j;unfold fm at ka;gi_wp2;refine wpIn_label ?_;gi_wp2_with (refine kH rfl (Z0 2) rfl w.heap.size C rfl qj.out ?_)
 refine bX ka ?_;clear ka;rintro e w6 ⟨rfl,k1,k2,k3,k4,k5⟩;have qk:=al k1;have qm:=al k2;have qn:Hid (Bx w6 (j.heap.size+1+1) (fm a)):=al k3;have qo:=al k4;have kp:=al k5;clear k1 k2 k3 k4 k5 kj cN fN Q c3;gi_wp2;have qv:FI w kept f a d.heap.size (C,(ae kept).length) w6:=G.out.mono qo.out (.inl lR);have xm:=G.out.SU.lt;have xo:=G.out.least.lt;have xv:=G.out.SA.lt;have xk:=G.out.res.lt;have q8:=kp.out;obtain ⟨m,HM⟩:∃ m:Nat,Hid (9<=m):=⟨9,TV _⟩;refine JK (P:=ZP) (n:=n) m (w:=w6) (gf:=213) (lb:=#[Z6 (ZX ⟨j.heap.size,0,ZY⟩),Z6 (ZX ⟨j.heap.size+1,0,ZY⟩),Z6 (ZX ⟨j.heap.size+1+1,0,ZY⟩)]) rfl (UR func213 ei rfl)
  (encs:=λC:Ck=>#[.agg (aV C)]) (λ_=>rfl) (eW (ae kept)) dV (FI w kept f a d.heap.size) (λs A B h hb=>h.mono hb (.inr ⟨eb,eb,eb,eb⟩)) (λs=>s=aT 8 C kept) (C,(ae kept).length)
  ?call qv (λB x O A=>∃ o,B<=o/\aH A o x/\O={ tmps:=#[.agg (aV C),Z7 Z8 (kept:Int),Z6 (ZX ⟨w.heap.size,0,ZY⟩),Z6 (ZX ⟨w.heap.size+1,0,ZY⟩),Z6 (ZX ⟨w.heap.size+1+1,0,ZY⟩),Z6 (ZX ⟨f,0,ZY⟩),Z6 (ZX ⟨a,0,ZY⟩),Z6 (ZX ⟨d.heap.size,0,ZY⟩),Z6 (ZX ⟨o,0,ZY⟩),u4,u5,u6,u7,u8,.func (.func 210) #[] #[Z6 (ZX ⟨a,0,ZY⟩)],.agg (aV C),Z7 Z8 (kept:Int),.func (.func 210) #[] #[Z6 (ZX ⟨a,0,ZY⟩)],.func (.func 213) #[] #[Z6 (ZX ⟨j.heap.size,0,ZY⟩),Z6 (ZX ⟨j.heap.size+1,0,ZY⟩),Z6 (ZX ⟨j.heap.size+1+1,0,ZY⟩)],.agg (aV x),ZZ,ZZ,ZZ,ZZ,ZZ,ZZ,ZZ,ZZ,ZZ,ZZ,ZZ,ZZ,ZZ,ZZ,ZZ],defers:=[] }) ?ax ?assign ?body ?done
 case call=>
  intro l J W k7 xh x0 qz hY qy;refine (zJ (ae kept) (w6.heap.size+2) a l J x0 (λs A hj=>?_) eb hY (n-1) j.heap.size (j.heap.size+1) (j.heap.size+1+1) C kept _ W (qk.out.keep (k7.block _ eb)) (qm.out.keep (k7.block _ eb)) (qn.out.keep (k7.block _ eb)) hf U qy).mono ?_
  . obtain ⟨fi,hs⟩:=qz s A hj;exact ⟨fi.least.cell,hs,hT.mono eb fi.below⟩
  . rintro e W' ⟨hv,qx⟩;exact ⟨hv,_,rfl,qx⟩
 case ax=>
  rintro B x O A A' ⟨o,h1,ky,h3⟩ x3;exact ⟨o,h1,ky.keep (x3.block o h1 ky.lt),h3⟩
 case assign=>
  intro l s x W K y q4 hK;have hz:=zeroCk;have h9:=bV dq;gi_wp2_with (refine jH rfl (Z0 8) (Z0 19) rfl W.heap.size x dq rfl rfl (aH.new W dq) ?_)
  exact hK _ _ ((bA _ _).grown (aP _ _ _) ek (λk e=>D2)) ⟨W.heap.size,TV _,(aH.new W dq).setRow x,rfl⟩
 case body=>
  rintro l B s x O X hl Cf xc ⟨r,hr⟩ y q4 ⟨o,xb,qf,rfl⟩;have V:=y.below.size;have x6:l<X.heap.size:=(TW.1 hr).1;have k6:bW X (X.alloc (Z4 #[Z7 Z9 0] 3)):=bA _ _;have c3:=(y.mono k6 (.inl lR)).set.cell;have hc:bW X ((X.alloc (Z4 #[Z7 Z9 0] 3)).alloc (Z4 #[Z7 Z8 (kept:Int)] 131)):=k6.alloc ek _;have kz:=(Bx.new X 3 (Z7 Z9 0)).alloc (Z4 #[Z7 Z8 (kept:Int)] 131);have kf:=(Bx.new (X.alloc (Z4 #[Z7 Z9 0] 3)) 131 (Z7 Z8 (kept:Int))).cell;have kk:((X.alloc (Z4 #[Z7 Z9 0] 3)).alloc (Z4 #[Z7 Z8 (kept:Int)] 131)).heap.size=X.heap.size+1+1:=ek
  rw [Ua] at kf;have hx:=dj kept (X.alloc (Z4 #[Z7 Z9 0] 3));rw [Ua] at hx;have v:=al y;have S:=al qf;have R:=al hc;have km:=al kz;have ks:=al kf;have kx:=al kk;have N:=al hr;have ko:=al hx;clear y qf k6 kz kf kk hc hr V hx q8;gi_wp2;refine dS ko.out ?_;rintro e w' ⟨rfl,qd⟩;rw [<- qd] at R km ks kx;clear ko c3 qd;gi_wp2;have x1:aK w':=hT.mono eb ((v.out.mono R.out (.inl lR)).below);have kk:=kx.out;have x8:w'.heap[l]?=ZX (.loop r):=(R.out.block l x6).trans N.out;have xd:=v.out.least;refine wpIn_rangeFunc_ownN (l₀:=l) (r₀:=r) rfl x8 (eT HM.out) (gf:=156) (lb:=#[Z6 (ZX ⟨X.heap.size+1,0,ZY⟩)]) rfl trivial (UR func156 ei rfl)
   ((eH (m-1) (X.heap.size+1) kept U w' eb ks.out eb x1).inRound l) (λh k=>qX h k) (qY eb) (TX _ _) (λ_=>rfl)
   (λpre Y=>InI X s x pre Y) (λc pre Y=>c=.exit 1/\bW X Y/\1<=cR x pre/\s.2<=cR x pre)
   (InI.own eb) (λc=>by
    rintro pre A Bw row ⟨g,q,z⟩ hg ke;exact ⟨g,q.grown hg (eT q.size) (λk e=>eT ((ke k e).1)),z⟩)
   ⟨R.out,km.out,.inl rfl⟩
   (λi H _=>H={ tmps:=#[.agg (aV C),Z7 Z8 (kept:Int),Z6 (ZX ⟨w.heap.size,0,ZY⟩),Z6 (ZX ⟨w.heap.size+1,0,ZY⟩),Z6 (ZX ⟨w.heap.size+1+1,0,ZY⟩),Z6 (ZX ⟨f,0,ZY⟩),Z6 (ZX ⟨a,0,ZY⟩),Z6 (ZX ⟨d.heap.size,0,ZY⟩),Z6 (ZX ⟨o,0,ZY⟩),Z6 (ZX ⟨X.heap.size,0,ZY⟩),Z7 Z9 (i.1:Int),u6,u7,u8,.func (.func 210) #[] #[Z6 (ZX ⟨a,0,ZY⟩)],.agg (aV C),Z7 Z8 (kept:Int),.func (.func 210) #[] #[Z6 (ZX ⟨a,0,ZY⟩)],.func (.func 213) #[] #[Z6 (ZX ⟨j.heap.size,0,ZY⟩),Z6 (ZX ⟨j.heap.size+1,0,ZY⟩),Z6 (ZX ⟨j.heap.size+1+1,0,ZY⟩)],.agg (aV x),Z7 Z8 (kept:Int),.func (.func 156) #[] #[Z6 (ZX ⟨X.heap.size+1,0,ZY⟩)],Z7 Z9 (i.1:Int),ZZ,ZZ,ZZ,ZZ,ZZ,ZZ,ZZ,ZZ,ZZ,ZZ,ZZ,ZZ],defers:=[] })
   (λ_ _ _ _ _ _ hs _ _=>hs)
   ?assign2 ?body2 ?done2 ?stop2
  case assign2=>
   rintro l2 pre i Y K hi hK;unfold qW;gi_wp2;exact hK _ _ (XL _ _) (Fh.refl _) hi rfl
  case body2=>
   rintro l2 pre i H Y _ _ ⟨g,q,z⟩ rfl x7;have h8:=S.out.lt;have q5:=S.out.keep (g.block o h8);have q6:=RI x pre;have x5:(ae kept).length<=16:=(by rw [<- kI kept];exact qC kept);have qp:=al g;have qq:=al q;have qs:=al z;have c9:=q.cell;have f9:=q.frozen;have qa:=wR o i.1 x Y q5 q4 i.2;have qc:=NC x pre i;have kv:=al qc;have t:bW X (Y.setCell ⟨X.heap.size,0,ZY⟩ (Z7 Z9 ((cR x pre:Int)+1))):=g.setCell (p:=⟨X.heap.size,0,ZY⟩) lR _;have k0:=v.out.mono t (.inl lR);have Q:=k0.SA.cell;have F:=k0.least.cell;have hy:=q.set (Z7 Z9 ((cR x pre:Int)+1));have xj:=hy.cell;unfold fm at Q;have hq:=al t;have qi:=al hy;clear g q z qc t k0 hy q5;gi_wp2;refine dS qa ?_;clear qa;rintro e w'' ⟨rfl,kh⟩;subst kh;cases hn:cy x i.1 with
   | false=>
    have E:Hid (cR x (pre++[i])=cR x pre):=al (by rw [kv.out,hn];simp);clear hn;gi_wp2;refine ⟨XL _ _,Fh.refl _,qp.out,?_,?_⟩
    . rw [E.out];exact qq.out
    . rw [E.out];exact qs.out
   | true=>
    have E:Hid (cR x (pre++[i])=cR x pre+1):=al (by rw [kv.out,hn];simp);clear hn;gi_wp2;refine dS (KQ (cR x pre+1) s.2 a _ eb F) ?_;rintro e xx ⟨rfl,ki⟩;have q9:KeepsFrom w'.heap.size w'' (w''.setCell ⟨X.heap.size,0,ZY⟩ (Z7 Z9 ((cR x pre:Int)+1))):=(Vz _ _ _).from _;have kr:=al q9;clear q9;subst ki;by_cases k9:cR x pre+1<s.2
    . rw [decide_eq_true k9];gi_wp2;refine ⟨kr.out,λ_=>hT.mono eb (v.out.mono hq.out (.inl lR)).below,hq.out,?_,?_⟩
      . rw [E.out];exact qi.out
      . rw [E.out];exact .inr k9
    . rw [decide_eq_false k9];gi_wp2;refine ⟨kr.out,rfl,hq.out,?_,?_⟩
      . rw [E.out];omega
      . rw [E.out];omega
  case done2=>
   rintro ys Y xa ⟨g,q,z⟩;have q6:=PQ (x:=x) xa;rw [q6] at q z;have b:=v.out.mono g (.inl lR);have h8:=S.out.lt;have x2:=S.out.keep (g.block o h8);have q8:=kp.out;gi_wp2;refine Ef f a o X.heap.size (jl (ae kept) x) x s.1 _ ei rfl rfl rfl rfl rfl x2 q b.SU b.least ?_;intro a3 xf;have kg:eW (ae kept) s x=(x,jl (ae kept) x):=(by unfold eW;rw [if_pos z]);rw [kg];have M:=xG b.SU b.least;have qr:=xG b.SU b.SA;have xi:=xG b.SU b.set;have hd:=xG b.res b.least;have I:∀ k,k≠f->k≠a->k<Y.heap.size->((Y.drew.setRow f (aV x)).setCell ⟨a,0,ZY⟩ (Z7 Z9 (jl (ae kept) x:Int))).heap[k]?=Y.heap[k]?:=λk k1 k2 k3=>
    (VY _ _ _ _ k2).trans ((aP Y.drew f (aV x)).block k k3 (λe=>k1 Zq))
   have Z:Y.heap.size<=((Y.drew.setRow f (aV x)).setCell ⟨a,0,ZY⟩ (Z7 Z9 (jl (ae kept) x:Int))).heap.size:=(by simp [World.setCell,World.setRow]);have xe:=g.size;have xn:w.heap.size<=f:=(eT T.out);have xq:w.heap.size<=a:=(eT T.out);refine ⟨⟨?_,?_,?_,?_,?_,?_⟩,?_⟩
   . exact (((show aH Y.drew f s.1 from b.SU).setRow x)).keep (VY _ _ _ _ M)
   . exact ((show Bx Y.drew a _ from b.least).keep ((aP Y.drew f (aV x)).block a b.least.lt (λe=>M Zq))).set _
   . exact b.SA.keep (I _ (V5 qr) eb b.SA.lt)
   . exact b.set.keep (I _ (V5 xi) (eT T.out) b.set.lt)
   . exact b.res.keep (I _ (eT T.out) hd b.res.lt)
   . exact b.below.trans ⟨rfl,rfl,rfl,Z,λk U=>I k eb eb (eT b.below.size)⟩
   . exact (br.RN g).trans ⟨rfl,rfl,rfl,Z,λk k1 k2=>I k eb eb k2⟩
  case stop2=>
   rintro c pre Y kb ⟨rfl,g,q,z⟩;have xg:=ND (x:=x) kb;have kg:eW (ae kept) s x=s:=(by unfold eW;rw [if_neg eb]);rw [kg];gi_wp2;exact ⟨v.out.mono g (.inl lR),br.RN g⟩
 case done=>
  rintro D s X hD rfl y hK;have hb:=y.SU;have qb:=y.res;have v:=al y;have h9:=bV dq;gi_wp2_with (first
   | (refine kH rfl (Z0 5) rfl f (aT 8 C kept).1 rfl hb ?_)
   | (refine jH rfl (Z0 4) (Z0 34) rfl (w.heap.size+1+1) (aT 8 C kept).1 dq rfl rfl qb ?_))
  have q0:(X.setRow (w.heap.size+1+1) (aV (aT 8 C kept).1)).heap[D]?=ZX (.deferred (ZX [])):=((aP X (w.heap.size+1+1) _).block D (TW.1 hK).1 (λe=>Zf)).trans hK;refine ⟨ek,.inl ⟨_,_,rfl,Wd q0,?_⟩⟩;have kc:aH ((X.setRow (w.heap.size+1+1) (aV (aT 8 C kept).1)).putObj D (.deferred ZY)) (w.heap.size+1+1) (aT 8 C kept).1:=(qb.setRow (aT 8 C kept).1).keep (UE eb);have x4:bW w ((X.setRow (w.heap.size+1+1) (aV (aT 8 C kept).1)).putObj D (.deferred ZY)):=
   Below.RY (v.out.below.grown (aP _ _ _) v.out.below.size (λk e=>Zf)) eb (TW.1 q0).1 _
  exact ⟨.agg (aV (aT 8 C kept).1),VG results202 _ _ (w.heap.size+1+1) 322 (aV (aT 8 C kept).1) (0,0) _ rfl kc.heap Xk rfl (dA _),rfl,x4⟩
end
def NF (m:Nat->Nat->Nat) (q:Nat) (src:a9):Nat->Nat->Nat:=λr j=>if r=q/\j<src.length then src.getD j 0 else m r j
theorem BC (z:o.guard=ZY) (d s:Operand)
 (ho:o.op=.call { callee:=.builtin .copy,args:=#[d,s],argTypes:=#[31,31] }) (b q:Nat) (v:ZT) (hd:a.eval d=Z5 (ZX ⟨b,q*16,ZY⟩) 16 16) (hs:a.eval s=v)
 (C:Ck) (src:a9) (hC:aH w b C) (hq:q<8) (hS:Bs w v src) (h8:src.length<=16)
 (h:∀ w',aH w' b ⟨NF C.m q src,C.told,C.count⟩->ZS b w w'->wpList ZP ops Q rest (a.put o.dst (goInt src.length)) w'):wpList ZP ops Q (o::rest) a w:=by
 obtain ⟨ao,c,rfl,J,K,L,t⟩:=hS;refine aa8 z d s 31 31 ho 5 Ui ei (ZX ⟨b,q*16,ZY⟩) ao 16 16 src.length c hd hs b (q*16) _ 322 hC.heap (src.map (λx=>Value.int .u8 ((x:Nat):Int))) ?_ ?_ ?_ ?_ b w (TX _ _) lR ?_
 . rw [TZ];show src.length=min src.length 16;omega
 . intro l;rw [TZ] at l;obtain ⟨I,off,rfl,D⟩:=t (by intro e;rw [e] at l;simp at l);refine ⟨rfl,_,rfl,λj u k=>?_⟩;have g:j<src.length:=by
    obtain ⟨q,_⟩:=UT.1 k;simpa using q
   rw [Vj,D j g];simp [g] at k;simp [g,k]
 . simp;omega
 . intro u E;obtain ⟨x,_,rfl⟩:=T1.1 E;rfl
 . intro w' A y;have F:=A.out;rw [TZ];refine h w' ⟨_,F,?_,λi r=>?_⟩ y
   . rw [Uy,length_splice _ _ _ en];simp
   . unfold splice;rw [WM];have p:∀ x,x<130->((YC 130).map (od C))[x]?=ZX (od C x):=λx G=>by rw [Ul,Ve G];rfl
     have B:((YC 130).map (od C)).length=130:=Y5;by_cases H:i<q*16
     . rw [U7 en,Xx,if_pos H,p i r];congr 1;unfold od;rw [if_pos eb,if_pos eb];show _=Value.int .u8 ((NF C.m q src (i/16) (i%16):Nat):Int);unfold NF;rw [if_neg eb]
     . have n:(((YC 130).map (od C)).take (q*16)).length=q*16:=(by rw [Ud,B];omega);rw [Vp (by rw [n];omega),n];by_cases M:i<q*16+src.length
       . rw [U7 en];have f:i-q*16<src.length:=eb;rw [Ul,T2 f];simp only [Wv];congr 1;unfold od;rw [if_pos eb];show _=Value.int .u8 ((NF C.m q src (i/16) (i%16):Nat):Int);unfold NF;rw [if_pos eb,(eb:i%16=i-q*16),T6,T2 f];rfl
       . rw [Vp en];simp only [TZ];rw [VM,(eb:q*16+src.length+(i-q*16-src.length)=i),p i r];congr 1;unfold od;by_cases f:i<128
         . rw [if_pos f,if_pos f];show _=Value.int .u8 ((NF C.m q src (i/16) (i%16):Nat):Int);unfold NF;rw [if_neg eb]
         . rw [if_neg f,if_neg f]
theorem Eh (h:aH w b C) (q i v:Nat) (d:q<8) (c:i<16):aH (w.setCell ⟨b,q*16+i,ZY⟩ (Z7 .u8 (v:Int))) b ⟨λr j=>if r=q/\j=i then v else C.m r j,C.told,C.count⟩:=
 (h.set (q*16+i) (Z7 .u8 (v:Int))).congr (λx f=>by
  unfold od;by_cases e:x=q*16+i
  . rw [if_pos e,if_pos eb];show _=Value.int .u8 ((if x/16=q/\x%16=i then v else _:Nat):Int);rw [if_pos eb]
  . rw [if_neg e];by_cases a:x<128
    . rw [if_pos a,if_pos a];show _=Value.int .u8 ((if x/16=q/\x%16=i then v else C.m (x/16) (x%16):Nat):Int);rw [if_neg eb]
    . rw [if_neg a,if_neg a])
def mf (M:List a9) (i j:Nat):Nat:=(M.getD i []).getD j 0
theorem KR (M:Nat->Nat->Nat) (D:Nat):ni M D 0=dq:=by
 unfold ni dq;congr 1
theorem KS (M:List a9) (D k:Nat) (c:(M.getD (D+k) []).length=D) :
 (⟨λr j=>if r=k/\j=D+k then 1 else NF (ni (mf M) D k).m k (M.getD (D+k) []) r j,0,k+1⟩:Ck)=ni (mf M) D (k+1):=by
 unfold ni;congr 1;funext r j;show (if r=k/\j=D+k then 1 else (if r=k/\j<(M.getD (D+k) []).length then (M.getD (D+k) []).getD j 0 else (if r<k then (if j<D then mf M (D+r) j else if j=D+r then 1 else 0) else 0)))=(if r<k+1 then (if j<D then mf M (D+r) j else if j=D+r then 1 else 0) else 0);rw [c];by_cases e:r=k
 . subst e;by_cases a:j=D+r
   . simp [a];intro h;omega
   . by_cases b:j<D
     . simp [a,b,mf]
     . simp [a,b]
 . by_cases a:r<k
   . simp [e,a,(eb:r<k+1)]
   . simp [e,a,(eb:¬ r<k+1)]
def CoR (w:ZU) (M:List a9) (D:Nat) (i:ZT) (wr:ZU):Prop:=
 ∃ k:Nat,D+k<=M.length/\i=Z7 Z9 (k:Int)/\aH wr (w.heap.size+1) (ni (mf M) D k)/\aH wr w.heap.size dq/\bW w wr
theorem zK (b off c:Nat) (M:List a9) (D:Nat) (w:ZU) (k5:M.length<=c) (K:∀ i (hi:i<M.length),∃ u,w.cell? ⟨b,off+i,ZY⟩=ZX u/\Bs w u M[i]) (hD:1<=D) (ka:D<M.length) (k9:M.length<=16) (hP:M.length<=D+8) (E:∀ i,i<M.length->(M.getD i []).length=D) :
 ZR ZP 204 #[Z5 (ZX ⟨b,off,ZY⟩) M.length c,Z7 Z9 D] w λe w'=>e=Z3 (.agg (aV (ni (mf M) D (M.length-D))))/\bW w w':=by
 have hz:=zeroCk;have kb:(D:Int)<=(M.length:Int):=eb
 have k0:¬ c<=D:=eb
 have L:=al K;have C:=al E;clear K E;have J:CoR w M D (Z7 Z9 (0:Nat)) ((w.alloc (Z4 (aV dq) 322)).alloc (Z4 (aV dq) 322)):=by
  refine ⟨0,eb,rfl,?_,(aH.new w dq).keep (VN _ _ _ ek),(bA _ _).alloc ek _⟩;rw [KR];have h:=aH.new (w.alloc (Z4 (aV dq) 322)) dq;rw [Ua] at h;exact h
 have F:=al J;clear J;go_enter func204,ntmps204;go_wp2;clear hz;go_loopw [12] (λi wr=>CoR w M D i wr) (λi _=>(M.length-D)-(intOf i).toNat)
 case atStart=>exact F.out
 case round=>
  clear F;rename ZU=>wo;obtain ⟨k,hk,rfl,z,A,f⟩:=hrel;by_cases x:D+k<M.length
  . have k6:(k:Int)<((M.length-D:Nat):Int):=eb;obtain ⟨u,B,I⟩:=L.out (D+k) x;have kg:wo.cell? ⟨b,off+D+k,ZY⟩=ZX u:=(by rw [Vb,f.cell (T8 B)];exact B);have G:=I.mono f;have n:=C.out (D+k) x;have o:M.getD (D+k) []=M[D+k]:=(by simp [x]);rw [o] at n;have y:=KS M D k (by rw [o];exact n);rw [o] at y;have kf:=λw'=>pS w' (w.heap.size+1) (k*16);have ke:(k:Int)<8:=eb;have kc:(D:Int)+(k:Int)<16:=eb;have ki:wrap64 ((D:Int)+(k:Int))=((D+k:Nat):Int):=K0;have k8:IntKind.i64.wrap ((D:Int)+(k:Int))=((D+k:Nat):Int):=iE;have kh:wrap64 ((k:Int)+1)=((k+1:Nat):Int):=K0;have k7:IntKind.i64.wrap ((k:Int)+1)=((k+1:Nat):Int):=iE;have U:=al y;have g:=al G;have t:=al z;have l:=al A;have R:=al f;have V:=al n;clear y G z A f I B C o n;generalize M[D+k]=row at *;go_wp2_with (refine BC rfl (Z0 20) (Z0 21) rfl (w.heap.size+1) k _ rfl rfl _ row t.out eb g.out (eT V.out) ?_;intro w2 a d;have c1:=a.at k (D+k) eb eb;have f1:=a.frozen (k*16+(D+k));have N:(w2.setCell ⟨w.heap.size+1,k*16+(D+k),ZY⟩ (Z7 .u8 1)).cell? ⟨w.heap.size+1,129,ZY⟩=ZX (Z7 Z9 (k:Int)):=(Eh a k (D+k) 1 eb eb).SG;have P:(w2.setCell ⟨w.heap.size+1,k*16+(D+k),ZY⟩ (Z7 .u8 1)).frozen? ⟨w.heap.size+1,129,ZY⟩=ZV:=(Eh a k (D+k) 1 eb eb).frozen 129;have S:=al a;have Q:=al d;clear a d);have a:=S.out;have d:=Q.out;have X:=Eh a k (D+k) 1 eb eb;have Y:=wU X (k+1);have hx:=l.out.keep (d.block w.heap.size eb);have O:(⟨(⟨λr j=>if r=k/\j=D+k then 1 else NF (ni (mf M) D k).m k row r j,(ni (mf M) D k).told,(ni (mf M) D k).count⟩:Ck).m,(ni (mf M) D k).told,k+1⟩:Ck)=ni (mf M) D (k+1):=U.out;have Z:aH ((w2.setCell ⟨w.heap.size+1,k*16+(D+k),ZY⟩ (Z7 .u8 1)).setCell ⟨w.heap.size+1,129,ZY⟩ (Z7 Z9 ((k+1:Nat):Int))) (w.heap.size+1) (ni (mf M) D (k+1)):=(by rw [<- O];exact Y);have hy:aH ((w2.setCell ⟨w.heap.size+1,k*16+(D+k),ZY⟩ (Z7 .u8 1)).setCell ⟨w.heap.size+1,129,ZY⟩ (Z7 Z9 ((k+1:Nat):Int))) w.heap.size dq:=
     hx.keep ((VY _ _ _ _ (by show w.heap.size≠w.heap.size+1;omega)).trans (VY _ _ _ _ (by show w.heap.size≠w.heap.size+1;omega)))
    have W:bW w ((w2.setCell ⟨w.heap.size+1,k*16+(D+k),ZY⟩ (Z7 .u8 1)).setCell ⟨w.heap.size+1,129,ZY⟩ (Z7 Z9 ((k+1:Nat):Int))):=
     ((R.out.trans (d.mono eb)).setCell (p:=⟨w.heap.size+1,k*16+(D+k),ZY⟩) eP _).setCell (p:=⟨w.heap.size+1,129,ZY⟩) eP _
    have s:=aE Z hy W;go_roundw
    case rel=>exact ⟨k+1,eb,e8,s.out.1,s.out.2.1,s.out.2.2⟩
    case measure=>simp [intOf];omega
  . have k6:¬ (k:Int)<((M.length-D:Nat):Int):=eb;have H:M.length-D=k:=eb;have T:=al H;have g:=al f;have t:=al z;have l:=al A;clear H;go_wp2_with (first
     | refine X6 rfl 322 (Z0 5) rfl (w.heap.size+1) rfl 322 (aV (ni (mf M) D k)) (0,0) _ t.out.heap Xk rfl (dA _) ?_
     | refine V9 rfl 322 (Z0 4) (Z0 35) rfl w.heap.size (aV (ni (mf M) D k)) rfl rfl 322 (aV dq) l.out.heap (dA _) (by rw [bV,bV]) (mO _) ?_)
    refine Uf (v:=.agg (aV (ni (mf M) D k))) (VG results204 _ _ w.heap.size 322 (aV (ni (mf M) D k)) (0,0) _ rfl (l.out.setRow (ni (mf M) D k)).heap Xk rfl (dA _)) rfl ?_;rw [T.out];exact ⟨rfl,g.out.grown (aP _ _ _) g.out.size (λq e=>D2)⟩
def aC (n lost:Nat):Nat:=lost &&& (2^n-1)
def bN (n lost:Nat):Nat:=(2^n-1) &&& (18446744073709551615-aC n lost)
def je (h:n<=16):2^n<=65536:=Vm (n:=2) (i:=n) (j:=16) ec h
def mR (n lost i:Nat):(aC n lost).testBit i=(lost.testBit i&&decide (i<n)):=by unfold aC;rw [Xb,Ws]
def oU (lost:Nat) (h:n<=16):aC n lost<65536:=by
 have:=je h;have:aC n lost<=2^n-1:=Nat.and_le_right;have:0<2^n:=VH n;omega
def BD (lost:Nat) (h:n<=16):bN n lost<65536:=by
 have:=je h;have:bN n lost<=2^n-1:=WJ;have:0<2^n:=VH n;omega
def qD (lost i:Nat) (h:n<=16):(bN n lost).testBit i=(decide (i<n) && !lost.testBit i):=by
 have:=oU lost h;unfold bN;rw [Xb,Ws,(eb:18446744073709551615-aC n lost=2^64-(aC n lost+1)),Xw eb,mR];by_cases a:i<n
 . simp [a,(eb:i<64)]
 . simp [a]
theorem cZ (h:n<=16):i∈ae (aC n lost)↔i<n/\lost.testBit i=ZW:=by
 rw [bS,mR];simp only [YM,decide_eq_true_eq];constructor
 . rintro ⟨_,a,b⟩;exact ⟨b,a⟩
 . rintro ⟨a,b⟩;exact ⟨eb,b,a⟩
theorem oV (h:n<=16):i∈ae (bN n lost)↔i<n/\lost.testBit i=ZV:=by
 rw [bS,qD lost i h];simp only [YM,decide_eq_true_eq,Bool.not_eq_true'];constructor
 . rintro ⟨_,a,b⟩;exact ⟨a,b⟩
 . rintro ⟨a,b⟩;exact ⟨eb,a,b⟩
theorem KT (h:iU w B v T) (d:cO T D M) (k:∀ r∈M,r.length=D) (m:M≠[]) :
 ∃ g c,v=Z5 (ZX ⟨g,0,ZY⟩) M.length c/\M.length<=c/\∀ i (b:i<M.length),∃ u,w.cell? ⟨g,0+i,ZY⟩=ZX u/\Bs w u M[i]:=by
 have f:T.length=M.length:=vE (congrArg List.length d)
 rcases h.own.2 with ⟨_,n⟩|⟨g,c,cur,rfl,_,_,o,_⟩
 . exact absurd (UK eb) m
 . refine ⟨g,c,by rw [f],eb,λi b=>?_⟩;have a:i<T.length:=eb;refine ⟨jT T[i],by rw [Uc];exact h.SN a,?_⟩;have:=h.Tb a;have j:T[i].2=(D,M[i]):=by
    have:=congrArg (λl=>l[i]?) d;simpa [a,b] using this
   rw [j] at this;have e:(M[i]).take D=M[i]:=(by rw [<- k _ (T4 b),VE]);rw [e] at this;exact this
def Fx (D L G i:Nat) (a:i<D):(bE D L G).getD i []=fI D i:=by
 unfold bE;rw [UI,T6,U7 (vE a)];simp [a]
def tS (D L G:Nat) (c:D<=12) (d:G<=4):Gf.Code (mf (bE D L G)) D (L+G):=by
 refine ⟨λi j=>?_,λi a j=>?_,λi j b=>?_⟩
 . unfold mf;by_cases a:i<(bE D L G).length
   . have e:(bE D L G).getD i []=(bE D L G)[i]:=Zv;rw [e];exact bh (oT D L G c d _ (T4 a)) j
   . have e:(bE D L G).getD i []=[]:=Zv;rw [e];simp
 . unfold mf;rw [Fx D L G i a];unfold fI;rw [T6,YN];by_cases e:i=j
   . subst e;simp [a]
   . simp only [e,if_false];rw [if_neg (λh=>e h.symm)];by_cases b:j<D
     . simp [b]
     . simp [b]
 . unfold mf;by_cases a:i<(bE D L G).length
   . have e:(bE D L G).getD i []=(bE D L G)[i]:=Zv;have:=mN D L G _ (T4 a);rw [e,T6,VJ eb];rfl
   . have e:(bE D L G).getD i []=[]:=Zv;rw [e];simp
def lS (D L G:Nat):Ck:=ni (mf (bE D L G)) D (L+G)
def zL {G:Nat} (c:D<=12) (f:L<=4) (d:G<=4) {pre:a9} {C:Ck} (h:tells (lS D L G) pre=ZX C):dV C:=by
 rcases (tS D L G c d).told pre with ⟨C',a,b⟩|⟨a,_⟩
 . have e:tells (lS D L G) pre=ZX C':=a;rw [h] at e;obtain rfl:=UA e;exact ⟨b.byt,b.le,by have:C.count=L+G:=b.count;omega⟩
 . have e:tells (lS D L G) pre=ZY:=a;rw [h] at e;cases e
def PB (W:ZU) (n0 Bg:Nat) (regs:Int) (L:List St):Prop:=
 Bg<n0/\n0<=W.heap.size/\∃ v,W.heap[Bg]?=ZX (Z4 #[Z7 Z9 regs,v] 189 (0,0))/\W.ownsRow n0 288 4 v L.length (dW .u8 L)
def Tryz.Tt:(ZP.info? 288).map (λi=>(i.zero,i.size,i.bytes))=ZX (ZX (.agg #[Z7 .u8 0,Z7 Z9 0,Z7 Z9 0,Z7 .u8 0]),4,32):=ei
def zM (p:o.guard=ZY) (x y:Operand) (ho:o.op=.call { callee:=.builtin .append,args:=#[x,y],argTypes:=#[187,187] })
 (n0 q:Nat) (L:List St) (s:St) (v:ZT) (hx:a.eval x=v) (hy:a.eval y=Z5 (ZX ⟨q,0,ZY⟩) 1 1) (h3:w.ownsRow n0 288 4 v L.length (dW .u8 L)) (hc:∀ j u,(GC .u8 s)[j]?=ZX u->w.cell? ((⟨q,0,ZY⟩:Addr).add j)=ZX u) (h6:n0<=w.heap.size) (hL:L.length<=100000)
 (hK:∀ g' cap' w2,n0<=g'->w2.ownsRow n0 288 4 (Z5 (ZX ⟨g',0,ZY⟩) (L.length+1) cap') (L.length+1) (dW .u8 (L++[s]))->w.grownBy w2 v.ownBlock->wpListIn F n ZP ops Q rest (a.put o.dst (Z5 (ZX ⟨g',0,ZY⟩) (L.length+1) cap')) w2):wpListIn F n ZP ops Q (o::rest) a w:=by
 obtain ⟨r,h,i,k,l⟩:=Ur Tryz.Tt;refine wpListIn_append_own w p x y 187 ho n0 288 r (.agg #[Z7 .u8 0,Z7 Z9 0,Z7 Z9 0,Z7 .u8 0]) 4 32 underlying187 h i k l rfl ec v L.length (dW .u8 L) hx h3 ⟨q,0,ZY⟩ 1 1 (GC .u8 s) hy (by simp [GC]) hc (λu c=>by simp [GC] at c;rcases c with rfl|rfl|rfl|rfl<;>rfl) eD eb h6 ?_;intro t w2 b d _;obtain ⟨g',cap',rfl,f⟩:∃ g' cap',t=Z5 (ZX ⟨g',0,ZY⟩) (L.length+1) cap'/\n0<=g':=by
  rcases b.2 with ⟨_,z⟩|⟨g,cap,cur,hv,m,_⟩
  . omega
  . exact ⟨g,cap,hv,m⟩
 have e:dW .u8 L++GC .u8 s=dW .u8 (L++[s]):=by rw [rj];simp [dW]
 rw [e] at b;exact hK g' cap' w2 f b d
def jI {t:TypeId} (h:w.ownsRow n0 t 4 v k xs) {q:Nat} (e:v.ownBlock=ZX q):n0<=q:=(h.lt q e).1
def PB.next {L:List St} {s:St} (h:Bg<n0) (w:n0<=W.heap.size) (m:W.heap[Bg]?=ZX (Z4 #[Z7 Z9 regs,v] 189 (0,0))) (f:W.ownsRow n0 288 4 v L.length (dW .u8 L))
 (a:(W.alloc ob).grownBy w2 v.ownBlock) (t:n0<=g') (l:w2.ownsRow n0 288 4 (Z5 (ZX ⟨g',0,ZY⟩) (L.length+1) cap') (L.length+1) (dW .u8 (L++[s]))) :
 PB (w2.setCell ⟨Bg,1,ZY⟩ (Z5 (ZX ⟨g',0,ZY⟩) (L.length+1) cap')) n0 Bg regs (L++[s])/\w2.cell? ⟨Bg,1,ZY⟩=ZX v/\w2.frozen? ⟨Bg,1,ZY⟩=ZV /\
  (∀ k,k<n0->k≠Bg->(w2.setCell ⟨Bg,1,ZY⟩ (Z5 (ZX ⟨g',0,ZY⟩) (L.length+1) cap')).heap[k]?=W.heap[k]?)/\KeepsOthers W (w2.setCell ⟨Bg,1,ZY⟩ (Z5 (ZX ⟨g',0,ZY⟩) (L.length+1) cap')) /\
  (w2.setCell ⟨Bg,1,ZY⟩ (Z5 (ZX ⟨g',0,ZY⟩) (L.length+1) cap')).os=W.os/\(w2.setCell ⟨Bg,1,ZY⟩ (Z5 (ZX ⟨g',0,ZY⟩) (L.length+1) cap')).tape=W.tape/\(w2.setCell ⟨Bg,1,ZY⟩ (Z5 (ZX ⟨g',0,ZY⟩) (L.length+1) cap')).output=W.output:=by
 have hold:∀ k,k<n0->w2.heap[k]?=W.heap[k]?:=λk b=>(a.block k en (λe=>eT (jI f e.symm))).trans (oC W _ k eb);have d:=(hold Bg h).trans m;obtain ⟨_,c1,f1,_⟩:=az d;have u:W.heap.size<=w2.heap.size:=by have:=a.size;simp at this;omega
 have n:(w2.setCell ⟨Bg,1,ZY⟩ (Z5 (ZX ⟨g',0,ZY⟩) (L.length+1) cap')).heap[Bg]?=ZX (Z4 #[Z7 Z9 regs,Z5 (ZX ⟨g',0,ZY⟩) (L.length+1) cap'] 189 (0,0)):=by
  obtain ⟨q,b⟩:=TW.1 d;show (w2.heap.modify Bg _)[Bg]?=_;rw [Vr (by rw [YI];exact q),YK,b];rfl
 refine ⟨⟨h,Zr,_,n,?_⟩,c1,f1,λk b r=>(VY _ _ _ _ r).trans (hold k b),?_,a.os,a.tape,a.output⟩
 . have:=l.kept (cT w2 Bg 1 (Z5 (ZX ⟨g',0,ZY⟩) (L.length+1) cap')) (.inr (by simp [Value.ownBlock];omega));simpa using this
 . refine ((KeepsOthers.alloc W ob).trans (abm a λj o c i=>?_)).trans (Vz _ _ _);rcases (f.alloc ob).2 with ⟨rfl,_⟩|⟨g,cap,cur,rfl,_,p,_⟩
   . simp [Value.ownBlock] at c
   . obtain rfl:g=j:=(by simpa [Value.ownBlock] using c);rw [p] at i;cases i;rfl
theorem PB.own {L:List St} (h:PB X n0 Bg regs L) (m:n0<=B) (a:X.grownBy Y row) (c:∀ r,row=ZX r->B<=r/\∃ o:Obj,X.heap[r]?=ZX o/\o.isCells=ZV):PB Y n0 Bg regs L:=by
 obtain ⟨i,j,v,k,b⟩:=h;refine ⟨i,TU j a.size,v,(a.block Bg eb (λe=>eT ((c Bg e.symm).1))).trans k,b.kept a ?_⟩;rcases b.2 with ⟨rfl,_⟩|⟨g,cap,cur,rfl,_,f,_⟩
 . exact .inl rfl
 . refine .inr λd=>?_;obtain ⟨_,o,ho,l⟩:=c g (by simpa [Value.ownBlock] using d.symm);rw [f] at ho;cases ho;cases l
def lT (C:Ck) (i:Nat):List St:=if cy C i=ZW then ⟨0,0,i,0⟩::((YC C.told).filter (λr=>decide (C.m r i≠0))).map (λr:Nat=>(⟨1,1+(r:Int),0,C.m r i⟩:St)) else []
def wrTo (C:Ck) (pre:a9):List St:=(pre.map (lT C)).flatten
def xH (C:Ck) (pre:a9) (i:Nat):wrTo C (pre++[i])=wrTo C pre++lT C i:=by unfold wrTo;simp
def gB (C:Ck) (i k:Nat):List St:=((YC k).filter (λr=>decide (C.m r i≠0))).map (λr:Nat=>(⟨1,1+(r:Int),0,C.m r i⟩:St))
def tT (C:Ck) (i:Nat):gB C i 0=[]:=rfl
def BE (C:Ck) (i k:Nat) (h:C.m k i≠0):gB C i (k+1)=gB C i k++[⟨1,1+(k:Int),0,C.m k i⟩]:=by unfold gB;rw [Vl];simp [h]
def xI (C:Ck) (i k:Nat) (h:C.m k i=0):gB C i (k+1)=gB C i k:=by unfold gB;rw [Vl];simp [h]
def BF (C:Ck) (i k:Nat):(gB C i k).length<=k:=by
 unfold gB;rw [TZ];exact TU (Wq _ _) ek
def iy (h:cy C i=ZW):lT C i=⟨0,0,i,0⟩::gB C i C.told:=by unfold lT gB;rw [if_pos h]
def lU (h:cy C i=ZV):lT C i=[]:=by unfold lT;simp [h]
def KU (C:Ck) (i:Nat):(lT C i).length<=C.told+1:=by
 cases h:cy C i
 . rw [lU h];simp
 . rw [iy h];have:=BF C i C.told;simp;omega
theorem si (C:Ck):∀ pre:a9,(wrTo C pre).length<=pre.length*(C.told+1)
 | []=>by simp [wrTo]
 | i::pre=>by
  have:=si C pre;have:=KU C i;have e:wrTo C (i::pre)=lT C i++wrTo C pre:=by unfold wrTo;simp
  rw [e,T5,Um,Wz];omega
def gC (pre:a9):List St:=(YC pre.length).map (λk:Nat=>(⟨2,(k:Int)+1,((pre.getD k 0:Nat):Int),0⟩:St))
theorem Ei (pre:a9) (i:Nat):gC (pre++[i])=gC pre++[⟨2,(pre.length:Int)+1,i,0⟩]:=by
 unfold gC;rw [T5,abl,Vl,Uu];congr 1
 . apply VZ;intro k a;have:=Uq.1 a;simp [this,U7]
 . simp
def fK (C:Ck) (gone kept:Nat):List St:=wrTo C (ae kept)++gC (ae gone)
def Ej {B:Ck} {s:St} (h:s∈fK B gone kept):(∃ i∈ae kept,s=⟨0,0,(i:Int),0⟩)\/(∃ i∈ae kept,∃ r,r<B.told/\s=⟨1,1+(r:Int),0,B.m r i⟩)\/(∃ k,∃ d:k<(ae gone).length,s=⟨2,(k:Int)+1,((ae gone)[k]:Int),0⟩):=by
 unfold fK wrTo at h;rcases Ub.1 h with h|h
 . obtain ⟨l,f,a⟩:=Yk.1 h;obtain ⟨i,c,rfl⟩:=T1.1 f;cases hr:cy B i
   . rw [lU hr] at a;cases a
   . rw [iy hr] at a;rcases Un.1 a with rfl|a
     . exact .inl ⟨i,c,rfl⟩
     . unfold gB at a;obtain ⟨r,e,rfl⟩:=T1.1 a;exact .inr (.inl ⟨i,c,r,Uq.1 (Vq.1 e).1,rfl⟩)
 . unfold gC at h;obtain ⟨k,d,rfl⟩:=T1.1 h;have b:=Uq.1 d;exact .inr (.inr ⟨k,b,abQ⟩)
def PR {B:Ck} (gone kept:Nat) (e:B.told<=8):(fK B gone kept).length<=160:=by
 have:=si B (ae kept);have a:∀ s,(ae s).length<=16:=λs=>TU (Wq _ _) ek;have:(ae kept).length*(B.told+1)<=16*9:=WT (a kept) eb;have:=a gone;unfold fK gC;simp only [T5,TZ,Uv];omega
def RK {B:Ck} (h:B.told=(ae gone).length) (b:B.told<=8) (g:∀ i∈ae kept,i<n) (d:∀ i∈ae gone,i<n):iI (1+((ae gone).length:Int)) (fK B gone kept) (n:Int):=by
 have:=PR gone kept b;refine ⟨⟨eb,eb,eb⟩,λi f=>?_⟩;rcases Ej (T4 f) with ⟨j,a,e⟩|⟨j,a,r,m,e⟩|⟨k,c,e⟩
 . have:=g j a;rw [e];exact .inl ⟨.inl rfl,by show (0:Int)<=0;omega,by show (0:Int)<_;omega,by show (0:Int)<=(j:Int);omega,by show (j:Int)<_;omega⟩
 . rw [e];exact .inr ⟨rfl,by show (0:Int)<=1+(r:Int);omega,by show (1+(r:Int))<_;omega,by show (0:Int)<=0;omega,by show (0:Int)<_;omega,by show (1+(r:Int))≠0;omega⟩
 . have:=d _ (T4 c);rw [e];exact .inl ⟨.inr rfl,by show (0:Int)<=(k:Int)+1;omega,by show ((k:Int)+1)<_;omega,by show (0:Int)<=((ae gone)[k]:Int);omega,by show ((ae gone)[k]:Int)<_;omega⟩
def oW {G:Nat} (f:D<=12) (g:G<=4) {C:Ck} (d:tells (lS D L G) (ae (aC (D+L+G) lost))=ZX C) :
 Gc (mf (bE D L G)) D (L+G) (ae (aC (D+L+G) lost)) (aT 8 C (bN (D+L+G) lost)).1/\fq (ni (mf (bE D L G)) D (L+G)) (Do (mf (bE D L G)) D (D+(L+G))) (ae (aC (D+L+G) lost)) C:=by
 have e:=tS D L G f g;rcases e.told (ae (aC (D+L+G) lost)) with ⟨C',b,c⟩|⟨b,_⟩
 . have a:tells (lS D L G) (ae (aC (D+L+G) lost))=ZX C':=b;rw [d] at a;obtain rfl:=UA a;exact ⟨e.SQ c (yU 8 C _).1,c⟩
 . have a:tells (lS D L G) (ae (aC (D+L+G) lost))=ZY:=b;rw [d] at a;cases a
def di (D L G lost:Nat) (C:Ck):List St:=fK (aT 8 C (bN (D+L+G) lost)).1 (aC (D+L+G) lost) (bN (D+L+G) lost)
section
def lj (D:List a9) (R:List a9) (P:List St):List a9:=P.foldl (λR s=>dL D s R) R
def tU (D R:List a9):lj D R []=R:=rfl
def He (D R:List a9) (s:St) (P:List St):lj D R (s::P)=lj D (dL D s R) P:=rfl
def lV (D R:List a9) (P Q:List St):lj D R (P++Q)=lj D (lj D R P) Q:=by unfold lj;rw [V3]
def tV (P:List St) (D a:List a9):∀ k,k<=P.length->bU P D a k=lj D a (P.take k)
 | 0,_=>by simp [bU,lj]
 | k+1,h=>by
  have b:k<P.length:=eb
  show dL D (cF P k) (bU P D a k)=_;rw [tV P D a k eb,eI P k b,abn b,lV];rfl
def tW (P:List St) (D a:List a9):∀ k,k<=P.length->(∀ i (h:i<P.length),i<k->P[i].k≠2)->dM P D a k=[]
 | 0,_,_=>rfl
 | k+1,h,hn=>by
  have b:k<P.length:=eb
  show im (cF P k) _ _=[];rw [tW P D a k eb (λi c d=>hn i c eb),eI P k b];unfold im;rw [if_neg (hn k b eb)]
def BG (D R:List a9) {s:St} (h:s.k=2):dL D s R=R:=by
 unfold dL;rw [if_neg eb,if_neg eb]
def tX (A Q:List St) (D c:List a9) (g:∀ s∈A,s.k≠2) (j:∀ s∈Q,s.k=2):∀ k,k<=Q.length ->
 bU (A++Q) D c (A.length+k)=lj D c A/\dM (A++Q) D c (A.length+k)=(Q.take k).map (λs=>(s.b,(lj D c A).getD s.a.toNat []))
 | 0,_=>by
  refine ⟨?_,?_⟩
  . rw [Vs,tV _ _ _ _ ek];simp
  . rw [Vs,tW _ _ _ _ ek (λi l d=>by rw [WZ d];exact g _ (T4 d))];simp
 | k+1,h=>by
  obtain ⟨e,o⟩:=tX A Q D c g j k eb;have m:k<Q.length:=eb
  have l:A.length+k<(A++Q).length:=en
  have n:cF (A++Q) (A.length+k)=Q[k]:=by rw [eI _ _ l,Xo eb];simp
  have f:=j _ (T4 m);refine ⟨?_,?_⟩
  . show dL D (cF (A++Q) (A.length+k)) (bU (A++Q) D c (A.length+k))=_;rw [n,e,BG D _ f]
  . show im (cF (A++Q) (A.length+k)) (bU (A++Q) D c (A.length+k)) (dM (A++Q) D c (A.length+k))=_;rw [n,e,o];unfold im;rw [if_pos f,abn m,Uu];rfl
def xl (f:Nat->Nat) (K:a9):Nat:=K.foldr (λi a=>f i^^^a) 0
def KV (f:Nat->Nat):xl f []=0:=rfl
def Fy (f:Nat->Nat) (i:Nat) (K:a9):xl f (i::K)=f i^^^xl f K:=rfl
structure Rg (R:List a9) (T m:Nat) (v:Nat->Nat->Nat):Prop where
 len:R.length=1+T
 row:∀ r,r<T->R.getD (1+r) []=(YC m).map (v r)
def oX {R:List a9} {a:Nat} {x:a9} (c:a<R.length):(R.set a x).getD b []=if a=b then x else R.getD b []:=by
 rw [T6,YN];by_cases e:a=b
 . subst e;simp [c]
 . simp [e]
theorem Ek (m:Nat) (v:Nat->Nat) (y:a9) (c:Nat):iJ ((YC m).map v) y c=(YC m).map (λq=>v q^^^gm c (y.getD q 0)):=by
 unfold iJ;rw [TZ,Uv];apply VZ;intro q a;have:=Uq.1 a;simp [this]
theorem BH (B:Ck) (D:List a9) (i T m:Nat) (y:a9) (v:Nat->Nat->Nat) {R:List a9} (h:Rg R T m v) (l:R.getD 0 []=y):∀ k,k<=T ->
 (lj D R (gB B i k)).getD 0 []=y/\Rg (lj D R (gB B i k)) T m (λr q=>if r<k then v r q^^^gm (B.m r i) (y.getD q 0) else v r q)
 | 0,_=>by rw [tT,tU];exact ⟨l,h.len,λr d=>by rw [h.row r d];simp⟩
 | k+1,hk=>by
  obtain ⟨f,a⟩:=BH B D i T m y v h l k eb;by_cases g:B.m k i=0
  . rw [xI B i k g];refine ⟨f,a.len,λr d=>?_⟩;rw [a.row r d];apply VZ;intro q _;by_cases c:r<k
    . rw [if_pos c,if_pos eb]
    . by_cases e:r=k
      . subst e;rw [if_neg c,if_pos eb,g,cM,Vg]
      . rw [if_neg c,if_neg eb]
  . rw [BE B i k g,lV];generalize h5:lj D R (gB B i k)=b at f a;have n:lj D b [⟨1,1+(k:Int),0,B.m k i⟩]=b.set (1+k) (iJ (b.getD (1+k) []) (b.getD 0 []) (B.m k i)):=by
     show dL D ⟨1,1+(k:Int),0,B.m k i⟩ b=_;unfold dL;have e:(1+(k:Int)).toNat=1+k:=eb;simp only [e];rw [if_neg ec,if_pos trivial];rfl
    have j:1+k<b.length:=(by rw [a.len];omega);rw [n];refine ⟨by rw [oX j,if_neg eb];exact f,by rw [Xr];exact a.len,λr d=>?_⟩;rw [oX j,f];by_cases e:r=k
    . subst e;rw [if_pos rfl,a.row r d,Ek];apply VZ;intro q _;rw [if_neg eb,if_pos eb]
    . rw [if_neg eb,a.row r d];apply VZ;intro q _;by_cases c:r<k
      . rw [if_pos c,if_pos eb]
      . rw [if_neg c,if_neg eb]
theorem NG (B:Ck) (D:List a9) (i m:Nat) (v:Nat->Nat->Nat) {R:List a9} (a:Rg R B.told m v):Rg (lj D R (lT B i)) B.told m (λr q=>v r q^^^gm (B.m r i) ((D.getD i []).getD q 0)):=by
 cases hr:cy B i
 . rw [lU hr,tU];refine ⟨a.len,λr h=>?_⟩;rw [a.row r h];apply VZ;intro q _;rw [ij.1 hr r h,cM,Vg]
 . rw [iy hr,He];have b:0<R.length:=(by rw [a.len];omega);have e:dL D ⟨0,0,(i:Int),0⟩ R=R.set 0 (D.getD i []):=by
    unfold dL;rw [if_pos rfl];rfl
   rw [e];have d:Rg (R.set 0 (D.getD i [])) B.told m v:=⟨by rw [Xr];exact a.len,λr h=>by rw [oX b,if_neg eb];exact a.row r h⟩;obtain ⟨_,c⟩:=BH B D i B.told m (D.getD i []) v d (by rw [oX b,if_pos rfl]) B.told lR;refine ⟨c.len,λr h=>?_⟩;rw [c.row r h];apply VZ;intro q _;rw [if_pos h]
theorem KW (B:Ck) (D:List a9) (m:Nat):∀ (K:a9) (v:Nat->Nat->Nat) (R:List a9),Rg R B.told m v->Rg (lj D R (wrTo B K)) B.told m (λr q=>v r q^^^xl (λi=>gm (B.m r i) ((D.getD i []).getD q 0)) K)
 | [],v,R,h=>by
  rw [show wrTo B []=[] from rfl,tU];exact ⟨h.len,λr a=>by rw [h.row r a];simp [KV]⟩
 | i::K,v,R,h=>by
  have e:wrTo B (i::K)=lT B i++wrTo B K:=by unfold wrTo;simp
  rw [e,lV];have:=KW B D m K _ _ (NG B D i m v h);refine ⟨this.len,λr a=>?_⟩;rw [this.row r a];apply VZ;intro q _;rw [Fy,Vu]
def KX (T m:Nat):Rg (eZ (1+T) m) T m (λ_ _=>0):=by
 refine ⟨by simp [eZ],λr a=>?_⟩;unfold eZ;have:1+r<1+T:=eb
 rw [T6,abg,if_pos this];simp [List.map_const']
def KY {D:List a9} (h:∀ s∈P,s.k=0->(D.getD s.b.toNat []).length=m):∀ k,k<=P.length->fl P D k=ZY\/fl P D k=ZX m
 | 0,_=>.inl rfl
 | k+1,hk=>by
  rcases KY h k eb with e|e
  . by_cases a:(cF P k).k=0
    . rw [zl P D k e a];rw [eI P k eb] at a ⊢;exact .inr (by rw [h _ (T4 _) a])
    . rw [tf P D k a];exact .inl e
  . exact .inr (oD P D k m e)
def BI {D:List a9} (h:∀ s∈P,s.k=0->(D.getD s.b.toNat []).length=m) {k:Nat} (a:k<P.length) (c:P[k].k=0):fl P D (k+1)=ZX m:=by
 rcases KY h k eb with e|e
 . rw [zl P D k e (by rw [eI P k a];exact c),eI P k a,h _ (T4 a) c]
 . exact oD P D k m e
def tY:rk lost i↔lost.testBit i=ZW:=by
 unfold rk;rw [abb];simp
section
variable {D L G lost m:Nat} {C:Ck} {Dt:List a9}
def tZ (c:D+L+G<=16) {s:St} (e:s∈di D L G lost C) (a:s.k=0):∃ i:Nat,s.b=(i:Int)/\i<D+L+G/\lost.testBit i=ZV:=by
 rcases Ej e with ⟨i,d,rfl⟩|⟨_,_,_,_,rfl⟩|⟨_,_,rfl⟩
 . exact ⟨i,rfl,(oV c).1 d⟩
 . exact absurd a (Nat.one_ne_zero)
 . exact absurd a (Nat.succ_ne_zero 1)
end
theorem BJ {G:Nat} (d:D<=12) (e:G<=4) (b:D+L+G<=16) (c:tells (lS D L G) (ae (aC (D+L+G) lost))=ZX C):∀ s∈di D L G lost C,zj s:=by
 intro s k;have a:=(oW d e c).1;have:=a.le;have:=a.So;rcases Ej k with ⟨i,g,rfl⟩|⟨i,_,r,o,rfl⟩|⟨j,h,rfl⟩
 . have:=((oV b).1 g).1;exact ⟨ZD,by show -9223372036854775808<=(0:Int);omega,by show (0:Int)<=9223372036854775807;omega,by show -9223372036854775808<=(i:Int);omega,by show (i:Int)<=9223372036854775807;omega,ZD⟩
 . exact ⟨by show 1<256;decide,by show -9223372036854775808<=(1:Int)+(r:Int);omega,by show (1:Int)+(r:Int)<=9223372036854775807;omega,by show -9223372036854775808<=(0:Int);omega,by show (0:Int)<=9223372036854775807;omega,a.byt r i⟩
 . have:(ae (aC (D+L+G) lost)).length<=16:=TU (Wq _ _) ek;have f:=((cZ b).1 (T4 h)).1;generalize (ae (aC (D+L+G) lost))[j]=y at f;exact ⟨by show 2<256;decide,by show -9223372036854775808<=(j:Int)+1;omega,by show (j:Int)+1<=9223372036854775807;omega,by show -9223372036854775808<=(y:Int);omega,by show (y:Int)<=9223372036854775807;omega,ZD⟩
def KZ {G:Nat} (e:D<=12) (j:L<=4) (f:G<=4) (c:D+L+G<=16) (d:tells (lS D L G) (ae (aC (D+L+G) lost))=ZX C):iI (1+((ae (aC (D+L+G) lost)).length:Int)) (di D L G lost C) ((D+L+G:Nat):Int):=by
 have b:=(oW e f d).1;have:=b.le;have:=b.So;exact RK b.told eb (λi a=>((oV c).1 a).1) (λi a=>((cZ c).1 a).1)
end
def Fz (s:Nat) (f:Nat->Bool):((ae s).filter f).length=cp (λi=>s.testBit i&&f i) 16:=by
 unfold ae;rw [Ys,wE];exact sP 16 (λi _=>by rw [Bool.and_comm])
section
attribute [local go_sem] Oper.semAt_some
structure CF (w:ZU) (D L G:Nat) (X:ZU):Prop where
 par:X.heap[w.heap.size]?=ZX (Z4 #[Z7 Z9 (D:Int),Z7 Z9 (L:Int),Z7 Z9 (G:Int)] 26 (0,0))
 res:aH X (w.heap.size+1) dq
 err:ZQ X (w.heap.size+1+1) 42 .nilIface
 below:bW w X
def CF.mono {G:Nat} (h:CF w D L G X) (a:ZS B X Y) (b:w.heap.size+3<=B):CF w D L G Y:=
 ⟨(a.block _ eb).trans h.par,h.res.keep (a.block _ eb),(a.block _ eb).trans h.err,h.below.trans (a.mono eb)⟩
def CF.own {G:Nat} (h:CF w D L G X) (c:w.heap.size+3<=B) (a:X.grownBy Y row) (b:∀ r,row=ZX r->B<=r):CF w D L G Y:=
 h.mono (B:=w.heap.size+3) ⟨a.os,a.tape,a.output,a.size,λk d=>a.block k (eT h.err.lt) (λe=>eT (b k e.symm))⟩ lR
def eu {x z:ZT} {t:TypeId} (h:X.heap[b]?=ZX (Z4 #[x,y,z] t (0,0))):X.cell? ⟨b,0,ZY⟩=ZX x/\X.cell? ⟨b,1,ZY⟩=ZX y/\X.cell? ⟨b,2,ZY⟩=ZX z:=by simp [World.cell?,h]
def PS (D L G S:Nat) (w:ZU) (e:Ending) (w':ZU):Prop:=
 bW w w'/\((tells (lS D L G) (ae S)=ZY/\e=Z3 (.tuple #[.agg (aV dq),.iface 54 (Z7 Z9 3)])) \/
  (∃ C,tells (lS D L G) (ae S)=ZX C/\e=Z3 (.tuple #[.agg (aV C),.nilIface])))
def El (pre:List Sh):a9:=pre.map (·.1)
def Hf (pre:List Sh) (x:Sh):El (pre++[x])=El pre++[x.1]:=by unfold El;simp
def CfI (w:ZU) (D L G Bc B:Nat) (pre:List Sh) (X:ZU):Prop:=CF w D L G X/\(∃ C,tells (lS D L G) (El pre)=ZX C/\aH X Bc C)/\B<=X.heap.size
def CfX (w:ZU) (D L G B:Nat) (c:Code) (pre:List Sh) (X:ZU):Prop:=c=.ret/\tells (lS D L G) (El pre)=ZY/\bW w X/\B<=X.heap.size /\
 aH X (w.heap.size+1) dq/\ZQ X (w.heap.size+1+1) 42 (.iface 54 (Z7 Z9 3))
def CfI.own {G Bc:Nat} (h:w.heap.size+3<=B) (i:Bc<B):OwnFrom B (CfI w D L G Bc B):=by
 rintro pre X Y row ⟨d,⟨C,f,b⟩,g⟩ a c;exact ⟨d.own h a (λr e=>(c r e).1),⟨C,f,b.keep (a.block _ b.lt (λe=>eT ((c _ e.symm).1)))⟩,TU g a.size⟩
def CfX.own {G:Nat} (m:w.heap.size+3<=B) (c:Code):OwnFrom B (CfX w D L G B c):=by
 rintro pre X Y row ⟨g,h,d,i,j,l⟩ a f;have b:∀ k,k<w.heap.size+3->Y.heap[k]?=X.heap[k]?:=λk b=>a.block k eb (λe=>eT ((f k e.symm).1));exact ⟨g,h,d.grown a d.size (λk e=>eT ((f k e).1)),TU i a.size,j.keep (b _ eb),(b _ eb).trans l⟩
def ry (h:aH X b C) (cs:Array ZT):KeepsOthers X (X.setRow b cs):=
 abm (aP _ _ _) (λj o e ho=>by cases e;rw [h.heap] at ho;cases ho;rfl)
def Em (h:aH w b C):(loadVar 322 ⟨b,0,ZY⟩).run ZP w=.ok (.agg (aV C)) w:=WE w b 322 322 (aV C) (0,0) _ h.heap Xk rfl (dA C)
theorem K2 {Z:ZU} {D':Nat} {ev:ZT} {R:Ending->ZU->Prop} (c:a.defers=[{ target:=.collected D',args:=#[] }]) (h4:a.tmps.getD 4 ZZ=Z6 (ZX ⟨w.heap.size+1,0,ZY⟩)) (h5:a.tmps.getD 5 ZZ=Z6 (ZX ⟨w.heap.size+1+1,0,ZY⟩))
 (h1:aH Z (w.heap.size+1) C) (h0:ZQ Z (w.heap.size+1+1) 42 ev) (hK:Z.heap[D']?=ZX (.deferred (ZX []))) (hD:w.heap.size+3<=D')
 (hR:R (Z3 (.tuple #[.agg (aV C),ev])) (Z.putObj D' (.deferred ZY))):bodyPostM Fence.wide n ZP Tryz.f198 R .ret a Z:=by
 obtain ⟨d,i⟩:=a;simp only at c h4 h5;subst c;refine ⟨ek,.inl ⟨_,_,rfl,Wd hK,?_⟩⟩;have e:=Em (show aH (Z.putObj D' (.deferred ZY)) (w.heap.size+1) C from h1.keep (UE eb));have f:=(show ZQ (Z.putObj D' (.deferred ZY)) (w.heap.size+1+1) 42 ev from (UE eb).trans h0).cell;have b:(loadVar 42 ⟨w.heap.size+1+1,0,ZY⟩).run ZP (Z.putObj D' (.deferred ZY))=.ok ev (Z.putObj D' (.deferred ZY)):=by simp [go_sem,f]
 refine ⟨.tuple #[.agg (aV C),ev],?_,hR⟩;have g:d[4]?.getD ZZ=Z6 (ZX ⟨w.heap.size+1,0,ZY⟩):=vE h4
 have h:d[5]?.getD ZZ=Z6 (ZX ⟨w.heap.size+1+1,0,ZY⟩):=vE h5
 simp [results,results198,asAddr,g,h,e,b]
theorem kZ (D L G S:Nat) (hr:cJ D L G=ZW) (qc:1<=D) (hD:D<=12) (hL:1<=L) (ka:L<=4) (hG:G<=4) (hx:D%L=0) (qg:D+L+G<=16) (hS:S<65536) (w:ZU) (hT:aK w) (h2:3<=w.heap.size) :
 ZR ZP 198 #[.agg #[Z7 Z9 D,Z7 Z9 L,Z7 Z9 G],Z7 Z8 S] w λe w'=>PS D L G S w e w':=by
 obtain ⟨n,HN⟩:∃ n:Nat,Hid (9<=n):=⟨9,TV _⟩;refine (U6 (n:=n)).1 ?_;refine VS func198 rfl trivial ?_ rfl;simp only [ntmps198,Uy,Um,UQ,YE,YF,UX,UY,UZ,U0,Uk,UH];have hz:=zeroCk;gi_wp2;refine bX (jZ D L G hr hD hL ka hG hx _) ?_;rintro e w1 ⟨v,T,rfl,kb,hH,F⟩;have Y:(((w.alloc (Z4 #[Z7 Z9 (D:Int),Z7 Z9 (L:Int),Z7 Z9 (G:Int)] 26)).alloc (Z4 (aV dq) 322)).alloc (Z4 #[.nilIface] 42)).heap.size=w.heap.size+3:=ek
 have kh:CF w D L G (((w.alloc (Z4 #[Z7 Z9 (D:Int),Z7 Z9 (L:Int),Z7 Z9 (G:Int)] 26)).alloc (Z4 (aV dq) 322)).alloc (Z4 #[.nilIface] 42)):=by
  obtain ⟨a1,a2,a3,a4⟩:=J2 w (Z4 #[Z7 Z9 (D:Int),Z7 Z9 (L:Int),Z7 Z9 (G:Int)] 26) (Z4 (aV dq) 322) (Z4 #[.nilIface] 42);exact ⟨a2,aH.of_heap a3,a4,((bA w _).alloc ek _).alloc en _⟩
 try change ZS _ _ _ at F
 rw [Y] at F;have Q:=kh.mono F lR;have M:=F.size;try change ZS _ _ _ at M
 rw [Y] at M;clear kh F Y;have hM:bE D L G≠[]:=λe=>by have:=gj D L G;rw [e] at this;simp at this;omega
 obtain ⟨g,c,rfl,hs,kg⟩:=KT kb hH (mN D L G) hM;obtain ⟨p0,p1,p2⟩:=eu Q.par;have ki:ZR ZP 204 #[Z5 (ZX ⟨g,0,ZY⟩) (bE D L G).length c,Z7 Z9 D] w1 λe w'=>e=Z3 (.agg (aV (lS D L G)))/\bW w1 w':=by
  have ha:=gj D L G;have h:=zK g 0 c (bE D L G) D w1 hs (λi a=>kg i a) qc eb eb eb (λi a=>by
   have e:(bE D L G).getD i []=(bE D L G)[i]:=Zv;rw [e];exact mN D L G _ (T4 a))
  try change ZS _ _ _ at h
  rw [(eb:(bE D L G).length-D=L+G)] at h;exact h
 have k6:=al Q;clear kb hH Q kg;gi_wp2;refine bX ki ?_;clear ki;rintro e b ⟨rfl,W⟩;have kr:=W.size;have h6:=k6.out.mono W eb;have kc:bW b ((b.alloc (Z4 (aV dq) 322)).setRow b.heap.size (aV (lS D L G))):=(bA _ _).grown (aP _ _ _) ek (λk e=>D2);have ke:aH ((b.alloc (Z4 (aV dq) 322)).setRow b.heap.size (aV (lS D L G))) b.heap.size (lS D L G):=(aH.new b dq).setRow (lS D L G);have h7:=h6.mono kc eb;have kz:((b.alloc (Z4 (aV dq) 322)).setRow b.heap.size (aV (lS D L G))).heap.size=b.heap.size+1:=B2
 have H:=aE ke h7 kz;clear k6 W h6 kc ke h7 kz;gi_wp2_with (refine jH rfl (Z0 8) (Z0 22) rfl b.heap.size (lS D L G) dq rfl rfl (aH.new b dq) ?_)
 obtain ⟨d,kv⟩:=nM ((b.alloc (Z4 (aV dq) 322)).setRow b.heap.size (aV (lS D L G)));rw [kv] at H ⊢;clear kv;refine bX (dj S d) ?_;rintro e w' ⟨rfl,rfl⟩;have q0:(d.alloc (Z4 #[Z7 Z8 (S:Int)] 131)).heap.size=d.heap.size+1:=ek
 have kf:(d.alloc (Z4 #[Z7 Z8 (S:Int)] 131)).cell? ⟨d.heap.size,0,ZY⟩=ZX (Z7 Z8 (S:Int)):=(Bx.new d 131 (Z7 Z8 (S:Int))).cell;have kk:CfI w D L G b.heap.size (d.heap.size+1) [] (d.alloc (Z4 #[Z7 Z8 (S:Int)] 131)):=by
  have E:bW d (d.alloc (Z4 #[Z7 Z8 (S:Int)] 131)):=bA _ _;obtain ⟨u,y,m⟩:=H.out;exact ⟨y.mono E eb,⟨lS D L G,rfl,u.keep (E.block _ eb)⟩,eb⟩
 obtain ⟨A,kx⟩:=nM (d.alloc (Z4 #[Z7 Z8 (S:Int)] 131));have hf:=H.out.2.2;have K:=a5 q0 hf M kr;have J:=al kf;have s:=al kk;clear q0 kf kk H hf M kr p0 p1 p2;gi_wp2;try change ZS _ _ _ at K
 try change ZS _ _ _ at J
 try change ZS _ _ _ at s
 rw [kx] at K J s;clear kx;have qa:w.heap.size+3<=A.heap.size/\b.heap.size<A.heap.size/\A.heap.size=d.heap.size+1:=by obtain ⟨u,y,m,N⟩:=K.out;omega
 obtain ⟨k7,q9,U⟩:=qa;try change ZS _ _ _ at s
 rw [<- U] at s;have q6:=al U;clear U;refine VT rfl (eT HN.out) (gf:=156) (lb:=#[Z6 (ZX ⟨d.heap.size,0,ZY⟩)]) rfl trivial (UR func156 ei rfl)
  (eH (n-1) d.heap.size S hS A (eT q6.out) J.out eb (hT.mono eb s.out.1.below)) (λh k=>qX h k) (qY eb) (TX _ _) (λ_=>rfl)
  (CfI w D L G b.heap.size A.heap.size) (CfX w D L G A.heap.size) (CfI.own k7 q9) (CfX.own k7) s.out
  (λx=>{ tmps:=#[.agg #[Z7 Z9 (D:Int),Z7 Z9 (L:Int),Z7 Z9 (G:Int)],Z7 Z8 (S:Int),Z6 (ZX ⟨w.heap.size,0,ZY⟩),ZZ,Z6 (ZX ⟨w.heap.size+1,0,ZY⟩),Z6 (ZX ⟨w.heap.size+1+1,0,ZY⟩),Z5 (ZX ⟨g,0,ZY⟩) (bE D L G).length c,.nilIface,Z6 (ZX ⟨b.heap.size,0,ZY⟩),Z7 Z9 (x.1:Int),.tuple #[Z5 (ZX ⟨g,0,ZY⟩) (bE D L G).length c,.nilIface],.agg #[Z7 Z9 (D:Int),Z7 Z9 (L:Int),Z7 Z9 (G:Int)],.tuple #[Z5 (ZX ⟨g,0,ZY⟩) (bE D L G).length c,.nilIface],Z5 (ZX ⟨g,0,ZY⟩) (bE D L G).length c,.nilIface,.nilIface,Z1 ZV,ZZ,ZZ,Z5 (ZX ⟨g,0,ZY⟩) (bE D L G).length c,Z6 (ZX ⟨w.heap.size,0,ZY⟩),Z7 Z9 (D:Int),.agg (aV (lS D L G)),Z7 Z8 (S:Int),.func (.func 156) #[] #[Z6 (ZX ⟨d.heap.size,0,ZY⟩)],Z7 Z9 (x.1:Int),ZZ,ZZ,ZZ,ZZ,ZZ,ZZ],defers:=[] }) ?assign ?body ?done ?stop
 case assign=>
  intro l2 x X Kk hK;unfold qW;gi_wp2;exact hK
 case body=>
  rintro l2 pre x X ⟨a,⟨C,l,z⟩,t⟩ ha;have h9:=zL hD ka hG l;have ks:=tQ b.heap.size x.1 C X z h9 x.2;have I:tells (lS D L G) (El (pre++[x]))=pI C x.1:=by rw [Hf,jS,l];rfl
  have j:=al a;have HX:=al t;clear t ha l z h9;have ce:=a.err.cell;have fe:=a.err.frozen;clear a;gi_wp2;refine dS ks ?_;clear ks;rintro e w2 (⟨km,rfl,qf⟩|⟨C',ko,rfl,k8,kj⟩)
  . subst qf;have q8:=al (I.trans km);clear I km;have f:ZQ (w2.setRow (w.heap.size+1) (aV dq)) (w.heap.size+1+1) 42 .nilIface:=((aP _ _ _).block _ j.out.err.lt (λe=>eT (UA e))).trans j.out.err;have O:=f.cell;have P:=f.frozen;have q7:=al f;clear f;gi_wp2_with (refine jH rfl (Z0 4) (Z0 29) rfl (w.heap.size+1) dq dq rfl rfl j.out.res ?_)
    have a:=j.out;have V:bW w (w2.setRow (w.heap.size+1) (aV dq)):=a.below.grown (aP _ _ _) a.below.size (λq e=>Zf);refine ⟨?_,rfl,q8.out,?_,?_,?_,?_⟩
    . exact ((ry j.out.res _).trans (Vz _ _ _)).from _
    . exact V.setCell (p:=⟨w.heap.size+1+1,0,ZY⟩) (by show w.heap.size<=w.heap.size+1+1;omega) _
    . have:=HX.out;simpa [World.setCell,World.setRow] using this
    . exact (a.res.setRow dq).keep (VY _ _ _ _ (by show w.heap.size+1≠w.heap.size+1+1;omega))
    . exact q7.out.set _
  . have H2:=aE (I.trans ko) k8 kj;clear I ko k8 kj;gi_wp2;obtain ⟨u,y,m⟩:=H2.out;have h5:=j.out.own (B:=w.heap.size+3) lR m (λr e=>by cases e;obtain ⟨u,y,m,N⟩:=K.out;omega);exact ⟨⟨m.size,λk o hk ho _=>(m.block k (TW.1 ho).1 (λe=>Zf)).trans ho⟩,λ_=>hT.mono eb h5.below,h5,⟨C',u,y⟩,TU HX.out m.size⟩
 case done=>
  rintro Z xs X qb ky ⟨a,⟨C,l,z⟩,t⟩ hK;try change ZS _ _ _ at l
  rw [show El xs=ae S from ky] at l;have f:ZQ (X.setRow (w.heap.size+1) (aV C)) (w.heap.size+1+1) 42 .nilIface:=((aP _ _ _).block _ a.err.lt (λe=>eT (UA e))).trans a.err;have O:=f.cell;have P:=f.frozen;have j:=a8 a z t hK l f;clear a z t hK l ky xs s J f;gi_wp2_with (first
   | refine kH rfl (Z0 8) rfl b.heap.size C rfl j.out.2.1 ?_
   | refine jH rfl (Z0 4) (Z0 31) rfl (w.heap.size+1) C dq rfl rfl j.out.1.res ?_)
  obtain ⟨a,z,t,hK,l,f⟩:=j.out;have V:bW w (X.setRow (w.heap.size+1) (aV C)):=a.below.grown (aP _ _ _) a.below.size (λq e=>Zf);have qd:=V.setCell (p:=⟨w.heap.size+1+1,0,ZY⟩) (by show w.heap.size<=w.heap.size+1+1;omega) .nilIface;have qe:=(ry a.res (aV C)).trans (Vz _ ⟨w.heap.size+1+1,0,ZY⟩ .nilIface);have k9:=qe.same Z _ hK rfl;exact K2 (w:=w) rfl rfl rfl ((a.res.setRow C).keep (VY _ _ _ _ (by show w.heap.size+1≠w.heap.size+1+1;omega))) (f.set _) k9 eb
   ⟨Below.RY qd eb (TW.1 k9).1 _,.inr ⟨C,l,rfl⟩⟩
 case stop=>
  rintro Z cc pre X qb k0 ⟨rfl,kp,E,t,he,h8⟩ hK;have hc:tells (lS D L G) (ae S)=ZY:=by
   obtain ⟨R,hR⟩:=k0;rw [<- hR];exact iV _ _ _ kp
  have HH:=a7 E he h8 hK hc;clear E he h8 hK hc kp;gi_wp2;obtain ⟨u,y,m,N,q5⟩:=HH.out;exact K2 (w:=w) rfl rfl rfl y m N eb ⟨Below.RY u eb (TW.1 N).1 _,.inl ⟨q5,rfl⟩⟩
end
section
attribute [local go_sem] Oper.semAt_some
structure WI (w:ZU) (C:Ck) (regs:Int) (L:List St) (X:ZU):Prop where
 ck:aH X w.heap.size C
 res:X.heap[w.heap.size+1]?=ZX (Z4 #[Z7 Z9 0,Z5 ZY 0 0] 189 (0,0))
 pb:PB X (w.heap.size+3) (w.heap.size+1+1) regs L
 below:bW w X
theorem WI.own {L:List St} (h:WI w C regs L X) (d:w.heap.size+3<=B) (a:X.grownBy Y row) (c:∀ r,row=ZX r->B<=r/\∃ o:Obj,X.heap[r]?=ZX o/\o.isCells=ZV):WI w C regs L Y:=by
 have:=h.pb.2.1;have b:∀ k,k<w.heap.size+3->Y.heap[k]?=X.heap[k]?:=λk b=>a.block k eb (λe=>eT ((c k e.symm).1));exact ⟨h.ck.keep (b _ eb),(b _ eb).trans h.res,h.pb.own d a c,h.below.grown a h.below.size (λk e=>eT ((c k e).1))⟩
def WI.next {L:List St} {s:St} (h:WI w C regs L X) (d:X.heap[w.heap.size+1+1]?=ZX (Z4 #[Z7 Z9 regs,v] 189 (0,0))) (e:X.ownsRow (w.heap.size+3) 288 4 v L.length (dW .u8 L))
 (g:(X.alloc ob).grownBy w2 v.ownBlock) (f:w.heap.size+3<=g') (c:w2.ownsRow (w.heap.size+3) 288 4 (Z5 (ZX ⟨g',0,ZY⟩) (L.length+1) cap') (L.length+1) (dW .u8 (L++[s]))) :
 w2.cell? ⟨w.heap.size+1+1,1,ZY⟩=ZX v/\w2.frozen? ⟨w.heap.size+1+1,1,ZY⟩=ZV/\(WI w C regs (L++[s]) (w2.setCell ⟨w.heap.size+1+1,1,ZY⟩ (Z5 (ZX ⟨g',0,ZY⟩) (L.length+1) cap'))/\KeepsOthers X (w2.setCell ⟨w.heap.size+1+1,1,ZY⟩ (Z5 (ZX ⟨g',0,ZY⟩) (L.length+1) cap'))):=by
 obtain ⟨i,j,l,a,b,m,n,o⟩:=PB.next (n0:=w.heap.size+3) (Bg:=w.heap.size+1+1) eb h.pb.2.1 d e g f c;refine ⟨j,l,⟨h.ck.keep (a _ eb eb),(a _ eb eb).trans h.res,i,h.below.trans ⟨m,n,o,?_,λk p=>a k eb eb⟩⟩,b⟩;exact b.size
def WI.told {L:List St} (h:WI w C regs L X):X.cell? ⟨w.heap.size,128,ZY⟩=ZX (Z7 Z9 (C.told:Int)):=h.ck.SE
def BK (X:ZU) (s:St):∀ j v,(GC .u8 s)[j]?=ZX v->(X.alloc (Z4 #[Z7 .u8 (s.k:Int),Z7 Z9 s.a,Z7 Z9 s.b,Z7 .u8 (s.c:Int)] 288)).cell? ((⟨X.heap.size,0,ZY⟩:Addr).add j)=ZX v:=
 AU X X.heap.size rfl _ _ _ _ _
def Hg (C:Ck) (pre:List Sh):List St:=wrTo C (pre.map (·.1))
def FA (C:Ck) (pre:List Sh) (i k:Nat):List St:=Hg C pre++[⟨0,0,(i:Int),0⟩]++gB C i k
theorem NH (C:Ck) (a:dV C) (pre:List Sh) (s:Nat) (h:pre.length<(ae s).length) (i k:Nat) (l:k<=C.told):(Hg C pre).length<=200/\(FA C pre i k).length<=300:=by
 have b:=si C (pre.map (·.1));have:=BF C i k;have:(ae s).length<=16:=by rw [<- kI s];exact qC s
 have:=a.le;have:=a.So;have c:(pre.map (·.1)).length*(C.told+1)<=16*9:=WT (by rw [TZ];omega) eb;have:(Hg C pre).length<=144:=TU b c;refine ⟨eb,?_⟩;unfold FA;simp only [T5,abl];omega
def K3 (C:Ck) (pre:List Sh) (i:Nat):FA C pre i 0=Hg C pre++[⟨0,0,(i:Int),0⟩]:=by unfold FA;rw [tT,V7]
def PT (pre:List Sh) {i k:Nat} (h:C.m k i≠0):FA C pre i (k+1)=FA C pre i k++[⟨1,1+(k:Int),0,C.m k i⟩]:=by unfold FA;rw [BE C i k h,<- UI]
def NI (pre:List Sh) {i k:Nat} (h:C.m k i=0):FA C pre i (k+1)=FA C pre i k:=by unfold FA;rw [xI C i k h]
def NJ {x:Sh} (h:cy C x.1=ZW):FA C pre x.1 C.told=Hg C (pre++[x]):=by
 unfold FA Hg;rw [Uu,YL,xH,iy h];simp
def PU {x:Sh} (h:cy C x.1=ZV):Hg C pre=Hg C (pre++[x]):=by
 unfold Hg;rw [Uu,YL,xH,lU h];simp
def Hh (X:ZU) (n:Nat) (d:n=X.heap.size) (s:St):∀ j v,(GC .u8 s)[j]?=ZX v->(X.alloc (Z4 #[Z7 .u8 (s.k:Int),Z7 Z9 s.a,Z7 Z9 s.b,Z7 .u8 (s.c:Int)] 288)).cell? ((⟨n,0,ZY⟩:Addr).add j)=ZX v:=
 AU X n d _ _ _ _ _
def NK {s:Nat} (h:pre.map (·.1)=ae s):Hg C pre=wrTo C (ae s):=by unfold Hg;rw [h]
def xJ (C:Ck) (kept:Nat) (pre:List Sh):List St:=wrTo C (ae kept)++gC (pre.map (·.1))
def NL (C:Ck) (kept:Nat):xJ C kept []=wrTo C (ae kept):=by unfold xJ gC;simp
def K4 (C:Ck) (kept:Nat) (pre:List Sh) (x:Sh):xJ C kept (pre++[x])=xJ C kept pre++[⟨2,(pre.length:Int)+1,(x.1:Int),0⟩]:=by
 unfold xJ;rw [Uu,YL,Ei,TZ,<- UI]
def NM (h:pre.map (·.1)=ae gone):xJ C kept pre=fK C gone kept:=by unfold xJ fK;rw [h]
theorem PV (C:Ck) (a:dV C) (kept:Nat) (pre:List Sh) (s:Nat) (h:pre.length<(ae s).length):(xJ C kept pre).length<=300:=by
 have c:=si C (ae kept);have:(ae s).length<=16:=by rw [<- kI s];exact qC s
 have b:(ae kept).length<=16:=by rw [<- kI kept];exact qC kept
 have:=a.le;have:=a.So;have d:(ae kept).length*(C.told+1)<=16*9:=WT b eb;have:(wrTo C (ae kept)).length<=144:=TU c d;unfold xJ gC;simp only [T5,TZ,Uv];omega
def K5 (h:X.ownsRow n0 288 4 v k xs) (b:ZQ X R 3 u):v.ownBlock≠ZX R:=by
 rcases h.2 with ⟨rfl,_⟩|⟨g,cap,cur,rfl,_,a,_⟩
 . intro e;cases e
 . intro e;obtain rfl:g=R:=Zh;rw [show X.heap[g]?=_ from b] at a;have:=UA a;cases this
theorem WI.set {L:List St} {u':ZT} (h:WI w C regs L X) (g:w.heap.size+3<=R) (c:ZQ X R 3 u):WI w C regs L (X.setCell ⟨R,0,ZY⟩ u'):=by
 have a:∀ k,k≠R->(X.setCell ⟨R,0,ZY⟩ u').heap[k]?=X.heap[k]?:=λk a=>VY _ _ _ _ a;obtain ⟨d,e,v,f,b⟩:=h.pb;exact ⟨h.ck.keep (a _ eb),(a _ eb).trans h.res,⟨d,by simpa [World.setCell] using e,v,(a _ eb).trans f,b.kept (cT X R 0 u') (.inr (K5 b c))⟩,h.below.setCell (p:=⟨R,0,ZY⟩) (by show w.heap.size<=R;omega) _⟩
structure WP (w:ZU) (C:Ck) (regs:Int) (kept R D:Nat) (pre:List Sh) (Y:ZU):Prop where
 wi:WI w C regs (xJ C kept pre) Y
 box:ZQ Y R 3 (Z7 Z9 (pre.length:Int))
 mark:Y.heap[D]?=ZX (.deferred (ZX []))
theorem WP.own (h:WP w C regs kept R D pre X) (d:w.heap.size+3<=B) (g:R<B) (f:D<B) (b:X.grownBy Y row) (c:∀ r,row=ZX r->B<=r/\∃ o:Obj,X.heap[r]?=ZX o/\o.isCells=ZV):WP w C regs kept R D pre Y:=by
 have a:∀ k,k<B->k<X.heap.size->Y.heap[k]?=X.heap[k]?:=λk a i=>b.block k i (λe=>eT ((c k e.symm).1));exact ⟨h.wi.own d b c,(a R g h.box.lt).trans h.box,(a D f (TW.1 h.mark).1).trans h.mark⟩
def WP.next {x:Sh} (h:WP w C regs kept R D pre X) (j:w.heap.size+3<=R)
 (g:(X.setCell ⟨R,0,ZY⟩ (Z7 Z9 ((pre.length:Int)+1))).heap[w.heap.size+1+1]?=ZX (Z4 #[Z7 Z9 regs,v] 189 (0,0))) (a:(X.setCell ⟨R,0,ZY⟩ (Z7 Z9 ((pre.length:Int)+1))).ownsRow (w.heap.size+3) 288 4 v (xJ C kept pre).length (dW .u8 (xJ C kept pre)))
 (d:((X.setCell ⟨R,0,ZY⟩ (Z7 Z9 ((pre.length:Int)+1))).alloc ob).grownBy w2 v.ownBlock) (i:w.heap.size+3<=g') (f:w2.ownsRow (w.heap.size+3) 288 4 (Z5 (ZX ⟨g',0,ZY⟩) ((xJ C kept pre).length+1) cap') ((xJ C kept pre).length+1) (dW .u8 (xJ C kept pre++[⟨2,(pre.length:Int)+1,(x.1:Int),0⟩]))) :
 w2.cell? ⟨w.heap.size+1+1,1,ZY⟩=ZX v/\w2.frozen? ⟨w.heap.size+1+1,1,ZY⟩=ZV/\(WP w C regs kept R D (pre++[x]) (w2.setCell ⟨w.heap.size+1+1,1,ZY⟩ (Z5 (ZX ⟨g',0,ZY⟩) ((xJ C kept pre).length+1) cap'))/\KeepsOthers X (w2.setCell ⟨w.heap.size+1+1,1,ZY⟩ (Z5 (ZX ⟨g',0,ZY⟩) ((xJ C kept pre).length+1) cap'))):=by
 have k:WI w C regs (xJ C kept pre) (X.setCell ⟨R,0,ZY⟩ (Z7 Z9 ((pre.length:Int)+1))):=h.wi.set j h.box;have c:ZQ (X.setCell ⟨R,0,ZY⟩ (Z7 Z9 ((pre.length:Int)+1))) R 3 (Z7 Z9 ((pre.length:Int)+1)):=h.box.set _;obtain ⟨l,m,n,o⟩:=k.next g a d i f;have b:=(Vz X ⟨R,0,ZY⟩ (Z7 Z9 ((pre.length:Int)+1))).trans o;refine ⟨l,m,⟨by rw [K4];exact n,?_,b.same D _ h.mark rfl⟩,b⟩;have b2:ZQ w2 R 3 (Z7 Z9 ((pre.length:Int)+1)):=(c.alloc ob).kept d (λe=>K5 a c e.symm);have b3:=(VY w2 ⟨w.heap.size+1+1,1,ZY⟩ (Z5 (ZX ⟨g',0,ZY⟩) ((xJ C kept pre).length+1) cap') R (by show R≠w.heap.size+1+1;omega)).trans b2;rw [T5];exact b3
def gD {x x':ZT} {t:TypeId} (h:Y.heap[b]?=ZX (Z4 #[x,y] t (0,0))):(Y.setCell ⟨b,0,ZY⟩ x').heap[b]?=ZX (Z4 #[x',y] t (0,0)):=by
 obtain ⟨a,c⟩:=TW.1 h;show (Y.heap.modify b _)[b]?=_;rw [Vr (by rw [YI];exact a),YK,c];rfl
def gE {x y':ZT} {t:TypeId} (h:Y.heap[b]?=ZX (Z4 #[x,y] t (0,0))):(Y.setCell ⟨b,1,ZY⟩ y').heap[b]?=ZX (Z4 #[x,y'] t (0,0)):=by
 obtain ⟨a,c⟩:=TW.1 h;show (Y.heap.modify b _)[b]?=_;rw [Vr (by rw [YI];exact a),YK,c];rfl
def fW {base base':Nat} {e:TypeId} {size:Nat} (h:w.ownsRow base e size v n xs) (f:base'<=base):w.ownsRow base' e size v n xs:=by
 refine ⟨h.1,?_⟩;rcases h.2 with b|⟨g,cap,cur,a,c,d⟩
 . exact .inl b
 . exact .inr ⟨g,cap,cur,a,TU f c,d⟩
def Hi:(ZP.info? 189).map (·.size)=ZX 2:=ei
theorem Hk (C:Ck) (gone kept:Nat) (w:ZU) (F:dV C) (hg:gone<65536) (hk:kept<65536) (T:aK w) (h2:3<=w.heap.size) :
 ZR ZP 201 #[.agg (aV C),Z7 Z8 gone,Z7 Z8 kept] w λe w'=>∃ v,e=Z3 (.agg #[Z7 Z9 (1+((ae gone).length:Int)),v])/\bW w w'/\w'.ownsRow w.heap.size 288 4 v (fK C gone kept).length (dW .u8 (fK C gone kept)):=by
 have qf:(ae gone).length<=16:=by rw [<- kI gone];exact qC gone
 obtain ⟨n,HN⟩:∃ n:Nat,Hid (9<=n):=⟨9,TV _⟩;refine (U6 (n:=n)).1 ?_;refine VS func201 rfl trivial ?_ rfl;simp only [ntmps201,Uy,Um,UQ,YE,YF,UX,UY,UZ,U0,Uk,UH];have q7:(((w.alloc (Z4 (aV C) 322)).alloc (Z4 #[Z7 Z9 0,Z5 ZY 0 0] 189)).alloc (Z4 #[Z7 Z9 (1+((ae gone).length:Int)),Z5 ZY 0 0] 189)).heap.size=w.heap.size+3:=ek
 have kz:WI w C (1+((ae gone).length:Int)) [] (((w.alloc (Z4 (aV C) 322)).alloc (Z4 #[Z7 Z9 0,Z5 ZY 0 0] 189)).alloc (Z4 #[Z7 Z9 (1+((ae gone).length:Int)),Z5 ZY 0 0] 189)):=by
  obtain ⟨a1,a2,a3,a4⟩:=J2 w (Z4 (aV C) 322) (Z4 #[Z7 Z9 0,Z5 ZY 0 0] 189) (Z4 #[Z7 Z9 (1+((ae gone).length:Int)),Z5 ZY 0 0] 189);refine ⟨(aH.new w C).keep (by rw [VN _ _ _ en,VN _ _ _ ek]),a3,⟨eb,eb,_,a4,UB _ _ _ _⟩,((bA w _).alloc ek _).alloc en _⟩
 have M:=al q7;have i:=al kz;clear q7 kz;gi_wp2;refine bX (AM gone hg _) ?_;rintro e w' ⟨rfl,E⟩;gi_wp2;obtain ⟨l,ko⟩:=nM ((((w.alloc (Z4 (aV C) 322)).alloc (Z4 #[Z7 Z9 0,Z5 ZY 0 0] 189)).alloc (Z4 #[Z7 Z9 (1+((ae gone).length:Int)),Z5 ZY 0 0] 189)));rw [ko] at M i;rw [ko];clear ko E w';refine bX (dj kept l) ?_;rintro e w' ⟨rfl,rfl⟩;have q8:(l.alloc (Z4 #[Z7 Z8 (kept:Int)] 131)).heap.size=l.heap.size+1:=ek
 have kv:(l.alloc (Z4 #[Z7 Z8 (kept:Int)] 131)).cell? ⟨l.heap.size,0,ZY⟩=ZX (Z7 Z8 (kept:Int)):=(Bx.new l 131 (Z7 Z8 (kept:Int))).cell;have q0:WI w C (1+((ae gone).length:Int)) [] (l.alloc (Z4 #[Z7 Z8 (kept:Int)] 131)):=i.out.own (B:=l.heap.size) (row:=ZY) (eT M.out) (abo _ _ _) (λr e=>Za);obtain ⟨w4,q5⟩:=nM (l.alloc (Z4 #[Z7 Z8 (kept:Int)] 131));have N:=al q8;have kb:=al kv;have k7:=al q0;clear q8 kv q0 i;gi_wp2;rw [q5] at N kb k7;clear q5;refine VT rfl (eT HN.out) (gf:=156) (lb:=#[Z6 (ZX ⟨l.heap.size,0,ZY⟩)]) rfl trivial (UR func156 ei rfl)
  (eH (n-1) l.heap.size kept hk w4 (eT N.out) kb.out Zi (T.mono eb k7.out.below)) (λh k=>qX h k) (qY Zi) (TX _ _) (λ_=>rfl)
  (λpre X=>WI w C (1+((ae gone).length:Int)) (Hg C pre) X/\w4.heap.size<=X.heap.size) (λ_ _ _=>False)
  (λpre X Y row G S hr=>⟨G.1.own Zi S hr,TU G.2 S.size⟩) (λc pre X Y row G _ _=>G.elim) ⟨k7.out,TV _⟩
  (λx=>{ tmps:=#[.agg (aV C),Z7 Z8 (gone:Int),Z7 Z8 (kept:Int),Z6 (ZX ⟨w.heap.size,0,ZY⟩),ZZ,ZZ,Z6 (ZX ⟨w.heap.size+1,0,ZY⟩),Z6 (ZX ⟨w.heap.size+1+1,0,ZY⟩),Z7 Z9 (x.1:Int),ZZ,ZZ,ZZ,ZZ,Z7 Z8 (gone:Int),Z7 Z9 ((ae gone).length:Int),Z7 Z9 (1+((ae gone).length:Int)),.agg #[Z7 Z9 (1+((ae gone).length:Int)),Z5 ZY 0 0],Z7 Z8 (kept:Int),.func (.func 156) #[] #[Z6 (ZX ⟨l.heap.size,0,ZY⟩)],Z7 Z9 (x.1:Int),ZZ,ZZ,ZZ,ZZ,ZZ,ZZ,ZZ,ZZ,ZZ,ZZ,ZZ,ZZ,ZZ,ZZ,ZZ,ZZ,ZZ,ZZ,ZZ,ZZ,ZZ,ZZ,ZZ,ZZ,ZZ,ZZ,ZZ,ZZ,ZZ,ZZ,ZZ,ZZ,ZZ,ZZ,ZZ,ZZ,ZZ,ZZ,ZZ,ZZ,ZZ,ZZ,ZZ,ZZ,ZZ,ZZ,ZZ],defers:=[] }) ?assign ?body ?done ?stop
 case assign=>
  intro l2 x X Kk hK;unfold qW;gi_wp2;exact hK
 case body=>
  rintro l2 pre x X ⟨a,V⟩ P;have q4:=wR w.heap.size x.1 C X a.ck F x.2;obtain ⟨_,_,v,f,b⟩:=a.pb;have J:w.heap.size+3<=X.heap.size:=a.pb.2.1;obtain ⟨c0,c1,f1,_⟩:=az f;have kp:=x.2;have hL:=λk hk=>NH C F pre kept P x.1 k hk;have HH:=al a;have O:=al f;have s:=al b;have HL:=al hL;have HX:=al V;have Q:=al J;clear a f b hL V P J;gi_wp2;refine dS q4 ?_;clear q4;rintro e w' ⟨rfl,E⟩;subst E;cases ka:cy C x.1 with
  | false=>
   have HE:=al (PU (pre:=pre) ka);clear ka;gi_wp2;refine ⟨XL _ _,Fh.refl _,?_,HX.out⟩;rw [<- HE.out];exact HH.out
  | true=>
   have HE:=al (NJ (pre:=pre) ka);clear ka;gi_wp2_with (
    refine zM rfl (Z0 24) (Z0 27) rfl (w.heap.size+3) w'.heap.size (Hg C pre) ⟨0,0,(x.1:Int),0⟩ v rfl rfl (s.out.alloc _) (BK w' ⟨0,0,(x.1:Int),0⟩) (by have:=Q.out;simp;omega) (eT ((HL.out 0 (T3 _)).1)) ?_;
    rintro g' cap' w2 R H I;
    obtain ⟨c1,f1,z⟩:=HH.out.next O.out s.out I R H;
    have ct:=z.1.told;
    have o:=al z;
    clear z I H)
   rw [<- K3] at o;gi_loopw [32] (λp wr=>∃ k:Nat,p=Z7 Z9 (k:Int)/\k<=C.told/\WI w C (1+((ae gone).length:Int)) (FA C pre x.1 k) wr/\KeepsOthers w' wr) (λp _=>C.told-(intOf p).toNat)
   case atStart=>exact ⟨0,rfl,T3 _,o.out.1,o.out.2⟩
   case round=>
    obtain ⟨k,rfl,qd,a,y⟩:=hrel;have qj:=F.le;have qk:=F.So;by_cases qs:k<C.told
    . have cm:=a.ck.at k x.1 eb kp;have kj:(k:Int)<C.told:=eb;have qo:(k:Int)<8:=eb;have qx:(x.1:Int)<16:=eb;by_cases h0:C.m k x.1=0
      . rw [h0] at cm;have i:=al a;have t:=al y;clear a y;gi_wp2;go_roundw
        case rel=>exact ⟨k+1,e8,eb,by rw [NI pre h0];exact i.out,t.out⟩
        case measure=>simp [intOf];omega
      . have qv:((C.m k x.1:Nat):Int)≠0:=eb;obtain ⟨_,_,v,f,b⟩:=a.pb;have J:w.heap.size+3<=wr.heap.size:=a.pb.2.1;obtain ⟨c0,c1,f1,_⟩:=az f;have qn:=(HL.out k qd).2;have i:=al a;have t:=al y;have O:=al f;have s:=al b;have Q:=al J;clear a y f b J;gi_wp2_with (
         refine zM rfl (Z0 44) (Z0 49) rfl (w.heap.size+3) wr.heap.size (FA C pre x.1 k) ⟨1,1+(k:Int),0,C.m k x.1⟩ v rfl rfl (s.out.alloc _) (BK wr ⟨1,1+(k:Int),0,C.m k x.1⟩) (by have:=Q.out;simp;omega) eb ?_;
         rintro g' cap' w2 R H I;
         obtain ⟨c1,f1,z⟩:=i.out.next O.out s.out I R H;
         have o:=al z;
         clear z I H)
        go_roundw
        case rel=>exact ⟨k+1,e8,eb,by rw [PT pre h0];exact o.out.1,t.out.trans o.out.2⟩
        case measure=>simp [intOf];omega
    . have kj:¬ (k:Int)<C.told:=eb;obtain rfl:k=C.told:=eb;have i:=al a;have t:=al y;clear a y;gi_wp2;refine ⟨t.out.from _,λ_=>T.mono eb i.out.below,?_,TU HX.out t.out.size⟩;rw [<- HE.out];exact i.out
 case done=>
  rintro D xs X hD q6 ⟨a,V⟩ hK;rw [NK q6] at a;have qp:w.heap.size+3<=D:=Zi
  have qc:D<X.heap.size:=(TW.1 hK).1;clear q6 xs kb k7 V;have i:=al a;have t:=al hK;clear a hK;gi_wp2;refine bX (dj gone _) ?_;rintro e w' ⟨rfl,E⟩;have q9:w'.heap.size=X.heap.size+1+1:=by rw [E];simp
  have kx:w'.cell? ⟨X.heap.size+1,0,ZY⟩=ZX (Z7 Z8 (gone:Int)):=by
   have:=(Bx.new (X.alloc (Z4 #[Z7 Z9 0] 3)) 131 (Z7 Z8 (gone:Int))).cell;rw [Ua] at this;rw [E];exact this
  have kg:X.grownBy w' ZY:=by rw [E];exact AV (abo X _ ZY) _
  have q3:WP w C (1+((ae gone).length:Int)) kept X.heap.size D [] w':=by
   refine ⟨by rw [NL];exact i.out.own (B:=w.heap.size+3) lR kg (λr e=>Za),?_,(kg.block D qc (λe=>Za)).trans t.out⟩;rw [E];exact (Uj X 3 (Z7 Z9 0)).alloc _
  have u:=al q9;have qa:=al kx;have kr:=al q3;clear q9 kx q3 kg E i t;gi_wp2;refine VT rfl (eT HN.out) (gf:=156) (lb:=#[Z6 (ZX ⟨X.heap.size+1,0,ZY⟩)]) rfl trivial (UR func156 ei rfl)
   (eH (n-1) (X.heap.size+1) gone hg w' (eT u.out) qa.out (eT u.out) (T.mono eb kr.out.wi.below)) (λh k=>qX h k) (qY (eT u.out)) (TX _ _) (λ_=>rfl)
   (λpre Y=>WP w C (1+((ae gone).length:Int)) kept X.heap.size D pre Y/\w'.heap.size<=Y.heap.size) (λ_ _ _=>False)
   (λpre A Y row G S hr=>⟨G.1.own (B:=w'.heap.size) (eT u.out) (eT u.out) (eT u.out) S hr,TU G.2 S.size⟩) (λc pre X Y row G _ _=>G.elim) ⟨kr.out,TV _⟩
   (λx=>{ tmps:=#[.agg (aV C),Z7 Z8 (gone:Int),Z7 Z8 (kept:Int),Z6 (ZX ⟨w.heap.size,0,ZY⟩),ZZ,ZZ,Z6 (ZX ⟨w.heap.size+1,0,ZY⟩),Z6 (ZX ⟨w.heap.size+1+1,0,ZY⟩),ZZ,ZZ,ZZ,Z6 (ZX ⟨X.heap.size,0,ZY⟩),Z7 Z9 (x.1:Int),Z7 Z8 (gone:Int),Z7 Z9 ((ae gone).length:Int),Z7 Z9 (1+((ae gone).length:Int)),.agg #[Z7 Z9 (1+((ae gone).length:Int)),Z5 ZY 0 0],Z7 Z8 (kept:Int),.func (.func 156) #[] #[Z6 (ZX ⟨l.heap.size,0,ZY⟩)],ZZ,ZZ,ZZ,ZZ,ZZ,ZZ,ZZ,ZZ,ZZ,ZZ,ZZ,ZZ,ZZ,ZZ,ZZ,ZZ,ZZ,ZZ,ZZ,ZZ,ZZ,ZZ,ZZ,ZZ,ZZ,ZZ,ZZ,ZZ,ZZ,ZZ,ZZ,ZZ,ZZ,ZZ,Z7 Z8 (gone:Int),.func (.func 156) #[] #[Z6 (ZX ⟨X.heap.size+1,0,ZY⟩)],Z7 Z9 (x.1:Int),ZZ,ZZ,ZZ,ZZ,ZZ,ZZ,ZZ,ZZ,ZZ,ZZ,ZZ],defers:=[] }) ?assign2 ?body2 ?done2 ?stop2
  case assign2=>
   intro l2 x Y Kk hK;unfold qW;gi_wp2;exact hK
  case body2=>
   rintro l2 pre x Y ⟨q,W⟩ P;have qq:=PV C F kept pre gone P;have qg:pre.length<16:=eb;have ke:w.heap.size+3<=X.heap.size:=eb;have hs:=q.wi.set (u':=Z7 Z9 ((pre.length:Int)+1)) ke q.box;obtain ⟨_,_,v,f,b⟩:=hs.pb;have J:w.heap.size+3<=(Y.setCell ⟨X.heap.size,0,ZY⟩ (Z7 Z9 ((pre.length:Int)+1))).heap.size:=hs.pb.2.1;obtain ⟨c0,c1,f1,_⟩:=az f;have cb:=q.box.cell;have fb:=q.box.frozen;have hb:=(q.box.set (Z7 Z9 ((pre.length:Int)+1))).cell;have HP:=al q;have O:=al f;have s:=al b;have Q:=al J;have HY:=al W;have qb:=al ke;clear q f b J W hs P ke;gi_wp2_with (
    refine zM rfl (Z0 59) (Z0 63) rfl (w.heap.size+3) Y.heap.size (xJ C kept pre) ⟨2,(pre.length:Int)+1,(x.1:Int),0⟩ v rfl rfl (s.out.alloc _) (Hh _ Y.heap.size ek ⟨2,(pre.length:Int)+1,(x.1:Int),0⟩) (by have:=Q.out;simp at this ⊢;omega) eb ?_;
    rintro g' cap' w2 R H I;
    obtain ⟨c1,f1,z⟩:=HP.out.next qb.out O.out s.out I R H;
    have o:=al z;
    clear z I H)
   refine ⟨o.out.2.from _,λ_=>T.mono eb o.out.1.wi.below,o.out.1,TU HY.out o.out.2.size⟩
  case done2=>
   rintro L ys Y qm qi ⟨q,W⟩ k8;have K:=q.wi;rw [NM qi] at K;have hm:=q.mark;obtain ⟨_,_,v,f,b⟩:=K.pb;obtain ⟨c0,c1,f1,f0⟩:=az f;obtain ⟨r0,r1,g1,g0⟩:=az K.res;obtain ⟨ao,m,j,rfl⟩:∃ ao m j,v=.slice ao m j:=by
    rcases b.2 with ⟨rfl,_⟩|⟨g,cap,cur,rfl,_⟩
    . exact ⟨_,_,_,rfl⟩
    . exact ⟨_,_,_,rfl⟩
   have s:=a5 K hm b k8;clear K hm b k8 q W f;gi_wp2;obtain ⟨K,hm,b,k8⟩:=s.out;have k6:((Y.setCell ⟨w.heap.size+1,0,ZY⟩ (Z7 Z9 (1+((ae gone).length:Int)))).setCell ⟨w.heap.size+1,1,ZY⟩ (.slice ao m j)).heap[w.heap.size+1]?=ZX (Z4 #[Z7 Z9 (1+((ae gone).length:Int)),.slice ao m j] 189 (0,0)):=
    gE (gD K.res)
   have y:=(Vz Y ⟨w.heap.size+1,0,ZY⟩ (Z7 Z9 (1+((ae gone).length:Int)))).trans (Vz _ ⟨w.heap.size+1,1,ZY⟩ (.slice ao m j));have ks:bW w ((Y.setCell ⟨w.heap.size+1,0,ZY⟩ (Z7 Z9 (1+((ae gone).length:Int)))).setCell ⟨w.heap.size+1,1,ZY⟩ (.slice ao m j)):=(K.below.setCell (p:=⟨w.heap.size+1,0,ZY⟩) (YH _) _).setCell (p:=⟨w.heap.size+1,1,ZY⟩) (YH _) _;have hq:((Y.setCell ⟨w.heap.size+1,0,ZY⟩ (Z7 Z9 (1+((ae gone).length:Int)))).setCell ⟨w.heap.size+1,1,ZY⟩ (.slice ao m j)).ownsRow (w.heap.size+3) 288 4 (.slice ao m j) (fK C gone kept).length (dW .u8 (fK C gone kept)):=
    (b.kept (cT Y (w.heap.size+1) 0 _) (.inr λe=>eT (jI b e))).kept (cT _ (w.heap.size+1) 1 _) (.inr λe=>eT (jI b e))
   have k9:=y.same L _ k8 rfl;have kf:=y.same D _ hm rfl;have kc:D≠L:=(eT u.out);have q1:=(TW.1 k9).1;have qe:=(TW.1 kf).1;have kk:L≠w.heap.size+1:=(eT u.out);generalize ((Y.setCell ⟨w.heap.size+1,0,ZY⟩ (Z7 Z9 (1+((ae gone).length:Int)))).setCell ⟨w.heap.size+1,1,ZY⟩ (.slice ao m j))=Z at k6 ks hq k9 kf q1 qe ⊢;have hn:(Z.putObj L (.deferred ZY)).heap[D]?=ZX (.deferred (ZX [])):=(UE kc).trans kf;refine ⟨ek,.inl ⟨_,_,rfl,Wd k9,ek,.inl ⟨_,_,rfl,Wd hn,?_⟩⟩⟩;have qh:((Z.putObj L (.deferred ZY)).putObj D (.deferred ZY)).heap[w.heap.size+1]?=ZX (Z4 #[Z7 Z9 (1+((ae gone).length:Int)),.slice ao m j] 189 (0,0)):=((UE eb).trans (UE (V5 kk))).trans k6;have kh:=WK Z L (.deferred ZY);have ki:=WK (Z.putObj L (.deferred ZY)) D (.deferred ZY);have q2:∀ (U:ZU) (d:Nat),U.heap[d]?=ZX (.deferred (ZX []))->U.ownsRow (w.heap.size+3) 288 4 (.slice ao m j) (fK C gone kept).length (dW .u8 (fK C gone kept))->(Value.slice ao m j).ownBlock≠ZX d:=by
    intro U d hd hU e;rcases hU.2 with ⟨e1,_⟩|⟨g,cap,cur,e1,_,ky,_⟩
    . cases e1;cases e
    . cases e1;obtain rfl:g=d:=Zh;rw [hd] at ky;cases ky
   have k5:=hq.kept kh (.inr (q2 _ _ k9 hq));have km:=k5.kept ki (.inr (q2 _ _ hn k5));exact ⟨_,VG results201 _ _ (w.heap.size+1) 189 #[Z7 Z9 (1+((ae gone).length:Int)),.slice ao m j] (0,0) _ rfl qh underlying189 rfl Hi,_,rfl,Below.RY (Below.RY ks (eT u.out) q1 _) eb (TW.1 hn).1 _,fW km eb⟩
  case stop2=>
   rintro D c pre X _ _ F;exact F.elim
 case stop=>
  rintro D c pre X _ _ F;exact F.elim
end
