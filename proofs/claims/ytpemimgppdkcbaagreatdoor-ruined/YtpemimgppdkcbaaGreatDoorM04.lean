import Derived.Deep.AppendSrc
import Derived.Test.YtpemimgppdkcbaaGreatDoorM03
import Derived.Deep.RegionHeld
set_option maxRecDepth 100000
set_option linter.all false
set_option maxHeartbeats 8000000
open Go.IntKind renaming i64 -> Z9, u64 -> Z8
open Go.Value renaming int -> Z7, pointer -> Z6, slice -> Z5, bool -> Z2, tuple -> Z0
open Go.Obj renaming cells -> Z4
open Go.Ending renaming returned -> Z3
open Go.Operand renaming tmp -> Z1
open Go renaming undef -> ZZ, World -> ZU, Value -> ZT, Calls -> ZS, Oper -> ZR, TypeId -> ZQ, Operand -> ZP
open Option renaming none -> ZY, some -> ZX
open Bool renaming true -> ZW, false -> ZV
open Array renaming replicate -> YD
open List renaming range -> YE, replicate -> YF
open Option renaming toList_some -> YG
open Nat renaming le_succ_of_le -> YH
open Go.Proofs.Tryz renaming prog -> ZO
open Go.Proofs.Tryz
namespace Go.Proofs.YtpemimgppdkcbaaGreatDoor
def Xm:=@Nat.add_mul
def Yr:=@Go.heap_alloc_new
def XV:=@List.take_left
def Wv:=@Go.Proofs.Tryz.underlying3
def U7:=@Go.Src.ofSlice
def abb:=@List.flatten_append
def Ys:=@Go.heap_setCell_same
def Wk:=@Array.length_toList
def Yt:=@Array.getElem?_toList
def Xn:=@Go.Proofs.Tryz.underlying326
def Yu:=@Nat.le_succ
def Yw:=@Array.size_modify
def XW:=@Go.KeepsFrom.refl
def VF:=@List.getElem?_take_of_lt
end Go.Proofs.YtpemimgppdkcbaaGreatDoor
namespace Go.Proofs.YtpemimgppdkcbaaGreatDoor
open Go.RowKit Go.Deep Gf Go.Shelf
variable {a:Act} {ops:Array ZR} {C C':Ck} {rec:Ck->Nat->Nat->cd->cd} {Q:Exit->Act->ZU->Prop} {F:Fence} {L:List (ByteArray×ZT)} {K:a8} {rest:List ZR} {pre:List Sh} {xs:List ZT} {b t n N base g r gone sp p B i x q7 q l h of Bl d n0 nb k:Nat} {D Dn:Nat->Bool} {m:Nat->Nat} {f:Nat->ZT} {o:ZR} {P:Program} {s sx:cd} {J:cd->ZU->Prop} {v v0:ZT} {Vi:ZT->ZU->Prop} {w w' w1 w2 W W' w0 wr:ZU} {R S:ZU->Prop}
def PN (D:List a8) (w:ZU) (e:Ending) (w':ZU):Prop:=(vt D->e=Z3 (Z2 ZW))/\(¬ vt D->e=Z3 (Z2 ZV))/\w'=w
def FtR (D:List a8) (i:ZT):Prop:=∃ k:Nat,k<=D.length/\i=Z7 Z9 (k:Nat)/\∀ j (hj:j<D.length),j<k->(D[j]).length<=64
theorem Br (s:ZT) (D:List a8) (w:ZU) (m:Rd w s D) :
 ZS ZO 139 #[s] w λe w'=>PN D w e w':=by
 by_cases E:64<D.length
 . obtain ⟨ao,c,rfl,hl,_⟩:=m;go_enter func139,ntmps139;go_wp2;go_ret;exact ⟨λh=>absurd h.1 (by omega),λ_=>rfl,rfl⟩
 rcases m.cases with ⟨rfl,ao,c,rfl⟩|⟨b,off,c,rfl,hl,l⟩
 . go_enter func139,ntmps139;go_wp2;refine VV 1 ?_;rw [Vg];go_wp2;go_ret;exact ⟨λ_=>rfl,λh=>absurd ⟨by simp,λi d=>by simp at d⟩ h,rfl⟩
 have t:=al l;clear l;go_enter func139,ntmps139;go_wp2;go_loop [10] (λi=>FtR D i) (λi=>D.length-(intOf i).toNat)
 case atStart=>exact ⟨0,T9 _,rfl,λj _ h=>absurd h (by omega)⟩
 case round=>
  obtain ⟨k,H,rfl,a⟩:=hrel;by_cases g:k<D.length
  . obtain ⟨u,I,z⟩:=t.out k g;obtain ⟨C,B,rfl,o,p,q,r⟩:=z;by_cases f:(D[k]).length<=64
    . have y:Hid (∀ j (n:j<D.length),j<k+1->(D[j]).length<=64):=by
       intro j n F;by_cases e:j=k
       . subst e;exact f
       . exact a j n (by omega)
      clear a o p q r;generalize (D[k]).length=A at *;go_wp2;go_round
      case rel=>exact ⟨k+1,by omega,by go_num,y.out⟩
      case measure=>simp [intOf];omega
    . have x:Hid (¬ vt D):=λh=>f (h.2 k g);have G:(D[k]).length<=140737488355328:=(by omega);clear a o p q r;generalize (D[k]).length=A at *;go_wp2;go_ret;exact ⟨λh=>absurd h x.out,λ_=>rfl,rfl⟩
  . have v:Hid (vt D):=⟨by omega,λi d=>a i d (by omega)⟩;clear a;go_wp2;go_ret;exact ⟨λ_=>rfl,λh=>absurd v.out h,rfl⟩
def wk (G:Nat->Nat) (top c iv k x:Nat):Nat:=if top<x/64/\x/64<k/\c<=x%64 then G x^^^gm (gm (G (x/64*64+c)) iv) (G (top*64+x%64)) else G x
theorem KA (G:Nat->Nat) (top c a:Nat):wk G top c a (top+1)=G:=by
 funext x;unfold wk;rw [if_neg (by omega)]
theorem OM {G:Nat->Nat} (h:∀ x,G x<256) {iv:Nat} (top c k x:Nat):wk G top c iv k x<256:=by
 unfold wk;split
 . exact uY (h x) (bE _ (bE _ (h _)))
 . exact h x
def PO (G:Nat->Nat) (top c a k j:Nat) (b:j<64):wk G top c a k (top*64+j)=G (top*64+j):=by
 unfold wk;rw [if_neg (by omega)]
def Nj (G:Nat->Nat) (top c a k j:Nat) (b:j<64):wk G top c a k (k*64+j)=G (k*64+j):=by
 unfold wk;rw [if_neg (by omega)]
theorem Nk (G:Nat->Nat) (top c a k:Nat) (g:top<k) (f:c<64):gV (wk G top c a k) (λi=>G (top*64+c+i)) (gm (G (k*64+c)) a) (k*64+c) (64-c)=wk G top c a (k+1):=by
 funext x;unfold gV;by_cases h:k*64+c<=x/\x<k*64+c+(64-c)
 . have d:x/64=k:=(by omega);have e:top*64+c+(x-(k*64+c))=top*64+x%64:=(by omega);rw [if_pos h];unfold wk;rw [if_neg (by omega),if_pos (by omega),d];show _^^^gm _ (G (top*64+c+(x-(k*64+c))))=_;rw [e]
 . rw [if_neg h];unfold wk;by_cases b:top<x/64/\x/64<k/\c<=x%64
   . rw [if_pos b,if_pos (by omega)]
   . rw [if_neg b,if_neg (by omega)]
theorem ts (w:ZU) (b o c:Nat) (f:c<64):(Instr.sliceAt 104 (Z6 (ZX ⟨b,o,ZY⟩)) (ZX (Z7 Z9 (c:Int))) ZY ZY).run ZO w=.ok (Z5 (ZX ⟨b,o+c,ZY⟩) (64-c) (64-c)) w:=by
 have hl:ZO.arrayLen 104=64:=by kernel_rfl
 have e:ZO.underlying 104=ZX (.array (ZO.arrayLen 104) (ZO.elem 104)):=by kernel_rfl
 have d:∀ w,(sizeOf (ZO.elem 104)).run ZO w=.ok 1 w:=by
  have a:ZO.elem 104=5:=by kernel_rfl
  rw [a];intro w;go_simp
 rw [run_sliceAt_array_l w 104 _ e .i64 (c:Int) (by omega) (by rw [hl];omega),d,hl];simp [slicedAt,Result.andThen];rw [if_neg (by omega)];simp [Addr.add]
def WkR (w:ZU) (b t top c iv n:Nat) (G:Nat->Nat) (i:ZT) (wr:ZU):Prop:=
 ∃ k:Nat,top<k/\k<=max n (top+1)/\i=Z7 Z9 (k:Nat)/\wr.rowIs b t 4096 (tv (wk G top c iv k))/\w.grownBy wr (ZX b)
theorem Bt (b top c n:Nat) (G:Nat->Nat) (w:ZU) (f:∀ x,G x<256) (h:w.rowIs b 258 4096 (tv G)) (N:top<64) (g:c<64) (hn:n<=64) :
 ZS ZO 141 #[Z6 (ZX ⟨b,0,ZY⟩),Z7 Z9 top,Z7 Z9 c,Z7 Z9 n] w λe w'=>e=Z3 (Z0 #[])/\w'.rowIs b 258 4096 (tv (wk G top c (gi (G (top*64+c))) (max n (top+1))))/\w.grownBy w' (ZX b):=by
 have E:w.cell? ⟨b,top*64+c,ZY⟩=ZX (Z7 .u8 ((G (top*64+c):Nat):Int)):=h.cell (by omega);have z:=f (top*64+c);generalize hv:G (top*64+c)=y at *;go_enter func141,ntmps141;go_wp2_with (go_at_call 164;refine (rN y z _).mono ?_;rintro e l ⟨rfl,rfl⟩);have t:l.rowIs b 258 4096 (tv (wk G top c (gi y) (top+1))):=by rw [KA];exact h
 go_loopw [9] (λi wr=>WkR l b 258 top c (gi y) n G i wr) (λi _=>n-(intOf i).toNat)
 case atStart=>exact ⟨top+1,by omega,by omega,by go_num,t,Wn _ _⟩
 case round=>
  clear t h E;rename ZU=>wo;obtain ⟨k,J,L,rfl,d,p⟩:=hrel;by_cases M:k<n
  . have F:wo.cell? ⟨b,k*64+c,ZY⟩=ZX (Z7 .u8 ((wk G top c (gi y) k (k*64+c):Nat):Int)):=d.cell (by omega);rw [Nj _ _ _ _ _ _ g] at F;have v:=f (k*64+c);have o:∀ i,i<64-c->wo.cell? ⟨b,top*64+c+i,ZY⟩=ZX (Z7 .u8 ((G (top*64+c+i):Nat):Int)):=by
     intro i K;have m:wo.cell? ⟨b,top*64+c+i,ZY⟩=ZX (Z7 .u8 ((wk G top c (gi y) k (top*64+c+i):Nat):Int)):=d.cell (by omega);rw [Vu,PO _ _ _ _ _ _ (by omega),<- Vu] at m;exact m
    have u:=Nk G top c (gi y) k J g;have H:gm (G (k*64+c)) (gi y)<256:=bE _ v;have C:=al o;have D:=al u;clear o u;generalize G (k*64+c)=x at *;have A:=λw=>ts w b (k*64) c g;have B:=λw=>ts w b (top*64) c g;go_wp2;go_region_with (first
     | (go_at_call 166;refine (mi x (gi y) v (ln z) _).mono ?_;rintro e w' ⟨rfl,rfl⟩)
     | (go_at_call 165;refine (jo b 258 4096 (k*64+c) (64-c) (64-c) b (top*64+c) (64-c) (gm x (gi y)) (wk G top c (gi y) k) (λi=>G (top*64+c+i)) _ H (by exact d) (OM f top c k) (λj=>f _) (by omega) (by omega) (by exact C.out) (.inr (.inl (by omega)))).mono ?_;rintro e w' ⟨rfl,r,a⟩))
    all_goals
     have s:=r;rw [D.out] at s;have I:l.grownBy w' (ZX b):=gx p ⟨a.os,a.tape,a.output,a.size,a.block⟩;clear r a A B;go_wp2;go_roundw
     case rel=>exact ⟨k+1,by omega,by omega,by go_num,s,I⟩
     case measure=>simp [intOf];omega
  . have q:k=max n (top+1):=(by omega);rw [q] at d;clear q;go_wp2;go_end0
    exact ⟨rfl,d,p⟩
def fW (D:List a8) (x:Nat):Nat:=(D.getD (x/64) []).getD (x%64) 0
def lH (D:List a8) (k x:Nat):Nat:=if x/64<k then fW D x else 0
def Tryz.Tl:(ZO.info? 258).map (λi=>(i.zero,i.size,i.bytes))=ZX (ZX (.agg (YD 4096 (Z7 .u8 0))),4096,4096):=by kernel_rfl
def Tryz.SG:(ZO.info? 258).map (λi=>i.size)=ZX 4096:=by kernel_rfl
def Bu (w:ZU):(zeroValue 258).run ZO w=.ok (.agg (YD 4096 (Z7 .u8 0))) w:=by
 obtain ⟨c,a,b,_,_⟩:=Us Tryz.Tl;simp [zeroValue,typeInfo,Uo,a,b]
def Bv (w:ZU):(w.alloc (Z4 (YD 4096 (Z7 .u8 0)) 258)).rowIs w.heap.size 258 4096 (λ_=>Z7 .u8 0):=by
 have h:=aa5 w (YD 4096 (Z7 .u8 0)) 258 (λ_=>Z7 .u8 0) (λi a=>by simp at a;simp [a]);simpa using h
theorem KB (h:w.rowIs b t n f):w.heap[b]?=ZX (Z4 ((YE n).map f).toArray t (0,0)):=by
 obtain ⟨c,d,g,e⟩:=h;have:c=((YE n).map f).toArray:=by
  apply Array.ext
  . simp [g]
  . intro i a j;have:=e i (by omega);rw [VD a] at this;simp at this;simp [this]
 rw [<- this];exact d
def DR (C:o.guard=ZY) (d s:ZP)
 (ho:o.op=.call { callee:=.builtin .copy,args:=#[d,s],argTypes:=#[31,31] }) (g off n cap N t:Nat) (v:ZT) (hd:a.eval d=Z5 (ZX ⟨g,off,ZY⟩) n cap) (hs:a.eval s=v)
 (F:Nat->Nat) (src:a8) (hB:w.rowIs g t N (tv F)) (hS:Bs w v src) (h8:src.length<=n) (hn:off+n<=N)
 (h:∀ w',w'.rowIs g t N (tv (λx=>if off<=x/\x<off+src.length then src.getD (x-off) 0 else F x))->Below g w w'->wpList ZO ops Q rest (a.put o.dst (goInt src.length)) w'):wpList ZO ops Q (o::rest) a w:=by
 obtain ⟨ao,c,rfl,K,L,M,A⟩:=hS;refine aaZ C d s 31 31 ho 5 Uh (by kernel_rfl) (ZX ⟨g,off,ZY⟩) ao n cap src.length c hd hs g off _ t (KB hB) (src.map (λx=>Value.int .u8 ((x:Nat):Int))) ?_ ?_ ?_ ?_ g w (TY _ _) lR ?_
 . rw [T7];show src.length=min src.length n;omega
 . intro l;rw [T7] at l;obtain ⟨b,off,rfl,E⟩:=A (by intro e;rw [e] at l;simp at l);refine ⟨rfl,_,rfl,λj u k=>?_⟩;have f:j<src.length:=by
    have:=U1.1 k;obtain ⟨q,_⟩:=this;simpa using q
   rw [U9,E j f];simp [f] at k;simp [f,k]
 . simp;omega
 . intro u G;obtain ⟨x,_,rfl⟩:=T6.1 G;rfl
 . intro w' D B;have H:=D.out;rw [T7];refine h w' ⟨_,H,?_,λi m=>?_⟩ B
   . rw [UF,length_splice _ _ _ (by simp;omega)];simp
   . unfold splice;rw [WY];by_cases p:i<off
     . rw [Vx (by simp;omega)];have I:¬ (off<=i/\i<off+src.length):=(by omega);simp only [tv,if_neg I];simp [p,m,tv]
     . rw [U3 (by simp;omega)];have y:(((YE N).map (tv F)).take off).length=off:=(by simp;omega);rw [y];by_cases r:i<off+src.length
       . rw [Vx (by simp;omega)];have J:i-off<src.length:=(by omega);simp [J,tv,r,Xs.1 p]
       . rw [U3 (by simp;omega)];simp only [T7];rw [VZ];have z:off+src.length+(i-off-src.length)=i:=(by omega);rw [z];simp [m,tv,r]
def LyR (w:ZU) (B:Nat) (D:List a8) (i:ZT) (wr:ZU):Prop:=
 ∃ k:Nat,k<=D.length/\i=Z7 Z9 (k:Nat)/\wr.rowIs (B+1) 258 4096 (tv (lH D k))/\wr.rowIs B 258 4096 (λ_=>Z7 .u8 0)/\Below B w wr
theorem By (D:List a8) (k:Nat) (f:k<D.length) (hl:(D[k]).length<=64):(λx=>if k*64<=x/\x<k*64+(D[k]).length then (D[k]).getD (x-k*64) 0 else lH D k x)=lH D (k+1):=by
 have b:D.getD k []=D[k]:=by simp [f]
 funext x;unfold lH fW;by_cases h:k*64<=x/\x<k*64+(D[k]).length
 . rw [if_pos h,if_pos (by omega)];have c:x/64=k:=(by omega);have d:x%64=x-k*64:=(by omega);rw [c,b,d]
 . rw [if_neg h];by_cases a:x/64<k
   . rw [if_pos a,if_pos (by omega)]
   . rw [if_neg a];by_cases e:x/64=k
     . rw [if_pos (by omega),e,b,T5,VM (by omega)];rfl
     . rw [if_neg (by omega)]
def DS (D:List a8) (x:Nat):lH D D.length x=fW D x:=by
 unfold lH;by_cases h:x/64<D.length
 . rw [if_pos h]
 . rw [if_neg h];unfold fW;simp [VM (Xs.1 h)]
def tw {cs:Array ZT} {f:Nat->Nat} (b:cs.size=N) (h:∀ j,j<N->cs[j]?=ZX (tv f j)):cs.all (λv=>v.oneCell')=ZW:=by
 rw [XK];intro i a;have:=h i (by omega);rw [VD a] at this;simp at this;rw [this];rfl
theorem Nl (K:ZT) (D:List a8) (w:ZU) (G:Rd w K D) (q:vt D) :
 ZS ZO 140 #[K] w λe w'=>∃ cs:Array ZT,e=Z3 (.agg cs)/\cs.size=4096/\(∀ j,j<4096->cs[j]?=ZX (tv (fW D) j))/\bW w w':=by
 have M:=al q;have X:=q.1;have U:=G;obtain ⟨ao,c,rfl,hl,F⟩:=G;have s:=al F;clear F q U;have V:=Bu;go_enter func140,ntmps140;go_wp2;clear V;go_loopw [8] (λi wr=>LyR w w.heap.size D i wr) (λi _=>D.length-(intOf i).toNat)
 case atStart=>
  refine ⟨0,T9 _,rfl,?_,?_,?_⟩
  . have h:=Bv (w.alloc (Z4 (YD 4096 (Z7 .u8 0)) 258));try change Below _ _ _ at h
    rw [Ug] at h;exact h.congr λj Q=>by unfold tv lH;simp
  . exact (Bv w).alloc _
  . exact (bA _ _).alloc (by rw [Ug];omega) _
 case round=>
  rename ZU=>wo;obtain ⟨k,W,rfl,f,C,m⟩:=hrel;by_cases a:k<D.length
  . obtain ⟨b,off,rfl,z⟩:=s.out (by intro e;rw [e] at a;simp at a);obtain ⟨u,r,x⟩:=z k a;have S:=x.mono m;have E:=M.out.2 k a;have H:=By D k a E;have Y:wo.cell? ⟨b,off+k,ZY⟩=ZX u:=(by rw [m.cell (Ub r)];exact r);have R:=al H;clear z H r x s;generalize D[k]=l at *;go_wp2_with (refine DR rfl (Z1 15) (Z1 16) rfl (w.heap.size+1) (k*64) 64 64 4096 258 u rfl rfl (lH D k) l f S E (by omega) ?_;intro w2 d y);rw [R.out] at d;have T:=Vv C (y.block w.heap.size (by omega));go_wp2;go_roundw
    case rel=>exact ⟨k+1,by omega,by go_num,d,T,m.trans (y.mono (by omega))⟩
    case measure=>simp [intOf];omega
  . have B:k=D.length:=(by omega);rw [B] at f;clear B;have d:=f.congr (g:=tv (fW D)) (λj Q=>by unfold tv;rw [DS]);obtain ⟨cs,A,p,o⟩:=d;obtain ⟨L,I,Z,_⟩:=C;have O:=tw p o;have N:=al o;have J:(ZO.info? 258).map (λi=>i.size)=ZX cs.size:=(by rw [Tryz.SG,p]);have n:=al J;have P:=al A;have t:=al I;clear o f J A I;go_wp2_with (first
     | refine Yg rfl 258 (Z1 3) rfl (w.heap.size+1) rfl 258 cs (0,0) _ P.out underlying258 rfl n.out ?_
     | refine Wi rfl 258 (Z1 2) (Z1 19) rfl w.heap.size cs rfl rfl 258 L t.out n.out (by omega) O ?_)
    exact Um (v:=.agg cs) (VQ results140 _ _ w.heap.size 258 cs (0,0) _ rfl (Vf _ _ L cs _ _ t.out) underlying258 rfl n.out) rfl ⟨cs,rfl,p,N.out,below_setRow m lR cs⟩
def vz:Array ZT->Nat->List ZT->Array ZT
 | cur,_,[]=>cur
 | cur,o,v::r=>vz (cur.setIfInBounds o v) (o+1) r
def wM:∀ (a:List ZT) (o:Nat) (cur:Array ZT),(vz cur o a).size=cur.size
 | [],_,_=>rfl
 | v::r,o,cur=>by unfold vz;rw [wM r];simp
def wN:∀ (a:List ZT) (o:Nat) (cur:Array ZT),o+a.length<=cur.size->(vz cur o a).toList.take (o+a.length)=cur.toList.take o++a
 | [],o,cur,_=>by simp [vz]
 | v::r,o,cur,h=>by
  simp only [Uv] at h ⊢;unfold vz;have:=wN r (o+1) (cur.setIfInBounds o v) (by simp;omega);rw [show o+(r.length+1)=o+1+r.length by omega,this,aa0];have e:(cur.toList.set o v).take (o+1)=cur.toList.take o++[v]:=by
   rw [U6,List.take_set_of_le (TV o),Ym (by simp;omega)];rfl
  rw [e,Uz];rfl
def js:∀ (c:List ZT) (o:Nat) (w:ZU) {b:Nat} {cur:Array ZT} {t:ZQ} {a:Nat×Nat},w.heap[b]?=ZX (Z4 cur t a)->(w.setCells b o c).heap[b]?=ZX (Z4 (vz cur o c) t a)
 | [],_,_,_,_,_,_,h=>h
 | v::r,o,w,b,cur,t,a,h=>by
  show ((w.setCell ⟨b,o,ZY⟩ v).setCells b (o+1) r).heap[b]?=_;exact js r (o+1) _ (by simp [World.setCell,VH,h])
def cy (w:ZU) (b o:Nat) (a:List ZT):w.grownBy (w.setCells b o a) (ZX b):=by
 obtain ⟨d,f,g⟩:=jm b a o w;exact ⟨d,f,g,by rw [jl];exact TV _,λk _ c=>aS b a o w k (λe=>c (by rw [e]))⟩
theorem kY (w:ZU) (base:Nat) (t tx p e:ZQ) (i:TypeInfo) (z:ZT) (size bytes:Nat) (o:P.underlying t=ZX (.slice e)) (h:P.info? e=ZX i) (D:i.zero=ZX z)
 (F:i.size=size) (J:i.bytes=bytes) (N:z.cells.size=size) (v:ZT) (n:Nat) (xs:List ZT) (d:w.ownsRow base e size v n xs)
 (x:ZT) (m:Nat) (news:List ZT) (a:Src P size tx x m news w) (B:n+m<=maxLen) (A:(n+m)*bytes<=140737488355328) (E:base<=w.heap.size) :
 ∃ q w',(Builtin.append_ #[t,tx] p #[v,x]).run P w=.ok q w'/\w'.ownsRow base e size q (n+m) (xs++news)/\w.grownBy w' v.ownBlock/\(q.ownBlock=v.ownBlock\/q.ownBlock=ZX w.heap.size):=by
 subst F;subst J;have:n+m<=9223372036854775807:=by simp only [maxLen] at B;omega
 have f:(xs++news).length=(n+m)*i.size:=by rw [T8,d.1,a.newsLen,Xm]
 have grown:∀ (old:Nat),∀ (row:Option Nat),
  (w.drew.alloc (Z4 ((xs++news).toArray++Builtin.zeroCells z.cells (grownCap w (n+m) old e-(n+m))) e)).ownsRow base e i.size
   (Z5 (ZX ⟨w.heap.size,0,ZY⟩) (n+m) (grownCap w (n+m) old e)) (n+m) (xs++news) /\
  w.grownBy (w.drew.alloc (Z4 ((xs++news).toArray++Builtin.zeroCells z.cells (grownCap w (n+m) old e-(n+m))) e)) row:=by
  intro old row;have M:=Yk w (n+m) old e;have s:grownCap w (n+m) old e<=maxLen:=Yl w (n+m) old e B;refine ⟨⟨f,.inr ⟨w.heap.size,_,_,rfl,E,Yr w.drew _,M,s,?_,?_⟩⟩,⟨rfl,rfl,rfl,by simp,λk l _=>(Ux w.drew _ k l:_)⟩⟩
  . rw [Array.size_append,UF,size_zeroCells,N,f,<- Xm];congr 1;omega
  . rw [Array.toList_append,<- f];exact XV
 rcases d.2 with ⟨rfl,rfl⟩|⟨g,cap,cur,rfl,I,y,S,s,C,G⟩
 . have O:xs=[]:=UP (by simpa using d.1);subst O;by_cases L:m=0
   . subst L;have hn:news=[]:=UP (by simpa using a.newsLen);subst hn;refine ⟨Z5 ZY 0 0,w,?_,UK w base e i.size,⟨rfl,rfl,rfl,TV _,λ_ _ _=>rfl⟩,.inl rfl⟩;rcases a.kind with ⟨Q,l⟩|l<;>simp [Builtin.append_,UH o,UH l,sizeOf,typeInfo,h,a.len,a.cells]
   . have b:=run_append_grow_src (P:=P) (w:=w) t tx p e i z o h D ZY 0 0 [] (by simp [Builtin.firstCells]) x m news a (by omega) (by omega) (Yj (by omega) (by simpa using A));have c:=grown 0 (Value.ownBlock (Z5 ZY 0 0));simp only [Ue,Uk] at c b ⊢;exact ⟨_,_,b,c.1,c.2,.inr rfl⟩
 . by_cases r:n+m<=cap
   . have H:n*i.size+news.length<=cur.size:=(by rw [a.newsLen,C,<- Xm];exact WZ _ r);have b:=run_append_room_src (P:=P) (w:=w) t tx p e i o h g 0 n cap x m news a r (λj K=>by simp [World.cell?,y];omega) (λj K=>by simp [World.frozen?,y]);rw [Ue] at b;refine ⟨_,_,b,⟨f,.inr ⟨g,cap,_,rfl,I,js news _ w y,r,s,by rw [wM];exact C,?_⟩⟩,cy w g _ news,.inl rfl⟩;rw [Xm,<- a.newsLen,wN news _ cur H,G]
   . have holds:∀ j u,xs[j]?=ZX u->w.cell? ((⟨g,0,ZY⟩:Addr).add j)=ZX u:=d.cells (g:=g) rfl;have b:=run_append_grow_src (P:=P) (w:=w) t tx p e i z o h D (ZX ⟨g,0,ZY⟩) n cap xs (run_firstCells_some w.drew i.size n ⟨g,0,ZY⟩ n cap xs d.1 (by simpa using holds)) x m news a (by omega) (by omega) (Yj (by omega) A);have c:=grown cap (Value.ownBlock (Z5 (ZX ⟨g,0,ZY⟩) n cap));exact ⟨_,_,b,c.1,c.2,.inr rfl⟩
def ae (w:ZU) {ops:Array ZR} {rest:List ZR} {o:ZR} {a:Act} {Q:Exit->Act->ZU->Prop} (g:o.guard=ZY) (s x:ZP) (t tx:ZQ)
 (ho:o.op=.call { callee:=.builtin .append,args:=#[s,x],argTypes:=#[t,tx] }) (base:Nat) (e:ZQ) (i:TypeInfo) (z:ZT) (size bytes:Nat) (ht:P.underlying t=ZX (.slice e)) (hi:P.info? e=ZX i) (hz:i.zero=ZX z)
 (h5:i.size=size) (h8:i.bytes=bytes) (ha:z.cells.size=size) (v:ZT) (n:Nat) (xs:List ZT) (hv:a.eval s=v) (h6:w.ownsRow base e size v n xs)
 (u:ZT) (hu:a.eval x=u) (m:Nat) (news:List ZT) (hs:Src P size tx u m news w) (h7:n+m<=maxLen) (h0:(n+m)*bytes<=140737488355328) (h1:base<=w.heap.size)
 (h:∀ b w',w'.ownsRow base e size b (n+m) (xs++news)->w.grownBy w' v.ownBlock->(b.ownBlock=v.ownBlock\/b.ownBlock=ZX w.heap.size)->wpList P ops Q rest (a.put o.dst b) w'):wpList P ops Q (o::rest) a w:=by
 obtain ⟨b,w',j,c,d,f⟩:=kY (P:=P) w base t tx o.type e i z size bytes ht hi hz h5 h8 ha v n xs h6 u m news hs h7 h0 h1;refine VO g λK hK=>?_;unfold Oper.wp execOp;simp only [ho,resolve,invoke,builtin,Uo,U2,UE,Vr,Uu,UY,hv,hu,j];exact hK _ _ (h b w' c d f)
def pN (w:ZU) (t u p e:ZQ) (k:IntKind) (i:TypeInfo) (z:ZT) (j:P.underlying t=ZX (.slice e)) (l:P.underlying u=ZX (.int k)) (g:P.info? e=ZX i) (o:i.zero=ZX z) (f:i.bytes=1) (h:i.size=1)
 (n:Nat) (a:0<n) (q:n<=1000000) :
 (Builtin.append_ #[t,u] p #[Z5 ZY 0 0,Z7 Z9 n]).run P w =
  .ok (Z5 (ZX ⟨w.heap.size,0,ZY⟩) n (grownCap w n 0 e)) (w.drew.alloc (Z4 (Builtin.zeroCells z.cells n++Builtin.zeroCells z.cells (grownCap w n 0 e-n)) e)):=by
 have hn:n≠0:=by omega
 have d:¬ (9223372036854775807<(n:Int)):=by omega
 have m:IntKind.i64.wrap (n:Int)=n:=by rw [Ut];omega
 have hl:¬ ((n:Int)<0):=by omega
 have c:¬ (281474976710656<Builtin.nextslicecap n 0):=by rw [nextslicecap_zero a];omega
 have b:¬ (281474976710656<(n:Int)):=by omega
 simp [Builtin.append_,UH j,UH l,sizeOf,typeInfo,zeroValue,g,o,f,h,hn,d,c,b,m,hl,Question.forced,run_firstCells_none,newRow,grownCap,asInt,asIntOf]
def Tryz.R8:(ZO.info? 5).map (λi=>(i.zero,i.size,i.bytes))=ZX (ZX (Z7 .u8 0),1,1):=by kernel_rfl
def G9 (w:ZU) (n c:Nat) (b:n<=c) (a:c<=maxLen):(w.drew.alloc (Z4 (Builtin.zeroCells (Value.cells (Z7 .u8 0)) n++Builtin.zeroCells (Value.cells (Z7 .u8 0)) (c-n)) 5)).ownsRow w.heap.size 5 1 (Z5 (ZX ⟨w.heap.size,0,ZY⟩) 0 c) 0 []:=by
 refine ⟨rfl,.inr ⟨w.heap.size,c,_,rfl,TV _,Uc w.drew _,T9 _,a,?_,by simp⟩⟩;simp [Builtin.zeroCells,Value.cells];omega
def zf (w w':ZU) {ops:Array ZR} {rest:List ZR} {o:ZR} {a:Act} {Q:Exit->Act->ZU->Prop} (b:o.guard=ZY) (s x:ZP) (t tx:ZQ)
 (ho:o.op=.call { callee:=.builtin .append,args:=#[s,x],argTypes:=#[t,tx] }) (v u v':ZT) (hv:a.eval s=v) (hu:a.eval x=u) (hr:∀ c,(Builtin.append_ #[t,tx] c #[v,u]).run P w=.ok v' w')
 (h:wpList P ops Q rest (a.put o.dst v') w'):wpList P ops Q (o::rest) a w:=by
 refine VO b λK hK=>?_;unfold Oper.wp execOp;simp only [ho,resolve,invoke,builtin,Uo,U2,UE,Vr,Uu,UY,hv,hu,hr];exact hK _ _ h
theorem KC (n:Nat) (hn:n<=1000000) (w:ZU):ZS ZO 149 #[Z5 ZY 0 0,Z7 Z9 n] w λe w'=>∃ v,e=Z3 v/\w'.ownsRow w.heap.size 5 1 v 0 []/\bW w w':=by
 obtain ⟨r,l,o,p,q⟩:=Us Tryz.R8;by_cases k:0<n
 . have a:=λs=>pN (P:=ZO) w 31 3 s 5 .i64 r (Z7 .u8 0) Uh Wv l o q p n k hn;have g:n<=grownCap w n 0 5:=Yk w n 0 5;have d:grownCap w n 0 5<=maxLen:=Yl w n 0 5 (by unfold maxLen;omega);have c:=G9 w n (grownCap w n 0 5) g d;have b:bW w (w.drew.alloc (Z4 (Builtin.zeroCells (Value.cells (Z7 .u8 0)) n++Builtin.zeroCells (Value.cells (Z7 .u8 0)) (grownCap w n 0 5-n)) 5)):=(TY _ w).drew.alloc lR _;obtain ⟨f,h⟩:=nM (grownCap w n 0 5);rw [h] at a g d c b;obtain ⟨w2,i⟩:=nM (w.drew.alloc (Z4 (Builtin.zeroCells (Value.cells (Z7 .u8 0)) n++Builtin.zeroCells (Value.cells (Z7 .u8 0)) (f-n)) 5));rw [i] at a c b;have H:=au c b;have j:=al a;clear c b i h d a;go_enter func149,ntmps149;go_wp2_with (show wpList _ _ _ ({ dst:=ZX 22,op:=_,type:=_,pos:=_,after:=_,guard:=_ }::_) _ _;refine zf w w2 rfl (Z1 20) (Z1 21) 31 3 rfl (Z5 ZY 0 0) (Z7 Z9 n) (Z5 (ZX ⟨w.heap.size,0,ZY⟩) n f) rfl rfl (by exact j.out) ?_);go_ret;exact ⟨_,rfl,H.out.1,H.out.2⟩
 . have m:n=0:=(by omega);subst m;go_enter func149,ntmps149;go_wp2;go_ret;exact ⟨_,rfl,UK _ _ _ _,TY _ _⟩
def dY {e:ZQ} {size:Nat} (h:w.ownsRow base e size v n xs) {k:Nat} (a:v.ownBlock=ZX k):base<=k:=by
 rcases h.2 with ⟨c,_⟩|⟨g,cap,cur,b,d,_⟩
 . rw [c] at a;simp [Value.ownBlock] at a
 . rw [b] at a;simp [Value.ownBlock] at a;omega
def CcR (w:ZU) (K:Nat) (s i:ZT) (wr:ZU):Prop:=∃ k:Nat,k<=K/\i=Z7 Z9 k/\s=Z7 Z9 ((44*k:Nat):Int)/\wr=w
def CdR (w:ZU) (R:List a8) (v i:ZT) (wr:ZU):Prop:=∃ k:Nat,k<=R.length/\i=Z7 Z9 k/\wr.ownsRow w.heap.size 5 1 v (44*k) (aI (R.take k).flatten)/\bW w wr
theorem Ha {c:Nat} {R:List a8} (S:MM w base g R) (V:R.length<=1000):ZS ZO 115 #[Z5 (ZX ⟨g,0,ZY⟩) R.length c] w λe w'=>∃ v,e=Z3 v/\w'.ownsRow w.heap.size 5 1 v (44*R.length) (aI R.flatten)/\bW w w':=by
 obtain ⟨i0,Z,hy,hz,k0⟩:=Us Tryz.R8;obtain ⟨K,hK⟩:=nM (R.length);obtain ⟨_,X,F⟩:=S;have f:=au F hK;rw [hK] at V ⊢;clear F hK;go_enter func115,ntmps115;go_wp2_with fail;go_loopw [3,11] (λs i wr=>CcR w K s i wr) (λ_ i _=>K-(intOf i).toNat)
 case atStart=>exact ⟨0,T9 _,rfl,rfl,rfl⟩
 case round=>
  obtain ⟨k,k7,rfl,rfl,O⟩:=hrel;obtain rfl:w=wr:=O.symm;clear O;by_cases C:k<K
  . obtain ⟨b,off,l,c1,A,m,n,o,B⟩:=f.out.1 k (by rw [f.out.2];exact C);clear A m n o B;have t:((44*k:Nat):Int)+44=((44*(k+1):Nat):Int):=(by omega);have T:44*(k+1)<=44000:=(by omega);obtain ⟨M,p⟩:=nM (44*k);obtain ⟨M',z⟩:=nM (44*(k+1));rw [p,z] at t;rw [z] at T;rw [p];go_wp2;refine ⟨⟨k+1,by omega,by go_num,by rw [z],rfl⟩,by simp [intOf];omega⟩
  . have hx:k=K:=(by omega);subst hx;obtain ⟨M,p⟩:=nM (44*k);have k5:M<=44000:=(by omega);rw [p];go_wp2_with fail;refine (KC M (by omega) w).mono ?_;rintro e w1 ⟨v,rfl,d,a⟩;have r:=au d a;clear d a;go_wp2_with fail;go_loopw [6,27] (λv i E=>CdR w R v i E) (λ_ i _=>k-(intOf i).toNat)
    case atStart=>exact ⟨0,T9 _,rfl,r.out.1,r.out.2⟩
    case round=>
     clear r;obtain ⟨j,hs,rfl,d,a⟩:=hrel;rw [f.out.2] at hs;by_cases C:j<k
     . have I:j<R.length:=(by rw [f.out.2];exact C);obtain ⟨b,off,l,c1,A,m,n,o,B⟩:=f.out.1 j I;have P:wr.cell? ⟨g,j,ZY⟩=ZX (Z5 (ZX ⟨b,off,ZY⟩) 44 l):=(Ul (a.block g X)).trans c1;have y:Src ZO 1 31 (Z5 (ZX ⟨b,off,ZY⟩) 44 l) 44 (aI R[j]) wr:=U7 wr Uh ⟨b,off,ZY⟩ 44 l (aI R[j]) (by rw [aW,o]) (λq u Y=>by have G:wr.cell? ⟨b,off+q,ZY⟩=ZX u:=(Ul (a.block b m)).trans (n q u Y);unfold Addr.add;split<;>first|exact G|(rename_i Q;subst Q;exact G)) (λu hu=>by
        obtain ⟨x,_,rfl⟩:=T6.1 hu;rfl)
       have h:aI (R.take (j+1)).flatten=aI (R.take j).flatten++aI R[j]:=by
        rw [U6,Ua I,YG,abb,bL];simp
       obtain ⟨D,L⟩:=nM (aI R[j]);obtain ⟨rt,J⟩:=nM (aI (R.take j).flatten);rw [L] at y h;rw [J] at d h;have N:=a.size;have H:=a5 d a y h;have k6:44*j+44<=44000:=(by omega);clear d a y h A m n o B c1 L J;go_wp2_with (show wpList _ _ _ ({ dst:=ZX 33,op:=_,type:=_,pos:=_,after:=_,guard:=_ }::_) _ _;refine ae _ rfl (Z1 31) (Z1 32) 31 31 rfl w.heap.size 5 i0 (Z7 .u8 0) 1 1 Uh Z hy hz k0 rfl _ (44*j) rt (by rfl) (by exact H.out.1) _ (by rfl) 44 D (by exact H.out.2.2.1) (by unfold maxLen;omega) (by omega) (by exact N) ?_;intro v' w3 U W _);obtain ⟨d,a,_,h⟩:=H.out;refine ⟨⟨j+1,by rw [f.out.2];omega,by go_num,?_,a.grown W N λq e=>dY d e⟩,by simp [intOf];omega⟩;rw [h,show 44*(j+1)=44*j+44 by omega];exact U
     . have hv:j=k:=(by omega);subst hv;have H:=au d a;clear d a;go_wp2;go_ret;refine ⟨_,rfl,?_,H.out.2⟩;have:=H.out.1;rw [UD (by rw [f.out.2];exact TV _)] at this;exact this
def Ri (v b g N gone sp:Nat):Array ZT:=#[Z6 (ZX ⟨v,0,ZY⟩),Z7 Z9 b,Z5 (ZX ⟨g,0,ZY⟩) N N,Z7 Z8 gone,Z7 Z8 sp]
def dI (w:ZU) (r v b g N gone sp:Nat):Prop:=w.heap[r]?=ZX (Z4 (Ri v b g N gone sp) 216 (0,0))
def dI.keep {v:Nat} (h:dI w r v b g N gone sp) (e:w'.heap[r]?=w.heap[r]?):dI w' r v b g N gone sp:=e.trans h
def dI.lt {v:Nat} (h:dI w r v b g N gone sp):r<w.heap.size:=(TX.1 h).1
def dI.cells {v:Nat} (h:dI w r v b g N gone sp):w.cell? ⟨r,0,ZY⟩=ZX (Z6 (ZX ⟨v,0,ZY⟩))/\w.cell? ⟨r,1,ZY⟩=ZX (Z7 Z9 b)/\w.cell? ⟨r,2,ZY⟩=ZX (Z5 (ZX ⟨g,0,ZY⟩) N N)/\w.cell? ⟨r,3,ZY⟩=ZX (Z7 Z8 gone)/\w.cell? ⟨r,4,ZY⟩=ZX (Z7 Z8 sp):=by
 have a:w.heap[r]?=ZX (Z4 (Ri v b g N gone sp) 216 (0,0)):=h;simp [World.cell?,a,Ri]
def dI.free {v:Nat} (h:dI w r v b g N gone sp) (i:Nat):w.frozen? ⟨r,i,ZY⟩=ZV:=by
 have a:w.heap[r]?=ZX (Z4 (Ri v b g N gone sp) 216 (0,0)):=h;simp [World.frozen?,a]
def vA (w:ZU) {ops:Array ZR} {rest:List ZR} {o:ZR} {a:Act} {Q:Exit->Act->ZU->Prop}
 (h:o.guard=ZY) (l c:ZP) (e:o.op=Op.makeSlice 174 l c) (C:Int) (n:Nat) (hl:a.eval l=Z7 Z9 C) (g:a.eval c=Z7 Z9 C) (f:C=(n:Int)) (hn:n<=1000000)
 (hK:∀ w',w'.rowIs w.heap.size 31 n (λ_=>Z5 ZY 0 0)->bW w w'->w'.heap.size=w.heap.size+1->wpList ZO ops Q rest (a.put o.dst (Z5 (ZX ⟨w.heap.size,0,ZY⟩) n n)) w') :
 wpList ZO ops Q (o::rest) a w:=by
 refine VO h λK d=>?_;have b:=Xz (P:=ZO) 174 31 (Z5 ZY 0 0) 24 Wp Tryz.Sb rfl .i64 .i64 n (by omega) (by omega) w;subst f;unfold Oper.wp;simp [execOp,e,hl,g,b,Result.andThen];exact d _ _ (hK _ (Xc w _ n _) (bA _ _) (Ug _ _))
theorem tz (w:ZU) (n:ZQ) (g N c:Nat) (f:Nat->ZT) (h:w.rowIs g 31 N f) (s:0<N):(Builtin.clear_ #[174] n #[Z5 (ZX ⟨g,0,ZY⟩) N c]).run ZO w=.ok (Z0 #[]) (w.setRow g (YF N (Value.slice ZY 0 0)).toArray):=by
 obtain ⟨cs,d,e,o⟩:=h;obtain ⟨t,b,j,q,r⟩:=Us Tryz.Sb;have l:(Builtin.zeroCells (Value.cells (Z5 ZY 0 0)) N).toList=YF N (Value.slice ZY 0 0):=by
  apply Vh
  . simp [Builtin.zeroCells,Value.cells]
  . intro i _ _;simp [Builtin.zeroCells,Value.cells,Nat.mod_one]
 have a:=run_storeCells_from (P:=ZO) g 31 (YF N (Value.slice ZY 0 0)) 0 cs w d (by simp [e]) (λv k=>by rw [VG k];rfl);have:N≠0:=by omega
 simp only [VR,Uk] at a;obtain ⟨m,rfl⟩:∃ m,N=m+1:=⟨N-1,by omega⟩;simp [Builtin.clear_,UH Wp,zeroValue,typeInfo,b,j,l,a]
def zg (w:ZU) {ops:Array ZR} {rest:List ZR} {o:ZR} {a:Act} {Q:Exit->Act->ZU->Prop} (j:o.guard=ZY) (s:ZP)
 (ho:o.op=.call { callee:=.builtin .clear,args:=#[s],argTypes:=#[174] }) (h0:o.dst=ZY) {g N c:Nat} {f:Nat->ZT} (hv:a.eval s=Z5 (ZX ⟨g,0,ZY⟩) N c) (hr:w.rowIs g 31 N f) (hN:0<N)
 (h:∀ w',w'.rowIs g 31 N (λ_=>Z5 ZY 0 0)->aa (λk=>k=g) w w'->wpList ZO ops Q rest a w'):wpList ZO ops Q (o::rest) a w:=by
 refine VO j λK hK=>?_;unfold Oper.wp execOp;simp only [ho,resolve,invoke,builtin,Uo,U2,UE,Vr,Uu,UY,hv,tz w _ g N c f hr hN];have b:=aK w g (YF N (Value.slice ZY 0 0)).toArray;obtain ⟨cs,d,_⟩:=hr;refine hK _ _ ?_;rw [h0];exact h _ ⟨_,Vf _ _ _ _ _ _ d,by simp,λi m=>by simp [m]⟩ ⟨b.os,b.tape,b.output,b.size,λk n l=>b.block k n (λe=>l (UI e))⟩
def DT (w:ZU) (r:Nat) {v b0 g N gone sp:Nat} (h:dI w r v b0 g N gone sp) (b ho:Nat):dI (((w.setCell ⟨r,1,ZY⟩ (Z7 Z9 b)).setCell ⟨r,3,ZY⟩ (Z7 Z8 0)).setCell ⟨r,4,ZY⟩ (Z7 Z8 ho)) r v b g N 0 ho/\aa (λk=>k=r) w (((w.setCell ⟨r,1,ZY⟩ (Z7 Z9 b)).setCell ⟨r,3,ZY⟩ (Z7 Z8 0)).setCell ⟨r,4,ZY⟩ (Z7 Z8 ho)):=by
 refine ⟨?_,((aa.setCell (S:=λk=>k=r) w ⟨r,1,ZY⟩ _ rfl).trans (aa.setCell _ ⟨r,3,ZY⟩ _ rfl)).trans (aa.setCell _ ⟨r,4,ZY⟩ _ rfl)⟩;have a:=Ys w r 1 _ _ (Z7 Z9 b) h;have c:=Ys _ r 3 _ _ (Z7 Z8 0) a;exact Ys _ r 4 _ _ (Z7 Z8 ho) c
theorem Nm {v D L G ps ho b0:Nat} (h:dI w r v b0 g N gone sp) (m:bk w v p D L G ps ho) (n:w.rowIs g 31 N f) (u:0<N) (d:g≠r) (t:v≠g) (b:Nat) :
 ZS ZO 112 #[Z6 (ZX ⟨r,0,ZY⟩),Z7 Z9 b] w λe w'=>e=Z3 (Z0 #[])/\dI w' r v b g N 0 ho/\w'.rowIs g 31 N (λ_=>Z5 ZY 0 0)/\aa (λk=>k=r\/k=g) w w':=by
 obtain ⟨c0,c1,o,q,s⟩:=h.cells;have H:=aE h m n;clear h m n;go_enter func112,ntmps112;go_wp2_with (show wpList _ _ _ ({ dst:=ZY,op:=.call { callee:=.builtin .clear,args:=_,argTypes:=_ },type:=_,pos:=_,after:=_,guard:=_ }::_) _ _;refine zg _ rfl (Z1 7) rfl rfl (g:=g) (N:=N) (c:=N) (f:=f) rfl (by exact H.out.2.2) u ?_;intro w1 l a;obtain ⟨y,d1,z,A,B⟩:=(H.out.1.keep (a.block _ H.out.1.lt (λe=>d e.symm))).cells;obtain ⟨_,_,_,_,_,I⟩:=(H.out.2.1.keep (a.block _ H.out.2.1.lt t)).cells;have C:=(H.out.1.keep (a.block _ H.out.1.lt (λe=>d e.symm))).free 1;have E:=(H.out.1.keep (a.block _ H.out.1.lt (λe=>d e.symm))).free 3;have F:=(H.out.1.keep (a.block _ H.out.1.lt (λe=>d e.symm))).free 4;have i:=au l a;clear l a c0 c1 o q s);first|go_end0|skip
 have x:=H.out.1.keep (i.out.2.block _ H.out.1.lt (λe=>d e.symm));have j:=DT w1 r x b ho;refine ⟨rfl,j.1,i.out.1.of_block (j.2.block _ i.out.1.lt (λe=>d e)),(i.out.2.mono λ_ _ e=>.inr e).trans (j.2.mono λ_ _ e=>.inl e)⟩
def fA {B:ZU->Prop} (i:(execOp a.eval o).run P w=.ok (.value v) w') (f:∀ c,o.op≠.defer c) {d:Nat} (g:o.dst=ZX d) (h:B w'/\Vi v w'/\S w') :
 o.wpIn Fence.wide n P a w (λb w'=>∃ v,b=a.put o.dst v/\(o.dst=ZY->v=ZZ)/\B w'/\Vi v w'/\S w') Q:=by
 refine ⟨λ_ _=>trivial,?_⟩;rw [Wh _ _ _ f,i];exact ⟨v,rfl,λe=>(by rw [g] at e;cases e),h.1,h.2.1,h.2.2⟩
def Bz {B:ZU->Prop} (e:(execOp a.eval o).run P w=.ok .skip w') (d:∀ c,o.op≠.defer c) (h:B w'/\Vi ZZ w'/\S w') :
 o.wpIn Fence.wide n P a w (λb w'=>∃ v,b=a.put o.dst v/\(o.dst=ZY->v=ZZ)/\B w'/\Vi v w'/\S w') Q:=by
 refine ⟨λ_ _=>trivial,?_⟩;rw [Wh _ _ _ d,e];exact ⟨ZZ,rfl,λ_=>rfl,h.1,h.2.1,h.2.2⟩
def BA {f:FuncId} {args:Array ZT} {Rr:Ending->ZU->Prop} {B:ZU->Prop} (l:(execOp a.eval o).run P w=.ok (.enter f args) w1) (g:∀ c,o.op≠.defer c) {d:Nat} (k:o.dst=ZX d) (j:ZS P f args w1 Rr)
 (h:∀ e w',Rr e w'->∃ v,e=Z3 v/\B w'/\Vi v w'/\S w'):o.wpIn Fence.wide n P a w (λb w'=>∃ v,b=a.put o.dst v/\(o.dst=ZY->v=ZZ)/\B w'/\Vi v w'/\S w') Q:=by
 refine ⟨λ_ _=>trivial,?_⟩;rw [Wh _ _ _ g,l];refine ⟨λh=>(by cases h),(Vk.2 (j.mono λe w' i=>?_))⟩;obtain ⟨v,rfl,m,p,q⟩:=h e w' i;exact ⟨v,rfl,λe=>(by rw [k] at e;cases e),m,p,q⟩
def gP:fI D i i=ZW:=if_pos rfl
def Nn (w:ZU) (S:Nat) (Dn:Nat->Bool) (w':ZU):Prop:=w'=if Dn 11=ZW then w.drew.alloc (Z4 #[Z7 Z8 S] 131) else w.drew
def kA {S:Nat} (h:Nn w S Dn w') (i:Nat) (a:11≠i):Nn w S (fI Dn i) w':=by unfold Nn;rw [bZ a];exact h
theorem ot {S:Nat} (h:Nn w S Dn w') {a:Addr} {v:ZT} (b:w.cell? a=ZX v):w'.cell? a=ZX v:=by
 unfold Nn at h;subst h;split
 . exact (World.cell?_alloc_some w.drew a _ (by rw [show w.drew.cell? a=w.cell? a from rfl,b];rfl)).trans b
 . exact b
def MN (w:ZU) (K:ZU->Prop) (Dn:Nat->Bool) (w':ZU):Prop:=if Dn 9=ZW then K w' else w'=w.drew
def ea {K:ZU->Prop} (h:MN w K Dn w') (i:Nat) (a:9≠i):MN w K (fI Dn i) w':=by unfold MN;rw [bZ a];exact h
def No (w:ZU) (g x q7:Nat) (Dn:Nat->Bool) (w':ZU):Prop:=w'=if Dn 8=ZW then w.drew.setCell ⟨g,x,ZY⟩ (Z5 (ZX ⟨q7,0,ZY⟩) 44 44) else w.drew
def mv (h:No w g x q7 Dn w') (i:Nat) (a:8≠i):No w g x q7 (fI Dn i) w':=by unfold No;rw [bZ a];exact h
theorem BB (h:No w g x q7 Dn w') {a:Addr} (c:a.block≠g) {v:ZT} (b:w.cell? a=ZX v):w'.cell? a=ZX v:=by
 unfold No at h;subst h;split
 . exact (Ul (Ud _ _ _ _ c)).trans b
 . exact b
noncomputable def Rj:Array ZR:=((Tryz.f125.body.bind (pe · 1))).getD #[]
def KD:List (Op×Option Nat×a8):=[(Op.move (Z1 1),ZX 9,[]),
 (Op.load 162 (Z1 2),ZX 10,[]),
 (Op.nilCheck (Z1 10),ZX 11,[1]),
 (Op.fieldAddr 216 (Z1 11) 3,ZX 12,[2]),
 (Op.load 131 (Z1 12),ZX 13,[3]),
 (Op.binOp BinOp.andNot 131 (Z1 9) (Z1 13) 131,ZX 14,[0,4]),
 (Op.load 162 (Z1 2),ZX 15,[]),
 (Op.nilCheck (Z1 15),ZX 16,[6]),
 (Op.fieldAddr 216 (Z1 16) 4,ZX 17,[7]),
 (Op.load 131 (Z1 17),ZX 18,[8]),
 (Op.binOp BinOp.andNot 131 (Z1 14) (Z1 18) 131,ZX 19,[5,9]),
 (Op.call { callee:=Callee.value (Operand.func 128),args:=#[Z1 19],argTypes:=#[131] },ZX 20,[10])]
def DU:aL Rj 9 21 KD:=bw (by kernel_rfl) (by kernel_rfl)
def BC (w:ZU) (r S gone sp S1 S2:Nat):List ZT:=[Z7 Z8 S,Z6 (ZX ⟨r,0,ZY⟩),Z6 (ZX ⟨r,0,ZY⟩),Z6 (ZX ⟨r,3,ZY⟩),Z7 Z8 gone,Z7 Z8 S1,Z6 (ZX ⟨r,0,ZY⟩),Z6 (ZX ⟨r,0,ZY⟩),Z6 (ZX ⟨r,4,ZY⟩),Z7 Z8 sp,Z7 Z8 S2,.func (.func 155) #[] #[Z6 (ZX ⟨w.heap.size,0,ZY⟩)]]
theorem vC {v S S1 S2:Nat} (F:Boxed w q 162 (Z6 (ZX ⟨r,0,ZY⟩))) (K:dI w r v b g N gone sp) (P:bits .andNot .u64 (S:Int) (gone:Int)=(S1:Int)) (R:bits .andNot .u64 (S1:Int) (sp:Int)=(S2:Int)) (G:Rj=ops) (T:a.tmps.size=100)
 (E:a.eval (Z1 1)=Z7 Z8 S) (B:a.eval (Z1 2)=Z6 (ZX ⟨q,0,ZY⟩))
 (I:∀ (w':ZU),w'=w.drew.alloc (Z4 #[Z7 Z8 S2] 131)->Q .normal (Act.RR a 9 [Z7 Z8 S,Z6 (ZX ⟨r,0,ZY⟩),Z6 (ZX ⟨r,0,ZY⟩),Z6 (ZX ⟨r,3,ZY⟩),Z7 Z8 gone,Z7 Z8 S1,Z6 (ZX ⟨r,0,ZY⟩),Z6 (ZX ⟨r,0,ZY⟩),Z6 (ZX ⟨r,4,ZY⟩),Z7 Z8 sp,Z7 Z8 S2,.func (.func 155) #[] #[Z6 (ZX ⟨w.heap.size,0,ZY⟩)]]) w'):(Code.region 1 ops ZW).wpIn Fence.wide n ZO Q a w:=by
 subst G;obtain ⟨_,_,_,C,D⟩:=K.cells;have A:=F.cell;refine bV (by kernel_rfl) DU a w (by omega) (λi u _=>u=(BC w r S gone sp S1 S2).getD i ZZ) (Nn w S2) rfl ?_ ?_
 . intro i z;match i,z with
   | 0,_=>
    intro o k w' Dn x ho l p s t m j d;have u0:k.eval (Z1 1)=Z7 Z8 S:=(p.slot 1 (by omega)).trans E;exact fA (ag ho u0 w') (by rw [ho];intro c h;cases h) l ⟨kA j 0 (by decide),rfl,kq⟩
   | 1,_=>
    intro o k w' Dn x ho l p s t m j d;have u0:k.eval (Z1 2)=Z6 (ZX ⟨q,0,ZY⟩):=(p.slot 2 (by omega)).trans B;have y:w'.cell? ⟨q,0,ZY⟩=ZX (Z6 (ZX ⟨r,0,ZY⟩)):=ot j A;exact fA (v:=Z6 (ZX ⟨r,0,ZY⟩)) (by (conv at ho=>rhs;whnf);simp only [execOp,ho,u0];go_simp) (by rw [ho];intro c h;cases h) l ⟨kA j 1 (by decide),rfl,kq⟩
   | 2,_|3,_|7,_|8,_=>
    intro o k w' Dn x ho l p s t m j d;have u0:=d _ (m _ (.head _));simp only [KD,BC,bB,dM,Aq,Ap] at ho u0;exact fA (by simp only [execOp,ho,u0,BC,Aq,Ap];go_simp) (by rw [ho];intro c h;cases h) l ⟨kA j _ (by decide),rfl,kq⟩
   | 5,_|10,_=>
    intro o k w' Dn x ho l p s t m j d;have u0:=d _ (m _ (.head _));have u1:=d _ (m _ (.tail _ (.head _)));simp only [KD,BC,bB,dM,Aq,Ap] at ho u0 u1;exact fA (by simp only [execOp,ho,u0,u1,BC,Aq,Ap];go_simp) (by rw [ho];intro c h;cases h) l ⟨kA j _ (by decide),rfl,kq⟩
   | 4,_=>
    intro o k w' Dn x ho l p s t m j d;have u0:k.eval (Z1 12)=Z6 (ZX ⟨r,3,ZY⟩):=d 3 (m 3 (by decide));have y:w'.cell? ⟨r,3,ZY⟩=ZX (Z7 Z8 gone):=ot j C;exact fA (v:=Z7 Z8 gone) (by (conv at ho=>rhs;whnf);simp only [execOp,ho,u0];go_simp) (by rw [ho];intro c h;cases h) l ⟨kA j 4 (by decide),rfl,kq⟩
   | 6,_=>
    intro o k w' Dn x ho l p s t m j d;have u0:k.eval (Z1 2)=Z6 (ZX ⟨q,0,ZY⟩):=(p.slot 2 (by omega)).trans B;have y:w'.cell? ⟨q,0,ZY⟩=ZX (Z6 (ZX ⟨r,0,ZY⟩)):=ot j A;exact fA (v:=Z6 (ZX ⟨r,0,ZY⟩)) (by (conv at ho=>rhs;whnf);simp only [execOp,ho,u0];go_simp) (by rw [ho];intro c h;cases h) l ⟨kA j 6 (by decide),rfl,kq⟩
   | 9,_=>
    intro o k w' Dn x ho l p s t m j d;have u0:k.eval (Z1 17)=Z6 (ZX ⟨r,4,ZY⟩):=d 8 (m 8 (by decide));have y:w'.cell? ⟨r,4,ZY⟩=ZX (Z7 Z8 sp):=ot j D;exact fA (v:=Z7 Z8 sp) (by (conv at ho=>rhs;whnf);simp only [execOp,ho,u0];go_simp) (by rw [ho];intro c h;cases h) l ⟨kA j 9 (by decide),rfl,kq⟩
   | 11,_=>
    intro o k w' Dn x ho l p s t m j d;have u0:k.eval (Z1 19)=Z7 Z8 S2:=d 10 (m 10 (by decide));refine BA (f:=128) (args:=#[Z7 Z8 S2]) (w1:=w') (by (conv at ho=>rhs;whnf);simp only [execOp,ho];go_simp;simpa [Act.eval] using u0) (by rw [ho];intro c h;cases h) l (dC S2 w') ?_;rintro e M ⟨rfl,rfl⟩;have L:w'=w.drew:=(by have:=j;unfold Nn at this;rw [if_neg (by rw [s];decide)] at this;exact this);subst L;exact ⟨_,rfl,by unfold Nn;rw [if_pos gP],rfl,kq⟩
   | n+12,hn=>exact absurd hn (by show ¬ n+12<12;omega)
 . rintro k w' J O ⟨Dn,H,j⟩ d;have e:k=Act.RR a 9 [Z7 Z8 S,Z6 (ZX ⟨r,0,ZY⟩),Z6 (ZX ⟨r,0,ZY⟩),Z6 (ZX ⟨r,3,ZY⟩),Z7 Z8 gone,Z7 Z8 S1,Z6 (ZX ⟨r,0,ZY⟩),Z6 (ZX ⟨r,0,ZY⟩),Z6 (ZX ⟨r,4,ZY⟩),Z7 Z8 sp,Z7 Z8 S2,.func (.func 155) #[] #[Z6 (ZX ⟨w.heap.size,0,ZY⟩)]]:=J.out _ rfl (by omega) (λi z=>?_)
   . rw [e];exact I w' (by unfold Nn at j;rw [if_pos (H 11 (by decide))] at j;exact j)
   . match i,z with
     | 0,_=>exact d 0 (by decide)
     | 1,_=>exact d 1 (by decide)
     | 2,_=>exact d 2 (by decide)
     | 3,_=>exact d 3 (by decide)
     | 4,_=>exact d 4 (by decide)
     | 5,_=>exact d 5 (by decide)
     | 6,_=>exact d 6 (by decide)
     | 7,_=>exact d 7 (by decide)
     | 8,_=>exact d 8 (by decide)
     | 9,_=>exact d 9 (by decide)
     | 10,_=>exact d 10 (by decide)
     | 11,_=>exact d 11 (by decide)
     | n+12,hn=>exact absurd hn (by simp)
noncomputable def RF4:Array ZR:=((Tryz.f125.body.bind (pe · 4))).getD #[]
def aaA:List (Op×Option Nat×a8):=[(Op.load 162 (Z1 2),ZX 31,[]),
 (Op.nilCheck (Z1 31),ZX 32,[0]),
 (Op.fieldAddr 216 (Z1 32) 0,ZX 33,[1]),
 (Op.load 107 (Z1 33),ZX 34,[2]),
 (Op.move (Z1 4),ZX 35,[]),
 (Op.load 162 (Z1 2),ZX 36,[]),
 (Op.nilCheck (Z1 36),ZX 37,[5]),
 (Op.fieldAddr 216 (Z1 37) 1,ZX 38,[6]),
 (Op.load 3 (Z1 38),ZX 39,[7]),
 (Op.call { callee:=Callee.value (Operand.func 94),args:=#[Z1 34,Z1 35,Z1 39],argTypes:=#[107,3,3] },ZX 40,[3,4,8]),
 (Op.move (Z1 40),ZX 30,[9]),
 (Op.extract (Z1 30) 0,ZX 41,[10]),
 (Op.extract (Z1 30) 1,ZX 42,[10]),
 (Op.assign (Z1 41),ZX 5,[11,9,0,1,2,3,4,5,6,7,8,9,10,11]),
 (Op.assign (Z1 42),ZX 6,[12,13,0,1,2,3,4,5,6,7,8,9,10,11,12,13])]
def Hb:aL RF4 5 43 aaA:=bw (by kernel_rfl) (by kernel_rfl)
def aaB (r v x b:Nat) (Xv Yv:ZT):List ZT:=[Z6 (ZX ⟨r,0,ZY⟩),Z6 (ZX ⟨r,0,ZY⟩),Z6 (ZX ⟨r,0,ZY⟩),Z6 (ZX ⟨v,0,ZY⟩),Z7 Z9 x,Z6 (ZX ⟨r,0,ZY⟩),Z6 (ZX ⟨r,0,ZY⟩),Z6 (ZX ⟨r,1,ZY⟩),Z7 Z9 b,Z0 #[Xv,Yv],Z0 #[Xv,Yv],Xv,Yv,Xv,Yv]
noncomputable def RF8:Array ZR:=((Tryz.f125.body.bind (pe · 8))).getD #[]
def PP:List (Op×Option Nat×a8):=[(Op.load 162 (Z1 2),ZX 47,[]),
 (Op.nilCheck (Z1 47),ZX 48,[0]),
 (Op.fieldAddr 216 (Z1 48) 2,ZX 49,[1]),
 (Op.load 174 (Z1 49),ZX 50,[2]),
 (Op.move (Z1 4),ZX 51,[]),
 (Op.fieldAddr 231 (Z1 7) 0,ZX 52,[]),
 (Op.slice 229 (Z1 52) ZY ZY ZY,ZX 53,[5]),
 (Op.indexAddr 174 (Z1 50) (Z1 51),ZX 54,[3,4,0,1,2,3,4,5,6]),
 (Op.store 31 (Z1 54) (Z1 53),ZY,[7,6,0,1,2,3,4,5,6])]
def Hc:aL RF8 47 55 PP:=bw (by kernel_rfl) (by kernel_rfl)
def KE (r g N x q7:Nat):List ZT:=[Z6 (ZX ⟨r,0,ZY⟩),Z6 (ZX ⟨r,0,ZY⟩),Z6 (ZX ⟨r,2,ZY⟩),Z5 (ZX ⟨g,0,ZY⟩) N N,Z7 Z9 x,Z6 (ZX ⟨q7,0,ZY⟩),Z5 (ZX ⟨q7,0,ZY⟩) 44 44,Z6 (ZX ⟨g,x,ZY⟩),ZZ]
theorem vD {v:Nat} (K:Boxed w q 162 (Z6 (ZX ⟨r,0,ZY⟩))) (T:dI w r v b g N gone sp) (C:w.rowIs g 31 N f) (x:Nat) (V:x<N) (P:q≠g) (R:r≠g) (L:RF8=ops) (Y:a.tmps.size=100)
 (G:a.eval (Z1 2)=Z6 (ZX ⟨q,0,ZY⟩)) (H:a.eval (Z1 4)=Z7 Z9 x) (I:a.eval (Z1 7)=Z6 (ZX ⟨q7,0,ZY⟩))
 (O:∀ (w':ZU),w'=w.drew.setCell ⟨g,x,ZY⟩ (Z5 (ZX ⟨q7,0,ZY⟩) 44 44)->Q .normal (Act.RR a 47 [Z6 (ZX ⟨r,0,ZY⟩),Z6 (ZX ⟨r,0,ZY⟩),Z6 (ZX ⟨r,2,ZY⟩),Z5 (ZX ⟨g,0,ZY⟩) N N,Z7 Z9 x,Z6 (ZX ⟨q7,0,ZY⟩),Z5 (ZX ⟨q7,0,ZY⟩) 44 44,Z6 (ZX ⟨g,x,ZY⟩)]) w'):(Code.region 8 ops ZW).wpIn (Fence.wide.inRound l) n ZO Q a w:=by
 subst L;obtain ⟨_,_,D,_,_⟩:=T.cells;have F:=K.cell;have E:=C.cell (i:=x) V;have J:=C.frozen x;refine bV (by kernel_rfl) Hc a w (by omega) (λi u _=>u=(KE r g N x q7).getD i ZZ) (No w g x q7) rfl ?_ ?_
 . intro i A;match i,A with
   | 0,_=>
    intro o k w' Dn z ho p s t y m j d;have u0:k.eval (Z1 2)=Z6 (ZX ⟨q,0,ZY⟩):=(s.slot 2 (by omega)).trans G;have B:w'.cell? ⟨q,0,ZY⟩=ZX (Z6 (ZX ⟨r,0,ZY⟩)):=BB j P F;exact av (v:=Z6 (ZX ⟨r,0,ZY⟩)) (by (conv at ho=>rhs;whnf);simp only [execOp,ho,u0];go_simp) (by rw [ho];intro c h;cases h) p ⟨mv j 0 (by decide),rfl,kq⟩
   | 1,_|2,_|6,_=>
    intro o k w' Dn z ho p s t y m j d;have u0:=d _ (m _ (.head _));simp only [PP,KE,bB,dM,Aq,Ap] at ho u0;exact av (by simp only [execOp,ho,u0,KE,Aq,Ap];go_simp) (by rw [ho];intro c h;cases h) p ⟨mv j _ (by decide),rfl,kq⟩
   | 7,_=>
    intro o k w' Dn z ho p s t y m j d;have u0:=d _ (m _ (.head _));have u1:=d _ (m _ (.tail _ (.head _)));simp only [PP,KE,bB,dM,Aq,Ap] at ho u0 u1;exact av (by simp only [execOp,ho,u0,u1,KE,Aq,Ap];go_simp) (by rw [ho];intro c h;cases h) p ⟨mv j _ (by decide),rfl,kq⟩
   | 3,_=>
    intro o k w' Dn z ho p s t y m j d;have u0:k.eval (Z1 49)=Z6 (ZX ⟨r,2,ZY⟩):=d 2 (m 2 (by decide));have B:w'.cell? ⟨r,2,ZY⟩=ZX (Z5 (ZX ⟨g,0,ZY⟩) N N):=BB j R D;exact av (v:=Z5 (ZX ⟨g,0,ZY⟩) N N) (by (conv at ho=>rhs;whnf);simp only [execOp,ho,u0];go_simp) (by rw [ho];intro c h;cases h) p ⟨mv j 3 (by decide),rfl,kq⟩
   | 4,_=>
    intro o k w' Dn z ho p s t y m j d;have u0:k.eval (Z1 4)=Z7 Z9 x:=(s.slot 4 (by omega)).trans H;exact av (ag ho u0 w') (by rw [ho];intro c h;cases h) p ⟨mv j 4 (by decide),rfl,kq⟩
   | 5,_=>
    intro o k w' Dn z ho p s t y m j d;have u0:k.eval (Z1 7)=Z6 (ZX ⟨q7,0,ZY⟩):=(s.slot 7 (by omega)).trans I;exact av (v:=Z6 (ZX ⟨q7,0,ZY⟩)) (by (conv at ho=>rhs;whnf);simp only [execOp,ho,u0];go_simp) (by rw [ho];intro c h;cases h) p ⟨mv j 5 (by decide),rfl,kq⟩
   | 8,_=>
    intro o k w' Dn z ho p s t y m j d;have u0:k.eval (Z1 54)=Z6 (ZX ⟨g,x,ZY⟩):=d 7 (m 7 (by decide));have u1:k.eval (Z1 53)=Z5 (ZX ⟨q7,0,ZY⟩) 44 44:=d 6 (m 6 (by decide));have U:w'=w.drew:=(by have:=j;unfold No at this;rw [if_neg (by rw [t];decide)] at this;exact this);subst U;have B:w.drew.cell? ⟨g,x,ZY⟩=ZX (f x):=E;have W:w.drew.frozen? ⟨g,x,ZY⟩=ZV:=J;exact lD (w':=w.drew.setCell ⟨g,x,ZY⟩ (Z5 (ZX ⟨q7,0,ZY⟩) 44 44)) (by (conv at ho=>rhs;whnf);simp only [execOp,ho,u0,u1];go_simp) (by rw [ho];intro c h;cases h) ⟨by unfold No;rw [if_pos gP],rfl,kq⟩
   | n+9,hn=>exact absurd hn (by show ¬ n+9<9;omega)
 . rintro k w' S X ⟨Dn,M,j⟩ d;have e:k=Act.RR a 47 [Z6 (ZX ⟨r,0,ZY⟩),Z6 (ZX ⟨r,0,ZY⟩),Z6 (ZX ⟨r,2,ZY⟩),Z5 (ZX ⟨g,0,ZY⟩) N N,Z7 Z9 x,Z6 (ZX ⟨q7,0,ZY⟩),Z5 (ZX ⟨q7,0,ZY⟩) 44 44,Z6 (ZX ⟨g,x,ZY⟩)]:=S.out _ rfl (by omega) (λi A=>?_)
   . rw [e];exact O w' (by unfold No at j;rw [if_pos (M 8 (by decide))] at j;exact j)
   . match i,A with
     | 0,_=>exact d 0 (by decide)
     | 1,_=>exact d 1 (by decide)
     | 2,_=>exact d 2 (by decide)
     | 3,_=>exact d 3 (by decide)
     | 4,_=>exact d 4 (by decide)
     | 5,_=>exact d 5 (by decide)
     | 6,_=>exact d 6 (by decide)
     | 7,_=>exact d 7 (by decide)
     | n+8,hn=>exact absurd hn (by simp)
def mid (f:Nat->ZT) (g F:Nat->Nat) (c off k j:Nat):ZT:=if off<=j/\j<off+k then Z7 .u8 ((g j^^^gm c (F (j-off)):Nat):Int) else f j
def AdM (w:ZU) (b t N off k c tb fb foff:Nat) (f:Nat->ZT) (g F:Nat->Nat) (i:ZT) (wr:ZU):Prop:=
 ∃ j:Nat,j<=k/\i=Z7 Z9 j/\wr.rowIs b t N (mid f g F c off j)/\mq wr tb c/\(∀ i,i<k->wr.cell? ⟨fb,foff+i,ZY⟩=ZX (Z7 .u8 ((F i:Nat):Int)))/\w.grownBy wr (ZX b)
def KF (f:Nat->ZT) (g F:Nat->Nat) (c off j x:Nat):mid f g F c off (j+1) x=if x=off+j then Z7 .u8 ((g (off+j)^^^gm c (F j):Nat):Int) else mid f g F c off j x:=by
 unfold mid;by_cases h:x=off+j
 . subst h;rw [if_pos rfl,if_pos (by omega),WC]
 . rw [if_neg h];by_cases a:off<=x/\x<off+j
   . rw [if_pos a,if_pos (by omega)]
   . rw [if_neg a,if_neg (by omega)]
theorem KG (f:Nat->ZT) (g F:Nat->Nat) (c off:Nat):mid f g F c off 0=f:=by
 funext j;unfold mid;rw [if_neg (by omega)]
theorem KH {g F:Nat->Nat} {off:Nat} (a:∀ j,off<=j->j<off+n->f j=Z7 .u8 ((g j:Nat):Int)) (j:Nat):mid f g F 0 off n j=f j:=by
 unfold mid;split
 . rename_i h;rw [cT,U8,a j h.1 h.2]
 . rfl
theorem zh (b t N off n cap o d r c:Nat) (f:Nat->ZT) (g F:Nat->Nat) (w:ZU) (D:c<256) (A:w.rowIs b t N f) (B:∀ j,off<=j->j<off+n->f j=Z7 .u8 ((g j:Nat):Int)) (O:∀ j,g j<256) (K:∀ j,F j<256) (hn:off+n<=N) (k6:n<=140737488355328)
 (U:∀ i,i<n->w.cell? ⟨o,d+i,ZY⟩=ZX (Z7 .u8 ((F i:Nat):Int))) (k7:o≠b\/d+n<=off\/off+n<=d) :
 ZS ZO 165 #[Z5 (ZX ⟨b,off,ZY⟩) n cap,Z5 (ZX ⟨o,d,ZY⟩) n r,Z7 .u8 c] w λe w'=>e=Z3 (Z0 #[])/\w'.rowIs b t N (mid f g F c off n)/\w.grownBy w' (ZX b):=by
 by_cases I:c=0
 . subst I;go_enter func165,ntmps165;go_wp2;exact Um (v:=Z0 #[]) (by simp [results,results165]) rfl ⟨rfl,A.congr (λj _=>(KH B j).symm),Wn _ _⟩
 . have ke:((c:Int)==0)=ZV:=(by rw [beq_eq_false_iff_ne];omega);clear I;go_enter func165,ntmps165;go_wp2_with fail;refine (lE c D _).mono ?_;rintro e w1 ⟨cs,rfl,kb,J,p⟩;have ka:=p.size;go_wp2_with (refine nj _ rfl (Z1 6) (Z1 11) rfl w1.heap.size c cs _ rfl rfl (UG w1 _) rfl kb J ?_;intro w2 P q);have R:b<w.heap.size:=A.lt;have l:w.grownBy w2 ZY:=by
    refine ⟨q.os.trans p.os,q.tape.trans p.tape,q.output.trans p.output,?_,λk G _=>?_⟩
    . have:=q.size;rw [Ug] at this;omega
    . rw [q.block k (by rw [Ug];omega) (by intro e;simp at e;omega),Ux _ _ _ (by omega),p.block k G]
   have X:w2.rowIs b t N f:=A.of_block (l.block b R (by simp));have S:∀ i,i<n->w2.cell? ⟨o,d+i,ZY⟩=ZX (Z7 .u8 ((F i:Nat):Int)):=λi E=>by
    have:=U i E;exact l.cell this (by simp)
   have Z:w.grownBy w2 (ZX b):=⟨l.os,l.tape,l.output,l.size,λk G _=>l.block k G (by simp)⟩;have kc:w1.heap.size≠b:=(by omega);clear q l A U J p ka R;go_loopw [17] (λi wr=>AdM w b t N off n c w1.heap.size o d f g F i wr) (λi _=>n-(intOf i).toNat)
   case atStart=>exact ⟨0,T9 _,rfl,by rw [KG];exact X,P,S,Z⟩
   case round=>
    clear P S Z X;obtain ⟨j,Q,rfl,s,u,z,C⟩:=hrel;by_cases k9:j<n
    . have c1:=s.cell (i:=off+j) (by omega);have f1:=s.frozen (off+j);have c2:=z j k9;have H:mid f g F c off j (off+j)=Z7 .u8 ((g (off+j):Nat):Int):=(by unfold mid;rw [if_neg (by omega)];exact B _ (by omega) (by omega));rw [H] at c1;have W:=nh (g (off+j)) (gm c (F j)) (O _) (bE _ D);have Y:=(s.set (off+j) (Z7 .u8 ((g (off+j)^^^gm c (F j):Nat):Int))).congr (λx _=>(KF f g F c off j x).symm);have M:=qJ u (a:=⟨b,off+j,ZY⟩) kc (Z7 .u8 ((g (off+j)^^^gm c (F j):Nat):Int));have V:=eW C (off+j) (Z7 .u8 ((g (off+j)^^^gm c (F j):Nat):Int));have T:∀ i,i<n->(wr.setCell ⟨b,off+j,ZY⟩ (Z7 .u8 ((g (off+j)^^^gm c (F j):Nat):Int))).cell? ⟨o,d+i,ZY⟩=ZX (Z7 .u8 ((F i:Nat):Int)):=λi E=>by
       rw [<- z i E];by_cases k5:o=b
       . exact World.cell?_setCell_other _ _ _ _ (by intro e;have h1:off+j=d+i:=congrArg Addr.off e;omega)
       . exact Ul (Ud _ _ _ _ k5)
      have L:=K j;have h:=a5 Y M T V;have HT:=al u;generalize F j=y at c2 W L h;generalize g (off+j)=x at c1 W h;clear H Y M V T s u z C O K B;go_wp2;go_region_with ((go_at_call 181;refine (wC w1.heap.size c y D L _ (by exact λj Q=>HT.out j Q)).mono ?_;rintro e w' ⟨rfl,m,rfl⟩));all_goals
       go_wp2;go_roundw
       case rel=>exact ⟨j+1,by omega,by go_num,h.out.1,h.out.2.1,h.out.2.2.1,⟨h.out.2.2.2.os,h.out.2.2.2.tape,h.out.2.2.2.output,h.out.2.2.2.size,h.out.2.2.2.block⟩⟩
       case measure=>simp [intOf];omega
    . have k8:j=n:=(by omega);subst k8;clear u z;go_wp2;go_end0
      exact ⟨rfl,s,C⟩
def nI (C:Ck) (k:Nat):ZT:=if k<128 then Z7 .u8 ((C.m (k/16) (k%16):Nat):Int) else if k=128 then Z7 Z9 (C.told:Int) else Z7 Z9 (C.count:Int)
def aD (w:ZU) (b:Nat) (C:Ck):Prop:=w.rowIs b 326 130 (nI C)
structure ep (C:Ck):Prop where
 byt:yz C
 le:C.told<=C.count
 Sg:C.count<=8
def aD.at (h:aD w b C) (r i:Nat) (c:r<8) (a:i<16):w.cell? ⟨b,r*16+i,ZY⟩=ZX (Z7 .u8 ((C.m r i:Nat):Int)):=by
 have:=h.cell (i:=r*16+i) (by omega);rw [this];unfold nI;rw [if_pos (by omega),show (r*16+i)/16=r by omega,show (r*16+i)%16=i by omega]
def aD.Sw (h:aD w b C):w.cell? ⟨b,128,ZY⟩=ZX (Z7 Z9 (C.told:Int)):=h.cell (i:=128) (by decide)
def aD.Sr (h:aD w b C):w.cell? ⟨b,129,ZY⟩=ZX (Z7 Z9 (C.count:Int)):=h.cell (i:=129) (by decide)
def aaC (C:Ck) (i:Nat) (wo:ZU) (v:ZT) (wr:ZU):Prop:=∃ r:Nat,v=Z7 Z9 r/\C.told<=r/\r<=C.count/\(∀ k,C.told<=k->k<r->C.m k i=0)/\wr=wo
def Rk:Option Nat->ZT
 | some r=>Z0 #[Z7 Z9 (r:Int),Z2 ZW]
 | none=>Z0 #[Z7 Z9 0,Z2 ZV]
theorem wO (b i:Nat) (C:Ck) (w:ZU) (h:aD w b C) (l:ep C) (q:i<16) :
 ZS ZO 206 #[Z6 (ZX ⟨b,0,ZY⟩),Z7 Z9 i] w λe w'=>e=Z3 (Rk (dZ C i))/\w'=w:=by
 have u:=h.Sw;have t:=h.Sr;have n:=l.le;have x:=l.Sg;have y:(i:Int)<16:=by omega
 go_enter func206,ntmps206;go_wp2;go_loopw [6] (λv wr=>aaC C i w v wr) (λv _=>C.count-(intOf v).toNat)
 case atStart=>exact ⟨C.told,rfl,TV _,n,λk a b=>absurd b (by omega),rfl⟩
 case round=>
  obtain ⟨r,rfl,s,B,f,rfl⟩:=hrel;by_cases p:r<C.count
  . have c1:=h.at r i (by omega) q;have j:=al f;clear f;have o:(r:Int)<C.count:=(by omega);have A:(r:Int)<8:=(by omega);by_cases d:C.m r i=0
    . rw [d] at c1;go_wp2;go_roundw
      case rel=>exact ⟨r+1,by go_num,by omega,by omega,λk a b=>by
       by_cases e:k=r
       . rw [e];exact d
       . exact j.out k a (by omega),rfl⟩
      case measure=>simp [intOf];omega
    . have z:((C.m r i:Nat):Int)≠0:=(by omega);have c:=ve s p d j.out;have g:=al c;clear c d;go_wp2;refine Um (v:=Z0 #[Z7 Z9 (r:Int),Z2 ZW]) (by simp [results,results206]) rfl ?_;rw [g.out];exact ⟨rfl,rfl⟩
  . have o:¬ (r:Int)<C.count:=(by omega);have c:=vh (C:=C) (i:=i) (λk a b=>f k a (by omega));have g:=al c;clear c f;go_wp2;refine Um (v:=Z0 #[Z7 Z9 0,Z2 ZV]) (by simp [results,results206]) rfl ?_;rw [g.out];exact ⟨rfl,rfl⟩
def RdR (C:Ck) (i:Nat) (wo:ZU) (v:ZT) (wr:ZU):Prop:=∃ r:Nat,v=Z7 Z9 r/\r<=C.told/\(∀ k,k<r->C.m k i=0)/\wr=wo
theorem wP (b i:Nat) (C:Ck) (w:ZU) (j:aD w b C) (l:ep C) (q:i<16) :
 ZS ZO 210 #[Z6 (ZX ⟨b,0,ZY⟩),Z7 Z9 i] w λe w'=>e=Z3 (Z2 (cF C i))/\w'=w:=by
 have s:=j.Sw;have t:=l.le;have u:=l.Sg;have x:(i:Int)<16:=by omega
 go_enter func210,ntmps210;go_wp2;go_loopw [10] (λv wr=>RdR C i w v wr) (λv _=>C.told-(intOf v).toNat)
 case atStart=>exact ⟨0,rfl,T9 _,λk h=>absurd h (by omega),rfl⟩
 case round=>
  obtain ⟨r,rfl,A,f,rfl⟩:=hrel;by_cases p:r<C.told
  . have c1:=j.at r i (by omega) q;have n:=al f;clear f;have o:(r:Int)<C.told:=(by omega);have z:(r:Int)<8:=(by omega);by_cases d:C.m r i=0
    . rw [d] at c1;go_wp2;go_roundw
      case rel=>exact ⟨r+1,by go_num,by omega,λk b=>by
       by_cases e:k=r
       . rw [e];exact d
       . exact n.out k (by omega),rfl⟩
      case measure=>simp [intOf];omega
    . have y:((C.m r i:Nat):Int)≠0:=(by omega);have c:=qC p d;have g:=al c;clear c d;go_wp2;go_ret;rw [g.out];exact ⟨rfl,rfl⟩
  . have o:¬ (r:Int)<C.told:=(by omega);have c:=(gZ (C:=C) (i:=i)).2 (λk a=>f k (by omega));have g:=al c;clear c f;go_wp2;go_ret;rw [g.out];exact ⟨rfl,rfl⟩
def lI (C:Ck) (k r i:Nat):Ck:=⟨cM C.m k r i,C.told,C.count⟩
theorem Hd (m:Nat->Nat->Nat) (r i:Nat):cM m 0 r i=m:=by funext k j;unfold cM;rw [if_neg (by omega)]
def He (m:Nat->Nat->Nat) (k r i:Nat):cM m k r i r=m r:=nL (by omega)
def wQ (m:Nat->Nat->Nat) (k r i:Nat):cM m k r i k=m k:=nL (by omega)
theorem Hf (m:Nat->Nat->Nat) (r i:Nat):cM m (r+1) r i=cM m r r i:=by
 funext k j;unfold cM;by_cases h:k<r/\k≠r
 . rw [if_pos h,if_pos (by omega)]
 . rw [if_neg h,if_neg (by omega)]
def KI (C:Ck) (k r i:Nat) (e:k≠r) (f:k<8) (x:Nat) :
 mid (nI (lI C k r i)) (λx=>cM C.m k r i (x/16) (x%16)) (λj=>C.m r j) (gm (C.m k i) (gi (C.m r i))) (k*16) 16 x=nI (lI C (k+1) r i) x:=by
 unfold mid;by_cases h:k*16<=x/\x<k*16+16
 . rw [if_pos h];have c:x/16=k:=(by omega);have d:x-k*16=x%16:=(by omega);unfold nI;rw [if_pos (by omega)];show Value.int .u8 ((cM C.m k r i (x/16) (x%16)^^^gm _ (C.m r (x-k*16)):Nat):Int)=Z7 .u8 ((cM C.m (k+1) r i (x/16) (x%16):Nat):Int);rw [c,d,wQ];have:cM C.m (k+1) r i k (x%16)=C.m k (x%16)^^^gm (gm (C.m k i) (gi (C.m r i))) (C.m r (x%16)):=by unfold cM;rw [if_pos ⟨by omega,e⟩]
   rw [this]
 . rw [if_neg h];unfold nI;by_cases a:x<128
   . rw [if_pos a,if_pos a];have:cM C.m k r i (x/16) (x%16)=cM C.m (k+1) r i (x/16) (x%16):=by
      unfold cM;by_cases b:x/16<k/\x/16≠r
      . rw [if_pos b,if_pos (by omega)]
      . rw [if_neg b,if_neg (by omega)]
     show Value.int .u8 ((cM C.m k r i (x/16) (x%16):Nat):Int)=Z7 .u8 ((cM C.m (k+1) r i (x/16) (x%16):Nat):Int);rw [this]
   . rw [if_neg a,if_neg a];rfl
def OfR (w:ZU) (b r i:Nat) (C:Ck) (v:ZT) (wr:ZU):Prop:=
 ∃ k:Nat,v=Z7 Z9 k/\k<=C.count/\aD wr b (lI C k r i)/\w.grownBy wr (ZX b)
theorem pO (w:ZU) (b o:Nat):(Instr.sliceAt 264 (Z6 (ZX ⟨b,o,ZY⟩)) ZY ZY ZY).run ZO w=.ok (Z5 (ZX ⟨b,o,ZY⟩) 16 16) w:=by
 go_simp
theorem wR (b r i:Nat) (C:Ck) (w:ZU) (f:aD w b C) (d:ep C) (u:r<8) (t:i<16) :
 ZS ZO 208 #[Z6 (ZX ⟨b,0,ZY⟩),Z7 Z9 r,Z7 Z9 i] w λe w'=>e=Z3 (Z0 #[])/\aD w' b (lI C C.count r i)/\w.grownBy w' (ZX b):=by
 have B:=f.Sr;have c0:=f.at r i u t;have E:=d.Sg;have z:=d.byt r i;have V:(i:Int)<16:=by omega
 have Y:(r:Int)<8:=by omega
 have l:=al (show aD w b (lI C 0 r i) by unfold lI;rw [Hd];exact f);clear f;go_enter func208,ntmps208;go_wp2_with fail;refine (rN (C.m r i) z _).mono ?_;rintro e w1 ⟨rfl,Q⟩;have S:=Q.symm;subst S;go_wp2;go_loopw [21] (λv wr=>OfR w b r i C v wr) (λv _=>C.count-(intOf v).toNat)
 case atStart=>exact ⟨0,rfl,T9 _,l.out,Wn _ _⟩
 case round=>
  clear B c0 l;rename ZU=>wo;obtain ⟨k,rfl,U,a,g⟩:=hrel;by_cases X:k<C.count
  . have G:(k:Int)<C.count:=(by omega);by_cases h:k=r
    . have F:(k:Int)=(r:Int):=(by omega);have A:Hid (aD wo b (lI C (k+1) r i)):=al (by unfold lI at *;rw [h] at a ⊢;rw [Hf];exact a);clear h a;go_wp2;go_roundw
      case rel=>exact ⟨k+1,by go_num,by omega,A.out,g⟩
      case measure=>simp [intOf];omega
    . have F:(k:Int)≠(r:Int):=(by omega);have W:(k:Int)<8:=(by omega);have c1:=a.at k i (by omega) t;have n:(lI C k r i).m k i=C.m k i:=(by show cM C.m k r i k i=_;rw [wQ]);rw [n] at c1;have y:=d.byt k i;have o:∀ j,j<16->wo.cell? ⟨b,r*16+j,ZY⟩=ZX (Z7 .u8 ((C.m r j:Nat):Int)):=λj K=>by
       have:=a.at r j u K;have D:(lI C k r i).m r j=C.m r j:=(by show cM C.m k r i r j=_;rw [He]);rwa [D] at this
      have O:gm (C.m k i) (gi (C.m r i))<256:=bE _ y;have s:=KI C k r i h (by omega);have N:∀ x,cM C.m k r i (x/16) (x%16)<256:=λx=>nO d.byt _ _;have J:=al o;have M:=al s;have L:=al a;clear o s n a;have H:=λw=>pO w b (k*16);have I:=λw=>pO w b (r*16);go_wp2;go_region_with (first
       | (go_at_call 166;refine (mi (C.m k i) (gi (C.m r i)) y (ln z) _).mono ?_;rintro e w' ⟨rfl,rfl⟩)
       | (go_at_call 165;refine (zh b 326 130 (k*16) 16 16 b (r*16) 16 (gm (C.m k i) (gi (C.m r i))) (nI (lI C k r i)) (λx=>cM C.m k r i (x/16) (x%16)) (λj=>C.m r j) _ O (by exact L.out) (λj T E=>by unfold nI;rw [if_pos (by omega)];rfl) N (λj=>d.byt r j) (by omega) (by omega) (by exact J.out) (.inr (by omega))).mono ?_;rintro e w' ⟨rfl,q,c⟩))
      all_goals
       have R:aD w' b (lI C (k+1) r i):=q.congr (λx _=>M.out x);have P:w.grownBy w' (ZX b):=gx g ⟨c.os,c.tape,c.output,c.size,c.block⟩;clear q c H I;go_wp2;go_roundw
       case rel=>exact ⟨k+1,by go_num,by omega,R,P⟩
       case measure=>simp [intOf];omega
  . have p:k=C.count:=(by omega);rw [p] at a;have G:¬ (k:Int)<C.count:=(by omega);clear p;go_wp2;go_end0
    exact ⟨rfl,a,g⟩
def pP (m:Nat->Nat->Nat) (r i j:Nat):Nat->Nat->Nat:=λk x=>if k=r/\x<j then gm (m r x) (gi (m r i)) else m k x
def ON (C:Ck) (r i j:Nat):Ck:=⟨pP C.m r i j,C.told,C.count⟩
theorem Hg (m:Nat->Nat->Nat) (r i:Nat):pP m r i 0=m:=by funext k x;unfold pP;rw [if_neg (by omega)]
def Np (C:Ck) (r i j:Nat) (d:r<8) (c:j<16) (x:Nat):nI (ON C r i (j+1)) x=if x=r*16+j then Z7 .u8 ((gm (C.m r j) (gi (C.m r i)):Nat):Int) else nI (ON C r i j) x:=by
 unfold nI;by_cases h:x=r*16+j
 . rw [if_pos h,if_pos (by omega)];show Value.int .u8 ((pP C.m r i (j+1) (x/16) (x%16):Nat):Int)=_;unfold pP;rw [if_pos (by omega),show x%16=j by omega]
 . rw [if_neg h];by_cases a:x<128
   . rw [if_pos a,if_pos a];have:pP C.m r i (j+1) (x/16) (x%16)=pP C.m r i j (x/16) (x%16):=by
      unfold pP;by_cases b:x/16=r/\x%16<j
      . rw [if_pos b,if_pos (by omega)]
      . rw [if_neg b,if_neg (by omega)]
     show Value.int .u8 ((pP C.m r i (j+1) (x/16) (x%16):Nat):Int)=Z7 .u8 ((pP C.m r i j (x/16) (x%16):Nat):Int);rw [this]
   . rw [if_neg a,if_neg a];rfl
def PQ (C:Ck) (r i x:Nat):nI (ON C r i 16) x=nI ⟨eE C.m r i,C.told,C.count⟩ x:=by
 unfold nI;by_cases a:x<128
 . rw [if_pos a,if_pos a];have:pP C.m r i 16 (x/16) (x%16)=eE C.m r i (x/16) (x%16):=by
    unfold pP eE;by_cases b:x/16=r
    . rw [if_pos b,if_pos (by omega)]
    . rw [if_neg b,if_neg (by omega)]
   show Value.int .u8 ((pP C.m r i 16 (x/16) (x%16):Nat):Int)=Z7 .u8 ((eE C.m r i (x/16) (x%16):Nat):Int);rw [this]
 . rw [if_neg a,if_neg a];rfl
theorem Hh (cs:List ZT) (k:Nat) (v:ZT) (a:k<16) (b:cs[k]?=ZX v) (w:ZU):(Instr.index 264 (.agg cs.toArray) (Z7 Z9 (k:Int))).run ZO w=.ok v w:=by
 simp [Instr.index,UH XL,asIntOf,go_sem,part];rw [if_pos a,b];rfl
def cD (f:Nat->Nat):List ZT:=(YE 16).map (λj=>Value.int .u8 ((f j:Nat):Int))
def jI (f:Nat->Nat):(cD f).length=16:=by unfold cD;rw [T7,UC]
def rU (f:Nat->Nat) (j:Nat) (a:j<16):(cD f)[j]?=ZX (Z7 .u8 ((f j:Nat):Int)):=by
 unfold cD;rw [Un,Vw a];rfl
def kC (h:aD w b C) (r:Nat) (d:r<8):w.rangeAt b (r*16) (cD (C.m r)):=λj v a=>by
 have c:j<16:=by
  have:=(U1.1 a).1;rwa [jI] at this
 rw [rU _ _ c] at a;rw [<- a];exact h.at r j d c
def Tryz.Sk (f:Nat->Nat):(ZO.info? 264).map (λi=>i.size)=ZX (cD f).length:=by rw [jI];exact Tryz.Sy
def ScR (w:ZU) (b r i:Nat) (C:Ck) (v:ZT) (wr:ZU):Prop:=
 ∃ k:Nat,v=Z7 Z9 k/\k<=16/\aD wr b (ON C r i k)/\w.grownBy wr (ZX b)
theorem BD (b r i:Nat) (C:Ck) (w:ZU) (f:aD w b C) (t:ep C) (g:r<8) (F:i<16) :
 ZS ZO 207 #[Z6 (ZX ⟨b,0,ZY⟩),Z7 Z9 r,Z7 Z9 i] w λe w'=>e=Z3 (Z0 #[])/\aD w' b ⟨eE C.m r i,C.told,C.count⟩/\w.grownBy w' (ZX b):=by
 have c0:=f.at r i g F;have u:=t.byt r i;have K:(i:Int)<16:=by omega
 have L:(r:Int)<8:=by omega
 have l:=al (show aD w b (ON C r i 0) by unfold ON;rw [Hg];exact f);have n:=al (kC f r g);have y:Hid (∀ j,j<16->(cD (C.m r))[j]?=ZX (Z7 .u8 ((C.m r j:Nat):Int))):=al (rU (C.m r));have I:=al (jI (C.m r));have A:=al (Tryz.Sk (C.m r));generalize cD (C.m r)=cs at *;clear f;go_enter func207,ntmps207;go_wp2_with fail;refine (rN (C.m r i) u _).mono ?_;rintro e w1 ⟨rfl,G⟩;have E:=G.symm;subst E;go_wp2_with (refine aaW rfl 264 (Z1 22) rfl b (r*16) rfl cs _ n.out XL rfl A.out ?_);go_loopw [24] (λv wr=>ScR w b r i C v wr) (λv _=>16-(intOf v).toNat)
 case atStart=>exact ⟨0,rfl,T9 _,l.out,Wn _ _⟩
 case round=>
  clear c0 l n;rename ZU=>wo;obtain ⟨k,rfl,M,c,h⟩:=hrel;by_cases d:k<16
  . have D:(k:Int)<16:=(by omega);have s:=y.out k d;have c1:=c.at r k g d;have J:=c.frozen (r*16+k);have H:=t.byt r k;have q:aD (wo.setCell ⟨b,r*16+k,ZY⟩ (Z7 .u8 ((gm (C.m r k) (gi (C.m r i)):Nat):Int))) b (ON C r i (k+1)):=
     (c.set (r*16+k) (Z7 .u8 ((gm (C.m r k) (gi (C.m r i)):Nat):Int))).congr (λx _=>(Np C r i k g d x).symm)
    have o:=eW h (r*16+k) (Z7 .u8 ((gm (C.m r k) (gi (C.m r i)):Nat):Int));have a:=au q o;clear q o c h;generalize (ON C r i k).m r k=z at c1;have B:=Hh cs k _ d s;clear s;go_wp2;go_region_with ((go_at_call 166;refine (mi (C.m r k) (gi (C.m r i)) H (ln u) _).mono ?_;rintro e w' ⟨rfl,rfl⟩));all_goals
     clear B;go_wp2;go_roundw
     case rel=>exact ⟨k+1,by go_num,by omega,a.out.1,⟨a.out.2.os,a.out.2.tape,a.out.2.output,a.out.2.size,a.out.2.block⟩⟩
     case measure=>simp [intOf];omega
  . have p:k=16:=(by omega);rw [p] at c;have D:¬ (k:Int)<16:=(by omega);clear p;go_wp2;go_end0
    exact ⟨rfl,c.congr (λx _=>PQ C r i x),h⟩
theorem qP:∀ (a:List ZT) (o:Nat) (w:ZU) (f:Nat->ZT),w.rowIs b t n f->(w.setCells b o a).rowIs b t n (λx=>if o<=x/\x<o+a.length then a.getD (x-o) ZZ else f x)
 | [],o,w,f,h=>h.congr (λi _=>by rw [if_neg (by simp)])
 | v::a,o,w,f,h=>(qP a (o+1) _ _ (h.set o v)).congr (λi _=>by
  by_cases c:i=o
  . subst c;rw [if_neg (by omega),if_pos rfl,if_pos (by simp)];simp
  . by_cases d:o+1<=i/\i<o+1+a.length
    . rw [if_pos d,if_pos (by simp;omega),show i-o=(i-(o+1))+1 by omega];simp
    . rw [if_neg d,if_neg c,if_neg (by simp;omega)])
def ou:∀ (a:List ZT) (o:Nat) (w w':ZU),w.grownBy w' (ZX b)->w.grownBy (w'.setCells b o a) (ZX b)
 | [],_,_,_,h=>h
 | v::a,o,w,_,h=>ou a (o+1) w _ (eW h o v)
def vF (m:Nat->Nat->Nat) (q:Nat) (f:Nat->Nat):Nat->Nat->Nat:=λk=>if k=q then f else m k
theorem zi (h:aD w b C) (q:Nat) (d:q<8) (f:Nat->Nat):aD (w.setCells b (q*16) (cD f)) b ⟨vF C.m q f,C.told,C.count⟩:=by
 refine (qP (cD f) (q*16) w (nI C) h).congr (λx _=>?_);rw [jI];unfold nI;by_cases c:q*16<=x/\x<q*16+16
 . rw [if_pos c,if_pos (by omega)];show (cD f).getD (x-q*16) ZZ=Z7 .u8 ((vF C.m q f (x/16) (x%16):Nat):Int);have e:x/16=q:=(by omega);unfold vF;rw [if_pos e,T5,rU _ _ (by omega),show x-q*16=x%16 by omega];rfl
 . rw [if_neg c];by_cases a:x<128
   . rw [if_pos a,if_pos a];show _=Value.int .u8 ((vF C.m q f (x/16) (x%16):Nat):Int);unfold vF;rw [if_neg (by omega)]
   . rw [if_neg a,if_neg a]
def KJ (f:Nat->Nat):(cD f).toArray.all (λv=>v.oneCell')=ZW:=by
 rw [XK];intro i a;have b:i<16:=by simpa [jI] using a
 have:=rU f i b;have e:(cD f).toArray[i]?=ZX (Z7 .u8 ((f i:Nat):Int)):=by simpa using this
 rw [VD a] at e;simp only [UO] at e;rw [e];rfl
def tA (h:aD w b C) (q:Nat) (c:q<8):w.there b (q*16) 16:=λj a=>⟨by rw [h.at q j c a];rfl,h.frozen _⟩
theorem wS (h:aD w b C) (n:Nat):aD (w.setCell ⟨b,129,ZY⟩ (Z7 Z9 (n:Int))) b ⟨C.m,C.told,n⟩:=
 (h.set 129 (Z7 Z9 (n:Int))).congr (λx d=>by
  unfold nI;by_cases e:x=129
  . subst e;rw [if_pos rfl,if_neg (by decide),if_neg (by decide)]
  . rw [if_neg e];by_cases a:x<128
    . rw [if_pos a,if_pos a]
    . rw [if_neg a,if_neg a];by_cases c:x=128
      . rw [if_pos c,if_pos c]
      . omega)
theorem KK (h:aD w b C) (n:Nat):aD (w.setCell ⟨b,128,ZY⟩ (Z7 Z9 (n:Int))) b ⟨C.m,n,C.count⟩:=
 (h.set 128 (Z7 Z9 (n:Int))).congr (λx c=>by
  unfold nI;by_cases e:x=128
  . subst e;rw [if_pos rfl,if_neg (by decide),if_pos rfl]
  . rw [if_neg e];by_cases a:x<128
    . rw [if_pos a,if_pos a]
    . rw [if_neg a,if_neg a,if_neg e,if_neg e])
structure DV (lo hi:Nat) (a a':Act):Prop where
 size:a'.tmps.size=a.tmps.size
 defers:a'.defers=a.defers
 slot:∀ s,s<lo\/hi<=s->a'.eval (.tmp s)=a.eval (.tmp s)
def C6 (p q:Nat) (w w1 w2:ZU) (Dn:Nat->Bool) (w':ZU):Prop:=w'=if Dn p=ZW then (if Dn q=ZW then w2 else w1) else w.drew
def dw (h:C6 p q w w1 w2 Dn w') (i:Nat) (a:p≠i) (b:q≠i):C6 p q w w1 w2 (fI Dn i) w':=by unfold C6;rw [bZ a,bZ b];exact h
def iN (h:C6 p q w w1 w2 Dn w') (hn:Dn p=ZV):w'=w.drew:=by
 unfold C6 at h;rwa [if_neg (by rw [hn];decide)] at h
def OO (w w1:ZU) (Dn:Nat->Bool) (w':ZU):Prop:=w'=if Dn 14=ZW then w1 else w.drew
def je (h:OO w w1 Dn w') (i:Nat) (a:14≠i):OO w w1 (fI Dn i) w':=by unfold OO;rw [bZ a];exact h
def tB (h:OO w w1 Dn w') (hn:Dn 14=ZV):w'=w.drew:=by
 unfold OO at h;rwa [if_neg (by rw [hn];decide)] at h
def DW {o:Nat} (h:w.rangeAt b o (cD m)):(Instr.loadAt 264 (Z6 (ZX ⟨b,o,ZY⟩))).run ZO w=.ok (.agg (cD m).toArray) w:=run_loadAt_mid (P:=ZO) w b o 264 (cD m) _ h XL rfl (by simpa using Tryz.Sk _)
def DX {o:Nat} (h:w.there b o 16):(Instr.storeAt 264 (Z6 (ZX ⟨b,o,ZY⟩)) (.agg (cD m).toArray)).run ZO w=.ok () (w.setCells b o (cD m)):=run_storeAt_mid (P:=ZO) w b o 264 (cD m).toArray (by simpa [jI] using h) (by simpa using Tryz.Sk _) (KJ _)
noncomputable def RTl:Array ZR:=((Tryz.f201.body.bind (pe · 4))).getD #[]
def PR:List (Op×Option Nat×a8):=[(Op.move (Z1 0),ZX 15,[]),
 (Op.move (Z1 0),ZX 16,[]),
 (Op.nilCheck (Z1 16),ZX 17,[1]),
 (Op.fieldAddr 326 (Z1 17) 1,ZX 18,[2]),
 (Op.load 3 (Z1 18),ZX 19,[3]),
 (Op.move (Z1 0),ZX 20,[]),
 (Op.move (Z1 5),ZX 21,[]),
 (Op.move (Z1 0),ZX 22,[]),
 (Op.move (Z1 5),ZX 23,[]),
 (Op.nilCheck (Z1 22),ZX 24,[7]),
 (Op.fieldAddr 326 (Z1 24) 0,ZX 25,[9]),
 (Op.indexAddr 324 (Z1 25) (Z1 23),ZX 26,[10,8]),
 (Op.load 264 (Z1 26),ZX 27,[11]),
 (Op.move (Z1 0),ZX 28,[]),
 (Op.move (Z1 0),ZX 29,[]),
 (Op.nilCheck (Z1 29),ZX 30,[14]),
 (Op.fieldAddr 326 (Z1 30) 1,ZX 31,[15]),
 (Op.load 3 (Z1 31),ZX 32,[16]),
 (Op.nilCheck (Z1 28),ZX 33,[13]),
 (Op.fieldAddr 326 (Z1 33) 0,ZX 34,[18]),
 (Op.indexAddr 324 (Z1 34) (Z1 32),ZX 35,[19,17]),
 (Op.load 264 (Z1 35),ZX 36,[20]),
 (Op.nilCheck (Z1 15),ZX 37,[0]),
 (Op.fieldAddr 326 (Z1 37) 0,ZX 38,[22]),
 (Op.indexAddr 324 (Z1 38) (Z1 19),ZX 39,[23,4,0,1,2,3,4,7,8,9,10,11,12,17,21]),
 (Op.store 264 (Z1 39) (Z1 27),ZY,[24,12,0,1,2,3,4,7,8,9,10,11,12,17,21]),
 (Op.nilCheck (Z1 20),ZX 40,[5]),
 (Op.fieldAddr 326 (Z1 40) 0,ZX 41,[26]),
 (Op.indexAddr 324 (Z1 41) (Z1 21),ZX 42,[27,6,0,1,2,3,4,5,6,7,8,9,10,11,12,13,14,15,16,17,18,19,20,21,22,23,24,25]),
 (Op.store 264 (Z1 42) (Z1 36),ZY,[28,21,25,0,1,2,3,4,5,6,7,8,9,10,11,12,13,14,15,16,17,18,19,20,21,22,23,24,25])]
def Hi:aL RTl 15 43 PR:=bw (by kernel_rfl) (by kernel_rfl)
def KL (b r t:Nat) (m:Nat->Nat->Nat):List ZT:=[Z6 (ZX ⟨b,0,ZY⟩),Z6 (ZX ⟨b,0,ZY⟩),Z6 (ZX ⟨b,0,ZY⟩),Z6 (ZX ⟨b,128,ZY⟩),Z7 Z9 (t:Int),Z6 (ZX ⟨b,0,ZY⟩),Z7 Z9 (r:Int),Z6 (ZX ⟨b,0,ZY⟩),Z7 Z9 (r:Int),Z6 (ZX ⟨b,0,ZY⟩),Z6 (ZX ⟨b,0,ZY⟩),Z6 (ZX ⟨b,r*16,ZY⟩),.agg (cD (m r)).toArray,Z6 (ZX ⟨b,0,ZY⟩),Z6 (ZX ⟨b,0,ZY⟩),Z6 (ZX ⟨b,0,ZY⟩),Z6 (ZX ⟨b,128,ZY⟩),Z7 Z9 (t:Int),Z6 (ZX ⟨b,0,ZY⟩),Z6 (ZX ⟨b,0,ZY⟩),Z6 (ZX ⟨b,t*16,ZY⟩),.agg (cD (m t)).toArray,Z6 (ZX ⟨b,0,ZY⟩),Z6 (ZX ⟨b,0,ZY⟩),Z6 (ZX ⟨b,t*16,ZY⟩),ZZ,Z6 (ZX ⟨b,0,ZY⟩),Z6 (ZX ⟨b,0,ZY⟩),Z6 (ZX ⟨b,r*16,ZY⟩),ZZ]
theorem BE (b r t:Nat) (m:Nat->Nat->Nat) (T:r<8) (U:t<8) (q:w.drew.cell? ⟨b,128,ZY⟩=ZX (Z7 Z9 (t:Int)))
 (H:w.drew.rangeAt b (r*16) (cD (m r))) (gt:w.drew.rangeAt b (t*16) (cD (m t))) (M:w.drew.there b (r*16) 16) (N:w.drew.there b (t*16) 16) (I:RTl=ops) (R:a.tmps.size=64)
 (x:a.eval (Z1 0)=Z6 (ZX ⟨b,0,ZY⟩)) (D:a.eval (Z1 5)=Z7 Z9 (r:Int))
 (J:∀ d,DV 15 43 a d->Q .normal d ((w.drew.setCells b (t*16) (cD (m r))).setCells b (r*16) (cD (m t)))):(Code.region 4 ops ZW).wp ZO Q a w:=by
 subst I;have P:(r:Int)<8:=by omega
 have S:(t:Int)<8:=by omega
 refine dj (by kernel_rfl) Hi a w (by omega) (λi u _=>u=(KL b r t m).getD i ZZ) (C6 25 29 w (w.drew.setCells b (t*16) (cD (m r))) ((w.drew.setCells b (t*16) (cD (m r))).setCells b (r*16) (cD (m t)))) rfl ?_ ?_
 . intro i L;match i,L with
   | 0,_=>
    intro o d w' Dn p ho f j k l g c h;have u0:d.eval (Z1 0)=Z6 (ZX ⟨b,0,ZY⟩):=(j.slot 0 (by omega)).trans x;exact af (ag ho u0 w') f ⟨dw c 0 (by decide) (by decide),rfl,kq⟩
   | 1,_=>
    intro o d w' Dn p ho f j k l g c h;have u0:d.eval (Z1 0)=Z6 (ZX ⟨b,0,ZY⟩):=(j.slot 0 (by omega)).trans x;exact af (ag ho u0 w') f ⟨dw c 1 (by decide) (by decide),rfl,kq⟩
   | 2,_|3,_|9,_|10,_|15,_|16,_|18,_|19,_|22,_|23,_|26,_|27,_=>
    intro o d w' Dn p ho f j k l g c h;have u0:=h _ (g _ (.head _));simp only [PR,KL,bB,dM,Aq,Ap] at ho u0;exact af (by simp only [execOp,ho,u0,KL,Aq,Ap];go_simp) f ⟨dw c _ (by decide) (by decide),rfl,kq⟩
   | 11,_|20,_|24,_|28,_=>
    intro o d w' Dn p ho f j k l g c h;have u0:=h _ (g _ (.head _));have u1:=h _ (g _ (.tail _ (.head _)));simp only [PR,KL,bB,dM,Aq,Ap] at ho u0 u1;exact af (by simp only [execOp,ho,u0,u1,KL,Aq,Ap];go_simp) f ⟨dw c _ (by decide) (by decide),rfl,kq⟩
   | 4,_=>
    intro o d w' Dn p ho f j k l g c h;have u0:d.eval (Z1 18)=Z6 (ZX ⟨b,128,ZY⟩):=h 3 (g 3 (by decide));have s:Dn 25=ZV:=by
     cases e:Dn 25 with
     | false=>rfl
     | true=>exact absurd ((l 25 e).2 4 (by decide)) (by rw [k];decide)
    have G:w'.cell? ⟨b,128,ZY⟩=ZX (Z7 Z9 (t:Int)):=(by rw [iN c s];exact q);exact af (v:=Z7 Z9 (t:Int)) (by (conv at ho=>rhs;whnf);simp only [execOp,ho,u0];go_simp) f ⟨dw c 4 (by decide) (by decide),rfl,kq⟩
   | 5,_=>
    intro o d w' Dn p ho f j k l g c h;have u0:d.eval (Z1 0)=Z6 (ZX ⟨b,0,ZY⟩):=(j.slot 0 (by omega)).trans x;exact af (ag ho u0 w') f ⟨dw c 5 (by decide) (by decide),rfl,kq⟩
   | 6,_=>
    intro o d w' Dn p ho f j k l g c h;have u0:d.eval (Z1 5)=Z7 Z9 (r:Int):=(j.slot 5 (by omega)).trans D;exact af (ag ho u0 w') f ⟨dw c 6 (by decide) (by decide),rfl,kq⟩
   | 7,_=>
    intro o d w' Dn p ho f j k l g c h;have u0:d.eval (Z1 0)=Z6 (ZX ⟨b,0,ZY⟩):=(j.slot 0 (by omega)).trans x;exact af (ag ho u0 w') f ⟨dw c 7 (by decide) (by decide),rfl,kq⟩
   | 8,_=>
    intro o d w' Dn p ho f j k l g c h;have u0:d.eval (Z1 5)=Z7 Z9 (r:Int):=(j.slot 5 (by omega)).trans D;exact af (ag ho u0 w') f ⟨dw c 8 (by decide) (by decide),rfl,kq⟩
   | 12,_=>
    intro o d w' Dn p ho f j k l g c h;have u0:d.eval (Z1 26)=Z6 (ZX ⟨b,r*16,ZY⟩):=h 11 (g 11 (by decide));have s:Dn 25=ZV:=by
     cases e:Dn 25 with
     | false=>rfl
     | true=>exact absurd ((l 25 e).2 12 (by decide)) (by rw [k];decide)
    have C:=iN c s;have A:=DW (w:=w') (by rw [C];exact H);exact af (v:=.agg (cD (m r)).toArray) (by (conv at ho=>rhs;whnf);simp [execOp,ho,u0,A]) f ⟨dw c 12 (by decide) (by decide),rfl,kq⟩
   | 13,_=>
    intro o d w' Dn p ho f j k l g c h;have u0:d.eval (Z1 0)=Z6 (ZX ⟨b,0,ZY⟩):=(j.slot 0 (by omega)).trans x;exact af (ag ho u0 w') f ⟨dw c 13 (by decide) (by decide),rfl,kq⟩
   | 14,_=>
    intro o d w' Dn p ho f j k l g c h;have u0:d.eval (Z1 0)=Z6 (ZX ⟨b,0,ZY⟩):=(j.slot 0 (by omega)).trans x;exact af (ag ho u0 w') f ⟨dw c 14 (by decide) (by decide),rfl,kq⟩
   | 17,_=>
    intro o d w' Dn p ho f j k l g c h;have u0:d.eval (Z1 31)=Z6 (ZX ⟨b,128,ZY⟩):=h 16 (g 16 (by decide));have s:Dn 25=ZV:=by
     cases e:Dn 25 with
     | false=>rfl
     | true=>exact absurd ((l 25 e).2 17 (by decide)) (by rw [k];decide)
    have G:w'.cell? ⟨b,128,ZY⟩=ZX (Z7 Z9 (t:Int)):=(by rw [iN c s];exact q);exact af (v:=Z7 Z9 (t:Int)) (by (conv at ho=>rhs;whnf);simp only [execOp,ho,u0];go_simp) f ⟨dw c 17 (by decide) (by decide),rfl,kq⟩
   | 21,_=>
    intro o d w' Dn p ho f j k l g c h;have u0:d.eval (Z1 35)=Z6 (ZX ⟨b,t*16,ZY⟩):=h 20 (g 20 (by decide));have s:Dn 25=ZV:=by
     cases e:Dn 25 with
     | false=>rfl
     | true=>exact absurd ((l 25 e).2 21 (by decide)) (by rw [k];decide)
    have C:=iN c s;have A:=DW (w:=w') (by rw [C];exact gt);exact af (v:=.agg (cD (m t)).toArray) (by (conv at ho=>rhs;whnf);simp [execOp,ho,u0,A]) f ⟨dw c 21 (by decide) (by decide),rfl,kq⟩
   | 25,_=>
    intro o d w' Dn p ho f j k l g c h;have u0:d.eval (Z1 39)=Z6 (ZX ⟨b,t*16,ZY⟩):=h 24 (g 24 (by decide));have u1:d.eval (Z1 27)=.agg (cD (m r)).toArray:=h 12 (g 12 (by decide));have y:=iN c k;subst y;have B:=DX (m:=m r) N;refine ig (w':=(w.drew.setCells b (t*16) (cD (m r)))) (by (conv at ho=>rhs;whnf);simp [execOp,ho,u0,u1,B]) ⟨?_,rfl,kq⟩;have K:Dn 29=ZV:=by
     cases e:Dn 29 with
     | false=>rfl
     | true=>exact absurd ((l 29 e).2 25 (by decide)) (by rw [k];decide)
    unfold C6;rw [if_pos gP,bZ (by decide),if_neg (by rw [K];decide)]
   | 29,_=>
    intro o d w' Dn p ho f j k l g c h;have u0:d.eval (Z1 42)=Z6 (ZX ⟨b,r*16,ZY⟩):=h 28 (g 28 (by decide));have u1:d.eval (Z1 36)=.agg (cD (m t)).toArray:=h 21 (g 21 (by decide));have E:=g 25 (by decide);have y:w'=(w.drew.setCells b (t*16) (cD (m r))):=by
     have:=c;unfold C6 at this;rwa [if_pos E,if_neg (by rw [k];decide)] at this
    have B:=DX (w:=w') (m:=m t) (b:=b) (o:=r*16) (by rw [y];exact World.there_setCells M _ _ _);refine ig (w':=w'.setCells b (r*16) (cD (m t))) (by (conv at ho=>rhs;whnf);simp [execOp,ho,u0,u1,B]) ⟨?_,rfl,kq⟩;unfold C6;rw [bZ (by decide),if_pos E,if_pos gP,y]
   | n+30,hn=>exact absurd hn (by show ¬ n+30<30;omega)
 . rintro d w' z O ⟨Dn,F,c⟩ h;unfold C6 at c;rw [if_pos (F 25 (by decide)),if_pos (F 29 (by decide))] at c;rw [c];exact J d ⟨z.size,z.defers,z.slot⟩
noncomputable def RLv:Array ZR:=((Tryz.f216.body.bind (pe · 6))).getD #[]
def PS:List (Op×Option Nat×a8):=[(Op.move (Z1 0),ZX 26,[]),
 (Op.move (Z1 5),ZX 27,[]),
 (Op.move (Z1 0),ZX 28,[]),
 (Op.move (Z1 0),ZX 29,[]),
 (Op.nilCheck (Z1 29),ZX 30,[3]),
 (Op.fieldAddr 326 (Z1 30) 2,ZX 31,[4]),
 (Op.load 3 (Z1 31),ZX 32,[5]),
 (Op.nilCheck (Z1 28),ZX 33,[2]),
 (Op.fieldAddr 326 (Z1 33) 0,ZX 34,[7]),
 (Op.indexAddr 324 (Z1 34) (Z1 32),ZX 35,[8,6]),
 (Op.load 264 (Z1 35),ZX 36,[9]),
 (Op.nilCheck (Z1 26),ZX 37,[0]),
 (Op.fieldAddr 326 (Z1 37) 0,ZX 38,[11]),
 (Op.indexAddr 324 (Z1 38) (Z1 27),ZX 39,[12,1,0,1,2,3,4,5,6,7,8,9,10]),
 (Op.store 264 (Z1 39) (Z1 36),ZY,[13,10,0,1,2,3,4,5,6,7,8,9,10])]
def Hk:aL RLv 26 40 PS:=bw (by kernel_rfl) (by kernel_rfl)
def KM (b r t:Nat) (m:Nat->Nat->Nat):List ZT:=[Z6 (ZX ⟨b,0,ZY⟩),Z7 Z9 (r:Int),Z6 (ZX ⟨b,0,ZY⟩),Z6 (ZX ⟨b,0,ZY⟩),Z6 (ZX ⟨b,0,ZY⟩),Z6 (ZX ⟨b,129,ZY⟩),Z7 Z9 (t:Int),Z6 (ZX ⟨b,0,ZY⟩),Z6 (ZX ⟨b,0,ZY⟩),Z6 (ZX ⟨b,t*16,ZY⟩),.agg (cD (m t)).toArray,Z6 (ZX ⟨b,0,ZY⟩),Z6 (ZX ⟨b,0,ZY⟩),Z6 (ZX ⟨b,r*16,ZY⟩),ZZ]
theorem Nq (b r t:Nat) (m:Nat->Nat->Nat) (O:r<8) (P:t<8) (q:w.drew.cell? ⟨b,129,ZY⟩=ZX (Z7 Z9 (t:Int)))
 (gt:w.drew.rangeAt b (t*16) (cD (m t))) (I:w.drew.there b (r*16) 16) (A:RLv=ops) (M:a.tmps.size=40)
 (s:a.eval (Z1 0)=Z6 (ZX ⟨b,0,ZY⟩)) (z:a.eval (Z1 5)=Z7 Z9 (r:Int))
 (C:∀ d,DV 26 40 a d->Q .normal d (w.drew.setCells b (r*16) (cD (m t)))):(Code.region 6 ops ZW).wp ZO Q a w:=by
 subst A;have L:(r:Int)<8:=by omega
 have N:(t:Int)<8:=by omega
 refine dj (by kernel_rfl) Hk a w (by omega) (λi u _=>u=(KM b r t m).getD i ZZ) (OO w (w.drew.setCells b (r*16) (cD (m t)))) rfl ?_ ?_
 . intro i G;match i,G with
   | 0,_=>
    intro o d w' Dn p ho f j k l h c g;have u0:d.eval (Z1 0)=Z6 (ZX ⟨b,0,ZY⟩):=(j.slot 0 (by omega)).trans s;exact af (ag ho u0 w') f ⟨je c 0 (by decide),rfl,kq⟩
   | 1,_=>
    intro o d w' Dn p ho f j k l h c g;have u0:d.eval (Z1 5)=Z7 Z9 (r:Int):=(j.slot 5 (by omega)).trans z;exact af (ag ho u0 w') f ⟨je c 1 (by decide),rfl,kq⟩
   | 2,_=>
    intro o d w' Dn p ho f j k l h c g;have u0:d.eval (Z1 0)=Z6 (ZX ⟨b,0,ZY⟩):=(j.slot 0 (by omega)).trans s;exact af (ag ho u0 w') f ⟨je c 2 (by decide),rfl,kq⟩
   | 3,_=>
    intro o d w' Dn p ho f j k l h c g;have u0:d.eval (Z1 0)=Z6 (ZX ⟨b,0,ZY⟩):=(j.slot 0 (by omega)).trans s;exact af (ag ho u0 w') f ⟨je c 3 (by decide),rfl,kq⟩
   | 4,_|5,_|7,_|8,_|11,_|12,_=>
    intro o d w' Dn p ho f j k l h c g;have u0:=g _ (h _ (.head _));simp only [PS,KM,bB,dM,Aq,Ap] at ho u0;exact af (by simp only [execOp,ho,u0,KM,Aq,Ap];go_simp) f ⟨je c _ (by decide),rfl,kq⟩
   | 9,_|13,_=>
    intro o d w' Dn p ho f j k l h c g;have u0:=g _ (h _ (.head _));have u1:=g _ (h _ (.tail _ (.head _)));simp only [PS,KM,bB,dM,Aq,Ap] at ho u0 u1;exact af (by simp only [execOp,ho,u0,u1,KM,Aq,Ap];go_simp) f ⟨je c _ (by decide),rfl,kq⟩
   | 6,_=>
    intro o d w' Dn p ho f j k l h c g;have u0:d.eval (Z1 31)=Z6 (ZX ⟨b,129,ZY⟩):=g 5 (h 5 (by decide));have y:Dn 14=ZV:=by
     cases e:Dn 14 with
     | false=>rfl
     | true=>exact absurd ((l 14 e).2 6 (by decide)) (by rw [k];decide)
    have J:w'.cell? ⟨b,129,ZY⟩=ZX (Z7 Z9 (t:Int)):=(by rw [tB c y];exact q);exact af (v:=Z7 Z9 (t:Int)) (by (conv at ho=>rhs;whnf);simp only [execOp,ho,u0];go_simp) f ⟨je c 6 (by decide),rfl,kq⟩
   | 10,_=>
    intro o d w' Dn p ho f j k l h c g;have u0:d.eval (Z1 35)=Z6 (ZX ⟨b,t*16,ZY⟩):=g 9 (h 9 (by decide));have y:Dn 14=ZV:=by
     cases e:Dn 14 with
     | false=>rfl
     | true=>exact absurd ((l 14 e).2 10 (by decide)) (by rw [k];decide)
    have F:=tB c y;have D:=DW (w:=w') (by rw [F];exact gt);exact af (v:=.agg (cD (m t)).toArray) (by (conv at ho=>rhs;whnf);simp [execOp,ho,u0,D]) f ⟨je c 10 (by decide),rfl,kq⟩
   | 14,_=>
    intro o d w' Dn p ho f j k l h c g;have u0:d.eval (Z1 39)=Z6 (ZX ⟨b,r*16,ZY⟩):=g 13 (h 13 (by decide));have u1:d.eval (Z1 36)=.agg (cD (m t)).toArray:=g 10 (h 10 (by decide));have H:=tB c k;subst H;have E:=DX (m:=m t) I;refine ig (w':=(w.drew.setCells b (r*16) (cD (m t)))) (by (conv at ho=>rhs;whnf);simp [execOp,ho,u0,u1,E]) ⟨?_,rfl,kq⟩;unfold OO;rw [if_pos gP]
   | n+15,hn=>exact absurd hn (by show ¬ n+15<15;omega)
 . rintro d w' x K ⟨Dn,B,c⟩ g;unfold OO at c;rw [if_pos (B 14 (by decide))] at c;rw [c];exact C d ⟨x.size,x.defers,x.slot⟩
theorem DV.split {lo hi:Nat} {a':Act} (b:DV lo hi a a') (p:lo<=hi) (q:hi<=a.tmps.size) :
 ∃ l:List ZT,l.length=hi-lo/\a'={ tmps:=(a.tmps.toList.take lo++(l++a.tmps.toList.drop hi)).toArray,defers:=a.defers }:=by
 have f:∀ (x:Act) (s:Nat),s<x.tmps.size->x.tmps[s]?=ZX (x.eval (.tmp s)):=λx s g=>by
  simp [Act.eval,Vj,g]
 refine ⟨(a'.tmps.toList.drop lo).take (hi-lo),?_,?_⟩
 . have:=b.size;simp;omega
 . obtain ⟨c,o⟩:=a';have g:=b.size;have j:=b.defers;simp only at g j;subst j;congr 1;apply Array.ext_getElem?;intro i;simp only [WY,List.getElem?_append,XQ,VZ,Ui,Uj,Wk,Yt];by_cases c1:i<lo
   . rw [if_pos (by omega),if_pos c1];have e:=b.slot i (.inl c1);have d:=f ⟨c,a.defers⟩ i (by show i<c.size;omega);have h:=f a i (by omega);simp only at d;rw [d,h,e]
   . by_cases n:i<hi
     . rw [if_neg (by omega),if_pos (by omega),if_pos (by omega),show lo+(i-min lo a.tmps.size)=i by omega]
     . rw [if_neg (by omega),if_neg (by omega)];have m:hi+(i-min lo a.tmps.size-min (hi-lo) (c.size-lo))=i:=(by omega);rw [m];by_cases k:i<a.tmps.size
       . have e:=b.slot i (.inr (by omega));have d:=f ⟨c,a.defers⟩ i (by show i<c.size;omega);have h:=f a i k;simp only at d;rw [d,h,e]
       . rw [WT (by omega),WT (by omega)]
def Rm {l:List ZT} (h:l.length=9):∃ u0 u1 u2 u3 u4 u5 u6 u7 u8,l=[u0,u1,u2,u3,u4,u5,u6,u7,u8]:=by
 match l,h with
 | [u0,u1,u2,u3,u4,u5,u6,u7,u8],_=>exact ⟨u0,u1,u2,u3,u4,u5,u6,u7,u8,rfl⟩
def Ro {l:List ZT} (h:l.length=14):∃ u0 u1 u2 u3 u4 u5 u6 u7 u8 u9 u10 u11 u12 u13,l=[u0,u1,u2,u3,u4,u5,u6,u7,u8,u9,u10,u11,u12,u13]:=by
 match l,h with
 | [u0,u1,u2,u3,u4,u5,u6,u7,u8,u9,u10,u11,u12,u13],_=>exact ⟨u0,u1,u2,u3,u4,u5,u6,u7,u8,u9,u10,u11,u12,u13,rfl⟩
def Rp {l:List ZT} (h:l.length=28):∃ u0 u1 u2 u3 u4 u5 u6 u7 u8 u9 u10 u11 u12 u13 u14 u15 u16 u17 u18 u19 u20 u21 u22 u23 u24 u25 u26 u27,l=[u0,u1,u2,u3,u4,u5,u6,u7,u8,u9,u10,u11,u12,u13,u14,u15,u16,u17,u18,u19,u20,u21,u22,u23,u24,u25,u26,u27]:=by
 match l,h with
 | [u0,u1,u2,u3,u4,u5,u6,u7,u8,u9,u10,u11,u12,u13,u14,u15,u16,u17,u18,u19,u20,u21,u22,u23,u24,u25,u26,u27],_=>exact ⟨u0,u1,u2,u3,u4,u5,u6,u7,u8,u9,u10,u11,u12,u13,u14,u15,u16,u17,u18,u19,u20,u21,u22,u23,u24,u25,u26,u27,rfl⟩
theorem BF (b i:Nat) (C:Ck) (w:ZU) (h:aD w b C) (j:ep C) (u:i<16) :
 ZS ZO 216 #[Z6 (ZX ⟨b,0,ZY⟩),Z7 Z9 i] w λe w'=>
  (iB C i=ZY/\e=Z3 (Z2 ZV)/\w'=w)\/(∃ C',iB C i=ZX C'/\e=Z3 (Z2 ZW)/\aD w' b C'/\w.grownBy w' (ZX b)):=by
 go_enter func216,ntmps216;go_wp2_with fail;refine (wO b i C w h j u).mono ?_;rintro e w1 ⟨rfl,D⟩;subst D;cases h2:dZ C i with
 | none=>
  have g:Hid (iB C i=ZY):=al (by unfold iB;rw [h2];rfl);simp only [Rk];clear h2;go_wp2;go_ret;exact .inl ⟨g.out,rfl,rfl⟩
 | some r=>
  obtain ⟨G,H,I⟩:=gX h2;have g:Hid (iB C i=ZX (gY C i r)):=al (by unfold iB;rw [h2];rfl);have F:=j.Sg;simp only [Rk];clear h2;go_wp2_with fail;refine (wR b r i C _ h j (by omega) u).mono ?_;rintro e w2 ⟨rfl,f,q⟩;have n:=f.Sr;have A:=f.frozen 129;have p:(lI C C.count r i).count=C.count:=rfl;rw [p] at n;have c:=wS f (C.count-1);have a:=eW q 129 (Z7 Z9 ((C.count-1:Nat):Int));have B:IntKind.i64.wrap ((C.count:Int)-1)=((C.count-1:Nat):Int):=by rw [Ut];omega
  obtain ⟨d,s⟩:=nM (w2.setCell ⟨b,129,ZY⟩ (Z7 Z9 ((C.count-1:Nat):Int)));rw [s] at c a;have z:=c.Sr;have k:=al (zi (show aD d.drew b _ from c) r (by omega) ((lI C C.count r i).m (C.count-1)));have o:Hid (w1.grownBy (d.drew.setCells b (r*16) (cD ((lI C C.count r i).m (C.count-1)))) (ZX b)):=al (ou _ _ _ _ ⟨a.os,a.tape,a.output,a.size,a.block⟩);have x:=al (kC (show aD d.drew b _ from c) (C.count-1) (by omega));have y:=al (tA (show aD d.drew b _ from c) r (by omega));clear f q c a h;go_wp2;clear s n A B p;refine Nq b r (C.count-1) (lI C C.count r i).m (by omega) (by omega) z x.out y.out (by kernel_rfl) rfl rfl rfl ?_;intro E v;obtain ⟨l,hl,rfl⟩:=v.split (by decide) (by simp);clear v;obtain ⟨u0,u1,u2,u3,u4,u5,u6,u7,u8,u9,u10,u11,u12,u13,rfl⟩:=Ro hl;clear hl;simp only [XB,VR,Xx,UL,Uk,List.drop_nil,Wg];obtain ⟨J,t⟩:=nM (d.drew.setCells b (r*16) (cD ((lI C C.count r i).m (C.count-1))));rw [t] at k o ⊢;clear t;go_wp2;go_ret;exact .inr ⟨_,g.out,rfl,k.out,o.out⟩
theorem KN (m:Nat->Nat->Nat) (t r:Nat):vF (vF m t (m r)) r (m t)=dz m t r:=by
 funext k;unfold vF dz;by_cases b:k=r
 . rw [if_pos b];by_cases a:k=t
   . rw [if_pos a,<- b,<- a]
   . rw [if_neg a,if_pos b]
 . rw [if_neg b];by_cases a:k=t
   . rw [if_pos a,if_pos a]
   . rw [if_neg a,if_neg a,if_neg b]
theorem tC (b i:Nat) (C:Ck) (w:ZU) (a:aD w b C) (c:ep C) (o:i<16) :
 ZS ZO 201 #[Z6 (ZX ⟨b,0,ZY⟩),Z7 Z9 i] w λe w'=>
  (ph C i=ZY/\e=Z3 (Z2 ZV)/\w'=w)\/(∃ C',ph C i=ZX C'/\e=Z3 (Z2 ZW)/\aD w' b C'/\w.grownBy w' (ZX b)):=by
 go_enter func201,ntmps201;go_wp2_with fail;refine (wO b i C w a c o).mono ?_;rintro e w1 ⟨rfl,O⟩;subst O;cases h4:dZ C i with
 | none=>
  have h:Hid (ph C i=ZY):=al (by unfold ph;rw [h4];rfl);simp only [Rk];clear h4;go_wp2;go_ret;exact .inl ⟨h.out,rfl,rfl⟩
 | some r=>
  obtain ⟨X,Y,Z⟩:=gX h4;have h:Hid (ph C i=ZX (jk C i r)):=al (by unfold ph;rw [h4];rfl);have U:=c.Sg;simp only [Rk];clear h4;have d:=a.Sw;have v:=zi (zi (show aD w1.drew b _ from a) C.told (by omega) (C.m r)) r (by omega) (C.m C.told);have t:(⟨vF (vF C.m C.told (C.m r)) r (C.m C.told),C.told,C.count⟩:Ck)=⟨dz C.m C.told r,C.told,C.count⟩:=by rw [KN]
  have x:aD ((w1.drew.setCells b (C.told*16) (cD (C.m r))).setCells b (r*16) (cD (C.m C.told))) b ⟨dz C.m C.told r,C.told,C.count⟩:=by rw [<- t];exact v
  have E:w1.grownBy ((w1.drew.setCells b (C.told*16) (cD (C.m r))).setCells b (r*16) (cD (C.m C.told))) (ZX b):=
   ou _ _ _ _ (ou _ _ _ _ ⟨rfl,rfl,rfl,TV _,λ_ _ _=>rfl⟩)
  have f:=al x;have k:=al E;have p:=al (kC (show aD w1.drew b _ from a) r (by omega));have B:=al (kC (show aD w1.drew b _ from a) C.told (by omega));have q:=al (tA (show aD w1.drew b _ from a) r (by omega));have D:=al (tA (show aD w1.drew b _ from a) C.told (by omega));clear v t x E a;go_wp2;refine BE b r C.told C.m (by omega) (by omega) d p.out B.out q.out D.out (by kernel_rfl) rfl rfl rfl ?_;intro S H;obtain ⟨l,hl,rfl⟩:=H.split (by decide) (by simp);clear H p B q D;obtain ⟨u0,u1,u2,u3,u4,u5,u6,u7,u8,u9,u10,u11,u12,u13,u14,u15,u16,u17,u18,u19,u20,u21,u22,u23,u24,u25,u26,u27,rfl⟩:=Rp hl;clear hl;simp only [XB,VR,Xx,WL,UL,Uk];obtain ⟨w2,K⟩:=nM ((w1.drew.setCells b (C.told*16) (cD (C.m r))).setCells b (r*16) (cD (C.m C.told)));rw [K] at f k ⊢;clear K d;have d:=f.out.Sw;have P:ep ⟨dz C.m C.told r,C.told,C.count⟩:=⟨jA c.byt,c.le,c.Sg⟩;go_wp2_with fail;refine (BD b C.told i _ _ f.out P (by omega) o).mono ?_;rintro e w3 ⟨rfl,n,G⟩;have Q:ep ⟨eE (dz C.m C.told r) C.told i,C.told,C.count⟩:=⟨sn (jA c.byt),c.le,c.Sg⟩;have u:=gx k.out G;have j:=n.Sw;have z:=al n;have A:=al u;clear n G u d f k;go_wp2_with fail;refine (wR b C.told i _ _ z.out Q (by omega) o).mono ?_;rintro e R ⟨rfl,g,I⟩;have y:=gx A.out I;have F:=KK g (C.told+1);have J:=eW y 128 (Z7 Z9 ((C.told+1:Nat):Int));have s:=g.Sw;have T:=g.frozen 128;have L:R.cell? ⟨b,128,ZY⟩=ZX (Z7 Z9 (C.told:Int)):=s;have W:wrap64 ((C.told:Int)+1)=((C.told+1:Nat):Int):=by unfold wrap64;omega
  have V:IntKind.i64.wrap ((C.told:Int)+1)=((C.told+1:Nat):Int):=by rw [Ut];omega
  have M:=al F;have N:=al J;clear g I y F J s j z A;go_wp2;go_ret;exact .inr ⟨_,h.out,rfl,M.out,N.out⟩
def aV (C:Ck):Array ZT:=((YE 130).map (nI C)).toArray
def b8 (C:Ck):(aV C).size=130:=by unfold aV;rw [UF,T7,UC]
def zj (C:Ck) (i:Nat) (a:i<130):(aV C)[i]?=ZX (nI C i):=by
 unfold aV;rw [WY,Un,Vw a];rfl
def Tryz.infoCk:(ZO.info? 326).map (λi=>i.size)=ZX 130:=by kernel_rfl
def dQ (C:Ck):(ZO.info? 326).map (λi=>i.size)=ZX (aV C).size:=by rw [b8];exact Tryz.infoCk
theorem Nr (C:Ck) (i:Nat):(nI C i).oneCell'=ZW:=by
 unfold nI;split
 . rfl
 . split<;>rfl
def mw (C:Ck):(aV C).all (λv=>v.oneCell')=ZW:=by
 rw [XK];intro i a;have:=zj C i (by rw [<- b8 C];exact a);rw [VD a] at this;rw [UI this];exact Nr C i
theorem aD.heap (h:aD w b C):w.heap[b]?=ZX (Z4 (aV C) 326 (0,0)):=by
 obtain ⟨c,j,l,k⟩:=h;have e:c=aV C:=by
  apply Array.ext
  . rw [l,b8]
  . intro i f g;have a:=k i (by omega);have d:=zj C i (by omega);rw [VD f] at a;rw [VD g] at d;rw [UI a,UI d]
 rw [<- e];exact j
def aD.of_heap (h:w.heap[b]?=ZX (Z4 (aV C) 326 (0,0))):aD w b C:=⟨_,h,b8 C,λi a=>zj C i a⟩
def aD.new (w:ZU) (C:Ck):aD (w.alloc (Z4 (aV C) 326)) w.heap.size C:=aD.of_heap (XI w _)
def aD.lt (h:aD w b C):b<w.heap.size:=(TX.1 h.heap).1
def aD.keep (h:aD w b C) (e:w'.heap[b]?=w.heap[b]?):aD w' b C:=aD.of_heap (e.trans h.heap)
def aD.setRow (C:Ck) (h:aD w b C'):aD (w.setRow b (aV C)) b C:=aD.of_heap (Vf w b (aV C') (aV C) _ _ h.heap)
def aN (w:ZU) (b:Nat) (cs:Array ZT):w.grownBy (w.setRow b cs) (ZX b):=
 ⟨rfl,rfl,rfl,by simp,λk _ a=>by
  have:b≠k:=λe=>a (by rw [e]);simp [World.setRow,VH,this]⟩
def mx (h:aD w b C):(Instr.loadAt 326 (Z6 (ZX ⟨b,0,ZY⟩))).run ZO w=.ok (.agg (aV C)) w:=by
 simp only [Instr.loadAt,Instr.sureAddr,Uo,U2,UE,WN w b 326 326 (aV C) (0,0) _ h.heap Xn rfl (dQ C)]
def nv (C:Ck) (h:aD w b C'):(Instr.storeAt 326 (Z6 (ZX ⟨b,0,ZY⟩)) (.agg (aV C))).run ZO w=.ok () (w.setRow b (aV C)):=by
 simp only [Instr.storeAt,Instr.sureAddr,Uo,U2,UE,XA w b 326 326 (aV C') (aV C) h.heap (dQ C) (by rw [b8,b8]) (mw C)]
def kD (f:o.guard=ZY) (x:ZP) (ho:o.op=.load 326 x) (b:Nat) (C:Ck)
 (g:a.eval x=Z6 (ZX ⟨b,0,ZY⟩)) (e:aD w b C) (h:wpListIn F n ZO ops Q rest (a.put o.dst (.agg (aV C))) w):wpListIn F n ZO ops Q (o::rest) a w:=by
 refine Yo f λK hK=>?_;unfold Oper.wpIn;refine ⟨by simp [Oper.about,ho],?_⟩;rw [Wh F _ _ (by rw [ho];intro c d;cases d)];simp [execOp,ho,g,mx e,Result.andThen];exact hK _ _ h
def jJ (f:o.guard=ZY) (x y:ZP) (ho:o.op=.store 326 x y) (b:Nat) (C C':Ck)
 (g:a.eval x=Z6 (ZX ⟨b,0,ZY⟩)) (i:a.eval y=.agg (aV C)) (e:aD w b C') (h:wpListIn F n ZO ops Q rest (a.put o.dst ZZ) (w.setRow b (aV C))):wpListIn F n ZO ops Q (o::rest) a w:=by
 refine Yo f λK hK=>?_;unfold Oper.wpIn;refine ⟨by simp [Oper.about,ho],?_⟩;rw [Wh F _ _ (by rw [ho];intro c d;cases d)];simp [execOp,ho,g,i,nv C e,Result.andThen];exact hK _ _ h
def dJ:Ck:=⟨λ_ _=>0,0,0⟩
def Tryz.zeroCk:(ZO.info? 326).map (λi=>(i.zero,i.size,i.bytes))=ZX (ZX (.agg (aV dJ)),130,144):=by kernel_rfl
def zeroCk (w:ZU):(zeroValue 326).run ZO w=.ok (.agg (aV dJ)) w:=by
 obtain ⟨c,a,b,_,_⟩:=Us Tryz.zeroCk;simp [zeroValue,typeInfo,Uo,a,b]
def aD.mono (h:aD w b C) (c:Below B w w') (a:b<B):aD w' b C:=h.keep (c.block b a)
def Jn:Code->Nat->Option (Array ZR)
 | .region i ops _,n=>if i=n then ZX ops else ZY
 | .seq a b,n=>(Jn a n).orElse λ_=>Jn b n
 | .cond _ a b,n=>(Jn a n).orElse λ_=>Jn b n
 | .block _ a,n=>Jn a n
 | .loop a,n=>Jn a n
 | .scope a,n=>Jn a n
 | .rangeFunc _ _ a b,n=>(Jn a n).orElse λ_=>Jn b n
 | _,_=>ZY
noncomputable def Rq:Array ZR:=((Tryz.f215.body.bind (Jn · 8))).getD #[]
def BG:List (Op×Option Nat×a8):=[(.load 326 (Z1 12),ZX 28,[]),(.load 131 (Z1 6),ZX 29,[]),(.move (Z1 11),ZX 30,[]),
 (.call { callee:=.value (.func 217),args:=#[Z1 29,Z1 30],argTypes:=#[131,3] },ZX 31,[1,2]),(.load 3 (Z1 7),ZX 32,[]),(.load 223 (Z1 8),ZX 33,[]),(.load 338 (Z1 9),ZX 34,[]),
 (.call { callee:=.value (.func 215),args:=#[Z1 28,Z1 31,Z1 32,Z1 33,Z1 34],argTypes:=#[326,131,3,223,338] },ZX 35,[0,3,4,5,6,3]),(.unOp .not 4 (Z1 35),ZX 36,[7])]
def DY:aL Rq 28 37 BG:=bw (by kernel_rfl) (by kernel_rfl)
def DZ (w:ZU) (R:ZU->Prop) (Dn:Nat->Bool) (w':ZU):Prop:=if Dn 7=ZW then R w' else w'=w.drew
def gB (h:DZ w R Dn w') (i:Nat) (a:7≠i):DZ w R (fI Dn i) w':=by unfold DZ;rw [bZ a];exact h
def my (h:DZ w R Dn w') {j:Nat} (e:j<8) (a:Dn j=ZV) (b:∀ j,Dn j=ZW->j<BG.length/\∀ k∈(bB BG j).2.2,Dn k=ZW):w'=w.drew:=by
 unfold DZ at h;cases q:Dn 7 with
 | false=>rw [q] at h;exact h
 | true=>
  have c:=(b 7 q).2;have d:=(b 3 (c 3 (by decide))).2;exfalso;match j,e with
  | 0,_|3,_|4,_|5,_|6,_=>exact nomatch a.symm.trans (c _ (by decide))
  | 1,_|2,_=>exact nomatch a.symm.trans (d _ (by decide))
  | 7,_=>exact nomatch a.symm.trans q
theorem D0 (D F G H I i of q:Nat) (C:Ck) (A B:ZT) (R:ZU->Prop) (V:Rq=ops)
 (sz:a.tmps.size=39) (W:i<16) (U:of<65536) (i12:a.eval (Z1 12)=Z6 (ZX ⟨D,0,ZY⟩)) (Z:a.eval (Z1 6)=Z6 (ZX ⟨F,0,ZY⟩)) (i11:a.eval (Z1 11)=Z7 Z9 (i:Int)) (i7:a.eval (Z1 7)=Z6 (ZX ⟨G,0,ZY⟩)) (i8:a.eval (Z1 8)=Z6 (ZX ⟨H,0,ZY⟩)) (i9:a.eval (Z1 9)=Z6 (ZX ⟨I,0,ZY⟩))
 (T:aD w.drew D C) (c6:w.drew.cell? ⟨F,0,ZY⟩=ZX (Z7 Z8 (of:Int))) (c7:w.drew.cell? ⟨G,0,ZY⟩=ZX (Z7 Z9 (q:Int))) (c8:w.drew.cell? ⟨H,0,ZY⟩=ZX A) (c9:w.drew.cell? ⟨I,0,ZY⟩=ZX B)
 (S:∀ m,CallsIn Fence.wide m ZO 215 #[.agg (aV C),Z7 Z8 (bH of i:Nat),Z7 Z9 (q:Int),A,B] w.drew λe s=>e=Z3 (Z2 ZW)/\R s)
 (h:∀ b s,DV 28 37 a b->b.eval (Z1 36)=Z2 ZV->R s->Q .normal b s):(Code.region 8 ops ZW).wpIn (Fence.wide.inRound l) n ZO Q a w:=by
 subst V;refine bV (by kernel_rfl) DY a w (by omega) (λj u _=>u=([.agg (aV C),Z7 Z8 (of:Int),Z7 Z9 (i:Int),Z7 Z8 (bH of i:Nat),Z7 Z9 (q:Int),A,B,Z2 ZW,Z2 ZV]:List ZT).getD j ZZ) (DZ w R) rfl ?_ ?_
 . intro j X;match j,X with
   | 0,_=>
    intro o b w' Dn y ho p k t x r d g;obtain rfl:=my d (by decide) t x;exact av (by (conv at ho=>rhs;whnf);simp [execOp,ho,(k.slot 12 (by omega)).trans i12,mx T,Result.andThen]) (by rw [ho];intro c h;cases h) p ⟨gB d _ (by decide),rfl,kq⟩
   | 1,_=>
    intro o b w' Dn y ho p k t x r d g;obtain rfl:=my d (by decide) t x;exact av (v:=Z7 Z8 (of:Int)) (by (conv at ho=>rhs;whnf);simp only [execOp,ho,(k.slot 6 (by omega)).trans Z];go_simp) (by rw [ho];intro c h;cases h) p ⟨gB d _ (by decide),rfl,kq⟩
   | 2,_=>exact λo b w' Dn y ho p k t x r d g=>av (ag ho ((k.slot 11 (by omega)).trans i11) w') (by rw [ho];intro c h;cases h) p ⟨gB d _ (by decide),rfl,kq⟩
   | 3,_=>
    intro o b w' Dn y ho p k t x r d g;have z:b.eval (Z1 29)=Z7 Z8 (of:Int):=g 1 (r 1 (by decide));have J:b.eval (Z1 30)=Z7 Z9 (i:Int):=g 2 (r 2 (by decide));refine jF (f:=217) (args:=#[Z7 Z8 (of:Int),Z7 Z9 (i:Int)]) (w1:=w') (by have E:b.eval (.func 217)=.func (.func 217) #[] #[]:=rfl;generalize b.eval=O at z J E ⊢;(conv at ho=>rhs;whnf);simp [execOp,ho,BG,resolve,invoke,z,J,E,go_sem]) (by rw [ho];intro c h;cases h) p (Du of i U W _) ?_;rintro e s ⟨rfl,rfl⟩;exact ⟨_,rfl,gB d _ (by decide),rfl,kq⟩
   | 4,_=>
    intro o b w' Dn y ho p k t x r d g;obtain rfl:=my d (by decide) t x;exact av (v:=Z7 Z9 (q:Int)) (by (conv at ho=>rhs;whnf);simp only [execOp,ho,(k.slot 7 (by omega)).trans i7];go_simp) (by rw [ho];intro c h;cases h) p ⟨gB d _ (by decide),rfl,kq⟩
   | 5,_=>
    intro o b w' Dn y ho p k t x r d g;obtain rfl:=my d (by decide) t x;exact av (v:=A) (by (conv at ho=>rhs;whnf);simp only [execOp,ho,(k.slot 8 (by omega)).trans i8];go_simp) (by rw [ho];intro c h;cases h) p ⟨gB d _ (by decide),rfl,kq⟩
   | 6,_=>
    intro o b w' Dn y ho p k t x r d g;obtain rfl:=my d (by decide) t x;exact av (v:=B) (by (conv at ho=>rhs;whnf);simp only [execOp,ho,(k.slot 9 (by omega)).trans i9];go_simp) (by rw [ho];intro c h;cases h) p ⟨gB d _ (by decide),rfl,kq⟩
   | 7,_=>
    intro o b w' Dn y ho p k t x r d g;obtain rfl:=my d (by decide) t x;have z:b.eval (Z1 28)=.agg (aV C):=g 0 (r 0 (by decide));have K:b.eval (Z1 31)=Z7 Z8 (bH of i:Nat):=g 3 (r 3 (by decide));have L:b.eval (Z1 32)=Z7 Z9 (q:Int):=g 4 (r 4 (by decide));have M:b.eval (Z1 33)=A:=g 5 (r 5 (by decide));have N:b.eval (Z1 34)=B:=g 6 (r 6 (by decide));refine jF (f:=215) (args:=#[.agg (aV C),Z7 Z8 (bH of i:Nat),Z7 Z9 (q:Int),A,B]) (w1:=w.drew) (by have E:b.eval (.func 215)=.func (.func 215) #[] #[]:=rfl;generalize b.eval=O at z K L M N E ⊢;(conv at ho=>rhs;whnf);simp [execOp,ho,BG,resolve,invoke,z,K,L,M,N,E,go_sem]) (by rw [ho];intro c h;cases h) p (Vk.1 (S 0)) ?_;rintro e s ⟨rfl,Y⟩;exact ⟨_,rfl,(show R s from Y),rfl,kq⟩
   | 8,_=>
    intro o b w' Dn y ho p k t x r d g;have z:b.eval (Z1 35)=Z2 ZW:=g 7 (r 7 (by decide));exact av (v:=Z2 ZV) (by (conv at ho=>rhs;whnf);simp only [execOp,ho,z];go_simp) (by rw [ho];intro c h;cases h) p ⟨gB d _ (by decide),rfl,kq⟩
 . rintro b w' k _ ⟨Dn,P,d⟩ g;unfold DZ at d;rw [P 7 (by decide),if_pos rfl] at d;exact h b w' ⟨k.size,k.defers,k.slot⟩ (g 8 (by decide)) d
section
attribute [local go_sem] Oper.semAt_some
theorem wT (p least Bl:Nat) (w:ZU) (a:w.cell? ⟨Bl,0,ZY⟩=ZX (Z7 Z9 (least:Int))) :
 ZS ZO 211 #[Z7 Z9 p,Z6 (ZX ⟨Bl,0,ZY⟩)] w λe w'=>e=Z3 (Z2 (decide (p<least)))/\w'=w:=by
 go_enter func211,ntmps211;go_wp2;go_ret;exact ⟨by simp,rfl⟩
def eZ (Bl:Nat):ZT:=.func (.func 211) #[] #[Z6 (ZX ⟨Bl,0,ZY⟩)]
def Bx (W:ZU) (B:Nat) (v:ZT):Prop:=∃ t,Boxed W B t v
def Bx.cell (h:Bx W B v):W.cell? ⟨B,0,ZY⟩=ZX v:=by obtain ⟨t,h⟩:=h;exact h.cell
def Bx.frozen (h:Bx W B v):W.frozen? ⟨B,0,ZY⟩=ZV:=by obtain ⟨t,h⟩:=h;exact h.frozen
def Bx.lt (h:Bx W B v):B<W.heap.size:=by obtain ⟨t,h⟩:=h;exact h.lt
def Bx.keep (h:Bx W B v) (e:W'.heap[B]?=W.heap[B]?):Bx W' B v:=by obtain ⟨t,h⟩:=h;exact ⟨t,e.trans h⟩
def Bx.set (h:Bx W B v) (a:ZT):Bx (W.setCell ⟨B,0,ZY⟩ a) B a:=by obtain ⟨t,h⟩:=h;exact ⟨t,h.set a⟩
def Bx.new (W:ZU) (t:ZQ) (v:ZT):Bx (W.alloc (Z4 #[v] t)) W.heap.size v:=⟨t,UA W t v⟩
def Bx.alloc (h:Bx W B v) (o:Obj):Bx (W.alloc o) B v:=by obtain ⟨t,h⟩:=h;exact ⟨t,h.alloc o⟩
structure VB (W:ZU) (h:Nat) (C:Ck) (of q Bl l:Nat):Prop where
 ck:aD W h C
 set:Bx W (h+1) (Z7 Z8 (of:Int))
 pas:Bx W (h+1+1) (Z7 Z9 (q:Int))
 Sa:Bx W (h+1+1+1) (eZ Bl)
 yld:Bx W (h+1+1+1+1) (.func (.yield l) #[] #[])
 res:Bx W (h+1+1+1+1+1) (Z2 ZV)
def VB.keep (v:VB W h C of q Bl l) (e:∀ k,h<=k->k<h+6->W'.heap[k]?=W.heap[k]?):VB W' h C of q Bl l:=
 ⟨v.ck.keep (e _ (by omega) (by omega)),v.set.keep (e _ (by omega) (by omega)),v.pas.keep (e _ (by omega) (by omega)),v.Sa.keep (e _ (by omega) (by omega)),v.yld.keep (e _ (by omega) (by omega)),v.res.keep (e _ (by omega) (by omega))⟩
def VB.passed (v:VB W h C of q Bl l) (a:Nat):VB (W.setCell ⟨h+1+1,0,ZY⟩ (Z7 Z9 (a:Int))) h C of a Bl l:=by
 have e:∀ k,k≠h+1+1->(W.setCell ⟨h+1+1,0,ZY⟩ (Z7 Z9 (a:Int))).heap[k]?=W.heap[k]?:=λk b=>V3 _ _ _ _ b;exact ⟨v.ck.keep (e _ (by omega)),v.set.keep (e _ (by omega)),v.pas.set _,v.Sa.keep (e _ (by omega)),v.yld.keep (e _ (by omega)),v.res.keep (e _ (by omega))⟩
def jf (K:a8) (d:Nat) (C:Ck) (of p:Nat) (s:cd) (pre:List Sh):Nat×cd×Bool:=(pre.map (·.1)).foldl (ia (yA K d) C of) (p,eS K s C,ZV)
def D3 (K:a8) (d:Nat) (C:Ck) (of p:Nat) (s:cd) (pre:List Sh) (x:Sh):jf K d C of p s (pre++[x])=ia (yA K d) C of (jf K d C of p s pre) x.1:=by
 unfold jf;rw [Uw,V9];rfl
def Hl (h:pre.map (·.1)=ab of):(jf K d C of p s pre).2.1=iF K d C of p s:=by
 unfold jf;rw [h,pr]
def D4 (h:pre.map (·.1)<+:ab of) (e:(jf K d C of p s pre).2.2=ZW):(jf K d C of p s pre).2.1=iF K d C of p s:=by
 obtain ⟨R,c⟩:=h;rw [pr,<- c,V9];show _=(R.foldl (ia (yA K d) C of) (jf K d C of p s pre)).2.1;obtain ⟨f,a⟩:∃ q sx,jf K d C of p s pre=(q,sx,ZW):=⟨_,_,by rw [<- e]⟩;obtain ⟨a,b⟩:=a;rw [b,vY]
def VI (K:a8) (d:Nat) (C:Ck) (of p:Nat) (s:cd) (W:ZU) (B n0 Bl l:Nat) (J:cd->ZU->Prop) (brk:Bool) (pre:List Sh) (X:ZU):Prop:=
 (jf K d C of p s pre).2.2=brk/\VB X W.heap.size C of (jf K d C of p s pre).1 Bl l/\J (jf K d C of p s pre).2.1 X/\bj n0 W X/\(jf K d C of p s pre).1<=p+pre.length/\B<=X.heap.size
def VI.own {brk:Bool} (f:∀ s A B,J s A->Below n0 A B->J s B) (o:W.heap.size+6<=B) (hn:n0<=W.heap.size) :
 OwnFrom B (VI K d C of p s W B n0 Bl l J brk):=by
 rintro pre X Y row ⟨g,h,i,b,j,q⟩ a n;have c:∀ k,k<W.heap.size+6->Y.heap[k]?=X.heap[k]?:=λk c=>a.block k (by omega) (λe=>by have:=(n k e.symm).1;omega);have:=a.size;refine ⟨g,h.keep (λk _ m=>c k m),f _ _ _ i ⟨a.os,a.tape,a.output,a.size,λk r=>c k (by omega)⟩,⟨a.os.trans b.os,a.tape.trans b.tape,a.output.trans b.output,by have:=b.size;omega,λk k1 k2=>(c k (by omega)).trans (b.block k k1 k2)⟩,j,by omega⟩
def VX (K:a8) (d:Nat) (C:Ck) (of p:Nat) (s:cd) (W:ZU) (B n0 Bl l:Nat) (J:cd->ZU->Prop) (c:Code) (pre:List Sh) (X:ZU):Prop:=c=.exit 0/\VI K d C of p s W B n0 Bl l J ZW pre X
def Hm (h:¬ q<sx.2):ia rec C of (q,sx,ZV) i=(q,sx,ZW):=by unfold ia;simp [h]
def Hn (h:q<sx.2) (hl:iB C i=ZY):ia rec C of (q,sx,ZV) i=(q,sx,ZV):=by unfold ia;simp [h,hl]
def Ns (h:q<sx.2) (hl:iB C i=ZX C'):ia rec C of (q,sx,ZV) i=(q+1,rec C' (bH of i) q sx,ZV):=by unfold ia;simp [h,hl]
def kF (s:Nat):(shs s).length=(ab s).length:=by rw [<- M6 s,T7]
def pQ (s:Nat):(shs s).length<=16:=by
 rw [kF];exact TW (Wz _ _) (by simp)
theorem Ho (q:Nat) (h:q<=100000):wrap64 ((q:Int)+1)=((q+1:Nat):Int)/\IntKind.i64.wrap ((q:Int)+1)=((q+1:Nat):Int):=by
 constructor
 . unfold wrap64;omega
 . rw [Ut];omega
theorem wU {D:Nat} {X:ZU} (b:∀ s A B,J s A->Below n0 A B->J s B) (w:n0<=W.heap.size) (q:W.heap.size<=B) (r:W.heap.size<=D) (j:B≠D)
 (i:Bx X B (Z2 ZV)) (t:J s X) (o:bj n0 W X) (hK:X.heap[D]?=ZX (.deferred (ZX []))) (f:a.defers=[{ target:=.collected D,args:=#[] }]) (h5:a.eval (Z1 10)=Z6 (ZX ⟨B,0,ZY⟩)) (hT:a.tmps.size=39) :
 bodyPostM Fence.wide n ZO Tryz.f215 (λe W'=>e=Z3 (Z2 ZW)/\J s W'/\bj n0 W W') .ret a (X.setCell ⟨B,0,ZY⟩ (Z2 ZW)):=by
 have d:(X.setCell ⟨B,0,ZY⟩ (Z2 ZW)).heap[D]?=ZX (.deferred (ZX [])):=(VS _ _ _).same D _ hK rfl;obtain ⟨g,u⟩:=a;simp only at f hT;subst f;refine ⟨by simp,.inl ⟨_,_,rfl,Wt d,?_⟩⟩;have k:Bx (X.setCell ⟨B,0,ZY⟩ (Z2 ZW)) B (Z2 ZW):=i.set _;have l:Bx ((X.setCell ⟨B,0,ZY⟩ (Z2 ZW)).putObj D (.deferred ZY)) B (Z2 ZW):=k.keep (UV (λe=>j e));have c:=l.cell;have m:=(TX.1 d).1;have h:g.getD 10 ZZ=Z6 (ZX ⟨B,0,ZY⟩):=h5;refine ⟨Z2 ZW,?_,rfl,b _ _ _ (b _ _ _ t ((TY _ _).setCell (p:=⟨B,0,ZY⟩) (by show n0<=B;omega) _)) (Below.RV (TY _ _) (by omega) m _),(o.setCell (p:=⟨B,0,ZY⟩) (.inr q) _).putObj (.inr r) _⟩;have v:g[10]'(by omega)=Z6 (ZX ⟨B,0,ZY⟩):=by rw [<- h];simp [hT]
 simp only [results,results215];go_simp
theorem tD (K:a8) (n0 Bl l:Nat) (J:cd->ZU->Prop) (u:∀ s A B,J s A->Below n0 A B->J s B)
 (k8:∀ s A,J s A->A.cell? ⟨Bl,0,ZY⟩=ZX (Z7 Z9 (s.2:Int))/\n0<=A.heap.size/\aG A) (qq:2<=n0)
 (hY:∀ m s C W1,J s W1->ep C->YieldAt Fence.wide m ZO l #[.agg (aV C)] W1 λe W'=>e=Z3 (Z2 ZW)/\J (eS K s C) W'/\bj n0 W1 W')
 (d m:Nat) (C:Ck) (of p:Nat) (s:cd) (W:ZU) (hf:ep C) (km:of<65536) (hp:p+16<=100000) (hJ:J s W)
 (kp:∀ (m i:Nat) (C':Ck) (E p':Nat) (s':cd) (W':ZU),iB C i=ZX C'->E<65536->p'<=p+16->J s' W' ->
  CallsIn Fence.wide m ZO 215 #[.agg (aV C'),Z7 Z8 E,Z7 Z9 p',eZ Bl,.func (.yield l) #[] #[]] W' λe I=>e=Z3 (Z2 ZW)/\J (yA K d C' E p' s') I/\bj n0 W' I) :
 CallsIn Fence.wide m ZO 215 #[.agg (aV C),Z7 Z8 of,Z7 Z9 p,eZ Bl,.func (.yield l) #[] #[]] W λe W'=>e=Z3 (Z2 ZW)/\J (iF K d C of p s) W'/\bj n0 W W':=by
 obtain ⟨_,S,_⟩:=k8 s W hJ;obtain ⟨n,HN⟩:∃ n:Nat,Hid (5<=n):=⟨5,TV _⟩;refine Vk.2 ((Vk (n:=n)).1 ?_);refine V6 func215 rfl trivial ?_ rfl;simp only [ntmps215,UF,Uv,UQ,Nat.reduceAdd,Nat.reduceSub,Va,Vb,Vc,Vd,Uk,UL];have O:bW W ((((((W.alloc (Z4 (aV C) 326)).alloc (Z4 #[Z7 Z8 (of:Int)] 131)).alloc (Z4 #[Z7 Z9 (p:Int)] 3)).alloc (Z4 #[eZ Bl] 223)).alloc (Z4 #[.func (.yield l) #[] #[]] 338)).alloc (Z4 #[Z2 ZV] 4)):=
  (((((bA W _).alloc (by simp) _).alloc (by simp;omega) _).alloc (by simp;omega) _).alloc (by simp;omega) _).alloc (by simp;omega) _
 have T:VB ((((((W.alloc (Z4 (aV C) 326)).alloc (Z4 #[Z7 Z8 (of:Int)] 131)).alloc (Z4 #[Z7 Z9 (p:Int)] 3)).alloc (Z4 #[eZ Bl] 223)).alloc (Z4 #[.func (.yield l) #[] #[]] 338)).alloc (Z4 #[Z2 ZV] 4)) W.heap.size C of p Bl l:=by
  have N:∀ (X:ZU) (o:Obj) (k:Nat),k<X.heap.size->(X.alloc o).heap[k]?=X.heap[k]?:=λX o k h=>VY X o k h;refine ⟨?_,?_,?_,?_,?_,?_⟩
  . exact (aD.new W C).keep (by rw [N _ _ _ (by simp;omega),N _ _ _ (by simp;omega),N _ _ _ (by simp;omega),N _ _ _ (by simp;omega),N _ _ _ (by simp)])
  . have h:=Bx.new (W.alloc (Z4 (aV C) 326)) 131 (Z7 Z8 (of:Int));rw [Uq] at h;exact (((h.alloc _).alloc _).alloc _).alloc _
  . have h:=Bx.new ((W.alloc (Z4 (aV C) 326)).alloc (Z4 #[Z7 Z8 (of:Int)] 131)) 3 (Z7 Z9 (p:Int));simp only [Uq] at h;exact ((h.alloc _).alloc _).alloc _
  . have h:=Bx.new (((W.alloc (Z4 (aV C) 326)).alloc (Z4 #[Z7 Z8 (of:Int)] 131)).alloc (Z4 #[Z7 Z9 (p:Int)] 3)) 223 (eZ Bl);simp only [Uq] at h;exact (h.alloc _).alloc _
  . have h:=Bx.new ((((W.alloc (Z4 (aV C) 326)).alloc (Z4 #[Z7 Z8 (of:Int)] 131)).alloc (Z4 #[Z7 Z9 (p:Int)] 3)).alloc (Z4 #[eZ Bl] 223)) 338 (.func (.yield l) #[] #[]);simp only [Uq] at h;exact h.alloc _
  . have h:=Bx.new (((((W.alloc (Z4 (aV C) 326)).alloc (Z4 #[Z7 Z8 (of:Int)] 131)).alloc (Z4 #[Z7 Z9 (p:Int)] 3)).alloc (Z4 #[eZ Bl] 223)).alloc (Z4 #[.func (.yield l) #[] #[]] 338)) 4 (Z2 ZV);simp only [Uq] at h;exact h
 have ka:((((((W.alloc (Z4 (aV C) 326)).alloc (Z4 #[Z7 Z8 (of:Int)] 131)).alloc (Z4 #[Z7 Z9 (p:Int)] 3)).alloc (Z4 #[eZ Bl] 223)).alloc (Z4 #[.func (.yield l) #[] #[]] 338)).alloc (Z4 #[Z2 ZV] 4)).heap.size=W.heap.size+6:=by simp
 unfold eZ at O T ka ⊢;obtain ⟨W6,ke⟩:=nM (((((((W.alloc (Z4 (aV C) 326)).alloc (Z4 #[Z7 Z8 (of:Int)] 131)).alloc (Z4 #[Z7 Z9 (p:Int)] 3)).alloc (Z4 #[.func (.func 211) #[] #[Z6 (ZX ⟨Bl,0,ZY⟩)]] 223)).alloc (Z4 #[.func (.yield l) #[] #[]] 338)).alloc (Z4 #[Z2 ZV] 4)));rw [ke] at O T ka;obtain ⟨fn,tmps,assign,body,hy,q1⟩:=hY (n-1) s C W6 (u s W W6 hJ (O.mono S)) hf;have c9:=T.yld.cell;have r:=al T;have HB:=al O;have HS:=al ka;clear T O ka;gi_wp2_with (first
  | (rw [ke];refine kD rfl (Z1 5) rfl W.heap.size C rfl r.out.ck ?_)
  | (refine kD rfl (Z1 5) rfl W.heap.size C rfl r.out.ck ?_))
 refine ⟨λh=>(by cases h),q1.mono ?_⟩;rintro e f ⟨rfl,q0,k7⟩;have hA:bj n0 W f:=(bj.RT HB.out).trans k7;have ks:VB f W.heap.size C of p Bl l:=r.out.keep (λk k1 k2=>k7.block k (by omega) (by have:=HS.out;omega));have qs:W.heap.size+6<=f.heap.size:=by have:=k7.size;have:=HS.out;omega
 have q7:=k8 _ _ q0;have c6:=ks.set.cell;clear hy q1 ke r HB HS k7 c9;have r:=al ks;clear ks;gi_wp2;refine cV (dC of f) ?_;rintro e w' ⟨rfl,rfl⟩;have q2:aG (f.alloc (Z4 #[Z7 Z8 (of:Int)] 131)):=q7.2.2.mono (B:=f.heap.size) (by omega) (bA _ _);have q4:(f.alloc (Z4 #[Z7 Z8 (of:Int)] 131)).cell? ⟨f.heap.size,0,ZY⟩=ZX (Z7 Z8 (of:Int)):=(Bx.new f 131 (Z7 Z8 (of:Int))).cell;have h0:VI K d C of p s W (f.alloc (Z4 #[Z7 Z8 (of:Int)] 131)).heap.size n0 Bl l J ZV [] (f.alloc (Z4 #[Z7 Z8 (of:Int)] 131)):=
  ⟨rfl,r.out.keep (λk k1 k2=>VY _ _ _ (by omega)),u _ _ _ q0 ((TY _ _).alloc q7.2.1 _),hA.trans (bj.RT (bA _ _)),TV _,TV _⟩
 have q9:(f.alloc (Z4 #[Z7 Z8 (of:Int)] 131)).heap.size=f.heap.size+1:=by simp
 obtain ⟨Z,q3⟩:=nM (f.alloc (Z4 #[Z7 Z8 (of:Int)] 131));have H0:=al h0;have HC:=al q4;have HT:=al q2;have j:=al q9;clear h0 q4 q2 q9;gi_wp2;rw [q3] at H0 HC HT j;clear q3;refine V7 rfl (by have:=HN.out;omega) (gf:=155) (lb:=#[Z6 (ZX ⟨f.heap.size,0,ZY⟩)]) rfl trivial (Vl func155 (by kernel_rfl) rfl)
  (eI (n-1) f.heap.size of km Z (by have:=j.out;omega) HC.out (by have:=j.out;omega) HT.out) (λh k=>qG h k) (qH (by have:=j.out;omega)) (TY _ _) (λ_=>rfl)
  (VI K d C of p s W Z.heap.size n0 Bl l J ZV) (VX K d C of p s W Z.heap.size n0 Bl l J)
  (VI.own u (by have:=j.out;omega) S) (λc=>by
   rintro pre X Y row ⟨y,b⟩ hg hr;exact ⟨y,VI.own u (by have:=j.out;omega) S pre X Y row b hg hr⟩) H0.out
  (λx=>{ tmps:=#[.agg (aV C),Z7 Z8 (of:Int),Z7 Z9 (p:Int),.func (.func 211) #[] #[Z6 (ZX ⟨Bl,0,ZY⟩)],.func (.yield l) #[] #[],Z6 (ZX ⟨W.heap.size,0,ZY⟩),Z6 (ZX ⟨W.heap.size+1,0,ZY⟩),Z6 (ZX ⟨W.heap.size+1+1,0,ZY⟩),Z6 (ZX ⟨W.heap.size+1+1+1,0,ZY⟩),Z6 (ZX ⟨W.heap.size+1+1+1+1,0,ZY⟩),Z6 (ZX ⟨W.heap.size+1+1+1+1+1,0,ZY⟩),Z7 Z9 (x.1:Int),ZZ,.func (.yield l) #[] #[],.agg (aV C),Z2 ZW,Z2 ZV,Z7 Z8 (of:Int),.func (.func 155) #[] #[Z6 (ZX ⟨f.heap.size,0,ZY⟩)],Z7 Z9 (x.1:Int),ZZ,ZZ,ZZ,ZZ,ZZ,ZZ,ZZ,ZZ,ZZ,ZZ,ZZ,ZZ,ZZ,ZZ,ZZ,ZZ,ZZ,ZZ,ZZ],defers:=[] }) ?assign ?body ?done ?stop
 case assign=>
  intro l2 x X Kk hK;unfold qF;gi_wp2;exact hK
 case body=>
  rintro l2 pre x X ⟨y,b,g,v,z,F⟩ kj;obtain ⟨q,sx,qa⟩:∃ q sx,jf K d C of p s pre=(q,sx,ZV):=⟨_,_,by rw [<- y]⟩;have kr:=D3 K d C of p s pre x;rw [qa] at b g z kr;simp only at b g z;have kk:(ab of).length<=16:=by rw [<- kF of];exact pQ of
  have hq:q<=p+16:=by omega
  have qk:q<=100000:=by omega
  have hl:=k8 _ _ g;have cl:=hl.1;have c7:=b.pas.cell;have f7:=b.pas.frozen;have c8:=b.Sa.cell;unfold eZ at c8;have r:=al b;have HJ:=al g;have HA:=al v;have kb:=al kr;have k6:=x.2;have V:=al F;clear b g v qa y kr hl F kj;gi_wp2;refine ef (wT q sx.2 Bl X cl) ?_;rintro e w' ⟨rfl,rfl⟩;by_cases R:q<sx.2
  . have kh:decide (q<sx.2)=ZW:=decide_eq_true R;rw [kh];have hz:=zeroCk;have kf:=r.out.ck;gi_wp2_with (first
     | (refine kD rfl (Z1 5) rfl W.heap.size C rfl kf ?_)
     | (refine jJ rfl (Z1 12) (Z1 24) rfl w'.heap.size C dJ rfl rfl (aD.new w' dJ) ?_))
    have kg:aD ((w'.alloc (Z4 (aV dJ) 326)).setRow w'.heap.size (aV C)) w'.heap.size C:=(aD.new w' dJ).setRow C;have P:bW w' ((w'.alloc (Z4 (aV dJ) 326)).setRow w'.heap.size (aV C)):=(bA _ _).grown (aN _ _ _) (by simp) (λk e=>by cases e;exact TV _);refine ef (BF w'.heap.size x.1 C _ kg hf k6) ?_;rintro e w2 (⟨q8,rfl,qn⟩|⟨C',Q,rfl,kc,q5⟩)
    ·
     subst qn;have HL:=al q8;have G:=al P;clear q8 P kg hz kf;gi_wp2;have ki:=j.out;have F:=V.out;have qh:=r.out.keep (λk k1 k2=>G.out.block k (by omega));refine ⟨(bj.RT G.out).keeps (T9 _),Fv.RT (by omega) G.out,?_⟩;unfold VI;rw [kb.out,Hn R HL.out];exact ⟨rfl,qh,u _ _ _ HJ.out (G.out.mono (by omega)),HA.out.trans (bj.RT G.out),by rw [T8];exact YH z,by have:=G.out.size;omega⟩
    ·
     have k9:bW w' w2:=P.grown q5 P.size (λk e=>by cases e;exact TV _);have qm:w'.heap.size<w2.heap.size:=kc.lt;have kx:=al Q;have qc:=al k9;have qd:=al kc;have qj:W.heap.size+6<=w'.heap.size:=(by have:=j.out;have:=V.out;omega);have qb:VB w2 W.heap.size C of q Bl l:=r.out.keep (λk k1 k2=>k9.block k (by omega));have q6:J sx w2:=u _ _ _ HJ.out (k9.mono (by omega));have M:=al qb;have qe:=al q6;clear Q k9 kc q5 P kg hz kf qb q6;gi_wp2;have k5:∀ m,CallsIn Fence.wide m ZO 215 #[.agg (aV C'),Z7 Z8 (bH of x.1:Nat),Z7 Z9 (q:Int),eZ Bl,.func (.yield l) #[] #[]] w2.drew λe t=>e=Z3 (Z2 ZW)/\(J (yA K d C' (bH of x.1) q sx) t/\bj n0 w2.drew t):=
      λm=>kp m x.1 C' (bH of x.1) q sx w2.drew kx.out (pA _ _ km) (by omega) (u _ _ _ qe.out (TY _ _).drew)
     refine D0 w'.heap.size (W.heap.size+1) (W.heap.size+1+1) (W.heap.size+1+1+1) (W.heap.size+1+1+1+1) x.1 of q C' (eZ Bl) (.func (.yield l) #[] #[]) (λt=>J (yA K d C' (bH of x.1) q sx) t/\bj n0 w2.drew t) (by kernel_rfl) rfl k6 km rfl rfl rfl rfl rfl rfl
      (show aD w2.drew _ _ from qd.out) M.out.set.cell M.out.pas.cell M.out.Sa.cell M.out.yld.cell k5 ?_
     clear k5;rintro a' U hk f36 ⟨ky,H⟩;obtain ⟨ls,Q,rfl⟩:=hk.split (by decide) (by simp);clear hk;obtain ⟨u0,u1,u2,u3,u4,u5,u6,u7,u8,rfl⟩:=Rm Q;clear Q;simp only [XB,VR,Xx,WL,UL,Uk] at f36 ⊢;obtain rfl:u8=Z2 ZV:=f36;have h9:bj n0 w2 U:=⟨H.os,H.tape,H.output,H.size,H.block⟩;have hv3:VB U W.heap.size C of q Bl l:=M.out.keep (λk k1 k2=>h9.block k (by omega) (by omega));have c7:=hv3.pas.cell;have f7:=hv3.pas.frozen;obtain ⟨qv,qo⟩:=Ho q qk;have qg:=al hv3;have qf:=al ky;have kv:=al h9;clear hv3 ky h9 H;gi_wp2;have ki:=j.out;have F:=V.out;have kz:J (yA K d C' (bH of x.1) q sx) (U.setCell ⟨W.heap.size+1+1,0,ZY⟩ (Z7 Z9 ((q+1:Nat):Int))):=u _ _ _ qf.out ((TY _ _).setCell (p:=⟨W.heap.size+1+1,0,ZY⟩) (by show n0<=W.heap.size+1+1;omega) _);have hh:bj n0 w' U:=(bj.RT qc.out).trans kv.out;have qi:KeepsFrom Z.heap.size w' (U.setCell ⟨W.heap.size+1+1,0,ZY⟩ (Z7 Z9 ((q+1:Nat):Int))):=(hh.keeps (by omega)).trans ((VS _ _ _).from _);refine ⟨qi,λ_=>(k8 _ _ kz).2.2,?_⟩;unfold VI;rw [kb.out,Ns R kx.out];refine ⟨rfl,qg.out.passed (q+1),kz,(HA.out.trans hh).setCell (p:=⟨W.heap.size+1+1,0,ZY⟩) (.inr (TW (Yu _) (Yu _))) _,by rw [T8];exact Nat.succ_le_succ z,?_⟩;have:=kv.out.size;simp only [World.setCell,Yw];omega
  . have kh:decide (q<sx.2)=ZV:=decide_eq_false R;rw [kh];gi_wp2;refine ⟨XW _ _,rfl,?_⟩;unfold VI;rw [kb.out,Hm R];exact ⟨rfl,r.out,HJ.out,HA.out,by rw [T8];exact YH z,V.out⟩
 case done=>
  rintro D xs X hD qp ⟨y,b,g,v,z,F⟩ hK;have L:=Hl (K:=K) (d:=d) (C:=C) (p:=p) (s:=s) qp;rw [L] at g;have hb:=b.res.cell;have f10:=b.res.frozen;have ki:=j.out;have w:=aE b g v;clear b g v;gi_wp2;clear L;exact wU (a:=_) u S (by omega) (by omega) (by omega) w.out.1.res w.out.2.1 w.out.2.2 hK (by simp) (by simp [Act.eval]) (by simp)
 case stop=>
  rintro D c pre X hD ko ⟨rfl,y,b,g,v,z,F⟩ hK;have L:=D4 (K:=K) (d:=d) (C:=C) (p:=p) (s:=s) ko y;rw [L] at g;have hb:=b.res.cell;have f10:=b.res.frozen;have ki:=j.out;have w:=aE b g v;clear b g v;gi_wp2;clear L;exact wU (a:=_) u S (by omega) (by omega) (by omega) w.out.1.res w.out.2.1 w.out.2.2 hK (by simp) (by simp [Act.eval]) (by simp)
def Hp (a:ep C) (h:iB C i=ZX C'):ep C':=by
 obtain ⟨r,rfl,b,c,_⟩:=gu h;have:=a.Sg;exact ⟨m9 a.byt,by show C.told<=C.count-1;omega,by show C.count-1<=8;omega⟩
def KO (K:a8) (n0 Bl l:Nat) (J:cd->ZU->Prop) (h:∀ s A B,J s A->Below n0 A B->J s B)
 (j:∀ s A,J s A->A.cell? ⟨Bl,0,ZY⟩=ZX (Z7 Z9 (s.2:Int))/\n0<=A.heap.size/\aG A) (k:2<=n0)
 (n:∀ m s C c,J s c->ep C->YieldAt Fence.wide m ZO l #[.agg (aV C)] c λe W'=>e=Z3 (Z2 ZW)/\J (eS K s C) W'/\bj n0 c W') :
 ∀ (d m:Nat) (C:Ck) (of p:Nat) (s:cd) (W:ZU),ep C->C.count<=C.told+d->of<65536->p+16*(d+1)<=100000->J s W ->
  CallsIn Fence.wide m ZO 215 #[.agg (aV C),Z7 Z8 of,Z7 Z9 p,eZ Bl,.func (.yield l) #[] #[]] W λe W'=>e=Z3 (Z2 ZW)/\J (iF K d C of p s) W'/\bj n0 W W':=by
 intro d;induction d with
 | zero=>
  intro m C of p s W b y f z g;refine tD K n0 Bl l J h j k n 0 m C of p s W b f (by omega) g ?_;intro m i C' a o q W' hl;obtain ⟨r,_,t,u,_⟩:=gu hl;omega
 | succ d ih=>
  intro m C of p s W b y f z g;refine tD K n0 Bl l J h j k n (d+1) m C of p s W b f (by omega) g ?_;intro m i C' a o q W' hl ho D w;have x:=Hp b hl;obtain ⟨r,v,t,u,_⟩:=gu hl;exact ih m C' a o q W' x (by rw [v];show C.count-1<=C.told+d;omega) ho (by omega) w
end
def tE (n nb:Nat):fK:=⟨n,nb,λ_=>ZV,λ_ _=>ZV,λ_ _=>zb⟩
def zk (n nb:Nat):aH:=⟨n,nb,λ_=>ZV,λ_ _=>ZV,λ_ _=>.blank⟩
def zl (n nb:Nat):mS (tE n nb) (zk n nb):=⟨rfl,rfl,rfl,λ_ _ _ _=>Fm (r:=.blank) trivial⟩
def rq (w:ZU) (b nb:Nat):Prop:=w.rowIs b 105 (64*nb) (λ_=>Z7 .u8 0)
def tF (w:ZU) (b nb:Nat):Prop:=w.rowIs b 4 nb (λ_=>Z2 ZV)
def dK (nb:Nat) (q:Nat×Nat):List ZT:=[Z2 ZV,Z5 (ZX ⟨q.1,0,ZY⟩) nb nb,Z5 (ZX ⟨q.2,0,ZY⟩) nb nb,Z7 Z9 0]
def ox (nb:Nat) (l:List (Nat×Nat)):List ZT:=l.flatMap (dK nb)
def Tryz.Th:(ZO.info? 101).map (λi=>(i.zero,i.size,i.bytes))=ZX (ZX (.agg #[Z2 ZV,Z5 ZY 0 0,Z5 ZY 0 0,Z7 Z9 0]),4,64):=by kernel_rfl
def Tryz.S9:(ZO.info? 4).map (λi=>(i.zero,i.size,i.bytes))=ZX (ZX (Z2 ZV),1,1):=by kernel_rfl
def KQ (w:ZU) (nb:Nat):rq (w.alloc (Z4 (madeCells (az zb) (nb*64)) 105)) w.heap.size nb:=by
 refine ⟨_,Uc _ _,by rw [size_madeCells];omega,λi c=>?_⟩;have b:(az zb).size=64:=by rw [ix,bR]
 have:i%64<64:=VT _ (by decide);have a:(az zb)[i%64]! = Z7 .u8 0:=by
  have e:az zb=YD 64 (Z7 .u8 0):=by simp only [az,aI,zb,List.map_replicate,List.toArray_replicate];rfl
  rw [getElem!_pos (az zb) (i%64) (by omega)];simp only [e,Array.getElem_replicate]
 simp [madeCells,b,a,show i<nb*64 by omega]
noncomputable def RNa:Array ZR:=((Tryz.f14.body.bind (pe · 4))).getD #[]
def aaD:List (Op×Option Nat×a8):=[(Op.move (Z1 5),ZX 11,[]),
 (Op.move (Z1 5),ZX 12,[]),
 (Op.nilCheck (Z1 12),ZX 13,[1]),
 (Op.fieldAddr 97 (Z1 13) 0,ZX 14,[2]),
 (Op.load 95 (Z1 14),ZX 15,[3]),
 (Op.move (Z1 1),ZX 16,[]),
 (Op.call { callee:=Callee.builtin Builtin.max,args:=#[Z1 16,Operand.const (Value.int IntKind.i64 0)],argTypes:=#[3,3] },ZX 17,[5]),
 (Op.makeSlice 98 (Z1 17) (Z1 17),ZX 18,[6,6]),
 (Op.move (Z1 1),ZX 19,[]),
 (Op.call { callee:=Callee.builtin Builtin.max,args:=#[Z1 19,Operand.const (Value.int IntKind.i64 0)],argTypes:=#[3,3] },ZX 20,[8]),
 (Op.makeSlice 99 (Z1 20) (Z1 20),ZX 21,[9,9]),
 (Op.build 101 #[(1,Z1 18),(2,Z1 21)],ZX 22,[7,10]),
 (Op.buildSlice 95 1 #[(0,Z1 22)],ZX 23,[11]),
 (Op.call { callee:=Callee.builtin Builtin.append,args:=#[Z1 15,Z1 23],argTypes:=#[95,95] },ZX 24,[4,12]),
 (Op.nilCheck (Z1 11),ZX 25,[0,0,1,2,3,4,5,6,7,8,9,10,11,12,13]),
 (Op.fieldAddr 97 (Z1 25) 0,ZX 26,[14,0,1,2,3,4,5,6,7,8,9,10,11,12,13]),
 (Op.store 95 (Z1 26) (Z1 24),ZY,[15,13,13,0,1,2,3,4,5,6,7,8,9,10,11,12,13])]
def Hs:aL RNa 11 27 aaD:=bw (by kernel_rfl) (by kernel_rfl)
def Nt (w0:ZU) (p nb:Nat) (v0:ZT) (xs:List ZT) (k:Nat) (i:Nat) (u:ZT) (w:ZU):Prop:=match i with
 | 0|1|2|3|14|15=>u=Z6 (ZX ⟨p,0,ZY⟩)
 | 4=>u=v0
 | 5|6|8|9=>u=Z7 Z9 nb
 | 7=>∃ b,w0.heap.size<=b/\u=Z5 (ZX ⟨b,0,ZY⟩) nb nb/\rq w b nb
 | 10=>∃ b,w0.heap.size<=b/\u=Z5 (ZX ⟨b,0,ZY⟩) nb nb/\tF w b nb
 | 11=>∃ q:Nat×Nat,w0.heap.size<=q.1/\w0.heap.size<=q.2/\u=.agg (dK nb q).toArray/\rq w q.1 nb/\tF w q.2 nb
 | 12=>∃ (c:Nat) (q:Nat×Nat),w0.heap.size<=c/\w0.heap.size<=q.1/\w0.heap.size<=q.2/\u=Z5 (ZX ⟨c,0,ZY⟩) 1 1/\w.heap[c]?=ZX (Z4 (dK nb q).toArray 101 (0,0))/\rq w q.1 nb/\tF w q.2 nb
 | 13=>∃ q:Nat×Nat,w0.heap.size<=q.1/\w0.heap.size<=q.2/\w.ownsRow (p+1) 101 4 u (k+1) (xs++dK nb q)/\rq w q.1 nb/\tF w q.2 nb
 | 16=>∃ (v':ZT) (q:Nat×Nat),w.heap[p]?=ZX (Z4 #[v',Z7 Z9 (-1)] 97 (0,0))/\w0.heap.size<=q.1/\w0.heap.size<=q.2/\w.ownsRow (p+1) 101 4 v' (k+1) (xs++dK nb q)/\rq w q.1 nb/\tF w q.2 nb
 | _=>True
def lJ (j:∀ b,w0.heap.size<=b->b<w.heap.size->w'.heap[b]?=w.heap[b]?) (i:Nat) (u:ZT) (o:i≠13/\i≠16) (h:Nt w0 p nb v0 xs k i u w):Nt w0 p nb v0 xs k i u w':=by
 have l:∀ b,w0.heap.size<=b->rq w b nb->rq w' b nb:=λb e q=>Vv q (j b e q.lt);have e:∀ b,w0.heap.size<=b->tF w b nb->tF w' b nb:=λb e q=>Vv q (j b e q.lt);match i with
 | 0|1|2|3|14|15|4|5|6|8|9=>exact h
 | 7=>obtain ⟨b,a,d,f⟩:=h;exact ⟨b,a,d,l b a f⟩
 | 10=>obtain ⟨b,a,d,f⟩:=h;exact ⟨b,a,d,e b a f⟩
 | 11=>obtain ⟨q,a,d,f,g,m⟩:=h;exact ⟨q,a,d,f,l _ a g,e _ d m⟩
 | 12=>obtain ⟨c,q,r,a,d,f,g,m,s⟩:=h;exact ⟨c,q,r,a,d,f,(j c r (TX.1 g).1).trans g,l _ a m,e _ d s⟩
 | 13=>exact absurd rfl o.1
 | 16=>exact absurd rfl o.2
 | n+17=>trivial
def PT (w0:ZU) (p:Nat) (v0:ZT) (D:Nat->Bool) (w:ZU):Prop:=(∀ k,k<w0.heap.size->(D 13=ZW->v0.ownBlock≠ZX k)->(D 16=ZW->k≠p)->w.heap[k]?=w0.heap[k]?)/\w0.heap.size<=w.heap.size/\w.os=w0.os/\w.tape=w0.tape/\w.output=w0.output
theorem rV (h:PT w0 p v0 D w) (i:Nat) (a:w.heap.size<=w'.heap.size/\w'.os=w.os/\w'.tape=w.tape/\w'.output=w.output) (f:∀ k,k<w0.heap.size->(i=13->v0.ownBlock≠ZX k)->(i=16->k≠p)->w'.heap[k]?=w.heap[k]?):PT w0 p v0 (fI D i) w':=by
 obtain ⟨g,j,l,m,n⟩:=h;refine ⟨λk d b c=>?_,TW j a.1,a.2.1.trans l,a.2.2.1.trans m,a.2.2.2.trans n⟩;unfold fI at b c;refine (f k d (λe=>b (by rw [if_pos e.symm])) (λe=>c (by rw [if_pos e.symm]))).trans (g k d (λe=>b ?_) (λe=>c ?_))
 . split
   . rfl
   . exact e
 . split
   . rfl
   . exact e
def dR (h:PT w0 p v0 D w) (i:Nat):PT w0 p v0 (fI D i) w:=rV h i ⟨TV _,rfl,rfl,rfl⟩ (λ_ _ _ _=>rfl)
def pR (h:PT w0 p v0 D w) (i:Nat) (o:Obj):PT w0 p v0 (fI D i) (w.alloc o):=
 rV h i ⟨by simp,rfl,rfl,rfl⟩ (λk a _ _=>Ux _ _ _ (TZ a h.2.1))
theorem D5 (hx:RNa=ops) (km:nb<=1000000) (B:k<=1000) (V:w.ownsRow (p+1) 101 4 v0 k xs)
 (W:w.heap[p]?=ZX (Z4 #[v0,Z7 Z9 (-1)] 97 (0,0))) (ko:a.tmps.size=29) (e5:a.eval (Z1 5)=Z6 (ZX ⟨p,0,ZY⟩)) (Z:a.eval (Z1 1)=Z7 Z9 nb)
 (hQ:∀ (w':ZU) (vs:List ZT) (O:ZT) (q:Nat×Nat),vs.length=16->w.heap.size<=q.1->w.heap.size<=q.2->w'.ownsRow (p+1) 101 4 O (k+1) (xs++dK nb q)->rq w' q.1 nb->tF w' q.2 nb->w'.heap[p]?=ZX (Z4 #[O,Z7 Z9 (-1)] 97 (0,0)) ->
  aa (λj=>j=p\/v0.ownBlock=ZX j) w w'->Q .normal (Act.RR a 11 vs) w'):(Code.region 4 ops ZW).wp ZO Q a w:=by
 subst hx;have X:p<w.heap.size:=(TX.1 W).1;have n1:¬ (nb:Int)<0:=by omega
 obtain ⟨ib,kh,k9,k8,k7⟩:=Us Tryz.zeroBlk;obtain ⟨ic,ki,kc,kb,ka⟩:=Us Tryz.S9;obtain ⟨id,U,kg,kf,ke⟩:=Us Tryz.Th;refine fw (by kernel_rfl) Hs a w (by omega) (Nt w p nb v0 xs k) (PT w p v0) ⟨λ_ _ _ _=>rfl,TV _,rfl,rfl,rfl⟩ ?_ ?_
 . intro i G;match i,G with
   | 0,_=>exact λo f w' D C ho m B y z l d h=>af (ag ho ((B.slot 5 (by omega)).trans e5) w') m ⟨dR d _,rfl,kq⟩
   | 1,_=>exact λo f w' D C ho m B y z l d h=>af (ag ho ((B.slot 5 (by omega)).trans e5) w') m ⟨dR d _,rfl,kq⟩
   | 2,_=>
    intro o f w' D C ho m B y z l d h;have u0:f.eval (Z1 12)=Z6 (ZX ⟨p,0,ZY⟩):=h 1 (l 1 (by decide));exact af (fQ ho u0 w') m ⟨dR d _,rfl,kq⟩
   | 3,_=>
    intro o f w' D C ho m B y z l d h;have u0:f.eval (Z1 13)=Z6 (ZX ⟨p,0,ZY⟩):=h 2 (l 2 (by decide));exact af (v:=Z6 (ZX ⟨p,0,ZY⟩)) (by (conv at ho=>rhs;whnf);simp only [execOp,ho,u0];go_simp) m ⟨dR d _,rfl,kq⟩
   | 4,_=>
    intro o f w' D C ho m B y z l d h;have u0:f.eval (Z1 14)=Z6 (ZX ⟨p,0,ZY⟩):=h 3 (l 3 (by decide));have hv:D 13=ZV:=by
     cases q:D 13 with
     | false=>rfl
     | true=>have:=(z 13 q).2 4 (by decide);rw [y] at this;cases this
    have S:D 16=ZV:=by
     cases q:D 16 with
     | false=>rfl
     | true=>have:=(z 16 q).2 4 (by decide);rw [y] at this;cases this
    have c:w'.cell? ⟨p,0,ZY⟩=ZX v0:=by
     have:=(d.1 p X (λq=>by rw [hv] at q;cases q) (λq=>by rw [S] at q;cases q)).trans W;simp [World.cell?,this]
    exact af (v:=v0) (by (conv at ho=>rhs;whnf);simp only [execOp,ho,u0];go_simp) m ⟨dR d _,rfl,kq⟩
   | 5,_=>exact λo f w' D C ho m B y z l d h=>af (ag ho ((B.slot 1 (by omega)).trans Z) w') m ⟨dR d _,rfl,kq⟩
   | 6,_=>
    intro o f w' D C ho m B y z l d h;have u0:f.eval (Z1 16)=Z7 Z9 nb:=h 5 (l 5 (by decide));exact af (v:=Z7 Z9 nb) (by have:=sG (P:=ZO) (s:=Z1 16) (t:=.const (Z7 Z9 0)) ho u0 rfl w';rwa [if_neg (show ¬ (0:Int)>(nb:Int) by omega)] at this) m ⟨dR d _,rfl,kq⟩
   | 7,_=>
    intro o f w' D C ho m B y z l d h;have u0:f.eval (Z1 17)=Z7 Z9 nb:=h 6 (l 6 (by decide));have R:=run_make (P:=ZO) w' 98 105 ib (.agg (az zb)) underlying98 kh k9 .i64 .i64 nb nb (by omega) (Int.le_refl _) (by rw [k7];omega) (by omega);rw [k8,Vy] at R;refine af (v:=Z5 (ZX ⟨w'.heap.size,0,ZY⟩) nb nb) (w':=w'.alloc (Z4 (madeCells (az zb) (nb*64)) 105)) (by (conv at ho=>rhs;whnf);simp [execOp,ho,u0,R,Value.cells]) m ⟨pR d _ _,⟨_,d.2.1,rfl,KQ w' nb⟩,λj u A q=>?_⟩;refine lJ (λb _ J=>Ux _ _ _ J) j u ⟨λe=>?_,λe=>?_⟩ q
    . subst e;have:=(z 13 A).2 12 (by decide);have:=(z 12 this).2 11 (by decide);have:=(z 11 this).2 7 (by decide);rw [y] at this;cases this
    . subst e;have:=(z 16 A).2 7 (by decide);rw [y] at this;cases this
   | 8,_=>exact λo f w' D C ho m B y z l d h=>af (ag ho ((B.slot 1 (by omega)).trans Z) w') m ⟨dR d _,rfl,kq⟩
   | 9,_=>
    intro o f w' D C ho m B y z l d h;have u0:f.eval (Z1 19)=Z7 Z9 nb:=h 8 (l 8 (by decide));exact af (v:=Z7 Z9 nb) (by have:=sG (P:=ZO) (s:=Z1 19) (t:=.const (Z7 Z9 0)) ho u0 rfl w';rwa [if_neg (show ¬ (0:Int)>(nb:Int) by omega)] at this) m ⟨dR d _,rfl,kq⟩
   | 10,_=>
    intro o f w' D C ho m B y z l d h;have u0:f.eval (Z1 20)=Z7 Z9 nb:=h 9 (l 9 (by decide));have R:=run_make (P:=ZO) w' 99 4 ic (Z2 ZV) underlying99 ki kc .i64 .i64 nb nb (by omega) (Int.le_refl _) (by rw [ka];omega) (by omega);rw [kb,Vy,VW] at R;refine af (v:=Z5 (ZX ⟨w'.heap.size,0,ZY⟩) nb nb) (w':=w'.alloc (Z4 (madeCells #[Z2 ZV] nb) 4)) (by (conv at ho=>rhs;whnf);simp [execOp,ho,u0,R,Value.cells]) m ⟨pR d _ _,⟨_,d.2.1,rfl,Xc w' (Z2 ZV) nb _⟩,λj u A q=>?_⟩;refine lJ (λb _ J=>Ux _ _ _ J) j u ⟨λe=>?_,λe=>?_⟩ q
    . subst e;have:=(z 13 A).2 12 (by decide);have:=(z 12 this).2 11 (by decide);have:=(z 11 this).2 10 (by decide);rw [y] at this;cases this
    . subst e;have:=(z 16 A).2 10 (by decide);rw [y] at this;cases this
   | 11,_=>
    intro o f w' D C ho m B y z l d h;obtain ⟨b1,E,u0,H⟩:Nt w p nb v0 xs k 7 (f.eval (Z1 18)) w':=h 7 (l 7 (by decide));obtain ⟨b2,F,u1,I⟩:Nt w p nb v0 xs k 10 (f.eval (Z1 21)) w':=h 10 (l 10 (by decide));exact af (v:=.agg (dK nb (b1,b2)).toArray) (by (conv at ho=>rhs;whnf);simp only [execOp,ho,Vr,Uu,UY,u0,u1,dK];go_simp) m ⟨dR d _,⟨(b1,b2),E,F,rfl,H,I⟩,kq⟩
   | 12,_=>
    intro o f w' D C ho m B y z l d h;obtain ⟨q,E,F,u0,H,I⟩:Nt w p nb v0 xs k 11 (f.eval (Z1 22)) w':=h 11 (l 11 (by decide));refine af (v:=Z5 (ZX ⟨w'.heap.size,0,ZY⟩) 1 1) (w':=w'.alloc (Z4 (dK nb q).toArray 101)) (by (conv at ho=>rhs;whnf);simp only [execOp,ho,Vr,Uu,UY,u0,dK];go_simp) m ⟨pR d _ _,⟨_,q,d.2.1,E,F,rfl,Uc _ _,H.alloc _,I.alloc _⟩,λj u A r=>?_⟩;refine lJ (λb _ J=>Ux _ _ _ J) j u ⟨λe=>?_,λe=>?_⟩ r
    . subst e;have:=(z 13 A).2 12 (by decide);rw [y] at this;cases this
    . subst e;have:=(z 16 A).2 12 (by decide);rw [y] at this;cases this
   | 13,_=>
    intro o f w' D C ho m hz y z l d h;have u0:f.eval (Z1 15)=v0:=h 4 (l 4 (by decide));obtain ⟨c,q,q0,E,F,u1,hc,H,I⟩:Nt w p nb v0 xs k 12 (f.eval (Z1 23)) w':=h 12 (l 12 (by decide));have S:D 16=ZV:=by
     cases q:D 16 with
     | false=>rfl
     | true=>have:=(z 16 q).2 13 (by decide);rw [y] at this;cases this
    have L:w'.ownsRow (p+1) 101 4 v0 k xs:=V.kept (row:=ZY) ⟨d.2.2.1,d.2.2.2.1,d.2.2.2.2,d.2.1,λj A _=>d.1 j A (λq=>by rw [y] at q;cases q) (λq=>by rw [S] at q;cases q)⟩ (by cases v0.ownBlock<;>simp);refine wp_append_own w' (Z1 15) (Z1 23) 95 ho (p+1) 101 id _ 4 64 underlying95 U kg kf ke rfl (by decide) v0 k xs u0 L ⟨c,0,ZY⟩ 1 1 (dK nb q) u1 rfl (λj u A=>?_) (λu N=>?_) (by simp [maxLen];omega) (by omega) (TW X d.2.1) ?_
    . rw [jD];simp only [World.cell?,hc];simpa using A
    . simp [dK] at N;rcases N with rfl|rfl|rfl|rfl<;>rfl
    . intro O Y kj M _;have K:∀ b,w.heap.size<=b->b<w'.heap.size->Y.heap[b]?=w'.heap[b]?:=λb J k6=>M.block b k6 (λe=>by have:=(V.lt b e.symm).2;omega);refine ⟨O,rfl,λe=>(by rw [m] at e;cases e),rV d 13 ⟨M.size,M.os,M.tape,M.output⟩ (λj A k0 _=>M.block j (TZ A d.2.1) (λe=>k0 rfl e.symm)),⟨q,E,F,kj,Vv H (K _ E H.lt),Vv I (K _ F I.lt)⟩,λj u A r=>lJ K j u ⟨λe=>(by subst e;rw [y] at A;cases A),λe=>(by subst e;rw [S] at A;cases A)⟩ r⟩
   | 14,_=>
    intro o f w' D C ho m B y z l d h;have u0:f.eval (Z1 11)=Z6 (ZX ⟨p,0,ZY⟩):=h 0 (l 0 (by decide));exact af (fQ ho u0 w') m ⟨dR d _,rfl,kq⟩
   | 15,_=>
    intro o f w' D C ho m B y z l d h;have u0:f.eval (Z1 25)=Z6 (ZX ⟨p,0,ZY⟩):=h 14 (l 14 (by decide));exact af (v:=Z6 (ZX ⟨p,0,ZY⟩)) (by (conv at ho=>rhs;whnf);simp only [execOp,ho,u0];go_simp) m ⟨dR d _,rfl,kq⟩
   | 16,_=>
    intro o f w' D C ho m B y z l d h;have u0:f.eval (Z1 26)=Z6 (ZX ⟨p,0,ZY⟩):=h 15 (l 15 (by decide));obtain ⟨q,E,F,L,H,I⟩:Nt w p nb v0 xs k 13 (f.eval (Z1 24)) w':=h 13 (l 13 (by decide));have T:w'.heap[p]?=ZX (Z4 #[v0,Z7 Z9 (-1)] 97 (0,0)):=(d.1 p X (λ_ e=>by have:=(V.lt p e).1;omega) (λq=>by rw [y] at q;cases q)).trans W;obtain ⟨u,N⟩:=nM (f.eval (Z1 24));have c:w'.cell? ⟨p,0,ZY⟩=ZX v0:=(by simp [World.cell?,T]);have fz:w'.frozen? ⟨p,0,ZY⟩=ZV:=(by simp [World.frozen?,T]);rw [N] at L;obtain ⟨so,sl,sc,kk⟩:∃ so sl sc,u=.slice so sl sc:=by
     rcases L.2 with ⟨e,_⟩|⟨g,cap,cur,e,_⟩
     . exact ⟨_,_,_,e⟩
     . exact ⟨_,_,_,e⟩
    refine ig (w':=w'.setCell ⟨p,0,ZY⟩ u) (by rw [kk] at N ⊢;(conv at ho=>rhs;whnf);simp only [execOp,ho,u0,N];go_simp) ⟨rV d 16 ⟨by simp [World.setCell],rfl,rfl,rfl⟩ (λj _ _ k5=>Ud _ _ _ _ (k5 rfl)),?_,λj x A r=>?_⟩
    . refine ⟨u,q,by simp [World.setCell,VH,T],E,F,L.kept (row:=ZX p) ⟨rfl,rfl,rfl,by simp [World.setCell],λi _ G=>Ud _ _ _ _ (λe=>G (by rw [e]))⟩ (.inr λe=>by have:=(L.lt p e).1;omega),Vv H (Ud _ _ _ _ (by show q.1≠p;omega)),Vv I (Ud _ _ _ _ (by show q.2≠p;omega))⟩
    have K:∀ b,w.heap.size<=b->b<w'.heap.size->(w'.setCell ⟨p,0,ZY⟩ u).heap[b]?=w'.heap[b]?:=λb J _=>Ud _ _ _ _ (by show b≠p;omega);by_cases e:j=13
    . subst e;obtain ⟨q,E,F,r1,r2,r3⟩:=r;refine ⟨q,E,F,r1.kept (row:=ZX p) ⟨rfl,rfl,rfl,by simp [World.setCell],λi _ G=>Ud _ _ _ _ (λe=>G (by rw [e]))⟩ (.inr λe=>by have:=(r1.lt p e).1;omega),Vv r2 (K _ E r2.lt),Vv r3 (K _ F r3.lt)⟩
    . exact lJ K j x ⟨e,λe=>(by subst e;rw [y] at A;cases A)⟩ r
   | n+17,hn=>exact absurd hn (by show ¬ n+17<17;omega)
 . rintro f w' hz ⟨D,hD,d⟩ h;obtain ⟨O,q,h1,h2,h3,h4,h5,h6⟩:Nt w p nb v0 xs k 16 ZZ w':=h 16 (by decide);have e:f=Act.RR a 11 ((YE 16).map λi=>f.eval (.tmp (11+i))):=hz.out _ (by rw [T7,UC]) (by omega) (λi G=>by
    rw [T7,UC] at G;rw [T5,Un,Vw G];rfl)
   rw [e];refine hQ w' _ O q (by rw [T7,UC]) h2 h3 h4 h5 h6 h1 ⟨d.2.2.1,d.2.2.2.1,d.2.2.2.2,d.2.1,λj A hs=>d.1 j A (λ_ e=>hs (.inr e)) (λ_ e=>hs (.inl e))⟩
def PU (w:ZU) (p nb k:Nat) (L:List (Nat×Nat)) (v:ZT) (wr:ZU):Prop:=
 L.length=k/\wr.heap[p]?=ZX (Z4 #[v,Z7 Z9 (-1)] 97 (0,0))/\wr.ownsRow (p+1) 101 4 v k (ox nb L)/\(∀ q∈L,(p<q.1/\p<q.2)/\rq wr q.1 nb/\tF wr q.2 nb)/\(L.map (λq=>q.1)).Nodup/\(L.map (λq=>q.2)).Nodup/\Below p w wr
def NaR (w:ZU) (p nb n:Nat) (i:ZT) (wr:ZU):Prop:=∃ k L v,k<=n/\i=Z7 Z9 (k:Nat)/\PU w p nb k L v wr
def FG {m:Nat} (h:w.ownsRow base 101 4 v n xs) (j:w.rowIs b t m f) (l:t≠101):v.ownBlock≠ZX b:=by
 intro e;rcases h.2 with ⟨i,_⟩|⟨g,cap,cur,d,o,a,p⟩
 . rw [i] at e;simp [Value.ownBlock] at e
 . rw [d] at e;simp [Value.ownBlock] at e;subst e;obtain ⟨c,k,_⟩:=j;rw [k] at a;simp at a;exact l a.2
def tG {l:a8} (h:l.Nodup) (a:∀ x∈l,x<b) (c:Nat) (g:b<=c):(l++[c]).Nodup:=by
 rw [UU];refine ⟨h,by simp,λx d y f e=>?_⟩;simp at f;have:=a x d;omega
def PU.next {L:List (Nat×Nat)} {v':ZT} {q:Nat×Nat} (h:PU w p nb k L v wr) (z:wr.heap.size<=q.1) (A:wr.heap.size<=q.2) (ho:w'.ownsRow (p+1) 101 4 v' (k+1) (ox nb L++dK nb q))
 (B:rq w' q.1 nb) (C:tF w' q.2 nb) (u:w'.heap[p]?=ZX (Z4 #[v',Z7 Z9 (-1)] 97 (0,0))) (b:aa (λj=>j=p\/v.ownBlock=ZX j) wr w'):PU w p nb (k+1) (L++[q]) v' w':=by
 obtain ⟨n,o,i,d,r,s,c⟩:=h;have:p<wr.heap.size:=(TX.1 o).1;have m:∀ x∈L,rq w' x.1 nb/\tF w' x.2 nb:=λx a=>by
  obtain ⟨⟨D,E⟩,f,g⟩:=d x a;refine ⟨Vv f (b.block _ f.lt ?_),Vv g (b.block _ g.lt ?_)⟩
  . rintro (e|e)
    . omega
    . exact FG i f (by decide) e
  . rintro (e|e)
    . omega
    . exact FG i g (by decide) e
 refine ⟨by simp [n],u,?_,λx a=>?_,?_,?_,⟨b.os.trans c.os,b.tape.trans c.tape,b.output.trans c.output,TW c.size b.size,λj t=>(b.block j (by omega) (λe=>?_)).trans (c.block j t)⟩⟩
 . have e:ox nb (L++[q])=ox nb L++dK nb q:=(by simp [ox]);rw [e];exact ho
 . rcases Uf.1 a with a|a
   . exact ⟨(d x a).1,m x a⟩
   . simp at a;subst a;exact ⟨⟨by omega,by omega⟩,B,C⟩
 . rw [Uw];exact tG r (λx a=>by obtain ⟨y,l,rfl⟩:=T6.1 a;exact (d y l).2.1.lt) _ z
 . rw [Uw];exact tG s (λx a=>by obtain ⟨y,l,rfl⟩:=T6.1 a;exact (d y l).2.2.lt) _ A
 . rcases e with e|e
   . omega
   . have:=(i.lt j e).1;omega
def KR (n nb:Nat) (w:ZU) (e:Ending) (w':ZU):Prop:=e=Z3 (Z6 (ZX ⟨w.heap.size,0,ZY⟩))/\bW w w'/\∃ F:aR,ah w' w.heap.size (tE n nb) F/\∀ k,F.S k->w.heap.size<=k
def BH (nb:Nat):∀ (L:List (Nat×Nat)) (i:Nat),i<L.length->(ox nb L)[i*4]?=ZX (Z2 ZV)/\(ox nb L)[i*4+1]?=ZX (Z5 (ZX ⟨(L.getD i (0,0)).1,0,ZY⟩) nb nb)/\(ox nb L)[i*4+2]?=ZX (Z5 (ZX ⟨(L.getD i (0,0)).2,0,ZY⟩) nb nb)/\(ox nb L)[i*4+3]?=ZX (Z7 Z9 0)
 | [],i,h=>absurd h (by simp)
 | q::L,0,_=>⟨rfl,rfl,rfl,rfl⟩
 | q::L,i+1,h=>by
  have e:ox nb (q::L)=dK nb q++ox nb L:=by simp [ox]
  have ih:=BH nb L i (by simpa using h);have a:∀ j,(dK nb q++ox nb L)[(i+1)*4+j]?=(ox nb L)[i*4+j]?:=λj=>by
   rw [U3 (by simp [dK];omega),show (i+1)*4+j-(dK nb q).length=i*4+j by simp [dK];omega]
  rw [e];exact ⟨(a 0).trans ih.1,(a 1).trans ih.2.1,(a 2).trans ih.2.2.1,(a 3).trans ih.2.2.2⟩
def BI {l:a8} (h:l.Nodup) {i j:Nat} (a:i<l.length) (b:j<l.length) (e:l[i]=l[j]):i=j:=(List.getElem_inj h).1 e
theorem PU.post {L:List (Nat×Nat)} (h:PU w w.heap.size nb n L v wr) (hn:0<n) (B:n<=1000) (C:nb<=1000000):KR n nb w (Z3 (Z6 (ZX ⟨w.heap.size,0,ZY⟩))) wr:=by
 obtain ⟨b,t,u,f,y,z,A⟩:=h;refine ⟨rfl,A,?_⟩;rcases u.2 with ⟨rfl,I⟩|⟨g,cap,cur,rfl,c,r,F,G,H,s⟩
 . omega
 . have l:∀ i,i<n->(L.getD i (0,0))∈L:=λi a=>by
    rw [T5,Ua (show i<L.length by omega)];exact T4 _
   refine ⟨⟨g,cap,λi=>(L.getD i (0,0)).1,λi=>(L.getD i (0,0)).2,λk=>k=w.heap.size\/k=g\/∃ i,i<n/\(k=(L.getD i (0,0)).1\/k=(L.getD i (0,0)).2)⟩,⟨t,⟨cur,r,λi a=>?_⟩,λi a=>?_,λi a=>?_,λi j a d=>⟨λe=>?_,λe=>?_⟩,λk=>Iff.rfl,B,C,λ_ _=>⟨bR,λx D=>by have:=VG D;omega⟩⟩,?_⟩
   . have q:=BH nb L i (by rw [b];exact a);have:i<n:=a;rw [<- s] at q;simp only [VF (show i*4<n*4 by omega),VF (show i*4+1<n*4 by omega),VF (show i*4+2<n*4 by omega),VF (show i*4+3<n*4 by omega),Yt] at q;exact ⟨q.1,q.2.1,q.2.2.1,_,q.2.2.2⟩
   . refine World.rowIs.congr (f _ (l i a)).2.1 λj d=>?_;show Value.int .u8 0=Value.int .u8 ((zb.getD (j%64) 0:Nat):Int);have E:zb.getD (j%64) 0=0:=by
      unfold zb;rw [T5,Wq];split<;>rfl
     rw [E];rfl
   . exact (f _ (l i a)).2.2
   . have p:i<(L.map (λq=>q.1)).length:=(by rw [T7,b];exact a);have c:j<(L.map (λq=>q.1)).length:=(by rw [T7,b];exact d);refine BI y p c ?_;have m:i<L.length:=(by rw [b];exact a);have o:j<L.length:=(by rw [b];exact d);simpa [m,o] using e
   . have p:i<(L.map (λq=>q.2)).length:=(by rw [T7,b];exact a);have c:j<(L.map (λq=>q.2)).length:=(by rw [T7,b];exact d);refine BI z p c ?_;have m:i<L.length:=(by rw [b];exact a);have o:j<L.length:=(by rw [b];exact d);simpa [m,o] using e
   . rintro k (rfl|rfl|⟨i,a,rfl|rfl⟩)
     . exact TV _
     . exact Nat.le_of_succ_le c
     . exact Nat.le_of_lt (f _ (l i a)).1.1
     . exact Nat.le_of_lt (f _ (l i a)).1.2
def PV {vs:List ZT} (h:vs.length=16):∃ a b c d e f g i j k l m n o p q,vs=[a,b,c,d,e,f,g,i,j,k,l,m,n,o,p,q]:=by
 match vs,h with
 | [a,b,c,d,e,f,g,i,j,k,l,m,n,o,p,q],_=>exact ⟨_,_,_,_,_,_,_,_,_,_,_,_,_,_,_,_,rfl⟩
theorem oy (n nb:Nat) (w:ZU) (t:0<n) (hn:n<=1000) (d:nb<=1000000) :
 ZS ZO 14 #[Z7 Z9 n,Z7 Z9 nb] w λe w'=>KR n nb w e w':=by
 go_enter func14,ntmps14;have c:PU w w.heap.size nb 0 [] (Z5 ZY 0 0) (w.alloc (Z4 #[Z5 ZY 0 0,Z7 Z9 (-1)] 97)):=⟨rfl,Uc _ _,UK _ _ _ _,λq u=>(by simp at u),by simp,by simp,bA w _⟩;go_wp2_with fail;go_loopw [9] (λi wr=>NaR w w.heap.size nb n i wr) (λi _=>n-(intOf i).toNat)
 case atStart=>exact ⟨0,[],_,T9 _,rfl,c⟩
 case round=>
  clear c;obtain ⟨k,L,v,y,rfl,b⟩:=hrel;by_cases x:k<n
  . have a:=al b;clear b;go_wp2_with fail;refine D5 (by kernel_rfl) d (by omega) a.out.2.2.1 a.out.2.1 rfl rfl rfl ?_;intro w' A z q f l m ho o p j h;obtain ⟨B,C,D,E,F,G,H,I,J,K,M,N,O,P,Q,R,rfl⟩:=PV f;have g:=a.out.next l m ho o p j h;have r:=al g;clear g ho o p j h a l m f;rename_i hK
    refine hK _ _ ?_;clear hK;simp only [Act.RR];go_wp2;exact ⟨⟨k+1,_,_,by omega,by go_num,r.out⟩,by simp [intOf];omega⟩
  . have s:k=n:=(by omega);subst s;have a:=al b;clear b;go_wp2;go_ret;exact a.out.post t hn d
def PW (n nb:Nat) (w:ZU) (e:Ending) (w':ZU):Prop:=e=Z3 (Z6 (ZX ⟨w.heap.size,0,ZY⟩))/\bW w w'/\∃ F:aR,aB w' w.heap.size (zk n nb) F/\∀ k,F.S k->w.heap.size<=k
def zm (n nb:Nat) (w:ZU) (a:0<n) (hn:n<=1000) (d:nb<=1000000) :
 ZS ZO 14 #[Z7 Z9 n,Z7 Z9 nb] w λe w'=>PW n nb w e w':=by
 refine (oy n nb w a hn d).mono ?_;rintro e w' ⟨b,c,F,f,g⟩;exact ⟨b,c,F,⟨_,f,zl n nb⟩,g⟩
def aO (L:List (ByteArray×ZT)):List ZT:=L.flatMap λq=>[.string q.1,q.2]
def kG (L:List (ByteArray×ZT)):(aO L).length=L.length*2:=by
 induction L with
 | nil=>rfl
 | cons q L ih=>simp only [aO,VE,T8,Uv] at ih ⊢;rw [ih];simp;omega
def tH (L:List (ByteArray×ZT)) (k:Nat) (a:k<L.length):(aO L)[k*2]?=ZX (.string L[k].1)/\(aO L)[k*2+1]?=ZX L[k].2:=by
 induction L generalizing k with
 | nil=>simp at a
 | cons q L ih=>
  have e:aO (q::L)=[.string q.1,q.2]++aO L:=by simp [aO]
  rw [e];cases k with
  | zero=>exact ⟨rfl,rfl⟩
  | succ k=>
   simp at a;obtain ⟨b,c⟩:=ih k a;refine ⟨?_,?_⟩
   . rw [U3 (by simp;omega),show (k+1)*2-[Value.string q.1,q.2].length=k*2 by simp;omega];exact b
   . rw [U3 (by simp;omega),show (k+1)*2+1-[Value.string q.1,q.2].length=k*2+1 by simp;omega];exact c
def jt (L M:List (ByteArray×ZT)):aO (L++M)=aO L++aO M:=by simp [aO]
structure oz (w:ZU) (r base:Nat) (v:ZT) (L:List (ByteArray×ZT)):Prop where
 top:w.heap[r]?=ZX (Z4 #[v] 43 (0,0))
 own:w.ownsRow base 51 2 v L.length (aO L)
def oz.shape (h:oz w r base v L):(v=Z5 ZY 0 0/\L=[])\/∃ g cap,v=Z5 (ZX ⟨g,0,ZY⟩) L.length cap/\base<=g/\L.length<=cap /\
 ∀ k (d:k<L.length),w.cell? ⟨g,k*2,ZY⟩=ZX (.string L[k].1)/\w.cell? ⟨g,k*2+1,ZY⟩=ZX L[k].2:=by
 rcases h.own.2 with ⟨i,j⟩|⟨g,cap,cur,c,e,n,f,o,p,q⟩
 . exact .inl ⟨i,UP j⟩
 . refine .inr ⟨g,cap,c,e,f,λk d=>?_⟩;obtain ⟨l,m⟩:=tH L k d;have:=h.own.cells (g:=g) (by rw [c];rfl);have a:=this _ _ l;have b:=this _ _ m;rw [jD] at a b;exact ⟨a,b⟩
def oz.cell (h:oz w r base v L):w.cell? ⟨r,0,ZY⟩=ZX v/\w.frozen? ⟨r,0,ZY⟩=ZV:=by simp [World.cell?,World.frozen?,h.top]
def FiR (w:ZU) (L:List (ByteArray×ZT)) (name:ByteArray) (i:ZT) (wr:ZU):Prop:=∃ k:Nat,k<=L.length/\i=Z7 Z9 k/\wr=w/\∀ j (hj:j<L.length),j<k->¬ L[j].1.toList=name.toList
theorem jK (h:oz w r base v L) (hl:L.length<=1000000) (name:ByteArray) :
 ZS ZO 39 #[Z6 (ZX ⟨r,0,ZY⟩),.string name] w λe w'=>w'=w/\((∃ k,∃ m:k<L.length,e=Z3 (Z7 Z9 (k:Nat))/\L[k].1.toList=name.toList/\∀ j (a:j<L.length),j<k->¬ L[j].1.toList=name.toList)\/(e=Z3 (Z7 Z9 (-1))/\∀ j (a:j<L.length),¬ L[j].1.toList=name.toList)):=by
 obtain ⟨c0,_⟩:=h.cell;have s:=h.shape;go_enter func39,ntmps39;go_wp2;go_loopw [5] (λi wr=>FiR w L name i wr) (λi _=>L.length-(intOf i).toNat)
 case atStart=>exact ⟨0,T9 _,rfl,rfl,λj _ a=>absurd a (by omega)⟩
 case round=>
  obtain ⟨k,m,rfl,rfl,c⟩:=hrel;rcases s with ⟨rfl,rfl⟩|⟨g,cap,rfl,x,u,n⟩
  . have p:k=0:=(by simpa using m);subst p;clear c;go_wp2;go_ret;exact ⟨rfl,.inr ⟨rfl,λj a=>absurd a (by simp)⟩⟩
  . by_cases l:k<L.length
    . obtain ⟨c1,t⟩:=n k l;have d:=al c;clear c;by_cases b:L[k].1.toList=name.toList
      . have o:(L[k].1.toList==name.toList)=ZW:=(by rw [b];exact beq_self_eq_true _);have f:=al b;clear b;go_wp2;go_ret;exact ⟨rfl,.inl ⟨k,l,rfl,f.out,d.out⟩⟩
      . have o:(L[k].1.toList==name.toList)=ZV:=(by rw [beq_eq_false_iff_ne];exact b);have f:=al b;clear b;go_wp2;refine ⟨⟨k+1,by omega,by go_num,rfl,λj a y=>?_⟩,by simp [intOf];omega⟩;by_cases e:j=k
        . subst e;exact f.out
        . exact d.out j a (by omega)
    . have q:k=L.length:=(by omega);subst q;have d:=al c;clear c;go_wp2;go_ret;exact ⟨rfl,.inr ⟨rfl,λj a=>d.out j a a⟩⟩
def eG (n:ByteArray):Prop:=1<=n.size/\n.size<=16
def Nu (L:List (ByteArray×ZT)) (name:ByteArray) (k:Nat):Prop:=∃ hk:k<L.length,L[k].1.toList=name.toList/\∀ j (hj:j<L.length),j<k->¬ L[j].1.toList=name.toList
def pS (L:List (ByteArray×ZT)) (name:ByteArray):Prop:=∀ j (hj:j<L.length),¬ L[j].1.toList=name.toList
def Nv (L:List (ByteArray×ZT)) (name:ByteArray) (e:Ending):Prop:=
 (¬ eG name/\e=Z3 (Z0 #[Z5 ZY 0 0,Z7 Z9 6]))\/(eG name/\pS L name/\e=Z3 (Z0 #[Z5 ZY 0 0,Z7 Z9 9]))\/(eG name/\∃ k,Nu L name k/\e=Z3 (Z0 #[(L.getD k (ByteArray.empty,ZZ)).2,Z7 Z9 0]))
theorem tI (h:oz w r base v L) (hl:L.length<=1000000) (name:ByteArray) :
 ZS ZO 18 #[Z6 (ZX ⟨r,0,ZY⟩),.string name] w λe w'=>w'=w/\Nv L name e:=by
 obtain ⟨c0,_⟩:=h.cell;have j:=h.shape;have l:=jK h hl name;by_cases p:name.size=0
 . have n0:(name.size:Int)=0:=(by omega);go_enter func18,ntmps18;go_wp2;go_ret2;exact ⟨rfl,.inl ⟨λq=>by have:=q.1;omega,rfl⟩⟩
 . have n0:¬ (name.size:Int)=0:=(by omega);by_cases t:16<name.size
   . have n:(16:Int)<(name.size:Int):=(by omega);go_enter func18,ntmps18;go_wp2;go_ret2;exact ⟨rfl,.inl ⟨λq=>by have:=q.2;omega,rfl⟩⟩
   . have n:¬ (16:Int)<(name.size:Int):=(by omega);have i:eG name:=⟨by omega,by omega⟩;go_enter func18,ntmps18;go_wp2_with fail;refine l.mono ?_;rintro e w' ⟨rfl,m⟩;clear l;rcases m with ⟨k,b,rfl,hn,c⟩|⟨rfl,f⟩
     . rcases j with ⟨rfl,rfl⟩|⟨g,cap,rfl,u,s,d⟩
       . exact absurd b (by simp)
       . obtain ⟨c1,o⟩:=d k b;have a:=au hn c;clear hn c d;go_wp2;go_ret2;exact ⟨rfl,.inr (.inr ⟨i,k,⟨b,a.out.1,a.out.2⟩,by simp [b]⟩)⟩
     . have a:=al f;clear f j;go_wp2;go_ret2;exact ⟨rfl,.inr (.inl ⟨i,a.out,rfl⟩)⟩
def BJ:ZT->Nat
 | .slice _ n _=>n
 | _=>0
def ju (v:ZT):Prop:=∃ ao n c,v=.slice ao n c/\n<=1000000
def bO (L:List (ByteArray×ZT)) (q k:Nat):Nat:=((L.take k).map λo=>BJ o.2/q+1).sum
def lK (L:List (ByteArray×ZT)) (q k:Nat) (a:k<L.length):bO L q (k+1)=bO L q k+(BJ L[k].2/q+1):=by
 unfold bO;rw [U6,Ua a];simp only [Uw,Yd,YG,Uu,UY,Xh,List.sum_nil,VJ]
def oA (L:List (ByteArray×ZT)) (q k:Nat) (h:∀ o∈L,BJ o.2<=1000000) (c:k<=L.length):bO L q k<=k*1000001:=by
 induction k with
 | zero=>simp [bO]
 | succ k ih=>
  rw [lK L q k (by omega)];have:=ih (by omega);have:=h L[k] (T4 _);have:BJ L[k].2/q<=BJ L[k].2:=V2 _ _;omega
def jv (L:List (ByteArray×ZT)) (data:Nat) (more:Int):Nat:=
 let q:=data*44
 if 0<=more then bO L q L.length+(more.toNat/q+1)+2*((L.length+1)*200/q+1) else bO L q L.length+2*(L.length*200/q+1)
def NeR (w:ZU) (L:List (ByteArray×ZT)) (q:Nat) (n i:ZT) (wr:ZU):Prop:=∃ k:Nat,k<=L.length/\n=Z7 Z9 (bO L q k:Nat)/\i=Z7 Z9 k/\wr=w
theorem D6 (h:oz w r base v L) (hl:L.length<=1000) (D:∀ o∈L,ju o.2) (data:Nat) (Y:1<=data) (W:data<=1000) (more:Int) (hh:-1<=more) (hi:more<=1000000) :
 ZS ZO 24 #[Z6 (ZX ⟨r,0,ZY⟩),Z7 Z9 data,Z7 Z9 more] w λe w'=>w'=w/\e=Z3 (Z7 Z9 (jv L data more:Nat)):=by
 obtain ⟨c0,_⟩:=h.cell;have p:=h.shape;have A:∀ o∈L,BJ o.2<=1000000:=λo ho=>by obtain ⟨ao,n,c,e,hn⟩:=D o ho;rw [e];exact hn
 obtain ⟨q,C⟩:∃ q,q=data*44:=⟨_,rfl⟩;have hj:1<=q:=by omega
 have hp:q<=44000:=by omega
 have hr:(data:Int)*44=(q:Int):=by omega
 have x:=al C;clear C;have B:v=Z5 ZY 0 0/\L.length=0\/∃ g cap,v=Z5 (ZX ⟨g,0,ZY⟩) L.length cap:=by
  rcases p with ⟨a,j⟩|⟨g,cap,a,_⟩
  . exact .inl ⟨a,by rw [j];rfl⟩
  . exact .inr ⟨g,cap,a⟩
 obtain ⟨ao,cap,E⟩:∃ ao cap,v=.slice ao L.length cap:=by
  rcases B with ⟨a,j⟩|⟨g,cap,a⟩
  . exact ⟨ZY,0,by rw [a,j]⟩
  . exact ⟨_,_,a⟩
 rw [E] at c0;go_enter func24,ntmps24;go_wp2;go_loopw [8,10] (λn i wr=>NeR w L q n i wr) (λ_ i _=>L.length-(intOf i).toNat)
 case atStart=>exact ⟨0,T9 _,rfl,rfl,rfl⟩
 case round=>
  obtain ⟨k,O,rfl,rfl,rfl⟩:=hrel;by_cases l:k<L.length
  . rcases p with ⟨_,rfl⟩|⟨g,y,t,X,V,z⟩
    . exact absurd l (by simp)
    . rw [E] at t;simp at t;obtain ⟨rfl,rfl⟩:=t;obtain ⟨c1,H⟩:=z k l;obtain ⟨Q,n,R,e,hn⟩:=D L[k] (T4 _);have s:=lK L q k l;have N:=oA L q k A O;rw [e] at H s;have J:(n:Int)/(q:Int)=((n/q:Nat):Int):=(by omega);have T:(n:Int).tdiv (q:Int)=((n/q:Nat):Int):=(by rw [Xk (by omega)];exact J);have Z:n/q<=n:=V2 _ _;have ho:NeR wr L q (Z7 Z9 ((bO L q k+(n/q+1):Nat):Int)) (Z7 Z9 ((k:Int)+1)) wr:=⟨k+1,by omega,by rw [s];rfl,rfl,rfl⟩;have F:=al ho;clear ho s z;generalize bO L q k=S at *;generalize n/q=d at *;go_wp2;have:=F.out;rw [show ((S+(d+1):Nat):Int)=(S:Int)+(d:Int)+1 by omega] at this;exact ⟨this,by simp [intOf];omega⟩
  . have M:k=L.length:=(by omega);subst M;have N:=oA L q L.length A lR;clear p B;by_cases u:0<=more
    . obtain ⟨m,rfl⟩:=Int.eq_ofNat_of_zero_le u;have b:jv L data (m:Int)=bO L q L.length+(m/q+1)+2*((L.length+1)*200/q+1):=by
       unfold jv;rw [if_pos u,<- x.out,Vy]
      have U:(m:Int).tdiv (q:Int)=((m/q:Nat):Int):=(by rw [Xk (by omega)];omega);have K:(((L.length:Int)+1)*200).tdiv (q:Int)=(((L.length+1)*200/q:Nat):Int):=by
       rw [Xk (by omega),show ((L.length:Int)+1)*200=(((L.length+1)*200:Nat):Int) by omega];omega
      have P:m/q<=m:=V2 _ _;have G:(L.length+1)*200/q<=(L.length+1)*200:=V2 _ _;have f:=al b;clear b;generalize bO L q L.length=S at *;generalize m/q=d at *;generalize (L.length+1)*200/q=I at *;go_wp2;go_ret;exact ⟨rfl,by rw [f.out];congr 2⟩
    . have b:jv L data more=bO L q L.length+2*(L.length*200/q+1):=by
       unfold jv;rw [if_neg u,<- x.out]
      have K:((L.length:Int)*200).tdiv (q:Int)=((L.length*200/q:Nat):Int):=by
       rw [Xk (by omega),show (L.length:Int)*200=((L.length*200:Nat):Int) by omega];omega
      have G:L.length*200/q<=L.length*200:=V2 _ _;have f:=al b;clear b;generalize bO L q L.length=S at *;generalize L.length*200/q=I at *;go_wp2;go_ret;exact ⟨rfl,by rw [f.out];congr 2⟩
