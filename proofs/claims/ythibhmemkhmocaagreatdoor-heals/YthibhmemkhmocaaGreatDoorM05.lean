import Derived.Test.YthibhmemkhmocaaGreatDoorM04
import Derived.Sort.QuietIn
import Derived.Sort.QuietTacIn
import Derived.Laws.EntriesVeiled
set_option maxRecDepth 100000
set_option linter.all false
set_option maxHeartbeats 8000000
open Go.IntKind renaming i64 -> Z9, u64 -> Z8
open Go.Value renaming int -> Z7, pointer -> Z6, slice -> Z5, bool -> Z1, tuple -> ZZ
open Go.Obj renaming cells -> Z4
open Go.Ending renaming returned -> Z3
open Go.Operand renaming tmp -> Z0
open Go renaming undef -> ZY, World -> ZT, Value -> ZS, Calls -> ZQ, TypeId -> ZP, Boxed -> ZO
open Option renaming none -> ZX, some -> ZW
open Bool renaming true -> ZV, false -> ZU
open Go.RowKit renaming Below -> ZR
open List renaming range -> YE, replicate -> YI, prefix_refl -> YJ, mem_flatten -> YM, map_singleton -> YN, take_prefix -> YO
open Exists renaming intro -> YF
open Nat renaming reduceAdd -> YG, reduceSub -> YH, pos_of_ne_zero -> YP
open Array renaming size_modify -> YK, getElem_modify_self -> YL
open Go.Proofs.Tryz renaming prog -> ZN
open Go.Proofs.Tryz
namespace Go.Proofs.YthibhmemkhmocaaGreatDoor
def aaK:=@Go.Proofs.Tryz.underlying48
def V0:=@Nat.zero_testBit
def WW:=@Nat.succ_mul
def Yh:=@List.length_pos_iff
def aaL:=@Go.Addr.mk.injEq
def UP:=@Go.Obj.cells.injEq
def Wo:=@List.map_congr_left
def WX:=@of_decide_eq_true
def XK:=@Bool.or_eq_false_iff
def abd:=@Go.World.grownBy_alloc
def abe:=@Go.Proofs.Tryz.underlying215
end Go.Proofs.YthibhmemkhmocaaGreatDoor
namespace Go.Proofs.YthibhmemkhmocaaGreatDoor
open Go.RowKit Go.Deep Go.Shelf Gf
variable {a:Act} {ops:Array Oper} {off:Bool} {C:Ck} {R:Ending->ZT->Prop} {Q:Exit->Act->ZT->Prop} {F:aK} {fn:Func} {regs:Int} {M:List a8} {l ds:a8} {rest:List Oper} {pre:List Sh} {P:List St} {m v p D L G ps ho D' L' G' t f n g B ar nn b0 b q count base lost i size t' f' n' kept n0 k Bg g' cap' gone d r N sp B0 base':Nat} {S:Nat->Prop} {f0:Nat->ZS} {o:Oper} {s:St} {e:ZP} {pg ob u x y:ZS} {w Z W W' w' X w2 Y:ZT}
section
attribute [local go_sem] Oper.semAt_some
def Ho {m':Nat} {P:Program} {l:Nat} {args:Array ZS} (h:YieldAt Fence.wide m P l args w R):YieldAt Fence.wide m' P l args w R:=by
 obtain ⟨fn,tmps,assign,body,a,b⟩:=h;exact ⟨fn,tmps,assign,body,a,wI b⟩
theorem lB (ao:Option Addr) (m c:Nat) (w:ZT) :
 ZQ ZN 109 #[.slice ao m c] w λe w'=>e=Z3 (.func (.func 144) #[] #[Z6 (ZW ⟨w.heap.size,0,ZX⟩)])/\w'=w.alloc (Z4 #[.slice ao m c] 144):=by
 go_enter func109,ntmps109;go_wp2;go_ret;exact ⟨rfl,rfl⟩
theorem lC (ar:Nat) (w:ZT) :
 ZQ ZN 84 #[Z6 (ZW ⟨ar,0,ZX⟩)] w λe w'=>e=Z3 (.func (.func 108) #[] #[Z6 (ZW ⟨w.heap.size,0,ZX⟩)])/\w'=w.alloc (Z4 #[Z6 (ZW ⟨ar,0,ZX⟩)] 103):=by
 go_enter func84,ntmps84;go_wp2;go_ret;exact ⟨rfl,rfl⟩
theorem lD (K:Nat->Prop) (n l b1 ar:Nat) (v D L G t f nn:Nat) (pg ob:ZS) (off:Bool) (P:a8) (os:List Ob) (hv:K b1) (hs:K ar) (J M:a8->ZT->Prop) (hn:∀ pre A B,J pre A->bW A B->J pre B)
 (hY:∀ pre x W,J pre W->pre++[x]<+:P++af os->YieldAt Fence.wide (n-1) ZN l (m7 x) W λe W'=>(e=Z3 (Z1 ZV)/\J (pre++[x]) W'/\eo K W W')\/(e=Z3 (Z1 ZU)/\M (pre++[x]) W'))
 (W:ZT) (a:ZO W b1 103 (Z6 (ZW ⟨ar,0,ZX⟩))) (g:a9 W ar v D L G t f nn pg ob off) (u:bf K W pg P) (s:eO K W ob os) (w:J [] W) :
 CallsIn Fence.wide n ZN 108 #[.func (.yield l) #[] #[],Z6 (ZW ⟨b1,0,ZX⟩)] W λe W'=>(∃ v,e=Z3 v) /\
  ((∃ ys,ys=P++af os/\J ys W')\/(∃ pre,pre<+:P++af os/\M pre W')):=by
 obtain ⟨ao,c,rfl,k0,z⟩:=id u;obtain ⟨c0,_,_,c7,U⟩:=g.cells;have cb:=a.cell;refine Xl func108 rfl trivial ?_ rfl;simp only [ntmps108,UH,UA,UT,YG,YH,Ve,Vf,Vg,Vh,Uq,UX];have H:=a6 a g u s w;clear a g u s w z;gi_wp2;gi_loopw [10] (λp wr=>∃ k:Nat,p=Z7 Z9 (k:Nat)/\k<=P.length/\J (P.take k) wr/\eo K W wr)
  (λp _=>P.length-(intOf p).toNat)
 case atStart=>
  exact ⟨0,rfl,T8 _,H.o.2.2.2.2,eo.refl _ _⟩
 case round=>
  clear c0 c7 U cb;obtain ⟨k,rfl,hk,j,d⟩:=hrel;by_cases r:k<P.length
  . obtain ⟨hb,c',V,_,z⟩:=H.o.2.2.1.keep d;obtain ⟨b,bo,e2,hx,k6,hr⟩:=z (λe=>by rw [e] at r;simp at r);simp only [Vs] at V;obtain ⟨rfl,_,rfl⟩:=V;subst e2;have g1:=hr k r;obtain ⟨y,F⟩:=nM (P[k]);rw [F] at g1;obtain ⟨fn,tmps,assign,body,k5,Z⟩:=hY _ y _ j (by
     have a:=(YO (k+1) P).trans (XQ P (af os));rwa [Vd,Uc r,F] at a)
    unfold m7 at k5;have I:=a5 j d Z F;clear j d Z z hr F;gi_wp2;refine ⟨λh=>(by cases h),I.o.2.2.1.mono ?_⟩;have C:P.take k++[y]=P.take (k+1):=(by rw [Vd,Uc r,I.o.2.2.2];rfl);rintro e W3 (⟨rfl,R,hq⟩|⟨rfl,O⟩)
    . rw [C] at R;have i:=al R (I.o.2.1.trans hq);clear R hq C;gi_wp2;go_roundw
      case rel=>exact ⟨k+1,by go_num,by omega,i.o.1,i.o.2⟩
      case measure=>simp only [intOf];omega
    . rw [C] at O;have i:=ak O;clear O C;gi_wp2;refine Us (XC rfl _ _ _) rfl ?_;exact ⟨⟨_,rfl⟩,.inr ⟨_,(YO (k+1) P).trans (XQ _ _),i.o⟩⟩
  . have hz:k=P.length:=(by omega);subst hz;rw [Vu] at j;obtain ⟨a,g,u,s,w⟩:=H.o;have hg:ZO wr b1 103 (Z6 (ZW ⟨ar,0,ZX⟩)):=(d.2 _ a.lt hv).trans a;have hh:=g.keep (d.2 _ g.lt hs);have Q:=s.keep d;obtain ⟨_,_,_,_,U⟩:=hh.cells;have cb:=hg.cell;obtain ⟨q,m,rfl,hol,_⟩:=id Q;have T:=aE j d Q;clear j d a g u s w hg hh Q;gi_wp2;refine cd (lB q os.length m wr) ?_;rintro e w2 ⟨rfl,rfl⟩;have E:bW wr (wr.alloc (Z4 #[.slice q os.length m] 144)):=bA wr _;have N:(wr.alloc (Z4 #[.slice q os.length m] 144)).cell? ⟨wr.heap.size,0,ZX⟩=ZW (.slice q os.length m):=(Ur wr _ _).cell;obtain ⟨w2,S⟩:=nM (wr.alloc (Z4 #[.slice q os.length m] 144));rw [S] at E N;have hm:=hn _ _ _ T.o.1 E;have hi:=T.o.2.2.keep (eo.RM E);have X:=lu K (n-1) l wr.heap.size (.slice q os.length m) os J M hn (P++af os) (λpre x W1 hj hp=>Ho (hY pre x W1 hj hp)) P (YJ _) w2 N hi hm;have H2:=ak X;clear E N hm hi X;rw [S];clear S;gi_wp2;refine ⟨trivial,λh=>(by cases h),H2.o.mono ?_⟩;rintro e W3 ⟨⟨x,rfl⟩,Y⟩;have i:=ak Y;clear Y;gi_wp2;go_end0
    refine ⟨⟨_,rfl⟩,?_⟩;rcases i.o with h|⟨pre,a,h2⟩
    . exact .inl ⟨_,rfl,h⟩
    . exact .inr ⟨_,(aa8 _).2 a,h2⟩
def pJ (K:Nat->Prop) (n b1 ar v D L G t f nn:Nat) (pg ob:ZS) (off:Bool) (P:a8) (os:List Ob) (m:K b1) (j:K ar) (w:ZT) (c:ZO w b1 103 (Z6 (ZW ⟨ar,0,ZX⟩))) (d:a9 w ar v D L G t f nn pg ob off) (q:bf K w pg P) (o:eO K w ob os) :
 SeqStopsK Fence.wide n ZN 108 #[Z6 (ZW ⟨b1,0,ZX⟩)] m7 (eo K) (λz=>z=P++af os) (λpre=>pre<+:P++af os) (P++af os).length w:=λl J g W b p _ s i=>
 lD K n l b1 ar v D L G t f nn pg ob off P os m j J g (λpre A B h a=>p pre A B ZX h ⟨a.os,a.tape,a.output,a.size,λk u _=>a.block k u⟩ (λr e=>by cases e)) (λpre x W h y=>s pre x W h (Kq y)) W
  ((b.block _ c.lt).trans c) (d.keep (b.block _ d.lt)) (q.keep (eo.RM b)) (o.keep (eo.RM b)) i
def Sn (l:a8):Type:={ x:Nat // x∈l }
def OM {l:a8} (x:Sn l):Array ZS:=m7 x.1
def pK (K:Nat->Prop) (n b1 ar v D L G t f nn:Nat) (pg ob:ZS) (off:Bool) (P:a8) (os:List Ob) (y:K b1) (u:K ar) (w:ZT) (b:ZO w b1 103 (Z6 (ZW ⟨ar,0,ZX⟩))) (p:a9 w ar v D L G t f nn pg ob off) (E:bf K w pg P) (z:eO K w ob os) :
 SeqStopsK Fence.wide n ZN 108 #[Z6 (ZW ⟨b1,0,ZX⟩)] (OM (l:=P++af os)) (eo K) (λa=>a.map (·.1)=P++af os) (λpre=>pre.map (·.1)<+:P++af os) (P++af os).length w:=λl J q W i C _ F s=>by
 refine (lD K n l b1 ar v D L G t f nn pg ob off P os y u (λpre X=>∃ a:List (Sn (P++af os)),a.map (·.1)=pre/\J a X) (λpre X=>∃ a:List (Sn (P++af os)),a.map (·.1)=pre/\q a X)
  (λpre A B ⟨a,e,h⟩ g=>⟨a,e,C a A B ZX h ⟨g.os,g.tape,g.output,g.size,λk I _=>g.block k I⟩ (λr e=>by cases e)⟩) ?_ W
  ((i.block _ b.lt).trans b) (p.keep (i.block _ p.lt)) (E.keep (eo.RM i)) (z.keep (eo.RM i)) ⟨[],rfl,s⟩).mono ?_
 . rintro pre x X ⟨a,rfl,H⟩ j;have m:x∈P++af os:=j.subset (by simp);refine (F a ⟨x,m⟩ X H (by have:=Kq j;rwa [Ue] at this)).mono ?_;rintro e M (⟨b,c,d⟩|⟨b,c⟩)
   . exact .inl ⟨b,⟨a++[⟨x,m⟩],by rw [Uv];rfl,c⟩,d⟩
   . exact .inr ⟨b,⟨a++[⟨x,m⟩],by rw [Uv];rfl,c⟩⟩
 . rintro e X ⟨b,⟨a,rfl,o,c,d⟩|⟨pre,j,o,rfl,d⟩⟩
   . exact ⟨b,.inl ⟨o,c,d⟩⟩
   . exact ⟨b,.inr ⟨o,j,d⟩⟩
end
theorem tP (n m:Nat) (f:n<=5000000000) (c:1<=m/\m<=1000000) (w:ZT):ZQ ZN 140 #[Z7 Z9 n,Z7 Z9 m] w λe w'=>e=Z3 (Z7 Z9 (((n+m-1)/m:Nat):Int))/\w'=w:=by
 obtain ⟨g,h⟩:=c;have a:(((n+m-1)/m:Nat):Int)=((n:Int)+m-1)/(m:Int):=by rw [X3,show ((n+m-1:Nat):Int)=(n:Int)+m-1 by omega]
 have d:Int.tdiv ((n:Int)+m-1) (m:Int)=((n:Int)+m-1)/(m:Int):=XJ (by omega);have b:wrap64 (((n:Int)+m-1)/(m:Int))=((n:Int)+m-1)/(m:Int):=by rw [<- a];exact iA (TV (VP _ _) (by omega))
 rw [a];go_enter func140,ntmps140;go_wp2;go_ret;exact ⟨Uy (λx=>Ending.returned (Z7 Z9 x)) b,rfl⟩
def pgs (D m:Nat):Nat:=max 1 ((m+(D*44-4)-1)/(D*44-4))
theorem ja {a:Nat} (s:a9 w a v D' L' G' t f n pg ob off) (h:bg w v p D L G ps ho) (l:1<=D) (r:D<=1000) (m:Nat) (u:m<=5000000000):ZQ ZN 103 #[Z6 (ZW ⟨a,0,ZX⟩),Z7 Z9 m] w λe w'=>e=Z3 (Z7 Z9 (pgs D m:Nat))/\w'=w:=by
 have c:=tP m (D*44-4) u ⟨by omega,by omega⟩ w;obtain ⟨q,d⟩:=nM ((m+(D*44-4)-1)/(D*44-4));rw [d] at c;have i:pgs D m=max 1 q:=by unfold pgs;rw [d]
 rw [i];have x:∀ b k w,(Builtin.max_ b k #[Z7 Z9 1,Z7 Z9 (q:Nat)]).run ZN w=.ok (Z7 Z9 ((max 1 q:Nat):Int)) w:=λb k w=>by
  rw [qO];by_cases g:(q:Int)>1
  . rw [TT g,Nat.max_eq_right (by omega)]
  . rw [TS g,Nat.max_eq_left (by omega)];rfl
 have j:=j7 s h l r;have H:=al c j;clear c j i d;go_enter func103,ntmps103;go_wp2_with fail;refine H.o.2.mono ?_;rintro e w' ⟨rfl,rfl⟩;generalize ((D*44-4:Nat):Int)=y at *;go_wp2_with fail;refine H.o.1.mono ?_;rintro e w' ⟨rfl,rfl⟩;go_wp2;go_ret;exact ⟨rfl,rfl⟩
theorem jq {A:aB} (d:bg w v p D L G ps ho) (h:az w p A F) (c:0<A.n):ZQ ZN 163 #[Z6 (ZW ⟨v,0,ZX⟩)] w λe w'=>e=Z3 (Z7 Z9 A.nb)/\w'=w:=by
 obtain ⟨c0,_⟩:=d.cells;have f:=h.Sz.2;have a:=tD h c;obtain ⟨nb,b⟩:=nM (A.nb);rw [b] at a f ⊢;clear h c b;go_enter func163,ntmps163;go_wp2_with fail;refine a.mono ?_;rintro e w' ⟨rfl,rfl⟩;go_wp2;go_ret;exact ⟨rfl,rfl⟩
section
attribute [local go_sem] Oper.semAt_some
def jr (nb:Nat) (s:(Nat->Bool)×Bool) (x:Nat):(Nat->Bool)×Bool:=if x<2\/nb<=x\/s.1 x=ZV then (s.1,ZU) else (λj=>if j=x then ZV else s.1 j,s.2)
def tk (nb:Nat) (l:a8):(Nat->Bool)×Bool:=l.foldl (jr nb) (λ_=>ZU,ZV)
def r6 (nb:Nat) (l:a8) (x:Nat):tk nb (l++[x])=jr nb (tk nb l) x:=by simp [tk]
def Tryz.Ta:(ZN.info? 4).map (λi=>(i.zero,i.size,i.bytes))=ZW (ZW (Z1 ZU),1,1):=by kernel_rfl
def pL (w:ZT) {F:Fence} {m:Nat} {ops:Array Oper} {rest:List Oper} {o:Oper} {a:Act} {Q:Exit->Act->ZT->Prop}
 (i:o.guard=ZX) (l c:Operand) (b:o.op=Op.makeSlice 77 l c) (C:Int) (n:Nat) (hl:a.eval l=Z7 Z9 C) (g:a.eval c=Z7 Z9 C) (f:C=(n:Int)) (j:n<=1000000000)
 (hK:∀ w',w'.rowIs w.heap.size 4 n (λ_=>Z1 ZU)->bW w w'->w'.heap.size=w.heap.size+1->wpListIn F m ZN ops Q rest (a.put o.dst (Z5 (ZW ⟨w.heap.size,0,ZX⟩) n n)) w') :
 wpListIn F m ZN ops Q (o::rest) a w:=by
 refine Yf i λK e=>?_;have d:=XT (P:=ZN) 77 4 (Z1 ZU) 1 underlying77 Tryz.Ta rfl .i64 .i64 n (by omega) (by omega) w;subst f;unfold Oper.wpIn;refine ⟨by simp [Oper.about,b],?_⟩;rw [Wg F _ _ (by rw [b];intro c h;cases h)];simp [execOp,b,hl,g,d,Result.andThen];exact e _ _ (hK _ (Xq w _ n _) (bA _ _) (Uh _ _))
structure P4 (w:ZT) (g nb B:Nat) (pre:a8) (X:ZT):Prop where
 row:X.rowIs g 4 nb (λj=>Z1 ((tk nb pre).1 j))
 box:ZO X (g+1) 77 (Z5 (ZW ⟨g,0,ZX⟩) nb nb)
 ok:ZO X (g+1+1) 4 (Z1 (tk nb pre).2)
 below:bW w X
 size:B<=X.heap.size
def P4.own {nb:Nat} (l:g+3<=B) (m:w.heap.size<=B):OwnFrom B (P4 w g nb B):=by
 rintro pre X Y row ⟨f,h,i,c,j⟩ b d;have a:∀ k,k<B->Y.heap[k]?=X.heap[k]?:=λk a=>b.block k (by omega) (λe=>by have:=(d k e.symm).1;omega);exact ⟨f.of_block (a _ (by omega)),(a _ (by omega)).trans h,(a _ (by omega)).trans i,c.grown b c.size (λk e=>by have:=(d k e).1;omega),TV j b.size⟩
def tQ {u:Nat} (f:fn.results=#[.tmp t,.tmp u]) (b:a.defers=[{ target:=.collected D',args:=#[] }]) (hx:a.tmps.getD t ZY=x) (hy:a.tmps.getD u ZY=y)
 (hK:Z.heap[D']?=ZW (.deferred (ZW []))) (hR:R (Z3 (ZZ #[x,y])) (Z.putObj D' (.deferred ZX))):bodyPostM Fence.wide n ZN fn R .ret a Z:=by
 obtain ⟨c,g⟩:=a;simp only at b hx hy;subst b;refine ⟨by simp,.inl ⟨_,_,rfl,Wv hK,?_⟩⟩;refine ⟨ZZ #[x,y],?_,hR⟩;have d:c[t]?.getD ZY=x:=by simpa using hx
 have e:c[u]?.getD ZY=y:=by simpa using hy
 simp [results,f,d,e]
theorem xM {A:aB} (N:a9 w ar v D' L' G' t f nn pg ob off) (hV:bg w v p D L G ps ho) (h:az w p A F) (hn:0<A.n) (P:a8) (os:List Ob) (hP:bf (λk=>k<w.heap.size) w pg P) (hC:eO (λk=>k<w.heap.size) w ob os) :
 ZQ ZN 156 #[Z6 (ZW ⟨ar,0,ZX⟩)] w λe w'=>∃ g,e=Z3 (ZZ #[Z5 (ZW ⟨g,0,ZX⟩) A.nb A.nb,Z1 (tk A.nb (P++af os)).2])/\w.heap.size<=g/\w'.rowIs g 4 A.nb (λj=>Z1 ((tk A.nb (P++af os)).1 j))/\bW w w':=by
 obtain ⟨n,HN⟩:∃ n:Nat,b9 (9<=n):=⟨9,TU _⟩;obtain ⟨c0,_⟩:=N.cells;have Q:=jq hV h hn;have ka:=h.Sz.2;obtain ⟨nb,h7⟩:=nM (A.nb);rw [h7] at Q ka ⊢;clear h7;have C:=a5 N hP hC Q;clear N hP hC Q;refine (Vm (n:=n)).1 ?_;refine Wc func156 rfl trivial ?_ rfl;simp only [ntmps156,UH,UA,UT,YG,YH,Ve,Vf,Vg,Vh,Uq,UX];gi_wp2;refine cd C.o.2.2.2 ?_;rintro e w1 ⟨rfl,rfl⟩;gi_wp2_with (gi_at_make;refine pL _ rfl (Z0 11) (Z0 11) rfl _ nb (by rfl) (by rfl) rfl (by omega) ?_;intro w2 h6 hq J)
 obtain ⟨d,B⟩:=nM ((w2.alloc (Z4 #[Z5 (ZW ⟨w1.heap.size,0,ZX⟩) nb nb] 77)).alloc (Z4 #[Z1 ZV] 4));have k0:d.heap.size=w1.heap.size+3:=by rw [<- B];simp [J]
 have hr:bW w1 d:=by rw [<- B];exact (hq.alloc (by omega) _).alloc (by simp;omega) _
 have hp:d.rowIs w1.heap.size 4 nb (λ_=>Z1 ZU):=by rw [<- B];exact (h6.alloc _).alloc _
 have hg:ZO d (w1.heap.size+1) 77 (Z5 (ZW ⟨w1.heap.size,0,ZX⟩) nb nb):=by
  rw [<- B];have:=Ur w2 77 (Z5 (ZW ⟨w1.heap.size,0,ZX⟩) nb nb);rw [J] at this;exact this.alloc _
 have hm:ZO d (w1.heap.size+1+1) 4 (Z1 ZV):=by
  rw [<- B];have:=Ur (w2.alloc (Z4 #[Z5 (ZW ⟨w1.heap.size,0,ZX⟩) nb nb] 77)) 4 (Z1 ZV);rw [Ul,J] at this;exact this
 rw [B];clear B h6 hq J c0 hV h;refine cd (lC ar d) ?_;rintro e w' ⟨rfl,rfl⟩;have h5:ZO (d.alloc (Z4 #[Z6 (ZW ⟨ar,0,ZX⟩)] 103)) d.heap.size 103 (Z6 (ZW ⟨ar,0,ZX⟩)):=Ur d _ _;have k5:(d.alloc (Z4 #[Z6 (ZW ⟨ar,0,ZX⟩)] 103)).heap.size=d.heap.size+1:=by simp
 have H:P4 w1 w1.heap.size nb (d.heap.size+1) [] (d.alloc (Z4 #[Z6 (ZW ⟨ar,0,ZX⟩)] 103)):=⟨hp.alloc _,hg.alloc _,hm.alloc _,hr.alloc (by omega) _,by omega⟩;obtain ⟨s,hs⟩:=nM (d.alloc (Z4 #[Z6 (ZW ⟨ar,0,ZX⟩)] 103));have I:=a5 h5 H k0 k5;clear h5 H k0 k5 hp hg hm hr;gi_wp2;rw [hs] at I;clear hs;obtain ⟨ke,kf,kg,kh⟩:d.heap.size<=w1.heap.size+3/\w1.heap.size+3<=d.heap.size/\s.heap.size<=d.heap.size+1/\d.heap.size+1<=s.heap.size:=by have:=I.out.2.2;omega
 have H:P4 w1 w1.heap.size nb s.heap.size [] s:=by have:=I.out.2.1;exact ⟨this.row,this.box,this.ok,this.below,TU _⟩
 have O:∀ {v:ZS} {l:a8},bf (λk=>k<w1.heap.size) w1 v l->bf (λk=>k<w1.heap.size\/k=d.heap.size) w1 v l:=λ⟨ao,c,S,T,U⟩=>⟨ao,c,S,T,λhl=>by obtain ⟨b,off,V,Y,Z⟩:=U hl;exact ⟨b,off,V,.inl Y,Z⟩⟩;have k8:=O C.o.2.1;have k6:eO (λk=>k<w1.heap.size\/k=d.heap.size) w1 ob os:=by
  obtain ⟨ao,c,S,T,U⟩:=C.o.2.2.1;refine ⟨ao,c,S,T,λhl=>?_⟩;obtain ⟨b,off,V,Y,Z,r4⟩:=U hl;refine ⟨b,off,V,.inl Y,Z,λi a=>?_⟩;obtain ⟨sv,s1,s2,s3,s4⟩:=r4 i a;exact ⟨sv,s1,s2,s3,O s4⟩
 have M:=H.below;have HI:=ak H;clear H O;refine Wd rfl (by have:=HN.o;omega) (gf:=108) (lb:=#[Z6 (ZW ⟨d.heap.size,0,ZX⟩)]) rfl trivial (U4 func108 (by kernel_rfl) rfl)
  (pJ (λk=>k<w1.heap.size\/k=d.heap.size) (n-1) d.heap.size ar v D' L' G' t f nn pg ob off P os (.inr rfl) (.inl C.o.1.lt) s I.out.1 (C.o.1.keep (M.block _ C.o.1.lt)) (k8.keep (eo.RM M)) (k6.keep (eo.RM M)))
  (λh k=>h.trans k) (λW l o o' hl _ _ _=>⟨by simp [World.putObj],λk _ r=>UO (by rcases r with r|r<;>omega)⟩) (TW _ _) (λ_=>rfl)
  (P4 w1 w1.heap.size nb s.heap.size) (λ_ _ _=>False) (P4.own (by omega) (by omega)) (λ_ _ _ _ _ h _ _=>h.elim) HI.o
  (λx=>{ tmps:=#[Z6 (ZW ⟨ar,0,ZX⟩),ZY,Z5 ZX 0 0,Z1 ZU,Z6 (ZW ⟨w1.heap.size+1,0,ZX⟩),Z6 (ZW ⟨w1.heap.size+1+1,0,ZX⟩),Z7 Z9 (x:Nat),Z6 (ZW ⟨ar,0,ZX⟩),Z6 (ZW ⟨ar,0,ZX⟩),Z6 (ZW ⟨ar,0,ZX⟩),Z6 (ZW ⟨v,0,ZX⟩),Z7 Z9 (nb:Nat),Z5 (ZW ⟨w1.heap.size,0,ZX⟩) nb nb,Z6 (ZW ⟨ar,0,ZX⟩),.func (.func 108) #[] #[Z6 (ZW ⟨d.heap.size,0,ZX⟩)],Z7 Z9 (x:Nat),ZY,ZY,ZY,ZY,ZY,ZY,ZY,ZY,ZY,ZY,ZY,ZY,ZY,ZY,ZY,ZY,ZY,ZY,ZY],defers:=[] }) ?assign ?body ?done ?stop
 case assign=>
  intro l2 x X Kk hK;unfold m7;gi_wp2;exact hK
 case body=>
  rintro l2 pre x X a k9;have c1:=a.box.cell;have c2:=a.ok.cell;have f2:=a.ok.frozen;have E:=ak a;have h1:tk nb (pre++[x])=((tk nb pre).1,ZU)->KeepsFrom s.heap.size X (X.setCell ⟨w1.heap.size+1+1,0,ZX⟩ (Z1 ZU))/\eo (λk=>k<w1.heap.size\/k=d.heap.size) X (X.setCell ⟨w1.heap.size+1+1,0,ZX⟩ (Z1 ZU))/\P4 w1 w1.heap.size nb s.heap.size (pre++[x]) (X.setCell ⟨w1.heap.size+1+1,0,ZX⟩ (Z1 ZU)):=λm=>by
   have a:=E.o;refine ⟨(VY _ _ _).from _,⟨by simp [World.setCell],λk _ r=>Ud _ _ _ _ (by show k≠w1.heap.size+1+1;rcases r with r|r<;>omega)⟩,?_,?_,?_,?_,?_⟩
   . rw [m];exact a.row.of_block (Ud _ _ _ _ (by show w1.heap.size≠w1.heap.size+1+1;omega))
   . exact (Ud _ _ _ _ (by show w1.heap.size+1≠w1.heap.size+1+1;omega)).trans a.box
   . rw [m];exact a.ok.set _
   . exact a.below.setCell (p:=⟨w1.heap.size+1+1,0,ZX⟩) (by show w1.heap.size<=w1.heap.size+1+1;omega) _
   . simpa [World.setCell] using a.size
  have K:=ak h1;clear a h1;by_cases hv:x<2
  . have e1:(x:Int)<2:=(by omega);have m:tk nb (pre++[x])=((tk nb pre).1,ZU):=(by rw [r6];unfold jr;rw [TT (.inl hv)]);have z:=ak m;clear m;gi_wp2;exact K.o z.o
  . have e1:¬ (x:Int)<2:=(by omega);by_cases hy:nb<=x
    . have e2:(x:Int)≥(nb:Int):=(by omega);have m:tk nb (pre++[x])=((tk nb pre).1,ZU):=(by rw [r6];unfold jr;rw [TT (.inr (.inl hy))]);have z:=ak m;clear m;gi_wp2;exact K.o z.o
    . have e2:¬ (x:Int)≥(nb:Int):=(by omega);have kc:x<nb:=(by omega);have c3:=E.o.row.cell (i:=x) kc;have f3:=E.o.row.frozen x;cases h9:(tk nb pre).1 x with
      | true=>
       rw [h9] at c3;have m:tk nb (pre++[x])=((tk nb pre).1,ZU):=(by rw [r6];unfold jr;rw [TT (.inr (.inr h9))]);have z:=ak m;clear m;gi_wp2;exact K.o z.o
      | false=>
       rw [h9] at c3;have m:tk nb (pre++[x])=(λj=>if j=x then ZV else (tk nb pre).1 j,(tk nb pre).2):=by
        rw [r6];unfold jr;rw [TS];rintro (q|q|q)
        . exact hv q
        . exact hy q
        . rw [h9] at q;cases q
       have z:=ak m;clear m;gi_wp2;have m:=z.o;have a:=E.o;refine ⟨(VY _ _ _).from _,⟨by simp [World.setCell],λk _ r=>Ud _ _ _ _ (by show k≠w1.heap.size;rcases r with r|r<;>omega)⟩,?_,?_,?_,?_,?_⟩
       . rw [m];refine (a.row.set x (Z1 ZV)).congr λj hj=>?_;by_cases e:j=x
         . simp [e]
         . simp [e]
       . exact (Ud _ _ _ _ (by show w1.heap.size+1≠w1.heap.size;omega)).trans a.box
       . rw [m];exact (Ud _ _ _ _ (by show w1.heap.size+1+1≠w1.heap.size;omega)).trans a.ok
       . exact a.below.setCell (p:=⟨w1.heap.size,x,ZX⟩) lR _
       . simpa [World.setCell] using a.size
 case done=>
  rintro D1 xs X k7 hz a hK;rw [hz] at a;have c1:=a.box.cell;have c2:=a.ok.cell;have E:=al a hK;clear a hK hz;obtain ⟨tb,R⟩:=nM ((tk nb (P++af os)).2);rw [R] at c2;have HT:=ak R;clear R;gi_wp2;gi_region
  gi_wp2;obtain ⟨a,hK⟩:=E.o;have hh:X.drew.heap[D1]?=ZW (.deferred (ZW [])):=hK;refine tQ (t:=2) (u:=3) (x:=Z5 (ZW ⟨w1.heap.size,0,ZX⟩) nb nb) (y:=Z1 tb) results156 rfl rfl rfl hh ⟨w1.heap.size,by rw [HT.o],TU _,?_,?_⟩
  . exact a.row.of_block (UO (w:=X.drew) (by omega))
  . exact Below.RO a.below.drew (by omega) (T5.1 hh).1 _
 case stop=>
  rintro D1 cc pre X k7 kb hx hK;exact hx.elim
end
section
attribute [local go_sem] Oper.semAt_some
def aZ (T:Nat->Bool) (k:Nat):a8:=(YE k).filter (λj=>decide (2<=j) && !T j)
def pM (T:Nat->Bool):aZ T 2=[]:=by simp [aZ,Vr]
theorem m9 (T:Nat->Bool) (k:Nat):aZ T (k+1)=aZ T k++(if 2<=k/\T k=ZU then [k] else []):=by
 unfold aZ;rw [Vr,Wr];congr 1;by_cases h:2<=k/\T k=ZU
 . rw [TT h];simp [h.1,h.2]
 . rw [TS h];by_cases a:2<=k
   . have:T k=ZV:=by cases q:T k<;>simp_all
     simp [this]
   . simp [a]
def kG (T:Nat->Bool) {k m:Nat} (h:k<=m):aZ T k<+:aZ T m:=by
 induction m with
 | zero=>rw [show k=0 by omega];exact YJ _
 | succ m ih=>
  by_cases e:k=m+1
  . rw [e];exact YJ _
  . rw [m9];exact (ih (by omega)).trans (XQ _ _)
theorem BS (ar:Nat) (w:ZT) :
 ZQ ZN 139 #[Z6 (ZW ⟨ar,0,ZX⟩)] w λe w'=>e=Z3 (.func (.func 171) #[] #[Z6 (ZW ⟨w.heap.size,0,ZX⟩)])/\w'=w.alloc (Z4 #[Z6 (ZW ⟨ar,0,ZX⟩)] 103):=by
 go_enter func139,ntmps139;go_wp2;go_ret;exact ⟨rfl,rfl⟩
def ON (b0:Nat) (W W':ZT):Prop:=W.heap.size<=W'.heap.size/\∀ k o,b0<=k->W.heap[k]?=ZW o->o.isCells=ZV->W'.heap[k]?=ZW o
def ON.trans {a b c:ZT} (h:ON b0 a b) (k:ON b0 b c):ON b0 a c:=⟨TV h.1 k.1,λi o d f e=>k.2 i o d (h.2 i o d f e) e⟩
def ON.row (h:ON b0 W W') {g n:Nat} {t:ZP} {f:Nat->ZS} (d:b0<=g) (b:W.rowIs g t n f):W'.rowIs g t n f:=by
 obtain ⟨c,a,_⟩:=id b;exact b.of_block ((h.2 g _ d a rfl).trans a.symm)
theorem KI {A:aB} (O:a9 W ar v D' L' G' t f nn pg ob off) (U:bg W v p D L G ps ho) (h:az W p A F) (X:0<A.n) (P:a8) (os:List Ob) (R:bf (λk=>k<W.heap.size) W pg P) (Q:eO (λk=>k<W.heap.size) W ob os)
 (n l b1 b0:Nat) (hp:b0<=W.heap.size) (J z:a8->ZT->Prop) (hc:∀ pre A B,J pre A->bW A B->J pre B)
 (s:∀ pre x W,J pre W->pre.length<(aZ (tk A.nb (P++af os)).1 A.nb).length->YieldAt Fence.wide (n-1) ZN l (m7 x) W λe W'=>(e=Z3 (Z1 ZV)/\J (pre++[x]) W'/\ON b0 W W')\/(e=Z3 (Z1 ZU)/\z (pre++[x]) W'))
 (Z:W.cell? ⟨b1,0,ZX⟩=ZW (Z6 (ZW ⟨ar,0,ZX⟩))) (C:J [] W) :
 CallsIn Fence.wide n ZN 171 #[.func (.yield l) #[] #[],Z6 (ZW ⟨b1,0,ZX⟩)] W λe W'=>(∃ v,e=Z3 v) /\
  ((∃ Y,Y=aZ (tk A.nb (P++af os)).1 A.nb/\J Y W')\/(∃ pre,pre<+:aZ (tk A.nb (P++af os)).1 A.nb/\z pre W')):=by
 have q:=xM O U h X P os R Q;have hi:=h.Sz.2;obtain ⟨nb,H⟩:=nM (A.nb);rw [H] at q hi s ⊢;obtain ⟨T,S⟩:=nM (tk nb (P++af os));rw [S] at q s ⊢;obtain ⟨a,tr⟩:=T;simp only at q s ⊢;clear H S O U h X R Q;refine Xl func171 rfl trivial ?_ rfl;simp only [ntmps171,UH,UA,UT,YG,YH,Ve,Vf,Vg,Vh,Uq,UX];gi_wp2;refine cd q ?_;rintro e w1 ⟨g,rfl,hg,b,N⟩;have I:=hc _ _ _ C N;have y:=al b I;clear b N I q C Z;gi_wp2;gi_loopw [5] (λp wr=>∃ k:Nat,p=Z7 Z9 (k:Nat)/\2<=k/\(k<=nb\/k=2)/\J (aZ a k) wr/\wr.rowIs g 4 nb (λj=>Z1 (a j)))
  (λp _=>nb-(intOf p).toNat)
 case atStart=>
  exact ⟨2,rfl,TU _,.inr rfl,by rw [pM];exact y.o.2,y.o.1⟩
 case round=>
  obtain ⟨k,rfl,hf,u,d,b⟩:=hrel;by_cases hh:k<nb
  . have c1:=b.cell (i:=k) hh;cases hm:a k with
    | true=>
     rw [hm] at c1;have c:aZ a (k+1)=aZ a k:=(by rw [m9,TS (by rw [hm];simp),Wm]);rw [<- c] at d;have m:=al d b;clear d b c hm;gi_wp2;refine ⟨λ_ h=>(by cases h),?_⟩;gi_wp2;go_roundw
     case rel=>exact ⟨k+1,by go_num,by omega,.inl (by omega),m.o.1,m.o.2⟩
     case measure=>simp only [intOf];omega
    | false=>
     rw [hm] at c1;have c:aZ a k++[k]=aZ a (k+1):=(by rw [m9,TT ⟨hf,hm⟩]);have V:(aZ a k).length<(aZ a nb).length:=by
      have:=(kG a (show k+1<=nb by omega)).length_le;rw [<- c,Ua] at this;simp at this;omega
     obtain ⟨fn,tmps,assign,body,hj,w⟩:=s _ k _ d V;unfold m7 at hj;rw [c] at w;have m:=al b w;clear d b w c hm V;gi_wp2;refine ⟨λh=>(by cases h),m.o.2.mono ?_⟩;rintro e W3 (⟨rfl,K,M⟩|⟨rfl,E⟩)
     . have r:=al K (M.row (by omega) m.o.1);clear K M;gi_wp2;go_roundw
       case rel=>exact ⟨k+1,by go_num,by omega,.inl (by omega),r.o.1,r.o.2⟩
       case measure=>simp only [intOf];omega
     . have r:=ak E;clear E;gi_wp2;refine Us (XC rfl _ _ _) rfl ?_;exact ⟨⟨_,rfl⟩,.inr ⟨_,kG a (show k+1<=nb by omega),r.o⟩⟩
  . have c:aZ a k=aZ a nb:=by
     rcases u with u|u
     . rw [show k=nb by omega]
     . subst u;rw [pM];exact (List.prefix_nil.1 (by have:=kG a (show nb<=2 by omega);rwa [pM] at this)).symm
    rw [c] at d;have m:=ak d;clear d c b;gi_wp2;go_end0
    exact ⟨⟨_,rfl⟩,.inl ⟨_,rfl,m.o⟩⟩
def Ef {A:aB} (x:a9 w ar v D' L' G' t f nn pg ob off) (y:bg w v p D L G ps ho) (h:az w p A F) (R:0<A.n) (P:a8) (os:List Ob) (M:bf (λk=>k<w.heap.size) w pg P) (I:eO (λk=>k<w.heap.size) w ob os)
 (n b1:Nat) (d:b1<w.heap.size) (E:w.cell? ⟨b1,0,ZX⟩=ZW (Z6 (ZW ⟨ar,0,ZX⟩))) :
 SeqStopsK Fence.wide n ZN 171 #[Z6 (ZW ⟨b1,0,ZX⟩)] m7 (ON w.heap.size) (λY=>Y=aZ (tk A.nb (P++af os)).1 A.nb) (λpre=>pre<+:aZ (tk A.nb (P++af os)).1 A.nb) (aZ (tk A.nb (P++af os)).1 A.nb).length w:=λl J z W a K _ N C=>by
 have u:∀ {v:ZS} {l:a8},bf (λk=>k<w.heap.size) W v l->bf (λk=>k<W.heap.size) W v l:=λ⟨ao,c,g,j,m⟩=>⟨ao,c,g,j,λhl=>by obtain ⟨b,off,o,q,s⟩:=m hl;exact ⟨b,off,o,T7 q a.size,s⟩⟩;have H:eO (λk=>k<W.heap.size) W ob os:=by
  obtain ⟨ao,c,g,j,m⟩:=I.keep (eo.RM a);refine ⟨ao,c,g,j,λhl=>?_⟩;obtain ⟨b,off,o,q,s,S⟩:=m hl;refine ⟨b,off,o,T7 q a.size,s,λi O=>?_⟩;obtain ⟨sv,T,U,V,X⟩:=S i O;exact ⟨sv,T,U,V,u X⟩
 exact KI (x.keep (a.block _ x.lt)) (y.keep (a.block _ y.lt)) (h.below a lR) R P os (u (M.keep (eo.RM a))) H n l b1 w.heap.size a.size J z (λpre A B h d=>K pre A B ZX h ⟨d.os,d.tape,d.output,d.size,λk Q _=>d.block k Q⟩ (λr e=>by cases e)) N ((a.cell (p:=⟨b1,0,ZX⟩) d).trans E) C
end
section
attribute [local go_sem] Oper.semAt_some
def jR (l:a8):List ZS:=l.map λ(x:Nat)=>Value.int .i64 (x:Int)
def Tryz.Sr:(ZN.info? 3).map (λi=>(i.zero,i.size,i.bytes))=ZW (ZW (Z7 Z9 0),1,8):=by kernel_rfl
structure P6 (w:ZT) (q count B:Nat) (pre:a8) (X:ZT):Prop where
 cnt:ZO X w.heap.size 3 (Z7 Z9 (count:Nat))
 box:ZO X q 48 (Z5 (ZW ⟨w.heap.size+1,0,ZX⟩) pre.length count)
 own:X.ownsRow (w.heap.size+1) 3 1 (Z5 (ZW ⟨w.heap.size+1,0,ZX⟩) pre.length count) pre.length (jR pre)
 below:bW w X
 size:B<=X.heap.size
 le:pre.length<=count
def P6.Tf (l:w.heap.size+3<=B) (m:q<B):OwnFrom B (P6 w q count B):=by
 rintro pre X Y row ⟨f,g,h,d,i,j⟩ a c;have b:∀ k,k<B->Y.heap[k]?=X.heap[k]?:=λk b=>a.block k (by omega) (λe=>by have:=(c k e.symm).1;omega);exact ⟨(b _ (by omega)).trans f,(b _ (by omega)).trans g,lx h a λr e=>(c r e).2,d.grown a d.size (λk e=>by have:=(c k e).1;omega),TV i a.size,j⟩
def TaX (w:ZT) (q count B id:Nat) (c:Code) (pre':a8) (X:ZT):Prop:=c=.exit id/\∃ pre x,pre'=pre++[x]/\pre.length=count/\P6 w q count B pre X
def TaX.Tf {id:Nat} (g:w.heap.size+3<=B) (i:q<B) (c:Code):OwnFrom B (TaX w q count B id c):=by
 rintro a X Y row ⟨b,pre,x,d,e,f⟩ h j;exact ⟨b,pre,x,d,e,P6.Tf g i pre X Y row f h j⟩
theorem lE {A:aB} (K:a9 w ar v D' L' G' t f nn pg ob off) (M:bg w v p D L G ps ho) (h:az w p A F) (hn:0<A.n) (P:a8) (os:List Ob) (Q:bf (λk=>k<w.heap.size) w pg P) (O:eO (λk=>k<w.heap.size) w ob os) (count:Nat) (k6:count<=1000000) :
 ZQ ZN 102 #[Z6 (ZW ⟨ar,0,ZX⟩),Z7 Z9 (count:Nat)] w λe w'=>∃ u,e=Z3 (ZZ #[u,Z1 (decide (count<=(aZ (tk A.nb (P++af os)).1 A.nb).length))]) /\
  w'.ownsRow w.heap.size 3 1 u ((aZ (tk A.nb (P++af os)).1 A.nb).take count).length (jR ((aZ (tk A.nb (P++af os)).1 A.nb).take count))/\bW w w':=by
 obtain ⟨n,HN⟩:∃ n:Nat,b9 (9<=n):=⟨9,TU _⟩;have H0:=a6 K M h Q O;clear K M h Q O;refine (Vm (n:=n)).1 ?_;refine Wc func102 rfl trivial ?_ rfl;simp only [ntmps102,UH,UA,UT,YG,YH,Ve,Vf,Vg,Vh,Uq,UX];obtain ⟨i0,kv,qg,q5,qh⟩:=Ut Tryz.Sr;have hq:(w.alloc (Z4 #[Z7 Z9 (count:Int)] 3)).heap.size=w.heap.size+1:=by simp
 have kp:bW w (w.alloc (Z4 #[Z7 Z9 (count:Int)] 3)):=bA w _;have kk:ZO (w.alloc (Z4 #[Z7 Z9 (count:Int)] 3)) w.heap.size 3 (Z7 Z9 (count:Nat)):=Ur w _ _;have z:=aE hq kp kk;clear hq kp kk;gi_wp2_with (gi_at_make;refine wpListIn_make_own _ rfl (.const (Z7 Z9 0)) (Z0 8) 48 rfl (w.heap.size+1) 3 i0 (Z7 Z9 0) 1 aaK kv qg q5 .i64 .i64 _ count (by rfl) (by rfl) rfl (by rw [qh];omega) (by unfold maxLen;omega) (by rw [z.o.1];exact TU _) ?_;intro w2 V hv)
 rw [z.o.1] at V;have ki:=hv.size;rw [z.o.1] at ki;have qi:w.heap.size+1<w2.heap.size:=(V.lt (w.heap.size+1) rfl).2;have hh:bW w w2:=z.o.2.1.grown hv (by rw [z.o.1];omega) (λk e=>by cases e);have h8:ZO w2 w.heap.size 3 (Z7 Z9 (count:Nat)):=(hv.block _ (by rw [z.o.1];omega) (by simp)).trans z.o.2.2;have h2:ZO (w2.alloc (Z4 #[Z5 (ZW ⟨w.heap.size+1,0,ZX⟩) 0 count] 48)) w2.heap.size 48 (Z5 (ZW ⟨w.heap.size+1,0,ZX⟩) 0 count):=Ur w2 _ _;have Y:bW w2 (w2.alloc (Z4 #[Z5 (ZW ⟨w.heap.size+1,0,ZX⟩) 0 count] 48)):=bA w2 _;have hx:(w2.alloc (Z4 #[Z5 (ZW ⟨w.heap.size+1,0,ZX⟩) 0 count] 48)).heap.size=w2.heap.size+1:=by simp
 obtain ⟨d,q0⟩:=nM (w2.alloc (Z4 #[Z5 (ZW ⟨w.heap.size+1,0,ZX⟩) 0 count] 48));rw [q0] at h2 Y hx ⊢;refine cd (BS ar d) ?_;rintro e w' ⟨rfl,rfl⟩;have h5:(d.alloc (Z4 #[Z6 (ZW ⟨ar,0,ZX⟩)] 103)).cell? ⟨d.heap.size,0,ZX⟩=ZW (Z6 (ZW ⟨ar,0,ZX⟩)):=(Ur d _ _).cell;have q6:(d.alloc (Z4 #[Z6 (ZW ⟨ar,0,ZX⟩)] 103)).heap.size=d.heap.size+1:=by simp
 have k0:bW d (d.alloc (Z4 #[Z6 (ZW ⟨ar,0,ZX⟩)] 103)):=bA d _;obtain ⟨g,S⟩:=nM (d.alloc (Z4 #[Z6 (ZW ⟨ar,0,ZX⟩)] 103));have U:bW w2 g:=by rw [<- S];exact Y.trans (k0.mono Y.size)
 have ha:bW w g:=hh.trans (U.mono (by omega));have kx:P6 w w2.heap.size count g.heap.size [] g:=⟨(U.block _ (by omega)).trans h8,by rw [<- S];exact (k0.block _ (by omega)).trans h2,aq V U,ha,TU _,T8 _⟩;have kz:g.heap.size=w2.heap.size+2:=by rw [<- S,q6,hx]
 have R:=a6 h5 kx ha hx kz;clear h5 kx q6 k0 U ha kz h2 Y hx V hv hh h8;gi_wp2;rw [S] at R;clear S q0;obtain ⟨qj,qk,qm,qn⟩:d.heap.size<=w2.heap.size+1/\w2.heap.size+1<=d.heap.size/\g.heap.size<=w2.heap.size+2/\w2.heap.size+2<=g.heap.size:=by have:=R.out.2.2.2;omega
 have C:=R.out.2.2.1;obtain ⟨K,M,h,Q,O⟩:=H0.o;have hz:∀ {v:ZS} {l:a8},bf (λk=>k<w.heap.size) g v l->bf (λk=>k<g.heap.size) g v l:=λ⟨ao,c,q1,q2,q3⟩=>⟨ao,c,q1,q2,λhl=>by obtain ⟨b,off,r1,r2,r3⟩:=q3 hl;exact ⟨b,off,r1,T7 r2 C.size,r3⟩⟩;have ko:=hz (Q.keep (eo.RM C));have km:eO (λk=>k<g.heap.size) g ob os:=by
  obtain ⟨ao,c,q1,q2,q3⟩:=O.keep (eo.RM C);refine ⟨ao,c,q1,q2,λhl=>?_⟩;obtain ⟨b,off,r1,r2,r3,r4⟩:=q3 hl;refine ⟨b,off,r1,T7 r2 C.size,r3,λi a=>?_⟩;obtain ⟨sv,s1,s2,s3,s4⟩:=r4 i a;exact ⟨sv,s1,s2,s3,hz s4⟩
 have ke:=Ef (K.keep (C.block _ K.lt)) (M.keep (C.block _ M.lt)) (h.below C lR) hn P os ko km (n-1) d.heap.size (by omega) R.out.1;obtain ⟨fr,k7⟩:=nM (aZ (tk A.nb (P++af os)).1 A.nb);rw [k7] at ke;have kj:=ak k7;have q9:=ak ke;clear k7 ke ko km hz K M h Q O;refine Wd rfl (by have:=HN.o;omega) (gf:=171) (lb:=#[Z6 (ZW ⟨d.heap.size,0,ZX⟩)]) rfl trivial (U4 func171 (by kernel_rfl) rfl)
  q9.out (λh k=>h.trans k) (λW l o o' hl ho hc _=>⟨by simp [World.putObj],λk o2 _ m ks=>(UO (λe=>by subst e;rw [m] at ho;cases ho;rw [hc] at ks;cases ks)).trans m⟩) (TW _ _) (λ_=>rfl)
  (P6 w w2.heap.size count g.heap.size) (TaX w w2.heap.size count g.heap.size 0) (P6.Tf (by omega) (by omega)) (TaX.Tf (by omega) (by omega)) R.out.2.1
  (λx=>{ tmps:=#[Z6 (ZW ⟨ar,0,ZX⟩),Z7 Z9 (count:Nat),ZY,Z6 (ZW ⟨w.heap.size,0,ZX⟩),Z5 ZX 0 0,Z1 ZU,Z6 (ZW ⟨w2.heap.size,0,ZX⟩),Z7 Z9 (x:Nat),Z7 Z9 (count:Nat),Z5 (ZW ⟨w.heap.size+1,0,ZX⟩) 0 count,Z6 (ZW ⟨ar,0,ZX⟩),.func (.func 171) #[] #[Z6 (ZW ⟨d.heap.size,0,ZX⟩)],Z7 Z9 (x:Nat),ZY,ZY,ZY,ZY,ZY,ZY,ZY,ZY,ZY,ZY,ZY,ZY,ZY],defers:=[] }) ?assign ?body ?done ?stop
 case assign=>
  intro l2 x X Kk hK;unfold m7;gi_wp2;exact hK
 case body=>
  rintro l2 pre x X a qd;have c1:=a.cnt.cell;have I:=a.box.cell;have ka:=a.le;by_cases h3:pre.length=count
  . have e1:((pre.length:Nat):Int)=((count:Nat):Int):=(by omega);have B:=ak a;clear a;rw [h3] at I;gi_wp2;exact ⟨Yg _ _,rfl,pre,x,rfl,h3,B.o⟩
  . have e1:¬ ((pre.length:Nat):Int)=((count:Nat):Int):=(by omega);obtain ⟨pl,H⟩:=nM (pre.length);have HO:b9 ((X.alloc (Z4 #[Z7 Z9 (x:Nat)] 3)).ownsRow (w.heap.size+1) 3 1 (Z5 (ZW ⟨w.heap.size+1,0,ZX⟩) pl count) pl (jR pre)):=ak (by have:=aq a.own ((TW _ X).alloc lR (Z4 #[Z7 Z9 (x:Nat)] 3));rwa [H] at this);have hj:∀ j u,[Value.int .i64 ((x:Nat):Int)][j]?=ZW u->(X.alloc (Z4 #[Z7 Z9 (x:Nat)] 3)).cell? ((⟨X.heap.size,0,ZX⟩:Addr).add j)=ZW u:=nG X (Z7 Z9 (x:Nat)) 3;have q8:=ak hj;have qf:w2.heap.size<X.heap.size:=(by have:=a.size;omega);have B:=al a H;rw [H] at I e1 ka;have kr:ZO X w2.heap.size 48 (Z5 (ZW ⟨w.heap.size+1,0,ZX⟩) pl count):=(by have:=a.box;rwa [H] at this);have q7:=ak kr;clear a hj kr h3 H;gi_wp2_with (
     gi_at_builtin;
     refine wpListIn_append_fits _ rfl (Z0 17) (Z0 19) 48 rfl (w.heap.size+1) 3 i0 1 aaK kv q5 (w.heap.size+1) pl count (jR pre) (by rfl) (by exact HO.o) ⟨X.heap.size,0,ZX⟩ 1 1 [Z7 Z9 (x:Nat)] (by rfl) rfl (by exact q8.out) (λu hu=>by simp at hu;subst hu;rfl) (by omega) ?_;
     intro T hm J;
     have hy:ZO T w2.heap.size 48 (Z5 (ZW ⟨w.heap.size+1,0,ZX⟩) pl count):=(J.block _ (by simp;omega) (λe=>by have:=UM e;omega)).trans ((UB _ _ _ qf).trans q7.out);
     have d0:=hy.cell;
     have f0:=hy.frozen)
    obtain ⟨a,H⟩:=B.o;have Z:∀ k,k<X.heap.size->k≠w.heap.size+1->T.heap[k]?=X.heap[k]?:=λk m qe=>(J.block k (by simp;omega) (λe=>qe (UM e))).trans (UB _ _ _ m);have kf:=J.size;simp only [Ul] at kf;have k8:∀ k,k≠w2.heap.size->(T.setCell ⟨w2.heap.size,0,ZX⟩ (Z5 (ZW ⟨w.heap.size+1,0,ZX⟩) (pl+1) count)).heap[k]?=T.heap[k]?:=λk m=>Ud _ _ _ _ m;have h4:(pre++[x]).length=pl+1:=(by rw [Ua,H];rfl);have k9:jR (pre++[x])=jR pre++[Z7 Z9 (x:Nat)]:=(by unfold jR;rw [Uv];rfl);refine ⟨⟨by simp [World.setCell];omega,λk o m ho _=>?_⟩,⟨by simp [World.setCell];omega,λk o m ho _=>?_⟩,?_,?_,?_,?_,?_,?_⟩
    . exact ((k8 k (by omega)).trans (Z k (T5.1 ho).1 (by omega))).trans ho
    . exact ((k8 k (by omega)).trans (Z k (T5.1 ho).1 (by omega))).trans ho
    . exact ((k8 _ (by omega)).trans (Z _ (by omega) (by omega))).trans a.cnt
    . rw [h4];exact hy.set _
    . rw [h4,k9];exact hm.kept (tE T w2.heap.size 0 _) (.inr λe=>by have q:w.heap.size+1=w2.heap.size:=UM e;omega)
    . refine Xh (p:=⟨w2.heap.size,0,ZX⟩) ?_ (by show w.heap.size<=w2.heap.size;omega) _;exact ⟨J.os.trans a.below.os,J.tape.trans a.below.tape,J.output.trans a.below.output,by have:=a.below.size;omega,λk m=>(Z k (by have:=a.below.size;omega) (by omega)).trans (a.below.block k m)⟩
    . have:=a.size;simp [World.setCell];omega
    . rw [h4];omega
 case done=>
  rintro D1 xs X qa q4 a hK;have kh:xs=fr:=q4;subst kh;have c1:=a.cnt.cell;have I:=a.box.cell;have ka:=a.le;have B:=al a hK;clear a hK q4;obtain ⟨xl,N⟩:=nM (xs.length);rw [N] at I ka;have HL:=ak N;clear N;gi_wp2;gi_region
  gi_wp2;obtain ⟨a,hK⟩:=B.o;have N:=HL.o;have E:X.drew.heap[D1]?=ZW (.deferred (ZW [])):=hK;have kg:xs.take count=xs:=UI (by omega);have qb:decide (count<=xs.length)=(((xl:Nat):Int)==((count:Nat):Int)):=by
   by_cases e:xl=count
   . rw [UY (by omega)];subst e;simp
   . rw [Vc (by omega)];have:¬ ((xl:Nat):Int)=((count:Nat):Int):=by omega
     simp [this]
  rw [kj.out,kg,qb];refine tQ (t:=4) (u:=5) (x:=Z5 (ZW ⟨w.heap.size+1,0,ZX⟩) xl count) (y:=Z1 (((xl:Nat):Int)==((count:Nat):Int))) results102 rfl rfl rfl E ⟨_,rfl,?_,?_⟩
  . have ho:=a.own;rw [N] at ho;have kb:X.drew.ownsRow (w.heap.size+1) 3 1 (Z5 (ZW ⟨w.heap.size+1,0,ZX⟩) xl count) xl (jR xs):=aq ho ((TW _ X).drew);rw [N];exact cU (lx kb (Xc X.drew D1 (.deferred ZX)) λr e=>by cases e;exact ⟨_,E,rfl⟩) (by omega)
  . exact Below.RO a.below.drew (by omega) (T5.1 E).1 _
 case stop=>
  rintro D1 cc pre X qa kc ⟨rfl,s,x,rfl,k5,a⟩ hK;have c1:=a.cnt.cell;have I:=a.box.cell;have B:=al a hK;rw [k5] at I;clear a hK;gi_wp2;gi_region
  gi_wp2;obtain ⟨a,hK⟩:=B.o;have E:X.drew.heap[D1]?=ZW (.deferred (ZW [])):=hK;obtain ⟨rr,ky⟩:=kc;have kg:fr.take count=s:=by rw [<- ky,Uz,VQ (by omega),UI (by omega)]
  have qc:count<=fr.length:=by rw [<- ky];simp;omega
  rw [kj.out,kg,UY qc];refine tQ (t:=4) (u:=5) (x:=Z5 (ZW ⟨w.heap.size+1,0,ZX⟩) count count) (y:=Z1 ZV) results102 rfl rfl rfl E ⟨_,rfl,?_,?_⟩
  . have ho:=a.own;rw [k5] at ho;have kb:X.drew.ownsRow (w.heap.size+1) 3 1 (Z5 (ZW ⟨w.heap.size+1,0,ZX⟩) count count) count (jR s):=aq ho ((TW _ X).drew);rw [k5];exact cU (lx kb (Xc X.drew D1 (.deferred ZX)) λr e=>by cases e;exact ⟨_,E,rfl⟩) (by omega)
  . exact Below.RO a.below.drew (by omega) (T5.1 E).1 _
end
def dg (D L G:Nat) (dl:a8):List a8:=fm (aT D L G) (dV D dl) 44
def lF (D L G:Nat) (dl:a8):(dg D L G dl).length=D+L+G:=by unfold dg fm;rw [Ue,cI]
def Hp {dl:a8} (hl:dl.length<=D*44) (d:1<=D):Re (dV D dl)/\((dV D dl).getD 0 []).length=44:=by
 have a:((dV D dl).getD 0 []).length=44:=by
  have e:(dV D dl).getD 0 []=(dV D dl)[0]'(by rw [dZ];omega):=by simp [dZ,show 0<D by omega]
  rw [e,oe];exact lZ hl (by omega)
 refine ⟨λi c=>?_,a⟩;have b:=c;rw [dZ] at b;unfold Bn;rw [a,oe c,lZ hl b];exact ⟨rfl,by decide⟩
def KJ (w:ZT) (base:Nat) (M:List a8) (u:ZS):Prop:=∃ T,eu w base u T/\cL T 44 M
def qU (c:D<=12) (d:G<=4) (dl:a8) (i:Nat) (a:i<(dg D L G dl).length):((dg D L G dl)[i]).length=44/\∀ x∈(dg D L G dl)[i],x<256:=by
 have b:i<(aT D L G).length:=by rw [cI];rw [lF] at a;exact a
 have e:(dg D L G dl)[i]=cH (aT D L G)[i] (dV D dl) 44 (dV D dl).length:=by simp [dg,fm]
 rw [e];exact ⟨ga _ _ _ _,pf _ _ (oh D L G c d _ (T6 b)) _ _⟩
def KJ.rows (h:KJ w base M u) (v:M≠[]) (r:∀ i (d:i<M.length),M[i].length=44/\∀ x∈M[i],x<256):∃ g c,u=Z5 (ZW ⟨g,0,ZX⟩) M.length c/\ML w base g M:=by
 obtain ⟨T,l,k⟩:=h;have f:T.length=M.length:=by simpa using Uy List.length k
 rcases l.shape with ⟨_,q⟩|⟨g,cap,m,n,D,E,o,p,_,_⟩
 . exact absurd (UU (by rw [<- f,q];rfl)) v
 . refine ⟨g,cap,by rw [m,f],n,o,λi d=>?_⟩;have a:i<T.length:=(by omega);have s:=k.at a d;obtain ⟨A,e,F,G,H⟩:=l.row T[i] (T6 a);have b:=p i a;unfold fx at b;rw [s] at b e;obtain ⟨B,C⟩:=r i d;refine ⟨T[i].1,0,M[i].length,b,A,e.lt,λj u z=>?_,B,C⟩;have y:=e.SJ;have t:(aJ M[i]).toArray[j]?=ZW u:=(by simpa using z);simp [World.cell?,y,t]
def lG {l:Nat} (b:gq D L G lost) (c:∀ i,l.testBit i=ZV->lost.testBit i=ZV):gq D L G l:=wZ _ lost l _ D (λi _ d=>by
 have a:=c i;rw [Wu,Wu,VW,VW] at a;have:=VG (l/2^i);omega) b
def aB.fine (A:aB) (D L G:Nat):Prop:=gq D L G A.sv/\∀ i,i<A.n->A.lost i=ZV->A.sv.testBit i=ZV
def BU {A:aB} {f:Nat->bE} (h:gnB (A.putAt ds b f) m i=ZV):gnB A m i=ZV:=by
 unfold gnB aB.putAt at h;unfold gnB;by_cases e:m=b/\i∈ds
 . simp only [TT e,Bool.or_false] at h;rw [h];rfl
 . simp only [TS e] at h;exact h
def qV {A:aB} {f:Nat->bE} (a:i∈ds) (h:gnB (A.putAt ds b f) b i=ZV):A.lost i=ZV:=by
 simpa [gnB,aB.putAt,a] using h
structure dM (A B:aB):Prop where
 n:B.n=A.n
 nb:B.nb=A.nb
 tn:B.tn=A.tn
 lost:B.lost=A.lost
 sv:B.sv=A.sv
 gn:∀ b i,gnB B b i=ZV->gnB A b i=ZV
def dM.refl (A:aB):dM A A:=⟨rfl,rfl,rfl,rfl,rfl,λ_ _=>id⟩
def dM.trans {A B C:aB} (h:dM A B) (a:dM B C):dM A C:=⟨a.n.trans h.n,a.nb.trans h.nb,a.tn.trans h.tn,a.lost.trans h.lost,a.sv.trans h.sv,λi b c=>h.gn i b (a.gn i b c)⟩
def dM.put (A:aB) (ds:a8) (b:Nat) (f:Nat->bE):dM A (A.putAt ds b f):=⟨rfl,rfl,rfl,rfl,rfl,λ_ _=>BU⟩
def dM.fine {A B:aB} (h:dM A B):A.fine D L G->B.fine D L G:=λq=>⟨h.sv▸q.1,λi a e=>by rw [h.sv];exact q.2 i (h.n▸a) (by rw [<- h.lost];exact e)⟩
structure Rm (A B:aB):Prop where
 n:B.n=A.n
 nb:B.nb=A.nb
 sv:B.sv=A.sv
 gn:∀ b i,gnB B b i=ZV->gnB A b i=ZV\/A.sv.testBit i=ZV
def dM.Tq {A B:aB} (h:dM A B):Rm A B:=⟨h.n,h.nb,h.sv,λb i q=>.inl (h.gn b i q)⟩
theorem jb (q:Nat->Bool) (i:Nat):∀ (l:a8),(jA q l).testBit i=ZV↔i∈l/\q i=ZV:=by
 intro l;suffices ∀ (l:a8) (s:Nat),(l.foldl (λs d=>if q d=ZV then s|||2^d else s) s).testBit i=ZV↔s.testBit i=ZV\/(i∈l/\q i=ZV) by
  have h:=this l 0;rw [V0] at h;unfold jA;rw [h];simp
 intro l;induction l with
 | nil=>intro s;simp
 | cons d l ih=>
  intro s;rw [W4,ih];by_cases b:q d=ZV
  . rw [TT b,VZ,Xw,X2,decide_eq_true_iff,Uw];constructor
    . rintro ((h|h)|h)
      . exact .inl h
      . subst h;exact .inr ⟨.inl rfl,b⟩
      . exact .inr ⟨.inr h.1,h.2⟩
    . rintro (h|⟨h|h,a⟩)
      . exact .inl (.inl h)
      . exact .inl (.inr h.symm)
      . exact .inr ⟨h,a⟩
  . rw [TS b,Uw];constructor
    . rintro (h|h)
      . exact .inl h
      . exact .inr ⟨.inr h.1,h.2⟩
    . rintro (h|⟨h|h,a⟩)
      . exact .inl h
      . subst h;exact absurd a b
      . exact .inr ⟨h,a⟩
def vv (D L G:Nat) (dl:a8) (i:Nat):a8:=(dg D L G dl).getD i []
def OO (D L G:Nat) (dl:a8) (i:Nat):bE:=.shard (vv D L G dl i)
def pN (b:vG D L G) (dl:a8) {i:Nat} (c:i<D+L+G):(vv D L G dl i).length=44/\∀ x∈vv D L G dl i,x<256:=by
 have a:i<(dg D L G dl).length:=by rw [lF];exact c
 have e:vv D L G dl i=(dg D L G dl)[i]:=by unfold vv;simp [a]
 rw [e];exact qU b.d b.g _ i a
def aB.putS (A:aB) (D L G b:Nat) (dl:a8):aB:=A.putAt (YE A.n) b (OO D L G dl)
def P7 (w:ZT) (p:Nat) (B:aB) (F:aK) (e:Ending) (w':ZT):Prop:=e=Z3 .nilIface/\az w' p B F/\aa F.S w w'
theorem kV {A:aB} (f:pd w v p D L G ps ho A F) (k6:A.fine D L G) (b:Nat) (j:b<A.nb) (W:ZS) (dl:a8) (Q:Bs w W dl) (k5:dl.length<=D*44) :
 ZQ ZN 165 #[Z6 (ZW ⟨v,0,ZX⟩),Z7 Z9 b,W] w (P7 w p (A.putS D L G b dl) F):=by
 obtain ⟨hr,hj,B,hL,hm,K,h4,hg⟩:=f.par;have hn:=f.n;have HD:=ak Q;have q:=lF D L G dl;have h1:=qU (L:=L) B K dl;obtain ⟨M,N⟩:=nM (dg D L G dl);rw [N] at q h1;have y:=al N q;clear N q;have hz:=PU (f.vol.keep (w':=w.drew) rfl) B W dl (HD.o.mono (TW _ w).drew) k5;obtain ⟨h5,hh⟩:=Hp k5 hj;have R:=λu X h=>DU D L G hr hj B hL hm K h4 u (dV D dl) X h (dZ D dl) h5;rw [hh] at R;obtain ⟨_,c1,c2,c3,_⟩:=f.vol.cells;have HE:=al hz R;clear hz R h5 hh;go_enter func165,ntmps165;go_wp2_with fail;go_region_with (first
  | (go_at_call 190;refine HE.o.1.mono ?_;rintro e w1 ⟨u,rfl,hR,j⟩;obtain ⟨_,d1,d2,d3,_⟩:=(f.vol.keep (j.block _ f.vol.lt)).cells;have a:=al hR j;clear hR j)
  | (go_at_call 189;refine (HE.o.2 _ _ a.o.1).mono ?_;rintro e w2 ⟨x,T,rfl,hT,hH,j⟩;have l:=al (show KJ w2 w.heap.size (dg D L G dl) x from ⟨T,hT.weaken a.o.2.size,hH⟩) (show bW w w2 from ((TW _ w).drew).trans (a.o.2.trans (j.mono a.o.2.size)));clear hT hH j))
 all_goals (
  rename ZT=>w1;obtain ⟨I,P⟩:=l.o;rw [y.o.1] at I;have q:=y.o.2;obtain ⟨g,c,rfl,hq⟩:=I.rows (λe=>by rw [e] at q;simp at q;omega) h1;have hs:=f.below P lR;have a:=aE hs hq P;clear I hq hs P q;go_wp2_with fail;refine (j8 a.o.1.vol f.par).mono ?_;rintro e w2 ⟨rfl,r⟩;obtain ⟨S,C⟩:=nM (2^(D+L+G)-1);rw [C];have z:ab S=YE A.n:=by rw [<- C,hn];exact nP hg
  have k9:S<65536:=by
   have:2^(D+L+G)<=2^16:=UW (by decide) hg;omega
  have O:=a.o.1.below r lR;have hp:ML w2 w.heap.size g M:=a.o.2.1.keep r.size (λk _ V=>r.block k V);have U:=kS O b S j k9 (λi s=>by rw [z] at s;simpa using s) (m:=M.length) (c:=c) hp (λi s=>by have:=y.o.2;rw [z] at s;simp at s;omega) lR (λk V=>f.arr.RN V);rw [z] at U;have hll:=zm A.lost (YE A.n) (λd Q=>by simp at Q;omega);have k7:gq D L G (jA A.lost (YE A.n)):=lG k6.1 λi e=>k6.2 i (Uu.1 ((jb _ i _).1 e).1) ((jb _ i _).1 e).2;generalize jA A.lost (YE A.n)=E at *;have l:=a6 U r C O k7;clear O hp U r z C k7;go_wp2_with fail;refine l.o.1.mono ?_;rintro e Y ⟨rfl,H,J⟩;have hO:aa F.S w Y:=(aa.RL (a.o.2.2.trans (l.o.2.1.mono a.o.2.2.size)) _).trans J;have hv:=l.o.2.2.2.1.vol.keep (J.block _ l.o.2.2.2.1.vol.lt f.v);rw [<- y.o.1] at H;obtain ⟨_,g1,g2,g3,_⟩:=hv.cells;have t:=al (show az Y p (A.putS D L G b dl) F from H) hO;clear H J hO hv;by_cases h0:E=0
  . subst h0;clear g1 g2 g3;go_wp2;go_ret;exact ⟨rfl,t.o.1,t.o.2⟩
  . have k8:¬ (E:Int)=0:=(by omega);have ka:((E:Int) != 0)=ZV:=(by simpa using k8);have k0:=kT D L G E hr B hL hm K h4 (by omega) Y;clear h0;go_wp2_with fail;refine k0.mono ?_;rintro e w4 ⟨bb,rfl,hy,hx⟩;obtain rfl:bb=ZV:=hy.2 l.o.2.2.2.2;have Z:=ak hx;clear hx k0 g1 g2 g3 hy;go_wp2;go_ret;exact ⟨rfl,t.o.1.below Z.o lR,t.o.2.trans (aa.RL Z.o _)⟩)
def cj (D:Nat) (P l:a8) (k:Nat):a8:=be (P.getD (k+1) 0) 4++(l.drop (k*(D*44-4))).take (D*44-4)
def aB.wrTo (A:aB) (D L G:Nat) (S:a8) (c:Nat->a8):Nat->aB
 | 0=>A
 | k+1=>(A.wrTo D L G S c k).putS D L G (S.getD k 0) (c k)
def kH (A:aB) (D L G:Nat) (S:a8) (c:Nat->a8):∀ k,(A.wrTo D L G S c k).n=A.n/\(A.wrTo D L G S c k).nb=A.nb/\dM A (A.wrTo D L G S c k)
 | 0=>⟨rfl,rfl,dM.refl A⟩
 | k+1=>have h:=kH A D L G S c k;⟨h.1,h.2.1,h.2.2.trans (dM.put _ _ _ _)⟩
def Eg (w:ZT) (p D L G:Nat) (S:a8) (c:Nat->a8) (A:aB) (F:aK) (e:Ending) (w':ZT):Prop:=e=Z3 .nilIface/\az w' p (A.wrTo D L G S c S.length) F/\aa F.S w w'
def pO (a:1<=D) (P l:a8) (k:Nat):(cj D P l k).length<=D*44:=by
 unfold cj;rw [Ua,aD,Uo];omega
def tR (hl:∀ x∈l,x<256) (P:a8) (k:Nat):∀ x∈cj D P l k,x<256:=by
 intro x a;unfold cj at a;rw [Ui] at a;rcases a with a|a
 . exact qG _ _ x a
 . exact hl x (UZ (UV a))
def BV {v:ZS} {xs:List ZS} (h:w.ownsRow base e size v n xs) (f:aa S w w') (i:∀ k,S k->k<base):w'.ownsRow base e size v n xs:=by
 refine ⟨h.1,?_⟩;rcases h.2 with d|⟨g,cap,cur,b,c,a,r⟩
 . exact .inl d
 . exact .inr ⟨g,cap,cur,b,c,(f.block g (T5.1 a).1 (λq=>by have:=i g q;omega)).trans a,r⟩
def eo.R8 (h:aa S w w'):eo (λk=>¬ S k) w w':=⟨h.size,λk a b=>h.block k a b⟩
def r9 {K:Nat->Prop} {v:ZS} (h:bf K w v l) (hl:l≠[]):∃ b off c,v=Z5 (ZW ⟨b,off,ZX⟩) l.length c/\∀ i (e:i<l.length),w.cell? ⟨b,off+i,ZX⟩=ZW (Z7 Z9 ((l[i]:Nat):Int)):=by
 obtain ⟨ao,c,rfl,_,a⟩:=h;obtain ⟨b,off,rfl,_,_,d⟩:=a hl;exact ⟨b,off,c,rfl,d⟩
def Tryz.Sw:(ZN.info? 5).map (λi=>(i.zero,i.size,i.bytes))=ZW (ZW (Z7 .u8 0),1,1):=by kernel_rfl
theorem tS {A:aB} (s:a9 w ar v D' L' G' t f nn pg ob off) (q:pd w v p D L G ps ho A F) (qa:A.fine D L G) (q0:¬ F.S ar)
 (g cap base:Nat) (l:a8) (J:w.ownsRow base 5 1 (Z5 (ZW ⟨g,0,ZX⟩) l.length cap) l.length (aJ l)) (qe:∀ x∈l,x<256) (hll:l.length<=1000000) (hn:∀ k,F.S k->k<base)
 (vp:ZS) (P:a8) (B:bf (λk=>¬ F.S k) w vp P) (kh:∀ x∈P,x<A.nb) (kz:∀ k,k<P.length->k*(D*44-4)<=l.length) :
 ZQ ZN 143 #[Z6 (ZW ⟨ar,0,ZX⟩),Z5 (ZW ⟨g,0,ZX⟩) l.length cap,vp] w (Eg w p D L G P (cj D P l) A F):=by
 have hz:=q.par.d1;have hD:=q.par.d;obtain ⟨i0,qb,qn,qo,qp⟩:=Ut Tryz.Sw;obtain ⟨pa,pc,rfl,kg,_⟩:=id B;have k8:=j7 s q.vol hz (by omega);obtain ⟨sz,k9⟩:=nM (D*44-4);have qm:40<=sz/\sz<=524:=by omega
 rw [k9] at k8;have qv:=q.arr.Sz.2;have H0:=a5 s q J B;clear s q J B;go_enter func143,ntmps143;go_wp2_with fail;refine k8.mono ?_;rintro e w1 ⟨rfl,rfl⟩;clear k8;go_wp2;go_loopw [17] (λi wr=>∃ k:Nat,i=Z7 Z9 (k:Nat)/\k<=P.length/\az wr p (A.wrTo D L G P (cj D P l) k) F/\aa (F.S) w1 wr) (λi _=>P.length-(intOf i).toNat)
 case atStart=>exact ⟨0,rfl,T8 _,H0.o.2.1.arr,aa.refl _ _⟩
 case round=>
  obtain ⟨k,rfl,hk,K,r⟩:=hrel;by_cases E:k<P.length
  . obtain ⟨s,q,J,B⟩:=H0.o;have ki:=B.keep (eo.R8 r);obtain ⟨b,bo,c',e1,k0⟩:=r9 ki (λe=>by rw [e] at E;simp at E);simp only [Vs] at e1;obtain ⟨rfl,_,rfl⟩:=e1;have c1:=k0 k E;obtain ⟨y,V⟩:=nM (P[k]);rw [V] at c1;have kb:y<A.nb:=(by rw [<- V];exact kh _ (T6 E));obtain ⟨nx,H⟩:=nM (P.getD (k+1) 0);have hp:(k+1<P.length/\wr.cell? ⟨b,bo+(k+1),ZX⟩=ZW (Z7 Z9 (nx:Nat)))\/(¬ k+1<P.length/\nx=0):=by
     by_cases h:k+1<P.length
     . have:=k0 (k+1) h;have e:P.getD (k+1) 0=P[k+1]:=(by simp [h]);rw [<- e,H] at this;exact .inl ⟨h,this⟩
     . exact .inr ⟨h,by rw [<- H];simp [show P.length<=k+1 by omega]⟩
    have qj:nx<1000001:=by
     rcases XX (k+1) P.length with h|h
     . have e:P.getD (k+1) 0=P[k+1]:=(by simp [h]);rw [<- H,e];have:=kh _ (T6 h);omega
     . rw [<- H];simp [h]
    have k7:=kH A D L G P (cj D P l) k;have kj:=q.turn r K k7.1;have h7:=BV J r hn;have hx:=s.keep (r.block _ s.lt q0);obtain ⟨ca,_⟩:=hx.cells;have m:=hide8 K r kj h7 k7 hx H V;clear K r kj h7 k7 hx H V k0 ki s q J B;have k6:=kz k E;rw [k9] at k6;have q9:l.length<=cap:=by
     rcases m.o.2.2.2.1.2 with ⟨e,_⟩|⟨g',cap',cur,e,_,_,hc,_⟩
     . cases e
     . simp only [Vs] at e;omega
    have O:(k+1)*sz=k*sz+sz:=WW k sz;have qf:(k:Int)*(sz:Int)=((k*sz:Nat):Int):=(by rw [XD]);have qg:((k:Int)+1)*(sz:Int)=(((k+1)*sz:Nat):Int):=(by rw [XD];rfl);obtain ⟨a,U⟩:=nM (k*sz);obtain ⟨n,Z⟩:=nM ((k+1)*sz);rw [U] at qf O k6;rw [Z] at qg O;obtain ⟨bb,kk⟩:=nM (min n l.length);have qq:a<=bb:=(by omega);have qs:bb<=cap:=(by omega);have R:bb-a<=524:=(by omega);have Y:((l.drop a).take sz).length=bb-a:=(by rw [Uo,Un];omega);have qh:∀ I ty w,(Builtin.min_ I ty #[Z7 Z9 (n:Nat),Z7 Z9 (l.length:Nat)]).run ZN w=.ok (Z7 Z9 (bb:Nat)) w:=λI ty w=>by
     rw [iX];by_cases h:((l.length:Nat):Int)<((n:Nat):Int)
     . rw [TT h,show bb=l.length by omega]
     . rw [TS h,show bb=n by omega]
    have hq:∀ W:ZT,W.ownsRow base 5 1 (Z5 (ZW ⟨g,0,ZX⟩) l.length cap) l.length (aJ l)->Src ZN 1 40 (.slice (if cap=a then ZW ⟨g,0,ZX⟩ else ZW ⟨g,a,ZX⟩) (bb-a) (cap-a)) (bb-a) (aJ ((l.drop a).take sz)) W:=λW Q=>by
     have qk:W.rangeAt g 0 (aJ l):=λj u c=>by have:=Q.cells (g:=g) rfl j u c;rw [jy] at this;rw [Uj];exact this
     by_cases T:cap=a
     . have h0:(l.drop a).take sz=[]:=UU (by omega);rw [TT T,h0,show bb-a=0 by omega];exact Vi W Um ⟨g,0,ZX⟩ 0 (cap-a) (aJ []) rfl (λj u c=>by simp [aJ] at c) (λu c=>by simp [aJ] at c)
     . rw [TS T];have kr:=m3 sz (fY a qk);rw [Uj] at kr;exact Vi W Um ⟨g,a,ZX⟩ (bb-a) (cap-a) _ (by rw [aW,Y,V9]) (λj u c=>by rw [Vl];exact kr j u c) (λu c=>by unfold aJ at c;rw [T9] at c;obtain ⟨x,_,rfl⟩:=c;rfl)
    have h8:∀ (W:ZT) (u:ZS),W.ownsRow wr.heap.size 5 1 u (0+4+(bb-a)) ([]++aJ (be nx 4)++aJ ((l.drop a).take sz))->Bs W u (cj D P l k):=λW u c=>by
     have e:[]++aJ (be nx 4)++aJ ((l.drop a).take sz)=aJ (cj D P l k):=by
      unfold cj;rw [k9,U,m.o.2.2.2.2.2.2.1,bJ,Uq]
     rw [e] at c;exact Bs.Sd c (tR qe P k) (TV (pO hz P l k) (by omega))
    have h2:∀ (W:ZT) (u:ZS),bW wr W->Bs W u (cj D P l k)->ZQ ZN 165 #[Z6 (ZW ⟨v,0,ZX⟩),Z7 Z9 (y:Nat),u] W λe w'=>e=Z3 .nilIface/\az w' p (A.wrTo D L G P (cj D P l) (k+1)) F/\aa F.S w1 w':=λW u Q c=>by
     obtain ⟨q1,q2,q3,q4,q5,q6,q7,q8⟩:=m.o;refine (kV (q3.below Q lR) (q5.2.2.fine qa) y (by rw [q5.2.1];exact kb) u (cj D P l k) c (pO hz P l k)).mono ?_;rintro e w' ⟨rfl,kx,ky⟩;have ey:P.getD k 0=y:=(by rw [<- q8];simp [E]);refine ⟨rfl,?_,q2.trans ((aa.RL Q _).trans ky)⟩;show az w' p ((A.wrTo D L G P (cj D P l) k).putS D L G (P.getD k 0) (cj D P l k)) F;rw [ey];exact kx
    have kc:=al h8 h2;clear h8 h2;have HK:=a7 U Z kk Y k6 O;have qx:IntKind.u64.wrap (nx:Int)=(nx:Int):=(by rw [Va];omega);have qd:a<=1000000/\n<=1000524/\bb<=1000000:=(by omega);clear U Z kk Y O;go_upto_if 26 with fail;go_cut [10] from 27 to 31 (λu wc=>u=Z7 Z9 (nx:Nat)/\wc=wr)
    case first=>
     rcases hp with ⟨h,c2⟩|⟨h,qi⟩
     . have kv:(k:Int)+1<((P.length:Nat):Int):=(by omega);go_wp2;go_meet
       case rel=>exact ⟨rfl,rfl⟩
     . have kv:¬ (k:Int)+1<((P.length:Nat):Int):=(by omega);subst qi;go_wp2;go_meet
       case rel=>exact ⟨rfl,rfl⟩
    case rest=>
    obtain ⟨rfl,ka⟩:=hcut;have ka:=ka.symm;subst ka;clear hp c1;go_wp2_with fail;refine (fX wr.heap.size (Z5 ZX 0 0) 0 [] nx 4 wr (UK _ _ _ _) lR (by decide) (by decide)).mono ?_;rintro e w2 ⟨v2,rfl,ko,C,hm⟩;have N:bW wr w2:=⟨C.os,C.tape,C.output,C.size,λk hk=>C.block k hk (λe=>by simp [Value.ownBlock] at e)⟩;have X:=aq m.o.2.2.2.1 N;have hh:=m.o.2.2.2.2.2.1.keep (N.block _ m.o.2.2.2.2.2.1.lt);obtain ⟨cb,_⟩:=hh.cells;have z:=a6 ko N (hq w2 X) X hm;clear ko C N X hm hh;go_wp2_with (
     at_builtin;
     refine ae _ rfl (Z0 35) (Z0 47) 40 40 rfl wr.heap.size 5 i0 (Z7 .u8 0) 1 1 Um qb qn qo qp rfl v2 (0+4) ([]++aJ (be nx 4)) (by rfl) (by exact z.o.1) _ (by rfl) (bb-a) (aJ ((l.drop a).take sz)) (by exact z.o.2.2.1) (by unfold maxLen;omega) (by omega) (by exact z.o.2.1.size) ?_;
     intro v3 w3 kp km k5;
     have R:bW wr w3:=z.o.2.1.grown km z.o.2.1.size (λk e=>(z.o.1.lt k e).1);
     have hi:=m.o.2.2.2.2.2.1.keep (R.block _ m.o.2.2.2.2.2.1.lt);
     obtain ⟨cc,_⟩:=hi.cells;
     have H3:=al kp R;
     clear kp R km k5 hi)
    all_goals
     refine (kc.out.2 w3 v3 H3.o.2 (kc.out.1 w3 v3 H3.o.1)).mono ?_;rintro e w4 ⟨rfl,ke,kf⟩
     . have M:=al ke kf;clear ke kf;go_wp2;first
        | exact ⟨⟨k+1,by go_num,by omega,M.o.1,M.o.2⟩,by simp only [intOf];omega⟩
        | (have T:cap=a:=by assumption
           subst T;go_roundw
           case rel=>exact ⟨k+1,by go_num,by omega,M.o.1,M.o.2⟩
           case measure=>
            show P.length-((k:Int)+1).toNat<P.length-((k:Nat):Int).toNat;omega)
  . have qc:k=P.length:=(by omega);subst qc;have m:=al K r;clear K r;go_wp2;go_ret;exact ⟨rfl,m.o.1,m.o.2⟩
def nx (t:Nat):Nat:=(t+1)%18446744073709551616
def Ro (t:Nat):nx t<18446744073709551616:=V5 _ (by decide)
def pP (w:ZT):(zeroValue 142).run ZN w=.ok (.agg (aj 0 0 0 0 0 0)) w:=by
 obtain ⟨a,b,c⟩:∃ a,ZN.info? 142=ZW a/\a.zero=ZW (.agg (aj 0 0 0 0 0 0)):=by
  have:(ZN.info? 142).map (λi=>i.zero)=ZW (ZW (.agg (aj 0 0 0 0 0 0))):=by kernel_rfl
  rw [Wq] at this;exact this
 simp [zeroValue,typeInfo,UE,b,c]
def kI (D L G t f n:Nat):(ZN.info? 142).map (λi=>i.size)=ZW (aj D L G t f n).size:=by kernel_rfl
def pQ (D L G t f n:Nat):(aj D L G t f n).all (λv=>v.oneCell')=ZV:=by simp [aj,Value.oneCell']
def tT {cs:Array ZS} (h:w.heap[b]?=ZW (Z4 cs 142 (0,0))) (a:cs.size=6):(Instr.storeAt 142 (Z6 (ZW ⟨b,0,ZX⟩)) (.agg (aj D L G t f n))).run ZN w=.ok () (w.setRow b (aj D L G t f n)):=by
 simp only [Instr.storeAt,Instr.sureAddr,UE,VJ,UQ,XU w b 142 142 cs (aj D L G t f n) h (kI D L G t f n) (by rw [a];rfl) (pQ D L G t f n)]
def Eh (h:w.heap[q]?=ZW (Z4 (aj D L G t f n) 142 (0,0))):(Instr.loadAt 142 (Z6 (ZW ⟨q,0,ZX⟩))).run ZN w=.ok (.agg (aj D L G t f n)) w:=by
 simp only [Instr.loadAt,Instr.sureAddr,UE,VJ,UQ,Xa w q 142 142 (aj D L G t f n) (0,0) _ h Xy rfl (by kernel_rfl)]
def kJ (e:o.guard=ZX) (x:Operand) (ho:o.op=.load 142 x) {b D L G t f n:Nat} {ra:Array ZS} (c:ra=aj D L G t f n)
 (g:a.eval x=Z6 (ZW ⟨b,0,ZX⟩)) (d:w.heap[b]?=ZW (Z4 (aj D L G t f n) 142 (0,0))) (h:wpList ZN ops Q rest (a.put o.dst (.agg ra)) w):wpList ZN ops Q (o::rest) a w:=by
 refine VT e λK hK=>?_;subst c;unfold Oper.wp;simp [execOp,ho,g,Eh d,Result.andThen];exact hK _ _ h
def BW (h:a9 w ar v D' L' G' t' f' n' pg ob off):a9 (w.setCells ar 1 (aj D L G t f n).toList) ar v D L G t f n pg ob off:=by
 have a:w.heap[ar]?=ZW (Z4 (jE v D' L' G' t' f' n' pg ob off) 146 (0,0)):=h;have:=ag (j:=6) (ag (j:=5) (ag (j:=4) (ag (j:=3) (ag (j:=2) (ag (j:=1) a (Z7 Z9 (D:Int))) (Z7 Z9 (L:Int))) (Z7 Z9 (G:Int))) (Z7 Z8 (t:Int))) (Z7 Z9 (f:Int))) (Z7 Z9 (n:Int));exact this
def a9.there (h:a9 w ar v D' L' G' t' f' n' pg ob off):w.there ar 1 6:=by
 have a:w.heap[ar]?=ZW (Z4 (jE v D' L' G' t' f' n' pg ob off) 146 (0,0)):=h;intro j b;match j,b with
 | 0,_|1,_|2,_|3,_|4,_|5,_=>simp [World.cell?,World.frozen?,a,jE]
 | n+6,hn=>exact absurd hn (by omega)
def a9.late (h:a9 w ar v D' L' G' t' f' n' pg ob off) (b a:ZS):a9 ((w.setCell ⟨ar,7,ZX⟩ b).setCell ⟨ar,8,ZX⟩ a) ar v D' L' G' t' f' n' b a off:=by
 have c:w.heap[ar]?=ZW (Z4 (jE v D' L' G' t' f' n' pg ob off) 146 (0,0)):=h;exact ag (j:=8) (ag (j:=7) c b) a
def a9.tail (h:a9 w ar v D' L' G' t' f' n' pg ob off):w.cell? ⟨ar,7,ZX⟩=ZW pg/\w.frozen? ⟨ar,7,ZX⟩=ZU/\w.cell? ⟨ar,8,ZX⟩=ZW ob/\w.frozen? ⟨ar,8,ZX⟩=ZU:=by
 have a:w.heap[ar]?=ZW (Z4 (jE v D' L' G' t' f' n' pg ob off) 146 (0,0)):=h;simp [World.cell?,World.frozen?,a,jE]
def Ei (w:ZT) (vo:ZS) (l:a8):Prop:=∀ W,bW w W->ZQ ZN 142 #[vo] W λe w'=>∃ g cap,e=Z3 (Z5 (ZW ⟨g,0,ZX⟩) l.length cap)/\w'.ownsRow W.heap.size 5 1 (Z5 (ZW ⟨g,0,ZX⟩) l.length cap) l.length (aJ l)/\bW W w'
def aB.TQ (A:aB) (D L G t:Nat) (P l:a8):aB:=(A.wrTo D L G P (cj D P l) P.length).putAt (YE A.n) 0 (λ_=>.root D L G t (P.getD 0 0) l.length)
def KK (w:ZT) (ar v p D L G t:Nat) (A:aB) (F:aK) (P l:a8) (vp vo:ZS) (off:Bool) (e:Ending) (w':ZT):Prop:=aa (λk=>k=ar\/F.S k) w w'/\e=Z3 .nilIface/\az w' p (A.TQ D L G (nx t) P l) F/\a9 w' ar v D L G (nx t) (P.getD 0 0) l.length vp vo off
theorem ng {A:aB} (ha:a9 w ar v D' L' G' t f nn pg ob off) (K:pd w v p D L G ps ho A F) (qh:A.fine D L G) (W:¬ F.S ar)
 (oo:Option Addr) (on oc:Nat) (l:a8) (qi:∀ x∈l,x<256) (hll:l.length<=1000000) (qk:Ei w (.slice oo on oc) l)
 (pb U pc:Nat) (P:a8) (hP:bf (λk=>¬ F.S k) w (Z5 (ZW ⟨pb,U,ZX⟩) P.length pc) P) (q0:P≠[]) (q2:∀ x∈P,x<A.nb) (qc:∀ k,k<P.length->k*(D*44-4)<=l.length) :
 ZQ ZN 105 #[Z6 (ZW ⟨ar,0,ZX⟩),.slice oo on oc,Z5 (ZW ⟨pb,U,ZX⟩) P.length pc] w (KK w ar v p D L G t A F P l (Z5 (ZW ⟨pb,U,ZX⟩) P.length pc) (.slice oo on oc) off):=by
 obtain ⟨hr,qo,hD,hL,qp,hG,qf,ks⟩:=K.par;have hn:=K.n;have hf:0<P.length:=Yh.2 q0;obtain ⟨f0,kf⟩:=nM (P.getD 0 0);have hp:P[0]=f0:=by rw [<- kf];simp [hf]
 have qq:=K.arr.Sz.2;have qg:f0<A.nb:=by rw [<- hp];exact q2 _ (T6 _)
 have qj:(bE.root D L G (nx t) f0 l.length).ok:=by
  have:=Ro t;exact ⟨by omega,by omega,by omega,by omega,by omega,by omega⟩
 unfold KK aB.TQ;rw [kf];have HA:=al kf hp;have HP:=ak hP;clear kf hp hP;go_enter func105,ntmps105;go_wp2_with fail;refine (qk w (TW _ w)).mono ?_;rintro e w1 ⟨g,cap,rfl,ka,B⟩;have M:=ha.keep (B.block _ ha.lt);have R:=K.below B lR;have hg:=HP.o.keep (eo.RM B);have qa:=tS M R qh W g cap w.heap.size l ka qi hll (λk O=>K.arr.RN O) _ P hg q2 qc;have H1:=a6 B qa hg M R;clear B qa hg ka M R;go_wp2_with fail;refine H1.o.2.1.mono ?_;rintro e w2 ⟨rfl,kv,Q⟩;obtain ⟨B,_,k7,M,R⟩:=H1.o;have y:=M.keep (Q.block _ M.lt W);have C:aa F.S w w2:=(aa.RL B _).trans Q;have q6:=kH A D L G P (cj D P l) P.length;have s:=R.turn Q kv q6.1;have q1:=k7.keep (eo.R8 Q);obtain ⟨b',qv,c',e1,q4⟩:=r9 q1 q0;simp only [Vs,UD,aaL] at e1;obtain ⟨⟨rfl,rfl,_⟩,_,rfl⟩:=e1;have ko:=q4 0 hf;rw [VN,HA.o.2] at ko;have C:aa (F.S) w w2:=(aa.RL B _).trans Q;have H2:=a5 y s C ko;clear B k7 M R kv Q y s q1 q4 ko C;go_wp2_with fail;go_cut [9] from 19 to 35 (λv9 a=>∃ c,v9=Z6 (ZW ⟨c,0,ZX⟩)/\w2.heap.size<=c/\a.heap[c]?=ZW (Z4 (aj D L G (nx t) f0 l.length) 142 (0,0))/\bW w2 a)
 case first=>
  obtain ⟨y,s,C,he⟩:=H2.o;have Y:∀ a,bW w2 a->a.cell? ⟨ar,0,ZX⟩=ZW (Z6 (ZW ⟨v,0,ZX⟩))/\a.cell? ⟨ar,4,ZX⟩=ZW (Z7 Z8 t)/\a.cell? ⟨pb,U,ZX⟩=ZW (Z7 Z9 f0):=λa m=>by
   have hq:a.heap[ar]?=ZW (Z4 (jE v D' L' G' t f nn pg ob off) 146 (0,0)):=(m.block _ y.lt).trans y;exact ⟨by simp [World.cell?,hq,jE],by simp [World.cell?,hq,jE],(m.cell (p:=⟨pb,U,ZX⟩) (Uf he)).trans he⟩
  have T:bW w2 w2.drew:=(TW _ w2).drew;have n1:IntKind.u64.wrap ((t:Int)+1)=((nx t:Nat):Int):=by rw [Va];unfold nx;omega
  have qs:=pP;refine lh 18 (wl [(0,ZV),(1,ZV),(2,ZV),(3,ZV),(5,ZV),(6,ZV),(7,ZV),(8,ZV),(9,ZV),(10,ZV),(11,ZV),(12,ZV),(13,ZV),(14,ZV),(15,ZV)] (.fk (wl [(4,ZU),(16,ZV),(17,ZU),(18,ZU)] .en) (wl [(17,ZU),(4,ZU),(16,ZV),(18,ZU)] .en))) (λa=>a.cell? ⟨ar,0,ZX⟩=ZW (Z6 (ZW ⟨v,0,ZX⟩))/\a.cell? ⟨ar,4,ZX⟩=ZW (Z7 Z8 t)/\a.cell? ⟨pb,U,ZX⟩=ZW (Z7 Z9 f0)) (by kernel_rfl) (by kernel_rfl) (Y _ T) ?_;iterate 15 (refine aC rfl rfl ?_;apply YF;refine ⟨λw' V=>?_,?_⟩;(obtain ⟨s1,s2,s3⟩:=V;first|(go_simp;done)|(go_simp;exact rfl));simp only [Act.put,TX,TY,TZ])
  have q7:∀ {a:ZT} {b:Nat},bW w2 a->w2.heap.size<=b->a.heap[b]?=ZW (Z4 (aj 0 0 0 0 0 0) 142 (0,0))->(Instr.storeAt 142 (Z6 (ZW ⟨b,0,ZX⟩)) (.agg (aj D L G (nx t) f0 l.length))).run ZN a=.ok () (a.setRow b (aj D L G (nx t) f0 l.length))/\∃ c,Value.pointer (ZW ⟨b,0,ZX⟩)=Z6 (ZW ⟨c,0,ZX⟩)/\w2.heap.size<=c/\(a.setRow b (aj D L G (nx t) f0 l.length)).heap[c]?=ZW (Z4 (aj D L G (nx t) f0 l.length) 142 (0,0))/\bW w2 (a.setRow b (aj D L G (nx t) f0 l.length)):=λm qe hr=>⟨tT hr rfl,_,rfl,qe,Vp _ _ _ _ _ _ hr,m.trans ⟨rfl,rfl,rfl,by rw [iW];exact TU _,λk O=>(aX _ _ _).block k (by have:=m.size;omega) (λq=>by cases q;omega)⟩⟩;refine ⟨?fa,?fb⟩
  case' fa=>
   refine fF (fJ (w:=w2.drew) (s.vol.keep rfl)) rfl rfl (by go_simp) ?_;rintro e I ⟨rfl,N,-⟩;have r:=T.trans N;refine ⟨_,rfl,λ_=>Y _ r,?_⟩;simp only [Act.put,TX,TY,TZ];refine aC rfl rfl ⟨.agg (aj D L G (nx t) f0 l.length),λw' _=>by go_simp;rfl,?_⟩;simp only [Act.put,TX,TY,TZ];refine eK (v:=Z6 (ZW ⟨I.heap.size,0,ZX⟩)) (w1:=I.alloc (Z4 (aj 0 0 0 0 0 0) 142)) rfl rfl (by go_simp) (λ_=>Y _ (r.alloc r.size _)) ?_;have hs:=q7 (r.alloc r.size _) r.size (Ug I (Z4 (aj 0 0 0 0 0 0) 142))
  case' fb=>
   refine eK (v:=Z6 (ZW ⟨w2.heap.size,0,ZX⟩)) (w1:=w2.drew.alloc (Z4 (aj 0 0 0 0 0 0) 142)) rfl rfl (by go_simp) (λ_=>Y _ (T.alloc T.size _)) ?_;simp only [Act.put,TX,TY,TZ];have qn:=Ug w2.drew (Z4 (aj 0 0 0 0 0 0) 142);refine fF (fJ (w:=w2.drew.alloc (Z4 (aj 0 0 0 0 0 0) 142)) (s.vol.keep (UB w2.drew _ _ s.vol.lt))) rfl rfl (by go_simp) ?_;rintro e I ⟨rfl,N,-⟩;have r:=(T.alloc T.size (Z4 (aj 0 0 0 0 0 0) 142)).trans (N.mono (by simp));refine ⟨_,rfl,λ_=>Y _ r,?_⟩;simp only [Act.put,TX,TY,TZ];refine aC rfl rfl ⟨.agg (aj D L G (nx t) f0 l.length),λw' _=>by go_simp;rfl,?_⟩;have hs:=q7 r lR ((N.block _ (by simp)).trans qn)
  all_goals
   simp only [Act.put,TX,TY,TZ];refine jX rfl rfl (by simp [execOp,Act.eval,hs.1];rfl) AR (cB ?_);have HM:=ak hs.2;rename_i hK
   refine hK _ _ ?_;clear hK;simp only [Act.put];go_meet
   case rel=>exact HM.o
 case rest=>
 obtain ⟨c,rfl,kp,d,ke⟩:=hcut;rename ZT=>w3;obtain ⟨y,s,C,he⟩:=H2.o;clear he;have j:=y.keep (ke.block _ y.lt);have u:=s.below ke lR;have E:aa (F.S) w w3:=C.trans (aa.RL ke _);have J:¬ F.S c:=λq=>by have:=K.arr.RN q;have:=C.size;omega
 have H3:=a7 j u E d J kp;clear y s C j u E d J kp ke;go_wp2_with fail;obtain ⟨j,u,E,d,J,kp⟩:=H3.o;obtain ⟨hd,qr,qx,qy⟩:=q6;obtain ⟨S,V⟩:=nM (2^(D+L+G)-1);have ki:ab S=YE A.n:=by rw [<- V,hn];exact nP ks
 have q3:S<65536:=by
  have:2^(D+L+G)<=2^16:=UW (by decide) ks;omega
 have q9:∀ X,bW w3 X->ZQ ZN 118 #[Z6 (ZW ⟨v,0,ZX⟩),Z7 Z9 (0:Nat),dK (.root D L G (nx t) f0 l.length),Z7 Z8 S] X λe w'=>(∃ z:Nat,e=Z3 (Z7 Z8 z))/\az w' p ((A.wrTo D L G P (cj D P l) P.length).putAt (YE A.n) 0 (λ_=>.root D L G (nx t) f0 l.length)) F/\aa (F.S) w3 w':=λX m=>by
  have qd:=u.below m lR;have h:=eX qd 0 S (by rw [qr];omega) q3 (λi hi=>by rw [hd];rw [ki] at hi;simpa using hi) (.root D L G (nx t) f0 l.length) qj;rw [ki] at h;exact h.mono λe w' q=>⟨⟨_,q.1⟩,q.2.1,(aa.RL m _).trans q.2.2⟩
 have kk:=j8 (u.vol.keep (w':=w3.drew) rfl) K.par;rw [V] at kk;have km:∀ X,bW w3 X->X.cell? ⟨ar,0,ZX⟩=ZW (Z6 (ZW ⟨v,0,ZX⟩))/\X.cell? ⟨c,0,ZX⟩=ZW (Z7 Z9 D)/\X.cell? ⟨c,1,ZX⟩=ZW (Z7 Z9 L)/\X.cell? ⟨c,2,ZX⟩=ZW (Z7 Z9 G)/\X.cell? ⟨c,3,ZX⟩=ZW (Z7 Z8 (nx t))/\X.cell? ⟨c,4,ZX⟩=ZW (Z7 Z9 f0)/\X.cell? ⟨c,5,ZX⟩=ZW (Z7 Z9 l.length):=λX m=>by
  have qm:X.heap[c]?=ZW (Z4 (aj D L G (nx t) f0 l.length) 142 (0,0)):=(m.block c (T5.1 d).1).trans d;refine ⟨(j.keep (m.block _ j.lt)).cells.1,?_,?_,?_,?_,?_,?_⟩<;>simp [World.cell?,qm,aj]
 obtain ⟨k0,k1,k2,k3,k4,k5,k6⟩:=km w3 (TW _ _);have Z:=aE q9 kk km;have qb:=a6 j u E d J;clear q9 kk km j u E d J V ki q3;go_cut [47] from 36 to 46 (λ_ a=>az a p ((A.wrTo D L G P (cj D P l) P.length).putAt (YE A.n) 0 (λ_=>.root D L G (nx t) f0 l.length)) F/\aa (F.S) w3 a)
 case first=>
  go_region_with (first
   | (go_at_call 112;refine Z.o.2.1.mono ?_;rintro e I ⟨rfl,N⟩;have hj:bW w3 I:=((TW _ w3).drew).trans N;obtain ⟨j0,j1,j2,j3,j4,j5,j6⟩:=Z.o.2.2 I hj;have H5:=ak hj;clear N hj)
   | (go_at_call 118;refine (Z.o.1 I H5.o).mono ?_;rintro e w6 ⟨⟨z,rfl⟩,ky,kz⟩;have H6:=al ky kz;clear ky kz))
  all_goals (go_wp2_with fail;go_meet;case rel=>exact H6.o)
 case rest=>
 rename ZT=>w4;obtain ⟨kx,kb⟩:=hcut;obtain ⟨j,u,E,d,J⟩:=qb.out;clear k0 k1 k2 k3 k4 k5 k6 Z;have kj:=j.keep (kb.block _ j.lt W);have h6:=(kb.block c (T5.1 d).1 J).trans d;have hz:aa (λk=>k=ar\/F.S k) w w4:=(E.trans kb).mono λ_ _ q=>.inr q;have q8:=kj.there;have kc:=BW (D:=D) (L:=L) (G:=G) (t:=nx t) (f:=f0) (n:=l.length) kj;have kh:=hz.trans (aa.setCells (S:=λk=>k=ar\/F.S k) _ ar 1 (aj D L G (nx t) f0 l.length).toList (.inl rfl));have kg:=kx.outside (aa.setCells (S:=λk=>k=ar) w4 ar 1 (aj D L G (nx t) f0 l.length).toList rfl) (λk O e=>W (e▸O));obtain ⟨w8,kr⟩:=nM (w4.setCells ar 1 (aj D L G (nx t) f0 l.length).toList);rw [kr] at kc kh kg;obtain ⟨c7,f7,c8,f8⟩:=kc.tail;have H:=a7 kg kh kc q8 h6 kr;clear kx kb kj hz q8 kc kh kg kr h6 j u E d;go_wp2_with (first|(refine kJ rfl (Z0 9) rfl rfl (by rfl) (by exact H.o.2.2.2.2.1) ?_)|(refine wpList_store_mid rfl 142 (Z0 55) (Z0 51) rfl ar 1 (aj D L G (nx t) f0 l.length) (by rfl) (by rfl) (by exact H.o.2.2.2.1) (kI _ _ _ _ _ _) (pQ _ _ _ _ _ _) ?_;rw [H.o.2.2.2.2.2]));go_ret;refine ⟨(H.o.2.1.trans (aa.setCell _ _ _ (.inl rfl))).trans (aa.setCell _ _ _ (.inl rfl)),rfl,?_,H.o.2.2.1.late _ _⟩;exact H.o.1.keep λk O=>by
  have q5:k≠ar:=λe=>W (e▸O);exact (Ud _ _ _ _ q5).trans (Ud _ _ _ _ q5)
def bj {v:ZS} {xs:List ZS} (h:w.ownsRow base e size v n xs):∃ d f,v=.slice d n f:=by
 rcases h.2 with ⟨b,c⟩|⟨g,cap,cur,a,_⟩
 . exact ⟨ZX,0,by rw [b,c]⟩
 . exact ⟨_,_,a⟩
def bw {v:ZS} {xs:List ZS} (h:w.ownsRow base e size v n xs) {k:Nat} (a:v.ownBlock=ZW k):∃ cur,w.heap[k]?=ZW (Z4 cur e (0,0)):=by
 rcases h.2 with ⟨d,_⟩|⟨g,cap,cur,b,_,c,_⟩
 . rw [d] at a;simp [Value.ownBlock] at a
 . rw [b] at a;simp [Value.ownBlock] at a;subst a;exact ⟨cur,c⟩
def bC {t:ZP} {v:ZS} {xs:List ZS} (h:w.ownsRow base e size v n xs) {k:Nat} {cs:Array ZS} (c:w.heap[k]?=ZW (Z4 cs t (0,0))) (b:e≠t):v.ownBlock≠ZW k:=by
 intro q;obtain ⟨cur,a⟩:=bw h q;rw [c] at a;injection a with a;injection a with h1 h2;exact b h2.symm
def bR {v:ZS} {xs:List ZS} (h:w.ownsRow base e size v n xs) (f:aa S w w') (i:∀ k,v.ownBlock=ZW k->¬ S k):w'.ownsRow base e size v n xs:=by
 refine ⟨h.1,?_⟩;rcases h.2 with d|⟨g,cap,cur,a,c,b,r⟩
 . exact .inl d
 . exact .inr ⟨g,cap,cur,a,c,(f.block g (T5.1 b).1 (i g (by rw [a];rfl))).trans b,r⟩
def xN {v:ZS} {xs:List ZS} (h:w.ownsRow base e size v n xs) (f:∀ k,v.ownBlock=ZW k->w'.heap[k]?=w.heap[k]?):w'.ownsRow base e size v n xs:=by
 refine ⟨h.1,?_⟩;rcases h.2 with d|⟨g,cap,cur,a,b,c,r⟩
 . exact .inl d
 . exact .inr ⟨g,cap,cur,a,b,(f g (by rw [a];rfl)).trans c,r⟩
def P8 {v:ZS} {xs:List ZS} (h:w.ownsRow base e size v n xs) {k:Nat} (b:v.ownBlock=ZW k):k<w.heap.size:=by
 obtain ⟨cur,a⟩:=bw h b;exact (T5.1 a).1
section
attribute [local go_sem] Oper.semAt_some
def pR (K:Nat->Prop) (n b1:Nat) (v:ZS) (os:List Ob) (w:ZT) (i:b1<w.heap.size) (b:w.cell? ⟨b1,0,ZX⟩=ZW v) (j:eO K w v os) :
 SeqStopsK Fence.wide n ZN 144 #[Z6 (ZW ⟨b1,0,ZX⟩)] m7 (eo K) (λu=>u=af os) (λpre=>pre<+:af os) (af os).length w:=λl J d W c m _ o f=>by
 refine (tC K n l b1 v os J d (λpre A B h a=>m pre A B ZX h ⟨a.os,a.tape,a.output,a.size,λk q _=>a.block k q⟩ (λr e=>by cases e)) (af os).length o [] (by simp) W ((c.cell (p:=⟨b1,0,ZX⟩) i).trans b) (j.keep (eo.RM c)) f).mono ?_;rintro e W' ⟨b,g⟩;refine ⟨b,?_⟩;rcases g with h|⟨pre,s,t⟩
 . exact .inl ⟨_,rfl,by simpa using h⟩
 . exact .inr ⟨pre,s,by simpa using t⟩
structure Rp (w:ZT) (B:Nat) (pre:a8) (X:ZT):Prop where
 box:ZO X w.heap.size 3 (Z7 Z9 (pre.length:Nat))
 below:bW w X
 size:B<=X.heap.size
def Rp.Tf (h:w.heap.size<B):OwnFrom B (Rp w B):=by
 rintro pre X Y row ⟨f,b,g⟩ a d;have c:∀ k,k<B->Y.heap[k]?=X.heap[k]?:=λk c=>a.block k (by omega) (λe=>by have:=(d k e.symm).1;omega);exact ⟨(c _ (by omega)).trans f,b.grown a b.size (λk e=>by have:=(d k e).1;omega),TV g a.size⟩
theorem BX {A:aB} (j:a9 w ar v D' L' G' t f nn pg ob off) (m:bg w v p D L G ps ho) (h:az w p A F) (hn:0<A.n) (os:List Ob) (u:eO (λk=>k<w.heap.size) w ob os) (hv:(af os).length<=1000000) (count pages:Nat) (he:count<=1000000) (hg:pages<=1000000) :
 ZQ ZN 127 #[Z6 (ZW ⟨ar,0,ZX⟩),Z7 Z9 (count:Nat),Z7 Z9 (pages:Nat)] w λe w'=>e=Z3 (Z1 (decide ((af os).length+count+2*pages+2<=A.nb)))/\bW w w':=by
 obtain ⟨n,HN⟩:∃ n:Nat,b9 (9<=n):=⟨9,TU _⟩;obtain ⟨c0,_,_,_,P⟩:=j.cells;obtain ⟨d,c,rfl,hol,_⟩:=id u;have H:=a5 j m h u;clear j m h u;refine (Vm (n:=n)).1 ?_;refine Wc func127 rfl trivial ?_ rfl;simp only [ntmps127,UH,UA,UT,YG,YH,Ve,Vf,Vg,Vh,Uq,UX];have g:bW w (w.alloc (Z4 #[Z7 Z9 0] 3)):=bA w _;have Q:=(g.cell (p:=⟨ar,8,ZX⟩) H.o.1.lt).trans P;have r:ZO (w.alloc (Z4 #[Z7 Z9 0] 3)) w.heap.size 3 (Z7 Z9 0):=Ur w _ _;have y:(w.alloc (Z4 #[Z7 Z9 0] 3)).heap.size=w.heap.size+1:=by simp
 have I:=aE g r y;clear g r y;gi_wp2;refine cd (lB d os.length c (w.alloc (Z4 #[Z7 Z9 0] 3))) ?_;rintro e w' ⟨rfl,rfl⟩;obtain ⟨w1,hy⟩:=nM (w.alloc (Z4 #[Z7 Z9 0] 3));rw [hy] at I Q ⊢;have C:bW w1 (w1.alloc (Z4 #[.slice d os.length c] 144)):=bA w1 _;have z:(w1.alloc (Z4 #[.slice d os.length c] 144)).cell? ⟨w1.heap.size,0,ZX⟩=ZW (.slice d os.length c):=(Ur w1 _ _).cell;have N:(w1.alloc (Z4 #[.slice d os.length c] 144)).heap.size=w1.heap.size+1:=by simp
 obtain ⟨w2,hz⟩:=nM (w1.alloc (Z4 #[.slice d os.length c] 144));rw [hz] at C z N ⊢;obtain ⟨g,r,y⟩:=I.o;have B:bW w w2:=g.trans (C.mono g.size);have V:Rp w w2.heap.size [] w2:=⟨(C.block _ (by omega)).trans r,B,TU _⟩;have Z:eO (λk=>k<w.heap.size) w2 (.slice d os.length c) os:=H.o.2.2.2.keep (eo.RM B);have hs:=pR (λk=>k<w.heap.size) (n-1) w1.heap.size _ os w2 (by omega) z Z;have O:=aE V hs B;have T:w1.heap.size=w.heap.size+1:=y;have U:w2.heap.size=w.heap.size+2:=by omega
 have HZ:=al T U;clear V hs B Z g r y C z N hz hy Q T U I P;gi_wp2;obtain ⟨kc,N⟩:=HZ.o;refine Wd rfl (by have:=HN.o;omega) (gf:=144) (lb:=#[Z6 (ZW ⟨w1.heap.size,0,ZX⟩)]) rfl trivial (U4 func144 (by kernel_rfl) rfl)
  O.o.2.1 (λh k=>h.trans k) (λW l o o' hl _ _ _=>⟨by simp [World.putObj],λk _ E=>UO (by omega)⟩) (TW _ _) (λ_=>rfl)
  (Rp w w2.heap.size) (λ_ _ _=>False) (Rp.Tf (by omega)) (λ_ _ _ _ _ h _ _=>h.elim) O.o.1
  (λx=>{ tmps:=#[Z6 (ZW ⟨ar,0,ZX⟩),Z7 Z9 (count:Nat),Z7 Z9 (pages:Nat),ZY,ZY,ZY,Z1 ZU,Z6 (ZW ⟨w.heap.size,0,ZX⟩),Z6 (ZW ⟨ar,0,ZX⟩),Z6 (ZW ⟨ar,0,ZX⟩),Z6 (ZW ⟨ar,8,ZX⟩),.slice d os.length c,.func (.func 144) #[] #[Z6 (ZW ⟨w1.heap.size,0,ZX⟩)],Z7 Z9 (x:Nat),ZY,ZY,ZY,ZY,ZY,ZY,ZY,ZY,ZY,ZY,ZY,ZY,ZY,ZY,ZY],defers:=[] }) ?assign ?body ?done ?stop
 case assign=>
  intro l2 x X Kk hK;unfold m7;gi_wp2;simpa using hK
 case body=>
  rintro l2 pre x X b S;have c1:=b.box.cell;have f1:=b.box.frozen;obtain ⟨pl,s⟩:=nM (pre.length);rw [s] at c1 S;have k9:pl<=1000000:=by omega
  have i:=al b s;clear b s S hv hol;gi_wp2;obtain ⟨b,s⟩:=i.o;have h6:((pre++[x]).length:Nat)=pl+1:=by rw [Ua,s];rfl
  have hr:∀ k,k≠w.heap.size->(X.setCell ⟨w.heap.size,0,ZX⟩ (Z7 Z9 ((pl:Int)+1))).heap[k]?=X.heap[k]?:=λk E=>Ud _ _ _ _ E;refine ⟨⟨by simp [World.setCell],λk o E ho _=>?_⟩,⟨by simp [World.setCell],λk E hK=>?_⟩,?_,?_,?_⟩
  . exact (hr k (by omega)).trans ho
  . exact hr k (by omega)
  . rw [h6];exact b.box.set _
  . exact Xh (p:=⟨w.heap.size,0,ZX⟩) b.below lR _
  . have:=b.size;simp [World.setCell];omega
 case done=>
  rintro D1 xs X k6 k0 b hK;have hj:xs=af os:=k0;subst hj;have c1:=b.box.cell;obtain ⟨xl,M⟩:=nM ((af os).length);rw [M] at c1 hv;have HL:=ak M;clear M;have q:=b.below;obtain ⟨j,m,h,u⟩:=H.o;have cX:=(q.cell (p:=⟨ar,0,ZX⟩) j.lt).trans c0;have R:∀ W,bW w W->ZQ ZN 163 #[Z6 (ZW ⟨v,0,ZX⟩)] W λe w'=>e=Z3 (Z7 Z9 A.nb)/\w'=W:=λW Y=>jq (m.keep (Y.block _ m.lt)) (h.below Y lR) hn;have i:=a5 b hK R q;obtain ⟨nb,J⟩:=nM (A.nb);have k8:=h.Sz.2;rw [J] at i k8;have k5:=ak J;clear J;clear b hK k0 R q j m h u c0;gi_wp2;have k1:IntKind.i64.wrap ((xl:Int)+(count:Int))=(xl:Int)+(count:Int):=by rw [Ux];omega
  have k2:IntKind.i64.wrap (2*(pages:Int))=2*(pages:Int):=by rw [Ux];omega
  have k3:IntKind.i64.wrap ((xl:Int)+(count:Int)+2*(pages:Int))=(xl:Int)+(count:Int)+2*(pages:Int):=by rw [Ux];omega
  have k4:IntKind.i64.wrap ((nb:Int)-2)=(nb:Int)-2:=by rw [Ux];omega
  refine wpIn_region_quiet_lit rfl (by kernel_rfl) (by kernel_rfl) ?_;repeat (quiet_step_in (fail))
  refine wpQuietIn_step (by go_simp;intros;trivial) (λK hK=>?_);go_simp;refine ⟨Z7 Z9 (nb:Nat),λa=>⟨λh=>(by cases h),CallsIn.quiet_of_same (Vm.2 (i.o.2.2.1 _ (i.o.2.2.2.trans ⟨rfl,rfl,rfl,TU _,λ_ _=>rfl⟩)))⟩,hK _ ?_⟩;clear hK K;repeat (quiet_step_in (fail))
  refine wpQuietIn_nil ?_;intro _ kb;obtain ⟨nq,rfl⟩:=kb;gi_wp2;obtain ⟨b,hK,_,q⟩:=i.o;have hq:(X.drewN nq).heap[D1]?=ZW (.deferred (ZW [])):=hK;have k7:bW w (X.drewN nq):=q.trans ⟨rfl,rfl,rfl,TU _,λ_ _=>rfl⟩;refine FJ (t:=6) (x:=Z1 (decide ((xl:Int)+(count:Int)+2*(pages:Int)<=(nb:Int)-2))) results127 rfl rfl hq ⟨?_,?_⟩
  . rw [HL.o,k5.out];congr 2;exact decide_eq_decide.2 ⟨λh=>by omega,λh=>by omega⟩
  . exact Below.RO k7 (by omega) (T5.1 hq).1 _
 case stop=>
  rintro D1 z pre X k6 ka hx hK;exact hx.elim
end
def xO {B':Nat} {v:ZS} (h:aF W B C) (a:Bx W B' v):B≠B':=by
 rintro rfl;obtain ⟨t,a⟩:=a;have e:=h.heap.symm.trans a;simp only [UD,UP] at e;have:=Uy Array.size e.1;rw [bX] at this;simp at this
section
attribute [local go_sem] Oper.semAt_some
theorem zK (C:Ck) (kept a:Nat) (w:ZT) :
 ZQ ZN 226 #[.agg (aY C),Z7 Z8 kept,fU a] w λe w'=>e=Z3 (.func (.func 228) #[] #[Z6 (ZW ⟨w.heap.size,0,ZX⟩),Z6 (ZW ⟨w.heap.size+1,0,ZX⟩),Z6 (ZW ⟨w.heap.size+1+1,0,ZX⟩)]) /\
  aF w' w.heap.size C/\Bx w' (w.heap.size+1) (Z7 Z8 (kept:Int))/\Bx w' (w.heap.size+1+1) (fU a)/\bW w w'/\w'.heap.size=w.heap.size+3:=by
 unfold fU;go_enter func226,ntmps226;go_wp2;go_ret;refine ⟨rfl,?_,?_,?_,?_,by simp⟩
 . exact (aF.new w C).keep (by rw [V8 _ _ _ (by simp;omega),V8 _ _ _ (by simp)])
 . have h:=Bx.new (w.alloc (Z4 (aY C) 332)) 133 (Z7 Z8 (kept:Int));rw [Ul] at h;exact h.alloc _
 . have h:=Bx.new ((w.alloc (Z4 (aY C) 332)).alloc (Z4 #[Z7 Z8 (kept:Int)] 133)) 201 (.func (.func 225) #[] #[Z6 (ZW ⟨a,0,ZX⟩)]);simp only [Ul] at h;exact h
 . exact ((bA w _).alloc (by simp) _).alloc (by simp;omega) _
theorem zL (K:a8) (n0 b l:Nat) (J:b8->ZT->Prop) (k:∀ s A B,J s A->ZR n0 A B->J s B)
 (o:∀ s A,J s A->A.cell? ⟨b,0,ZX⟩=ZW (Z7 Z9 (s.2:Int))/\n0<=A.heap.size/\aG A) (q:2<=n0)
 (t:∀ m s C c,J s c->eA C->YieldAt Fence.wide m ZN l #[.agg (aY C)] c λe W'=>e=Z3 (Z1 ZV)/\J (fs K s C) W'/\bu n0 c W')
 (n a Bs d:Nat) (C:Ck) (kept:Nat) (s:b8) (W:ZT) (u:aF W a C) (x:Bx W Bs (Z7 Z8 (kept:Int))) (p:Bx W d (fU b)) (f:eA C) (w:kept<65536) (r:J s W) :
 CallsIn Fence.wide n ZN 228 #[.func (.yield l) #[] #[],Z6 (ZW ⟨a,0,ZX⟩),Z6 (ZW ⟨Bs,0,ZX⟩),Z6 (ZW ⟨d,0,ZX⟩)] W λe W'=>(∃ v,e=Z3 v)/\J (iz K 8 C kept 0 s) W':=by
 have g:=λm=>KD K n0 b l J k o q t 8 m C kept 0 s W f (by have:=f.Sa;omega) w (by decide) r;have c1:=x.cell;have i:=p.cell;unfold fU at i g;refine Xl func228 rfl trivial ?_ rfl;simp only [ntmps228,UH,UA,UT,YG,YH,Ve,Vf,Vg,Vh,Uq,UX];gi_wp2_with (refine ku rfl (Z0 1) rfl a C rfl u ?_)
 refine ⟨trivial,λh=>(by cases h),(g _).mono ?_⟩;rintro e W' ⟨rfl,j,_⟩;gi_wp2;go_end0
 exact ⟨⟨_,rfl⟩,j⟩
structure FI (w:ZT) (kept B5 B6 B7:Nat) (s:b8) (W:ZT):Prop where
 Ss:aF W B5 s.1
 least:Bx W B6 (Z7 Z9 (s.2:Int))
 Sj:Bx W B7 (fU B6)
 set:Bx W (w.heap.size+1) (Z7 Z8 (kept:Int))
 res:aF W (w.heap.size+1+1) dL
 below:bW w W
def FI.mono {B5 B6 B7:Nat} {s:b8} (h:FI w kept B5 B6 B7 s W) (a:ZR B W W') (b:W.heap.size<=B\/(B5<B/\B6<B/\B7<B/\w.heap.size+3<=B)):FI w kept B5 B6 B7 s W':=by
 have:=h.Ss.lt;have:=h.least.lt;have:=h.Sj.lt;have:=h.res.lt;exact ⟨h.Ss.keep (a.block _ (by omega)),h.least.keep (a.block _ (by omega)),h.Sj.keep (a.block _ (by omega)),h.set.keep (a.block _ (by omega)),h.res.keep (a.block _ (by omega)),h.below.trans (a.mono (by omega))⟩
def KL {z:Int} (p least a:Nat) (w:ZT) (c:z=(p:Int)) (b:w.cell? ⟨a,0,ZX⟩=ZW (Z7 Z9 (least:Int))) :
 ZQ ZN 225 #[Z7 Z9 z,Z6 (ZW ⟨a,0,ZX⟩)] w λe w'=>e=Z3 (Z1 (decide (p<least)))/\w'=w:=by
 subst c;exact xJ p least a w b
def cR (x:Ck) (pre:List Sh):Nat:=((pre.map (·.1)).filter (cF x)).length
theorem Ns (x:Ck) (pre:List Sh) (i:Sh):cR x (pre++[i])=cR x pre+(if cF x i.1=ZV then 1 else 0):=by
 unfold cR;rw [Uv,Wr,Ua];congr 1;by_cases h:cF x i.1=ZV
 . simp [h]
 . simp [h]
def P9 {x:Ck} (h:pre.map (·.1)=ab kept):cR x pre=gJ (ab kept) x:=by unfold cR gJ;rw [h]
def Nt {x:Ck} (h:pre.map (·.1)<+:ab kept):cR x pre<=gJ (ab kept) x:=by
 unfold cR gJ;obtain ⟨R,a⟩:=h;rw [<- a,Wr,Ua];omega
def Rq (x:Ck) (pre:List Sh):cR x pre<=pre.length:=by
 unfold cR;exact TV (WO _ _) (by rw [Ue];exact TU _)
def InI (X:ZT) (s:b8) (x:Ck) (pre:List Sh) (Y:ZT):Prop:=bW X Y/\Bx Y X.heap.size (Z7 Z9 (cR x pre:Int))/\(cR x pre=0\/cR x pre<s.2)
def InI.own {s:b8} {x:Ck} (i:X.heap.size+1<=B):OwnFrom B (λpre Y=>InI X s x pre Y):=by
 rintro pre A h row ⟨c,d,g⟩ b a;have f:=d.lt;exact ⟨c.grown b (by have:=c.size;omega) (λk e=>by have:=(a k e).1;omega),d.keep (b.block _ f (λe=>by have:=(a _ e.symm).1;omega)),g⟩
structure OP (w wx:ZT) (b5 b6:Nat):Prop where
 l5:w.heap.size<=b5
 l6:w.heap.size<=b6
 ck:aF wx b5 dL
 nm:wx.heap[b6]?=ZW (Z4 #[Z7 Z9 0] 3 (0,0))
 ne:b6≠b5
 bl:bW w wx
def OP.new1 (w:ZT):OP w ((w.alloc (Z4 (aY dL) 332)).alloc (Z4 #[Z7 Z9 0] 3)).drew w.heap.size (w.heap.size+1):=
 ⟨TU _,XI _,(aF.new w dL).keep (UB _ _ _ (by simp)),by have:=Ug (w.alloc (Z4 (aY dL) 332)) (Z4 #[Z7 Z9 0] 3);rwa [Ul] at this,by omega,((bA w _).alloc (by simp) _).drew⟩
def OP.new2 (w:ZT):OP w ((w.alloc (Z4 #[Z7 Z9 0] 3)).alloc (Z4 (aY dL) 332)).drew (w.heap.size+1) w.heap.size:=
 ⟨XI _,TU _,by have:=aF.new (w.alloc (Z4 #[Z7 Z9 0] 3)) dL;rwa [Ul] at this,(UB _ _ _ (by simp)).trans (Ug _ _),by omega,((bA w _).alloc (by simp) _).drew⟩
def OP.lay {wx:ZT} {b5 b6:Nat} (h:OP w wx b5 b6) (C:Ck) (n:Nat):(wx.setRow b5 (aY C)).cell? ⟨b6,0,ZX⟩=ZW (Z7 Z9 0)/\(wx.setRow b5 (aY C)).frozen? ⟨b6,0,ZX⟩=ZU/\w.heap.size<=b5/\w.heap.size<=b6/\aF ((wx.setRow b5 (aY C)).setCell ⟨b6,0,ZX⟩ (Z7 Z9 (n:Nat))) b5 C/\Bx ((wx.setRow b5 (aY C)).setCell ⟨b6,0,ZX⟩ (Z7 Z9 (n:Nat))) b6 (Z7 Z9 (n:Nat))/\bW w ((wx.setRow b5 (aY C)).setCell ⟨b6,0,ZX⟩ (Z7 Z9 (n:Nat))):=by
 have b:=aQ wx b5 (aY C);have a:(wx.setRow b5 (aY C)).heap[b6]?=ZW (Z4 #[Z7 Z9 0] 3 (0,0)):=(b.block b6 (T5.1 h.nm).1 (λe=>h.ne (by cases e;rfl))).trans h.nm;exact ⟨by simp [World.cell?,a],by simp [World.frozen?,a],h.l5,h.l6,(h.ck.setRow C).keep (V7 _ _ _ _ h.ne.symm),⟨3,Boxed.set _ a⟩,(h.bl.grown b h.bl.size (λk e=>by cases e;exact h.l5)).setCell (p:=⟨b6,0,ZX⟩) h.l6 _⟩
theorem Ej (C:Ck) (kept:Nat) (w:ZT) (O:eA C) (U:kept<65536) (hT:aG w) (h2:3<=w.heap.size) :
 ZQ ZN 212 #[.agg (aY C),Z7 Z8 kept] w λe w'=>e=Z3 (.agg (aY (aP 8 C kept).1))/\bW w w':=by
 have T:=bX C;have hc:=bX dL;have hz:=zeroCk;obtain ⟨n,HN⟩:∃ n:Nat,b9 (9<=n):=⟨9,TU _⟩;refine (Vm (n:=n)).1 ?_;refine Wc func212 rfl trivial ?_ rfl;simp only [ntmps212,UH,UA,UT,YG,YH,Ve,Vf,Vg,Vh,Uq,UX];have b0:bW w (((w.alloc (Z4 (aY C) 332)).alloc (Z4 #[Z7 Z8 (kept:Int)] 133)).alloc (Z4 (aY dL) 332)):=((bA w _).alloc (by simp) _).alloc (by simp;omega) _;have c0:aF (((w.alloc (Z4 (aY C) 332)).alloc (Z4 #[Z7 Z8 (kept:Int)] 133)).alloc (Z4 (aY dL) 332)) w.heap.size C:=(aF.new w C).keep (by rw [V8 _ _ _ (by simp;omega),V8 _ _ _ (by simp)]);have s0:Bx (((w.alloc (Z4 (aY C) 332)).alloc (Z4 #[Z7 Z8 (kept:Int)] 133)).alloc (Z4 (aY dL) 332)) (w.heap.size+1) (Z7 Z8 (kept:Int)):=by
  have h:=Bx.new (w.alloc (Z4 (aY C) 332)) 133 (Z7 Z8 (kept:Int));rw [Ul] at h;exact h.alloc _
 have r0:aF (((w.alloc (Z4 (aY C) 332)).alloc (Z4 #[Z7 Z8 (kept:Int)] 133)).alloc (Z4 (aY dL) 332)) (w.heap.size+1+1) dL:=by
  have h:=aF.new ((w.alloc (Z4 (aY C) 332)).alloc (Z4 #[Z7 Z8 (kept:Int)] 133)) dL;simp only [Ul] at h;exact h
 have z0:(((w.alloc (Z4 (aY C) 332)).alloc (Z4 #[Z7 Z8 (kept:Int)] 133)).alloc (Z4 (aY dL) 332)).heap.size=w.heap.size+3:=by simp
 obtain ⟨v,qk⟩:=nM (((w.alloc (Z4 (aY C) 332)).alloc (Z4 #[Z7 Z8 (kept:Int)] 133)).alloc (Z4 (aY dL) 332));rw [qk] at b0 c0 s0 r0 z0;have HB:=ak b0;have HC:=ak c0;have HS:=ak s0;have HR:=ak r0;have HZ:=ak z0;clear b0 c0 s0 r0 z0;gi_wp2;refine Jw ?_;gi_wp2;have k0:=TW v.heap.size v;have fx:∀ {u:ZT},bW v u->bW v u.drew:=λh=>h.drew;have kf:∀ {u:ZT} (o:Obj),bW v u->bW v (u.alloc o):=λo h=>h.alloc h.size o;refine Code.wpIn_mono (Q:=λe R d=>e=.normal/\∃ f a u2 u3 u4 u5 u6 u7 u8,(v.heap.size<=f/\v.heap.size<=a/\aF d f C/\Bx d a (Z7 Z9 ((ab kept).length:Nat))/\bW v d)/\R={ tmps:=#[.agg (aY C),Z7 Z8 (kept:Int),Z6 (ZW ⟨w.heap.size,0,ZX⟩),Z6 (ZW ⟨w.heap.size+1,0,ZX⟩),Z6 (ZW ⟨w.heap.size+1+1,0,ZX⟩),Z6 (ZW ⟨f,0,ZX⟩),Z6 (ZW ⟨a,0,ZX⟩),u2,u3,u4,u5,u6,u7,u8,ZY,ZY,ZY,ZY,ZY,ZY,ZY,ZY,ZY,ZY,ZY,ZY,ZY,ZY,ZY,ZY,ZY,ZY,ZY,ZY,ZY],defers:=[] }) ?_ ?_;rotate_left
 . refine nH gQ 5 (wl [(0,ZV),(1,ZV)] (.fk (.on 2 ZU (.fk (wl [(3,ZU),(4,ZU),(5,ZU),(6,ZU)] .en) (wl [(4,ZU),(3,ZU),(5,ZU),(6,ZU)] .en))) (.fk (.on 3 ZU (.fk (wl [(2,ZU),(4,ZU),(5,ZU),(6,ZU)] .en) (wl [(4,ZU),(2,ZU),(5,ZU),(6,ZU)] .en))) (.on 4 ZU (.fk (wl [(2,ZU),(3,ZU),(5,ZU),(6,ZU)] .en) (wl [(3,ZU),(2,ZU),(5,ZU),(6,ZU)] .en)))))) (λu=>bW v u) (by kernel_rfl) (by kernel_rfl) (fx k0) ?_;refine aC rfl rfl ⟨.agg (aY C),λu M=>by simp [execOp,Act.eval,l9 (HC.o.mono M HC.o.lt),Result.andThen],?_⟩;simp only [Act.put,TX,TY,TZ];refine aC rfl rfl ⟨Z7 Z8 (kept:Int),λu M=>by have cs:=(HS.o.keep (M.block _ HS.o.lt)).cell;go_simp,?_⟩;simp only [Act.put,TX,TY,TZ];have T:∀ u,ZQ ZN 223 #[Z7 Z8 (kept:Int)] u λe G=>e=Z3 (Z7 Z9 ((ab kept).length:Nat))/\G=u:=Ba kept U;repeat' (first
    | (show LW _ _ _ _ _ _ (.fk _ _) _ _;apply And.intro)
    | (show LW _ _ _ _ _ _ (.on 2 ZU _) _ _;refine dF gQ (T _) rfl rfl nofun (by first|(go_simp;done)|(go_simp;exact rfl)) ?_;rintro e u ⟨rfl,rfl⟩;refine ⟨_,rfl,λ_=>(by repeat (first|exact k0|apply fx|apply kf)),?_⟩;simp only [Act.put,TX,TY,TZ])
    | (show LW _ _ _ _ _ _ (.on 3 ZU _) _ _;refine lU gQ rfl rfl nofun (by go_simp;exact ⟨rfl,rfl⟩) (λ_=>(by repeat (first|exact k0|apply fx|apply kf))) ?_;simp only [Act.put,TX,TY,TZ])
    | (show LW _ _ _ _ _ _ (.on 4 ZU _) _ _;refine lU gQ rfl rfl nofun (by go_simp;exact ⟨rfl,rfl⟩) (λ_=>(by repeat (first|exact k0|apply fx|apply kf))) ?_;simp only [Act.put,TX,TY,TZ]))
   all_goals
    first
     | (have O:=OP.new1 v;have N:=kt C O.ck;obtain ⟨cc,ff,hn⟩:=O.lay C ((ab kept).length:Nat);refine dS gQ rfl rfl nofun (by simp [execOp,Act.eval,N,Result.andThen];exact rfl) AR ?_)
     | (have O:=OP.new2 v;have N:=kt C O.ck;obtain ⟨cc,ff,hn⟩:=O.lay C ((ab kept).length:Nat);refine dS gQ rfl rfl nofun (by simp [execOp,Act.eval,N,Result.andThen];exact rfl) AR ?_)
    simp only [Act.put];refine dS gQ rfl rfl nofun (by first|(go_simp;done)|(go_simp;exact rfl)) (λh=>absurd h (by decide)) (cB ?_);simp only [Act.put];exact ⟨by trivial,_,_,_,_,_,_,_,_,_,hn,rfl⟩
 rintro e R d ⟨rfl,f,a,u2,u3,u4,u5,u6,u7,u8,⟨l5,l6,c5,S,z⟩,rfl⟩;clear qk;have qn:=HZ.o;have cN:=(Bx.new d 201 .nilFunc).cell;have fN:=(Bx.new d 201 .nilFunc).frozen;have y:bW d ((d.alloc (Z4 #[.nilFunc] 201)).setCell ⟨d.heap.size,0,ZX⟩ (fU a)):=(bA _ _).setCell (p:=⟨d.heap.size,0,ZX⟩) lR _;have hh:FI w kept f a d.heap.size (C,(ab kept).length) ((d.alloc (Z4 #[.nilFunc] 201)).setCell ⟨d.heap.size,0,ZX⟩ (fU a)):=
  ⟨c5.keep (y.block _ c5.lt),S.keep (y.block _ S.lt),(Bx.new d 201 .nilFunc).set _,HS.o.keep ((y.block _ (by have:=z.size;omega)).trans (z.block _ (by omega))),HR.o.keep ((y.block _ (by have:=z.size;omega)).trans (z.block _ (by omega))),(HB.o.trans (z.mono (by omega))).trans (y.mono (by have:=z.size;omega))⟩
 have ki:aF ((d.alloc (Z4 #[.nilFunc] 201)).setCell ⟨d.heap.size,0,ZX⟩ (fU a)) w.heap.size C:=HC.o.keep ((y.block _ (by have:=z.size;omega)).trans (z.block _ (by omega)));have k7:((d.alloc (Z4 #[.nilFunc] 201)).setCell ⟨d.heap.size,0,ZX⟩ (fU a)).heap.size=d.heap.size+1:=by simp [World.setCell]
 have xe:=z.size;have y2:=S.lt;have xz:=c5.lt;obtain ⟨t,kv⟩:=nM ((d.alloc (Z4 #[.nilFunc] 201)).setCell ⟨d.heap.size,0,ZX⟩ (fU a));rw [kv] at hh ki k7;unfold fU at kv;have c7:=hh.Sj.cell;unfold fU at c7;have c3:=hh.set.cell;have HF:=ak hh;have qp:=ak ki;have x1:=ak k7;have hy:=ak qn;clear hh ki k7 y c5 S z HB HC HS HR HZ xe qn hz T hc;have kj:=zK C kept a t;unfold fU at kj;gi_wp2;refine wpIn_label ?_;gi_wp2_with (refine ku rfl (Z0 2) rfl w.heap.size C rfl qp.out ?_)
 refine cd kj ?_;clear kj;rintro e w6 ⟨rfl,k1,k2,k3,k4,k5⟩;have qq:=ak k1;have qs:=ak k2;have qv:b9 (Bx w6 (t.heap.size+1+1) (fU a)):=ak k3;have qx:=ak k4;have q0:=ak k5;clear k1 k2 k3 k4 k5 kv cN fN c7 c3;gi_wp2;have x2:FI w kept f a d.heap.size (C,(ab kept).length) w6:=HF.o.mono qx.out (.inl lR);have xy:=HF.o.Ss.lt;have y1:=HF.o.least.lt;have y4:=HF.o.Sj.lt;have xx:=HF.o.res.lt;have qe:=q0.out;obtain ⟨m,HM⟩:∃ m:Nat,b9 (9<=m):=⟨9,TU _⟩;refine Jy (P:=ZN) (n:=n) m (w:=w6) (gf:=228) (lb:=#[Z6 (ZW ⟨t.heap.size,0,ZX⟩),Z6 (ZW ⟨t.heap.size+1,0,ZX⟩),Z6 (ZW ⟨t.heap.size+1+1,0,ZX⟩)]) rfl (U4 func228 (by kernel_rfl) rfl)
  (encs:=λC:Ck=>#[.agg (aY C)]) (λ_=>rfl) (fs (ab kept)) eA (FI w kept f a d.heap.size) (λs A B h hb=>h.mono hb (.inr ⟨by omega,by omega,by omega,by omega⟩)) (λs=>s=aP 8 C kept) (C,(ab kept).length)
  ?call x2 (λB x R A=>∃ j,B<=j/\aF A j x/\R={ tmps:=#[.agg (aY C),Z7 Z8 (kept:Int),Z6 (ZW ⟨w.heap.size,0,ZX⟩),Z6 (ZW ⟨w.heap.size+1,0,ZX⟩),Z6 (ZW ⟨w.heap.size+1+1,0,ZX⟩),Z6 (ZW ⟨f,0,ZX⟩),Z6 (ZW ⟨a,0,ZX⟩),Z6 (ZW ⟨d.heap.size,0,ZX⟩),Z6 (ZW ⟨j,0,ZX⟩),u4,u5,u6,u7,u8,.func (.func 225) #[] #[Z6 (ZW ⟨a,0,ZX⟩)],.agg (aY C),Z7 Z8 (kept:Int),.func (.func 225) #[] #[Z6 (ZW ⟨a,0,ZX⟩)],.func (.func 228) #[] #[Z6 (ZW ⟨t.heap.size,0,ZX⟩),Z6 (ZW ⟨t.heap.size+1,0,ZX⟩),Z6 (ZW ⟨t.heap.size+1+1,0,ZX⟩)],.agg (aY x),ZY,ZY,ZY,ZY,ZY,ZY,ZY,ZY,ZY,ZY,ZY,ZY,ZY,ZY,ZY],defers:=[] }) ?ax ?assign ?body ?done
 case call=>
  intro l J W kh xn x6 x5 hY x4;refine (zL (ab kept) (w6.heap.size+2) a l J x6 (λs A hj=>?_) (by omega) hY (n-1) t.heap.size (t.heap.size+1) (t.heap.size+1+1) C kept _ W (qq.out.keep (kh.block _ (by omega))) (qs.out.keep (kh.block _ (by omega))) (qv.out.keep (kh.block _ (by omega))) O U x4).mono ?_
  . obtain ⟨fi,hs⟩:=x5 s A hj;exact ⟨fi.least.cell,hs,hT.mono (by omega) fi.below⟩
  . rintro e W' ⟨hv,x3⟩;exact ⟨hv,_,rfl,x3⟩
 case ax=>
  rintro B x R A A' ⟨j,h1,q8,h3⟩ x8;exact ⟨j,h1,q8.keep (x8.block j h1 q8.lt),h3⟩
 case assign=>
  intro l s x W K H qb hK;have hz:=zeroCk;have hc:=bX dL;gi_wp2_with (refine jF rfl (Z0 8) (Z0 19) rfl W.heap.size x dL rfl rfl (aF.new W dL) ?_)
  exact hK _ _ ((bA _ _).grown (aQ _ _ _) (by simp) (λk e=>by cases e;exact TU _)) ⟨W.heap.size,TU _,(aF.new W dL).setRow x,rfl⟩
 case body=>
  rintro l B s x R X hl xk xh ⟨r,hr⟩ H qb ⟨j,xg,qm,rfl⟩;have xb:l<X.heap.size:=(T5.1 hr).1;have kg:bW X (X.alloc (Z4 #[Z7 Z9 0] 3)):=bA _ _;have c3:=(H.mono kg (.inl lR)).set.cell;have hm:bW X ((X.alloc (Z4 #[Z7 Z9 0] 3)).alloc (Z4 #[Z7 Z8 (kept:Int)] 133)):=kg.alloc (by simp) _;have q9:=(Bx.new X 3 (Z7 Z9 0)).alloc (Z4 #[Z7 Z8 (kept:Int)] 133);have kp:=(Bx.new (X.alloc (Z4 #[Z7 Z9 0] 3)) 133 (Z7 Z8 (kept:Int))).cell;have kx:((X.alloc (Z4 #[Z7 Z9 0] 3)).alloc (Z4 #[Z7 Z8 (kept:Int)] 133)).heap.size=X.heap.size+1+1:=by simp
  rw [Ul] at kp;have k9:=dN kept (X.alloc (Z4 #[Z7 Z9 0] 3));rw [Ul] at k9;have E:=ak H;have hx:=ak qm;have h7:=ak hm;have ky:=ak q9;have q5:=ak kp;have q7:=ak kx;have HR:=ak hr;have kz:=ak k9;clear H qm kg q9 kp kx hm hr k9 qe;gi_wp2;refine dq kz.out ?_;rintro e w' ⟨rfl,qj⟩;rw [<- qj] at h7 ky q5 q7;clear kz c3 qj;gi_wp2;have x7:aG w':=hT.mono (by omega) ((E.o.mono h7.out (.inl lR)).below);have kx:=q7.out;have xd:w'.heap[l]?=ZW (.loop r):=(h7.out.block l xb).trans HR.o;have xi:=E.o.least;refine wpIn_rangeFunc_ownN (l₀:=l) (r₀:=r) rfl xd (by have:=HM.o;omega) (gf:=147) (lb:=#[Z6 (ZW ⟨X.heap.size+1,0,ZX⟩)]) rfl trivial (U4 func147 (by kernel_rfl) rfl)
   ((eR (m-1) (X.heap.size+1) kept U w' (by omega) q5.out (by omega) x7).inRound l) (λh k=>qM h k) (qN (by omega)) (TW _ _) (λ_=>rfl)
   (λpre Y=>InI X s x pre Y) (λc pre Y=>c=.exit 1/\bW X Y/\1<=cR x pre/\s.2<=cR x pre)
   (InI.own (by omega)) (λc=>by
    rintro pre A Bw row ⟨q,g,I⟩ hg ko;exact ⟨q,g.grown hg (by have:=g.size;omega) (λk e=>by have:=(ko k e).1;omega),I⟩)
   ⟨h7.out,ky.out,.inl rfl⟩
   (λi V _=>V={ tmps:=#[.agg (aY C),Z7 Z8 (kept:Int),Z6 (ZW ⟨w.heap.size,0,ZX⟩),Z6 (ZW ⟨w.heap.size+1,0,ZX⟩),Z6 (ZW ⟨w.heap.size+1+1,0,ZX⟩),Z6 (ZW ⟨f,0,ZX⟩),Z6 (ZW ⟨a,0,ZX⟩),Z6 (ZW ⟨d.heap.size,0,ZX⟩),Z6 (ZW ⟨j,0,ZX⟩),Z6 (ZW ⟨X.heap.size,0,ZX⟩),Z7 Z9 (i.1:Int),u6,u7,u8,.func (.func 225) #[] #[Z6 (ZW ⟨a,0,ZX⟩)],.agg (aY C),Z7 Z8 (kept:Int),.func (.func 225) #[] #[Z6 (ZW ⟨a,0,ZX⟩)],.func (.func 228) #[] #[Z6 (ZW ⟨t.heap.size,0,ZX⟩),Z6 (ZW ⟨t.heap.size+1,0,ZX⟩),Z6 (ZW ⟨t.heap.size+1+1,0,ZX⟩)],.agg (aY x),Z7 Z8 (kept:Int),.func (.func 147) #[] #[Z6 (ZW ⟨X.heap.size+1,0,ZX⟩)],Z7 Z9 (i.1:Int),ZY,ZY,ZY,ZY,ZY,ZY,ZY,ZY,ZY,ZY,ZY,ZY],defers:=[] })
   (λ_ _ _ _ _ _ hs _ _=>hs)
   ?assign2 ?body2 ?done2 ?stop2
  case assign2=>
   rintro l2 pre i Y K hi hK;unfold qK;gi_wp2;exact hK _ _ (Yg _ _) (Fz.refl _) hi rfl
  case body2=>
   rintro l2 pre i V Y _ _ ⟨q,g,I⟩ rfl xc;have h9:=hx.out.lt;have qc:=hx.out.keep (q.block j h9);have qd:=Rq x pre;have xa:(ab kept).length<=16:=(by rw [<- kA kept];exact pE kept);have qy:=ak q;have qz:=ak g;have x0:=ak I;have c9:=g.cell;have f9:=g.frozen;have qg:=xu j i.1 x Y qc qb i.2;have qi:=Ns x pre i;have q6:=ak qi;have y:bW X (Y.setCell ⟨X.heap.size,0,ZX⟩ (Z7 Z9 ((cR x pre:Int)+1))):=q.setCell (p:=⟨X.heap.size,0,ZX⟩) lR _;have kc:=E.o.mono y (.inl lR);have c7:=kc.Sj.cell;have S:=kc.least.cell;have kb:=g.set (Z7 Z9 ((cR x pre:Int)+1));have xv:=kb.cell;unfold fU at c7;have k8:=ak y;have qo:=ak kb;clear q g I qi y kc kb qc;gi_wp2;refine dq qg ?_;clear qg;rintro e G ⟨rfl,kr⟩;subst kr;cases k6:cF x i.1 with
   | false=>
    have L:b9 (cR x (pre++[i])=cR x pre):=ak (by rw [q6.out,k6];simp);clear k6;gi_wp2;refine ⟨Yg _ _,Fz.refl _,qy.out,?_,?_⟩
    . rw [L.out];exact qz.out
    . rw [L.out];exact x0.out
   | true=>
    have L:b9 (cR x (pre++[i])=cR x pre+1):=ak (by rw [q6.out,k6];simp);clear k6;gi_wp2;refine dq (KL (cR x pre+1) s.2 a _ (by omega) S) ?_;rintro e y5 ⟨rfl,ks⟩;have qf:KeepsFrom w'.heap.size G (G.setCell ⟨X.heap.size,0,ZX⟩ (Z7 Z9 ((cR x pre:Int)+1))):=(VY _ _ _).from _;have q4:=ak qf;clear qf;subst ks;by_cases hp:cR x pre+1<s.2
    . rw [UY hp];gi_wp2;refine ⟨q4.out,λ_=>hT.mono (by omega) (E.o.mono k8.out (.inl lR)).below,k8.out,?_,?_⟩
      . rw [L.out];exact qo.out
      . rw [L.out];exact .inr hp
    . rw [Vc hp];gi_wp2;refine ⟨q4.out,rfl,k8.out,?_,?_⟩
      . rw [L.out];omega
      . rw [L.out];omega
  case done2=>
   rintro ys Y xf ⟨q,g,I⟩;have qd:=P9 (x:=x) xf;rw [qd] at g I;have b:=E.o.mono q (.inl lR);have h9:=hx.out.lt;have ke:=hx.out.keep (q.block j h9);have qe:=q0.out;gi_wp2;have k7:=x1.out;have xp:j≠f:=(by omega);have xq:=(xO b.Ss g).symm;have F:=(xO b.Ss b.least).symm;have h8:∀ k,k≠f->k<Y.heap.size->(Y.drew.setRow f (aY x)).heap[k]?=Y.heap[k]?:=λk U hp=>(aQ Y.drew f (aY x)).block k hp (λe=>U (by cases e;rfl));have ka:=b.least.keep (h8 a F b.least.lt);have cc:=ka.cell;have ff:=ka.frozen;have hq:=kt x (show aF Y.drew f s.1 from b.Ss);refine bB (dr _) 3 [(0,ZV),(1,ZV),(2,ZU),(3,ZU)] (λw'=>aF w' j x/\w'.cell? ⟨X.heap.size,0,ZX⟩=ZW (Z7 Z9 (gJ (ab kept) x:Int))) (by kernel_rfl) (by kernel_rfl) ⟨ke,g.cell⟩ ?_;refine aC rfl rfl ⟨.agg (aY x),λw' M=>by simp [execOp,Act.eval,l9 M.1,Result.andThen],?_⟩;simp only [Act.put,TX,TY,TZ];refine aC rfl rfl ⟨Z7 Z9 (gJ (ab kept) x:Int),λw' M=>by have s2:=M.2;go_simp,?_⟩;simp only [Act.put,TX,TY,TZ];refine dS (dr _) (w1:=Y.drew.setRow f (aY x)) rfl rfl nofun (by simp [execOp,Act.eval,hq,Result.andThen]) (λ_=>⟨ke.keep (h8 j xp ke.lt),(g.keep (h8 _ xq g.lt)).cell⟩) ?_;simp only [Act.put];refine dS (dr _) (w1:=(Y.drew.setRow f (aY x)).setCell ⟨a,0,ZX⟩ (Z7 Z9 (gJ (ab kept) x:Int))) rfl rfl nofun (by go_simp) AR (cB ?_);clear cc ff hq ka h8;have N:fs (ab kept) s x=(x,gJ (ab kept) x):=(by unfold fs;rw [TT I]);rw [N];have F:=xO b.Ss b.least;have qr:=xO b.Ss b.Sj;have xo:=xO b.Ss b.set;have hd:=xO b.res b.least;have Z:∀ k,k≠f->k≠a->k<Y.heap.size->((Y.drew.setRow f (aY x)).setCell ⟨a,0,ZX⟩ (Z7 Z9 (gJ (ab kept) x:Int))).heap[k]?=Y.heap[k]?:=λk k1 k2 k3=>
    (V7 _ _ _ _ k2).trans ((aQ Y.drew f (aY x)).block k k3 (λe=>k1 (by cases e;rfl)))
   have T:Y.heap.size<=((Y.drew.setRow f (aY x)).setCell ⟨a,0,ZX⟩ (Z7 Z9 (gJ (ab kept) x:Int))).heap.size:=(by simp [World.setCell,World.setRow]);have xj:=q.size;have y0:w.heap.size<=f:=(by have:=hy.out;omega);have y3:w.heap.size<=a:=(by have:=hy.out;omega);refine ⟨⟨?_,?_,?_,?_,?_,?_⟩,?_⟩
   . exact (((show aF Y.drew f s.1 from b.Ss).setRow x)).keep (V7 _ _ _ _ F)
   . exact ((show Bx Y.drew a _ from b.least).keep ((aQ Y.drew f (aY x)).block a b.least.lt (λe=>F (by cases e;rfl)))).set _
   . exact b.Sj.keep (Z _ (Vk qr) (by omega) b.Sj.lt)
   . exact b.set.keep (Z _ (Vk xo) (by have:=hy.out;omega) b.set.lt)
   . exact b.res.keep (Z _ (by have:=hy.out;omega) hd b.res.lt)
   . exact b.below.trans ⟨rfl,rfl,rfl,T,λk U=>Z k (by omega) (by omega) (by have:=b.below.size;omega)⟩
   . exact (bu.RM q).trans ⟨rfl,rfl,rfl,T,λk k1 k2=>Z k (by omega) (by omega) k2⟩
  case stop2=>
   rintro c pre Y kk ⟨rfl,q,g,I⟩;have xm:=Nt (x:=x) kk;have N:fs (ab kept) s x=s:=(by unfold fs;rw [TS (by omega)]);rw [N];gi_wp2;exact ⟨E.o.mono q (.inl lR),bu.RM q⟩
 case done=>
  rintro D s X hD rfl H hK;have hb:=H.Ss;have qh:=H.res;have E:=ak H;have hc:=bX dL;gi_wp2_with (first
   | (refine ku rfl (Z0 5) rfl f (aP 8 C kept).1 rfl hb ?_)
   | (refine jF rfl (Z0 4) (Z0 34) rfl (w.heap.size+1+1) (aP 8 C kept).1 dL rfl rfl qh ?_))
  have qa:(X.setRow (w.heap.size+1+1) (aY (aP 8 C kept).1)).heap[D]?=ZW (.deferred (ZW [])):=((aQ X (w.heap.size+1+1) _).block D (T5.1 hK).1 (λe=>by cases e;omega)).trans hK;refine ⟨by simp,.inl ⟨_,_,rfl,Wv qa,?_⟩⟩;have km:aF ((X.setRow (w.heap.size+1+1) (aY (aP 8 C kept).1)).putObj D (.deferred ZX)) (w.heap.size+1+1) (aP 8 C kept).1:=(qh.setRow (aP 8 C kept).1).keep (UO (by omega));have x9:bW w ((X.setRow (w.heap.size+1+1) (aY (aP 8 C kept).1)).putObj D (.deferred ZX)):=
   Below.RO (E.o.below.grown (aQ _ _ _) E.o.below.size (λk e=>by cases e;omega)) (by omega) (T5.1 qa).1 _
  exact ⟨.agg (aY (aP 8 C kept).1),Wk results212 _ _ (w.heap.size+1+1) 332 (aY (aP 8 C kept).1) (0,0) _ rfl km.heap XH rfl (dW _),rfl,x9⟩
end
def Nu (m:Nat->Nat->Nat) (q:Nat) (src:a8):Nat->Nat->Nat:=λr j=>if r=q/\j<src.length then src.getD j 0 else m r j
theorem BY (z:o.guard=ZX) (d s:Operand)
 (ho:o.op=.call { callee:=.builtin .copy,args:=#[d,s],argTypes:=#[40,40] }) (b q:Nat) (v:ZS) (hd:a.eval d=Z5 (ZW ⟨b,q*16,ZX⟩) 16 16) (hs:a.eval s=v)
 (C:Ck) (src:a8) (hC:aF w b C) (hq:q<8) (hS:Bs w v src) (h8:src.length<=16)
 (h:∀ w',aF w' b ⟨Nu C.m q src,C.told,C.count⟩->ZR b w w'->wpList ZN ops Q rest (a.put o.dst (goInt src.length)) w'):wpList ZN ops Q (o::rest) a w:=by
 obtain ⟨ao,c,rfl,J,K,L,t⟩:=hS;refine aaX z d s 40 40 ho 5 Um (by kernel_rfl) (ZW ⟨b,q*16,ZX⟩) ao 16 16 src.length c hd hs b (q*16) _ 332 hC.heap (src.map (λx=>Value.int .u8 ((x:Nat):Int))) ?_ ?_ ?_ ?_ b w (TW _ _) lR ?_
 . rw [Ue];show src.length=min src.length 16;omega
 . intro l;rw [Ue] at l;obtain ⟨I,off,rfl,D⟩:=t (by intro e;rw [e] at l;simp at l);refine ⟨rfl,_,rfl,λj u k=>?_⟩;have g:j<src.length:=by
    obtain ⟨q,_⟩:=U9.1 k;simpa using q
   rw [Vl,D j g];simp [g] at k;simp [g,k]
 . simp;omega
 . intro u E;obtain ⟨x,_,rfl⟩:=T9.1 E;rfl
 . intro w' A y;have F:=A.out;rw [Ue];refine h w' ⟨_,F,?_,λi r=>?_⟩ y
   . rw [UH,length_splice _ _ _ (by simp;omega)];simp
   . unfold splice;rw [Xz];have p:∀ x,x<130->((YE 130).map (nr C))[x]?=ZW (nr C x):=λx G=>by rw [UG,WK G];rfl
     have B:((YE 130).map (nr C)).length=130:=(by rw [Ue,Vn]);by_cases H:i<q*16
     . rw [Vv (by simp;omega),Yz,TT H,p i r];congr 1;unfold nr;rw [TT (by omega),TT (by omega)];show _=Value.int .u8 ((Nu C.m q src (i/16) (i%16):Nat):Int);unfold Nu;rw [TS (by omega)]
     . have n:(((YE 130).map (nr C)).take (q*16)).length=q*16:=(by rw [Uo,B];omega);rw [U6 (by rw [n];omega),n];by_cases M:i<q*16+src.length
       . rw [Vv (by simp;omega)];have f:i-q*16<src.length:=(by omega);rw [UG,Uc f];simp only [X7];congr 1;unfold nr;rw [TT (by omega)];show _=Value.int .u8 ((Nu C.m q src (i/16) (i%16):Nat):Int);unfold Nu;rw [TT (by omega),show i%16=i-q*16 by omega,Ub,Uc f];rfl
       . rw [U6 (by simp;omega)];simp only [Ue];rw [Wi,show q*16+src.length+(i-q*16-src.length)=i by omega,p i r];congr 1;unfold nr;by_cases f:i<128
         . rw [TT f,TT f];show _=Value.int .u8 ((Nu C.m q src (i/16) (i%16):Nat):Int);unfold Nu;rw [TS (by omega)]
         . rw [TS f,TS f]
theorem Ek (h:aF w b C) (q i v:Nat) (d:q<8) (c:i<16):aF (w.setCell ⟨b,q*16+i,ZX⟩ (Z7 .u8 (v:Int))) b ⟨λr j=>if r=q/\j=i then v else C.m r j,C.told,C.count⟩:=
 (h.set (q*16+i) (Z7 .u8 (v:Int))).congr (λx f=>by
  unfold nr;by_cases e:x=q*16+i
  . rw [TT e,TT (by omega)];show _=Value.int .u8 ((if x/16=q/\x%16=i then v else _:Nat):Int);rw [TT (by omega)]
  . rw [TS e];by_cases a:x<128
    . rw [TT a,TT a];show _=Value.int .u8 ((if x/16=q/\x%16=i then v else C.m (x/16) (x%16):Nat):Int);rw [TS (by omega)]
    . rw [TS a,TS a])
def mf (M:List a8) (i j:Nat):Nat:=(M.getD i []).getD j 0
theorem KM (M:Nat->Nat->Nat) (D:Nat):jV M D 0=dL:=by
 unfold jV dL;congr 1
theorem KN (M:List a8) (D k:Nat) (hl:(M.getD (D+k) []).length=D) :
 (⟨λr j=>if r=k/\j=D+k then 1 else Nu (jV (mf M) D k).m k (M.getD (D+k) []) r j,0,k+1⟩:Ck)=jV (mf M) D (k+1):=by
 unfold jV;congr 1;funext r j;show (if r=k/\j=D+k then 1 else (if r=k/\j<(M.getD (D+k) []).length then (M.getD (D+k) []).getD j 0 else (if r<k then (if j<D then mf M (D+r) j else if j=D+r then 1 else 0) else 0)))=(if r<k+1 then (if j<D then mf M (D+r) j else if j=D+r then 1 else 0) else 0);rw [hl];by_cases e:r=k
 . subst e;by_cases a:j=D+r
   . simp [a];intro h;omega
   . by_cases b:j<D
     . simp [a,b,mf]
     . simp [a,b]
 . by_cases a:r<k
   . simp [e,a,show r<k+1 by omega]
   . simp [e,a,show ¬ r<k+1 by omega]
def CoR (w:ZT) (M:List a8) (D:Nat) (i:ZS) (wr:ZT):Prop:=
 ∃ k:Nat,D+k<=M.length/\i=Z7 Z9 (k:Int)/\aF wr (w.heap.size+1) (jV (mf M) D k)/\aF wr w.heap.size dL/\bW w wr
theorem zM (b off c:Nat) (M:List a8) (D:Nat) (w:ZT) (k0:M.length<=c) (L:∀ i (hi:i<M.length),∃ u,w.cell? ⟨b,off+i,ZX⟩=ZW u/\Bs w u M[i]) (hD:1<=D) (k9:D<M.length) (k8:M.length<=16) (hP:M.length<=D+8) (F:∀ i,i<M.length->(M.getD i []).length=D) :
 ZQ ZN 219 #[Z5 (ZW ⟨b,off,ZX⟩) M.length c,Z7 Z9 D] w λe w'=>e=Z3 (.agg (aY (jV (mf M) D (M.length-D))))/\bW w w':=by
 have hz:=zeroCk;have ka:(D:Int)<=(M.length:Int):=by omega
 have hy:¬ c<=D:=by omega
 have N:=ak L;have E:=ak F;clear L F;have K:CoR w M D (Z7 Z9 (0:Nat)) ((w.alloc (Z4 (aY dL) 332)).alloc (Z4 (aY dL) 332)):=by
  refine ⟨0,by omega,rfl,?_,(aF.new w dL).keep (V8 _ _ _ (by simp)),(bA _ _).alloc (by simp) _⟩;rw [KM];have h:=aF.new (w.alloc (Z4 (aY dL) 332)) dL;rw [Ul] at h;exact h
 have G:=ak K;clear K;go_enter func219,ntmps219;go_wp2;clear hz;go_loopw [12] (λi wr=>CoR w M D i wr) (λi _=>(M.length-D)-(intOf i).toNat)
 case atStart=>exact G.out
 case round=>
  clear G;rename ZT=>wo;obtain ⟨k,hk,rfl,A,B,f⟩:=hrel;by_cases y:D+k<M.length
  . have k5:(k:Int)<((M.length-D:Nat):Int):=(by omega);obtain ⟨u,C,J⟩:=N.o (D+k) y;have kf:wo.cell? ⟨b,off+D+k,ZX⟩=ZW u:=(by rw [Vq,f.cell (Uf C)];exact C);have H:=J.mono f;have n:=E.o (D+k) y;have s:M.getD (D+k) []=M[D+k]:=(by simp [y]);rw [s] at n;have z:=KN M D k (by rw [s];exact n);rw [s] at z;have ke:=λw'=>ph w' (w.heap.size+1) (k*16);have kc:(k:Int)<8:=(by omega);have kb:(D:Int)+(k:Int)<16:=(by omega);have kh:wrap64 ((D:Int)+(k:Int))=((D+k:Nat):Int):=(by unfold wrap64;omega);have k7:IntKind.i64.wrap ((D:Int)+(k:Int))=((D+k:Nat):Int):=(by rw [Ux];omega);have kg:wrap64 ((k:Int)+1)=((k+1:Nat):Int):=(by unfold wrap64;omega);have k6:IntKind.i64.wrap ((k:Int)+1)=((k+1:Nat):Int):=(by rw [Ux];omega);have V:=ak z;have g:=ak H;have x:=ak A;have l:=ak B;have S:=ak f;have W:=ak n;clear z H A B f J C E s n;generalize M[D+k]=row at *;go_wp2_with (refine BY rfl (Z0 20) (Z0 21) rfl (w.heap.size+1) k _ rfl rfl _ row x.out (by omega) g.o (by have:=W.out;omega) ?_;intro w2 a d;have c1:=a.at k (D+k) (by omega) (by omega);have f1:=a.frozen (k*16+(D+k));have O:(w2.setCell ⟨w.heap.size+1,k*16+(D+k),ZX⟩ (Z7 .u8 1)).cell? ⟨w.heap.size+1,129,ZX⟩=ZW (Z7 Z9 (k:Int)):=(Ek a k (D+k) 1 (by omega) (by omega)).So;have Q:(w2.setCell ⟨w.heap.size+1,k*16+(D+k),ZX⟩ (Z7 .u8 1)).frozen? ⟨w.heap.size+1,129,ZX⟩=ZU:=(Ek a k (D+k) 1 (by omega) (by omega)).frozen 129;have T:=ak a;have R:=ak d;clear a d);have a:=T.out;have d:=R.out;have Y:=Ek a k (D+k) 1 (by omega) (by omega);have Z:=xB Y (k+1);have hv:=l.o.keep (d.block w.heap.size (by omega));have P:(⟨(⟨λr j=>if r=k/\j=D+k then 1 else Nu (jV (mf M) D k).m k row r j,(jV (mf M) D k).told,(jV (mf M) D k).count⟩:Ck).m,(jV (mf M) D k).told,k+1⟩:Ck)=jV (mf M) D (k+1):=V.out;have hs:aF ((w2.setCell ⟨w.heap.size+1,k*16+(D+k),ZX⟩ (Z7 .u8 1)).setCell ⟨w.heap.size+1,129,ZX⟩ (Z7 Z9 ((k+1:Nat):Int))) (w.heap.size+1) (jV (mf M) D (k+1)):=(by rw [<- P];exact Z);have hx:aF ((w2.setCell ⟨w.heap.size+1,k*16+(D+k),ZX⟩ (Z7 .u8 1)).setCell ⟨w.heap.size+1,129,ZX⟩ (Z7 Z9 ((k+1:Nat):Int))) w.heap.size dL:=
     hv.keep ((V7 _ _ _ _ (by show w.heap.size≠w.heap.size+1;omega)).trans (V7 _ _ _ _ (by show w.heap.size≠w.heap.size+1;omega)))
    have X:bW w ((w2.setCell ⟨w.heap.size+1,k*16+(D+k),ZX⟩ (Z7 .u8 1)).setCell ⟨w.heap.size+1,129,ZX⟩ (Z7 Z9 ((k+1:Nat):Int))):=
     ((S.out.trans (d.mono (by omega))).setCell (p:=⟨w.heap.size+1,k*16+(D+k),ZX⟩) (by show w.heap.size<=w.heap.size+1;omega) _).setCell (p:=⟨w.heap.size+1,129,ZX⟩) (by show w.heap.size<=w.heap.size+1;omega) _
    have t:=aE hs hx X;go_roundw
    case rel=>exact ⟨k+1,by omega,by go_num,t.o.1,t.o.2.1,t.o.2.2⟩
    case measure=>simp [intOf];omega
  . have k5:¬ (k:Int)<((M.length-D:Nat):Int):=(by omega);have I:M.length-D=k:=(by omega);have U:=ak I;have g:=ak f;have x:=ak A;have l:=ak B;clear I;go_wp2_with (first
     | refine aaB rfl 332 (Z0 5) rfl (w.heap.size+1) rfl 332 (aY (jV (mf M) D k)) (0,0) _ x.out.heap XH rfl (dW _) ?_
     | refine Ww rfl 332 (Z0 4) (Z0 35) rfl w.heap.size (aY (jV (mf M) D k)) rfl rfl 332 (aY dL) l.o.heap (dW _) (by rw [bX,bX]) (l8 _) ?_)
    refine Us (v:=.agg (aY (jV (mf M) D k))) (Wk results219 _ _ w.heap.size 332 (aY (jV (mf M) D k)) (0,0) _ rfl (l.o.setRow (jV (mf M) D k)).heap XH rfl (dW _)) rfl ?_;rw [U.out];exact ⟨rfl,g.o.grown (aQ _ _ _) g.o.size (λq e=>by cases e;exact TU _)⟩
def aw (n lost:Nat):Nat:=lost &&& (2^n-1)
def bz (n lost:Nat):Nat:=(2^n-1) &&& (18446744073709551615-aw n lost)
def jc (h:n<=16):2^n<=65536:=UW (n:=2) (i:=n) (j:=16) (by decide) h
def xP (n lost i:Nat):(aw n lost).testBit i=(lost.testBit i&&decide (i<n)):=by unfold aw;rw [XA,Xt]
def ot (lost:Nat) (h:n<=16):aw n lost<65536:=by
 have:=jc h;have:aw n lost<=2^n-1:=Nat.and_le_right;have:0<2^n:=VH n;omega
def BZ (lost:Nat) (h:n<=16):bz n lost<65536:=by
 have:=jc h;have:bz n lost<=2^n-1:=WH;have:0<2^n:=VH n;omega
def pS (lost i:Nat) (h:n<=16):(bz n lost).testBit i=(decide (i<n) && !lost.testBit i):=by
 have:=ot lost h;unfold bz;rw [XA,Xt,show 18446744073709551615-aw n lost=2^64-(aw n lost+1) by omega,Xs (by omega),xP];by_cases a:i<n
 . simp [a,show i<64 by omega]
 . simp [a]
theorem bL (h:n<=16):i∈ab (aw n lost)↔i<n/\lost.testBit i=ZV:=by
 rw [cE,xP];simp only [VK,VW];constructor
 . rintro ⟨_,a,b⟩;exact ⟨b,a⟩
 . rintro ⟨a,b⟩;exact ⟨by omega,b,a⟩
theorem ou (h:n<=16):i∈ab (bz n lost)↔i<n/\lost.testBit i=ZU:=by
 rw [cE,pS lost i h];simp only [VK,VW,Yv];constructor
 . rintro ⟨_,a,b⟩;exact ⟨a,b⟩
 . rintro ⟨a,b⟩;exact ⟨by omega,a,b⟩
def El (s:Nat):(ab s).Nodup:=List.Pairwise.filter _ List.nodup_range
def KO {v:ZS} {T:List (Nat×Nat×a8)} (h:eu w B v T) (d:cL T D M) (k:∀ r∈M,r.length=D) (m:M≠[]) :
 ∃ g c,v=Z5 (ZW ⟨g,0,ZX⟩) M.length c/\M.length<=c/\∀ i (b:i<M.length),∃ u,w.cell? ⟨g,0+i,ZX⟩=ZW u/\Bs w u M[i]:=by
 have f:T.length=M.length:=by simpa using Uy List.length d
 rcases h.own.2 with ⟨_,n⟩|⟨g,c,cur,rfl,_,_,o,_⟩
 . exact absurd (UU (by omega)) m
 . refine ⟨g,c,by rw [f],by omega,λi b=>?_⟩;have a:i<T.length:=(by omega);refine ⟨fx T[i],by rw [Uj];exact h.Sk a,?_⟩;have:=h.S3 a;have j:T[i].2=(D,M[i]):=by
    have:=Uy (λl=>l[i]?) d;simpa [a,b] using this
   rw [j] at this;have e:(M[i]).take D=M[i]:=(by rw [<- k _ (T6 b),Vu]);rw [e] at this;exact this
def FO (D L G i:Nat) (a:i<D):(aT D L G).getD i []=dh D i:=by
 unfold aT;rw [Uz,Ub,Vv (by simpa using a)];simp [a]
def jH (D L G:Nat) (c:D<=12) (d:G<=4):Gf.Code (mf (aT D L G)) D (L+G):=by
 refine ⟨λi j=>?_,λi a j=>?_,λi j b=>?_⟩
 . unfold mf;by_cases a:i<(aT D L G).length
   . have e:(aT D L G).getD i []=(aT D L G)[i]:=(by simp [a]);rw [e];exact dm (oh D L G c d _ (T6 a)) j
   . have e:(aT D L G).getD i []=[]:=(by simp [a]);rw [e];simp
 . unfold mf;rw [FO D L G i a];unfold dh;rw [Ub,Xf];by_cases e:i=j
   . subst e;simp [a]
   . simp only [e,if_false];rw [TS (λh=>e h.symm)];by_cases b:j<D
     . simp [b]
     . simp [b]
 . unfold mf;by_cases a:i<(aT D L G).length
   . have e:(aT D L G).getD i []=(aT D L G)[i]:=(by simp [a]);have:=kl D L G _ (T6 a);rw [e,Ub,Vj (by omega)];rfl
   . have e:(aT D L G).getD i []=[]:=(by simp [a]);rw [e];simp
def jI (D L G:Nat):Ck:=jV (mf (aT D L G)) D (L+G)
def zN (d:D<=12) (g:L<=4) (f:G<=4) {pre:a8} {C:Ck} (h:tells (jI D L G) pre=ZW C):eA C:=by
 rcases (jH D L G d f).told pre with ⟨c,a,b⟩|⟨a,_⟩
 . have e:tells (jI D L G) pre=ZW c:=a;rw [h] at e;obtain rfl:=UM e;exact ⟨b.byt,b.le,by have:C.count=L+G:=b.count;omega⟩
 . have e:tells (jI D L G) pre=ZX:=a;rw [h] at e;cases e
def PB (W:ZT) (n0 Bg:Nat) (regs:Int) (L:List St):Prop:=
 Bg<n0/\n0<=W.heap.size/\∃ v,W.heap[Bg]?=ZW (Z4 #[Z7 Z9 regs,v] 206 (0,0))/\W.ownsRow n0 299 4 v L.length (eB .u8 L)
def Tryz.Te:(ZN.info? 299).map (λi=>(i.zero,i.size,i.bytes))=ZW (ZW (.agg #[Z7 .u8 0,Z7 Z9 0,Z7 Z9 0,Z7 .u8 0]),4,32):=by kernel_rfl
def zO {F:Fence} (p:o.guard=ZX) (x y:Operand) (ho:o.op=.call { callee:=.builtin .append,args:=#[x,y],argTypes:=#[204,204] })
 (n0 q:Nat) (L:List St) (s:St) (v:ZS) (hx:a.eval x=v) (hy:a.eval y=Z5 (ZW ⟨q,0,ZX⟩) 1 1) (h3:w.ownsRow n0 299 4 v L.length (eB .u8 L)) (hc:∀ j u,(G2 .u8 s)[j]?=ZW u->w.cell? ((⟨q,0,ZX⟩:Addr).add j)=ZW u) (h6:n0<=w.heap.size) (hL:L.length<=100000)
 (hK:∀ g' cap' w2,n0<=g'->w2.ownsRow n0 299 4 (Z5 (ZW ⟨g',0,ZX⟩) (L.length+1) cap') (L.length+1) (eB .u8 (L++[s]))->w.grownBy w2 v.ownBlock->wpListIn F n ZN ops Q rest (a.put o.dst (Z5 (ZW ⟨g',0,ZX⟩) (L.length+1) cap')) w2):wpListIn F n ZN ops Q (o::rest) a w:=by
 obtain ⟨t,h,i,k,l⟩:=Ut Tryz.Te;refine wpListIn_append_own w p x y 204 ho n0 299 t (.agg #[Z7 .u8 0,Z7 Z9 0,Z7 Z9 0,Z7 .u8 0]) 4 32 underlying204 h i k l rfl (by decide) v L.length (eB .u8 L) hx h3 ⟨q,0,ZX⟩ 1 1 (G2 .u8 s) hy (by simp [G2]) hc (λu c=>by simp [G2] at c;rcases c with rfl|rfl|rfl|rfl<;>rfl) (by unfold maxLen;omega) (by omega) h6 ?_;intro z w2 b d _;obtain ⟨g',cap',rfl,f⟩:∃ g' cap',z=Z5 (ZW ⟨g',0,ZX⟩) (L.length+1) cap'/\n0<=g':=by
  rcases b.2 with ⟨_,A⟩|⟨g,cap,cur,r,m,_⟩
  . omega
  . exact ⟨g,cap,r,m⟩
 have e:eB .u8 L++G2 .u8 s=eB .u8 (L++[s]):=by rw [qS];simp [eB]
 rw [e] at b;exact hK g' cap' w2 f b d
def jJ {v:ZS} {xs:List ZS} {t:ZP} (h:w.ownsRow n0 t 4 v k xs) {q:Nat} (e:v.ownBlock=ZW q):n0<=q:=(h.lt q e).1
def PB.next {L:List St} {v:ZS} {ob:Obj} (h:Bg<n0) (x:n0<=W.heap.size) (n:W.heap[Bg]?=ZW (Z4 #[Z7 Z9 regs,v] 206 (0,0))) (f:W.ownsRow n0 299 4 v L.length (eB .u8 L))
 (a:(W.alloc ob).grownBy w2 v.ownBlock) (u:n0<=g') (m:w2.ownsRow n0 299 4 (Z5 (ZW ⟨g',0,ZX⟩) (L.length+1) cap') (L.length+1) (eB .u8 (L++[s]))) :
 PB (w2.setCell ⟨Bg,1,ZX⟩ (Z5 (ZW ⟨g',0,ZX⟩) (L.length+1) cap')) n0 Bg regs (L++[s])/\w2.cell? ⟨Bg,1,ZX⟩=ZW v/\w2.frozen? ⟨Bg,1,ZX⟩=ZU /\
  (∀ k,k<n0->k≠Bg->(w2.setCell ⟨Bg,1,ZX⟩ (Z5 (ZW ⟨g',0,ZX⟩) (L.length+1) cap')).heap[k]?=W.heap[k]?)/\KeepsOthers W (w2.setCell ⟨Bg,1,ZX⟩ (Z5 (ZW ⟨g',0,ZX⟩) (L.length+1) cap')) /\
  (w2.setCell ⟨Bg,1,ZX⟩ (Z5 (ZW ⟨g',0,ZX⟩) (L.length+1) cap')).os=W.os/\(w2.setCell ⟨Bg,1,ZX⟩ (Z5 (ZW ⟨g',0,ZX⟩) (L.length+1) cap')).tape=W.tape/\(w2.setCell ⟨Bg,1,ZX⟩ (Z5 (ZW ⟨g',0,ZX⟩) (L.length+1) cap')).output=W.output:=by
 have hold:∀ k,k<n0->w2.heap[k]?=W.heap[k]?:=λk b=>(a.block k (by simp;omega) (λe=>by have:=jJ f e.symm;omega)).trans (nW W _ k (by omega));have d:=(hold Bg h).trans n;obtain ⟨_,c1,l,_⟩:=ay d;have w:W.heap.size<=w2.heap.size:=by have:=a.size;simp at this;omega
 have p:(w2.setCell ⟨Bg,1,ZX⟩ (Z5 (ZW ⟨g',0,ZX⟩) (L.length+1) cap')).heap[Bg]?=ZW (Z4 #[Z7 Z9 regs,Z5 (ZW ⟨g',0,ZX⟩) (L.length+1) cap'] 206 (0,0)):=by
  obtain ⟨r,b⟩:=T5.1 d;show (w2.heap.modify Bg _)[Bg]?=_;rw [VV (by rw [YK];exact r),YL,b];rfl
 refine ⟨⟨h,by simp [World.setCell];omega,_,p,?_⟩,c1,l,λk b t=>(V7 _ _ _ _ t).trans (hold k b),?_,a.os,a.tape,a.output⟩
 . have:=m.kept (dz w2 Bg 1 (Z5 (ZW ⟨g',0,ZX⟩) (L.length+1) cap')) (.inr (by simp [Value.ownBlock];omega));simpa using this
 . refine ((KeepsOthers.alloc W ob).trans (aba a λj o c i=>?_)).trans (VY _ _ _);rcases (f.alloc ob).2 with ⟨rfl,_⟩|⟨g,cap,cur,rfl,_,q,_⟩
   . simp [Value.ownBlock] at c
   . obtain rfl:g=j:=(by simpa [Value.ownBlock] using c);rw [q] at i;cases i;rfl
theorem PB.own {row:Option Nat} {L:List St} (h:PB X n0 Bg regs L) (m:n0<=B) (a:X.grownBy Y row) (c:∀ r,row=ZW r->B<=r/\∃ o:Obj,X.heap[r]?=ZW o/\o.isCells=ZU):PB Y n0 Bg regs L:=by
 obtain ⟨i,j,v,k,b⟩:=h;refine ⟨i,TV j a.size,v,(a.block Bg (by omega) (λe=>by have:=(c Bg e.symm).1;omega)).trans k,b.kept a ?_⟩;rcases b.2 with ⟨rfl,_⟩|⟨g,cap,cur,rfl,_,f,_⟩
 . exact .inl rfl
 . refine .inr λd=>?_;obtain ⟨_,o,ho,l⟩:=c g (by simpa [Value.ownBlock] using d.symm);rw [f] at ho;cases ho;cases l
def lH (C:Ck) (i:Nat):List St:=if cF C i=ZV then ⟨0,0,i,0⟩::((YE C.told).filter (λr=>decide (C.m r i≠0))).map (λr:Nat=>(⟨1,1+(r:Int),0,C.m r i⟩:St)) else []
def wrTo (C:Ck) (pre:a8):List St:=(pre.map (lH C)).flatten
def xQ (C:Ck) (pre:a8) (i:Nat):wrTo C (pre++[i])=wrTo C pre++lH C i:=by unfold wrTo;simp
def gG (C:Ck) (i k:Nat):List St:=((YE k).filter (λr=>decide (C.m r i≠0))).map (λr:Nat=>(⟨1,1+(r:Int),0,C.m r i⟩:St))
def tU (C:Ck) (i:Nat):gG C i 0=[]:=rfl
def B1 (C:Ck) (i k:Nat) (h:C.m k i≠0):gG C i (k+1)=gG C i k++[⟨1,1+(k:Int),0,C.m k i⟩]:=by unfold gG;rw [Vr];simp [h]
def xR (C:Ck) (i k:Nat) (h:C.m k i=0):gG C i (k+1)=gG C i k:=by unfold gG;rw [Vr];simp [h]
def B3 (C:Ck) (i k:Nat):(gG C i k).length<=k:=by
 unfold gG;rw [Ue];exact TV (WO _ _) (by simp)
def ir (h:cF C i=ZV):lH C i=⟨0,0,i,0⟩::gG C i C.told:=by unfold lH gG;rw [TT h]
def lI (h:cF C i=ZU):lH C i=[]:=by unfold lH;simp [h]
def KQ (C:Ck) (i:Nat):(lH C i).length<=C.told+1:=by
 cases h:cF C i
 . rw [lI h];simp
 . rw [ir h];have:=B3 C i C.told;simp;omega
theorem se (C:Ck):∀ pre:a8,(wrTo C pre).length<=pre.length*(C.told+1)
 | []=>by simp [wrTo]
 | i::pre=>by
  have:=se C pre;have:=KQ C i;have e:wrTo C (i::pre)=lH C i++wrTo C pre:=by unfold wrTo;simp
  rw [e,Ua,UA,WW];omega
def fK (pre:a8):List St:=(YE pre.length).map (λk:Nat=>(⟨2,(k:Int)+1,((pre.getD k 0:Nat):Int),0⟩:St))
theorem Em (pre:a8) (i:Nat):fK (pre++[i])=fK pre++[⟨2,(pre.length:Int)+1,i,0⟩]:=by
 unfold fK;rw [Ua,aa9,Vr,Uv];congr 1
 . apply Wo;intro k a;have:=Uu.1 a;simp [this,Vv]
 . simp
def fW (C:Ck) (gone kept:Nat):List St:=wrTo C (ab kept)++fK (ab gone)
def En {B:Ck} (h:s∈fW B gone kept):(∃ i∈ab kept,s=⟨0,0,(i:Int),0⟩)\/(∃ i∈ab kept,∃ r,r<B.told/\s=⟨1,1+(r:Int),0,B.m r i⟩)\/(∃ k,∃ d:k<(ab gone).length,s=⟨2,(k:Int)+1,((ab gone)[k]:Int),0⟩):=by
 unfold fW wrTo at h;rcases Ui.1 h with h|h
 . obtain ⟨l,hl,a⟩:=YM.1 h;obtain ⟨i,c,rfl⟩:=T9.1 hl;cases hr:cF B i
   . rw [lI hr] at a;cases a
   . rw [ir hr] at a;rcases Uw.1 a with rfl|a
     . exact .inl ⟨i,c,rfl⟩
     . unfold gG at a;obtain ⟨r,e,rfl⟩:=T9.1 a;exact .inr (.inl ⟨i,c,r,Uu.1 (Vy.1 e).1,rfl⟩)
 . unfold fK at h;obtain ⟨k,d,rfl⟩:=T9.1 h;have b:=Uu.1 d;exact .inr (.inr ⟨k,b,by simp [b]⟩)
def Qa {B:Ck} (gone kept:Nat) (e:B.told<=8):(fW B gone kept).length<=160:=by
 have:=se B (ab kept);have a:∀ s,(ab s).length<=16:=λs=>TV (WO _ _) (by simp);have:(ab kept).length*(B.told+1)<=16*9:=Xe (a kept) (by omega);have:=a gone;unfold fW fK;simp only [Ua,Ue,Vn];omega
def Rr {B:Ck} (h:B.told=(ab gone).length) (b:B.told<=8) (g:∀ i∈ab kept,i<n) (d:∀ i∈ab gone,i<n):iF (1+((ab gone).length:Int)) (fW B gone kept) (n:Int):=by
 have:=Qa gone kept b;refine ⟨⟨by omega,by omega,by omega⟩,λi f=>?_⟩;rcases En (T6 f) with ⟨j,a,e⟩|⟨j,a,r,l,e⟩|⟨k,c,e⟩
 . have:=g j a;rw [e];exact .inl ⟨.inl rfl,by show (0:Int)<=0;omega,by show (0:Int)<_;omega,by show (0:Int)<=(j:Int);omega,by show (j:Int)<_;omega⟩
 . rw [e];exact .inr ⟨rfl,by show (0:Int)<=1+(r:Int);omega,by show (1+(r:Int))<_;omega,by show (0:Int)<=0;omega,by show (0:Int)<_;omega,by show (1+(r:Int))≠0;omega⟩
 . have:=d _ (T6 c);rw [e];exact .inl ⟨.inr rfl,by show (0:Int)<=(k:Int)+1;omega,by show ((k:Int)+1)<_;omega,by show (0:Int)<=((ab gone)[k]:Int);omega,by show ((ab gone)[k]:Int)<_;omega⟩
theorem Nv {α:Type} (L:List α) (f:α->a8) (v:Nat->Nat):nu (L.map f) 0 v↔∃ x∈L,v=dJ (f x):=by
 unfold nu;constructor
 . rintro ⟨i,a,_,rfl⟩;have b:i<L.length:=(by simpa using a);exact ⟨L[i],T6 b,by simp⟩
 . rintro ⟨x,c,rfl⟩;obtain ⟨i,a,rfl⟩:=US c;exact ⟨i,by simpa using a,T8 _,by simp⟩
def FP (x i:Nat):x/2^i%2=0↔x.testBit i=ZU:=by
 rw [Wu];simp
theorem B4 (M:List a8) (lost n:Nat) (h:n<=16):nu (cW M lost n) 0=Jn (mf M) n (λi=>i∉ab (aw n lost)):=by
 funext v;apply propext;unfold cW;rw [Nv];unfold Jn;constructor
 . rintro ⟨i,a,rfl⟩;obtain ⟨c,d⟩:=Vy.1 a;refine ⟨i,Uu.1 c,λb=>?_,rfl⟩;have:=(bL h).1 b;rw [(FP lost i).1 (WX d)] at this;exact absurd this.2 (by decide)
 . rintro ⟨i,a,b,rfl⟩;refine ⟨i,Vy.2 ⟨Uu.2 a,UY ((FP lost i).2 ?_)⟩,rfl⟩;cases hb:lost.testBit i
   . rfl
   . exact absurd ((bL h).2 ⟨a,hb⟩) b
theorem Eo (g:D<=12) (k:G<=4) (h:D+L+G<=16):gq D L G lost↔∃ C,tells (jI D L G) (ab (aw (D+L+G) lost))=ZW C:=by
 have a:=jH D L G g k;have e:D+(L+G)=D+L+G:=by omega
 unfold gq;rw [B4 _ _ _ h];constructor
 . intro j;rcases a.told (ab (aw (D+L+G) lost)) with ⟨C,b,_⟩|⟨_,c⟩
   . exact ⟨C,b⟩
   . refine absurd ?_ (a.TH (El _) (λi l=>by rw [e];exact ((bL h).1 l).1) c);rw [e];exact j
 . rintro ⟨C,f⟩;rcases a.told (ab (aw (D+L+G) lost)) with ⟨m,_,c⟩|⟨b,_⟩
   . have:=a.full c;rw [e] at this;exact this
   . have d:tells (jI D L G) (ab (aw (D+L+G) lost))=ZX:=b;rw [f] at d;cases d
def ox (g:D<=12) (h:G<=4) {C:Ck} (d:tells (jI D L G) (ab (aw (D+L+G) lost))=ZW C) :
 Gx (mf (aT D L G)) D (L+G) (ab (aw (D+L+G) lost)) (aP 8 C (bz (D+L+G) lost)).1/\fh (jV (mf (aT D L G)) D (L+G)) (vC (mf (aT D L G)) D (D+(L+G))) (ab (aw (D+L+G) lost)) C:=by
 have e:=jH D L G g h;rcases e.told (ab (aw (D+L+G) lost)) with ⟨f,b,c⟩|⟨b,_⟩
 . have a:tells (jI D L G) (ab (aw (D+L+G) lost))=ZW f:=b;rw [d] at a;obtain rfl:=UM a;exact ⟨e.SD c (yU 8 C _).1,c⟩
 . have a:tells (jI D L G) (ab (aw (D+L+G) lost))=ZX:=b;rw [d] at a;cases a
def bS (D L G lost:Nat) (C:Ck):List St:=fW (aP 8 C (bz (D+L+G) lost)).1 (aw (D+L+G) lost) (bz (D+L+G) lost)
section
def kZ (D:List a8) (R:List a8) (P:List St):List a8:=P.foldl (λR s=>dQ D s R) R
def tV (D R:List a8):kZ D R []=R:=rfl
def Hs (D R:List a8) (s:St) (P:List St):kZ D R (s::P)=kZ D (dQ D s R) P:=rfl
def lJ (D R:List a8) (P Q:List St):kZ D R (P++Q)=kZ D (kZ D R P) Q:=by unfold kZ;rw [Wp]
def tW (P:List St) (D a:List a8):∀ k,k<=P.length->bP P D a k=kZ D a (P.take k)
 | 0,_=>by simp [bP,kZ]
 | k+1,h=>by
  have b:k<P.length:=by omega
  show dQ D (bG P k) (bP P D a k)=_;rw [tW P D a k (by omega),dU P k b,Yx b,lJ];rfl
def tX (P:List St) (D a:List a8):∀ k,k<=P.length->(∀ i (h:i<P.length),i<k->P[i].k≠2)->dB P D a k=[]
 | 0,_,_=>rfl
 | k+1,h,hn=>by
  have b:k<P.length:=by omega
  show gY (bG P k) _ _=[];rw [tX P D a k (by omega) (λi c d=>hn i c (by omega)),dU P k b];unfold gY;rw [TS (hn k b (by omega))]
def B9 (D R:List a8) {s:St} (h:s.k=2):dQ D s R=R:=by
 unfold dQ;rw [TS (by omega),TS (by omega)]
def tY (A Q:List St) (D c:List a8) (g:∀ s∈A,s.k≠2) (j:∀ s∈Q,s.k=2):∀ k,k<=Q.length ->
 bP (A++Q) D c (A.length+k)=kZ D c A/\dB (A++Q) D c (A.length+k)=(Q.take k).map (λs=>(s.b,(kZ D c A).getD s.a.toNat []))
 | 0,_=>by
  refine ⟨?_,?_⟩
  . rw [VN,tW _ _ _ _ (by simp)];simp
  . rw [VN,tX _ _ _ _ (by simp) (λi l d=>by rw [XP d];exact g _ (T6 d))];simp
 | k+1,h=>by
  obtain ⟨e,o⟩:=tY A Q D c g j k (by omega);have m:k<Q.length:=by omega
  have l:A.length+k<(A++Q).length:=by simp;omega
  have n:bG (A++Q) (A.length+k)=Q[k]:=by rw [dU _ _ l,XO (by omega)];simp
  have f:=j _ (T6 m);refine ⟨?_,?_⟩
  . show dQ D (bG (A++Q) (A.length+k)) (bP (A++Q) D c (A.length+k))=_;rw [n,e,B9 D _ f]
  . show gY (bG (A++Q) (A.length+k)) (bP (A++Q) D c (A.length+k)) (dB (A++Q) D c (A.length+k))=_;rw [n,e,o];unfold gY;rw [TT f,Yx m,Uv];rfl
def xl (f:Nat->Nat) (K:a8):Nat:=K.foldr (λi a=>f i^^^a) 0
def KR (f:Nat->Nat):xl f []=0:=rfl
def zP (f:Nat->Nat) (i:Nat) (K:a8):xl f (i::K)=f i^^^xl f K:=rfl
theorem Ca (f:Nat->Nat) (p:Nat->Bool):∀ n,xl f ((YE n).filter p)=xs (λi=>if p i=ZV then f i else 0) n
 | 0=>rfl
 | n+1=>by
  have b:∀ A B:a8,xl f (A++B)=xl f A^^^xl f B:=by
   intro A B;induction A with
   | nil=>rw [Uq,KR,VO]
   | cons a A ih=>rw [UX,zP,zP,ih,U2]
  rw [Vr,Wr,b,Ca f p n];show _=xs _ n^^^(if p n=ZV then f n else 0);congr 1;by_cases h:p n=ZV
  . rw [TT h];simp [h,xl]
  . rw [TS h];simp [h,xl]
structure Rg (R:List a8) (T m:Nat) (v:Nat->Nat->Nat):Prop where
 len:R.length=1+T
 row:∀ r,r<T->R.getD (1+r) []=(YE m).map (v r)
def oy {R:List a8} {a:Nat} {x:a8} (c:a<R.length):(R.set a x).getD b []=if a=b then x else R.getD b []:=by
 rw [Ub,Xf];by_cases e:a=b
 . subst e;simp [c]
 . simp [e]
theorem Ep (m:Nat) (v:Nat->Nat) (y:a8) (c:Nat):iG ((YE m).map v) y c=(YE m).map (λq=>v q^^^gm c (y.getD q 0)):=by
 unfold iG;rw [Ue,Vn];apply Wo;intro q a;have:=Uu.1 a;simp [this]
theorem Cb (B:Ck) (D:List a8) (i T m:Nat) (y:a8) (v:Nat->Nat->Nat) {R:List a8} (h:Rg R T m v) (j:R.getD 0 []=y):∀ k,k<=T ->
 (kZ D R (gG B i k)).getD 0 []=y/\Rg (kZ D R (gG B i k)) T m (λr q=>if r<k then v r q^^^gm (B.m r i) (y.getD q 0) else v r q)
 | 0,_=>by rw [tU,tV];exact ⟨j,h.len,λr d=>by rw [h.row r d];simp⟩
 | k+1,hk=>by
  obtain ⟨f,a⟩:=Cb B D i T m y v h j k (by omega);by_cases g:B.m k i=0
  . rw [xR B i k g];refine ⟨f,a.len,λr d=>?_⟩;rw [a.row r d];apply Wo;intro q _;by_cases c:r<k
    . rw [TT c,TT (by omega)]
    . by_cases e:r=k
      . subst e;rw [TS c,TT (by omega),g,bI,U3]
      . rw [TS c,TS (by omega)]
  . rw [B1 B i k g,lJ];generalize h5:kZ D R (gG B i k)=b at f a;have l:kZ D b [⟨1,1+(k:Int),0,B.m k i⟩]=b.set (1+k) (iG (b.getD (1+k) []) (b.getD 0 []) (B.m k i)):=by
     show dQ D ⟨1,1+(k:Int),0,B.m k i⟩ b=_;unfold dQ;have e:(1+(k:Int)).toNat=1+k:=(by omega);simp only [e];rw [TS (by decide),TT trivial];rfl
    have hl:1+k<b.length:=(by rw [a.len];omega);rw [l];refine ⟨by rw [oy hl,TS (by omega)];exact f,by rw [VS];exact a.len,λr d=>?_⟩;rw [oy hl,f];by_cases e:r=k
    . subst e;rw [TT rfl,a.row r d,Ep];apply Wo;intro q _;rw [TS (by omega),TT (by omega)]
    . rw [TS (by omega),a.row r d];apply Wo;intro q _;by_cases c:r<k
      . rw [TT c,TT (by omega)]
      . rw [TS c,TS (by omega)]
theorem Nw (B:Ck) (D:List a8) (i m:Nat) (v:Nat->Nat->Nat) {R:List a8} (a:Rg R B.told m v):Rg (kZ D R (lH B i)) B.told m (λr q=>v r q^^^gm (B.m r i) ((D.getD i []).getD q 0)):=by
 cases hr:cF B i
 . rw [lI hr,tV];refine ⟨a.len,λr h=>?_⟩;rw [a.row r h];apply Wo;intro q _;rw [gV.1 hr r h,bI,U3]
 . rw [ir hr,Hs];have b:0<R.length:=(by rw [a.len];omega);have e:dQ D ⟨0,0,(i:Int),0⟩ R=R.set 0 (D.getD i []):=by
    unfold dQ;rw [TT rfl];rfl
   rw [e];have d:Rg (R.set 0 (D.getD i [])) B.told m v:=⟨by rw [VS];exact a.len,λr h=>by rw [oy b,TS (by omega)];exact a.row r h⟩;obtain ⟨_,c⟩:=Cb B D i B.told m (D.getD i []) v d (by rw [oy b,TT rfl]) B.told lR;refine ⟨c.len,λr h=>?_⟩;rw [c.row r h];apply Wo;intro q _;rw [TT h]
theorem KS (B:Ck) (D:List a8) (m:Nat):∀ (K:a8) (v:Nat->Nat->Nat) (R:List a8),Rg R B.told m v->Rg (kZ D R (wrTo B K)) B.told m (λr q=>v r q^^^xl (λi=>gm (B.m r i) ((D.getD i []).getD q 0)) K)
 | [],v,R,h=>by
  rw [show wrTo B []=[] from rfl,tV];exact ⟨h.len,λr a=>by rw [h.row r a];simp [KR]⟩
 | i::K,v,R,h=>by
  have e:wrTo B (i::K)=lH B i++wrTo B K:=by unfold wrTo;simp
  rw [e,lJ];have:=KS B D m K _ _ (Nw B D i m v h);refine ⟨this.len,λr a=>?_⟩;rw [this.row r a];apply Wo;intro q _;rw [zP,U2]
def KT (T m:Nat):Rg (eV (1+T) m) T m (λ_ _=>0):=by
 refine ⟨by simp [eV],λr a=>?_⟩;unfold eV;have:1+r<1+T:=by omega
 rw [Ub,WC,TT this];simp [List.map_const']
def KU {D:List a8} (h:∀ s∈P,s.k=0->(D.getD s.b.toNat []).length=m):∀ k,k<=P.length->fl P D k=ZX\/fl P D k=ZW m
 | 0,_=>.inl rfl
 | k+1,hk=>by
  rcases KU h k (by omega) with e|e
  . by_cases a:(bG P k).k=0
    . rw [zv P D k e a];rw [dU P k (by omega)] at a ⊢;exact .inr (by rw [h _ (T6 _) a])
    . rw [ti P D k a];exact .inl e
  . exact .inr (nY P D k m e)
def Cc {D:List a8} (h:∀ s∈P,s.k=0->(D.getD s.b.toNat []).length=m) {k:Nat} (a:k<P.length) (c:P[k].k=0):fl P D (k+1)=ZW m:=by
 rcases KU h k (by omega) with e|e
 . rw [zv P D k e (by rw [dU P k a];exact c),dU P k a,h _ (T6 a) c]
 . exact nY P D k m e
def Jb (S:List a8) (lost:Nat):List a8:=(YE S.length).map (λi=>if lost.testBit i=ZV then [] else S.getD i [])
def zQ (S:List a8) (lost i:Nat) (a:i<S.length):(Jb S lost).getD i []=if lost.testBit i=ZV then [] else S.getD i []:=by simp [Jb,a]
def KV (row:a8) (Dt:List a8) (q:Nat):∀ t,Nd row Dt t q=xs (λj=>gm (row.getD j 0) ((Dt.getD j []).getD q 0)) t
 | 0=>rfl
 | t+1=>by
  show Nd row Dt t q^^^gm (row.getD t 0) ((Dt.getD t []).getD q 0)=xs (λj=>gm (row.getD j 0) ((Dt.getD j []).getD q 0)) t^^^gm (row.getD t 0) ((Dt.getD t []).getD q 0);rw [KV row Dt q t]
def Qb (a:i<M.length) (j:Nat):mf M i j=(M[i]).getD j 0:=by unfold mf;simp [a]
theorem zR (M Dt:List a8) (m i:Nat) (a:i<M.length):(fm M Dt m).getD i []=(YE m).map (λq=>xs (λj=>gm (mf M i j) ((Dt.getD j []).getD q 0)) Dt.length):=by
 have e:(fm M Dt m).getD i []=cH M[i] Dt m Dt.length:=by simp [fm,a]
 rw [e];unfold cH;apply Wo;intro q _;rw [KV];exact eQ _ (λj _=>by rw [Qb a])
def zS (M Dt:List a8) (m:Nat):(fm M Dt m).length=M.length:=by simp [fm]
def oz:nX lost i↔lost.testBit i=ZV:=by
 unfold nX;rw [Wu];simp
section
variable {D L G lost m:Nat} {C:Ck} {Dt:List a8}
def jK (c:D+L+G<=16) {s:St} (e:s∈bS D L G lost C) (a:s.k=0):∃ i:Nat,s.b=(i:Int)/\i<D+L+G/\lost.testBit i=ZU:=by
 rcases En e with ⟨i,d,rfl⟩|⟨_,_,_,_,rfl⟩|⟨_,_,rfl⟩
 . exact ⟨i,rfl,(ou c).1 d⟩
 . exact absurd a (Nat.one_ne_zero)
 . exact absurd a (Nat.succ_ne_zero 1)
def zT (c:D+L+G<=16):∀ s∈bS D L G lost C,s.k=0->((Jb (fm (aT D L G) Dt m) lost).getD s.b.toNat []).length=m:=by
 intro s f a;obtain ⟨i,d,e,hl⟩:=jK c f a;have:(fm (aT D L G) Dt m).length=D+L+G:=by rw [zS,cI]
 rw [d,Vw,zQ _ _ _ (by omega),TS (by rw [hl];decide),zR _ _ _ _ (by rw [cI];exact e)];simp
def Nx (c:D+L+G<=16) (h:m<=4096):gE (bS D L G lost C) (Jb (fm (aT D L G) Dt m) lost) lost:=by
 intro i b a;rw [dU _ _ b] at a ⊢;have e:=zT (m:=m) (Dt:=Dt) c _ (T6 b) a;obtain ⟨j,f,g,hl⟩:=jK c (T6 b) a;refine ⟨λd=>?_,by rw [e];exact Cc (zT c) b a,by omega⟩;rw [f,Vw] at d;have:=oz.1 d;rw [hl] at this;cases this
theorem Er (b:D+L+G<=16) (a:0<gJ (ab (bz (D+L+G) lost)) (aP 8 C (bz (D+L+G) lost)).1):eC (bS D L G lost C) (Jb (fm (aT D L G) Dt m) lost)=m:=by
 unfold gJ at a;obtain ⟨i,g⟩:=List.exists_mem_of_length_pos a;obtain ⟨c,d⟩:=Vy.1 g;have j:(⟨0,0,(i:Int),0⟩:St)∈bS D L G lost C:=by
  unfold bS fW wrTo;refine UF _ (YM.2 ⟨lH _ i,T9.2 ⟨i,c,rfl⟩,?_⟩);rw [ir d];exact U7
 obtain ⟨k,h,e⟩:=US j;have f:=Cc (zT (m:=m) (Dt:=Dt) b) h (by rw [e]);have:=FE _ _ _ _ f (bS D L G lost C).length (by omega);unfold eC;rw [this];rfl
theorem Ny (w:D<=12) (y:G<=4) (b:D+L+G<=16) (I:tells (jI D L G) (ab (aw (D+L+G) lost))=ZW C) (p:Dt.length=D) (U:∀ l∈Dt,∀ x∈l,x<256) :
 ∃ O,dB (bS D L G lost C) (Jb (fm (aT D L G) Dt m) lost) (eV (1+(ab (aw (D+L+G) lost)).length) (eC (bS D L G lost C) (Jb (fm (aT D L G) Dt m) lost))) (bS D L G lost C).length=O /\
  O.length=(ab (aw (D+L+G) lost)).length/\∀ k (S:k<O.length) (f:k<(ab (aw (D+L+G) lost)).length),O[k].1=(((ab (aw (D+L+G) lost))[k]:Nat):Int)/\(0<gJ (ab (bz (D+L+G) lost)) (aP 8 C (bz (D+L+G) lost)).1->O[k].2=(fm (aT D L G) Dt m).getD (ab (aw (D+L+G) lost))[k] []):=by
 obtain ⟨o,_⟩:=ox w y I;have K:=jH D L G w y;have e:D+(L+G)=D+L+G:=by omega
 have J:(bS D L G lost C).length=(wrTo (aP 8 C (bz (D+L+G) lost)).1 (ab (bz (D+L+G) lost))).length+(fK (ab (aw (D+L+G) lost))).length:=by unfold bS fW;rw [Ua]
 have N:(fK (ab (aw (D+L+G) lost))).length=(ab (aw (D+L+G) lost)).length:=by unfold fK;simp
 have R:=λz=>tY (wrTo (aP 8 C (bz (D+L+G) lost)).1 (ab (bz (D+L+G) lost))) (fK (ab (aw (D+L+G) lost))) (Jb (fm (aT D L G) Dt m) lost) z (λs a=>by
  unfold wrTo at a;obtain ⟨l,hl,a⟩:=YM.1 a;obtain ⟨i,c,rfl⟩:=T9.1 hl;cases hr:cF (aP 8 C (bz (D+L+G) lost)).1 i
  . rw [lI hr] at a;cases a
  . rw [ir hr] at a;rcases Uw.1 a with rfl|a
    . exact (by decide:(0:Nat)≠2)
    . unfold gG at a;obtain ⟨r,_,rfl⟩:=T9.1 a;exact (by decide:(1:Nat)≠2)) (λs a=>by
  unfold fK at a;obtain ⟨k,_,rfl⟩:=T9.1 a;rfl) _ lR
 refine ⟨_,rfl,?_⟩;rw [J];have g:=(R (eV (1+(ab (aw (D+L+G) lost)).length) (eC (bS D L G lost C) (Jb (fm (aT D L G) Dt m) lost)))).2;rw [Vu] at g;rw [show bS D L G lost C=wrTo (aP 8 C (bz (D+L+G) lost)).1 (ab (bz (D+L+G) lost))++fK (ab (aw (D+L+G) lost)) from rfl] at g ⊢;rw [g];refine ⟨by simp [N],λk S f=>?_⟩;have:k<(fK (ab (aw (D+L+G) lost))).length:=by omega
 have H:(fK (ab (aw (D+L+G) lost)))[k]=⟨2,(k:Int)+1,(((ab (aw (D+L+G) lost))[k]:Nat):Int),0⟩:=by
  simp [fK,f]
 rw [UN,H];refine ⟨rfl,λE=>?_⟩;have v:=Er (m:=m) (Dt:=Dt) b E;rw [show bS D L G lost C=wrTo (aP 8 C (bz (D+L+G) lost)).1 (ab (bz (D+L+G) lost))++fK (ab (aw (D+L+G) lost)) from rfl] at v;rw [v];have Q:=KS (aP 8 C (bz (D+L+G) lost)).1 (Jb (fm (aT D L G) Dt m) lost) m (ab (bz (D+L+G) lost)) (λ_ _=>0) (eV (1+(ab (aw (D+L+G) lost)).length) m) (by rw [o.told];exact KT _ _);have F:=Q.row k (by rw [o.told];exact f);have B:((k:Int)+1).toNat=1+k:=by omega
 show (kZ _ _ _).getD ((k:Int)+1).toNat []=_;rw [B,F,zR _ _ _ _ (by rw [cI];exact ((bL b).1 (T6 f)).1)];apply Wo;intro q T;have P:=Uu.1 T;have u:=o.sum K (λi c=>by rw [e];exact ((bL b).1 c).1) (λj=>(Dt.getD j []).getD q 0) (λj=>by
  show (Dt.getD j []).getD q 0<256;by_cases n:j<Dt.length
  . have A:Dt.getD j []=Dt[j]:=(by simp [n]);rw [A];exact dm (U _ (T6 n)) q
  . simp [n]) k f
 rw [e] at u;rw [p,<- u,VO];rw [show ab (bz (D+L+G) lost)=(YE 16).filter (λi=>(bz (D+L+G) lost).testBit i) from rfl,Ca];obtain ⟨d,M⟩:=Nat.exists_eq_add_of_le b;rw [M,yV];have V:xs (λi=>if (bz (D+L+G) lost).testBit (D+L+G+i)=ZV then gm ((aP 8 C (bz (D+L+G) lost)).1.m k (D+L+G+i)) (((Jb (fm (aT D L G) Dt m) lost).getD (D+L+G+i) []).getD q 0) else 0) d=0:=dY d (λi _=>by
  rw [TS];rw [pS _ _ b,show decide (D+L+G+i<D+L+G)=ZU from Vc (by omega)];simp)
 rw [V,U3];apply eQ;intro i c;have:(fm (aT D L G) Dt m).length=D+L+G:=by rw [zS,cI]
 rw [pS _ _ b];have t:i∈ab (aw (D+L+G) lost)↔lost.testBit i=ZV:=by
  rw [bL b];exact ⟨λh=>h.2,λh=>⟨c,h⟩⟩
 cases hb:lost.testBit i
 . rw [TT (show (decide (i<D+L+G) && !false)=ZV by simp [c]),TS (λh=>by rw [t,hb] at h;cases h),zQ _ _ _ (by omega),TS (by rw [hb];decide),zR _ _ _ _ (by rw [cI];exact c),p];congr 1;simp [P]
 . rw [TS (show ¬ (decide (i<D+L+G) && !true)=ZV by simp),TT (t.2 hb)]
end
theorem Cd (d:D<=12) (e:G<=4) (b:D+L+G<=16) (c:tells (jI D L G) (ab (aw (D+L+G) lost))=ZW C):∀ s∈bS D L G lost C,zt s:=by
 intro s k;have a:=(ox d e c).1;have:=a.le;have:=a.Sa;rcases En k with ⟨i,g,rfl⟩|⟨i,_,r,o,rfl⟩|⟨j,h,rfl⟩
 . have:=((ou b).1 g).1;exact ⟨by show 0<256;decide,by show -9223372036854775808<=(0:Int);omega,by show (0:Int)<=9223372036854775807;omega,by show -9223372036854775808<=(i:Int);omega,by show (i:Int)<=9223372036854775807;omega,by show 0<256;decide⟩
 . exact ⟨by show 1<256;decide,by show -9223372036854775808<=(1:Int)+(r:Int);omega,by show (1:Int)+(r:Int)<=9223372036854775807;omega,by show -9223372036854775808<=(0:Int);omega,by show (0:Int)<=9223372036854775807;omega,a.byt r i⟩
 . have:(ab (aw (D+L+G) lost)).length<=16:=TV (WO _ _) (by simp);have f:=((bL b).1 (T6 h)).1;generalize (ab (aw (D+L+G) lost))[j]=y at f;exact ⟨by show 2<256;decide,by show -9223372036854775808<=(j:Int)+1;omega,by show (j:Int)+1<=9223372036854775807;omega,by show -9223372036854775808<=(y:Int);omega,by show (y:Int)<=9223372036854775807;omega,by show 0<256;decide⟩
def KX (e:D<=12) (j:L<=4) (f:G<=4) (c:D+L+G<=16) (d:tells (jI D L G) (ab (aw (D+L+G) lost))=ZW C):iF (1+((ab (aw (D+L+G) lost)).length:Int)) (bS D L G lost C) ((D+L+G:Nat):Int):=by
 have b:=(ox e f d).1;have:=b.le;have:=b.Sa;exact Rr b.told (by omega) (λi a=>((ou c).1 a).1) (λi a=>((bL c).1 a).1)
end
def mfl (a:g<L) (j:Nat) (b:j<D):mf (aT D L G) (D+g) j=if g*(D/L)<=j/\j<(g+1)*(D/L) then 1 else 0:=by
 unfold mf aT;have e:((YE D).map (dh D)++(YE L).map (dy D L)++(YE G).map (de D)).getD (D+g) []=dy D L g:=by
  rw [Uz,Ub,U6 (by simp)];simp only [Ue,Vn,WR];rw [Vv (by simpa using a)];simp [a]
 rw [e];unfold dy;simp [b]
def mfg (a:i<G) (j:Nat) (b:j<D):mf (aT D L G) (D+L+i) j=gi ((D+i)^^^j):=by
 unfold mf aT;have e:((YE D).map (dh D)++(YE L).map (dy D L)++(YE G).map (de D)).getD (D+L+i) []=de D i:=by
  rw [Ub,U6 (by simp)];simp only [Ua,Ue,Vn,WR];simp [a]
 rw [e];unfold de;simp [b]
def Qc (o:1<=D) (p:D<=12) (q:G<=4) (k:D%L=0) (r:d<D+L+G):∃ j,j<D/\mf (aT D L G) d j≠0:=by
 by_cases a:d<D
 . refine ⟨d,a,?_⟩;unfold mf;rw [FO D L G d a];unfold dh;simp [a]
 . by_cases n:d<D+L
   . obtain ⟨g,rfl⟩:∃ g,d=D+g:=⟨d-D,by omega⟩;have h:g<L:=(by omega);have c:D/L*L=D:=Nat.div_mul_cancel (Nat.dvd_of_mod_eq_zero k);have m:0<D/L:=YP λe=>by rw [e] at c;omega
     have f:g*(D/L)<D:=by
      have b:=abh h m;rw [Wx L,c] at b;exact b
     refine ⟨g*(D/L),f,?_⟩;rw [mfl h _ f,TT ⟨TU _,by rw [XG];omega⟩];decide
   . obtain ⟨i,rfl⟩:∃ i,d=D+L+i:=⟨d-(D+L),by omega⟩;have l:i<G:=(by omega);refine ⟨0,by omega,?_⟩;rw [mfg l 0 (by omega),U3];exact QV (by omega) (by omega)
theorem Nz (w:1<=D) (g:D<=12) (h:G<=4) (v:D%L=0) (b:D+L+G<=16) (B:tells (jI D L G) (ab (aw (D+L+G) lost))=ZW C) (p:d<D+L+G) (hl:lost.testBit d=ZV):0<gJ (ab (bz (D+L+G) lost)) (aP 8 C (bz (D+L+G) lost)).1:=by
 apply YP;intro n;obtain ⟨t,_⟩:=ox g h B;have o:=jH D L G g h;have e:D+(L+G)=D+L+G:=by omega
 obtain ⟨k,r,y⟩:=US ((bL b).2 ⟨p,hl⟩);obtain ⟨j,E,z⟩:=Qc w g h v p;have A:∀ i,i∈ab (bz (D+L+G) lost)->cF (aP 8 C (bz (D+L+G) lost)).1 i=ZU:=λi a=>by
  cases hr:cF (aP 8 C (bz (D+L+G) lost)).1 i
  . rfl
  . unfold gJ at n;have:=UU n;have s:i∈(ab (bz (D+L+G) lost)).filter (cF (aP 8 C (bz (D+L+G) lost)).1):=Vy.2 ⟨a,hr⟩;rw [this] at s;cases s
 have c:=t.sum o (λi a=>by rw [e];exact ((bL b).1 a).1) (λq=>if q=j then 1 else 0) (λq=>by show (if q=j then 1 else 0)<256;split<;>decide) k r;rw [e,y] at c;have H:=dY (f:=λi=>if i∈ab (aw (D+L+G) lost) then 0 else gm ((aP 8 C (bz (D+L+G) lost)).1.m k i) (xs (λq=>gm (mf (aT D L G) i q) (if q=j then 1 else 0)) D)) (D+L+G) (λi a=>by
  by_cases l:i∈ab (aw (D+L+G) lost)
  . rw [TT l]
  . have x:lost.testBit i=ZU:=by
     cases hb:lost.testBit i
     . rfl
     . exact absurd ((bL b).2 ⟨a,hb⟩) l
    have:=gV.1 (A i ((ou b).2 ⟨a,x⟩)) k (by rw [t.told];exact r);rw [TS l,this,bI])
 rw [H] at c;have u:=ji (f:=λq=>gm (mf (aT D L G) d q) (if q=j then 1 else 0)) (k:=j) D E (λq _ F=>by rw [TS F,bD]);rw [u,TT rfl,ew _ (o.byt d j)] at c;exact z c.symm
section
section
variable {P:List St} {A B:List a8} (h:∀ k,k<P.length->(bG P k).k=0->A.getD (bG P k).b.toNat []=B.getD (bG P k).b.toNat [])
include h
def zU:∀ k,k<=P.length->fl P A k=fl P B k
 | 0,_=>rfl
 | k+1,hk=>by
  have ih:=zU k (by omega);unfold fl;rw [ih];cases fl P B k with
  | some n=>rfl
  | none=>
   show (if (bG P k).k=0 then _ else _)=if (bG P k).k=0 then _ else _;by_cases a:(bG P k).k=0
   . rw [TT a,TT a,h k (by omega) a]
   . rw [TS a,TS a]
def tZ (b:List a8):∀ k,k<=P.length->bP P A b k=bP P B b k
 | 0,_=>rfl
 | k+1,hk=>by
  unfold bP;rw [tZ b k (by omega)];unfold dQ;by_cases a:(bG P k).k=0
  . rw [TT a,TT a,h k (by omega) a]
  . rw [TS a,TS a]
def ub (a:List a8):∀ k,k<=P.length->dB P A a k=dB P B a k
 | 0,_=>rfl
 | k+1,hk=>by
  unfold dB;rw [ub a k (by omega),tZ h a k (by omega)]
def Ce:eC P A=eC P B:=by unfold eC;rw [zU h _ lR]
def KY {x y:Nat} (f:gE P B y) (g:∀ k,k<P.length->(bG P k).k=0->¬ nX x (bG P k).b.toNat):gE P A x:=λk c a=>by
 obtain ⟨_,d,e⟩:=f k c a;rw [<- zU h (k+1) (by omega),<- h k c a] at d;rw [<- h k c a] at e;exact ⟨g k c a,d,e⟩
end
def NA {s x:Nat} {dl Dl:List a8} (y:1<=D) (n:D<=12) (o:G<=4) (t:D%L=0) (f:D+L+G<=16) (j:tells (jI D L G) (ab (aw (D+L+G) s))=ZW C) (B:d<D+L+G) (J:s.testBit d=ZV) (u:dl.length=D) (K:∀ l∈dl,∀ x∈l,x<256)
 (e:∀ i,(zw (bS D L G s C)).testBit i=ZV->Dl.getD i []=(fm (aT D L G) dl 44).getD i []/\x.testBit i=ZU) :
 gE (bS D L G s C) Dl x/\dB (bS D L G s C) Dl (eV (1+(ab (aw (D+L+G) s)).length) (eC (bS D L G s C) Dl)) (bS D L G s C).length=(ab (aw (D+L+G) s)).map (λd:Nat=>((d:Int),(fm (aT D L G) dl 44).getD d [])):=by
 have h:∀ k,k<(bS D L G s C).length->(bG (bS D L G s C) k).k=0->(zw (bS D L G s C)).testBit (bG (bS D L G s C) k).b.toNat=ZV:=λk e a=>by
  rw [dU _ _ e] at a ⊢;exact (nZ _ _).2 ⟨_,T6 e,a,rfl⟩
 have g:∀ k,k<(bS D L G s C).length->(bG (bS D L G s C) k).k=0->Dl.getD (bG (bS D L G s C) k).b.toNat []=(Jb (fm (aT D L G) dl 44) s).getD (bG (bS D L G s C) k).b.toNat []:=λk c a=>by
  rw [(e _ (h k c a)).1];rw [dU _ _ c] at a ⊢;obtain ⟨i,z,I,hl⟩:=jK f (T6 c) a;rw [z,Vw,zQ _ _ _ (by rw [zS,cI];exact I),TS (by rw [hl];decide)]
 refine ⟨KY g (Nx f (by decide)) λk c a H=>?_,?_⟩
 . have:=(e _ (h k c a)).2;rw [oz.1 H] at this;cases this
 . obtain ⟨O,w,E,A⟩:=Ny (m:=44) (Dt:=dl) n o f j u K;have F:=Nz y n o t f j B J;rw [ub g _ _ lR,Ce g,w];refine Vb (by simp [E]) λk r M=>?_;have v:k<(ab (aw (D+L+G) s)).length:=(by omega);obtain ⟨p,q⟩:=A k r v;rw [UN,<- p,<- q F]
end
section
attribute [local go_sem] Oper.semAt_some
def KZ (v:ZS) (w:ZT):(Instr.typeAssert (.iface 213 v) 215 213 ZV).run ZN w=.ok (ZZ #[v,Z1 ZV]) w:=by
 simp [Instr.typeAssert,UL underlying213]
def Ht:(ZN.info? 213).map (·.size)=ZW 44:=by kernel_rfl
def Cf (w:ZT) (z:Array ZS) (c:z.size=44) (l:a8) (hl:l.length=44):(Instr.storeAt 213 (Z6 (ZW ⟨w.heap.size,0,ZX⟩)) (.agg (aJ l).toArray)).run ZN (w.alloc (Z4 z 213))=.ok () (w.alloc (Z4 (aJ l).toArray 213)):=by
 have a:(aJ l).toArray.size=44:=by rw [UH,aW,hl]
 have:=run_storeVar_new (P:=ZN) w 213 z (aJ l).toArray (by rw [a];exact Ht) (by rw [a,c]) (by
  rw [List.all_toArray,XY];intro u b;obtain ⟨x,_,rfl⟩:=T9.1 b;rfl)
 simp only [Instr.storeAt,Instr.sureAddr,UE,VJ,UQ,this]
def zV {F:Fence} (d:o.guard=ZX) (x y:Operand) (ho:o.op=.store 213 x y) {z:Array ZS} {l:a8}
 (e:a.eval x=Z6 (ZW ⟨w.heap.size,0,ZX⟩)) (f:a.eval y=.agg (aJ l).toArray) (g:z.size=44) (hl:l.length=44) (h:wpListIn F n ZN ops Q rest (a.put o.dst ZY) (w.alloc (Z4 (aJ l).toArray 213))):wpListIn F n ZN ops Q (o::rest) a (w.alloc (Z4 z 213)):=by
 refine Yf d λK b=>?_;unfold Oper.wpIn;refine ⟨by simp [Oper.about,ho],?_⟩;rw [Wg F _ _ (by rw [ho];intro c h;cases h)];simp [execOp,ho,e,f,Cf w z g l hl,Result.andThen];exact b _ _ h
def Cg (X:ZT) (a:Addr):(Instr.storeAt 231 (Z6 (ZW a)) (.agg #[])).run ZN X=.ok () X:=by kernel_rfl
def zW {F:Fence} (d:o.guard=ZX) (x y:Operand) (ho:o.op=.store 231 x y) {ad:Addr}
 (e:a.eval x=Z6 (ZW ad)) (f:a.eval y=.agg #[]) (h:wpListIn F n ZN ops Q rest (a.put o.dst ZY) w):wpListIn F n ZN ops Q (o::rest) a w:=by
 refine Yf d λK b=>?_;unfold Oper.wpIn;refine ⟨by simp [Oper.about,ho],?_⟩;rw [Wg F _ _ (by rw [ho];intro c h;cases h)];simp [execOp,ho,e,f,Cg,Result.andThen];exact b _ _ h
def K2 (c:fn.results=#[]) (b:a.defers=[{ target:=.collected D',args:=#[] }])
 (hK:Z.heap[D']?=ZW (.deferred (ZW []))) (hR:R (Z3 (ZZ #[])) (Z.putObj D' (.deferred ZX))):bodyPostM Fence.wide n ZN fn R .normal a Z:=by
 obtain ⟨e,d⟩:=a;simp only at b;subst b;refine ⟨by simp,.inl ⟨_,_,rfl,Wv hK,?_⟩⟩;refine ⟨ZZ #[],?_,hR⟩;simp [results,c]
def Kn (w:ZT) (base:Nat) (f0 f:Nat->ZS) (R:Nat->a8) (ds:a8):Prop:=(∀ i,i∉ds->f i=f0 i)/\∀ i,i∈ds->∃ bl,f i=Z5 (ZW ⟨bl,0,ZX⟩) 44 44/\base<=bl/\bl<w.heap.size/\w.heap[bl]?=ZW (Z4 (aJ (R i)).toArray 213 (0,0))
def Kn.keep {f:Nat->ZS} {R:Nat->a8} (h:Kn w base f0 f R ds) (d:w.heap.size<=w'.heap.size) (c:∀ k o,base<=k->w.heap[k]?=ZW o->o.isCells=ZV->w'.heap[k]?=ZW o):Kn w' base f0 f R ds:=by
 refine ⟨h.1,λi b=>?_⟩;obtain ⟨bl,e,a,g,j⟩:=h.2 i b;exact ⟨bl,e,a,T7 g d,c bl _ a j rfl⟩
def Kn.nil (w:ZT) (base:Nat) (f0:Nat->ZS) (R:Nat->a8):Kn w base f0 f0 R []:=⟨λ_ _=>rfl,λ_ h=>by cases h⟩
def xS (S x:Nat):Nat:=S &&& (18446744073709551615-x)
def FQ (S x:Nat) (a:S<65536) (b:x<65536):bits .andNot .u64 (S:Int) (x:Int)=(xS S x:Int):=X4 S x (by omega) (by omega)
def Es {S:Nat} (x:Nat) (a:S<65536):xS S x<65536:=WS WH a
theorem sf {S x:Nat} (d:x<65536):i∈ab (xS S x)↔i∈ab S/\x.testBit i=ZU:=by
 rw [cE,cE];unfold xS;have e:(18446744073709551615-x).testBit i=(decide (i<64) && !x.testBit i):=by
  have:=Xs (x:=x) (n:=64) (by omega) i;rwa [show 2^64-(x+1)=18446744073709551615-x by omega] at this
 rw [XA,e];constructor
 . rintro ⟨b,a⟩;simp at a;exact ⟨⟨b,a.1⟩,a.2.2⟩
 . rintro ⟨⟨b,a⟩,c⟩;refine ⟨b,?_⟩;simp [a,c];omega
def vR:Nat->ZS:=λ_=>Z5 ZX 0 0
def AD (ds l:a8):a8:=l.filter λi=>decide (i∉ds)
def Qd (h:i∈ds):AD ds (l++[i])=AD ds l:=by unfold AD;rw [Wr];simp [h]
def oA (h:i∉ds):AD ds (l++[i])=AD ds l++[i]:=by unfold AD;rw [Wr];simp [h]
def FS:i∈AD ds l↔i∈l/\i∉ds:=by unfold AD;rw [Vy];simp
def Ci:∃ z,∀ w:ZT,(Instr.typeAssert .nilIface 215 213 ZV).run ZN w=.ok (ZZ #[z,Z1 ZU]) w:=by
 exact ⟨.agg (YI 44 (Z7 .u8 0)).toArray,λw=>by kernel_rfl⟩
def Cj:∃ z,∀ w:ZT,(Instr.typeAssert .nilIface 215 231 ZV).run ZN w=.ok (ZZ #[z,Z1 ZU]) w:=by
 exact ⟨.agg #[],λw=>by kernel_rfl⟩
def Cl (A:aB) (b:Nat) (ds:a8):a8:=ds.filter λi=>!gnB A b i
def Qe {A:aB} (ds:a8) {d:Nat} (h:gnB A b d=ZV):Cl A b (ds++[d])=Cl A b ds:=by unfold Cl;rw [Wr];simp [h]
def FT {A:aB} (ds:a8) {d:Nat} (h:gnB A b d=ZU):Cl A b (ds++[d])=Cl A b ds++[d]:=by unfold Cl;rw [Wr];simp [h]
def me {A:aB}:d∈Cl A b ds↔d∈ds/\gnB A b d=ZU:=by unfold Cl;rw [Vy];simp
def K3 {A:aB} (h:gnB A b d=ZU):A.RX d b=ZW (A.rc d b):=by
 unfold gnB at h;simp only [XK] at h;unfold aB.RX aB.rd;rw [h.1.1,h.1.2,h.2];rfl
def Et {A:aB} (h:gnB A b d=ZV):(A.lost d=ZV/\A.RX d b=ZX)\/(A.lost d=ZU/\A.RX d b=ZX)\/(A.lost d=ZU/\A.RX d b=ZW .blank):=by
 unfold gnB at h;unfold aB.RX aB.rd;cases hl:A.lost d<;>cases hb:A.bad d b<;>cases hk:A.bl d b<;>simp [hl,hb,hk] at h ⊢
def Hu:∃ z,∀ w:ZT,(Instr.typeAssert (dK .blank) 215 213 ZV).run ZN w=.ok (ZZ #[z,Z1 ZU]) w:=by
 exact ⟨.agg (YI 44 (Z7 .u8 0)).toArray,λw=>by kernel_rfl⟩
def Hv (w:ZT):(Instr.typeAssert (dK .blank) 215 231 ZV).run ZN w=.ok (ZZ #[.agg #[],Z1 ZV]) w:=by kernel_rfl
def VrK (p d b:Nat) (A:aB) (F:aK) (w:ZT) (Y:ZS) (w':ZT):Prop:=
 az w' p A F/\aa F.S w w'/\(ZQ ZN 76 #[Y,.iface 66 (Z7 Z9 11)] w' λe w''=>e=Z3 (Z1 (A.lost d))/\w''=w')/\(A.RX d b≠ZX->Y=.nilIface)
def Hw {A:aB} (j:bg w v p D L G ps ho) (h:az w p A F) (d b:Nat) (l:d<A.n) (k:b<A.nb) (o:bV w) (m:¬ F.S 2) :
 ZQ ZN 120 #[Z6 (ZW ⟨v,0,ZX⟩),Z7 Z9 d,Z7 Z9 b] w λe w'=>∃ Y,e=Z3 (ZZ #[fT (A.RX d b),Y])/\VrK p d b A F w Y w':=by
 refine (qJ j h d b l k o m).mono ?_;rintro e w' ⟨c,f,⟨r,a,rfl⟩|⟨a,q,rfl,s,i⟩⟩
 . refine ⟨.nilIface,by rw [a];rfl,c,f,?_⟩;have hl:A.lost d=ZU:=(by cases h:A.lost d;rfl;unfold aB.RX at a;rw [TT h] at a;cases a);rw [hl];exact ⟨zi 11 w',λ_=>rfl⟩
 . refine ⟨rT q,by rw [a];rfl,c,f,?_⟩;have g:=A8 i 11;cases hl:A.lost d<;>(rw [hl] at g;exact ⟨g,λq=>absurd a q⟩)
structure QN (w:ZT) (r v b g N p D L G ps ho gone sp B0:Nat) (ds:a8) (A:aB) (F:aK) (M:Nat->a8) (B S:Nat) (pre:List (Mb S)) (X:ZT):Prop where
 b2:ZO X w.heap.size 170 (Z6 (ZW ⟨r,0,ZX⟩))
 rd:eh X r v b g N (gone|||jA (gnB A b) (AD ds (dG pre))) sp
 vol:∃ h,h<2^N/\bg X v p D L G ps h
 row:∃ f,X.rowIs g 40 N f/\Kn X B0 vR f M (ds++Cl A b (AD ds (dG pre)))
 arr:az X p A F
 out:aa (λk=>k=g\/k=r\/k=v\/F.S k) w X
 size:B<=X.heap.size
def QN.own {A:aB} {M:Nat->a8} {S:Nat} (J:w.heap.size+1<=B) (K:g<w.heap.size) (O:r<w.heap.size) (P:v<w.heap.size) (u:∀ k,F.S k->k<w.heap.size):OwnFrom B (QN w r v b g N p D L G ps ho gone sp B0 ds A F M B S):=by
 rintro pre X Y row ⟨l,m,⟨j,E,I⟩,⟨f,n,x⟩,q,s,t⟩ a i;have c:∀ k,k<w.heap.size+1->Y.heap[k]?=X.heap[k]?:=λk c=>a.block k (by omega) (λe=>by have:=(i k e.symm).1;omega);refine ⟨(c _ (by omega)).trans l,m.keep (c _ (by omega)),⟨j,E,I.keep (c _ (by omega))⟩,⟨f,n.of_block (c _ (by omega)),x.keep a.size λk o _ ho y=>?_⟩,q.keep λk z=>c k (by have:=u k z;omega),s.later (T:=λk=>w.heap.size<=k) ⟨a.os,a.tape,a.output,a.size,λk C H=>c k (by omega)⟩ (λk C H=>by omega),TV t a.size⟩;refine (a.block k (T5.1 ho).1 (λe=>?_)).trans ho;obtain ⟨_,Q,h,d⟩:=i k e.symm;rw [ho] at h;cases h;rw [y] at d;cases d
structure Qf (w:ZT) (r v b g N p D L G ps ho gone sp B0:Nat) (ds:a8) (A:aB) (F:aK) (M:Nat->a8) (nw:a8) (e:Ending) (w':ZT):Prop where
 ret:e=Z3 (ZZ #[])
 rd:eh w' r v b g N (gone|||jA (gnB A b) nw) sp
 vol:∃ h,h<2^N/\bg w' v p D L G ps h
 row:∃ f,w'.rowIs g 40 N f/\Kn w' B0 vR f M (ds++Cl A b nw)
 arr:az w' p A F
 out:aa (λk=>k=g\/k=r\/k=v\/F.S k) w w'
theorem Hx {A:aB} {M:Nat->a8} (u:pd w v p D L G ps ho A F) (hb:b<A.nb) (hM:∀ i,i<A.n->A.rc i b=.shard (M i)/\(M i).length=44) (hr:eh w r v b g N gone sp) (kh:w.rowIs g 40 N f0) (x8:Kn w B0 vR f0 M ds) (T:Nat) (hT:T<65536) (x5:gone<65536) (y1:sp<65536) (y7:∀ i,i∈ab T->i<N/\i<A.n)
 (ye:ho<2^N) (qz:N<=16) (qa:v≠r) (z0:3<=r) (z5:3<=v) (x3:¬ F.S g) (ks:¬ F.S r) (x6:r≠g) (xp:v≠g) (yx:3<=g) (qv:B0<=w.heap.size) (yv:g<B0) (yz:r<B0) (z4:v<B0) (qh:∀ k,F.S k->k<B0) :
 ZQ ZN 111 #[Z6 (ZW ⟨r,0,ZX⟩),Z7 Z8 T] w (Qf w r v b g N p D L G ps ho gone sp B0 ds A F M (AD ds (ab (xS (xS T gone) sp)))):=by
 obtain ⟨S1,q0⟩:=nM (xS T gone);obtain ⟨S,qi⟩:=nM (xS S1 sp);have qm:=FQ T gone hT x5;have qn:=FQ S1 sp (by rw [<- q0];exact Es _ hT) y1;have B:S<65536:=by rw [<- qi,<- q0];exact Es _ (Es _ hT)
 rw [q0] at qm ⊢;rw [qi] at qn ⊢;have y6:∀ i,i∈ab S->i∈ab T:=λi a=>by
  rw [<- qi] at a;have:=((sf y1).1 a).1;rw [<- q0] at this;exact ((sf x5).1 this).1
 clear q0 qi;obtain ⟨n,HN⟩:∃ n:Nat,b9 (9<=n):=⟨9,TU _⟩;have kx:∀ k,F.S k->k<w.heap.size:=λk m=>T7 (qh k m) qv;have yd:=kh.lt;have yk:=hr.lt;have yn:=u.vol.lt;refine (Vm (n:=n)).1 ?_;refine Wc func111 rfl trivial ?_ rfl;simp only [ntmps111,UH,UA,UT,YG,YH,Ve,Vf,Vg,Vh,Uq,UX];gi_wp2;obtain ⟨w1,qb⟩:=nM (w.alloc (Z4 #[Z6 (ZW ⟨r,0,ZX⟩)] 170));have h2:ZO w1 w.heap.size 170 (Z6 (ZW ⟨r,0,ZX⟩)):=by rw [<- qb];exact Ur w _ _
 have xf:w1.heap.size=w.heap.size+1:=by rw [<- qb];simp
 have qj:bW w w1:=by rw [<- qb];exact bA w _
 rw [qb];clear qb;have q9:=hr.keep (qj.block _ hr.lt);have c3:=q9.cells.2.2.2.1;have c4:=q9.cells.2.2.2.2;refine bB gQ 99 [(0,ZV),(1,ZV),(2,ZV),(3,ZV),(4,ZV),(5,ZV),(6,ZV),(7,ZV),(8,ZV),(9,ZV),(10,ZV),(11,ZU)] (λw'=>w'.cell? ⟨w.heap.size,0,ZX⟩=ZW (Z6 (ZW ⟨r,0,ZX⟩))/\w'.cell? ⟨r,3,ZX⟩=ZW (Z7 Z8 gone)/\w'.cell? ⟨r,4,ZX⟩=ZW (Z7 Z8 sp)) (by kernel_rfl) (by kernel_rfl) ⟨h2.cell,c3,c4⟩ ?_;iterate 11 (refine aC rfl rfl ?_;apply YF;refine ⟨λw' B=>?_,?_⟩;(obtain ⟨s1,s2,s3⟩:=B;first|(go_simp;done)|(go_simp;exact rfl));simp only [Act.put,TX,TY,TZ])
 refine dF gQ (dN S w1.drew) rfl rfl nofun (by go_simp) ?_;rintro e w6 ⟨rfl,qc⟩;have he:bW w1 w6:=by rw [qc];exact (TW _ w1).drew.alloc lR _
 have c5:=(q9.keep (he.block _ q9.lt)).cells.2.2.2;refine ⟨_,rfl,λ_=>⟨We ((he.block _ h2.lt).trans h2),c5.1,c5.2⟩,cB ?_⟩;clear qm qn c3 c4 c5 he;have xh:w6.heap.size=w1.heap.size+1:=by rw [qc];simp
 have xn:w6.cell? ⟨w1.heap.size,0,ZX⟩=ZW (Z7 Z8 (S:Int)):=by rw [qc];exact (Ur w1.drew 133 (Z7 Z8 (S:Int))).cell
 have he:bW w1 w6:=by rw [qc];exact (TW _ w1).drew.alloc lR _
 have k5:bW w w6:=qj.trans (he.mono qj.size);have xy:AD ds (dG ([]:List (Mb S)))=[]:=rfl;have xq:QN w r v b g N p D L G ps ho gone sp B0 ds A F M (w1.heap.size+1) S [] w6:=
  ⟨(he.block _ h2.lt).trans h2,by rw [xy,show jA (gnB A b) []=0 from rfl,Nat.or_zero];exact hr.keep (k5.block _ hr.lt),⟨ho,ye,u.vol.keep (k5.block _ u.vol.lt)⟩,⟨f0,kh.of_block (k5.block _ kh.lt),by rw [xy,show Cl A b []=[] from rfl,Wm];exact x8.keep k5.size λk o _ ho _=>(k5.block k (T5.1 ho).1).trans ho⟩,u.arr.below k5 lR,aa.RL k5 _,by omega⟩
 have y3:=ak xn;have qq:=al xq k5;have HZ:=al xf xh;clear xn xq h2 qj k5 he q9 qc xf;rename_i hK
 refine hK _ _ ?_;clear hK;simp only [Act.put,TX,TY,TZ];gi_wp2;obtain ⟨xf,yq,xh⟩:w.heap.size+1<=w1.heap.size/\w1.heap.size<=w.heap.size+1/\w6.heap.size=w1.heap.size+1:=by have:=HZ.o;omega
 rw [<- xh] at qq;refine Wd rfl (by have:=HN.o;omega) (gf:=147) (lb:=#[Z6 (ZW ⟨w1.heap.size,0,ZX⟩)]) rfl trivial (U4 func147 (by kernel_rfl) rfl)
  (m4 (n-1) w1.heap.size S B w6 (by omega) y3.out (by have:=u.room;omega) (u.tab.mono (by exact u.tab.lt) qq.out.2)) (λh k=>qM h k) (qN (by have:=u.room;omega)) (TW _ _) (λ_=>rfl)
  (QN w r v b g N p D L G ps ho gone sp B0 ds A F M w6.heap.size S) (λ_ _ _=>False) (QN.own (by omega) yd yk yn kx) (λ_ _ _ _ _ h _ _=>h.elim) qq.out.1
  (λx=>{ tmps:=#[Z6 (ZW ⟨r,0,ZX⟩),Z7 Z8 (T:Int),Z6 (ZW ⟨w.heap.size,0,ZX⟩),ZY,Z7 Z9 (x.1:Int),ZY,ZY,ZY,ZY,Z7 Z8 (T:Int),Z6 (ZW ⟨r,0,ZX⟩),Z6 (ZW ⟨r,0,ZX⟩),Z6 (ZW ⟨r,3,ZX⟩),Z7 Z8 (gone:Int),Z7 Z8 (S1:Int),Z6 (ZW ⟨r,0,ZX⟩),Z6 (ZW ⟨r,0,ZX⟩),Z6 (ZW ⟨r,4,ZX⟩),Z7 Z8 (sp:Int),Z7 Z8 (S:Int),.func (.func 147) #[] #[Z6 (ZW ⟨w1.heap.size,0,ZX⟩)],Z7 Z9 (x.1:Int),ZY,ZY,ZY,ZY,ZY,ZY,ZY,ZY,ZY,ZY,ZY,ZY,ZY,ZY,ZY,ZY,ZY,ZY,ZY,ZY,ZY,ZY,ZY,ZY,ZY,ZY,ZY,ZY,ZY,ZY,ZY,ZY,ZY,ZY,ZY,ZY,ZY,ZY,ZY,ZY,ZY,ZY,ZY,ZY,ZY,ZY,ZY,ZY,ZY,ZY,ZY,ZY,ZY,ZY,ZY,ZY,ZY,ZY,ZY,ZY,ZY,ZY,ZY,ZY,ZY,ZY,ZY,ZY,ZY,ZY,ZY,ZY,ZY,ZY,ZY,ZY,ZY,ZY],defers:=[] }) ?assign ?body ?done ?stop
 case assign=>
  intro l2 x X Kk hK;unfold wU;gi_wp2;exact hK
 case body=>
  rintro l2 pre x X a x9;clear x9;have yo:x.1∈ab S:=cE.2 x.2;obtain ⟨qp,y2⟩:=y7 _ (y6 _ yo);have qs:=a.b2.lt;have c2:=a.b2.cell;obtain ⟨c0,c1,cs,c3,c4⟩:=a.rd.cells;obtain ⟨f,E,H⟩:=a.row;have cg:=E.cell (i:=x.1) qp;have xz:¬ F.S w.heap.size:=λq=>by have:=kx _ q;omega
  have W:=a.arr;have yi:∀ d∈AD ds (dG pre),d<16:=λd hd=>by replace hd:=(FS.1 hd).1;unfold dG at hd;obtain ⟨y,_,rfl⟩:=T9.1 hd;exact y.2.1
  have xx:=zm (gnB A b) _ yi;obtain ⟨gn,x4⟩:=nM (jA (gnB A b) (AD ds (dG pre)));have I:=a.rd;obtain ⟨hl,q7,J⟩:=a.vol;have yf:hl<65536:=T7 q7 (UW (n:=2) (by decide) qz);rw [x4] at xx I;by_cases hy:x.1∈ds++Cl A b (AD ds (dG pre))
  . obtain ⟨bl,y8,y9,ya,yb⟩:=H.2 _ hy;rw [y8] at cg;have HI:=ak a;have HK:=ak H;have HR:=ak E;clear a H E W I J;gi_wp2;rename_i ky
    refine ky _ _ ?_;clear ky;simp only [Act.put,TX,TY,TZ,Bool.not_false];gi_wp2;have a:=HI.o;refine ⟨⟨TU _,λk o _ ho _=>ho⟩,λ_=>u.tab.keep (a.out.block _ u.tab.lt (λq=>by rcases q with q|q|q|q;omega;omega;omega;exact u.t q)),?_⟩;by_cases kb:x.1∈ds
    . refine ⟨a.b2,?_,a.vol,⟨f,HR.o,?_⟩,a.arr,a.out,a.size⟩<;>rw [fu,Qd kb]
      . exact a.rd
      . exact HK.o
    . have k8:=(me.1 ((Ui.1 hy).resolve_left kb)).2;refine ⟨a.b2,?_,a.vol,⟨f,HR.o,?_⟩,a.arr,a.out,a.size⟩<;>rw [fu,oA kb]
      . rw [zk _ k8];exact a.rd
      . rw [FT _ k8,<- Uz];refine ⟨λi k9=>HK.o.1 i (λq=>k9 (UF _ q)),λi k9=>HK.o.2 i ?_⟩;rcases Ui.1 k9 with q|q
        . exact q
        . rw [U5.1 q];exact hy
  . have yc:f x.1=Z5 ZX 0 0:=H.1 _ hy;rw [yc] at cg;have kb:x.1∉ds:=λq=>hy (UF _ q);have h5:bV X:=u.laid.keep (a.out.block _ u.laid.lt (λq=>by rcases q with q|q|q|q;omega;omega;omega;exact u.g q));have HI:=hide7 a H E W I J h5;clear a H E W I J h5;gi_wp2;rename_i ky
    refine ky _ _ ?_;clear ky;simp only [Act.put,TX,TY,TZ];gi_wp2;obtain ⟨a,H,E,W,I,J,h5⟩:=HI.o;have yy:gone|||gn<65536:=WJ (n:=16) x5 xx;have qk:bW X X.drew:=(TW _ X).drew;have xd:∀ w',aa F.S X w'->w'.cell? ⟨w.heap.size,0,ZX⟩=ZW (Z6 (ZW ⟨r,0,ZX⟩))/\w'.cell? ⟨r,0,ZX⟩=ZW (Z6 (ZW ⟨v,0,ZX⟩))/\w'.cell? ⟨r,1,ZX⟩=ZW (Z7 Z9 b):=λw' hO=>⟨We ((hO.block _ qs xz).trans a.b2),(a.rd.keep (hO.block _ a.rd.lt ks)).cells.1,(a.rd.keep (hO.block _ a.rd.lt ks)).cells.2.1⟩;refine bB (dr _) 99 [(0,ZV),(1,ZV),(2,ZV),(3,ZV),(4,ZV),(5,ZV),(6,ZV),(7,ZV),(8,ZV),(9,ZU),(10,ZV),(11,ZV),(12,ZV),(13,ZV),(14,ZV)] (λw'=>w'.cell? ⟨w.heap.size,0,ZX⟩=ZW (Z6 (ZW ⟨r,0,ZX⟩))/\w'.cell? ⟨r,0,ZX⟩=ZW (Z6 (ZW ⟨v,0,ZX⟩))/\w'.cell? ⟨r,1,ZX⟩=ZW (Z7 Z9 b)) (by kernel_rfl) (by kernel_rfl) (xd _ (aa.drew X)) ?_;iterate 9 (refine aC rfl rfl ?_;apply YF;refine ⟨λw' B=>?_,?_⟩;(obtain ⟨s1,s2,s3⟩:=B;first|(go_simp;done)|(go_simp;exact rfl));simp only [Act.put,TX,TY,TZ])
    refine dF (dr _) (Hw (J.keep (qk.block _ J.lt)) (W.below qk lR) x.1 b y2 hb (h5.below qk h5.lt) u.g) rfl rfl nofun (by go_simp) ?_;rintro e w2 ⟨Y,rfl,xj,kc,qx,q5⟩;refine ⟨_,rfl,λ_=>xd _ ((aa.drew X).trans kc),?_⟩;simp only [Act.put,TX,TY,TZ];iterate 5 (refine aC rfl rfl ?_;apply YF;refine ⟨λw' B=>?_,?_⟩;(obtain ⟨s1,s2,s3⟩:=B;first|(go_simp;done)|(go_simp;exact rfl));simp only [Act.put,TX,TY,TZ])
    refine cB ?_;have Q:aa (F.S) X w2:=(aa.drew X).trans kc;have qo:∀ k,B0<=k->k<X.heap.size->w2.heap[k]?=X.heap[k]?:=λk m Z=>Q.block k Z (λq=>by have:=qh k q;omega);have qe:=ak xj;have qf:=al Q qo;clear a H E W I J h5 xj Q kc qo c0 c1 cs c3 c4 cg c2 qk xd;rename_i hK
    refine hK _ _ ?_;clear hK;have q6:∀ z,gnB A b x.1=ZV->eh z r v b g N (gone|||gn|||2^x.1) sp->(∃ h,h<2^N/\bg z v p D L G ps h)->aa (λk=>k=r\/k=v) w2 z->(X.heap.size<=z.heap.size/\∀ k,w.heap.size<=k->k<X.heap.size->z.heap[k]?=X.heap[k]?)/\aG z/\QN w r v b g N p D L G ps ho gone sp B0 ds A F M w6.heap.size S (pre++[x]) z:=λz xo xc ym kz=>by
     obtain ⟨a,H,E,_⟩:=HI.o;have yg:∀ k,F.S k->¬ (k=r\/k=v):=λk m e=>by rcases e with e|e;exact ks (by rw [<- e];exact m);exact u.v (by rw [<- e];exact m)
     have y4:=qe.out.keep λk m=>kz.block k (qe.out.RN m) (yg k m);have ke:aa (λk=>k=r\/k=v\/F.S k) X z:=(qf.out.1.mono λ_ _ q=>.inr (.inr q)).trans (kz.mono λ_ _ q=>q.elim .inl λq=>.inr (.inl q));have xk:aa (λk=>k=g\/k=r\/k=v\/F.S k) w z:=a.out.trans (ke.mono λ_ _ q=>.inr q);have xm:∀ k,w.heap.size<=k->k<X.heap.size->z.heap[k]?=X.heap[k]?:=λk m Z=>ke.block k Z (λq=>by rcases q with q|q|q;omega;omega;have:=kx k q;omega);refine ⟨⟨ke.size,xm⟩,u.tab.keep (xk.block _ u.tab.lt (λq=>by rcases q with q|q|q|q;omega;omega;omega;exact u.t q)),?_⟩;have Z:∀ k,B0<=k->k<X.heap.size->z.heap[k]?=X.heap[k]?:=λk m Z=>ke.block k Z (λq=>by rcases q with q|q|q;omega;omega;have:=qh k q;omega);exact ⟨(xm _ lR qs).trans a.b2,by rw [fu,oA kb,zl _ xo,x4,<- Nat.or_assoc];exact xc,ym,⟨f,E.of_block (ke.block _ E.lt (λq=>by rcases q with q|q|q;exact x6 q.symm;exact xp q.symm;exact x3 q)),by rw [fu,oA kb,Qe _ xo];exact H.keep ke.size λk o m ho _=>(Z k m (T5.1 ho).1).trans ho⟩,y4,xk,TV a.size ke.size⟩
    have HF:=ak q6;clear q6;obtain ⟨qy,kf⟩:=hM _ y2;cases k8:gnB A b x.1 with
    | false=>
     rw [K3 k8,qy];obtain ⟨l,y0⟩:=nM (M x.1);rw [y0] at kf ⊢;clear qy qx HF q5;have z3:=KZ;simp only [fT,dK];gi_wp2_with (show wpListIn _ _ _ _ _ ({ dst:=ZX,op:=Op.store 213 (Z0 7) (Z0 46),type:=_,pos:=_,after:=_,guard:=_ }::_) _ _;refine zV (w:=w2) (l:=l) rfl (Z0 7) (Z0 46) rfl (by rfl) (by rfl) (by rfl) kf ?_)
     obtain ⟨Q,qo⟩:=qf.out;obtain ⟨a,H,E,W,I,J,h5⟩:=HI.o;have ys:X.heap.size<=w2.heap.size:=Q.size;have hs:bW w2 (w2.alloc (Z4 (aJ (l)).toArray 213)):=bA w2 _;have xa:(w2.alloc (Z4 (aJ (l)).toArray 213)).heap[w2.heap.size]?=ZW (Z4 (aJ (l)).toArray 213 (0,0)):=Ug _ _;have yr:(w2.alloc (Z4 (aJ (l)).toArray 213)).heap.size=w2.heap.size+1:=(by simp);obtain ⟨c,k7⟩:=nM (w2.alloc (Z4 (aJ (l)).toArray 213));rw [k7] at hs xa yr ⊢;have ko:∀ k,k<X.heap.size->¬ F.S k->c.heap[k]?=X.heap[k]?:=λk m yh=>(hs.block k (by omega)).trans (Q.block k m yh);have x2:∀ k,B0<=k->k<X.heap.size->c.heap[k]?=X.heap[k]?:=λk m Z=>ko k Z (λq=>by have:=qh k q;omega);have hf:c.rowIs g 40 N f:=E.of_block (ko g E.lt x3);have h7:c.cell? ⟨w.heap.size,0,ZX⟩=ZW (Z6 (ZW ⟨r,0,ZX⟩)):=We ((x2 _ qv (by omega)).trans a.b2);have hz:=(I.keep (ko r I.lt ks)).cells.2.2.1;have qr:=hf.cell (i:=x.1) qp;have z8:=hf.frozen x.1;refine bB (dr _) 99 [(0,ZV),(1,ZV),(2,ZV),(3,ZV),(4,ZV),(5,ZV),(6,ZV),(7,ZV),(8,ZU)] (λw'=>w'.cell? ⟨w.heap.size,0,ZX⟩=ZW (Z6 (ZW ⟨r,0,ZX⟩))/\w'.cell? ⟨r,2,ZX⟩=ZW (Z5 (ZW ⟨g,0,ZX⟩) N N)) (by kernel_rfl) (by kernel_rfl) ⟨h7,hz⟩ ?_;iterate 8 (refine aC rfl rfl ?_;apply YF;refine ⟨λw' B=>?_,?_⟩;(obtain ⟨s1,s2⟩:=B;first|(go_simp;done)|(go_simp;exact rfl));simp only [Act.put,TX,TY,TZ])
     refine dS (dr _) (w1:=c.drew.setCell ⟨g,x.1,ZX⟩ (Z5 (ZW ⟨w2.heap.size,0,ZX⟩) 44 44)) rfl rfl nofun (by go_simp) (λ_=>⟨(Uk (Ud _ _ _ _ (by show w.heap.size≠g;omega))).trans h7,(Uk (Ud _ _ _ _ x6)).trans hz⟩) (cB ?_);obtain ⟨s,R⟩:∃ s,s=c.drew.setCell ⟨g,x.1,ZX⟩ (Z5 (ZW ⟨w2.heap.size,0,ZX⟩) 44 44):=⟨_,rfl⟩;rw [<- R];clear h7 hz qr z8;have hj:∀ k,k≠g->s.heap[k]?=c.heap[k]?:=λk m=>by rw [R];exact Ud _ _ _ _ m
     have z6:s.heap.size=c.heap.size:=(by rw [R];simp [World.setCell]);have hg:=hf.set x.1 (Z5 (ZW ⟨w2.heap.size,0,ZX⟩) 44 44);have k0:s.rowIs g 40 N (λi=>if i=x.1 then Z5 (ZW ⟨w2.heap.size,0,ZX⟩) 44 44 else f i):=(by rw [R];exact hg);have kp:∀ k,B0<=k->k<X.heap.size->s.heap[k]?=X.heap[k]?:=λk m Z=>(hj k (by omega)).trans (x2 k m Z);have C:aa (λk=>k=g\/k=r\/k=v\/F.S k) w s:=by
      have h3:aa (λk=>k=g\/k=r\/k=v\/F.S k) w c:=(a.out.trans (Q.mono λ_ _ q=>.inr (.inr (.inr q)))).trans (aa.RL hs _);rw [R];exact (h3.trans (aa.drew c)).trans (aa.setCell _ _ _ (.inl rfl))
     have qg:=qe.out.keep λk m=>by
      have:=kx k m;exact (hj k (λe=>x3 (by rw [<- e];exact m))).trans (hs.block k (by omega))
     have k6:Kn s B0 vR (λi=>if i=x.1 then Z5 (ZW ⟨w2.heap.size,0,ZX⟩) 44 44 else f i) M (ds++Cl A b (AD ds (dG pre))++[x.1]):=by
      have xv:=H.keep (w':=s) (by omega) λk o m ho _=>(kp k m (T5.1 ho).1).trans ho;refine ⟨λi k9=>?_,λi k9=>?_⟩
      . have h1:i≠x.1:=λe=>k9 (by rw [e];simp);show (if i=x.1 then _ else f i)=_;rw [TS h1];exact xv.1 i (λq=>k9 (UF _ q))
      . show ∃ bl,(if i=x.1 then _ else f i)=_/\_;by_cases e:i=x.1
        . rw [TT e,e,y0];exact ⟨w2.heap.size,rfl,by omega,by omega,(hj _ (by omega)).trans xa⟩
        . rw [TS e];rcases Ui.1 k9 with q|q
          . exact xv.2 i q
          . exact absurd (U5.1 q) e
     have H4:=a6 k0 kp C qg k6;have xb:=ak (I.keep ((hj r x6).trans (ko r I.lt ks)));have xe:=ak (J.keep ((hj v xp).trans (ko v J.lt u.v)));have xg:X.heap.size<=s.heap.size:=(by omega);clear hg k0 kp C qg k6 hj R hf ko x2 hs xa a H E W I J h5 Q qo k7 qf qe;rename_i hK
     refine hK _ _ ?_;clear hK;simp only [Act.put,TX,TY,TZ];gi_wp2;obtain ⟨hg,kp,C,qg,k6⟩:=H4.o;have a:=HI.o.1;have z7:=a.size;refine ⟨⟨xg,λk o m ho _=>(kp k (by omega) (T5.1 ho).1).trans ho⟩,λ_=>u.tab.keep (C.block _ u.tab.lt (λq=>by rcases q with q|q|q|q;omega;omega;omega;exact u.t q)),?_⟩;exact ⟨(kp _ qv (by omega)).trans a.b2,by rw [fu,oA kb,zk _ k8,x4];exact xb.out,⟨_,q7,xe.out⟩,⟨_,hg,by rw [fu,oA kb,FT _ k8,<- Uz];exact k6⟩,qg,C,by omega⟩
    | true=>
     have HS:=ak qx;have U:b9 (eh w2 r v b g N (gone|||gn) sp/\bg w2 v p D L G ps hl/\ZO w2 w.heap.size 170 (Z6 (ZW ⟨r,0,ZX⟩))):=by
      have Q:=qf.out.1;obtain ⟨a,H,E,W,I,J,h5⟩:=HI.o;exact ak ⟨I.keep (Q.block _ I.lt ks),J.keep (Q.block _ J.lt u.v),(Q.block _ qs xz).trans a.b2⟩
     clear qx qy kf;rcases Et k8 with ⟨kg,ka⟩|⟨kg,ka⟩|⟨kg,ka⟩<;>(
      rw [ka];rw [kg] at HS
      (first
       | (have q:A.lost x.1=ZV:=kg
          clear q ka kg q5;obtain ⟨z1,kk⟩:=Ci;obtain ⟨z2,km⟩:=Cj;simp only [fT];gi_wp2;refine dq HS.o ?_;rintro e c ⟨rfl,k7⟩;subst k7;gi_wp2;obtain ⟨K,O,P⟩:=U.o;have cb:=P.cell;have V:=K.cells.1;have c5:=O.cells.2.2.2.2.2;have f5:c.frozen? ⟨v,5,ZX⟩=ZU:=by
           have h':c.heap[v]?=_:=O;simp [World.frozen?,h']
          refine bB (dr _) 99 [(0,ZV),(1,ZV),(2,ZV),(3,ZV),(4,ZV),(5,ZV),(6,ZV),(7,ZV),(8,ZV),(9,ZV),(11,ZV),(10,ZU),(12,ZU),(13,ZV),(14,ZV),(15,ZU)] (λw'=>w'.cell? ⟨w.heap.size,0,ZX⟩=ZW (Z6 (ZW ⟨r,0,ZX⟩))/\w'.cell? ⟨r,0,ZX⟩=ZW (Z6 (ZW ⟨v,0,ZX⟩))) (by kernel_rfl) (by kernel_rfl) ⟨cb,V⟩ ?_;iterate 11 (refine aC rfl rfl ?_;apply YF;refine ⟨λw' B=>?_,?_⟩;(obtain ⟨s1,s2⟩:=B;first|(go_simp;done)|(go_simp;exact rfl));simp only [Act.put,TX,TY,TZ])
          refine lU (dr _) (w1:=c.drew) (v:=Z7 Z8 (hl:Int)) rfl rfl nofun (by go_simp) (λ_=>⟨cb,V⟩) ?_;simp only [Act.put,TX,TY,TZ];refine dF (dr _) (eS hl x.1 (by omega) (by omega) c.drew) rfl rfl nofun (by go_simp) ?_;rintro e z ⟨rfl,rfl⟩;refine ⟨_,rfl,λ_=>⟨cb,V⟩,?_⟩;simp only [Act.put,TX,TY,TZ];iterate 2 (refine aC rfl rfl ?_;apply YF;refine ⟨λw' B=>?_,?_⟩;(obtain ⟨s1,s2⟩:=B;first|(go_simp;done)|(go_simp;exact rfl));simp only [Act.put,TX,TY,TZ])
          refine dS (dr _) (w1:=c.drew.setCell ⟨v,5,ZX⟩ (Z7 Z8 ((hl|||2^x.1:Nat):Int))) rfl rfl nofun (by go_simp) (λ_=>⟨(Uk (Ud _ _ _ _ (by show w.heap.size≠v;omega))).trans cb,(Uk (Ud _ _ _ _ (λe=>qa e.symm))).trans V⟩) (cB ?_);clear cb V c5 f5;have ki:bg (c.drew.setCell ⟨v,5,ZX⟩ (Z7 Z8 ((hl|||2^x.1:Nat):Int))) v p D L G ps (hl|||2^x.1):=ag (j:=5) O _;have C:aa (λk=>k=v) c (c.drew.setCell ⟨v,5,ZX⟩ (Z7 Z8 ((hl|||2^x.1:Nat):Int))):=(aa.drew c).trans (aa.setCell _ _ _ rfl);obtain ⟨s,R⟩:=nM (c.drew.setCell ⟨v,5,ZX⟩ (Z7 Z8 ((hl|||2^x.1:Nat):Int)));rw [R] at ki C ⊢;have kv:ZO s w.heap.size 170 (Z6 (ZW ⟨r,0,ZX⟩)):=(C.block _ P.lt (by omega)).trans P;have H4:=a6 (K.keep (C.block r K.lt (λe=>qa e.symm))) ki kv (C.mono (T:=λk=>k=r\/k=v) λ_ _ q=>.inr q) (WJ q7 (Vx (by decide) qp):hl|||2^x.1<2^N);clear K O P R ki C kv;rename_i hK
          refine hK _ _ ?_;clear hK;simp only [Act.put,TX,TY,TZ])
       | (have q:A.RX x.1 b=ZX:=ka
          clear q ka kg q5;obtain ⟨z1,kk⟩:=Ci;obtain ⟨z2,km⟩:=Cj;simp only [fT];gi_wp2;refine dq HS.o ?_;rintro e s ⟨rfl,k7⟩;subst k7;have H4:=a6 U.o.1 U.o.2.1 U.o.2.2 (aa.refl (λk=>k=r\/k=v) s) q7)
       | (have hY:=q5 (by rw [ka];nofun)
          subst hY;clear ka kg q5;obtain ⟨z1,kk⟩:=Hu;have km:=Hv;simp only [fT,dK] at kk km ⊢;gi_wp2_with (show wpListIn _ _ _ _ _ ({ dst:=ZX,op:=Op.store 231 (Z0 8) (Z0 57),type:=_,pos:=_,after:=_,guard:=_ }::_) _ _;refine zW rfl (Z0 8) (Z0 57) rfl (by rfl) (by rfl) ?_)
          have kr:bW w2 (w2.alloc (Z4 #[] 231)):=bA w2 _;obtain ⟨c,k7⟩:=nM (w2.alloc (Z4 #[] 231));rw [k7] at kr ⊢;have xi:ZO c w.heap.size 170 (Z6 (ZW ⟨r,0,ZX⟩)):=(kr.block _ U.o.2.2.lt).trans U.o.2.2;have H3:=aE (U.o.1.keep (kr.block _ U.o.1.lt)) (U.o.2.1.keep (kr.block _ U.o.2.1.lt)) xi;clear k7 xi;obtain ⟨K,O,P⟩:=H3.o;have cb:=P.cell;have V:=K.cells.1;have c5:=O.cells.2.2.2.2.2;have f5:c.frozen? ⟨v,5,ZX⟩=ZU:=by
           have h':c.heap[v]?=_:=O;simp [World.frozen?,h']
          refine bB (dr _) 99 [(0,ZV),(1,ZV),(2,ZV),(3,ZV),(4,ZV),(5,ZV),(6,ZV),(7,ZV),(8,ZV),(9,ZV),(11,ZV),(10,ZU),(12,ZU),(13,ZV),(14,ZV),(15,ZU)] (λw'=>w'.cell? ⟨w.heap.size,0,ZX⟩=ZW (Z6 (ZW ⟨r,0,ZX⟩))/\w'.cell? ⟨r,0,ZX⟩=ZW (Z6 (ZW ⟨v,0,ZX⟩))) (by kernel_rfl) (by kernel_rfl) ⟨cb,V⟩ ?_;iterate 11 (refine aC rfl rfl ?_;apply YF;refine ⟨λw' B=>?_,?_⟩;(obtain ⟨s1,s2⟩:=B;first|(go_simp;done)|(go_simp;exact rfl));simp only [Act.put,TX,TY,TZ])
          refine lU (dr _) (w1:=c.drew) (v:=Z7 Z8 (hl:Int)) rfl rfl nofun (by go_simp) (λ_=>⟨cb,V⟩) ?_;simp only [Act.put,TX,TY,TZ];refine dF (dr _) (eS hl x.1 (by omega) (by omega) c.drew) rfl rfl nofun (by go_simp) ?_;rintro e z ⟨rfl,rfl⟩;refine ⟨_,rfl,λ_=>⟨cb,V⟩,?_⟩;simp only [Act.put,TX,TY,TZ];iterate 2 (refine aC rfl rfl ?_;apply YF;refine ⟨λw' B=>?_,?_⟩;(obtain ⟨s1,s2⟩:=B;first|(go_simp;done)|(go_simp;exact rfl));simp only [Act.put,TX,TY,TZ])
          refine dS (dr _) (w1:=c.drew.setCell ⟨v,5,ZX⟩ (Z7 Z8 ((hl|||2^x.1:Nat):Int))) rfl rfl nofun (by go_simp) (λ_=>⟨(Uk (Ud _ _ _ _ (by show w.heap.size≠v;omega))).trans cb,(Uk (Ud _ _ _ _ (λe=>qa e.symm))).trans V⟩) (cB ?_);clear cb V c5 f5;have ki:bg (c.drew.setCell ⟨v,5,ZX⟩ (Z7 Z8 ((hl|||2^x.1:Nat):Int))) v p D L G ps (hl|||2^x.1):=ag (j:=5) O _;have C:aa (λk=>k=v) c (c.drew.setCell ⟨v,5,ZX⟩ (Z7 Z8 ((hl|||2^x.1:Nat):Int))):=(aa.drew c).trans (aa.setCell _ _ _ rfl);obtain ⟨s,R⟩:=nM (c.drew.setCell ⟨v,5,ZX⟩ (Z7 Z8 ((hl|||2^x.1:Nat):Int)));rw [R] at ki C ⊢;have kv:ZO s w.heap.size 170 (Z6 (ZW ⟨r,0,ZX⟩)):=(C.block _ P.lt (by omega)).trans P;have H4:=a6 (K.keep (C.block r K.lt (λe=>qa e.symm))) ki kv ((aa.RL kr (λk=>k=r\/k=v)).trans (C.mono λ_ _ q=>.inr q)) (WJ q7 (Vx (by decide) qp):hl|||2^x.1<2^N);clear K O P R ki C kv;rename_i hK
          refine hK _ _ ?_;clear hK;simp only [Act.put,TX,TY,TZ];gi_wp2;refine dq (zi 11 s) ?_;rintro e z ⟨rfl,kj⟩;obtain rfl:s=z:=kj.symm;clear U H3 kr kj))
      gi_wp2;obtain ⟨K,O,P,x0,x7⟩:=H4.o;have h7:=P.cell;have hz:=K.cells.2.2.2.1;have z9:s.frozen? ⟨r,3,ZX⟩=ZU:=by
       have h':s.heap[r]?=_:=K;simp [World.frozen?,h']
      refine bB (dr _) 99 [(0,ZV),(1,ZV),(2,ZV),(3,ZV),(5,ZV),(4,ZU),(6,ZU),(7,ZV),(8,ZV),(9,ZU)] (λw'=>w'.cell? ⟨w.heap.size,0,ZX⟩=ZW (Z6 (ZW ⟨r,0,ZX⟩))) (by kernel_rfl) (by kernel_rfl) h7 ?_;iterate 5 (refine aC rfl rfl ?_;apply YF;refine ⟨λw' B=>?_,?_⟩;(first|(go_simp;done)|(go_simp;exact rfl));simp only [Act.put,TX,TY,TZ])
      refine lU (dr _) (w1:=s.drew) (v:=Z7 Z8 ((gone|||gn:Nat):Int)) rfl rfl nofun (by go_simp) (λ_=>h7) ?_;simp only [Act.put,TX,TY,TZ];refine dF (dr _) (eS (gone|||gn) x.1 (by omega) (by omega) s.drew) rfl rfl nofun (by go_simp) ?_;rintro e z ⟨rfl,rfl⟩;refine ⟨_,rfl,λ_=>h7,?_⟩;simp only [Act.put,TX,TY,TZ];iterate 2 (refine aC rfl rfl ?_;apply YF;refine ⟨λw' B=>?_,?_⟩;(first|(go_simp;done)|(go_simp;exact rfl));simp only [Act.put,TX,TY,TZ])
      refine dS (dr _) (w1:=s.drew.setCell ⟨r,3,ZX⟩ (Z7 Z8 ((gone|||gn|||2^x.1:Nat):Int))) rfl rfl nofun (by go_simp) (λ_=>(Uk (Ud _ _ _ _ (by show w.heap.size≠r;omega))).trans h7) (cB ?_);obtain ⟨z,kj⟩:∃ z,z=s.drew.setCell ⟨r,3,ZX⟩ (Z7 Z8 ((gone|||gn|||2^x.1:Nat):Int)):=⟨_,rfl⟩;rw [<- kj];clear h7 hz z9;have x1:aa (λk=>k=r) s z:=by
       rw [kj];exact (aa.drew s).trans (aa.setCell _ _ _ rfl)
      have H5:=ak (HF.o z k8 (by rw [kj];exact ag (j:=3) K _) ⟨_,x7,O.keep (x1.block _ O.lt qa)⟩ (x0.trans (x1.mono λ_ _ q=>.inl q)));clear K O P kj x1;simp only [Act.put,TX,TY,TZ];gi_wp2;obtain ⟨⟨q1,q2⟩,q3,q4⟩:=H5.o;exact ⟨⟨q1,λk o m ho _=>(q2 k (by omega) (T5.1 ho).1).trans ho⟩,λ_=>q3,q4⟩)
 case done=>
  rintro D' xs X y5 yp a hK;have qd:dG xs=ab S:=yp;obtain ⟨f,E,H⟩:=a.row;have q8:∀ k,k<w.heap.size+1->(X.putObj D' (.deferred ZX)).heap[k]?=X.heap[k]?:=λk m=>UO (by omega);have W:=a.arr;refine K2 results111 rfl hK ⟨rfl,by rw [<- qd];exact a.rd.keep (q8 _ (by omega)),a.vol.imp λ_ q=>⟨q.1,q.2.keep (q8 _ (by omega))⟩,⟨f,E.of_block (q8 _ (by omega)),?_⟩,?_,?_⟩
  . rw [<- qd];refine H.keep (by simp [World.putObj]) λk o m ho hc=>(UO (λe=>?_)).trans ho;rw [e,hK] at ho;cases ho;cases hc
  . exact W.keep λk m=>q8 k (by have:=kx k m;omega)
  . exact a.out.later (T:=λk=>w.heap.size<=k) ⟨rfl,rfl,rfl,by simp [World.putObj],λk qm qn=>q8 k (by omega)⟩ (λk qm qn=>by omega)
 case stop=>
  rintro D' cc pre X y5 yj hx hK;exact hx.elim
end
section
attribute [local go_sem] Oper.semAt_some
structure CF (w:ZT) (D L G:Nat) (X:ZT):Prop where
 par:X.heap[w.heap.size]?=ZW (Z4 #[Z7 Z9 (D:Int),Z7 Z9 (L:Int),Z7 Z9 (G:Int)] 27 (0,0))
 res:aF X (w.heap.size+1) dL
 err:ZO X (w.heap.size+1+1) 64 .nilIface
 below:bW w X
def CF.mono (h:CF w D L G X) (a:ZR B X Y) (b:w.heap.size+3<=B):CF w D L G Y:=
 ⟨(a.block _ (by omega)).trans h.par,h.res.keep (a.block _ (by omega)),(a.block _ (by omega)).trans h.err,h.below.trans (a.mono (by omega))⟩
def CF.own {row:Option Nat} (h:CF w D L G X) (c:w.heap.size+3<=B) (a:X.grownBy Y row) (b:∀ r,row=ZW r->B<=r):CF w D L G Y:=
 h.mono (B:=w.heap.size+3) ⟨a.os,a.tape,a.output,a.size,λk d=>a.block k (by have:=h.err.lt;omega) (λe=>by have:=b k e.symm;omega)⟩ lR
def fw {z:ZS} {t:ZP} (h:X.heap[b]?=ZW (Z4 #[x,y,z] t (0,0))):X.cell? ⟨b,0,ZX⟩=ZW x/\X.cell? ⟨b,1,ZX⟩=ZW y/\X.cell? ⟨b,2,ZX⟩=ZW z:=by simp [World.cell?,h]
def Qg (D L G S:Nat) (w:ZT) (e:Ending) (w':ZT):Prop:=
 bW w w'/\((tells (jI D L G) (ab S)=ZX/\e=Z3 (ZZ #[.agg (aY dL),.iface 66 (Z7 Z9 3)])) \/
  (∃ C,tells (jI D L G) (ab S)=ZW C/\e=Z3 (ZZ #[.agg (aY C),.nilIface])))
def Eu (pre:List Sh):a8:=pre.map (·.1)
def Hy (pre:List Sh) (x:Sh):Eu (pre++[x])=Eu pre++[x.1]:=by unfold Eu;simp
def Rs (w:ZT) (D L G Bc B:Nat) (pre:List Sh) (X:ZT):Prop:=CF w D L G X/\(∃ C,tells (jI D L G) (Eu pre)=ZW C/\aF X Bc C)/\B<=X.heap.size
def CfX (w:ZT) (D L G B:Nat) (c:Code) (pre:List Sh) (X:ZT):Prop:=c=.ret/\tells (jI D L G) (Eu pre)=ZX/\bW w X/\B<=X.heap.size /\
 aF X (w.heap.size+1) dL/\ZO X (w.heap.size+1+1) 64 (.iface 66 (Z7 Z9 3))
def Rs.own {Bc:Nat} (h:w.heap.size+3<=B) (i:Bc<B):OwnFrom B (Rs w D L G Bc B):=by
 rintro pre X Y row ⟨d,⟨C,f,b⟩,g⟩ a c;exact ⟨d.own h a (λr e=>(c r e).1),⟨C,f,b.keep (a.block _ b.lt (λe=>by have:=(c _ e.symm).1;omega))⟩,TV g a.size⟩
def CfX.own (m:w.heap.size+3<=B) (c:Code):OwnFrom B (CfX w D L G B c):=by
 rintro pre X Y row ⟨g,h,d,i,j,l⟩ a f;have b:∀ k,k<w.heap.size+3->Y.heap[k]?=X.heap[k]?:=λk b=>a.block k (by omega) (λe=>by have:=(f k e.symm).1;omega);exact ⟨g,h,d.grown a d.size (λk e=>by have:=(f k e).1;omega),TV i a.size,j.keep (b _ (by omega)),(b _ (by omega)).trans l⟩
def qW (h:aF X b C) (cs:Array ZS):KeepsOthers X (X.setRow b cs):=
 aba (aQ _ _ _) (λj o e ho=>by cases e;rw [h.heap] at ho;cases ho;rfl)
def Ev (h:aF w b C):(loadVar 332 ⟨b,0,ZX⟩).run ZN w=.ok (.agg (aY C)) w:=Xa w b 332 332 (aY C) (0,0) _ h.heap XH rfl (dW C)
theorem K4 {ev:ZS} (c:a.defers=[{ target:=.collected D',args:=#[] }]) (h4:a.tmps.getD 4 ZY=Z6 (ZW ⟨w.heap.size+1,0,ZX⟩)) (h5:a.tmps.getD 5 ZY=Z6 (ZW ⟨w.heap.size+1+1,0,ZX⟩))
 (h1:aF Z (w.heap.size+1) C) (h0:ZO Z (w.heap.size+1+1) 64 ev) (hK:Z.heap[D']?=ZW (.deferred (ZW []))) (hD:w.heap.size+3<=D')
 (hR:R (Z3 (ZZ #[.agg (aY C),ev])) (Z.putObj D' (.deferred ZX))):bodyPostM Fence.wide n ZN Tryz.f208 R .ret a Z:=by
 obtain ⟨d,h⟩:=a;simp only at c h4 h5;subst c;refine ⟨by simp,.inl ⟨_,_,rfl,Wv hK,?_⟩⟩;have c0:=Ev (show aF (Z.putObj D' (.deferred ZX)) (w.heap.size+1) C from h1.keep (UO (by omega)));have e:=(show ZO (Z.putObj D' (.deferred ZX)) (w.heap.size+1+1) 64 ev from (UO (by omega)).trans h0).cell;have b:(loadVar 64 ⟨w.heap.size+1+1,0,ZX⟩).run ZN (Z.putObj D' (.deferred ZX))=.ok ev (Z.putObj D' (.deferred ZX)):=by simp [go_sem,e]
 refine ⟨ZZ #[.agg (aY C),ev],?_,hR⟩;have f:d[4]?.getD ZY=Z6 (ZW ⟨w.heap.size+1,0,ZX⟩):=by simpa using h4
 have g:d[5]?.getD ZY=Z6 (ZW ⟨w.heap.size+1+1,0,ZX⟩):=by simpa using h5
 simp [results,results208,asAddr,f,g,c0,b]
theorem kW (D L G S:Nat) (hr:cV D L G=ZV) (qb:1<=D) (hD:D<=12) (hL:1<=L) (k9:L<=4) (hG:G<=4) (hv:D%L=0) (qf:D+L+G<=16) (hS:S<65536) (w:ZT) (hT:aG w) (h2:3<=w.heap.size) :
 ZQ ZN 208 #[.agg #[Z7 Z9 D,Z7 Z9 L,Z7 Z9 G],Z7 Z8 S] w λe w'=>Qg D L G S w e w':=by
 obtain ⟨n,HN⟩:∃ n:Nat,b9 (9<=n):=⟨9,TU _⟩;refine (Vm (n:=n)).1 ?_;refine Wc func208 rfl trivial ?_ rfl;simp only [ntmps208,UH,UA,UT,YG,YH,Ve,Vf,Vg,Vh,Uq,UX];have hz:=zeroCk;gi_wp2;refine cd (jZ D L G hr hD hL k9 hG hv _) ?_;rintro e w1 ⟨v,T,rfl,ka,hH,F⟩;have Y:(((w.alloc (Z4 #[Z7 Z9 (D:Int),Z7 Z9 (L:Int),Z7 Z9 (G:Int)] 27)).alloc (Z4 (aY dL) 332)).alloc (Z4 #[.nilIface] 64)).heap.size=w.heap.size+3:=by simp
 have kg:CF w D L G (((w.alloc (Z4 #[Z7 Z9 (D:Int),Z7 Z9 (L:Int),Z7 Z9 (G:Int)] 27)).alloc (Z4 (aY dL) 332)).alloc (Z4 #[.nilIface] 64)):=by
  obtain ⟨a1,a2,a3,a4⟩:=Ki w (Z4 #[Z7 Z9 (D:Int),Z7 Z9 (L:Int),Z7 Z9 (G:Int)] 27) (Z4 (aY dL) 332) (Z4 #[.nilIface] 64);exact ⟨a2,aF.of_heap a3,a4,((bA w _).alloc (by simp) _).alloc (by simp;omega) _⟩
 try change ZR _ _ _ at F
 rw [Y] at F;have Q:=kg.mono F lR;have M:=F.size;try change ZR _ _ _ at M
 rw [Y] at M;clear kg F Y;have hM:aT D L G≠[]:=λe=>by have:=cI D L G;rw [e] at this;simp at this;omega
 obtain ⟨g,c,rfl,hs,kf⟩:=KO ka hH (kl D L G) hM;obtain ⟨p0,p1,p2⟩:=fw Q.par;have kh:ZQ ZN 219 #[Z5 (ZW ⟨g,0,ZX⟩) (aT D L G).length c,Z7 Z9 D] w1 λe w'=>e=Z3 (.agg (aY (jI D L G)))/\bW w1 w':=by
  have ha:=cI D L G;have h:=zM g 0 c (aT D L G) D w1 hs (λi a=>kf i a) qb (by omega) (by omega) (by omega) (λi a=>by
   have e:(aT D L G).getD i []=(aT D L G)[i]:=(by simp [a]);rw [e];exact kl D L G _ (T6 a))
  try change ZR _ _ _ at h
  rw [show (aT D L G).length-D=L+G by omega] at h;exact h
 have k5:=ak Q;clear ka hH Q kf;gi_wp2;refine cd kh ?_;clear kh;rintro e b ⟨rfl,W⟩;have kp:=W.size;have h6:=k5.out.mono W (by omega);have kb:bW b ((b.alloc (Z4 (aY dL) 332)).setRow b.heap.size (aY (jI D L G))):=(bA _ _).grown (aQ _ _ _) (by simp) (λk e=>by cases e;exact TU _);have kc:aF ((b.alloc (Z4 (aY dL) 332)).setRow b.heap.size (aY (jI D L G))) b.heap.size (jI D L G):=(aF.new b dL).setRow (jI D L G);have h7:=h6.mono kb (by omega);have ky:((b.alloc (Z4 (aY dL) 332)).setRow b.heap.size (aY (jI D L G))).heap.size=b.heap.size+1:=by simp [World.setRow]
 have H:=aE kc h7 ky;clear k5 W h6 kb kc h7 ky;gi_wp2_with (refine jF rfl (Z0 8) (Z0 22) rfl b.heap.size (jI D L G) dL rfl rfl (aF.new b dL) ?_)
 obtain ⟨d,ks⟩:=nM ((b.alloc (Z4 (aY dL) 332)).setRow b.heap.size (aY (jI D L G)));rw [ks] at H ⊢;clear ks;refine cd (dN S d) ?_;rintro e w' ⟨rfl,rfl⟩;have kz:(d.alloc (Z4 #[Z7 Z8 (S:Int)] 133)).heap.size=d.heap.size+1:=by simp
 have ke:(d.alloc (Z4 #[Z7 Z8 (S:Int)] 133)).cell? ⟨d.heap.size,0,ZX⟩=ZW (Z7 Z8 (S:Int)):=(Bx.new d 133 (Z7 Z8 (S:Int))).cell;have kj:Rs w D L G b.heap.size (d.heap.size+1) [] (d.alloc (Z4 #[Z7 Z8 (S:Int)] 133)):=by
  have E:bW d (d.alloc (Z4 #[Z7 Z8 (S:Int)] 133)):=bA _ _;obtain ⟨u,y,m⟩:=H.o;exact ⟨y.mono E (by omega),⟨jI D L G,rfl,u.keep (E.block _ (by omega))⟩,by omega⟩
 obtain ⟨A,kv⟩:=nM (d.alloc (Z4 #[Z7 Z8 (S:Int)] 133));have hf:=H.o.2.2;have K:=a5 kz hf M kp;have J:=ak ke;have s:=ak kj;clear kz ke kj H hf M kp p0 p1 p2;gi_wp2;try change ZR _ _ _ at K
 try change ZR _ _ _ at J
 try change ZR _ _ _ at s
 rw [kv] at K J s;clear kv;have q9:w.heap.size+3<=A.heap.size/\b.heap.size<A.heap.size/\A.heap.size=d.heap.size+1:=by obtain ⟨u,y,m,N⟩:=K.out;omega
 obtain ⟨k6,q8,U⟩:=q9;try change ZR _ _ _ at s
 rw [<- U] at s;have q0:=ak U;clear U;refine Wd rfl (by have:=HN.o;omega) (gf:=147) (lb:=#[Z6 (ZW ⟨d.heap.size,0,ZX⟩)]) rfl trivial (U4 func147 (by kernel_rfl) rfl)
  (eR (n-1) d.heap.size S hS A (by have:=q0.out;omega) J.out (by omega) (hT.mono (by omega) s.out.1.below)) (λh k=>qM h k) (qN (by omega)) (TW _ _) (λ_=>rfl)
  (Rs w D L G b.heap.size A.heap.size) (CfX w D L G A.heap.size) (Rs.own k6 q8) (CfX.own k6) s.out
  (λx=>{ tmps:=#[.agg #[Z7 Z9 (D:Int),Z7 Z9 (L:Int),Z7 Z9 (G:Int)],Z7 Z8 (S:Int),Z6 (ZW ⟨w.heap.size,0,ZX⟩),ZY,Z6 (ZW ⟨w.heap.size+1,0,ZX⟩),Z6 (ZW ⟨w.heap.size+1+1,0,ZX⟩),Z5 (ZW ⟨g,0,ZX⟩) (aT D L G).length c,.nilIface,Z6 (ZW ⟨b.heap.size,0,ZX⟩),Z7 Z9 (x.1:Int),ZZ #[Z5 (ZW ⟨g,0,ZX⟩) (aT D L G).length c,.nilIface],.agg #[Z7 Z9 (D:Int),Z7 Z9 (L:Int),Z7 Z9 (G:Int)],ZZ #[Z5 (ZW ⟨g,0,ZX⟩) (aT D L G).length c,.nilIface],Z5 (ZW ⟨g,0,ZX⟩) (aT D L G).length c,.nilIface,.nilIface,Z1 ZU,ZY,ZY,Z5 (ZW ⟨g,0,ZX⟩) (aT D L G).length c,Z6 (ZW ⟨w.heap.size,0,ZX⟩),Z7 Z9 (D:Int),.agg (aY (jI D L G)),Z7 Z8 (S:Int),.func (.func 147) #[] #[Z6 (ZW ⟨d.heap.size,0,ZX⟩)],Z7 Z9 (x.1:Int),ZY,ZY,ZY,ZY,ZY,ZY],defers:=[] }) ?assign ?body ?done ?stop
 case assign=>
  intro l2 x X Kk hK;unfold qK;gi_wp2;exact hK
 case body=>
  rintro l2 pre x X ⟨a,⟨C,l,z⟩,t⟩ ha;have h9:=zN hD k9 hG l;have kr:=tK b.heap.size x.1 C X z h9 x.2;have I:tells (jI D L G) (Eu (pre++[x]))=oU C x.1:=by rw [Hy,jU,l];rfl
  have j:=ak a;have Z:=ak t;clear t ha l z h9;have ce:=a.err.cell;have fe:=a.err.frozen;clear a;gi_wp2;refine dq kr ?_;clear kr;rintro e w2 (⟨kk,rfl,qe⟩|⟨C',km,rfl,k7,ki⟩)
  . subst qe;have q7:=ak (I.trans kk);clear I kk;have f:ZO (w2.setRow (w.heap.size+1) (aY dL)) (w.heap.size+1+1) 64 .nilIface:=((aQ _ _ _).block _ j.o.err.lt (λe=>by have:=UM e;omega)).trans j.o.err;have O:=f.cell;have P:=f.frozen;have q6:=ak f;clear f;gi_wp2_with (refine jF rfl (Z0 4) (Z0 29) rfl (w.heap.size+1) dL dL rfl rfl j.o.res ?_)
    have a:=j.o;have V:bW w (w2.setRow (w.heap.size+1) (aY dL)):=a.below.grown (aQ _ _ _) a.below.size (λq e=>by cases e;omega);refine ⟨?_,rfl,q7.out,?_,?_,?_,?_⟩
    . exact ((qW j.o.res _).trans (VY _ _ _)).from _
    . exact V.setCell (p:=⟨w.heap.size+1+1,0,ZX⟩) (by show w.heap.size<=w.heap.size+1+1;omega) _
    . have:=Z.o;simpa [World.setCell,World.setRow] using this
    . exact (a.res.setRow dL).keep (V7 _ _ _ _ (by show w.heap.size+1≠w.heap.size+1+1;omega))
    . exact q6.out.set _
  . have H2:=aE (I.trans km) k7 ki;clear I km k7 ki;gi_wp2;obtain ⟨u,y,m⟩:=H2.o;have h5:=j.o.own (B:=w.heap.size+3) lR m (λr e=>by cases e;obtain ⟨u,y,m,N⟩:=K.out;omega);exact ⟨⟨m.size,λk o hk ho _=>(m.block k (T5.1 ho).1 (λe=>by cases e;omega)).trans ho⟩,λ_=>hT.mono (by omega) h5.below,h5,⟨C',u,y⟩,TV Z.o m.size⟩
 case done=>
  rintro D' xs X qa kx ⟨a,⟨C,l,z⟩,t⟩ hK;try change ZR _ _ _ at l
  rw [show Eu xs=ab S from kx] at l;have f:ZO (X.setRow (w.heap.size+1) (aY C)) (w.heap.size+1+1) 64 .nilIface:=((aQ _ _ _).block _ a.err.lt (λe=>by have:=UM e;omega)).trans a.err;have O:=f.cell;have P:=f.frozen;have j:=a7 a z t hK l f;clear a z t hK l kx xs s J f;gi_wp2_with (first
   | refine ku rfl (Z0 8) rfl b.heap.size C rfl j.o.2.1 ?_
   | refine jF rfl (Z0 4) (Z0 31) rfl (w.heap.size+1) C dL rfl rfl j.o.1.res ?_)
  obtain ⟨a,z,t,hK,l,f⟩:=j.o;have V:bW w (X.setRow (w.heap.size+1) (aY C)):=a.below.grown (aQ _ _ _) a.below.size (λq e=>by cases e;omega);have qc:=V.setCell (p:=⟨w.heap.size+1+1,0,ZX⟩) (by show w.heap.size<=w.heap.size+1+1;omega) .nilIface;have qd:=(qW a.res (aY C)).trans (VY _ ⟨w.heap.size+1+1,0,ZX⟩ .nilIface);have k8:=qd.same D' _ hK rfl;exact K4 (w:=w) rfl rfl rfl ((a.res.setRow C).keep (V7 _ _ _ _ (by show w.heap.size+1≠w.heap.size+1+1;omega))) (f.set _) k8 (by omega)
   ⟨Below.RO qc (by omega) (T5.1 k8).1 _,.inr ⟨C,l,rfl⟩⟩
 case stop=>
  rintro D' cc pre X qa hy ⟨rfl,ko,E,t,he,h8⟩ hK;have hc:tells (jI D L G) (ab S)=ZX:=by
   obtain ⟨R,hR⟩:=hy;rw [<- hR];exact iU _ _ _ ko
  have HH:=a6 E he h8 hK hc;clear E he h8 hK hc ko;gi_wp2;obtain ⟨u,y,m,N,q5⟩:=HH.o;exact K4 (w:=w) rfl rfl rfl y m N (by omega) ⟨Below.RO u (by omega) (T5.1 N).1 _,.inl ⟨q5,rfl⟩⟩
end
section
attribute [local go_sem] Oper.semAt_some
structure WI (w:ZT) (C:Ck) (regs:Int) (L:List St) (X:ZT):Prop where
 ck:aF X w.heap.size C
 res:X.heap[w.heap.size+1]?=ZW (Z4 #[Z7 Z9 0,Z5 ZX 0 0] 206 (0,0))
 pb:PB X (w.heap.size+3) (w.heap.size+1+1) regs L
 below:bW w X
theorem WI.own {L:List St} {row:Option Nat} (h:WI w C regs L X) (d:w.heap.size+3<=B) (a:X.grownBy Y row) (c:∀ r,row=ZW r->B<=r/\∃ o:Obj,X.heap[r]?=ZW o/\o.isCells=ZU):WI w C regs L Y:=by
 have:=h.pb.2.1;have b:∀ k,k<w.heap.size+3->Y.heap[k]?=X.heap[k]?:=λk b=>a.block k (by omega) (λe=>by have:=(c k e.symm).1;omega);exact ⟨h.ck.keep (b _ (by omega)),(b _ (by omega)).trans h.res,h.pb.own d a c,h.below.grown a h.below.size (λk e=>by have:=(c k e).1;omega)⟩
def WI.next {L:List St} {v:ZS} {ob:Obj} (h:WI w C regs L X) (d:X.heap[w.heap.size+1+1]?=ZW (Z4 #[Z7 Z9 regs,v] 206 (0,0))) (e:X.ownsRow (w.heap.size+3) 299 4 v L.length (eB .u8 L))
 (g:(X.alloc ob).grownBy w2 v.ownBlock) (f:w.heap.size+3<=g') (c:w2.ownsRow (w.heap.size+3) 299 4 (Z5 (ZW ⟨g',0,ZX⟩) (L.length+1) cap') (L.length+1) (eB .u8 (L++[s]))) :
 w2.cell? ⟨w.heap.size+1+1,1,ZX⟩=ZW v/\w2.frozen? ⟨w.heap.size+1+1,1,ZX⟩=ZU/\(WI w C regs (L++[s]) (w2.setCell ⟨w.heap.size+1+1,1,ZX⟩ (Z5 (ZW ⟨g',0,ZX⟩) (L.length+1) cap'))/\KeepsOthers X (w2.setCell ⟨w.heap.size+1+1,1,ZX⟩ (Z5 (ZW ⟨g',0,ZX⟩) (L.length+1) cap'))):=by
 obtain ⟨i,j,l,a,b,m,n,o⟩:=PB.next (n0:=w.heap.size+3) (Bg:=w.heap.size+1+1) (by omega) h.pb.2.1 d e g f c;refine ⟨j,l,⟨h.ck.keep (a _ (by omega) (by omega)),(a _ (by omega) (by omega)).trans h.res,i,h.below.trans ⟨m,n,o,?_,λk p=>a k (by omega) (by omega)⟩⟩,b⟩;exact b.size
def WI.told {L:List St} (h:WI w C regs L X):X.cell? ⟨w.heap.size,128,ZX⟩=ZW (Z7 Z9 (C.told:Int)):=h.ck.R6
def Cm (X:ZT) (s:St):∀ j v,(G2 .u8 s)[j]?=ZW v->(X.alloc (Z4 #[Z7 .u8 (s.k:Int),Z7 Z9 s.a,Z7 Z9 s.b,Z7 .u8 (s.c:Int)] 299)).cell? ((⟨X.heap.size,0,ZX⟩:Addr).add j)=ZW v:=
 By X X.heap.size rfl _ _ _ _ _
def Hz (C:Ck) (pre:List Sh):List St:=wrTo C (pre.map (·.1))
def FU (C:Ck) (pre:List Sh) (i k:Nat):List St:=Hz C pre++[⟨0,0,(i:Int),0⟩]++gG C i k
theorem NC (C:Ck) (a:eA C) (pre:List Sh) (s:Nat) (h:pre.length<(ab s).length) (i k:Nat) (l:k<=C.told):(Hz C pre).length<=200/\(FU C pre i k).length<=300:=by
 have b:=se C (pre.map (·.1));have:=B3 C i k;have:(ab s).length<=16:=by rw [<- kA s];exact pE s
 have:=a.le;have:=a.Sa;have c:(pre.map (·.1)).length*(C.told+1)<=16*9:=Xe (by rw [Ue];omega) (by omega);have:(Hz C pre).length<=144:=TV b c;refine ⟨by omega,?_⟩;unfold FU;simp only [Ua,aa9];omega
def K5 (C:Ck) (pre:List Sh) (i:Nat):FU C pre i 0=Hz C pre++[⟨0,0,(i:Int),0⟩]:=by unfold FU;rw [tU,Wm]
def Qh (pre:List Sh) {i k:Nat} (h:C.m k i≠0):FU C pre i (k+1)=FU C pre i k++[⟨1,1+(k:Int),0,C.m k i⟩]:=by unfold FU;rw [B1 C i k h,<- Uz]
def ND (pre:List Sh) {i k:Nat} (h:C.m k i=0):FU C pre i (k+1)=FU C pre i k:=by unfold FU;rw [xR C i k h]
def NF {x:Sh} (h:cF C x.1=ZV):FU C pre x.1 C.told=Hz C (pre++[x]):=by
 unfold FU Hz;rw [Uv,YN,xQ,ir h];simp
def Qi {x:Sh} (h:cF C x.1=ZU):Hz C pre=Hz C (pre++[x]):=by
 unfold Hz;rw [Uv,YN,xQ,lI h];simp
def Ia (X:ZT) (n:Nat) (d:n=X.heap.size) (s:St):∀ j v,(G2 .u8 s)[j]?=ZW v->(X.alloc (Z4 #[Z7 .u8 (s.k:Int),Z7 Z9 s.a,Z7 Z9 s.b,Z7 .u8 (s.c:Int)] 299)).cell? ((⟨n,0,ZX⟩:Addr).add j)=ZW v:=
 By X n d _ _ _ _ _
def NG {s:Nat} (h:pre.map (·.1)=ab s):Hz C pre=wrTo C (ab s):=by unfold Hz;rw [h]
def xT (C:Ck) (kept:Nat) (pre:List Sh):List St:=wrTo C (ab kept)++fK (pre.map (·.1))
def NH (C:Ck) (kept:Nat):xT C kept []=wrTo C (ab kept):=by unfold xT fK;simp
def K6 (C:Ck) (kept:Nat) (pre:List Sh) (x:Sh):xT C kept (pre++[x])=xT C kept pre++[⟨2,(pre.length:Int)+1,(x.1:Int),0⟩]:=by
 unfold xT;rw [Uv,YN,Em,Ue,<- Uz]
def NI (h:pre.map (·.1)=ab gone):xT C kept pre=fW C gone kept:=by unfold xT fW;rw [h]
theorem Qj (C:Ck) (a:eA C) (kept:Nat) (pre:List Sh) (s:Nat) (h:pre.length<(ab s).length):(xT C kept pre).length<=300:=by
 have c:=se C (ab kept);have:(ab s).length<=16:=by rw [<- kA s];exact pE s
 have b:(ab kept).length<=16:=by rw [<- kA kept];exact pE kept
 have:=a.le;have:=a.Sa;have d:(ab kept).length*(C.told+1)<=16*9:=Xe b (by omega);have:(wrTo C (ab kept)).length<=144:=TV c d;unfold xT fK;simp only [Ua,Ue,Vn];omega
def K7 {R:Nat} {v:ZS} {xs:List ZS} (h:X.ownsRow n0 299 4 v k xs) (b:ZO X R 3 u):v.ownBlock≠ZW R:=by
 rcases h.2 with ⟨rfl,_⟩|⟨g,cap,cur,rfl,_,a,_⟩
 . intro e;cases e
 . intro e;obtain rfl:g=R:=(by simpa [Value.ownBlock] using e);rw [show X.heap[g]?=_ from b] at a;have:=UM a;cases this
theorem WI.set {L:List St} {R:Nat} {u':ZS} (h:WI w C regs L X) (g:w.heap.size+3<=R) (c:ZO X R 3 u):WI w C regs L (X.setCell ⟨R,0,ZX⟩ u'):=by
 have a:∀ k,k≠R->(X.setCell ⟨R,0,ZX⟩ u').heap[k]?=X.heap[k]?:=λk a=>V7 _ _ _ _ a;obtain ⟨d,e,v,f,b⟩:=h.pb;exact ⟨h.ck.keep (a _ (by omega)),(a _ (by omega)).trans h.res,⟨d,by simpa [World.setCell] using e,v,(a _ (by omega)).trans f,b.kept (dz X R 0 u') (.inr (K7 b c))⟩,h.below.setCell (p:=⟨R,0,ZX⟩) (by show w.heap.size<=R;omega) _⟩
structure WP (w:ZT) (C:Ck) (regs:Int) (kept R D:Nat) (pre:List Sh) (Y:ZT):Prop where
 wi:WI w C regs (xT C kept pre) Y
 box:ZO Y R 3 (Z7 Z9 (pre.length:Int))
 mark:Y.heap[D]?=ZW (.deferred (ZW []))
theorem WP.own {R:Nat} {row:Option Nat} (h:WP w C regs kept R D pre X) (d:w.heap.size+3<=B) (g:R<B) (f:D<B) (b:X.grownBy Y row) (c:∀ r,row=ZW r->B<=r/\∃ o:Obj,X.heap[r]?=ZW o/\o.isCells=ZU):WP w C regs kept R D pre Y:=by
 have a:∀ k,k<B->k<X.heap.size->Y.heap[k]?=X.heap[k]?:=λk a i=>b.block k i (λe=>by have:=(c k e.symm).1;omega);exact ⟨h.wi.own d b c,(a R g h.box.lt).trans h.box,(a D f (T5.1 h.mark).1).trans h.mark⟩
def WP.next {R:Nat} {x:Sh} {v:ZS} {ob:Obj} (h:WP w C regs kept R D pre X) (j:w.heap.size+3<=R)
 (g:(X.setCell ⟨R,0,ZX⟩ (Z7 Z9 ((pre.length:Int)+1))).heap[w.heap.size+1+1]?=ZW (Z4 #[Z7 Z9 regs,v] 206 (0,0))) (a:(X.setCell ⟨R,0,ZX⟩ (Z7 Z9 ((pre.length:Int)+1))).ownsRow (w.heap.size+3) 299 4 v (xT C kept pre).length (eB .u8 (xT C kept pre)))
 (d:((X.setCell ⟨R,0,ZX⟩ (Z7 Z9 ((pre.length:Int)+1))).alloc ob).grownBy w2 v.ownBlock) (i:w.heap.size+3<=g') (f:w2.ownsRow (w.heap.size+3) 299 4 (Z5 (ZW ⟨g',0,ZX⟩) ((xT C kept pre).length+1) cap') ((xT C kept pre).length+1) (eB .u8 (xT C kept pre++[⟨2,(pre.length:Int)+1,(x.1:Int),0⟩]))) :
 w2.cell? ⟨w.heap.size+1+1,1,ZX⟩=ZW v/\w2.frozen? ⟨w.heap.size+1+1,1,ZX⟩=ZU/\(WP w C regs kept R D (pre++[x]) (w2.setCell ⟨w.heap.size+1+1,1,ZX⟩ (Z5 (ZW ⟨g',0,ZX⟩) ((xT C kept pre).length+1) cap'))/\KeepsOthers X (w2.setCell ⟨w.heap.size+1+1,1,ZX⟩ (Z5 (ZW ⟨g',0,ZX⟩) ((xT C kept pre).length+1) cap'))):=by
 have k:WI w C regs (xT C kept pre) (X.setCell ⟨R,0,ZX⟩ (Z7 Z9 ((pre.length:Int)+1))):=h.wi.set j h.box;have c:ZO (X.setCell ⟨R,0,ZX⟩ (Z7 Z9 ((pre.length:Int)+1))) R 3 (Z7 Z9 ((pre.length:Int)+1)):=h.box.set _;obtain ⟨l,m,n,o⟩:=k.next g a d i f;have b:=(VY X ⟨R,0,ZX⟩ (Z7 Z9 ((pre.length:Int)+1))).trans o;refine ⟨l,m,⟨by rw [K6];exact n,?_,b.same D _ h.mark rfl⟩,b⟩;have b2:ZO w2 R 3 (Z7 Z9 ((pre.length:Int)+1)):=(c.alloc ob).kept d (λe=>K7 a c e.symm);have b3:=(V7 w2 ⟨w.heap.size+1+1,1,ZX⟩ (Z5 (ZW ⟨g',0,ZX⟩) ((xT C kept pre).length+1) cap') R (by show R≠w.heap.size+1+1;omega)).trans b2;rw [Ua];exact b3
def iN {x':ZS} {t:ZP} (h:Y.heap[b]?=ZW (Z4 #[x,y] t (0,0))):(Y.setCell ⟨b,0,ZX⟩ x').heap[b]?=ZW (Z4 #[x',y] t (0,0)):=by
 obtain ⟨a,c⟩:=T5.1 h;show (Y.heap.modify b _)[b]?=_;rw [VV (by rw [YK];exact a),YL,c];rfl
def iO {y':ZS} {t:ZP} (h:Y.heap[b]?=ZW (Z4 #[x,y] t (0,0))):(Y.setCell ⟨b,1,ZX⟩ y').heap[b]?=ZW (Z4 #[x,y'] t (0,0)):=by
 obtain ⟨a,c⟩:=T5.1 h;show (Y.heap.modify b _)[b]?=_;rw [VV (by rw [YK];exact a),YL,c];rfl
def gu {v:ZS} {xs:List ZS} (h:w.ownsRow base e size v n xs) (f:base'<=base):w.ownsRow base' e size v n xs:=by
 refine ⟨h.1,?_⟩;rcases h.2 with b|⟨g,cap,cur,a,c,d⟩
 . exact .inl b
 . exact .inr ⟨g,cap,cur,a,TV f c,d⟩
def Ib:(ZN.info? 206).map (·.size)=ZW 2:=by kernel_rfl
theorem Ic (C:Ck) (gone kept:Nat) (w:ZT) (F:eA C) (hg:gone<65536) (hk:kept<65536) (V:aG w) (h2:3<=w.heap.size) :
 ZQ ZN 211 #[.agg (aY C),Z7 Z8 gone,Z7 Z8 kept] w λe w'=>∃ v,e=Z3 (.agg #[Z7 Z9 (1+((ab gone).length:Int)),v])/\bW w w'/\w'.ownsRow w.heap.size 299 4 v (fW C gone kept).length (eB .u8 (fW C gone kept)):=by
 have qe:(ab gone).length<=16:=by rw [<- kA gone];exact pE gone
 obtain ⟨n,HN⟩:∃ n:Nat,b9 (9<=n):=⟨9,TU _⟩;refine (Vm (n:=n)).1 ?_;refine Wc func211 rfl trivial ?_ rfl;simp only [ntmps211,UH,UA,UT,YG,YH,Ve,Vf,Vg,Vh,Uq,UX];have q6:(((w.alloc (Z4 (aY C) 332)).alloc (Z4 #[Z7 Z9 0,Z5 ZX 0 0] 206)).alloc (Z4 #[Z7 Z9 (1+((ab gone).length:Int)),Z5 ZX 0 0] 206)).heap.size=w.heap.size+3:=by simp
 have ky:WI w C (1+((ab gone).length:Int)) [] (((w.alloc (Z4 (aY C) 332)).alloc (Z4 #[Z7 Z9 0,Z5 ZX 0 0] 206)).alloc (Z4 #[Z7 Z9 (1+((ab gone).length:Int)),Z5 ZX 0 0] 206)):=by
  obtain ⟨a1,a2,a3,a4⟩:=Ki w (Z4 (aY C) 332) (Z4 #[Z7 Z9 0,Z5 ZX 0 0] 206) (Z4 #[Z7 Z9 (1+((ab gone).length:Int)),Z5 ZX 0 0] 206);refine ⟨(aF.new w C).keep (by rw [V8 _ _ _ (by simp;omega),V8 _ _ _ (by simp)]),a3,⟨by omega,by omega,_,a4,UK _ _ _ _⟩,((bA w _).alloc (by simp) _).alloc (by simp;omega) _⟩
 have M:=ak q6;have i:=ak ky;clear q6 ky;gi_wp2;refine cd (Ba gone hg _) ?_;rintro e w' ⟨rfl,E⟩;gi_wp2;obtain ⟨l,km⟩:=nM ((((w.alloc (Z4 (aY C) 332)).alloc (Z4 #[Z7 Z9 0,Z5 ZX 0 0] 206)).alloc (Z4 #[Z7 Z9 (1+((ab gone).length:Int)),Z5 ZX 0 0] 206)));rw [km] at M i;rw [km];clear km E w';refine cd (dN kept l) ?_;rintro e w' ⟨rfl,rfl⟩;have q7:(l.alloc (Z4 #[Z7 Z8 (kept:Int)] 133)).heap.size=l.heap.size+1:=by simp
 have ks:(l.alloc (Z4 #[Z7 Z8 (kept:Int)] 133)).cell? ⟨l.heap.size,0,ZX⟩=ZW (Z7 Z8 (kept:Int)):=(Bx.new l 133 (Z7 Z8 (kept:Int))).cell;have kz:WI w C (1+((ab gone).length:Int)) [] (l.alloc (Z4 #[Z7 Z8 (kept:Int)] 133)):=i.o.own (B:=l.heap.size) (row:=ZX) (by have:=M.o;omega) (abd _ _ _) (λr e=>by cases e);obtain ⟨w4,q4⟩:=nM (l.alloc (Z4 #[Z7 Z8 (kept:Int)] 133));have O:=ak q7;have ka:=ak ks;have k6:=ak kz;clear q7 ks kz i;gi_wp2;rw [q4] at O ka k6;clear q4;refine Wd rfl (by have:=HN.o;omega) (gf:=147) (lb:=#[Z6 (ZW ⟨l.heap.size,0,ZX⟩)]) rfl trivial (U4 func147 (by kernel_rfl) rfl)
  (eR (n-1) l.heap.size kept hk w4 (by have:=O.out;omega) ka.out (by have:=O.out;have:=M.o;omega) (V.mono (by omega) k6.out.below)) (λh k=>qM h k) (qN (by have:=O.out;have:=M.o;omega)) (TW _ _) (λ_=>rfl)
  (λpre X=>WI w C (1+((ab gone).length:Int)) (Hz C pre) X/\w4.heap.size<=X.heap.size) (λ_ _ _=>False)
  (λpre X Y row G T hr=>⟨G.1.own (by have:=O.out;have:=M.o;omega) T hr,TV G.2 T.size⟩) (λc pre X Y row G _ _=>G.elim) ⟨k6.out,TU _⟩
  (λx=>{ tmps:=#[.agg (aY C),Z7 Z8 (gone:Int),Z7 Z8 (kept:Int),Z6 (ZW ⟨w.heap.size,0,ZX⟩),ZY,ZY,Z6 (ZW ⟨w.heap.size+1,0,ZX⟩),Z6 (ZW ⟨w.heap.size+1+1,0,ZX⟩),Z7 Z9 (x.1:Int),ZY,ZY,ZY,ZY,Z7 Z8 (gone:Int),Z7 Z9 ((ab gone).length:Int),Z7 Z9 (1+((ab gone).length:Int)),.agg #[Z7 Z9 (1+((ab gone).length:Int)),Z5 ZX 0 0],Z7 Z8 (kept:Int),.func (.func 147) #[] #[Z6 (ZW ⟨l.heap.size,0,ZX⟩)],Z7 Z9 (x.1:Int),ZY,ZY,ZY,ZY,ZY,ZY,ZY,ZY,ZY,ZY,ZY,ZY,ZY,ZY,ZY,ZY,ZY,ZY,ZY,ZY,ZY,ZY,ZY,ZY,ZY,ZY,ZY,ZY,ZY,ZY,ZY,ZY,ZY,ZY,ZY,ZY,ZY,ZY,ZY,ZY,ZY,ZY,ZY,ZY,ZY,ZY,ZY],defers:=[] }) ?assign ?body ?done ?stop
 case assign=>
  intro l2 x X Kk hK;unfold qK;gi_wp2;exact hK
 case body=>
  rintro l2 pre x X ⟨a,W⟩ Q;have q3:=xu w.heap.size x.1 C X a.ck F x.2;obtain ⟨_,_,v,f,b⟩:=a.pb;have J:w.heap.size+3<=X.heap.size:=a.pb.2.1;obtain ⟨c0,c1,N,_⟩:=ay f;have ko:=x.2;have hL:=λk hk=>NC C F pre kept Q x.1 k hk;have HH:=ak a;have P:=ak f;have t:=ak b;have HL:=ak hL;have HX:=ak W;have R:=ak J;clear a f b hL W Q J;gi_wp2;refine dq q3 ?_;clear q3;rintro e w' ⟨rfl,E⟩;subst E;cases k9:cF C x.1 with
  | false=>
   have HE:=ak (Qi (pre:=pre) k9);clear k9;gi_wp2;refine ⟨Yg _ _,Fz.refl _,?_,HX.o⟩;rw [<- HE.o];exact HH.o
  | true=>
   have HE:=ak (NF (pre:=pre) k9);clear k9;gi_wp2_with (
    refine zO rfl (Z0 24) (Z0 27) rfl (w.heap.size+3) w'.heap.size (Hz C pre) ⟨0,0,(x.1:Int),0⟩ v rfl rfl (t.o.alloc _) (Cm w' ⟨0,0,(x.1:Int),0⟩) (by have:=R.out;simp;omega) (by have:=(HL.o 0 (T8 _)).1;omega) ?_;
    rintro g' cap' w2 S H I;
    obtain ⟨c1,N,z⟩:=HH.o.next P.o t.o I S H;
    have ct:=z.1.told;
    have q:=ak z;
    clear z I H)
   rw [<- K5] at q;gi_loopw [32] (λp wr=>∃ k:Nat,p=Z7 Z9 (k:Int)/\k<=C.told/\WI w C (1+((ab gone).length:Int)) (FU C pre x.1 k) wr/\KeepsOthers w' wr) (λp _=>C.told-(intOf p).toNat)
   case atStart=>exact ⟨0,rfl,T8 _,q.out.1,q.out.2⟩
   case round=>
    obtain ⟨k,rfl,qc,a,y⟩:=hrel;have qi:=F.le;have qj:=F.Sa;by_cases qq:k<C.told
    . have cm:=a.ck.at k x.1 (by omega) ko;have ki:(k:Int)<C.told:=(by omega);have qn:(k:Int)<8:=(by omega);have qv:(x.1:Int)<16:=(by omega);by_cases h0:C.m k x.1=0
      . rw [h0] at cm;have i:=ak a;have HK:=ak y;clear a y;gi_wp2;go_roundw
        case rel=>exact ⟨k+1,by go_num,by omega,by rw [ND pre h0];exact i.o,HK.o⟩
        case measure=>simp [intOf];omega
      . have qs:((C.m k x.1:Nat):Int)≠0:=(by omega);obtain ⟨_,_,v,f,b⟩:=a.pb;have J:w.heap.size+3<=wr.heap.size:=a.pb.2.1;obtain ⟨c0,c1,N,_⟩:=ay f;have qm:=(HL.o k qc).2;have i:=ak a;have HK:=ak y;have P:=ak f;have t:=ak b;have R:=ak J;clear a y f b J;gi_wp2_with (
         refine zO rfl (Z0 44) (Z0 49) rfl (w.heap.size+3) wr.heap.size (FU C pre x.1 k) ⟨1,1+(k:Int),0,C.m k x.1⟩ v rfl rfl (t.o.alloc _) (Cm wr ⟨1,1+(k:Int),0,C.m k x.1⟩) (by have:=R.out;simp;omega) (by omega) ?_;
         rintro g' cap' w2 S H I;
         obtain ⟨c1,N,z⟩:=i.o.next P.o t.o I S H;
         have q:=ak z;
         clear z I H)
        go_roundw
        case rel=>exact ⟨k+1,by go_num,by omega,by rw [Qh pre h0];exact q.out.1,HK.o.trans q.out.2⟩
        case measure=>simp [intOf];omega
    . have ki:¬ (k:Int)<C.told:=(by omega);obtain rfl:k=C.told:=(by omega);have i:=ak a;have HK:=ak y;clear a y;gi_wp2;refine ⟨HK.o.from _,λ_=>V.mono (by omega) i.o.below,?_,TV HX.o HK.o.size⟩;rw [<- HE.o];exact i.o
 case done=>
  rintro D xs X hD q5 ⟨a,W⟩ hK;rw [NG q5] at a;have qo:w.heap.size+3<=D:=by have:=O.out;have:=M.o;omega
  have qb:D<X.heap.size:=(T5.1 hK).1;clear q5 xs ka k6 W;have i:=ak a;have HK:=ak hK;clear a hK;gi_wp2;refine cd (dN gone _) ?_;rintro e w' ⟨rfl,E⟩;have q8:w'.heap.size=X.heap.size+1+1:=by rw [E];simp
  have kv:w'.cell? ⟨X.heap.size+1,0,ZX⟩=ZW (Z7 Z8 (gone:Int)):=by
   have:=(Bx.new (X.alloc (Z4 #[Z7 Z9 0] 3)) 133 (Z7 Z8 (gone:Int))).cell;rw [Ul] at this;rw [E];exact this
  have kf:X.grownBy w' ZX:=by rw [E];exact Bz (abd X _ ZX) _
  have q2:WP w C (1+((ab gone).length:Int)) kept X.heap.size D [] w':=by
   refine ⟨by rw [NH];exact i.o.own (B:=w.heap.size+3) lR kf (λr e=>by cases e),?_,(kf.block D qb (λe=>by cases e)).trans HK.o⟩;rw [E];exact (Ur X 3 (Z7 Z9 0)).alloc _
  have u:=ak q8;have q9:=ak kv;have kp:=ak q2;clear q8 kv q2 kf E i HK;gi_wp2;refine Wd rfl (by have:=HN.o;omega) (gf:=147) (lb:=#[Z6 (ZW ⟨X.heap.size+1,0,ZX⟩)]) rfl trivial (U4 func147 (by kernel_rfl) rfl)
   (eR (n-1) (X.heap.size+1) gone hg w' (by have:=u.out;omega) q9.out (by have:=u.out;omega) (V.mono (by omega) kp.out.wi.below)) (λh k=>qM h k) (qN (by have:=u.out;omega)) (TW _ _) (λ_=>rfl)
   (λpre Y=>WP w C (1+((ab gone).length:Int)) kept X.heap.size D pre Y/\w'.heap.size<=Y.heap.size) (λ_ _ _=>False)
   (λpre A Y row G T hr=>⟨G.1.own (B:=w'.heap.size) (by have:=u.out;omega) (by have:=u.out;omega) (by have:=u.out;omega) T hr,TV G.2 T.size⟩) (λc pre X Y row G _ _=>G.elim) ⟨kp.out,TU _⟩
   (λx=>{ tmps:=#[.agg (aY C),Z7 Z8 (gone:Int),Z7 Z8 (kept:Int),Z6 (ZW ⟨w.heap.size,0,ZX⟩),ZY,ZY,Z6 (ZW ⟨w.heap.size+1,0,ZX⟩),Z6 (ZW ⟨w.heap.size+1+1,0,ZX⟩),ZY,ZY,ZY,Z6 (ZW ⟨X.heap.size,0,ZX⟩),Z7 Z9 (x.1:Int),Z7 Z8 (gone:Int),Z7 Z9 ((ab gone).length:Int),Z7 Z9 (1+((ab gone).length:Int)),.agg #[Z7 Z9 (1+((ab gone).length:Int)),Z5 ZX 0 0],Z7 Z8 (kept:Int),.func (.func 147) #[] #[Z6 (ZW ⟨l.heap.size,0,ZX⟩)],ZY,ZY,ZY,ZY,ZY,ZY,ZY,ZY,ZY,ZY,ZY,ZY,ZY,ZY,ZY,ZY,ZY,ZY,ZY,ZY,ZY,ZY,ZY,ZY,ZY,ZY,ZY,ZY,ZY,ZY,ZY,ZY,ZY,ZY,Z7 Z8 (gone:Int),.func (.func 147) #[] #[Z6 (ZW ⟨X.heap.size+1,0,ZX⟩)],Z7 Z9 (x.1:Int),ZY,ZY,ZY,ZY,ZY,ZY,ZY,ZY,ZY,ZY,ZY],defers:=[] }) ?assign2 ?body2 ?done2 ?stop2
  case assign2=>
   intro l2 x Y Kk hK;unfold qK;gi_wp2;exact hK
  case body2=>
   rintro l2 pre x Y ⟨s,hY⟩ Q;have qp:=Qj C F kept pre gone Q;have qf:pre.length<16:=(by omega);have kc:w.heap.size+3<=X.heap.size:=(by omega);have hs:=s.wi.set (u':=Z7 Z9 ((pre.length:Int)+1)) kc s.box;obtain ⟨_,_,v,f,b⟩:=hs.pb;have J:w.heap.size+3<=(Y.setCell ⟨X.heap.size,0,ZX⟩ (Z7 Z9 ((pre.length:Int)+1))).heap.size:=hs.pb.2.1;obtain ⟨c0,c1,N,_⟩:=ay f;have cb:=s.box.cell;have fb:=s.box.frozen;have hb:=(s.box.set (Z7 Z9 ((pre.length:Int)+1))).cell;have HP:=ak s;have P:=ak f;have t:=ak b;have R:=ak J;have HY:=ak hY;have qa:=ak kc;clear s f b J hY hs Q kc;gi_wp2_with (
    refine zO rfl (Z0 59) (Z0 63) rfl (w.heap.size+3) Y.heap.size (xT C kept pre) ⟨2,(pre.length:Int)+1,(x.1:Int),0⟩ v rfl rfl (t.o.alloc _) (Ia _ Y.heap.size (by simp) ⟨2,(pre.length:Int)+1,(x.1:Int),0⟩) (by have:=R.out;simp at this ⊢;omega) (by omega) ?_;
    rintro g' cap' w2 S H I;
    obtain ⟨c1,N,z⟩:=HP.o.next qa.out P.o t.o I S H;
    have q:=ak z;
    clear z I H)
   refine ⟨q.out.2.from _,λ_=>V.mono (by omega) q.out.1.wi.below,q.out.1,TV HY.o q.out.2.size⟩
  case done2=>
   rintro L ys Y qk qh ⟨s,hY⟩ k7;have K:=s.wi;rw [NI qh] at K;have hm:=s.mark;obtain ⟨_,_,v,f,b⟩:=K.pb;obtain ⟨c0,c1,N,f0⟩:=ay f;obtain ⟨r0,r1,g1,g0⟩:=ay K.res;obtain ⟨ao,m,j,rfl⟩:∃ ao m j,v=.slice ao m j:=by
    rcases b.2 with ⟨rfl,_⟩|⟨g,cap,cur,rfl,_⟩
    . exact ⟨_,_,_,rfl⟩
    . exact ⟨_,_,_,rfl⟩
   have t:=a5 K hm b k7;clear K hm b k7 s hY f;gi_wp2;obtain ⟨K,hm,b,k7⟩:=t.o;have k5:((Y.setCell ⟨w.heap.size+1,0,ZX⟩ (Z7 Z9 (1+((ab gone).length:Int)))).setCell ⟨w.heap.size+1,1,ZX⟩ (.slice ao m j)).heap[w.heap.size+1]?=ZW (Z4 #[Z7 Z9 (1+((ab gone).length:Int)),.slice ao m j] 206 (0,0)):=
    iO (iN K.res)
   have y:=(VY Y ⟨w.heap.size+1,0,ZX⟩ (Z7 Z9 (1+((ab gone).length:Int)))).trans (VY _ ⟨w.heap.size+1,1,ZX⟩ (.slice ao m j));have kr:bW w ((Y.setCell ⟨w.heap.size+1,0,ZX⟩ (Z7 Z9 (1+((ab gone).length:Int)))).setCell ⟨w.heap.size+1,1,ZX⟩ (.slice ao m j)):=(K.below.setCell (p:=⟨w.heap.size+1,0,ZX⟩) (XI _) _).setCell (p:=⟨w.heap.size+1,1,ZX⟩) (XI _) _;have hq:((Y.setCell ⟨w.heap.size+1,0,ZX⟩ (Z7 Z9 (1+((ab gone).length:Int)))).setCell ⟨w.heap.size+1,1,ZX⟩ (.slice ao m j)).ownsRow (w.heap.size+3) 299 4 (.slice ao m j) (fW C gone kept).length (eB .u8 (fW C gone kept)):=
    (b.kept (dz Y (w.heap.size+1) 0 _) (.inr λe=>by have:=jJ b e;omega)).kept (dz _ (w.heap.size+1) 1 _) (.inr λe=>by have:=jJ b e;omega)
   have k8:=y.same L _ k7 rfl;have ke:=y.same D _ hm rfl;have kb:D≠L:=(by have:=u.out;omega);have q0:=(T5.1 k8).1;have qd:=(T5.1 ke).1;have kj:L≠w.heap.size+1:=(by have:=u.out;omega);generalize ((Y.setCell ⟨w.heap.size+1,0,ZX⟩ (Z7 Z9 (1+((ab gone).length:Int)))).setCell ⟨w.heap.size+1,1,ZX⟩ (.slice ao m j))=Z at k5 kr hq k8 ke q0 qd ⊢;have hn:(Z.putObj L (.deferred ZX)).heap[D]?=ZW (.deferred (ZW [])):=(UO kb).trans ke;refine ⟨by simp,.inl ⟨_,_,rfl,Wv k8,by simp,.inl ⟨_,_,rfl,Wv hn,?_⟩⟩⟩;have qg:((Z.putObj L (.deferred ZX)).putObj D (.deferred ZX)).heap[w.heap.size+1]?=ZW (Z4 #[Z7 Z9 (1+((ab gone).length:Int)),.slice ao m j] 206 (0,0)):=((UO (by omega)).trans (UO (Vk kj))).trans k5;have kg:=Xc Z L (.deferred ZX);have kh:=Xc (Z.putObj L (.deferred ZX)) D (.deferred ZX);have q1:∀ (U:ZT) (d:Nat),U.heap[d]?=ZW (.deferred (ZW []))->U.ownsRow (w.heap.size+3) 299 4 (.slice ao m j) (fW C gone kept).length (eB .u8 (fW C gone kept))->(Value.slice ao m j).ownBlock≠ZW d:=by
    intro U d hd hU e;rcases hU.2 with ⟨e1,_⟩|⟨g,cap,cur,e1,_,kx,_⟩
    . cases e1;cases e
    . cases e1;obtain rfl:g=d:=(by simpa [Value.ownBlock] using e);rw [hd] at kx;cases kx
   have k0:=hq.kept kg (.inr (q1 _ _ k8 hq));have kk:=k0.kept kh (.inr (q1 _ _ hn k0));exact ⟨_,Wk results211 _ _ (w.heap.size+1) 206 #[Z7 Z9 (1+((ab gone).length:Int)),.slice ao m j] (0,0) _ rfl qg underlying206 rfl Ib,_,rfl,Below.RO (Below.RO kr (by have:=u.out;omega) q0 _) (by omega) (T5.1 hn).1 _,gu kk (by omega)⟩
  case stop2=>
   rintro D c pre X _ _ F;exact F.elim
 case stop=>
  rintro D c pre X _ _ F;exact F.elim
end
def K8 (P:List St) (D c:List a8) (k:Nat) (h:(bG P k).k=0):bP P D c (k+1)=(bP P D c k).set (bG P k).a.toNat (D.getD (bG P k).b.toNat [])/\dB P D c (k+1)=dB P D c k:=by
 simp [bP,dB,dQ,gY,h]
def NJ (P:List St) (D d:List a8) (k:Nat) (h:(bG P k).k=1):bP P D d (k+1)=(bP P D d k).set (bG P k).a.toNat (iG ((bP P D d k).getD (bG P k).a.toNat []) ((bP P D d k).getD (bG P k).b.toNat []) (bG P k).c)/\dB P D d (k+1)=dB P D d k:=by
 simp [bP,dB,dQ,gY,h]
def NK (P:List St) (D c:List a8) (k:Nat) (h:(bG P k).k=2):bP P D c (k+1)=bP P D c k/\dB P D c (k+1)=dB P D c k++[((bG P k).b,(bP P D c k).getD (bG P k).a.toNat [])]:=by
 simp [bP,dB,dQ,gY,h]
def RnR (w0:ZT) (B:Nat) (P:List St) (D R0:List a8) (n r gR:Nat) (vO iv:ZS) (wr:ZT):Prop:=
 ∃ k T O,k<=P.length/\iv=Z7 Z9 (k:Nat)/\Rn w0 B P D R0 n r gR k vO T O wr
def Qk (regs:Int) (P:List St) (D:List a8) (gone:Nat) (w:ZT) (e:Ending) (w':ZT):Prop:=
 (iF regs P D.length->gE P D gone->∃ v O,e=Z3 (ZZ #[v,.nilIface])/\mw 254 w' w.heap.size v O/\O.map (λq=>(q.1,q.2.2.2.take q.2.2.1))=dB P D (eV regs.toNat (eC P D)) P.length) /\
 (iF regs P D.length->¬ gE P D gone->e=Z3 (ZZ #[Z5 ZX 0 0,.iface 66 (Z7 Z9 2)]))/\(¬ iF regs P D.length->e=Z3 (ZZ #[Z5 ZX 0 0,.iface 66 (Z7 Z9 4)]))/\bW w w'
def mw.weaken {t:ZP} {v:ZS} {O:List (Int×Nat×Nat×a8)} (h:mw t w base v O) (c:base'<=base):mw t w base' v O:=
 ⟨cU h.own c,λq d=>by obtain ⟨a,b⟩:=h.row q d;exact ⟨by omega,b⟩,h.nodup⟩
def Tryz.SR:(ZN.info? 254).map (λi=>(i.zero,i.size,i.bytes))=ZW (ZW (.agg #[Z7 Z9 0,Z5 ZX 0 0]),2,32):=by kernel_rfl
def NL (w:ZT) (n:Nat) (b:n=w.heap.size) (x y:ZS) (t:ZP):∀ j v,[x,y][j]?=ZW v->(w.alloc (Z4 #[x,y] t)).cell? ((⟨n,0,ZX⟩:Addr).add j)=ZW v:=by
 subst b;intro j v a;rw [jy];rcases j with _|_|j;all_goals simp at a
 all_goals subst a;simp
def aao (w:ZT) (k a b c:ZS) (t:ZP):∃ wb,w.alloc (Z4 #[k,a,b,c] t)=wb/\bW w wb/\wb.heap.size=w.heap.size+1/\wb.cell? ⟨w.heap.size,1,ZX⟩=ZW a/\wb.cell? ⟨w.heap.size,2,ZX⟩=ZW b/\wb.cell? ⟨w.heap.size,3,ZX⟩=ZW c:=
 ⟨_,rfl,bA _ _,Uh _ _,by simp,by simp,by simp⟩
theorem NM (regs:Int) (v:ZS) (P:List St) (R ci:Nat) (D:List a8) (gone:Nat) (w:ZT) (h:Ps .u8 w v P) (hP:∀ s∈P,zt s) (U:In w R D gone) (xd:R<w.heap.size) (q2:∀ l∈D,l.length<=100000) (hl:P.length<=5000) :
 ZQ ZN 146 #[.agg #[Z7 Z9 regs,v],Z5 (ZW ⟨R,0,ZX⟩) D.length ci] w λe w'=>Qk regs P D gone w e w':=by
 obtain ⟨i0,x2,x9,xa,xb⟩:=Ut Tryz.SR;have kf:bW w (w.alloc (Z4 #[Z7 Z9 regs,v] 206)):=bA _ _;have h0:=h.mono kf;obtain ⟨ao,c,rfl⟩:=h.slice;go_enter func146,ntmps146;go_wp2_with fail;refine (G4 regs D.length _ P _ h0).mono ?_;rintro e w1 ⟨kr,ks,K⟩;try change ZR _ _ _ at K
 rw [Uh] at K;obtain ⟨p0,p1⟩:=Ri K rfl;have x7:=K.size;try change ZR _ _ _ at x7
 rw [Uh] at x7;have h5:=kf.trans (K.mono (by omega));by_cases J:iF regs P D.length
 . have G:=kr J;subst G;obtain ⟨⟨g0,g1,g2⟩,hy⟩:=id J;obtain ⟨r,rfl⟩:∃ r:Nat,regs=(r:Int):=⟨regs.toNat,by omega⟩;have q8:=ak J;have qp:=ak hy;have hr:∀ i,i<P.length->(bG P i).k=0->0<=(bG P i).b/\(bG P i).b<(D.length:Int):=by
    intro i hi hk;rw [dU P i hi] at *;rcases hy i hi with h|h
    . exact ⟨h.2.2.2.1,h.2.2.2.2⟩
    . omega
   have q4:r<=32:=(by omega);have h1:=h.mono h5;have qc:=U.mono h5;clear J hy kr ks h0 K kf g0 g1;go_wp2_with fail;refine (px _ P R ci D gone w1 h1 qc q2 hr hl).mono ?_;rintro e w2 ⟨kx,ky,k6⟩;have q0:=(k6.cell (Uf p0)).trans p0;have q1:=(k6.cell (Uf p1)).trans p1;have k7:=h5.trans (k6.mono (by omega));have xf:=k6.size;clear hr h1 qc p0 p1 h5 k6;by_cases C:gE P D gone
   . have G:=kx C;subst G;have qi:=G5 C;have ka:=ak C;have q6:=ak (PR C);clear C kx ky;obtain ⟨n,E⟩:=nM (eC P D);have HN:=ak E;rw [E] at qi q6;rw [E];clear E;go_wp2_with fail;refine (zx r n w2 q4 qi).mono ?_;rintro e w3 ⟨y,T0,rfl,qe,qb,ko⟩;have x8:=ko.size;have hd:=(ko.cell (Uf q1)).trans q1;have qd:Rn w2 w2.heap.size P D (eV r n) n r y 0 (Z5 ZX 0 0) T0 [] w3:=⟨qe,qb,λl hl=>by
      have:=Vz (show l∈YI r (YI n 0) from hl);rw [this];simp,mw.nil _ _ _,rfl,λp _ q hq=>by simp at hq,ko,x8⟩
     have qa:=ak qd;clear qd qe qb q0 q1;go_wp2;clear hd;go_loopw [10,37] (λvO iv wr=>RnR w2 w2.heap.size P D (eV r n) n r y vO iv wr) (λ_ iv _=>P.length-(intOf iv).toNat)
     case atStart=>exact ⟨0,T0,[],T8 _,rfl,qa.out⟩
     case round=>
      clear qa;rename ZT=>wo;obtain ⟨k,T,O,hk,rfl,V⟩:=hrel;have xh:=V.size;have kp:=k7.trans (V.below.mono (by omega));by_cases I:k<P.length
      . rcases (h.mono kp).cases with ⟨rfl,_⟩|⟨b,off,cc,e,_,hc⟩
        . simp at I
        simp at e;obtain ⟨rfl,rfl⟩:=e;obtain ⟨d0,d1,d2,d3⟩:=hc k I;have hy:=qp.out k I;unfold iD at hy;have qh:=hP _ (T6 I);have k9:=dU P k I;have B:=ak (K8 P D (eV r n) k);have W:=ak (NJ P D (eV r n) k);have Y:=ak (NK P D (eV r n) k);have kb:=ak (ka.out k I);have k0:=ak (q6.out k I);have h4:b9 (Ni P D gone k↔((bG P k).k=0->¬ nX gone (bG P k).b.toNat/\fl P D (k+1)=ZW (D.getD (bG P k).b.toNat []).length/\(D.getD (bG P k).b.toNat []).length<=4096)):=Yc;rw [k9] at B W Y k0 h4;have qn:=ak (U.mono kp);have HC:=ak hc;have t:=ak V;have HI:=ak U;have HH:=ak h;have xc:=ak hP;clear hc V U h hP k9;have qj:=qh.2.2.2.2.2;clear qh;generalize P[k].k=sk at *;generalize P[k].a=sa at *;generalize P[k].b=sb at *;generalize P[k].c=sc at *;obtain ⟨wb,hz,z,xg,b1,b2,b3⟩:=aao wo (Z7 .u8 (sk:Int)) (Z7 Z9 sa) (Z7 Z9 sb) (Z7 .u8 (sc:Int)) 299;have ki:=ak (t.o.next z);rcases hy with ⟨kz,a0,a1,x0,x1⟩|⟨x3,a0,a1,x0,x1,xe⟩
        . obtain ⟨A,rfl⟩:∃ A:Nat,sa=(A:Int):=⟨sa.toNat,by omega⟩;obtain ⟨X,rfl⟩:∃ X:Nat,sb=(X:Int):=⟨sb.toNat,by omega⟩;have hA:A<r:=(by omega);have hX:X<D.length:=(by omega);obtain ⟨g,H,t1,u,f,F,t5,t6,t7,t8,t9⟩:=t.o.reg A hA;replace t1:=(z.cell (Uf t1)).trans t1
          replace u:=u.below z
          rw [Vw,Vw] at B;rw [Vw] at Y;rcases kz with rfl|rfl
          . have h6:b9 (wo.alloc (Z4 #[Z7 .u8 0,Z7 Z9 (A:Int),Z7 Z9 (X:Int),Z7 .u8 (sc:Int)] 299)=wb):=hz;have qg:D.getD X []=D[X]:=(by simp [hX]);have q3:=h4.out.1 kb.out rfl;have kg:=k0.out rfl;rw [Vw,qg] at q3 kg;rw [qg] at B;obtain ⟨ax,cx,u1,u2⟩:=(qn.out X hX).2 q3.1;have L:=(z.cell (Uf u1)).trans u1;have hb:=u2.mono z;have qk:∀ x∈D[X],x<256:=by
             obtain ⟨_,_,_,_,_,h,_⟩:=u2;exact h
            obtain ⟨wc,hh,ke,d⟩:=Ko wb.drew 3 g n n _ D[X] (ZW ax) cx u hb kg f;have HW:=ak ((ki.out.next (show bW wb wb.drew from ⟨rfl,rfl,rfl,TU _,λ_ _=>rfl⟩)).write H f d ke kg qk (B.out rfl).1 (B.out rfl).2);rw [kg] at L hh;have kj:=ak hh;have z1:=d.cell (show wb.drew.cell? ⟨wo.heap.size,1,ZX⟩=_ from b1) (by simp;omega);have z2:=d.cell (show wb.drew.cell? ⟨wo.heap.size,2,ZX⟩=_ from b2) (by simp;omega);have z3:=d.cell (show wb.drew.cell? ⟨y,A,ZX⟩=_ from t1) (by simp;omega);have z4:=d.cell (show wb.drew.cell? ⟨R,X,ZX⟩=_ from L) (by simp;omega);clear hh ke d u1 u2 hb H u f F B W Y kb k0 h4 q3 qk hz;go_wp2;rw [h6.out];go_region_held3 (λw'=>w'.cell? ⟨wo.heap.size,1,ZX⟩=ZW (Z7 Z9 (A:Int))/\w'.cell? ⟨wo.heap.size,2,ZX⟩=ZW (Z7 Z9 (X:Int))/\w'.cell? ⟨y,A,ZX⟩=ZW (Z5 (ZW ⟨g,0,ZX⟩) n n)/\w'.cell? ⟨R,X,ZX⟩=ZW (Z5 (ZW ax) n cx)) (first|exact ⟨b1,b2,t1,L⟩|exact ⟨z1,z2,z3,z4⟩) (refine G7 rfl (Z0 49) (Z0 54) rfl _ _ _ rfl rfl kj.out ?_);go_wp2;go_roundw
            case rel=>
             obtain ⟨T',km⟩:=HW.o;exact ⟨k+1,T',O,by omega,by go_num,km⟩
            case measure=>simp [intOf];omega
          . have h6:b9 (wo.alloc (Z4 #[Z7 .u8 2,Z7 Z9 (A:Int),Z7 Z9 (X:Int),Z7 .u8 (sc:Int)] 299)=wb):=hz;have Z:=ki.out.next (show bW wb wb.drew from ⟨rfl,rfl,rfl,TU _,λ_ _=>rfl⟩);have hol:=Z.olen;have kv:=DW ⟨g,0,ZX⟩ n _ wb.drew (by have:=Bs.Sl (n:=n) (show aM wb.drew g _ from u) (by omega) (by omega) F;rw [UI (by omega),f] at this;rw [f];exact this) (by omega);rw [f] at kv;have qm:=ak kv;have k5:=ak Z;have q9:=ak (Y.out rfl);have kc:=ak f;have kk:=ak F;have q7:=ak (λj hj=>(t.o.outs.own.lt j hj).2);have qo:=ak (tq t.o.tab.own t.o.outs.own);have z1:wb.drew.cell? ⟨wo.heap.size,1,ZX⟩=ZW (Z7 Z9 (A:Int)):=b1;have z2:wb.drew.cell? ⟨wo.heap.size,2,ZX⟩=ZW (Z7 Z9 (X:Int)):=b2;have z3:wb.drew.cell? ⟨y,A,ZX⟩=ZW (Z5 (ZW ⟨g,0,ZX⟩) n n):=t1;clear kv Z H u f F B W Y kb k0 h4 hz;go_wp2;rw [h6.out];go_region_held3 (λw'=>w'.cell? ⟨wo.heap.size,1,ZX⟩=ZW (Z7 Z9 (A:Int))/\w'.cell? ⟨wo.heap.size,2,ZX⟩=ZW (Z7 Z9 (X:Int))/\w'.cell? ⟨y,A,ZX⟩=ZW (Z5 (ZW ⟨g,0,ZX⟩) n n)) (first|exact ⟨b1,b2,t1⟩|exact ⟨M,N,Q⟩|exact ⟨((bA _ _).cell (Uf M)).trans M,((bA _ _).cell (Uf N)).trans N,((bA _ _).cell (Uf Q)).trans Q⟩|exact ⟨qr,xi,xj⟩)
             (first
              | (go_at_call 180;refine qm.out.mono ?_;rintro e wd ⟨bd,m,rfl,qy,qv,x6,S⟩
                 have M:=(S.cell (Uf z1)).trans z1;have N:=(S.cell (Uf z2)).trans z2;have Q:=(S.cell (Uf z3)).trans z3)
              | (refine step_append_lies _ rfl (Z0 73) (Z0 83) 250 rfl w2.heap.size 254 i0 (.agg #[Z7 Z9 0,Z5 ZX 0 0]) 2 32 underlying250 x2 x9 xa xb rfl (by decide) u10 O.length (pr O) rfl ((k5.out.next S).next (bA _ _)).outs.own ⟨wd.heap.size,0,ZX⟩ 1 1 [Z7 Z9 (X:Int),Z5 (ZW ⟨bd,0,ZX⟩) n (n+m)] rfl rfl (NL _ _ rfl _ _ _) (by intro q hq;simp at hq;rcases hq with rfl|rfl<;>rfl) (by omega) (by unfold maxLen;omega) (by omega) (by have:=((k5.out.next S).next ((TW _ _).alloc lR (Z4 #[Z7 Z9 (X:Int),Z5 (ZW ⟨bd,0,ZX⟩) n (n+m)] 254))).size;exact this) _ rfl ?_;intro g5 xk w5 k8 h8 qx x5
                 have qr:=h8.cell (((bA _ _).cell (Uf M)).trans M) (λe=>by have:=q7.out _ e.symm;simp at this);have xi:=h8.cell (((bA _ _).cell (Uf N)).trans N) (λe=>by have:=q7.out _ e.symm;simp at this);have xj:=h8.cell (((bA _ _).cell (Uf Q)).trans Q) (λe=>qo.out e.symm)))
            go_wp2;go_roundw
            case rel=>exact ⟨k+1,T,_,by omega,by go_num,k5.out.put S qy qv kc.out (by omega) x6 kk.out h8 k8 q9.out.1 q9.out.2⟩
            case measure=>simp [intOf];omega
        . obtain ⟨A,rfl⟩:∃ A:Nat,sa=(A:Int):=⟨sa.toNat,by omega⟩;obtain ⟨X,rfl⟩:∃ X:Nat,sb=(X:Int):=⟨sb.toNat,by omega⟩;have hA:A<r:=(by omega);have hX:X<r:=(by omega);have qs:A≠X:=(by omega);obtain ⟨g,H,t1,u,f,F,t5,t6,t7,t8,t9⟩:=t.o.reg A hA;obtain ⟨g',qf,s1,s2,s3,s4,s5,s6,s7,s8,s9⟩:=t.o.reg X hX;have qz:=t.o.reg_ne H qf qs;replace t1:=(z.cell (Uf t1)).trans t1
          replace u:=u.below z
          replace s1:=(z.cell (Uf s1)).trans s1
          replace s2:=s2.below z
          rw [Vw,Vw] at W;subst x3;have h6:b9 (wo.alloc (Z4 #[Z7 .u8 1,Z7 Z9 (A:Int),Z7 Z9 (X:Int),Z7 .u8 (sc:Int)] 299)=wb):=hz;have Z:=ki.out.next (show bW wb wb.drew from ⟨rfl,rfl,rfl,TU _,λ_ _=>rfl⟩);have kh:=ak (zA g g' n sc _ _ wb.drew qj u s2 f s3 qz F s4 (by omega));have k5:=ak Z;have q5:=ak (W.out rfl);have qq:=ak H;have kc:=ak f;have kk:=ak F;have z1:wb.drew.cell? ⟨wo.heap.size,1,ZX⟩=ZW (Z7 Z9 (A:Int)):=b1;have z2:wb.drew.cell? ⟨wo.heap.size,2,ZX⟩=ZW (Z7 Z9 (X:Int)):=b2;have z3:wb.drew.cell? ⟨wo.heap.size,3,ZX⟩=ZW (Z7 .u8 (sc:Int)):=b3;have z4:wb.drew.cell? ⟨y,A,ZX⟩=ZW (Z5 (ZW ⟨g,0,ZX⟩) n n):=t1;have z5:wb.drew.cell? ⟨y,X,ZX⟩=ZW (Z5 (ZW ⟨g',0,ZX⟩) n n):=s1;clear Z H qf u f F s2 s3 s4 B W Y kb k0 h4 hz;go_wp2;rw [h6.out];go_region_held3 (λw'=>w'.cell? ⟨wo.heap.size,1,ZX⟩=ZW (Z7 Z9 (A:Int))/\w'.cell? ⟨wo.heap.size,2,ZX⟩=ZW (Z7 Z9 (X:Int))/\w'.cell? ⟨wo.heap.size,3,ZX⟩=ZW (Z7 .u8 (sc:Int))/\w'.cell? ⟨y,A,ZX⟩=ZW (Z5 (ZW ⟨g,0,ZX⟩) n n)/\w'.cell? ⟨y,X,ZX⟩=ZW (Z5 (ZW ⟨g',0,ZX⟩) n n)) (first|exact ⟨b1,b2,b3,t1,s1⟩|exact ⟨M,N,Q,y4,y5⟩)
           (first
            | (go_at_call 179;refine kh.out.mono ?_;rintro e wc ⟨rfl,ke,d⟩
               have M:=d.cell z1 (by simp;omega);have N:=d.cell z2 (by simp;omega);have Q:=d.cell z3 (by simp;omega);have y4:=d.cell z4 (by simp;omega);have y5:=d.cell z5 (by simp;omega)))
          go_wp2;go_roundw
          case rel=>
           obtain ⟨T',km⟩:=k5.out.write qq.out kc.out d ke (by rw [tj];exact kc.out) (G9 kk.out qj) q5.out.1 q5.out.2;exact ⟨k+1,T',O,by omega,by go_num,km⟩
          case measure=>simp [intOf];omega
      . have x4:k=P.length:=(by omega);subst x4;have t:=ak V;clear V h hP U;go_wp2;go_ret2;refine ⟨λ_ _=>⟨_,O,rfl,t.o.outs.weaken (by omega),?_⟩,λ_ hl=>absurd ka.out hl,λE=>absurd q8.out E,kp⟩;rw [HN.o,Vw];exact t.o.vals
   . have G:=ky C;subst G;have ka:=ak C;clear C kx ky;go_wp2;go_ret2;exact ⟨λ_ hl=>absurd hl ka.out,λ_ _=>rfl,λE=>absurd q8.out E,k7⟩
 . have G:=ks J;subst G;have HN:=ak J;clear J kr ks h0 h hP U K kf;go_wp2;go_ret2;exact ⟨λhp=>absurd hp HN.o,λhp=>absurd hp HN.o,λ_=>rfl,h5⟩
def ud (d:Nat) (tx:ZP) (a b:ZS) (i:TypeInfo) (e:ZN.info? tx=ZW i) (c:i.comparable=ZV) (w:ZT):(Op.equalIn (d+1) 215 (.iface tx a) (.iface tx b)).run ZN w=(Op.equalIn d tx a b).run ZN w:=by
 simp [Op.equalIn,UL abe,typeInfo,e,c]
theorem K9 (D L G D' L' G':Int) (w:ZT):(Op.equalIn 10000 27 (.agg #[Z7 Z9 D,Z7 Z9 L,Z7 Z9 G]) (.agg #[Z7 Z9 D',Z7 Z9 L',Z7 Z9 G'])).run ZN w=.ok (decide (D=D'/\L=L'/\G=G')) w:=by
 by_cases a:D=D'
 . by_cases b:L=L'
   . by_cases c:G=G'
     . subst a b c;go_simp
     . have:(G==G')=ZU:=by simp [c]
       subst a b;go_simp
   . have:(L==L')=ZU:=by simp [b]
     subst a;go_simp
 . have:(D==D')=ZU:=by simp [a]
   go_simp
def La:∃ i:TypeInfo,ZN.info? 142=ZW i/\i.comparable=ZV:=by
 have:(ZN.info? 142).map (λi=>i.comparable)=ZW ZV:=by kernel_rfl
 rw [Wq] at this;exact this
