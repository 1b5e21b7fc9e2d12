import Derived.Test.YthibhmemkhmocaaGreatDoorM04
import Derived.ChangeSame
import Derived.ChangeVars
import Derived.JoinedOf
import Derived.RowKit
import Derived.LaidLaws
import Derived.LaidHandle
import Derived.Stop.Joined
import Derived.Lib.SmallJoins
import Derived.OwnWalk
import Derived.Lib.BufferWrite
import Derived.Sort.QuietIn
import Derived.Sort.QuietTacIn
import Derived.Deep.AppendLies
import Derived.Lib.LaidTab
import Derived.Carry
set_option maxRecDepth 100000
set_option linter.all false
set_option maxHeartbeats 8000000
open Go.IntKind renaming i64 -> Z9, u64 -> Z8
open Go.Value renaming int -> Z7, pointer -> Z6, slice -> Z5, bool -> Z1, string -> ZZ, tuple -> ZY
open Go.Obj renaming cells -> Z4
open Go.Ending renaming returned -> Z3
open Go.Operand renaming tmp -> Z0
open Go renaming undef -> ZX, World -> ZS, Value -> ZR, Calls -> ZP, Ending -> ZO, TypeId -> ZN, Boxed -> ZM, Operand -> ZL
open Option renaming none -> ZW, some -> ZV
open Bool renaming true -> ZU, false -> ZT
open Go.RowKit renaming Below -> ZQ
open List renaming range -> YE, replicate -> YF, prefix_refl -> YK, length -> YL, nodup_range -> YM, mem_flatten -> YN, map_singleton -> YO, take_prefix -> YP, map_replicate -> YQ
open Exists renaming intro -> YG
open Nat renaming reduceAdd -> YH, reduceSub -> YI
open Array renaming replicate -> YJ
open Go.Proofs.Tryz renaming prog -> ZK
open Go.Proofs.Tryz
namespace Go.Proofs.YthibhmemkhmocaaGreatDoor
def abB:=@Go.Proofs.Tryz.underlying48
def V7:=@Nat.zero_testBit
def Ym:=@List.length_pos_iff
def abC:=@Go.Addr.mk.injEq
def Yn:=@Go.ByteArray.toList_eq
def UO:=@List.nodup_cons
def XQ:=@Bool.or_eq_false_iff
def aca:=@Go.World.grownBy_alloc
def acp:=@List.sublist_append_right
end Go.Proofs.YthibhmemkhmocaaGreatDoor
namespace Go.Proofs.YthibhmemkhmocaaGreatDoor
open Go.RowKit Go.Shelf Go.Deep Gf
variable {a:Act} {ops:Array Oper} {cs:Array ZR} {off:Bool} {C:Ck} {R:ZO->ZS->Prop} {Q:Exit->Act->ZS->Prop} {F:aK} {fn:Func} {regs:Int} {O:List (Int×Nat×Nat×a8)} {M:List a8} {T:List (Nat×Nat×a8)} {l ds:a8} {rest:List Oper} {pre:List Sh} {m p D L G ps ho D' L' G' t f n g nb B ar nn b0 b c q count base N r i k lost t' f' n' gone kept d sp B0 g' cap':Nat} {K S:Nat->Prop} {f0:Nat->ZR} {o:Oper} {P:Program} {s:St} {e:ZN} {v pg ob u x y:ZR} {w Z W w' w0 w2 wr X Y:ZS}
section
attribute [local go_sem] Oper.semAt_some
def IG {m':Nat} {l:Nat} {args:Array ZR} (h:YieldAt Fence.wide m P l args w R):YieldAt Fence.wide m' P l args w R:=by
 obtain ⟨fn,tmps,assign,body,a,b⟩:=h;exact ⟨fn,tmps,assign,body,a,wY b⟩
theorem lJ (ao:Option Addr) (m c:Nat) (w:ZS) :
 ZP ZK 109 #[.slice ao m c] w λe w'=>e=Z3 (.func (.func 144) #[] #[Z6 (ZV ⟨w.heap.size,0,ZW⟩)])/\w'=w.alloc (Z4 #[.slice ao m c] 144):=by
 go_enter func109,ntmps109;go_wp2;go_ret;exact ⟨rfl,rfl⟩
theorem lK (ar:Nat) (w:ZS) :
 ZP ZK 84 #[Z6 (ZV ⟨ar,0,ZW⟩)] w λe w'=>e=Z3 (.func (.func 108) #[] #[Z6 (ZV ⟨w.heap.size,0,ZW⟩)])/\w'=w.alloc (Z4 #[Z6 (ZV ⟨ar,0,ZW⟩)] 103):=by
 go_enter func84,ntmps84;go_wp2;go_ret;exact ⟨rfl,rfl⟩
theorem lL (K:Nat->Prop) (n l b1 ar:Nat) (v D L G t f nn:Nat) (pg ob:ZR) (off:Bool) (P:a8) (os:List Ob) (hv:K b1) (hs:K ar) (J N:a8->ZS->Prop) (hn:∀ pre A B,J pre A->bW A B->J pre B)
 (hY:∀ pre x W,J pre W->pre++[x]<+:P++af os->YieldAt Fence.wide (n-1) ZK l (nr x) W λe j=>(e=Z3 (Z1 ZU)/\J (pre++[x]) j/\ef K W j)\/(e=Z3 (Z1 ZT)/\N (pre++[x]) j))
 (W:ZS) (a:ZM W b1 103 (Z6 (ZV ⟨ar,0,ZW⟩))) (g:a9 W ar v D L G t f nn pg ob off) (w:bf K W pg P) (u:eN K W ob os) (z:J [] W) :
 CallsIn Fence.wide n ZK 108 #[.func (.yield l) #[] #[],Z6 (ZV ⟨b1,0,ZW⟩)] W λe j=>(∃ v,e=Z3 v) /\
  ((∃ ys,ys=P++af os/\J ys j)\/(∃ pre,pre<+:P++af os/\N pre j)):=by
 obtain ⟨ao,c,rfl,k0,C⟩:=id w;obtain ⟨c0,_,_,c7,V⟩:=g.cells;have cb:=a.cell;refine Xv func108 rfl trivial ?_ rfl;simp only [ntmps108,UH,UA,UV,YH,YI,Vg,Vh,Vj,Vk,Uq,US];have I:=a6 a g w u z;clear a g w u z C;gi_wp2;gi_loopw [10] (λp wr=>∃ k:Nat,p=Z7 Z9 (k:Nat)/\k<=P.length/\J (P.take k) wr/\ef K W wr)
  (λp _=>P.length-(intOf p).toNat)
 case atStart=>
  exact ⟨0,rfl,T8 _,I.o.2.2.2.2,ef.refl _ _⟩
 case round=>
  clear c0 c7 V cb;obtain ⟨k,rfl,hk,m,d⟩:=hrel;by_cases s:k<P.length
  . obtain ⟨hb,c',X,_,C⟩:=I.o.2.2.1.keep d;obtain ⟨b,bo,e2,hx,k6,hr⟩:=C (λe=>by rw [e] at s;simp at s);simp only [Vx] at X;obtain ⟨rfl,_,rfl⟩:=X;subst e2;have g1:=hr k s;obtain ⟨y,H⟩:=nM (P[k]);rw [H] at g1;obtain ⟨fn,tmps,assign,body,k5,hR⟩:=hY _ y _ m (by
     have a:=(YP (k+1) P).trans (XW P (af os));rwa [Ve,Uc s,H] at a)
    unfold nr at k5;have M:=a5 m d hR H;clear m d hR C hr H;gi_wp2;refine ⟨λh=>vE,M.o.2.2.1.mono ?_⟩;have E:P.take k++[y]=P.take (k+1):=(by rw [Ve,Uc s,M.o.2.2.2];rfl);rintro e W3 (⟨rfl,S,hq⟩|⟨rfl,Q⟩)
    . rw [E] at S;have i:=al S (M.o.2.1.trans hq);clear S hq E;gi_wp2;go_roundw
      case rel=>exact ⟨k+1,eT,ec,i.o.1,i.o.2⟩
      case measure=>simp only [intOf];omega
    . rw [E] at Q;have i:=ak Q;clear Q E;gi_wp2;refine Ut (XI rfl _ _ _) rfl ?_;exact ⟨⟨_,rfl⟩,.inr ⟨_,(YP (k+1) P).trans (XW _ _),i.o⟩⟩
  . have hz:k=P.length:=ec;subst hz;rw [VA] at m;obtain ⟨a,g,w,u,z⟩:=I.o;have hg:ZM wr b1 103 (Z6 (ZV ⟨ar,0,ZW⟩)):=(d.2 _ a.lt hv).trans a;have hh:=g.keep (d.2 _ g.lt hs);have R:=u.keep d;obtain ⟨_,_,_,_,V⟩:=hh.cells;have cb:=hg.cell;obtain ⟨r,q,rfl,hol,_⟩:=id R;have U:=aE m d R;clear m d a g w u z hg hh R;gi_wp2;refine cd (lJ r os.length q wr) ?_;rintro e w2 ⟨rfl,rfl⟩;have F:bW wr (wr.alloc (Z4 #[.slice r os.length q] 144)):=bA wr _;have O:(wr.alloc (Z4 #[.slice r os.length q] 144)).cell? ⟨wr.heap.size,0,ZW⟩=ZV (.slice r os.length q):=(Us wr _ _).cell;obtain ⟨w2,T⟩:=nM (wr.alloc (Z4 #[.slice r os.length q] 144));rw [T] at F O;have hm:=hn _ _ _ U.o.1 F;have hi:=U.o.2.2.keep (ef.RM F);have Y:=lF K (n-1) l wr.heap.size (.slice r os.length q) os J N hn (P++af os) (λpre x W1 hj hp=>IG (hY pre x W1 hj hp)) P (YK _) w2 O hi hm;have H2:=ak Y;clear F O hm hi Y;rw [T];clear T;gi_wp2;refine ⟨trivial,λh=>vE,H2.o.mono ?_⟩;rintro e W3 ⟨⟨x,rfl⟩,Z⟩;have i:=ak Z;clear Z;gi_wp2;go_end0
    refine ⟨⟨_,rfl⟩,?_⟩;rcases i.o with h|⟨pre,a,h2⟩
    . exact .inl ⟨_,rfl,h⟩
    . exact .inr ⟨_,(ab5 _).2 a,h2⟩
def pQ (K:Nat->Prop) (n b1 ar v D L G t f nn:Nat) (pg ob:ZR) (off:Bool) (P:a8) (os:List Ob) (m:K b1) (j:K ar) (w:ZS) (c:ZM w b1 103 (Z6 (ZV ⟨ar,0,ZW⟩))) (d:a9 w ar v D L G t f nn pg ob off) (q:bf K w pg P) (o:eN K w ob os) :
 SeqStopsK Fence.wide n ZK 108 #[Z6 (ZV ⟨b1,0,ZW⟩)] nr (ef K) (λz=>z=P++af os) (λpre=>pre<+:P++af os) (P++af os).length w:=λl J g W b p _ s i=>
 lL K n l b1 ar v D L G t f nn pg ob off P os m j J g (λpre A B h a=>p pre A B ZW h ⟨a.os,a.tape,a.output,a.size,λk u _=>a.block k u⟩ (λr e=>Y4)) (λpre x W h y=>s pre x W h (KX y)) W
  ((b.block _ c.lt).trans c) (d.keep (b.block _ d.lt)) (q.keep (ef.RM b)) (o.keep (ef.RM b)) i
def Sn (l:a8):Type:={ x:Nat // x∈l }
def PM {l:a8} (x:Sn l):Array ZR:=nr x.1
def pR (K:Nat->Prop) (n b1 ar v D L G t f nn:Nat) (pg ob:ZR) (off:Bool) (P:a8) (os:List Ob) (y:K b1) (u:K ar) (w:ZS) (b:ZM w b1 103 (Z6 (ZV ⟨ar,0,ZW⟩))) (p:a9 w ar v D L G t f nn pg ob off) (E:bf K w pg P) (z:eN K w ob os) :
 SeqStopsK Fence.wide n ZK 108 #[Z6 (ZV ⟨b1,0,ZW⟩)] (PM (l:=P++af os)) (ef K) (λa=>a.map (·.1)=P++af os) (λpre=>pre.map (·.1)<+:P++af os) (P++af os).length w:=λl J q W i C _ F s=>by
 refine (lL K n l b1 ar v D L G t f nn pg ob off P os y u (λpre X=>∃ a:List (Sn (P++af os)),a.map (·.1)=pre/\J a X) (λpre X=>∃ a:List (Sn (P++af os)),a.map (·.1)=pre/\q a X)
  (λpre A B ⟨a,e,h⟩ g=>⟨a,e,C a A B ZW h ⟨g.os,g.tape,g.output,g.size,λk I _=>g.block k I⟩ (λr e=>Y4)⟩) ?_ W
  ((i.block _ b.lt).trans b) (p.keep (i.block _ p.lt)) (E.keep (ef.RM i)) (z.keep (ef.RM i)) ⟨[],rfl,s⟩).mono ?_
 . rintro pre x X ⟨a,rfl,H⟩ j;have m:x∈P++af os:=j.subset ek;refine (F a ⟨x,m⟩ X H (by have:=KX j;rwa [Ue] at this)).mono ?_;rintro e M (⟨b,c,d⟩|⟨b,c⟩)
   . exact .inl ⟨b,⟨a++[⟨x,m⟩],by rw [Uw];rfl,c⟩,d⟩
   . exact .inr ⟨b,⟨a++[⟨x,m⟩],by rw [Uw];rfl,c⟩⟩
 . rintro e X ⟨b,⟨a,rfl,o,c,d⟩|⟨pre,j,o,rfl,d⟩⟩
   . exact ⟨b,.inl ⟨o,c,d⟩⟩
   . exact ⟨b,.inr ⟨o,j,d⟩⟩
end
theorem tW (n m:Nat) (f:n<=5000000000) (c:1<=m/\m<=1000000) (w:ZS):ZP ZK 140 #[Z7 Z9 n,Z7 Z9 m] w λe w'=>e=Z3 (Z7 Z9 (((n+m-1)/m:Nat):Int))/\w'=w:=by
 obtain ⟨g,h⟩:=c;have a:(((n+m-1)/m:Nat):Int)=((n:Int)+m-1)/(m:Int):=by rw [Ya,(ec:((n+m-1:Nat):Int)=(n:Int)+m-1)]
 have d:Int.tdiv ((n:Int)+m-1) (m:Int)=((n:Int)+m-1)/(m:Int):=XN ec;have b:wrap64 (((n:Int)+m-1)/(m:Int))=((n:Int)+m-1)/(m:Int):=by rw [<- a];exact iG (TU (VV _ _) ec)
 rw [a];go_enter func140,ntmps140;go_wp2;go_ret;exact ⟨Ux (λx=>Ending.returned (Z7 Z9 x)) b,rfl⟩
def pgs (D m:Nat):Nat:=max 1 ((m+(D*44-4)-1)/(D*44-4))
theorem jh {a v:Nat} (s:a9 w a v D' L' G' t f n pg ob off) (h:bg w v p D L G ps ho) (l:1<=D) (r:D<=1000) (m:Nat) (u:m<=5000000000):ZP ZK 103 #[Z6 (ZV ⟨a,0,ZW⟩),Z7 Z9 m] w λe w'=>e=Z3 (Z7 Z9 (pgs D m:Nat))/\w'=w:=by
 have c:=tW m (D*44-4) u ⟨ec,ec⟩ w;obtain ⟨q,d⟩:=nM ((m+(D*44-4)-1)/(D*44-4));rw [d] at c;have i:pgs D m=max 1 q:=by unfold pgs;rw [d]
 rw [i];have x:∀ b k w,(Builtin.max_ b k #[Z7 Z9 1,Z7 Z9 (q:Nat)]).run ZK w=.ok (Z7 Z9 ((max 1 q:Nat):Int)) w:=λb k w=>by
  rw [qV];by_cases g:(q:Int)>1
  . rw [TT g,Nat.max_eq_right ec]
  . rw [TS g,Nat.max_eq_left ec];rfl
 have j:=kH s h l r;have H:=al c j;clear c j i d;go_enter func103,ntmps103;go_wp2_with fail;refine H.o.2.mono ?_;rintro e w' ⟨rfl,rfl⟩;generalize ((D*44-4:Nat):Int)=y at *;go_wp2_with fail;refine H.o.1.mono ?_;rintro e w' ⟨rfl,rfl⟩;go_wp2;go_ret;exact ⟨rfl,rfl⟩
theorem jz {v:Nat} {A:az} (d:bg w v p D L G ps ho) (h:aA w p A F) (c:0<A.n):ZP ZK 163 #[Z6 (ZV ⟨v,0,ZW⟩)] w λe w'=>e=Z3 (Z7 Z9 A.nb)/\w'=w:=by
 obtain ⟨c0,_⟩:=d.cells;have f:=h.Sv.2;have a:=tJ h c;obtain ⟨nb,b⟩:=nM (A.nb);rw [b] at a f ⊢;clear h c b;go_enter func163,ntmps163;go_wp2_with fail;refine a.mono ?_;rintro e w' ⟨rfl,rfl⟩;go_wp2;go_ret;exact ⟨rfl,rfl⟩
section
attribute [local go_sem] Oper.semAt_some
def jA (nb:Nat) (s:(Nat->Bool)×Bool) (x:Nat):(Nat->Bool)×Bool:=if x<2\/nb<=x\/s.1 x=ZU then (s.1,ZT) else (λj=>if j=x then ZU else s.1 j,s.2)
def tk (nb:Nat) (l:a8):(Nat->Bool)×Bool:=l.foldl (jA nb) (λ_=>ZT,ZU)
def sA (nb:Nat) (l:a8) (x:Nat):tk nb (l++[x])=jA nb (tk nb l) x:=by simp [tk]
def Tryz.Ti:(ZK.info? 4).map (λi=>(i.zero,i.size,i.bytes))=ZV (ZV (Z1 ZT),1,1):=ei
def pS (w:ZS) {F:Fence} {m:Nat} {ops:Array Oper} {rest:List Oper} {o:Oper} {a:Act} {Q:Exit->Act->ZS->Prop}
 (i:o.guard=ZW) (l c:ZL) (b:o.op=Op.makeSlice 77 l c) (C:Int) (n:Nat) (hl:a.eval l=Z7 Z9 C) (g:a.eval c=Z7 Z9 C) (f:C=(n:Int)) (j:n<=1000000000)
 (hK:∀ w',w'.rowIs w.heap.size 4 n (λ_=>Z1 ZT)->bW w w'->w'.heap.size=w.heap.size+1->wpListIn F m ZK ops Q rest (a.put o.dst (Z5 (ZV ⟨w.heap.size,0,ZW⟩) n n)) w') :
 wpListIn F m ZK ops Q (o::rest) a w:=by
 refine Yj i λK e=>?_;have d:=XZ (P:=ZK) 77 4 (Z1 ZT) 1 underlying77 Tryz.Ti rfl .i64 .i64 n ec ec w;subst f;unfold Oper.wpIn;refine ⟨by simp [Oper.about,b],?_⟩;rw [Vu F _ _ (by rw [b];intro c h;cases h)];simp [execOp,b,hl,g,d,Result.andThen];exact e _ _ (hK _ (Xz w _ n _) (bA _ _) (Uh _ _))
structure QU (w:ZS) (g nb B:Nat) (pre:a8) (X:ZS):Prop where
 row:X.rowIs g 4 nb (λj=>Z1 ((tk nb pre).1 j))
 box:ZM X (g+1) 77 (Z5 (ZV ⟨g,0,ZW⟩) nb nb)
 ok:ZM X (g+1+1) 4 (Z1 (tk nb pre).2)
 below:bW w X
 size:B<=X.heap.size
def QU.own (l:g+3<=B) (m:w.heap.size<=B):OwnFrom B (QU w g nb B):=by
 rintro pre X Y row ⟨f,h,i,c,j⟩ b d;have a:∀ k,k<B->Y.heap[k]?=X.heap[k]?:=λk a=>b.block k ec (λe=>e9 ((d k e.symm).1));exact ⟨f.of_block (a _ ec),(a _ ec).trans h,(a _ ec).trans i,c.grown b c.size (λk e=>e9 ((d k e).1)),TU j b.size⟩
def tX {u:Nat} (f:fn.results=#[.tmp t,.tmp u]) (b:a.defers=[{ target:=.collected D',args:=#[] }]) (hx:a.tmps.getD t ZX=x) (hy:a.tmps.getD u ZX=y)
 (hK:Z.heap[D']?=ZV (.deferred (ZV []))) (hR:R (Z3 (ZY #[x,y])) (Z.putObj D' (.deferred ZW))):bodyPostM Fence.wide n ZK fn R .ret a Z:=by
 obtain ⟨c,g⟩:=a;simp only at b hx hy;subst b;refine ⟨ek,.inl ⟨_,_,rfl,WA hK,?_⟩⟩;refine ⟨ZY #[x,y],?_,hR⟩;have d:c[t]?.getD ZX=x:=oD hx
 have e:c[u]?.getD ZX=y:=oD hy
 simp [results,f,d,e]
theorem yt {v:Nat} {A:az} (N:a9 w ar v D' L' G' t f nn pg ob off) (hV:bg w v p D L G ps ho) (h:aA w p A F) (hn:0<A.n) (P:a8) (os:List Ob) (hP:bf (λk=>k<w.heap.size) w pg P) (hC:eN (λk=>k<w.heap.size) w ob os) :
 ZP ZK 156 #[Z6 (ZV ⟨ar,0,ZW⟩)] w λe w'=>∃ g,e=Z3 (ZY #[Z5 (ZV ⟨g,0,ZW⟩) A.nb A.nb,Z1 (tk A.nb (P++af os)).2])/\w.heap.size<=g/\w'.rowIs g 4 A.nb (λj=>Z1 ((tk A.nb (P++af os)).1 j))/\bW w w':=by
 obtain ⟨n,HN⟩:∃ n:Nat,b9 (9<=n):=⟨9,TV _⟩;obtain ⟨c0,_⟩:=N.cells;have Q:=jz hV h hn;have ka:=h.Sv.2;obtain ⟨nb,h7⟩:=nM (A.nb);rw [h7] at Q ka ⊢;clear h7;have C:=a5 N hP hC Q;clear N hP hC Q;refine (Vd (n:=n)).1 ?_;refine Wh func156 rfl trivial ?_ rfl;simp only [ntmps156,UH,UA,UV,YH,YI,Vg,Vh,Vj,Vk,Uq,US];gi_wp2;refine cd C.o.2.2.2 ?_;rintro e w1 ⟨rfl,rfl⟩;gi_wp2_with (gi_at_make;refine pS _ rfl (Z0 11) (Z0 11) rfl _ nb um um rfl ec ?_;intro w2 h6 hq J)
 obtain ⟨d,B⟩:=nM ((w2.alloc (Z4 #[Z5 (ZV ⟨w1.heap.size,0,ZW⟩) nb nb] 77)).alloc (Z4 #[Z1 ZU] 4));have k0:d.heap.size=w1.heap.size+3:=by rw [<- B];simp [J]
 have hr:bW w1 d:=by rw [<- B];exact (hq.alloc ec _).alloc en _
 have hp:d.rowIs w1.heap.size 4 nb (λ_=>Z1 ZT):=by rw [<- B];exact (h6.alloc _).alloc _
 have hg:ZM d (w1.heap.size+1) 77 (Z5 (ZV ⟨w1.heap.size,0,ZW⟩) nb nb):=by
  rw [<- B];have:=Us w2 77 (Z5 (ZV ⟨w1.heap.size,0,ZW⟩) nb nb);rw [J] at this;exact this.alloc _
 have hm:ZM d (w1.heap.size+1+1) 4 (Z1 ZU):=by
  rw [<- B];have:=Us (w2.alloc (Z4 #[Z5 (ZV ⟨w1.heap.size,0,ZW⟩) nb nb] 77)) 4 (Z1 ZU);rw [Ul,J] at this;exact this
 rw [B];clear B h6 hq J c0 hV h;refine cd (lK ar d) ?_;rintro e w' ⟨rfl,rfl⟩;have h5:ZM (d.alloc (Z4 #[Z6 (ZV ⟨ar,0,ZW⟩)] 103)) d.heap.size 103 (Z6 (ZV ⟨ar,0,ZW⟩)):=Us d _ _;have k5:(d.alloc (Z4 #[Z6 (ZV ⟨ar,0,ZW⟩)] 103)).heap.size=d.heap.size+1:=ek
 have H:QU w1 w1.heap.size nb (d.heap.size+1) [] (d.alloc (Z4 #[Z6 (ZV ⟨ar,0,ZW⟩)] 103)):=⟨hp.alloc _,hg.alloc _,hm.alloc _,hr.alloc ec _,ec⟩;obtain ⟨s,hs⟩:=nM (d.alloc (Z4 #[Z6 (ZV ⟨ar,0,ZW⟩)] 103));have I:=a5 h5 H k0 k5;clear h5 H k0 k5 hp hg hm hr;gi_wp2;rw [hs] at I;clear hs;obtain ⟨ke,kf,kg,kh⟩:d.heap.size<=w1.heap.size+3/\w1.heap.size+3<=d.heap.size/\s.heap.size<=d.heap.size+1/\d.heap.size+1<=s.heap.size:=e9 I.out.2.2
 have H:QU w1 w1.heap.size nb s.heap.size [] s:=by have:=I.out.2.1;exact ⟨this.row,this.box,this.ok,this.below,TV _⟩
 have O:∀ {v:ZR} {l:a8},bf (λk=>k<w1.heap.size) w1 v l->bf (λk=>k<w1.heap.size\/k=d.heap.size) w1 v l:=λ⟨ao,c,S,T,U⟩=>⟨ao,c,S,T,λhl=>by obtain ⟨b,off,V,Y,Z⟩:=U hl;exact ⟨b,off,V,.inl Y,Z⟩⟩;have k8:=O C.o.2.1;have k6:eN (λk=>k<w1.heap.size\/k=d.heap.size) w1 ob os:=by
  obtain ⟨ao,c,S,T,U⟩:=C.o.2.2.1;refine ⟨ao,c,S,T,λhl=>?_⟩;obtain ⟨b,off,V,Y,Z,r4⟩:=U hl;refine ⟨b,off,V,.inl Y,Z,λi a=>?_⟩;obtain ⟨sv,s1,s2,s3,s4⟩:=r4 i a;exact ⟨sv,s1,s2,s3,O s4⟩
 have M:=H.below;have HI:=ak H;clear H O;refine Wi rfl (e9 HN.o) (gf:=108) (lb:=#[Z6 (ZV ⟨d.heap.size,0,ZW⟩)]) rfl trivial (U5 func108 ei rfl)
  (pQ (λk=>k<w1.heap.size\/k=d.heap.size) (n-1) d.heap.size ar v D' L' G' t f nn pg ob off P os (.inr rfl) (.inl C.o.1.lt) s I.out.1 (C.o.1.keep (M.block _ C.o.1.lt)) (k8.keep (ef.RM M)) (k6.keep (ef.RM M)))
  (λh k=>h.trans k) (λW l o o' hl _ _ _=>⟨Ok,λk _ r=>UP (by rcases r with r|r<;>omega)⟩) (TW _ _) (λ_=>rfl)
  (QU w1 w1.heap.size nb s.heap.size) (λ_ _ _=>False) (QU.own ec ec) (λ_ _ _ _ _ h _ _=>h.elim) HI.o
  (λx=>{ tmps:=#[Z6 (ZV ⟨ar,0,ZW⟩),ZX,Z5 ZW 0 0,Z1 ZT,Z6 (ZV ⟨w1.heap.size+1,0,ZW⟩),Z6 (ZV ⟨w1.heap.size+1+1,0,ZW⟩),Z7 Z9 (x:Nat),Z6 (ZV ⟨ar,0,ZW⟩),Z6 (ZV ⟨ar,0,ZW⟩),Z6 (ZV ⟨ar,0,ZW⟩),Z6 (ZV ⟨v,0,ZW⟩),Z7 Z9 (nb:Nat),Z5 (ZV ⟨w1.heap.size,0,ZW⟩) nb nb,Z6 (ZV ⟨ar,0,ZW⟩),.func (.func 108) #[] #[Z6 (ZV ⟨d.heap.size,0,ZW⟩)],Z7 Z9 (x:Nat),ZX,ZX,ZX,ZX,ZX,ZX,ZX,ZX,ZX,ZX,ZX,ZX,ZX,ZX,ZX,ZX,ZX,ZX,ZX],defers:=[] }) ?assign ?body ?done ?stop
 case assign=>
  intro l2 x X Kk hK;unfold nr;gi_wp2;exact hK
 case body=>
  rintro l2 pre x X a k9;have c1:=a.box.cell;have c2:=a.ok.cell;have f2:=a.ok.frozen;have E:=ak a;have h1:tk nb (pre++[x])=((tk nb pre).1,ZT)->KeepsFrom s.heap.size X (X.setCell ⟨w1.heap.size+1+1,0,ZW⟩ (Z1 ZT))/\ef (λk=>k<w1.heap.size\/k=d.heap.size) X (X.setCell ⟨w1.heap.size+1+1,0,ZW⟩ (Z1 ZT))/\QU w1 w1.heap.size nb s.heap.size (pre++[x]) (X.setCell ⟨w1.heap.size+1+1,0,ZW⟩ (Z1 ZT)):=λm=>by
   have a:=E.o;refine ⟨(V5 _ _ _).from _,⟨oB,λk _ r=>Ud _ _ _ _ (by show k≠w1.heap.size+1+1;rcases r with r|r<;>omega)⟩,?_,?_,?_,?_,?_⟩
   . rw [m];exact a.row.of_block (Ud _ _ _ _ (by show w1.heap.size≠w1.heap.size+1+1;omega))
   . exact (Ud _ _ _ _ (by show w1.heap.size+1≠w1.heap.size+1+1;omega)).trans a.box
   . rw [m];exact a.ok.set _
   . exact a.below.setCell (p:=⟨w1.heap.size+1+1,0,ZW⟩) (by show w1.heap.size<=w1.heap.size+1+1;omega) _
   . simpa [World.setCell] using a.size
  have K:=ak h1;clear a h1;by_cases hv:x<2
  . have e1:(x:Int)<2:=ec;have m:tk nb (pre++[x])=((tk nb pre).1,ZT):=(by rw [sA];unfold jA;rw [TT (.inl hv)]);have z:=ak m;clear m;gi_wp2;exact K.o z.o
  . have e1:¬ (x:Int)<2:=ec;by_cases hy:nb<=x
    . have e2:(x:Int)≥(nb:Int):=ec;have m:tk nb (pre++[x])=((tk nb pre).1,ZT):=(by rw [sA];unfold jA;rw [TT (.inr (.inl hy))]);have z:=ak m;clear m;gi_wp2;exact K.o z.o
    . have e2:¬ (x:Int)≥(nb:Int):=ec;have kc:x<nb:=ec;have c3:=E.o.row.cell (i:=x) kc;have f3:=E.o.row.frozen x;cases h9:(tk nb pre).1 x with
      | true=>
       rw [h9] at c3;have m:tk nb (pre++[x])=((tk nb pre).1,ZT):=(by rw [sA];unfold jA;rw [TT (.inr (.inr h9))]);have z:=ak m;clear m;gi_wp2;exact K.o z.o
      | false=>
       rw [h9] at c3;have m:tk nb (pre++[x])=(λj=>if j=x then ZU else (tk nb pre).1 j,(tk nb pre).2):=by
        rw [sA];unfold jA;rw [TS];rintro (q|q|q)
        . exact hv q
        . exact hy q
        . rw [h9] at q;cases q
       have z:=ak m;clear m;gi_wp2;have m:=z.o;have a:=E.o;refine ⟨(V5 _ _ _).from _,⟨oB,λk _ r=>Ud _ _ _ _ (by show k≠w1.heap.size;rcases r with r|r<;>omega)⟩,?_,?_,?_,?_,?_⟩
       . rw [m];refine (a.row.set x (Z1 ZU)).congr λj hj=>?_;by_cases e:j=x
         . simp [e]
         . simp [e]
       . exact (Ud _ _ _ _ (by show w1.heap.size+1≠w1.heap.size;omega)).trans a.box
       . rw [m];exact (Ud _ _ _ _ (by show w1.heap.size+1+1≠w1.heap.size;omega)).trans a.ok
       . exact a.below.setCell (p:=⟨w1.heap.size,x,ZW⟩) lR _
       . simpa [World.setCell] using a.size
 case done=>
  rintro D1 xs X k7 hz a hK;rw [hz] at a;have c1:=a.box.cell;have c2:=a.ok.cell;have E:=al a hK;clear a hK hz;obtain ⟨tb,R⟩:=nM ((tk nb (P++af os)).2);rw [R] at c2;have HT:=ak R;clear R;gi_wp2;gi_region
  gi_wp2;obtain ⟨a,hK⟩:=E.o;have hh:X.drew.heap[D1]?=ZV (.deferred (ZV [])):=hK;refine tX (t:=2) (u:=3) (x:=Z5 (ZV ⟨w1.heap.size,0,ZW⟩) nb nb) (y:=Z1 tb) results156 rfl rfl rfl hh ⟨w1.heap.size,by rw [HT.o],TV _,?_,?_⟩
  . exact a.row.of_block (UP (w:=X.drew) ec)
  . exact Below.RO a.below.drew ec (TX.1 hh).1 _
 case stop=>
  rintro D1 cc pre X k7 kb hx hK;exact hx.elim
end
section
attribute [local go_sem] Oper.semAt_some
def aZ (T:Nat->Bool) (k:Nat):a8:=(YE k).filter (λj=>decide (2<=j) && !T j)
def pT (T:Nat->Bool):aZ T 2=[]:=by simp [aZ,Vw]
theorem ny (T:Nat->Bool) (k:Nat):aZ T (k+1)=aZ T k++(if 2<=k/\T k=ZT then [k] else []):=by
 unfold aZ;rw [Vw,Wv];congr 1;by_cases h:2<=k/\T k=ZT
 . rw [TT h];simp [h.1,h.2]
 . rw [TS h];by_cases a:2<=k
   . have:T k=ZU:=by cases q:T k<;>simp_all
     simp [this]
   . simp [a]
def kM (T:Nat->Bool) {k m:Nat} (h:k<=m):aZ T k<+:aZ T m:=by
 induction m with
 | zero=>rw [(ec:k=0)];exact YK _
 | succ m ih=>
  by_cases e:k=m+1
  . rw [e];exact YK _
  . rw [ny];exact (ih ec).trans (XW _ _)
theorem Cp (ar:Nat) (w:ZS) :
 ZP ZK 139 #[Z6 (ZV ⟨ar,0,ZW⟩)] w λe w'=>e=Z3 (.func (.func 171) #[] #[Z6 (ZV ⟨w.heap.size,0,ZW⟩)])/\w'=w.alloc (Z4 #[Z6 (ZV ⟨ar,0,ZW⟩)] 103):=by
 go_enter func139,ntmps139;go_wp2;go_ret;exact ⟨rfl,rfl⟩
def PN (b0:Nat) (W W':ZS):Prop:=W.heap.size<=W'.heap.size/\∀ k o,b0<=k->W.heap[k]?=ZV o->o.isCells=ZU->W'.heap[k]?=ZV o
def PN.trans {a b c:ZS} (h:PN b0 a b) (k:PN b0 b c):PN b0 a c:=⟨TU h.1 k.1,λi o d f e=>k.2 i o d (h.2 i o d f e) e⟩
def PN.row {W':ZS} (h:PN b0 W W') {g n:Nat} {t:ZN} {f:Nat->ZR} (d:b0<=g) (b:W.rowIs g t n f):W'.rowIs g t n f:=by
 obtain ⟨c,a,_⟩:=id b;exact b.of_block ((h.2 g _ d a rfl).trans a.symm)
theorem Lr {v:Nat} {A:az} (Q:a9 W ar v D' L' G' t f nn pg ob off) (V:bg W v p D L G ps ho) (h:aA W p A F) (Y:0<A.n) (P:a8) (os:List Ob) (S:bf (λk=>k<W.heap.size) W pg P) (R:eN (λk=>k<W.heap.size) W ob os)
 (n l b1 b0:Nat) (hp:b0<=W.heap.size) (J C:a8->ZS->Prop) (hc:∀ pre A B,J pre A->bW A B->J pre B)
 (u:∀ pre x W,J pre W->pre.length<(aZ (tk A.nb (P++af os)).1 A.nb).length->YieldAt Fence.wide (n-1) ZK l (nr x) W λe q=>(e=Z3 (Z1 ZU)/\J (pre++[x]) q/\PN b0 W q)\/(e=Z3 (Z1 ZT)/\C (pre++[x]) q))
 (h1:W.cell? ⟨b1,0,ZW⟩=ZV (Z6 (ZV ⟨ar,0,ZW⟩))) (E:J [] W) :
 CallsIn Fence.wide n ZK 171 #[.func (.yield l) #[] #[],Z6 (ZV ⟨b1,0,ZW⟩)] W λe q=>(∃ v,e=Z3 v) /\
  ((∃ Z,Z=aZ (tk A.nb (P++af os)).1 A.nb/\J Z q)\/(∃ pre,pre<+:aZ (tk A.nb (P++af os)).1 A.nb/\C pre q)):=by
 have r:=yt Q V h Y P os S R;have hi:=h.Sv.2;obtain ⟨nb,I⟩:=nM (A.nb);rw [I] at r hi u ⊢;obtain ⟨T,U⟩:=nM (tk nb (P++af os));rw [U] at r u ⊢;obtain ⟨a,tr⟩:=T;simp only at r u ⊢;clear I U Q V h Y S R;refine Xv func171 rfl trivial ?_ rfl;simp only [ntmps171,UH,UA,UV,YH,YI,Vg,Vh,Vj,Vk,Uq,US];gi_wp2;refine cd r ?_;rintro e w1 ⟨g,rfl,hg,b,O⟩;have K:=hc _ _ _ E O;have z:=al b K;clear b O K r E h1;gi_wp2;gi_loopw [5] (λp wr=>∃ k:Nat,p=Z7 Z9 (k:Nat)/\2<=k/\(k<=nb\/k=2)/\J (aZ a k) wr/\wr.rowIs g 4 nb (λj=>Z1 (a j)))
  (λp _=>nb-(intOf p).toNat)
 case atStart=>
  exact ⟨2,rfl,TV _,.inr rfl,by rw [pT];exact z.o.2,z.o.1⟩
 case round=>
  obtain ⟨k,rfl,hf,w,d,b⟩:=hrel;by_cases hh:k<nb
  . have c1:=b.cell (i:=k) hh;cases hm:a k with
    | true=>
     rw [hm] at c1;have c:aZ a (k+1)=aZ a k:=(by rw [ny,TS (by rw [hm];simp),Ws]);rw [<- c] at d;have m:=al d b;clear d b c hm;gi_wp2;refine ⟨λ_ h=>vE,?_⟩;gi_wp2;go_roundw
     case rel=>exact ⟨k+1,eT,ec,.inl ec,m.o.1,m.o.2⟩
     case measure=>simp only [intOf];omega
    | false=>
     rw [hm] at c1;have c:aZ a k++[k]=aZ a (k+1):=(by rw [ny,TT ⟨hf,hm⟩]);have X:(aZ a k).length<(aZ a nb).length:=by
      have:=(kM a (ec:k+1<=nb)).length_le;rw [<- c,Ua] at this;simp at this;omega
     obtain ⟨fn,tmps,assign,body,hj,y⟩:=u _ k _ d X;unfold nr at hj;rw [c] at y;have m:=al b y;clear d b y c hm X;gi_wp2;refine ⟨λh=>vE,m.o.2.mono ?_⟩;rintro e W3 (⟨rfl,M,N⟩|⟨rfl,H⟩)
     . have s:=al M (N.row ec m.o.1);clear M N;gi_wp2;go_roundw
       case rel=>exact ⟨k+1,eT,ec,.inl ec,s.o.1,s.o.2⟩
       case measure=>simp only [intOf];omega
     . have s:=ak H;clear H;gi_wp2;refine Ut (XI rfl _ _ _) rfl ?_;exact ⟨⟨_,rfl⟩,.inr ⟨_,kM a (ec:k+1<=nb),s.o⟩⟩
  . have c:aZ a k=aZ a nb:=by
     rcases w with w|w
     . rw [(ec:k=nb)]
     . subst w;rw [pT];exact (List.prefix_nil.1 (by have:=kM a (ec:nb<=2);rwa [pT] at this)).symm
    rw [c] at d;have m:=ak d;clear d c b;gi_wp2;go_end0
    exact ⟨⟨_,rfl⟩,.inl ⟨_,rfl,m.o⟩⟩
def EU {v:Nat} {A:az} (x:a9 w ar v D' L' G' t f nn pg ob off) (y:bg w v p D L G ps ho) (h:aA w p A F) (R:0<A.n) (P:a8) (os:List Ob) (M:bf (λk=>k<w.heap.size) w pg P) (I:eN (λk=>k<w.heap.size) w ob os)
 (n b1:Nat) (d:b1<w.heap.size) (E:w.cell? ⟨b1,0,ZW⟩=ZV (Z6 (ZV ⟨ar,0,ZW⟩))) :
 SeqStopsK Fence.wide n ZK 171 #[Z6 (ZV ⟨b1,0,ZW⟩)] nr (PN w.heap.size) (λY=>Y=aZ (tk A.nb (P++af os)).1 A.nb) (λpre=>pre<+:aZ (tk A.nb (P++af os)).1 A.nb) (aZ (tk A.nb (P++af os)).1 A.nb).length w:=λl J z W a K _ N C=>by
 have u:∀ {v:ZR} {l:a8},bf (λk=>k<w.heap.size) W v l->bf (λk=>k<W.heap.size) W v l:=λ⟨ao,c,g,j,m⟩=>⟨ao,c,g,j,λhl=>by obtain ⟨b,off,o,q,s⟩:=m hl;exact ⟨b,off,o,T7 q a.size,s⟩⟩;have H:eN (λk=>k<W.heap.size) W ob os:=by
  obtain ⟨ao,c,g,j,m⟩:=I.keep (ef.RM a);refine ⟨ao,c,g,j,λhl=>?_⟩;obtain ⟨b,off,o,q,s,S⟩:=m hl;refine ⟨b,off,o,T7 q a.size,s,λi O=>?_⟩;obtain ⟨sv,T,U,V,X⟩:=S i O;exact ⟨sv,T,U,V,u X⟩
 exact Lr (x.keep (a.block _ x.lt)) (y.keep (a.block _ y.lt)) (h.below a lR) R P os (u (M.keep (ef.RM a))) H n l b1 w.heap.size a.size J z (λpre A B h d=>K pre A B ZW h ⟨d.os,d.tape,d.output,d.size,λk Q _=>d.block k Q⟩ (λr e=>Y4)) N ((a.cell (p:=⟨b1,0,ZW⟩) d).trans E) C
end
section
attribute [local go_sem] Oper.semAt_some
def jZ (l:a8):List ZR:=l.map λ(x:Nat)=>Value.int .i64 (x:Int)
def Tryz.Sr:(ZK.info? 3).map (λi=>(i.zero,i.size,i.bytes))=ZV (ZV (Z7 Z9 0),1,8):=ei
structure QV (w:ZS) (q count B:Nat) (pre:a8) (X:ZS):Prop where
 cnt:ZM X w.heap.size 3 (Z7 Z9 (count:Nat))
 box:ZM X q 48 (Z5 (ZV ⟨w.heap.size+1,0,ZW⟩) pre.length count)
 own:X.ownsRow (w.heap.size+1) 3 1 (Z5 (ZV ⟨w.heap.size+1,0,ZW⟩) pre.length count) pre.length (jZ pre)
 below:bW w X
 size:B<=X.heap.size
 le:pre.length<=count
def QV.Tf (l:w.heap.size+3<=B) (m:q<B):OwnFrom B (QV w q count B):=by
 rintro pre X Y row ⟨f,g,h,d,i,j⟩ a c;have b:∀ k,k<B->Y.heap[k]?=X.heap[k]?:=λk b=>a.block k ec (λe=>e9 ((c k e.symm).1));exact ⟨(b _ ec).trans f,(b _ ec).trans g,lG h a λr e=>(c r e).2,d.grown a d.size (λk e=>e9 ((c k e).1)),TU i a.size,j⟩
def TaX (w:ZS) (q count B id:Nat) (c:Code) (pre':a8) (X:ZS):Prop:=c=.exit id/\∃ pre x,pre'=pre++[x]/\pre.length=count/\QV w q count B pre X
def TaX.Tf {id:Nat} (g:w.heap.size+3<=B) (i:q<B) (c:Code):OwnFrom B (TaX w q count B id c):=by
 rintro a X Y row ⟨b,pre,x,d,e,f⟩ h j;exact ⟨b,pre,x,d,e,QV.Tf g i pre X Y row f h j⟩
theorem lM {v:Nat} {A:az} (K:a9 w ar v D' L' G' t f nn pg ob off) (M:bg w v p D L G ps ho) (h:aA w p A F) (hn:0<A.n) (P:a8) (os:List Ob) (Q:bf (λk=>k<w.heap.size) w pg P) (O:eN (λk=>k<w.heap.size) w ob os) (count:Nat) (k6:count<=1000000) :
 ZP ZK 102 #[Z6 (ZV ⟨ar,0,ZW⟩),Z7 Z9 (count:Nat)] w λe w'=>∃ u,e=Z3 (ZY #[u,Z1 (decide (count<=(aZ (tk A.nb (P++af os)).1 A.nb).length))]) /\
  w'.ownsRow w.heap.size 3 1 u ((aZ (tk A.nb (P++af os)).1 A.nb).take count).length (jZ ((aZ (tk A.nb (P++af os)).1 A.nb).take count))/\bW w w':=by
 obtain ⟨n,HN⟩:∃ n:Nat,b9 (9<=n):=⟨9,TV _⟩;have H0:=a6 K M h Q O;clear K M h Q O;refine (Vd (n:=n)).1 ?_;refine Wh func102 rfl trivial ?_ rfl;simp only [ntmps102,UH,UA,UV,YH,YI,Vg,Vh,Vj,Vk,Uq,US];obtain ⟨i0,kv,qg,q5,qh⟩:=Uu Tryz.Sr;have hq:(w.alloc (Z4 #[Z7 Z9 (count:Int)] 3)).heap.size=w.heap.size+1:=ek
 have kp:bW w (w.alloc (Z4 #[Z7 Z9 (count:Int)] 3)):=bA w _;have kk:ZM (w.alloc (Z4 #[Z7 Z9 (count:Int)] 3)) w.heap.size 3 (Z7 Z9 (count:Nat)):=Us w _ _;have z:=aE hq kp kk;clear hq kp kk;gi_wp2_with (gi_at_make;refine wpListIn_make_own _ rfl (.const (Z7 Z9 0)) (Z0 8) 48 rfl (w.heap.size+1) 3 i0 (Z7 Z9 0) 1 abB kv qg q5 .i64 .i64 _ count um um rfl (by rw [qh];omega) eD (by rw [z.o.1];exact TV _) ?_;intro w2 V hv)
 rw [z.o.1] at V;have ki:=hv.size;rw [z.o.1] at ki;have qi:w.heap.size+1<w2.heap.size:=(V.lt (w.heap.size+1) rfl).2;have hh:bW w w2:=z.o.2.1.grown hv (by rw [z.o.1];omega) (λk e=>Y4);have h8:ZM w2 w.heap.size 3 (Z7 Z9 (count:Nat)):=(hv.block _ (by rw [z.o.1];omega) ek).trans z.o.2.2;have h2:ZM (w2.alloc (Z4 #[Z5 (ZV ⟨w.heap.size+1,0,ZW⟩) 0 count] 48)) w2.heap.size 48 (Z5 (ZV ⟨w.heap.size+1,0,ZW⟩) 0 count):=Us w2 _ _;have Y:bW w2 (w2.alloc (Z4 #[Z5 (ZV ⟨w.heap.size+1,0,ZW⟩) 0 count] 48)):=bA w2 _;have hx:(w2.alloc (Z4 #[Z5 (ZV ⟨w.heap.size+1,0,ZW⟩) 0 count] 48)).heap.size=w2.heap.size+1:=ek
 obtain ⟨d,q0⟩:=nM (w2.alloc (Z4 #[Z5 (ZV ⟨w.heap.size+1,0,ZW⟩) 0 count] 48));rw [q0] at h2 Y hx ⊢;refine cd (Cp ar d) ?_;rintro e w' ⟨rfl,rfl⟩;have h5:(d.alloc (Z4 #[Z6 (ZV ⟨ar,0,ZW⟩)] 103)).cell? ⟨d.heap.size,0,ZW⟩=ZV (Z6 (ZV ⟨ar,0,ZW⟩)):=(Us d _ _).cell;have q6:(d.alloc (Z4 #[Z6 (ZV ⟨ar,0,ZW⟩)] 103)).heap.size=d.heap.size+1:=ek
 have k0:bW d (d.alloc (Z4 #[Z6 (ZV ⟨ar,0,ZW⟩)] 103)):=bA d _;obtain ⟨g,S⟩:=nM (d.alloc (Z4 #[Z6 (ZV ⟨ar,0,ZW⟩)] 103));have U:bW w2 g:=by rw [<- S];exact Y.trans (k0.mono Y.size)
 have ha:bW w g:=hh.trans (U.mono ec);have kx:QV w w2.heap.size count g.heap.size [] g:=⟨(U.block _ ec).trans h8,by rw [<- S];exact (k0.block _ ec).trans h2,aq V U,ha,TV _,T8 _⟩;have kz:g.heap.size=w2.heap.size+2:=by rw [<- S,q6,hx]
 have R:=a6 h5 kx ha hx kz;clear h5 kx q6 k0 U ha kz h2 Y hx V hv hh h8;gi_wp2;rw [S] at R;clear S q0;obtain ⟨qj,qk,qm,qn⟩:d.heap.size<=w2.heap.size+1/\w2.heap.size+1<=d.heap.size/\g.heap.size<=w2.heap.size+2/\w2.heap.size+2<=g.heap.size:=e9 R.out.2.2.2
 have C:=R.out.2.2.1;obtain ⟨K,M,h,Q,O⟩:=H0.o;have hz:∀ {v:ZR} {l:a8},bf (λk=>k<w.heap.size) g v l->bf (λk=>k<g.heap.size) g v l:=λ⟨ao,c,q1,q2,q3⟩=>⟨ao,c,q1,q2,λhl=>by obtain ⟨b,off,r1,r2,r3⟩:=q3 hl;exact ⟨b,off,r1,T7 r2 C.size,r3⟩⟩;have ko:=hz (Q.keep (ef.RM C));have km:eN (λk=>k<g.heap.size) g ob os:=by
  obtain ⟨ao,c,q1,q2,q3⟩:=O.keep (ef.RM C);refine ⟨ao,c,q1,q2,λhl=>?_⟩;obtain ⟨b,off,r1,r2,r3,r4⟩:=q3 hl;refine ⟨b,off,r1,T7 r2 C.size,r3,λi a=>?_⟩;obtain ⟨sv,s1,s2,s3,s4⟩:=r4 i a;exact ⟨sv,s1,s2,s3,hz s4⟩
 have ke:=EU (K.keep (C.block _ K.lt)) (M.keep (C.block _ M.lt)) (h.below C lR) hn P os ko km (n-1) d.heap.size ec R.out.1;obtain ⟨fr,k7⟩:=nM (aZ (tk A.nb (P++af os)).1 A.nb);rw [k7] at ke;have kj:=ak k7;have q9:=ak ke;clear k7 ke ko km hz K M h Q O;refine Wi rfl (e9 HN.o) (gf:=171) (lb:=#[Z6 (ZV ⟨d.heap.size,0,ZW⟩)]) rfl trivial (U5 func171 ei rfl)
  q9.out (λh k=>h.trans k) (λW l o o' hl ho hc _=>⟨Ok,λk o2 _ m ks=>(UP (λe=>by subst e;rw [m] at ho;cases ho;rw [hc] at ks;cases ks)).trans m⟩) (TW _ _) (λ_=>rfl)
  (QV w w2.heap.size count g.heap.size) (TaX w w2.heap.size count g.heap.size 0) (QV.Tf ec ec) (TaX.Tf ec ec) R.out.2.1
  (λx=>{ tmps:=#[Z6 (ZV ⟨ar,0,ZW⟩),Z7 Z9 (count:Nat),ZX,Z6 (ZV ⟨w.heap.size,0,ZW⟩),Z5 ZW 0 0,Z1 ZT,Z6 (ZV ⟨w2.heap.size,0,ZW⟩),Z7 Z9 (x:Nat),Z7 Z9 (count:Nat),Z5 (ZV ⟨w.heap.size+1,0,ZW⟩) 0 count,Z6 (ZV ⟨ar,0,ZW⟩),.func (.func 171) #[] #[Z6 (ZV ⟨d.heap.size,0,ZW⟩)],Z7 Z9 (x:Nat),ZX,ZX,ZX,ZX,ZX,ZX,ZX,ZX,ZX,ZX,ZX,ZX,ZX],defers:=[] }) ?assign ?body ?done ?stop
 case assign=>
  intro l2 x X Kk hK;unfold nr;gi_wp2;exact hK
 case body=>
  rintro l2 pre x X a qd;have c1:=a.cnt.cell;have I:=a.box.cell;have ka:=a.le;by_cases h3:pre.length=count
  . have e1:((pre.length:Nat):Int)=((count:Nat):Int):=ec;have B:=ak a;clear a;rw [h3] at I;gi_wp2;exact ⟨Yk _ _,rfl,pre,x,rfl,h3,B.o⟩
  . have e1:¬ ((pre.length:Nat):Int)=((count:Nat):Int):=ec;obtain ⟨pl,H⟩:=nM (pre.length);have HO:b9 ((X.alloc (Z4 #[Z7 Z9 (x:Nat)] 3)).ownsRow (w.heap.size+1) 3 1 (Z5 (ZV ⟨w.heap.size+1,0,ZW⟩) pl count) pl (jZ pre)):=ak (by have:=aq a.own ((TW _ X).alloc lR (Z4 #[Z7 Z9 (x:Nat)] 3));rwa [H] at this);have hj:∀ j u,[Value.int .i64 ((x:Nat):Int)][j]?=ZV u->(X.alloc (Z4 #[Z7 Z9 (x:Nat)] 3)).cell? ((⟨X.heap.size,0,ZW⟩:Addr).add j)=ZV u:=nT X (Z7 Z9 (x:Nat)) 3;have q8:=ak hj;have qf:w2.heap.size<X.heap.size:=(e9 a.size);have B:=al a H;rw [H] at I e1 ka;have kr:ZM X w2.heap.size 48 (Z5 (ZV ⟨w.heap.size+1,0,ZW⟩) pl count):=(by have:=a.box;rwa [H] at this);have q7:=ak kr;clear a hj kr h3 H;gi_wp2_with (
     gi_at_builtin;
     refine wpListIn_append_fits _ rfl (Z0 17) (Z0 19) 48 rfl (w.heap.size+1) 3 i0 1 abB kv q5 (w.heap.size+1) pl count (jZ pre) um (by exact HO.o) ⟨X.heap.size,0,ZW⟩ 1 1 [Z7 Z9 (x:Nat)] um rfl (by exact q8.out) (λu hu=>by simp at hu;subst hu;rfl) ec ?_;
     intro T hm J;
     have hy:ZM T w2.heap.size 48 (Z5 (ZV ⟨w.heap.size+1,0,ZW⟩) pl count):=(J.block _ en (λe=>e9 (UM e))).trans ((UF _ _ _ qf).trans q7.out);
     have d0:=hy.cell;
     have f0:=hy.frozen)
    obtain ⟨a,H⟩:=B.o;have Z:∀ k,k<X.heap.size->k≠w.heap.size+1->T.heap[k]?=X.heap[k]?:=λk m qe=>(J.block k en (λe=>qe (UM e))).trans (UF _ _ _ m);have kf:=J.size;simp only [Ul] at kf;have k8:∀ k,k≠w2.heap.size->(T.setCell ⟨w2.heap.size,0,ZW⟩ (Z5 (ZV ⟨w.heap.size+1,0,ZW⟩) (pl+1) count)).heap[k]?=T.heap[k]?:=λk m=>Ud _ _ _ _ m;have h4:(pre++[x]).length=pl+1:=(by rw [Ua,H];rfl);have k9:jZ (pre++[x])=jZ pre++[Z7 Z9 (x:Nat)]:=(by unfold jZ;rw [Uw];rfl);refine ⟨⟨Zc,λk o m ho _=>?_⟩,⟨Zc,λk o m ho _=>?_⟩,?_,?_,?_,?_,?_,?_⟩
    . exact ((k8 k ec).trans (Z k (TX.1 ho).1 ec)).trans ho
    . exact ((k8 k ec).trans (Z k (TX.1 ho).1 ec)).trans ho
    . exact ((k8 _ ec).trans (Z _ ec ec)).trans a.cnt
    . rw [h4];exact hy.set _
    . rw [h4,k9];exact hm.kept (tL T w2.heap.size 0 _) (.inr λe=>by have q:w.heap.size+1=w2.heap.size:=UM e;omega)
    . refine Xs (p:=⟨w2.heap.size,0,ZW⟩) ?_ (by show w.heap.size<=w2.heap.size;omega) _;exact ⟨J.os.trans a.below.os,J.tape.trans a.below.tape,J.output.trans a.below.output,e9 a.below.size,λk m=>(Z k (e9 a.below.size) ec).trans (a.below.block k m)⟩
    . have:=a.size;simp [World.setCell];omega
    . rw [h4];omega
 case done=>
  rintro D1 xs X qa q4 a hK;have kh:xs=fr:=q4;subst kh;have c1:=a.cnt.cell;have I:=a.box.cell;have ka:=a.le;have B:=al a hK;clear a hK q4;obtain ⟨xl,N⟩:=nM (xs.length);rw [N] at I ka;have HL:=ak N;clear N;gi_wp2;gi_region
  gi_wp2;obtain ⟨a,hK⟩:=B.o;have N:=HL.o;have E:X.drew.heap[D1]?=ZV (.deferred (ZV [])):=hK;have kg:xs.take count=xs:=UI ec;have qb:decide (count<=xs.length)=(((xl:Nat):Int)==((count:Nat):Int)):=by
   by_cases e:xl=count
   . rw [UZ ec];subst e;simp
   . rw [Vr ec];have:¬ ((xl:Nat):Int)=((count:Nat):Int):=by omega
     simp [this]
  rw [kj.out,kg,qb];refine tX (t:=4) (u:=5) (x:=Z5 (ZV ⟨w.heap.size+1,0,ZW⟩) xl count) (y:=Z1 (((xl:Nat):Int)==((count:Nat):Int))) results102 rfl rfl rfl E ⟨_,rfl,?_,?_⟩
  . have ho:=a.own;rw [N] at ho;have kb:X.drew.ownsRow (w.heap.size+1) 3 1 (Z5 (ZV ⟨w.heap.size+1,0,ZW⟩) xl count) xl (jZ xs):=aq ho ((TW _ X).drew);rw [N];exact cV (lG kb (Xh X.drew D1 (.deferred ZW)) λr e=>by cases e;exact ⟨_,E,rfl⟩) ec
  . exact Below.RO a.below.drew ec (TX.1 E).1 _
 case stop=>
  rintro D1 cc pre X qa kc ⟨rfl,s,x,rfl,k5,a⟩ hK;have c1:=a.cnt.cell;have I:=a.box.cell;have B:=al a hK;rw [k5] at I;clear a hK;gi_wp2;gi_region
  gi_wp2;obtain ⟨a,hK⟩:=B.o;have E:X.drew.heap[D1]?=ZV (.deferred (ZV [])):=hK;obtain ⟨rr,ky⟩:=kc;have kg:fr.take count=s:=by rw [<- ky,Uz,VW ec,UI ec]
  have qc:count<=fr.length:=by rw [<- ky];simp;omega
  rw [kj.out,kg,UZ qc];refine tX (t:=4) (u:=5) (x:=Z5 (ZV ⟨w.heap.size+1,0,ZW⟩) count count) (y:=Z1 ZU) results102 rfl rfl rfl E ⟨_,rfl,?_,?_⟩
  . have ho:=a.own;rw [k5] at ho;have kb:X.drew.ownsRow (w.heap.size+1) 3 1 (Z5 (ZV ⟨w.heap.size+1,0,ZW⟩) count count) count (jZ s):=aq ho ((TW _ X).drew);rw [k5];exact cV (lG kb (Xh X.drew D1 (.deferred ZW)) λr e=>by cases e;exact ⟨_,E,rfl⟩) ec
  . exact Below.RO a.below.drew ec (TX.1 E).1 _
end
theorem wC (h ao:Option Addr) (cap a c:Nat) (w:ZS) (n:c<256) :
 ZP ZK 179 #[.slice h 0 cap,.slice ao 0 a,Z7 .u8 c] w λe w'=>e=Z3 (ZY #[])/\bW w w':=by
 by_cases d:c=0
 . subst d;go_enter func179,ntmps179;go_wp2;exact Ut (v:=ZY #[]) Zr rfl ⟨rfl,TW _ _⟩
 . have p:((c:Int)==0)=ZT:=vy;clear d;go_enter func179,ntmps179;go_wp2_with fail;refine (lB c n _).mono ?_;rintro e w1 ⟨cs,rfl,m,f,b⟩;have l:=b.size;go_wp2_with (refine np _ rfl (Z0 6) (Z0 11) rfl w1.heap.size c cs _ rfl rfl (UC w1 _) rfl m f ?_;intro w2 i g);have j:bW w w2:=by
    refine (b.trans ((TW _ _).alloc l _)).grown g B8 (λk o=>by simp at o;omega)
   clear g i f b;refine VH 1 ?_;rw [Vz];go_wp2;go_end0
   exact ⟨rfl,j⟩
def Ag (b ao:Option Addr) (n m cap a c:Nat) (w:ZS) (g:n=0) (f:m=0) (d:c<256) :
 ZP ZK 179 #[.slice b n cap,.slice ao m a,Z7 .u8 c] w λe w'=>e=Z3 (ZY #[])/\bW w w':=by
 subst g f;exact wC b ao cap a c w d
def Ou (row:a8) (D:List a8):Nat->Nat->Nat
 | 0,_=>0
 | t+1,k=>Ou row D t k^^^gm (row.getD t 0) ((D.getD t []).getD k 0)
def cI (row:a8) (D:List a8) (n t:Nat):a8:=(YE n).map (Ou row D t)
def gh (row:a8) (D:List a8) (n t:Nat):(cI row D n t).length=n:=by simp [cI]
theorem Cq (row:a8) (D:List a8) (n:Nat):cI row D n 0=YF n 0:=by
 unfold cI;apply Vc
 . simp
 . intro j a b;simp [Ou]
def QW (row:a8) (D:List a8) (a:∀ x∈row,x<256) (t k:Nat):Ou row D t k<256:=by
 induction t with
 | zero=>exact (by decide:(0:Nat)<256)
 | succ t ih=>exact rO ih (bu _ (dm a t))
def pU (row:a8) (D:List a8) (a:∀ x∈row,x<256) (n t:Nat):∀ x∈cI row D n t,x<256:=by
 intro x b;obtain ⟨k,_,rfl⟩:=T9.1 b;exact QW row D a t k
def tY (row:a8) (D:List a8) (n t k:Nat) (a:k<n):(cI row D n t).getD k 0=Ou row D t k:=by simp [cI,a]
def Cr (row:a8) (D:List a8) (n t j:Nat) (a:j<n) :
 tv (gU (λi=>(cI row D n t).getD i 0) (λi=>(D.getD t []).getD i 0) (row.getD t 0) 0 n) j=vb (cI row D n (t+1)) j:=by
 unfold tv vb gU;rw [TT ec,tY _ _ _ _ _ a];show Value.int .u8 (((cI row D n t).getD j 0^^^gm (row.getD t 0) ((D.getD t []).getD (j-0) 0):Nat):Int)=_;rw [tY _ _ _ _ _ a,Yt];rfl
def CbR (w:ZS) (row:a8) (D:List a8) (n:Nat) (i:ZR) (wr:ZS):Prop:=
 ∃ t:Nat,t<=row.length/\i=Z7 Z9 t/\aM wr w.heap.size (cI row D n t)/\bW w wr
theorem Cs (vr vd:ZR) (row:a8) (D:List a8) (n:Nat) (w:ZS) (T:Bs w vr row) (hd:Rd w vd D) (hn:n<=4096) (y:∀ i (S:i<D.length),(D[i]).length=n) (r:row.length=D.length) (A:0<D.length) :
 ZP ZK 204 #[vr,vd] w λe w'=>∃ b,e=Z3 (Z5 (ZV ⟨b,0,ZW⟩) n n)/\w.heap.size<=b/\aM w' b (cI row D n D.length)/\bW w w':=by
 have kc:=T.lt;obtain ⟨ao,cr,rfl,h1,h2,_,M⟩:=T;obtain ⟨rb,h,rfl,kb⟩:=M (by intro e;rw [e] at r;simp at r;omega);rcases hd.cases with ⟨rfl,_⟩|⟨b,off,c,rfl,hl,B⟩
 . simp at A
 obtain ⟨u0,G,kf⟩:=B 0 A;obtain ⟨km,c0,rfl,l1,l2,_,_⟩:=kf;have f:=y 0 A;rw [f] at G;have HR:=ak kb;have HC:=ak B;have J:=ak y;have N:=ak r;clear kb B y r h1 h2 M f l1 l2;rw [VR] at G;go_enter func204,ntmps204;go_wp2_with (at_make;refine cP _ rfl (Z0 11) (Z0 11) rfl _ n rfl rfl rfl ec ?_;intro w1 z O hz;clear hz);rw [<- Cq row D n] at z;clear G;go_loopw [15] (λi wr=>CbR w row D n i wr) (λi _=>row.length-(intOf i).toNat)
 case atStart=>exact ⟨0,T8 _,rfl,z,O⟩
 case round=>
  clear z O;rename ZS=>wo;obtain ⟨t,ht,rfl,d,g⟩:=hrel;have kk:=d.lt;by_cases k9:t<row.length
  . have s:t<D.length:=(by rw [<- N.out];exact k9);have c1:=HR.o t k9;have ko:wo.cell? ⟨rb,h+t,ZW⟩=ZV (Z7 .u8 ((row.getD t 0:Nat):Int)):=(by rw [g.cell (Uf c1)];exact c1);obtain ⟨u,H,kg⟩:=HC.o t s;obtain ⟨fo,L,rfl,q1,q2,q3,I⟩:=kg;have kj:wo.cell? ⟨b,off+t,ZW⟩=ZV (.slice fo (D[t]).length L):=(by rw [g.cell (Uf H)];exact H);rw [J.o t s] at kj;have Z:=dm kc t;have k7:D.getD t []=D[t]:=(by simp [s]);have q:=Cr row D n t;rw [k7] at q;have X:=J.o t s;have k:=ak X;generalize D[t]=l at *;generalize ki:row.getD t 0=x at *;clear c1 H k7 ki X;by_cases f:n=0
    . have P:aM wo w.heap.size (cI row D n (t+1)):=(by rw [f] at d ⊢;exact d);have HN:=ak f;clear q I d f;go_wp2_with fail;refine (Ag _ _ _ _ _ _ x _ HN.o HN.o Z).mono ?_;rintro e w2 ⟨rfl,E⟩;have C:=P.below E;have F:=g.trans (E.mono ec);clear P E;go_wp2;go_roundw
      case rel=>exact ⟨t+1,ec,eT,C,F⟩
      case measure=>simp [intOf];omega
    . obtain ⟨m,a,rfl,v⟩:=I (by intro e;rw [e] at k;exact f k.o.symm);rw [k.o] at v;have kh:m<w.heap.size:=Uf (v 0 ec);have Q:∀ i,i<n->wo.cell? ⟨m,a+i,ZW⟩=ZV (Z7 .u8 ((l.getD i 0:Nat):Int)):=λi S=>by
       rw [g.cell (p:=⟨m,a+i,ZW⟩) kh];exact v i S
      have R:wo.rowIs w.heap.size 5 n (tv (λi=>(cI row D n t).getD i 0)):=by
       have:=d;unfold aM at this;rw [gh] at this;exact this
      have K:=ak q;have HF:=ak Q;have W:=ak R;have k8:=λj=>dm (pU row D kc n t) j;have Y:=λj=>dm q3 j;have V:=ak k8;have U:=ak Y;clear q v Q R d I k8 Y k;go_wp2_with fail;refine (jt w.heap.size 5 n 0 n n m a L x (λi=>(cI row D n t).getD i 0) (λi=>l.getD i 0) wo Z W.out V.out U.out ec ec HF.o (.inl ec)).mono ?_;rintro e w2 ⟨rfl,ka,k6⟩;have C:aM w2 w.heap.size (cI row D n (t+1)):=by
       unfold aM;rw [gh];exact ka.congr (λj hj=>K.o j hj)
      have F:=gE g k6 ec lR;clear ka k6 K HF W V U;go_wp2;go_roundw
      case rel=>exact ⟨t+1,ec,eT,C,F⟩
      case measure=>simp [intOf];omega
  . have ke:t=D.length:=(by rw [<- N.out];omega);rw [ke] at d;clear ke;go_wp2;go_ret;exact ⟨w.heap.size,rfl,TV _,d,g⟩
def Ct (D:List a8) (l:a8):Prop:=l.length=(D.getD 0 []).length/\l.length<=4096
def Fit (D:List a8):Prop:=∀ i (hi:i<D.length),Ct D D[i]
def EvR (D:List a8) (i:ZR):Prop:=∃ k:Nat,k<=D.length/\i=Z7 Z9 k/\∀ j (hj:j<D.length),j<k->Ct D D[j]
def QX (D:List a8) (w:ZS) (e:ZO) (w':ZS):Prop:=∃ r:Bool,e=Z3 (Z1 r)/\(r=ZU↔Fit D)/\w'=w
theorem Ls (v:ZR) (D:List a8) (w:ZS) (E:Rd w v D) (g:0<D.length) :
 ZP ZK 203 #[v] w λe w'=>QX D w e w':=by
 rcases E.cases with ⟨rfl,_⟩|⟨b,off,c,rfl,hl,l⟩
 . simp at g
 obtain ⟨u0,s,B⟩:=l 0 g;obtain ⟨z,c0,rfl,l1,G,_,_⟩:=B;have q:(D.getD 0 []).length=(D[0]).length:=by simp [g]
 have A:(D[0]).length<=140737488355328:=ec
 rw [<- q] at s A;rw [VR] at s;have x:=ak l;clear l l1 G q;go_enter func203,ntmps203;go_wp2;go_loop [7] (λi=>EvR D i) (λi=>D.length-(intOf i).toNat)
 case atStart=>exact ⟨0,T8 _,rfl,λj m h=>absurd h ec⟩
 case round=>
  obtain ⟨k,M,rfl,d⟩:=hrel;by_cases r:k<D.length
  . obtain ⟨u,N,C⟩:=x.o k r;obtain ⟨J,I,rfl,n,p,_,_⟩:=C;have L:(D[k]).length<=140737488355328:=ec;by_cases a:Ct D D[k]
    . have t1:((((D[k]).length:Nat):Int) != (((D.getD 0 []).length:Nat):Int))=ZT:=(by rw [a.1];simp);have H:¬ (4096:Int)<(((D[k]).length:Nat):Int):=(e9 a.2);have y:b9 (∀ j (m:j<D.length),j<k+1->Ct D D[j]):=by
       intro j m K;by_cases e:j=k
       . subst e;exact a
       . exact d j m ec
      generalize (D.getD 0 []).length=n0 at *;generalize (D[k]).length=t at *;clear d a n p;go_wp2;go_round
      case rel=>exact ⟨k+1,ec,eT,y.o⟩
      case measure=>simp [intOf];omega
    . have HN:b9 (¬ Fit D):=λh=>a (h k r);by_cases f:(D[k]).length=(D.getD 0 []).length
      . have t1:((((D[k]).length:Nat):Int) != (((D.getD 0 []).length:Nat):Int))=ZT:=(by rw [f];simp);have H:(4096:Int)<(((D[k]).length:Nat):Int):=by
         have:¬ (D[k]).length<=4096:=λh=>a ⟨f,h⟩;omega
        generalize (D.getD 0 []).length=n0 at *;generalize (D[k]).length=t at *;clear d a f n p;go_wp2;go_ret;exact ⟨ZT,rfl,⟨λh=>by simp at h,λh=>absurd h HN.o⟩,rfl⟩
      . have t1:((((D[k]).length:Nat):Int) != (((D.getD 0 []).length:Nat):Int))=ZU:=Zl;generalize (D.getD 0 []).length=n0 at *;generalize (D[k]).length=t at *;clear d a f n p;go_wp2;go_ret;exact ⟨ZT,rfl,⟨λh=>by simp at h,λh=>absurd h HN.o⟩,rfl⟩
  . have HF:b9 (Fit D):=λi F=>d i F ec;clear d;go_wp2;go_ret;exact ⟨ZU,rfl,⟨λ_=>HF.o,λ_=>rfl⟩,rfl⟩
def QY (w0:ZS) (base D N:Nat) (M:Nat->List a8) (v i:ZR) (wr:ZS):Prop:=
 ∃ k T,k<=N/\i=Z7 Z9 (k:Nat)/\eh wr base v T/\cM T D (M k)/\ZQ base w0 wr/\base<=wr.heap.size
theorem wD (D L G:Nat) (hr:cW D L G=ZU) (hD:D<=12) (hL:1<=L) (kr:L<=4) (hG:G<=4) (k7:D%L=0) (w:ZS) :
 ZP ZK 42 #[.agg #[Z7 Z9 D,Z7 Z9 L,Z7 Z9 G]] w λe w'=>∃ v T,e=Z3 (ZY #[v,Z7 Z9 0])/\eh w' (w.heap.size+1) v T/\cM T D (aT D L G)/\bW w w':=by
 obtain ⟨Y,Z,ka,kb,kc⟩:=Uu Tryz.RU;have kf:=λg (X:g<L)=>BM (D:=D) k7 X;have hq:D/L<=D:=VV _ _;have hp:∀ g,dw D L g=eY D (g*(D/L)) ((g+1)*(D/L)):=λ_=>rfl;have e1:wrap64 ((D:Int)/(L:Int))=((D/L:Nat):Int):=by
  rw [<- Ya];exact iG ec
 obtain ⟨q,V⟩:∃ q,q=D/L:=⟨_,rfl⟩;rw [<- V] at e1 hq;have HF:b9 (∀ g,dw D L g=eY D (g*q) ((g+1)*q)):=by intro g;rw [V];exact hp g
 have kj:b9 (∀ g,g<L->(g+1)*q<=D):=by intro g X;rw [V];exact kf g X
 clear hp kf V;go_enter func42,ntmps42;go_wp2_with fail;refine (Ed D L G _).mono ?_;rintro e wa ⟨rfl,F⟩;try change ZQ _ _ _ at F
 rw [Uh] at F;have kh:=F.size;try change ZQ _ _ _ at kh
 rw [Uh] at kh;obtain ⟨H,I,J⟩:=cQ F;go_wp2_with fail;go_loopw [5,6] (λv i wr=>QY (w.alloc (Z4 #[Z7 Z9 D,Z7 Z9 L,Z7 Z9 G] 70)) (w.heap.size+1) D D (λk=>[]++(YE k).map (dh D)) v i wr) (λ_ i _=>D-(intOf i).toNat)
 case atStart=>exact ⟨0,[],T8 _,rfl,eh.nil _ _,cM.nil D,F,kh⟩
 case round=>
  clear F H I J;rename ZS=>wo;obtain ⟨k,T,N,rfl,b,n,c,h⟩:=hrel;obtain ⟨H,I,J⟩:=cQ c;have r:=ak n;have z:=n.length;simp only [Uq,Ue,Vp] at z;have S:T.length<=20:=ec
  clear z n;by_cases E:k<D
  . go_wp2_with (first
     | (at_make;refine cP _ rfl (Z0 26) (Z0 26) rfl D D rfl rfl rfl ec ?_;intro w1 m hb R;clear R;have hc:=m.cell k (oD E);have hf:=m.frozen k;have A:=m.set k 1;have a:=hb.setCell (p:=⟨wo.heap.size,k,ZW⟩) ek (Z7 .u8 1))
     | (at_builtin;refine WM _ rfl (Z0 31) (Z0 33) 108 rfl (w.heap.size+1) 40 Y (Z5 ZW 0 0) 1 24 VS Z ka kb kc rfl ee _ T.length (T.map fX) rfl ((b.below a).alloc _).own ⟨w1.heap.size,0,ZW⟩ 1 1 [Z5 (ZV ⟨wo.heap.size,0,ZW⟩) D D] rfl rfl (l9 _ _ ek _ _) B9 eD ec Y8  ?_;intro v' w2 y d Q))
    have O:=eh.append b a h lR A (BO D k) ec d y;have l:=r.o.push wo.heap.size (dh D k);have u:=dM b c a h d;have C:=d.size;have kg:=a.size;try change ZQ _ _ _ at C
    rw [Uh] at C;rw [Uz,<- gd] at l;have K:=ak l;clear b y d Q A a c l;go_roundw
    case rel=>exact ⟨k+1,T++[(wo.heap.size,D,dh D k)],ec,eT,O,K.out,u,ec⟩
    case measure=>simp [intOf];omega
  . have P:D=k:=ec;clear E N;subst P;go_wp2_with fail;go_loopw [5,9] (λv i wr=>QY (w.alloc (Z4 #[Z7 Z9 D,Z7 Z9 L,Z7 Z9 G] 70)) (w.heap.size+1) D L (λk=>(YE D).map (dh D)++(YE k).map (dw D L)) v i wr) (λ_ i _=>L-(intOf i).toNat)
    case atStart=>exact ⟨0,T,T8 _,rfl,b,by dsimp only;rw [abm,Wr,Ws];exact r.o,c,h⟩
    case round=>
     clear b c H I J r h S;rename ZS=>wo;obtain ⟨k,T,N,rfl,b,n,c,h⟩:=hrel;obtain ⟨H,I,J⟩:=cQ c;have r:=ak n;have z:=n.length;simp only [Ua,Ue,Vp] at z;have S:T.length<=20:=ec;clear z n;by_cases E:k<L
     . have ks:=kj.out k E;have ke:=HF.o k;have kk:k*q<=(k+1)*q:=W0 _ ec;have e2:wrap64 ((k:Int)*(q:Int))=((k*q:Nat):Int):=by
        rw [<- XJ];exact iG ec
       have e3:wrap64 (((k:Int)+1)*(q:Int))=(((k+1)*q:Nat):Int):=by
        have:((k:Int)+1)*(q:Int)=(((k+1)*q:Nat):Int):=by push_cast;rfl
        rw [this];exact iG ec
       generalize k*q=s at *;generalize (k+1)*q=t at *;have ki:=ak ke;have E2:=ak e2;have W:=ak e3;clear ke e2 e3;go_wp2_with (at_make;refine cP _ rfl (Z0 47) (Z0 47) rfl D D rfl rfl rfl ec ?_;intro w1 m a R;clear R);rw [<- mS D s] at m;go_loopw [11] (λi wi=>∃ j:Nat,s<=j/\j<=t/\i=Z7 Z9 j/\aM wi wo.heap.size (eY D s j)/\bW wo wi) (λi _=>t-(intOf i).toNat)
       case atStart=>exact ⟨s,TV _,kk,by rw [E2.out],m,a⟩
       case round=>
        clear m a;obtain ⟨j,km,ko,rfl,f,B⟩:=hrel;by_cases U:j<t
        . have ht:(j:Int)<wrap64 (((k:Int)+1)*(q:Int)):=(by rw [W.out];omega);have hc:=f.cell j (by simp [eY];omega);have hf:=f.frozen j;have M:=f.set j 1;rw [nZ _ _ _ km] at M;have u:=B.setCell (p:=⟨wo.heap.size,j,ZW⟩) ek (Z7 .u8 1);go_wp2;go_roundw
          case rel=>exact ⟨j+1,ec,ec,eT,M,u⟩
          case measure=>simp [intOf];omega
        . have ht:¬ (j:Int)<wrap64 (((k:Int)+1)*(q:Int)):=(by rw [W.out];omega);have k9:t=j:=ec;clear U ko W;subst k9;rw [<- ki.out] at f;have A:=f;have a:=B;clear f B;go_wp2_with (at_builtin;refine WM _ rfl (Z0 63) (Z0 65) 108 rfl (w.heap.size+1) 40 Y (Z5 ZW 0 0) 1 24 VS Z ka kb kc rfl ee _ T.length (T.map fX) rfl ((b.below a).alloc _).own ⟨wr.heap.size,0,ZW⟩ 1 1 [Z5 (ZV ⟨wo.heap.size,0,ZW⟩) D D] rfl rfl (l9 _ _ ek _ _) B9 eD ec Y8  ?_;intro v' w2 y d Q);have O:=eh.append b a h lR A (xK D L k) ec d y;have l:=r.o.push wo.heap.size (dw D L k);have u:=dM b c a h d;have C:=d.size;have kg:=a.size;try change ZQ _ _ _ at C
          rw [Uh] at C;rw [Uz,<- gd] at l;have K:=ak l;clear b y d Q A a c l;go_roundw
          case rel=>exact ⟨k+1,T++[(wo.heap.size,D,dw D L k)],ec,eT,O,K.out,u,ec⟩
          case measure=>simp [intOf];omega
     . have P:L=k:=ec;clear E N;subst P;go_wp2_with fail;go_loopw [5,12] (λv i wr=>QY (w.alloc (Z4 #[Z7 Z9 D,Z7 Z9 L,Z7 Z9 G] 70)) (w.heap.size+1) D G (λk=>((YE D).map (dh D)++(YE L).map (dw D L))++(YE k).map (de D)) v i wr) (λ_ i _=>G-(intOf i).toNat)
       case atStart=>exact ⟨0,T,T8 _,rfl,b,by dsimp only;rw [abm,Wr,Ws];exact r.o,c,h⟩
       case round=>
        clear b c H I J r h S;rename ZS=>wo;obtain ⟨k,T,N,rfl,b,n,c,h⟩:=hrel;obtain ⟨H,I,J⟩:=cQ c;have r:=ak n;have z:=n.length;simp only [Ua,Ue,Vp] at z;have S:T.length<=20:=ec;clear z n;by_cases E:k<G
        . go_wp2_with (at_make;refine cP _ rfl (Z0 74) (Z0 74) rfl D D rfl rfl rfl ec ?_;intro w1 m a R;clear R);rw [<- lC D k] at m;go_loopw [14] (λi wi=>∃ j:Nat,j<=D/\i=Z7 Z9 j/\aM wi wo.heap.size (ew D k j)/\bW wo wi) (λi _=>D-(intOf i).toNat)
          case atStart=>exact ⟨0,T8 _,rfl,m,a⟩
          case round=>
           clear m a;obtain ⟨j,hj,rfl,f,B⟩:=hrel;have k6:=cQ (c.trans (B.mono h));obtain ⟨b0,b1,b2⟩:=k6;by_cases U:j<D
           . have hc:=f.cell j (by simp [ew];omega);have hf:=f.frozen j;obtain ⟨kp,kv⟩:=BN D k j hD ec U;have M:=f.set j (gi ((D+k)^^^j));rw [mT] at M;have u:=B.setCell (p:=⟨wo.heap.size,j,ZW⟩) ek (Z7 .u8 (gi ((D+k)^^^j)));generalize (D+k)^^^j=x at *;go_wp2_with (go_at_call 63;refine (Bp x kp _).mono ?_;rintro e w' ⟨rfl,rfl⟩);go_roundw
             case rel=>exact ⟨j+1,ec,eT,M,u⟩
             case measure=>simp [intOf];omega
           . have k9:D=j:=ec;clear U hj;subst k9;rw [oe] at f;have A:=f;have a:=B;clear f B;go_wp2_with (at_builtin;refine WM _ rfl (Z0 93) (Z0 95) 108 rfl (w.heap.size+1) 40 Y (Z5 ZW 0 0) 1 24 VS Z ka kb kc rfl ee _ T.length (T.map fX) rfl ((b.below a).alloc _).own ⟨wr.heap.size,0,ZW⟩ 1 1 [Z5 (ZV ⟨wo.heap.size,0,ZW⟩) D D] rfl rfl (l9 _ _ ek _ _) B9 eD ec Y8  ?_;intro v' w2 y d Q);have O:=eh.append b a h lR A (tC D k hD ec) ec d y;have l:=r.o.push wo.heap.size (de D k);have u:=dM b c a h d;have C:=d.size;have kg:=a.size;try change ZQ _ _ _ at C
             rw [Uh] at C;rw [Uz,<- gd] at l;have K:=ak l;clear b y d Q A a c l;go_roundw
             case rel=>exact ⟨k+1,T++[(wo.heap.size,D,de D k)],ec,eT,O,K.out,u,ec⟩
             case measure=>simp [intOf];omega
        . have P:G=k:=ec;clear E N;subst P;go_wp2;go_ret2;refine ⟨_,rfl,T,b,r.o,?_⟩;exact (bA _ _).trans (c.mono ec)
section
open Go.ChangeShapes Go.WideShapes
def Tryz.own:ownKnob ZK.godebug=ZW:=ei
def Tryz.et:ZK.globalNamed "errors.errorType"=ZV 0:=ei
def Tryz.rt:(ZK.cutTypes.find? (λx=>x.1 == "internal/reflectlite.rtype")).map (λx=>x.2)=ZV 157:=ei
def Tryz.oneRow:((YE 379).filter λt=>ZK.rowNamed t [101,114,114,111,114])=[64]:=ei
def Tryz.size:ZK.types.size=379:=ei
def bK (w:ZS):Prop:=w.cell? ⟨0,0,ZW⟩=ZV (.iface 157 (.agg #[Z6 (ZV ⟨3,64,ZW⟩)]))
def tZ (h:laidMetH ZK [("errors.errorType",Rows.laid_errors_errorType)] W):bK W:=by
 have i:laidMet ZK [] W/\handlesMet ZK [("errors.errorType",Rows.laid_errors_errorType)] W:=h;obtain ⟨name,u,k,c,d,e,f,a⟩:=i.2 _ (U6.2 rfl);have g:name=[101,114,114,111,114]:=(UM c).symm;subst g;obtain rfl:=UM (Tryz.rt.symm.trans d);have b:k∈(YE 379).filter λt=>ZK.rowNamed t [101,114,114,111,114]:=Vq.2 ⟨Ur.2 (by rw [<- Tryz.size];exact e),f⟩;rw [Tryz.oneRow] at b;obtain rfl:=U6.1 b;have j:typeHandle ZK 64=Z6 (ZV ⟨3,64,ZW⟩):=ei
 rw [j] at a;unfold bK;simpa using World.var?_cell Tryz.et a 0
end
def fs (M:List a8) (D:List a8) (n:Nat):List a8:=M.map λrow=>cI row D n D.length
def mY (w:ZS) {ops:Array Oper} {rest:List Oper} {o:Oper} {a:Act} {Q:Exit->Act->ZS->Prop}
 (h:o.guard=ZW) (l c:ZL) (e:o.op=Op.makeSlice 108 l c) (C:Int) (n:Nat) (hl:a.eval l=Z7 Z9 C) (g:a.eval c=Z7 Z9 C) (f:C=(n:Int)) (i:n<=1000000)
 (hK:∀ w',w'.rowIs w.heap.size 40 n (λ_=>Z5 ZW 0 0)->bW w w'->w'.heap.size=w.heap.size+1->wpList ZK ops Q rest (a.put o.dst (Z5 (ZV ⟨w.heap.size,0,ZW⟩) n n)) w') :
 wpList ZK ops Q (o::rest) a w:=by
 refine V0 h λK d=>?_;have b:=XZ (P:=ZK) 108 40 (Z5 ZW 0 0) 24 VS Tryz.RU rfl .i64 .i64 n ec ec w;subst f;unfold Oper.wp;simp [execOp,e,hl,g,b,Result.andThen];exact d _ _ (hK _ (Xz w _ n _) (bA _ _) (Uh _ _))
def shv (T:List (Nat×Nat×a8)) (i:Nat):ZR:=if i<T.length then fX (T.getD i (0,0,[])) else Z5 ZW 0 0
structure oE (w:ZS) (base g N:Nat) (T:List (Nat×Nat×a8)):Prop where
 tab:w.rowIs g 40 N (shv T)
 row:∀ p∈T,base<=p.1/\aM w p.1 p.2.2/\p.2.1<=p.2.2.length/\(p.2.1<=140737488355328/\p.2.2.length<=9223372036854775807)/\∀ x∈p.2.2,x<256
 nodup:(T.map (λp=>p.1)).Nodup
def oE.below (h:oE w base g N T) (d:bW w w'):oE w' base g N T:=
 ⟨h.tab.of_block (d.block g h.tab.lt),λp e=>by obtain ⟨a,b,c⟩:=h.row p e;exact ⟨a,b.below d,c⟩,h.nodup⟩
theorem oE.push (h:oE w base g N T) (A:base<=b) (s:aM w b l) (B:n<=l.length) (hl:l.length<=140737488355328) (j:∀ x∈l,x<256) (v:∀ p∈T,p.1≠b) :
 oE (w.setCell ⟨g,T.length,ZW⟩ (Z5 (ZV ⟨b,0,ZW⟩) n l.length)) base g N (T++[(b,n,l)]):=by
 have r:∀ c m,aM w c m->c≠g:=by
  intro c m f e;obtain ⟨x,j,_⟩:=f;obtain ⟨y,D,_⟩:=h.tab;rw [e,D] at j;simp at j
 refine ⟨?_,λp d=>?_,?_⟩
 . refine (h.tab.set T.length (Z5 (ZV ⟨b,0,ZW⟩) n l.length)).congr λi E=>?_;unfold shv;by_cases e:i=T.length
   . subst e;simp [fX]
   . rw [TS e];by_cases k:i<T.length
     . rw [TT k,TT en];simp [VC k]
     . rw [TS k,TS en]
 . rcases Ui.1 d with d|d
   . obtain ⟨t,o,u⟩:=h.row p d;exact ⟨t,o.other (r _ _ o) _,u⟩
   . simp at d;subst d;exact ⟨A,s.other (r _ _ s) _,B,⟨Zo,by show l.length<=9223372036854775807;omega⟩,j⟩
 . rw [Uw,U9];refine ⟨h.nodup,ek,?_⟩;intro a z c f;obtain ⟨q,C,rfl⟩:=T9.1 z;simp at f;subst f;exact v q C
theorem oE.done (h:oE w base g N T) (d:N=T.length) (f:base<=g) (j:N<=maxLen):eh w base (Z5 (ZV ⟨g,0,ZW⟩) N N) T:=by
 subst d;refine ⟨⟨ek,.inr ?_⟩,h.row,h.nodup⟩;obtain ⟨c,e,l,k⟩:=h.tab;refine ⟨g,T.length,c,rfl,f,e,TV _,j,ec,?_⟩;apply Vc
 . simp;omega
 . intro i b a;simp at b a;have:=k i a;rw [VK ec] at this;simp at this;simp [this,shv,a]
def oE.lt (h:oE w base g N T):g<w.heap.size:=h.tab.lt
def EcR (w:ZS) (B g N n:Nat) (M D:List a8) (i:ZR) (wr:ZS):Prop:=
 ∃ k T,k<=N/\i=Z7 Z9 (k:Nat)/\oE wr B g N T/\cM T n (fs (M.take k) D n)/\ZQ B w wr/\B<=wr.heap.size
def QZ (w:ZS) (n:Nat) (M D:List a8) (x:ZR) (e:ZO) (w':ZS):Prop:=∃ v T,e=Z3 (ZY #[v,x])/\eh w' w.heap.size v T/\cM T n (fs M D n)/\bW w w'
def cM.at (h:cM T D M) {i:Nat} (a:i<T.length) (b:i<M.length):T[i].2=(D,M[i]):=by
 have:=List.getElem_of_eq h (i:=i) (oD a);simpa using this
def Lt (D L G:Nat):(aT D L G).length=D+L+G:=by simp [aT];omega
def Lu (D L G:Nat) {i:Nat} (b:i<(aT D L G).length):((aT D L G)[i]).length=D:=by
 have a:(aT D L G)[i]∈aT D L G:=T6 b;unfold aT at a;rcases Ui.1 a with a|a
 . rcases Ui.1 a with a|a
   . obtain ⟨j,_,e⟩:=T9.1 a;unfold aT;rw [<- e];simp [dh]
   . obtain ⟨j,_,e⟩:=T9.1 a;unfold aT;rw [<- e];simp [dw]
 . obtain ⟨j,_,e⟩:=T9.1 a;unfold aT;rw [<- e];simp [de]
def IH (M D:List a8) (n k:Nat) (a:k<M.length):fs (M.take (k+1)) D n=fs (M.take k) D n++[cI M[k] D n D.length]:=by
 unfold fs;rw [abn a,Uw];rfl
theorem EV (D L G:Nat) (hr:cW D L G=ZU) (qd:1<=D) (hD:D<=12) (hL:1<=L) (q0:L<=4) (hG:G<=4) (ka:D%L=0) (vd:ZR) (Dt:List a8) (w:ZS) (V:Rd w vd Dt) (A:Dt.length=D) (q:Fit Dt) :
 ZP ZK 189 #[.agg #[Z7 Z9 D,Z7 Z9 L,Z7 Z9 G],vd] w λe w'=>QZ w (Dt.getD 0 []).length (aT D L G) Dt .nilIface e w':=by
 have qf:(((Dt.length:Nat):Int) != (D:Int))=ZT:=by rw [A];simp
 have C:0<Dt.length:=ec
 obtain ⟨ao,c,rfl,hl,q6⟩:=id V;have q9:(Dt.getD 0 []).length<=4096:=by
  have:=(q 0 C);have Q:=this.2;rw [this.1] at Q;exact Q
 have X:∀ i (h:i<Dt.length),(Dt[i]).length=(Dt.getD 0 []).length:=λi h=>(q i h).1;generalize hn:(Dt.getD 0 []).length=n at *;have hv:=ak X;have HF:=ak q;have hy:=ak A;clear q6 hn X q A;go_enter func189,ntmps189;go_wp2_with fail;refine (kD D L G hr hD hL q0 hG ka _).mono ?_;rintro e wa ⟨v,T,rfl,s,E,j⟩;try change ZQ _ _ _ at s
 try change ZQ _ _ _ at j
 rw [Uh] at s j;have qa:=j.size;try change ZQ _ _ _ at qa
 rw [Uh] at qa;obtain ⟨p0,p1,p2⟩:=cQ j;have m:bW w wa:=(bA _ _).trans (j.mono ec);have kk:=V.mono m;go_wp2_with fail;refine (Ls _ Dt _ kk C).mono ?_;rintro e wb ⟨r,rfl,kr,rfl⟩;obtain rfl:r=ZU:=kr.2 HF.o;obtain ⟨mo,hb,rfl,kp⟩:=s.slice;have g:=E.length;rw [Lt] at g;obtain ⟨mg,rfl⟩:=kp (by intro e;rw [e] at g;simp at g;omega);have q2:T.length<=20:=ec
 have qc:=ak g;clear g kp kr;go_wp2_with (at_make;refine mY _ rfl (Z0 31) (Z0 31) rfl _ T.length rfl rfl rfl ec ?_;intro wc W O hz;clear hz);have kf:oE wc wb.heap.size wb.heap.size T.length []:=⟨W.congr (λi _=>by simp [shv]),λp F=>by simp at F,ek⟩;have ks:=O.size;generalize hM:aT D L G=M at *;have HM:b9 (∀ i (h:i<M.length),(M[i]).length=D):=by intro i h;subst hM;exact Lu D L G h
 have P:=ak E;have kx:=ak hM;clear W hM E p0 p1 p2;go_loopw [35] (λi wr=>EcR wb wb.heap.size wb.heap.size T.length n M Dt i wr) (λi _=>T.length-(intOf i).toNat)
 case atStart=>exact ⟨0,[],T8 _,rfl,kf,rfl,O,ks⟩
 case round=>
  clear kf O ks;rename ZS=>wo;obtain ⟨k,S,hk,rfl,b,d,f,qb⟩:=hrel;have R:=P.o.length;have u:=d.length;unfold fs at u;rw [Ue,Uo] at u;by_cases z:k<T.length
  . have B:k<M.length:=ec;have K:=s.below f;have km:=kk.mono f;have y:=K.Sk z;have a:=K.SU z;have N:=P.o.at z B;have J:=HM.o k B;obtain ⟨⟨rb,rn,rl⟩,kj⟩:∃ p,p=T[k]:=⟨_,rfl⟩;rw [<- kj] at y a N;simp only [fX,WW] at y a N;obtain ⟨rfl,rfl⟩:=N;rw [UI ec] at a;rw [J] at y a;have kh:S.length=k:=ec;have U:=IH M Dt n k B;have Z:=ak U;have Y:=ak d;have ky:=ak kh;have H:=ak J;clear U d kh J R u kj;go_wp2_with fail;refine (Cs _ _ M[k] Dt n wo (by rw [H.out] at *;exact a) km q9 hv.out (by rw [H.out,hy.out]) C).mono ?_;rintro e w2 ⟨b2,rfl,qe,ke,l⟩;have t:=b.below l;have q5:=t.tab.cell (i:=k) z;have q7:=t.tab.frozen k;have qh:=l.size;have qg:=b.lt;have kg:=t.push (n:=n) ec ke (by rw [gh];omega) (by rw [gh];omega) (pU _ _ (λx hx=>a.lt x hx) _ _) (λp F=>e9 ((b.row p F).2.1.lt));rw [gh,ky.out] at kg;have q3:=(f.trans (l.mono qb)).setCell (p:=⟨wb.heap.size,k,ZW⟩) lR (Z5 (ZV ⟨b2,0,ZW⟩) n n);have I:=Y.out.push b2 (cI M[k] Dt n Dt.length);rw [<- Z.out] at I;have kv:=ak I;generalize shv S k=ov at *;clear b t ke l f a y K km I Z Y H;go_wp2;go_roundw
    case rel=>exact ⟨k+1,_,ec,eT,kg,kv.out,q3,by rw [Yv];omega⟩
    case measure=>simp [intOf];omega
  . have q8:k=T.length:=ec;have ko:k=M.length:=ec;have kz:cM S n (fs M Dt n):=(by rw [ko,VA] at d;exact d);have ki:=b.done ec lR eD;have q4:=m.trans (f.mono m.size);have q1:=ki.weaken (base':=w.heap.size) m.size;clear d b f ki q8 ko R u;go_wp2;go_ret2;exact ⟨_,S,rfl,q1,by rw [kx.out];exact kz,q4⟩
def cY (M:List a8) (lost k:Nat):List a8:=((YE k).filter (λi=>decide (lost/2^i%2=0))).map (λi=>M.getD i [])
def Gw (M:List a8) (lost k:Nat) (h:lost/2^k%2=0):cY M lost (k+1)=cY M lost k++[M.getD k []]:=by
 simp [cY,Vw,h]
def Cu (M:List a8) (lost k:Nat) (h:lost/2^k%2≠0):cY M lost (k+1)=cY M lost k:=by
 simp [cY,Vw,h]
def ub (M:List a8) (lost k:Nat) (b:k<=M.length):∀ l∈cY M lost k,l∈M:=by
 intro l hl;simp [cY] at hl;obtain ⟨i,⟨a,_⟩,rfl⟩:=hl;rw [Uc ec];exact T6 _
def jP (M:List a8) (lost k:Nat):(cY M lost k).length<=k:=by
 unfold cY;rw [Ue];exact TU (WS _ _) ek
theorem Ov (T:List a8) (v:Nat->Nat):nH T 0 v↔∃ l∈T,v=dH l:=by
 constructor
 . rintro ⟨i,a,_,rfl⟩;exact ⟨_,T6 a,rfl⟩
 . rintro ⟨l,hl,rfl⟩;obtain ⟨i,a,rfl⟩:=XD.1 hl;exact ⟨i,a,T8 _,rfl⟩
theorem oF (M:List a8) (lost k:Nat) (v:Nat->Nat):nH (cY M lost k) 0 v↔∃ i,i<k/\lost/2^i%2=0/\v=dH (M.getD i []):=by
 rw [Ov];constructor
 . rintro ⟨l,hl,rfl⟩;simp only [cY,T9,Vq,Ur,V4] at hl;obtain ⟨i,⟨b,a⟩,rfl⟩:=hl;exact ⟨i,b,a,rfl⟩
 . rintro ⟨i,b,a,rfl⟩;refine ⟨_,?_,rfl⟩;simp only [cY,T9,Vq,Ur,V4];exact ⟨i,⟨b,a⟩,rfl⟩
theorem Lv (D i:Nat) (a:i<D):dH (dh D i)=gA i:=by
 funext j;unfold dH dh gA;by_cases e:j=i
 . subst e;simp [a]
 . rw [TS e];simp [Vn e,WH];split<;>rfl
def Lw (D L G i:Nat) (a:i<D):(aT D L G).getD i []=dh D i:=by
 simp [aT,List.getElem?_append,a]
def yu (M:List a8) (lost less k D:Nat) (d:∀ i,i<k->lost/2^i%2=0->less/2^i%2=0) (h:mF (nH (cY M lost k) 0) 0 D):mF (nH (cY M less k) 0) 0 D:=
 h.mono λr c=>by
  obtain ⟨i,a,b,e⟩:=(oF _ _ _ _).1 c;exact (oF _ _ _ _).2 ⟨i,a,d i a b,e⟩
def II (M:List a8) (lost k D:Nat) (e:1<=D) (d:∀ i,i<k->lost/2^i%2=1):¬ mF (nH (cY M lost k) 0) 0 D:=by
 intro h;have:=aW.RR (c:=0) (λr b=>by
  obtain ⟨i,a,f,_⟩:=(oF _ _ _ _).1 b;have:=d i a;omega) (h (gA 0) (j8 0) (λj g=>TS ec))
 simp [gA] at this
def Gx (lost k:Nat) (hl:lost<18446744073709551616):bits .and .u64 ((lost:Int)/2^k) 1=((lost/2^k%2:Nat):Int):=by
 have c:(lost:Int)/2^k=((lost/2^k:Nat):Int):=ek
 have h:lost/2^k<18446744073709551616:=WX (VV _ _) hl;have e:=u64_and_nat (lost/2^k) 1 h ee;rw [Qe] at e;rw [c];exact e
def Rl (w0 w:ZS) (v:ZR) (K:List a8):Prop:=
 ∃ xs:List ZR,xs.length=K.length/\(∀ i (h:i<xs.length) (h':i<K.length),Bs w0 xs[i] K[i])/\w.ownsRow w0.heap.size 40 1 v xs.length xs/\bW w0 w
def Rl.nil (w:ZS):Rl w w (Z5 ZW 0 0) []:=⟨[],rfl,λi h=>absurd h ek,UK _ _ _ _,TW _ _⟩
def Rl.rd {K:List a8} (h:Rl w0 w v K) (hl:K.length<=100000):Rd w v K:=by
 obtain ⟨xs,e,f,b,j⟩:=h;rcases b.2 with ⟨d,r⟩|⟨g,cap,cur,a,l,m,n,o,p,q⟩
 . have:K=[]:=UW ec;subst this;exact ⟨ZW,0,d,ek,λh=>absurd rfl h⟩
 . refine ⟨ZV ⟨g,0,ZW⟩,cap,by rw [a,e],ec,λ_=>⟨g,0,rfl,λi k=>?_⟩⟩;have c:i<xs.length:=ec;have:=b.cells (g:=g) T2 i xs[i] Za;rw [jG] at this;exact ⟨xs[i],by rw [Uj];exact this,(f i c k).mono j⟩
def Rl.push {w1:ZS} {v':ZR} {K:List a8} {o:Obj} {xs:List ZR} (b:xs.length=K.length) (j:∀ i (h:i<xs.length) (d:i<K.length),Bs w0 xs[i] K[i])
 (g:w.ownsRow w0.heap.size 40 1 v xs.length xs) (a:bW w0 w) (q:w1=w.alloc o) (p:Bs w0 u l)
 (m:w1.grownBy w2 v.ownBlock) (f:w2.ownsRow w0.heap.size 40 1 v' (xs.length+1) (xs++[u])):Rl w0 w2 v' (K++[l]):=by
 subst q;refine ⟨xs++[u],acx,λi h d=>?_,oD f,(a.alloc a.size o).grown m Y8 λk n=>(g.lt k n).1⟩;by_cases c:i<xs.length
 . rw [XV c,XV ec];exact j i c ec
 . have e:i=xs.length:=(by simp at h;omega);subst e;rw [XU lR,XU ec];simpa [b] using p
def Bs.one (h:Bs w u l):u.oneCell'=ZU:=by
 obtain ⟨ao,c,rfl,_⟩:=h;rfl
def KpR (w:ZS) (M:List a8) (lost:Nat) (v i:ZR) (wr:ZS):Prop:=∃ k:Nat,k<=M.length/\i=Z7 Z9 k/\Rl w wr v (cY M lost k)
theorem Ly (E:ZR) (M:List a8) (lost:Nat) (w:ZS) (A:Rd w E M) (hl:lost<18446744073709551616) (W:M.length<=64) :
 ZP ZK 124 #[E,Z7 Z8 lost] w λe w'=>∃ v,e=Z3 v/\Rl w w' v (cY M lost M.length):=by
 obtain ⟨U,O,R,S,T⟩:=Uu Tryz.RU;rcases A.cases with ⟨rfl,ao,c,rfl⟩|⟨b,off,c,rfl,_,l⟩
 . go_enter func124,ntmps124;go_wp2;refine VH 1 ?_;rw [Vz];go_wp2;go_ret;exact ⟨_,rfl,Rl.nil _⟩
 . clear A;go_enter func124,ntmps124;go_wp2;go_loopw [5,10] (λv i wr=>KpR w M lost v i wr) (λ_ i _=>M.length-(intOf i).toNat)
   case atStart=>exact ⟨0,T8 _,rfl,Rl.nil _⟩
   case round=>
    rename ZS=>wo;obtain ⟨k,V,rfl,a⟩:=hrel;by_cases C:k<M.length
    . obtain ⟨u,m,j⟩:=l k C;have Q:wo.cell? ⟨b,off+k,ZW⟩=ZV u:=(by rw [a.choose_spec.2.2.2.cell (Uf m)];exact m);obtain ⟨H,I,rfl,_⟩:=id j;have t:=Gx lost k hl;have HK:=ak (jP M lost k);have n:=ak j;have x:M.getD k []=M[k]:=(by simp [C]);have J:=ak x;clear l j m x;by_cases d:lost/2^k%2=0
      . rw [d] at t;have K:=ak (Gw M lost k d);clear d;obtain ⟨xs,f,B,g,h⟩:=a;have G:=ak B;have N:=ak f;have Y:xs.length<=64:=(by rw [f];exact TU HK.o ec);have X:=h.size;clear B f;go_wp2_with (at_builtin;refine WM _ rfl (Z0 20) (Z0 22) 108 rfl w.heap.size 40 U (Z5 ZW 0 0) 1 24 VS O R S T rfl ee _ xs.length xs rfl (aq g (bA _ _)) ⟨wo.heap.size,0,ZW⟩ 1 1 [.slice H (M[k]).length I] rfl rfl (l9 _ _ rfl _ _) (by intro q D;simp at D;rw [D];exact n.o.one) eD ec B8 ?_;intro Z w2 s p P);have y:=Rl.push N.out G.o g h rfl n.o p s;rw [<- J.out,<- K.out] at y;clear g s p P h Q;go_wp2;go_roundw
        case rel=>exact ⟨k+1,ec,eT,y⟩
        case measure=>simp [intOf];omega
      . have r:lost/2^k%2=1:=ec;rw [r] at t;have L:=ak (Cu M lost k d);clear d r;have F:=ak a;clear a;go_wp2;go_roundw
        case rel=>exact ⟨k+1,ec,eT,by rw [L.out];exact F.o⟩
        case measure=>simp [intOf];omega
    . have z:k=M.length:=ec;rw [z] at a;clear l z;go_wp2;go_ret;exact ⟨_,rfl,a⟩
def Q0 (D:List a8) (w:ZS) (e:ZO) (w':ZS):Prop:=(rS D->e=Z3 (Z1 ZU))/\(¬ rS D->e=Z3 (Z1 ZT))/\w'=w
def FtR (D:List a8) (i:ZR):Prop:=∃ k:Nat,k<=D.length/\i=Z7 Z9 (k:Nat)/\∀ j (hj:j<D.length),j<k->(D[j]).length<=64
theorem Cv (t:ZR) (D:List a8) (w:ZS) (m:Rd w t D) :
 ZP ZK 160 #[t] w λe w'=>Q0 D w e w':=by
 by_cases C:64<D.length
 . obtain ⟨ao,c,rfl,hl,_⟩:=m;go_enter func160,ntmps160;go_wp2;go_ret;exact ⟨λh=>absurd h.1 ec,λ_=>rfl,rfl⟩
 rcases m.cases with ⟨rfl,ao,c,rfl⟩|⟨b,off,c,rfl,hl,l⟩
 . go_enter func160,ntmps160;go_wp2;refine VH 1 ?_;rw [Vz];go_wp2;go_ret;exact ⟨λ_=>rfl,λh=>absurd ⟨ek,λi d=>by simp at d⟩ h,rfl⟩
 have v:=ak l;clear l;go_enter func160,ntmps160;go_wp2;go_loop [10] (λi=>FtR D i) (λi=>D.length-(intOf i).toNat)
 case atStart=>exact ⟨0,T8 _,rfl,λj _ h=>absurd h ec⟩
 case round=>
  obtain ⟨k,G,rfl,a⟩:=hrel;by_cases g:k<D.length
  . obtain ⟨u,H,y⟩:=v.o k g;obtain ⟨B,A,rfl,p,q,r,s⟩:=y;by_cases f:(D[k]).length<=64
    . have x:b9 (∀ j (n:j<D.length),j<k+1->(D[j]).length<=64):=by
       intro j n E;by_cases e:j=k
       . subst e;exact f
       . exact a j n ec
      clear a p q r s;generalize (D[k]).length=z at *;go_wp2;go_round
      case rel=>exact ⟨k+1,ec,eT,x.out⟩
      case measure=>simp [intOf];omega
    . have HN:b9 (¬ rS D):=λh=>f (h.2 k g);have F:(D[k]).length<=140737488355328:=ec;clear a p q r s;generalize (D[k]).length=z at *;go_wp2;go_ret;exact ⟨λh=>absurd h HN.o,λ_=>rfl,rfl⟩
  . have HF:b9 (rS D):=⟨ec,λi d=>a i d ec⟩;clear a;go_wp2;go_ret;exact ⟨λ_=>rfl,λh=>absurd HF.o h,rfl⟩
def wk (G:Nat->Nat) (top c iv k x:Nat):Nat:=if top<x/64/\x/64<k/\c<=x%64 then G x^^^gm (gm (G (x/64*64+c)) iv) (G (top*64+x%64)) else G x
theorem Lz (G:Nat->Nat) (top c a:Nat):wk G top c a (top+1)=G:=by
 funext x;unfold wk;rw [TS ec]
theorem PO {G:Nat->Nat} (h:∀ x,G x<256) {iv:Nat} (top c k x:Nat):wk G top c iv k x<256:=by
 unfold wk;split
 . exact rO (h x) (bu _ (bu _ (h _)))
 . exact h x
def Q2 (G:Nat->Nat) (top c a k j:Nat) (b:j<64):wk G top c a k (top*64+j)=G (top*64+j):=by
 unfold wk;rw [TS ec]
def Ox (G:Nat->Nat) (top c a k j:Nat) (b:j<64):wk G top c a k (k*64+j)=G (k*64+j):=by
 unfold wk;rw [TS ec]
theorem Oy (G:Nat->Nat) (top c a k:Nat) (g:top<k) (f:c<64):gU (wk G top c a k) (λi=>G (top*64+c+i)) (gm (G (k*64+c)) a) (k*64+c) (64-c)=wk G top c a (k+1):=by
 funext x;unfold gU;by_cases h:k*64+c<=x/\x<k*64+c+(64-c)
 . have d:x/64=k:=ec;have e:top*64+c+(x-(k*64+c))=top*64+x%64:=ec;rw [TT h];unfold wk;rw [TS ec,TT ec,d];show _^^^gm _ (G (top*64+c+(x-(k*64+c))))=_;rw [e]
 . rw [TS h];unfold wk;by_cases b:top<x/64/\x/64<k/\c<=x%64
   . rw [TT b,TT ec]
   . rw [TS b,TS ec]
theorem ud (w:ZS) (b o c:Nat) (f:c<64):(Instr.sliceAt 113 (Z6 (ZV ⟨b,o,ZW⟩)) (ZV (Z7 Z9 (c:Int))) ZW ZW).run ZK w=.ok (Z5 (ZV ⟨b,o+c,ZW⟩) (64-c) (64-c)) w:=by
 have hl:ZK.arrayLen 113=64:=ei
 have e:ZK.underlying 113=ZV (.array (ZK.arrayLen 113) (ZK.elem 113)):=ei
 have d:∀ w,(sizeOf (ZK.elem 113)).run ZK w=.ok 1 w:=by
  have a:ZK.elem 113=5:=ei
  rw [a];intro w;go_simp
 rw [run_sliceAt_array_l w 113 _ e .i64 (c:Int) ec (by rw [hl];omega),d,hl];simp [slicedAt,Result.andThen];rw [TS ec];simp [Addr.add]
def WkR (w:ZS) (b t top c iv n:Nat) (G:Nat->Nat) (i:ZR) (wr:ZS):Prop:=
 ∃ k:Nat,top<k/\k<=max n (top+1)/\i=Z7 Z9 (k:Nat)/\wr.rowIs b t 4096 (tv (wk G top c iv k))/\w.grownBy wr (ZV b)
theorem Cw (b top c n:Nat) (G:Nat->Nat) (w:ZS) (f:∀ x,G x<256) (h:w.rowIs b 281 4096 (tv G)) (O:top<64) (g:c<64) (L:n<=64) :
 ZP ZK 162 #[Z6 (ZV ⟨b,0,ZW⟩),Z7 Z9 top,Z7 Z9 c,Z7 Z9 n] w λe w'=>e=Z3 (ZY #[])/\w'.rowIs b 281 4096 (tv (wk G top c (gi (G (top*64+c))) (max n (top+1))))/\w.grownBy w' (ZV b):=by
 have E:w.cell? ⟨b,top*64+c,ZW⟩=ZV (Z7 .u8 ((G (top*64+c):Nat):Int)):=h.cell ec;have z:=f (top*64+c);generalize hv:G (top*64+c)=y at *;go_enter func162,ntmps162;go_wp2_with (go_at_call 187;refine (se y z _).mono ?_;rintro e l ⟨rfl,rfl⟩);have t:l.rowIs b 281 4096 (tv (wk G top c (gi y) (top+1))):=by rw [Lz];exact h
 go_loopw [9] (λi wr=>WkR l b 281 top c (gi y) n G i wr) (λi _=>n-(intOf i).toNat)
 case atStart=>exact ⟨top+1,ec,ec,eT,t,Wx _ _⟩
 case round=>
  clear t h E;rename ZS=>wo;obtain ⟨k,J,M,rfl,d,p⟩:=hrel;by_cases N:k<n
  . have F:wo.cell? ⟨b,k*64+c,ZW⟩=ZV (Z7 .u8 ((wk G top c (gi y) k (k*64+c):Nat):Int)):=d.cell ec;rw [Ox _ _ _ _ _ _ g] at F;have v:=f (k*64+c);have o:∀ i,i<64-c->wo.cell? ⟨b,top*64+c+i,ZW⟩=ZV (Z7 .u8 ((G (top*64+c+i):Nat):Int)):=by
     intro i K;have m:wo.cell? ⟨b,top*64+c+i,ZW⟩=ZV (Z7 .u8 ((wk G top c (gi y) k (top*64+c+i):Nat):Int)):=d.cell ec;rw [Vv,Q2 _ _ _ _ _ _ ec,<- Vv] at m;exact m
    have u:=Oy G top c (gi y) k J g;have H:gm (G (k*64+c)) (gi y)<256:=bu _ v;have C:=ak o;have D:=ak u;clear o u;generalize G (k*64+c)=x at *;have A:=λw=>ud w b (k*64) c g;have B:=λw=>ud w b (top*64) c g;go_wp2;go_region_with (first
     | (go_at_call 188;refine (l8 x (gi y) v (iz z) _).mono ?_;rintro e w' ⟨rfl,rfl⟩)
     | (go_at_call 179;refine (jt b 281 4096 (k*64+c) (64-c) (64-c) b (top*64+c) (64-c) (gm x (gi y)) (wk G top c (gi y) k) (λi=>G (top*64+c+i)) _ H (by exact d) (PO f top c k) (λj=>f _) ec ec (by exact C.out) (.inr (.inl ec))).mono ?_;rintro e w' ⟨rfl,r,a⟩))
    all_goals
     have s:=r;rw [D.out] at s;have I:l.grownBy w' (ZV b):=gD p ⟨a.os,a.tape,a.output,a.size,a.block⟩;clear r a A B;go_wp2;go_roundw
     case rel=>exact ⟨k+1,ec,ec,eT,s,I⟩
     case measure=>simp [intOf];omega
  . have q:k=max n (top+1):=ec;rw [q] at d;clear q;go_wp2;go_end0
    exact ⟨rfl,d,p⟩
def gj (D:List a8) (x:Nat):Nat:=(D.getD (x/64) []).getD (x%64) 0
def lN (D:List a8) (k x:Nat):Nat:=if x/64<k then gj D x else 0
def Tryz.TI:(ZK.info? 281).map (λi=>(i.zero,i.size,i.bytes))=ZV (ZV (.agg (YJ 4096 (Z7 .u8 0))),4096,4096):=ei
def Tryz.SI:(ZK.info? 281).map (λi=>i.size)=ZV 4096:=ei
def Cx (w:ZS):(zeroValue 281).run ZK w=.ok (.agg (YJ 4096 (Z7 .u8 0))) w:=by
 obtain ⟨c,a,b,_,_⟩:=Uu Tryz.TI;simp [zeroValue,typeInfo,UE,a,b]
def Cy (w:ZS):(w.alloc (Z4 (YJ 4096 (Z7 .u8 0)) 281)).rowIs w.heap.size 281 4096 (λ_=>Z7 .u8 0):=by
 have h:=ab1 w (YJ 4096 (Z7 .u8 0)) 281 (λ_=>Z7 .u8 0) (λi a=>by simp at a;simp [a]);simpa using h
theorem LA {f:Nat->ZR} (h:w.rowIs b t n f):w.heap[b]?=ZV (Z4 ((YE n).map f).toArray t (0,0)):=by
 obtain ⟨c,d,g,e⟩:=h;have:c=((YE n).map f).toArray:=by
  apply YB
  . simp [g]
  . intro i a j;have:=e i ec;rw [VK a] at this;simp at this;simp [this]
 rw [<- this];exact d
def EX (C:o.guard=ZW) (d s:ZL)
 (ho:o.op=.call { callee:=.builtin .copy,args:=#[d,s],argTypes:=#[40,40] }) (g off n cap N t:Nat) (v:ZR) (hd:a.eval d=Z5 (ZV ⟨g,off,ZW⟩) n cap) (hs:a.eval s=v)
 (F:Nat->Nat) (src:a8) (hB:w.rowIs g t N (tv F)) (hS:Bs w v src) (h8:src.length<=n) (hn:off+n<=N)
 (h:∀ w',w'.rowIs g t N (tv (λx=>if off<=x/\x<off+src.length then src.getD (x-off) 0 else F x))->ZQ g w w'->wpList ZK ops Q rest (a.put o.dst (goInt src.length)) w'):wpList ZK ops Q (o::rest) a w:=by
 obtain ⟨ao,c,rfl,K,L,M,A⟩:=hS;refine abV C d s 40 40 ho 5 Un ei (ZV ⟨g,off,ZW⟩) ao n cap src.length c hd hs g off _ t (LA hB) (src.map (λx=>Value.int .u8 ((x:Nat):Int))) ?_ ?_ ?_ ?_ g w (TW _ _) lR ?_
 . rw [Ue];show src.length=min src.length n;omega
 . intro l;rw [Ue] at l;obtain ⟨b,off,rfl,E⟩:=A (by intro e;rw [e] at l;simp at l);refine ⟨rfl,_,rfl,λj u k=>?_⟩;have f:j<src.length:=by
    have:=Va.1 k;obtain ⟨q,_⟩:=this;simpa using q
   rw [Vo,E j f];simp [f] at k;simp [f,k]
 . simp;omega
 . intro u G;obtain ⟨x,_,rfl⟩:=T9.1 G;rfl
 . intro w' D B;have H:=D.out;rw [Ue];refine h w' ⟨_,H,?_,λi m=>?_⟩ B
   . rw [UH,length_splice _ _ _ en];simp
   . unfold splice;rw [Xq];by_cases p:i<off
     . rw [VC en];have I:¬ (off<=i/\i<off+src.length):=ec;simp only [tv,TS I];simp [p,m,tv]
     . rw [U7 en];have y:(((YE N).map (tv F)).take off).length=off:=en;rw [y];by_cases r:i<off+src.length
       . rw [VC en];have J:i-off<src.length:=ec;simp [J,tv,r,WR.1 p]
       . rw [U7 en];simp only [Ue];rw [Wf];have z:off+src.length+(i-off-src.length)=i:=ec;rw [z];simp [m,tv,r]
def LyR (w:ZS) (B:Nat) (D:List a8) (i:ZR) (wr:ZS):Prop:=
 ∃ k:Nat,k<=D.length/\i=Z7 Z9 (k:Nat)/\wr.rowIs (B+1) 281 4096 (tv (lN D k))/\wr.rowIs B 281 4096 (λ_=>Z7 .u8 0)/\ZQ B w wr
theorem Cz (D:List a8) (k:Nat) (f:k<D.length) (hl:(D[k]).length<=64):(λx=>if k*64<=x/\x<k*64+(D[k]).length then (D[k]).getD (x-k*64) 0 else lN D k x)=lN D (k+1):=by
 have b:D.getD k []=D[k]:=by simp [f]
 funext x;unfold lN gj;by_cases h:k*64<=x/\x<k*64+(D[k]).length
 . rw [TT h,TT ec];have c:x/64=k:=ec;have d:x%64=x-k*64:=ec;rw [c,b,d]
 . rw [TS h];by_cases a:x/64<k
   . rw [TT a,TT ec]
   . rw [TS a];by_cases e:x/64=k
     . rw [TT ec,e,b,Ub,Vm ec];rfl
     . rw [TS ec]
def EY (D:List a8) (x:Nat):lN D D.length x=gj D x:=by
 unfold lN;by_cases h:x/64<D.length
 . rw [TT h]
 . rw [TS h];unfold gj;simp [Vm (WR.1 h)]
def ue {f:Nat->Nat} (b:cs.size=N) (h:∀ j,j<N->cs[j]?=ZV (tv f j)):cs.all (λv=>v.oneCell')=ZU:=by
 rw [Yc];intro i a;have:=h i ec;rw [VK a] at this;simp at this;rw [this];rfl
theorem Oz (L:ZR) (D:List a8) (w:ZS) (H:Rd w L D) (r:rS D) :
 ZP ZK 161 #[L] w λe w'=>∃ cs:Array ZR,e=Z3 (.agg cs)/\cs.size=4096/\(∀ j,j<4096->cs[j]?=ZV (tv (gj D) j))/\bW w w':=by
 have HF:=ak r;have X:=r.1;have U:=H;obtain ⟨ao,c,rfl,hl,G⟩:=H;have t:=ak G;clear G r U;have V:=Cx;go_enter func161,ntmps161;go_wp2;clear V;go_loopw [8] (λi wr=>LyR w w.heap.size D i wr) (λi _=>D.length-(intOf i).toNat)
 case atStart=>
  refine ⟨0,T8 _,rfl,?_,?_,?_⟩
  . have h:=Cy (w.alloc (Z4 (YJ 4096 (Z7 .u8 0)) 281));try change ZQ _ _ _ at h
    rw [Uh] at h;exact h.congr λj Q=>by unfold tv lN;simp
  . exact (Cy w).alloc _
  . exact (bA _ _).alloc B8 _
 case round=>
  rename ZS=>wo;obtain ⟨k,W,rfl,f,E,m⟩:=hrel;by_cases a:k<D.length
  . obtain ⟨b,off,rfl,A⟩:=t.o Zk;obtain ⟨u,s,y⟩:=A k a;have S:=y.mono m;have F:=HF.o.2 k a;have I:=Cz D k a F;have Y:wo.cell? ⟨b,off+k,ZW⟩=ZV u:=(by rw [m.cell (Uf s)];exact s);have R:=ak I;clear A I s y t;generalize D[k]=l at *;go_wp2_with (refine EX rfl (Z0 15) (Z0 16) rfl (w.heap.size+1) (k*64) 64 64 4096 281 u rfl rfl (lN D k) l f S F ec ?_;intro w2 d z);rw [R.out] at d;have T:=Wd E (z.block w.heap.size ec);go_wp2;go_roundw
    case rel=>exact ⟨k+1,ec,eT,d,T,m.trans (z.mono ec)⟩
    case measure=>simp [intOf];omega
  . have C:k=D.length:=ec;rw [C] at f;clear C;have d:=f.congr (g:=tv (gj D)) (λj Q=>by unfold tv;rw [EY]);obtain ⟨cs,B,q,p⟩:=d;obtain ⟨M,J,Z,_⟩:=E;have O:=ue q p;have N:=ak p;have K:(ZK.info? 281).map (λi=>i.size)=ZV cs.size:=(by rw [Tryz.SI,q]);have n:=ak K;have P:=ak B;have x:=ak J;clear p f K B J;go_wp2_with (first
     | refine abl rfl 281 (Z0 3) rfl (w.heap.size+1) rfl 281 cs (0,0) _ P.out underlying281 rfl n.o ?_
     | refine Wz rfl 281 (Z0 2) (Z0 19) rfl w.heap.size cs rfl rfl 281 M x.o n.o ec O ?_)
    exact Ut (v:=.agg cs) (Wp results161 _ _ w.heap.size 281 cs (0,0) _ rfl (Vt _ _ M cs _ _ x.o) underlying281 rfl n.o) rfl ⟨cs,rfl,q,N.o,below_setRow m lR cs⟩
def pV (G:Nat->Nat) (i:Nat):a8:=(YE 64).map λj=>G (i*64+j)
def lO (G:Nat->Nat) (n:Nat):List a8:=(YE n).map (pV G)
def iS (G:Nat->Nat) (i j:Nat):dH (pV G i) j=if j<64 then G (i*64+j) else 0:=by
 unfold dH pV;by_cases h:j<64
 . simp [h]
 . simp [h]
def gk (G:Nat->Nat) (n:Nat):(lO G n).length=n:=by simp [lO]
def gq (G:Nat->Nat) (n i:Nat) (h:i<(lO G n).length):(lO G n)[i]=pV G i:=by simp [lO]
def uf {G:Nat->Nat} (a:∀ x,G x<256) (n:Nat):∀ l∈lO G n,∀ x∈l,x<256:=by
 intro l hl x b;obtain ⟨i,_,rfl⟩:=T9.1 hl;obtain ⟨j,_,rfl⟩:=T9.1 b;exact a _
def CA (G:Nat->Nat) (p r x:Nat):Nat:=if x/64=r then G (p*64+x%64) else if x/64=p then G (r*64+x%64) else G x
theorem Ah {G:Nat->Nat} (a:∀ x,G x<256) (p r x:Nat):CA G p r x<256:=by
 unfold CA;split
 . exact a _
 . split<;>exact a _
def EZ (G:Nat->Nat) (p r i j:Nat) (c:j<64):CA G p r (i*64+j)=if i=r then G (p*64+j) else if i=p then G (r*64+j) else G (i*64+j):=by
 have a:(i*64+j)/64=i:=ec
 have b:(i*64+j)%64=j:=ec
 unfold CA;rw [a,b]
def LB (G:Nat->Nat) (p r c n:Nat):Nat->Nat:=wk (CA G p r) r c (gi (G (p*64+c))) (max n (r+1))
def LC {G:Nat->Nat} (a:∀ x,G x<256) (p r c n x:Nat):LB G p r c n x<256:=PO (Ah a p r) _ _ _ _
def LD (G:Nat->Nat) (p r c n i j:Nat) (_hc:c<64) (d:j<64) (f:r<i) (e:i<n):LB G p r c n (i*64+j)=if c<=j then CA G p r (i*64+j)^^^gm (gm (CA G p r (i*64+c)) (gi (G (p*64+c)))) (G (p*64+j)) else CA G p r (i*64+j):=by
 have a:(i*64+j)/64=i:=ec
 have b:(i*64+j)%64=j:=ec
 unfold LB wk;rw [a,b,EZ G p r r j d,TT rfl];by_cases h:c<=j
 . rw [TT h,TT ec]
 . rw [TS h,TS ec]
theorem Gy {G:Nat->Nat} (d:∀ x,G x<256) (b:c<64) (o:p<n) (l:r<=p) (k:G (p*64+c)≠0) (q:∀ i,r<=i->i<n->∀ j,j<c->G (i*64+j)=0) (g:r<i) (e:i<n) :
 ∃ f,f<256/\dH (pV (LB G p r c n) i)=cA (dH (pV G (if i=p then r else i))) f (dH (pV G p))/\dH (pV (LB G p r c n) i) c=0:=by
 have m:∀ j,j<64->CA G p r (i*64+j)=G ((if i=p then r else i)*64+j):=by
  intro j a;rw [EZ G p r i j a,TS ec];split<;>rfl
 refine ⟨gm (CA G p r (i*64+c)) (gi (G (p*64+c))),bu _ (Ah d _ _ _),?_,?_⟩
 . funext j;show dH (pV (LB G p r c n) i) j=dH (pV G (if i=p then r else i)) j^^^gm _ (dH (pV G p) j);rw [iS,iS,iS];by_cases a:j<64
   . rw [TT a,TT a,TT a,LD G p r c n i j b a g e,m j a];by_cases h:c<=j
     . rw [TT h]
     . rw [TS h,q p l o j ec,bD,U4]
   . rw [TS a,TS a,TS a,bD];exact (UU 0).symm
 . rw [iS,TT b,LD G p r c n i c b b g e,TT lR];exact nJ (Ah d _ _ _) (d _) k
theorem E0 {G:Nat->Nat} (a:∀ x,G x<256) (g:c<64) (l:p<n) (d:r<=p) (b:G (p*64+c)≠0) (u:∀ i,r<=i->i<n->∀ j,j<c->G (i*64+j)=0)
 (t:cT m (nH (lO (LB G p r c n) n) (r+1)) (c+1) k):cT (m+1) (nH (lO G n) r) c (k+1):=by
 refine qQ (p:=p) (T':=lO (LB G p r c n) n) (uf a n) (uf (LC a p r c n) n) (by rw [gk,gk]) d (by rw [gk];exact l) ?_ ?_ t
 . rw [gq,iS,TT g];exact b
 . intro i h q;rw [gk] at h;obtain ⟨f,s,e,o⟩:=Gy a g l d b u q h;refine ⟨f,by rw [gk];split<;>omega,s,?_,?_⟩
   . rw [gq,gq,gq];exact e
   . rw [gq];exact o
structure GI (D:List a8) (c r n:Nat) (G:Nat->Nat):Prop where
 byt:∀ x,G x<256
 rle:r<=n
 zer:∀ i,r<=i->i<n->∀ j,j<c->G (i*64+j)=0
 tak:∀ k,cT (64-c) (nH (lO G n) r) c k->m7 D (r+k)
def GI.skip {D:List a8} {G:Nat->Nat} (h:GI D c r n G) (f:c<64) (d:∀ i,r<=i->i<n->G (i*64+c)=0):GI D (c+1) r n G:=
 { h with
  zer:=λi b a j l=>by
   by_cases e:j=c
   . subst e;exact d i b a
   . exact h.zer i b a j ec
  tak:=λk g=>by
   refine h.tak k ?_;have e:64-c=64-(c+1)+1:=ec;rw [e];refine sL (λi a b=>?_) g;rw [gq,iS,TT f];rw [gk] at a;exact d i b a }
theorem GI.TC {D:List a8} {G:Nat->Nat} (h:GI D c r n G) (b:c<64) (a:r<=p) (d:p<n) (o:G (p*64+c)≠0):GI D (c+1) (r+1) n (LB G p r c n) where
 byt:=LC h.byt p r c n
 rle:=ec
 zer:=λi y v j x=>by
  obtain ⟨f,_,e,l⟩:=Gy h.byt b d a o h.zer (ec:r<i) v;by_cases s:j=c
  . subst s;rw [iS,TT b] at l;exact l
  . have g:=congrFun e j;have t:=h.zer (if i=p then r else i) ZE ZE j ec;have u:=h.zer p a d j ec;rw [iS,TT ec] at g;rw [g];show dH (pV G (if i=p then r else i)) j^^^gm f (dH (pV G p) j)=0;generalize (if i=p then r else i)=q at *;have m:j<64:=ec;rw [iS,iS,TT m,TT m,t,u,bD];exact UU 0
 tak:=λk w=>by
  have e:r+1+k=r+(k+1):=ec
  rw [e];refine h.tak (k+1) ?_;have e:64-c=64-(c+1)+1:=ec
  rw [e];exact E0 h.byt b d a o h.zer w
def GI.done {D:List a8} {G:Nat->Nat} (h:GI D 64 r n G):m7 D r:=
 h.tak 0 rfl
def IJ {D:List a8} (a:∀ l∈D,∀ x∈l,x<256) (x:Nat):gj D x<256:=by
 unfold gj;by_cases h:x/64<D.length
 . have e:D.getD (x/64) []=D[x/64]:=(by simp [h]);rw [e];exact dm (a _ (T6 h)) _
 . have e:D.getD (x/64) []=[]:=(by simp [Vm (WR.1 h)]);rw [e];simp
theorem GI.start {D:List a8} (g:∀ l∈D,∀ x∈l,x<256) (h:rS D):GI D 0 0 D.length (gj D) where
 byt:=IJ g
 rle:=T8 _
 zer:=λ_ _ _ j a=>absurd a (XK _)
 tak:=λk c=>by
  rw [Uj];have e:nH (lO (gj D) D.length) 0=nH D 0:=wQ (by rw [gk]) (λi n b=>by
   rw [gq];funext j;rw [iS];have m:D.getD i []=D[i]:=acx;by_cases a:j<64
   . rw [TT a];have d:(i*64+j)/64=i:=ec;have f:(i*64+j)%64=j:=ec;unfold gj dH;rw [d,f,m]
   . rw [TS a];have:=h.2 i b;unfold dH;simp [Vm (ec:(D[i]).length<=j)]) 0
  rw [e] at c;exact c
def E1 (w:ZS) {ops:Array Oper} {rest:List Oper} {o:Oper} {a:Act} {Q:Exit->Act->ZS->Prop} (h:o.guard=ZW) (x y:ZL) (ho:o.op=.store 281 x y)
 (g:Nat) (f:Nat->Nat) (cs old:Array ZR) (l:a.eval x=Z6 (ZV ⟨g,0,ZW⟩)) (m:a.eval y=.agg cs) (d:w.heap[g]?=ZV (Z4 old 281 (0,0))) (hold:old.size=4096) (b:cs.size=4096) (c:∀ j,j<4096->cs[j]?=ZV (tv f j))
 (hK:∀ w2,w2.rowIs g 281 4096 (tv f)->w.grownBy w2 (ZV g)->wpList ZK ops Q rest (a.put o.dst ZX) w2):wpList ZK ops Q (o::rest) a w:=by
 refine Wz h 281 x y ho g cs l m 281 old d (by rw [Tryz.SI,b]) ec (ue b c) (hK _ ?_ ?_)
 . exact ⟨cs,Vt w g old cs _ _ d,b,c⟩
 . refine ⟨rfl,rfl,rfl,ek,λk n i=>?_⟩;have:g≠k:=λe=>i Wb;simp [World.setRow,Vy,this]
theorem kN:∀ (a:List ZR) (o:Nat) (w:ZS) (f:Nat->ZR),w.rowIs b t n f->(w.setCells b o a).rowIs b t n (λx=>if o<=x/\x<o+a.length then a.getD (x-o) ZX else f x)
 | [],o,w,f,h=>h.congr (λi _=>by rw [TS ek])
 | v::a,o,w,f,h=>(kN a (o+1) _ _ (h.set o v)).congr (λi _=>by
  by_cases c:o+1<=i/\i<o+1+a.length
  . have e:i-o=(i-(o+1))+1:=ec;rw [TT c,TT en,e];simp
  . rw [TS c];by_cases d:i=o
    . subst d;rw [TT rfl,TT ek];simp
    . rw [TS d,TS en])
def iT:∀ (a:List ZR) (o:Nat) (w w':ZS),w.grownBy w' (ZV b)->w.grownBy (w'.setCells b o a) (ZV b)
 | [],_,_,_,h=>h
 | v::a,o,w,_,h=>iT a (o+1) w _ (eF h o v)
def yw (G:Nat->Nat) (i:Nat):List ZR:=(YE 64).map λj=>tv G (i*64+j)
def oG (G:Nat->Nat) (i:Nat):(yw G i).length=64:=by simp [yw]
def CB (G:Nat->Nat) (i j:Nat) (h:j<64):(yw G i).getD j ZX=tv G (i*64+j):=by simp [yw,h]
def yA {G:Nat->Nat} (h:w.rowIs b t 4096 (tv G)) {i:Nat} (d:i<64):w.rangeAt b (i*64) (yw G i):=by
 intro j v a;have c:j<64:=by
  obtain ⟨q,_⟩:=Va.1 a;rwa [oG] at q
 simp [yw,c] at a;rw [h.cell ec,a]
def yB {f:Nat->ZR} (h:w.rowIs b t 4096 f) {i n:Nat} (a:i<64) (d:n<=64):w.there b (i*64) n:=λj c=>by
 rw [h.cell ec];exact ⟨rfl,h.frozen _⟩
def Gz (G:Nat->Nat) (i:Nat):(yw G i).toArray.all (λv=>v.oneCell')=ZU:=by
 rw [Yc];intro j a;simp [yw,tv];rfl
theorem Q3 {G:Nat->Nat} (h:w.rowIs b t 4096 (tv G)) (p r:Nat):((w.setCells b (r*64) (yw G p)).setCells b (p*64) (yw G r)).rowIs b t 4096 (tv (CA G p r)):=by
 refine (kN (yw G r) (p*64) _ _ (kN (yw G p) (r*64) _ _ h)).congr (λx _=>?_);rw [oG,oG];by_cases e:p*64<=x/\x<p*64+64
 . have a:x/64=p:=ec;have c:x-p*64=x%64:=ec;rw [TT e,c,CB _ _ _ ec];unfold tv CA;rw [a];by_cases d:p=r
   . rw [TT d,d]
   . rw [TS d,TT rfl]
 . rw [TS e];by_cases f:r*64<=x/\x<r*64+64
   . have a:x/64=r:=ec;have c:x-r*64=x%64:=ec;rw [TT f,c,CB _ _ _ ec];unfold tv CA;rw [TT a]
   . rw [TS f];unfold tv CA;rw [TS ec,TS ec]
def GpR (G:Nat->Nat) (r c n:Nat) (rv iv:ZR):Prop:=∃ k:Nat,r<=k/\k<=n/\rv=Z7 Z9 (r:Nat)/\iv=Z7 Z9 (k:Nat)/\∀ i,r<=i->i<k->G (i*64+c)=0
def GcR (w:ZS) (b:Nat) (D:List a8) (rv cv:ZR) (wr:ZS):Prop:=
 ∃ (r c:Nat) (G:Nat->Nat),c<=64/\rv=Z7 Z9 (r:Nat)/\cv=Z7 Z9 (c:Nat)/\GI D c r D.length G/\wr.rowIs b 281 4096 (tv G)/\bW w wr
theorem LF (vd:ZR) (D:List a8) (w:ZS) (N:Rd w vd D) (hb:∀ l∈D,∀ x∈l,x<256) :
 ZP ZK 123 #[vd] w λe w'=>KS D w e w':=by
 have v:=ak N;have kr:=Cx;obtain ⟨ao,c,rfl,hl,hc⟩:=N;clear hc;by_cases n:rS D
 . have hp:=n.1;have HF:=ak n;clear n;go_enter func123,ntmps123;go_wp2;go_step3;go_wp2_with (first
    | (go_at_call 160;refine (Cv _ D _ v.o).mono ?_;rintro e wv ⟨d,_,rfl⟩;obtain rfl:=d HF.o)
    | (go_at_call 161;refine (Oz _ D _ v.o HF.o).mono ?_;rintro e K ⟨cs,rfl,Z,L,g⟩)
    | (refine E1 _ rfl (Z0 3) (Z0 11) rfl K.heap.size (gj D) cs _ rfl rfl (UC K _) ek Z L ?_;intro wb R U))
   have S:bW wv wb:=gE (g.alloc g.size _) U (by rw [Uh];have:=g.size;omega) g.size;have Q:=GI.start hb HF.o;have kj:=g.size;have O:=ak Q;clear L Z g U kr Q;generalize K.heap.size=gb at *;go_step3;go_wp2;go_loopw [4,12] (λrv z wr=>GcR wv gb D rv z wr) (λ_ z _=>64-(intOf z).toNat)
   case atStart=>exact ⟨0,0,gj D,ec,rfl,rfl,O.out,R,S⟩
   case round=>
    clear R S O;rename ZS=>wo;obtain ⟨r,a,G,kk,rfl,rfl,f,M,I⟩:=hrel;have ko:=f.rle;by_cases s:a<64
    . have E:=ak f;have y:=ak M;have C:=ak I;clear f M I;go_wp2;go_loop [4,6] (λrv J=>GpR G r a D.length rv J) (λ_ J=>D.length-(intOf J).toNat)
      case atStart=>exact ⟨r,TV _,ko,rfl,rfl,λi d q=>absurd d ec⟩
      case round=>
       obtain ⟨p,kp,ks,rfl,rfl,t⟩:=hrel;by_cases km:p<D.length
       . have h8:wo.cell? ⟨gb,p*64+a,ZW⟩=ZV (Z7 .u8 ((G (p*64+a):Nat):Int)):=y.o.cell ec;have kg:=ak t;clear t;by_cases m:G (p*64+a)=0
         . rw [m] at h8;have HX:=ak m;clear m;go_wp2;go_round
           case rel=>
            refine ⟨p+1,ec,ec,rfl,eT,λi d q=>?_⟩;by_cases e:i=p
            . subst e;exact HX.o
            . exact kg.out i d ec
           case measure=>simp [intOf];omega
         . have t0:(((G (p*64+a):Nat):Int)==0)=ZT:=vy;have kb:=ak (E.out.TC s kp km m);clear m;have H:wo.drew.rowIs gb 281 4096 (tv G):=y.o;have W:CA G p r (r*64+a)=G (p*64+a):=(by rw [EZ G p r r a s,TT rfl]);have hj:=ak W;have ka:=ak (Ah E.out.byt p r);have A:p<64:=ec;have B:r<64:=ec;clear W;obtain ⟨u,k9,Y,X⟩:∃ u,(wo.drew.setCells gb (r*64) (yw G p)).setCells gb (p*64) (yw G r)=u/\u.rowIs gb 281 4096 (tv (CA G p r))/\wo.drew.grownBy u (ZV gb):=
            ⟨_,rfl,Q3 H p r,iT (b:=gb) (yw G r) (p*64) wo.drew _ (iT (b:=gb) (yw G p) (r*64) wo.drew wo.drew (Wx _ _))⟩
           have kf:=ak Y;have kc:=ak X;have P:=ak k9;have k:=ak H;clear Y X k9 H;go_wp2;refine K5 gb p r (yw G p) (yw G r) ei (λ_ _ _ _ _ h=>h) rfl A B rfl rfl rfl (oG _ _) (oG _ _) (Gz _ _) (Gz _ _) (yA k.out A) (yA k.out B) (yB k.out B lR) (yB k.out A lR) ?_;rw [P.out];clear P k;unfold K4;generalize (yw G p).toArray=cp;generalize (yw G r).toArray=cr;go_wp2_with (go_at_call 162;refine (Cw gb r a D.length (CA G p r) _ ka.out kf.out ec s hp).mono ?_;rintro e w2 ⟨rfl,F,V⟩);have kh:w2.rowIs gb 281 4096 (tv (LB G p r a D.length)):=by
            rw [hj.out] at F;exact F
           have j:=gD kc.out V;have ki:=gE C.out (w:=wo) ⟨j.os,j.tape,j.output,j.size,j.block⟩ C.out.size kj;clear F V j;go_wp2;go_roundw
           case rel=>exact ⟨r+1,a+1,LB G p r a D.length,ec,eT,eT,kb.out,kh,ki⟩
           case measure=>simp [intOf];omega
       . have ke:=ak (E.out.skip s (λi d q=>t i d ec));clear t;go_wp2;go_roundw
         case rel=>exact ⟨r,a+1,G,ec,rfl,eT,ke.out,y.o,C.out⟩
         case measure=>simp [intOf];omega
    . have T:a=64:=ec;rw [T] at f;have HK:=ak f.done;clear f T;go_wp2;try rw [Exit.noGoto_ret]
      go_ret;exact ⟨λ_=>⟨r,ec,rfl,HK.o⟩,λh=>absurd HF.o h,I⟩
 . have HN:=ak n;clear n;go_enter func123,ntmps123;go_wp2;go_step3;go_wp2_with (go_at_call 160;refine (Cv _ D _ v.o).mono ?_;rintro e w' ⟨_,q,rfl⟩;obtain rfl:=q HN.o);try rw [Exit.noGoto_ret]
   go_ret;exact ⟨λh=>absurd h HN.o,λ_=>rfl,TW _ _⟩
def eh.rdH (h:eh w B v T) (c:cM T D M) (k:∀ r∈M,r.length=D) (hl:M.length<=100000):Rd w v M:=by
 have a:T.length=M.length:=oD (Ux YL c)
 obtain ⟨ao,cap,rfl,f⟩:=h.slice;refine ⟨ao,cap,by rw [a],ec,λm=>?_⟩;obtain ⟨g,rfl⟩:=f (by intro e;rw [e] at a;exact m (UW a.symm));refine ⟨g,0,rfl,λi d=>?_⟩;have b:i<T.length:=ec
 refine ⟨fX T[i],by rw [Uj];exact h.Sk b,?_⟩;have:=h.SU b;have j:T[i].2=(D,M[i]):=by
  have:=Ux (λl=>l[i]?) c;simpa [b,d] using this
 rw [j] at this;have e:(M[i]).take D=M[i]:=by rw [<- k _ (T6 d),VA]
 rw [e] at this;exact this
def Rd.byte {D:List a8} (h:Rd w v D):∀ l∈D,∀ x∈l,x<256:=by
 rcases h.cases with ⟨rfl,_⟩|⟨b,off,c,rfl,_,a⟩
 . intro l hl;simp at hl
 . intro l hl;obtain ⟨i,d,rfl⟩:=XD.1 hl;obtain ⟨u,_,e⟩:=a i d;exact e.lt
def cJ (D L G:Nat):(aT D L G).length=D+L+G:=by simp [aT];omega
def kO (D L G:Nat):∀ r∈aT D L G,r.length=D:=by
 intro r a;simp only [aT,Ui,T9,Ur] at a;rcases a with (⟨i,_,rfl⟩|⟨i,_,rfl⟩)|⟨i,_,rfl⟩
 . simp [dh]
 . simp [dw]
 . simp [de]
theorem oH (D L G:Nat) (c:D<=12) (d:G<=4):∀ r∈aT D L G,∀ x∈r,x<256:=by
 intro r b x a;simp only [aT,Ui,T9,Ur] at b;rcases b with (⟨i,_,rfl⟩|⟨i,_,rfl⟩)|⟨i,e,rfl⟩
 . rcases Ye a with h|h
   . have:=VF h;omega
   . omega
 . simp only [dw,T9] at a;obtain ⟨j,_,rfl⟩:=a;split<;>decide
 . simp only [de,T9,Ur] at a;obtain ⟨j,f,rfl⟩:=a;exact iz (rO ec ec)
def gu (D L G lost:Nat):Prop:=mF (nH (cY (aT D L G) lost (D+L+G)) 0) 0 D
def CC (b:D<=12) (c:G<=4) (h:m7 (cY (aT D L G) lost (D+L+G)) k):k=D↔gu D L G lost:=by
 have a:=ub (aT D L G) lost (D+L+G) Zd;exact Hc (λl hl=>oH D L G b c l (a l hl)) (λl hl=>by rw [kO D L G l (a l hl)];omega) ec h
def CD (D L G lost:Nat) (b:D<=12) (d:L<=4) (c:G<=4):rS (cY (aT D L G) lost (D+L+G)):=by
 refine ⟨TU (jP _ _ _) ec,λi a=>?_⟩;rw [kO D L G _ (ub (aT D L G) lost (D+L+G) Zd _ (T6 a))];omega
def LG (D L G lost:Nat) (w:ZS) (e:ZO) (w':ZS):Prop:=∃ b:Bool,e=Z3 (Z1 b)/\(b=ZU↔gu D L G lost)/\bW w w'
theorem lg (D L G lost:Nat) (E:cW D L G=ZU) (i:D<=12) (x:1<=L) (o:L<=4) (j:G<=4) (u:D%L=0) (hl:lost<18446744073709551616) (w:ZS) :
 ZP ZK 92 #[.agg #[Z7 Z9 D,Z7 Z9 L,Z7 Z9 G],Z7 Z8 lost] w λe w'=>LG D L G lost w e w':=by
 go_enter func92,ntmps92;go_wp2_with fail;refine (kD D L G E i x o j u _).mono ?_;rintro e w1 ⟨v,T,rfl,g,p,b⟩;try change ZQ _ _ _ at g
 try change ZQ _ _ _ at b
 rw [Uh] at g b;have s:=b.size;try change ZQ _ _ _ at s
 rw [Uh] at s;obtain ⟨l,H,I⟩:=cQ b;have q:=g.rdH p (kO D L G) Zd;have n:bW w w1:=(bA _ _).trans (b.mono ec);have A:=ak q;have z:=ak n;clear g p b H I q n;go_wp2;go_region_held (λw'=>w'.cell? ⟨w.heap.size,0,ZW⟩=ZV (Z7 Z9 (D:Nat))) (first|assumption|exact l)
  (first
   | (go_at_call 124;refine (Ly _ (aT D L G) lost _ (show Rd w1.drew _ _ from A.out) hl Zd).mono ?_;rintro e w2 ⟨M,rfl,f⟩;rw [cJ] at f
      have d:w2.cell? ⟨w.heap.size,0,ZW⟩=ZV (Z7 Z9 (D:Nat)):=(by rw [f.choose_spec.2.2.2.cell (Uf l)];exact l);have h:=ak f;clear f)
   | (go_at_call 123;refine (LF _ _ _ (h.out.rd (TU (jP _ _ _) ec)) (h.out.rd (TU (jP _ _ _) ec)).byte).mono ?_
      rintro e J ⟨m,_,c⟩;obtain ⟨k,K,rfl,r⟩:=m (CD D L G lost i o j);have F:J.cell? ⟨w.heap.size,0,ZW⟩=ZV (Z7 Z9 (D:Nat)):=(by rw [c.cell (Uf d)];exact d);have B:=ak r;have y:=ak c;clear m r c))
 go_wp2;go_ret;have a:=h.out.choose_spec.2.2.2;have c:=y.out;have C:=a.size;change w1.heap.size<=_ at C;have t:bW w w2:=z.out.trans ((show bW w1 w2 from ⟨a.os,a.tape,a.output,a.size,a.block⟩).mono ec);refine ⟨((k:Int)==(D:Int)),rfl,?_,t.trans (c.mono ec)⟩;rw [<- CC i j B.out];simp;omega
theorem sB (lost k:Nat) (hl:lost<18446744073709551616) (b:k<=64) (w:ZS) :
 ZP ZK 17 #[Z7 Z8 lost,Z7 Z9 k] w λe w'=>e=Z3 (Z1 (((lost/2^k%2:Nat):Int)==1))/\w'=w:=by
 have a:=Gx lost k hl;go_enter func17,ntmps17;go_wp2;go_ret;exact ⟨rfl,rfl⟩
theorem pW (D L G lost:Nat) (Z:cW D L G=ZU) (y:D<=12) (hL:1<=L) (U:L<=4) (z:G<=4) (N:D%L=0) (hl:lost<18446744073709551616) (w:ZS) :
 ZP ZK 23 #[.agg #[Z7 Z9 D,Z7 Z9 L,Z7 Z9 G],Z7 Z8 lost] w λe w'=>LG D L G lost w e w':=by
 obtain ⟨i0,kc,kj,kk,km⟩:=Uu Tryz.RU;go_enter func23,ntmps23;go_wp2_with fail;refine (wD D L G Z y hL U z N _).mono ?_;rintro e w1 ⟨v,T,rfl,n,P,f⟩;try change ZQ _ _ _ at n
 try change ZQ _ _ _ at f
 rw [Uh] at n f;have kh:=f.size;try change ZQ _ _ _ at kh
 rw [Uh] at kh;obtain ⟨p0,p1,p2⟩:=cQ f;have hv:=n.rdH P (kO D L G) Zd;have K:bW w w1:=(bA _ _).trans (f.mono ec);have k0:=ak K;have C:=cJ D L G;have kf:(aT D L G).length<=64:=ec
 clear n P f p1 p2 K;have S:=ak (λk=>CC (lost:=lost) (L:=L) (k:=k) y z);have R:=ak (CD D L G lost y U z);rw [<- C] at S R;have k9:=ak C;clear C Z N;generalize aT D L G=M at *;rcases hv.cases with ⟨rfl,ao,c,rfl⟩|⟨b,off,c,rfl,_,B⟩
 . exfalso;have:=k9.out;simp at this;omega
 . clear hv;go_wp2;go_loopw [7,8] (λv i wr=>KpR w1 M lost v i wr) (λ_ i _=>M.length-(intOf i).toNat)
   case atStart=>exact ⟨0,T8 _,rfl,Rl.nil _⟩
   case round=>
    rename ZS=>wo;obtain ⟨k,hk,rfl,a⟩:=hrel;have d:wo.cell? ⟨w.heap.size,0,ZW⟩=ZV (Z7 Z9 (D:Nat)):=(by rw [a.choose_spec.2.2.2.cell (Uf p0)];exact p0);by_cases X:k<M.length
    . obtain ⟨u,F,x⟩:=B k X;have ki:wo.cell? ⟨b,off+k,ZW⟩=ZV u:=(by rw [a.choose_spec.2.2.2.cell (Uf F)];exact F);obtain ⟨au,cu,rfl,_⟩:=id x;have HK:=ak (jP M lost k);have H:=ak x;have O:M.getD k []=M[k]:=(by simp [X]);have k5:=ak O;clear B x F O;by_cases m:lost/2^k%2=0
      . have r:=ak (show (((lost/2^k%2:Nat):Int)==1)=ZT by rw [m];rfl);have k6:=ak (Gw M lost k m);clear m;obtain ⟨xs,s,Q,t,A⟩:=a;have HX:=ak Q;have k8:=ak s;have kp:xs.length<=64:=(by rw [s];exact TU HK.o ec);have hs:=A.size;clear Q s;go_wp2_with (first
         | (go_at_call 17;refine (sB lost k hl ec _).mono ?_;rintro e w' ⟨rfl,l⟩;have E:=l.symm;clear l;subst E;rw [r.o])
         | (at_builtin;refine WM _ rfl (Z0 29) (Z0 34) 108 rfl w1.heap.size 40 i0 (Z5 ZW 0 0) 1 24 VS kc kj kk km rfl ee _ xs.length xs rfl (aq t (bA _ _)) ⟨wo.heap.size,0,ZW⟩ 1 1 [.slice au (M[k]).length cu] rfl rfl (l9 _ _ rfl _ _) (by intro q Y;simp at Y;rw [Y];exact H.o.one) eD ec B8 ?_;intro v' w2 J I kg))
        have V:=Rl.push k8.out HX.o t A rfl H.o I J;rw [<- k5.out,<- k6.out] at V;clear t J I kg A ki d;go_wp2;go_roundw
        case rel=>exact ⟨k+1,ec,eT,V⟩
        case measure=>simp [intOf];omega
      . have g:lost/2^k%2=1:=ec;have r:=ak (show (((lost/2^k%2:Nat):Int)==1)=ZU by rw [g];rfl);have k7:=ak (Cu M lost k m);clear m g;have p:=ak a;clear a;go_wp2_with (go_at_call 17;refine (sB lost k hl ec _).mono ?_;rintro e w' ⟨rfl,l⟩;have E:=l.symm;clear l;subst E;rw [r.o]);go_roundw
        case rel=>exact ⟨k+1,ec,eT,by rw [k7.out];exact p.o⟩
        case measure=>simp [intOf];omega
    . have ke:k=M.length:=ec;rw [ke] at a;have p:=ak a;have ka:=ak (a.rd (TU (jP _ _ _) ec));clear B a;go_wp2_with fail;refine (Ih _ _ _ ka.out).mono ?_;rintro e w3 ⟨g,_,h⟩;obtain ⟨j,hj,rfl,hx⟩:=g R.out;have hb:w3.cell? ⟨w.heap.size,0,ZW⟩=ZV (Z7 Z9 (D:Nat)):=(by rw [h.cell (Uf d)];exact d);have kb:=ak hx;have hy:=ak h;clear g hx h;go_wp2;go_ret;have W:=p.o.choose_spec.2.2.2;have h:=hy.out;have ko:=W.size;refine ⟨((j:Int)==(D:Int)),rfl,?_,(k0.out.trans (W.mono ec)).trans (h.mono ec)⟩;rw [<- S.out _ kb.out];simp;omega
def dg (D L G:Nat) (dl:a8):List a8:=fs (aT D L G) (dQ D dl) 44
def lP (D L G:Nat) (dl:a8):(dg D L G dl).length=D+L+G:=by unfold dg fs;rw [Ue,cJ]
def IK {dl:a8} (hl:dl.length<=D*44) (d:1<=D):Fit (dQ D dl)/\((dQ D dl).getD 0 []).length=44:=by
 have a:((dQ D dl).getD 0 []).length=44:=by
  have e:(dQ D dl).getD 0 []=(dQ D dl)[0]'(by rw [dW];omega):=by simp [dW,(ec:0<D)]
  rw [e,ou];exact mj hl ec
 refine ⟨λi c=>?_,a⟩;have b:=c;rw [dW] at b;unfold Ct;rw [a,ou c,mj hl b];exact ⟨rfl,ee⟩
def LH (w:ZS) (base:Nat) (M:List a8) (u:ZR):Prop:=∃ T,eh w base u T/\cM T 44 M
def rq (c:D<=12) (d:G<=4) (dl:a8) (i:Nat) (a:i<(dg D L G dl).length):((dg D L G dl)[i]).length=44/\∀ x∈(dg D L G dl)[i],x<256:=by
 have b:i<(aT D L G).length:=by rw [cJ];rw [lP] at a;exact a
 have e:(dg D L G dl)[i]=cI (aT D L G)[i] (dQ D dl) 44 (dQ D dl).length:=by simp [dg,fs]
 rw [e];exact ⟨gh _ _ _ _,pU _ _ (oH D L G c d _ (T6 b)) _ _⟩
def LH.rows (h:LH w base M u) (v:M≠[]) (r:∀ i (d:i<M.length),M[i].length=44/\∀ x∈M[i],x<256):∃ g c,u=Z5 (ZV ⟨g,0,ZW⟩) M.length c/\NL w base g M:=by
 obtain ⟨T,l,k⟩:=h;have f:T.length=M.length:=oD (Ux YL k)
 rcases l.shape with ⟨_,q⟩|⟨g,cap,m,n,D,E,o,p,_,_⟩
 . exact absurd (UW (by rw [<- f,q];rfl)) v
 . refine ⟨g,cap,by rw [m,f],n,o,λi d=>?_⟩;have a:i<T.length:=ec;have s:=k.at a d;obtain ⟨A,e,F,G,H⟩:=l.row T[i] (T6 a);have b:=p i a;unfold fX at b;rw [s] at b e;obtain ⟨B,C⟩:=r i d;refine ⟨T[i].1,0,M[i].length,b,A,e.lt,λj u z=>?_,B,C⟩;have y:=e.SO;have t:(aJ M[i]).toArray[j]?=ZV u:=(oD z);simp [World.cell?,y,t]
def lQ {l:Nat} (b:gu D L G lost) (c:∀ i,l.testBit i=ZU->lost.testBit i=ZU):gu D L G l:=yu _ lost l _ D (λi _ d=>by
 have a:=c i;rw [Wy,Wy,V4,V4] at a;have:=VN (l/2^i);omega) b
def az.fine (A:az) (D L G:Nat):Prop:=gu D L G A.sv/\∀ i,i<A.n->A.lost i=ZU->A.sv.testBit i=ZU
def CE {A:az} {f:Nat->bG} (h:gnB (A.putAt ds b f) m i=ZU):gnB A m i=ZU:=by
 unfold gnB az.putAt at h;unfold gnB;by_cases e:m=b/\i∈ds
 . simp only [TT e,Bool.or_false] at h;rw [h];rfl
 . simp only [TS e] at h;exact h
def ry {A:az} {f:Nat->bG} (a:i∈ds) (h:gnB (A.putAt ds b f) b i=ZU):A.lost i=ZU:=by
 simpa [gnB,az.putAt,a] using h
structure dJ (A B:az):Prop where
 n:B.n=A.n
 nb:B.nb=A.nb
 tn:B.tn=A.tn
 lost:B.lost=A.lost
 sv:B.sv=A.sv
 gn:∀ b i,gnB B b i=ZU->gnB A b i=ZU
def dJ.refl (A:az):dJ A A:=⟨rfl,rfl,rfl,rfl,rfl,λ_ _=>id⟩
def dJ.trans {A B C:az} (h:dJ A B) (a:dJ B C):dJ A C:=⟨a.n.trans h.n,a.nb.trans h.nb,a.tn.trans h.tn,a.lost.trans h.lost,a.sv.trans h.sv,λi b c=>h.gn i b (a.gn i b c)⟩
def dJ.put (A:az) (ds:a8) (b:Nat) (f:Nat->bG):dJ A (A.putAt ds b f):=⟨rfl,rfl,rfl,rfl,rfl,λ_ _=>CE⟩
def dJ.fine {A B:az} (h:dJ A B):A.fine D L G->B.fine D L G:=λq=>⟨h.sv▸q.1,λi a e=>by rw [h.sv];exact q.2 i (h.n▸a) (by rw [<- h.lost];exact e)⟩
structure Alw (A B:az):Prop where
 n:B.n=A.n
 nb:B.nb=A.nb
 sv:B.sv=A.sv
 gn:∀ b i,gnB B b i=ZU->gnB A b i=ZU\/A.sv.testBit i=ZU
def dJ.Tq {A B:az} (h:dJ A B):Alw A B:=⟨h.n,h.nb,h.sv,λb i q=>.inl (h.gn b i q)⟩
theorem ji (q:Nat->Bool) (i:Nat):∀ (l:a8),(jL q l).testBit i=ZU↔i∈l/\q i=ZU:=by
 intro l;suffices ∀ (l:a8) (s:Nat),(l.foldl (λs d=>if q d=ZU then s|||2^d else s) s).testBit i=ZU↔s.testBit i=ZU\/(i∈l/\q i=ZU) by
  have h:=this l 0;rw [V7] at h;unfold jL;rw [h];simp
 intro l;induction l with
 | nil=>intro s;simp
 | cons d l ih=>
  intro s;rw [Xc,ih];by_cases b:q d=ZU
  . rw [TT b,V6,Xj,X9,decide_eq_true_iff,Uv];constructor
    . rintro ((h|h)|h)
      . exact .inl h
      . subst h;exact .inr ⟨.inl rfl,b⟩
      . exact .inr ⟨.inr h.1,h.2⟩
    . rintro (h|⟨h|h,a⟩)
      . exact .inl (.inl h)
      . exact .inl (.inr h.symm)
      . exact .inr ⟨h,a⟩
  . rw [TS b,Uv];constructor
    . rintro (h|h)
      . exact .inl h
      . exact .inr ⟨.inr h.1,h.2⟩
    . rintro (h|⟨h|h,a⟩)
      . exact .inl h
      . subst h;exact absurd a b
      . exact .inr ⟨h,a⟩
def vT (D L G:Nat) (dl:a8) (i:Nat):a8:=(dg D L G dl).getD i []
def PP (D L G:Nat) (dl:a8) (i:Nat):bG:=.shard (vT D L G dl i)
def pX (b:wt D L G) (dl:a8) {i:Nat} (c:i<D+L+G):(vT D L G dl i).length=44/\∀ x∈vT D L G dl i,x<256:=by
 have a:i<(dg D L G dl).length:=by rw [lP];exact c
 have e:vT D L G dl i=(dg D L G dl)[i]:=by unfold vT;simp [a]
 rw [e];exact rq b.d b.g _ i a
def az.TR (A:az) (D L G b:Nat) (dl:a8):az:=A.putAt (YE A.n) b (PP D L G dl)
def Q4 (w:ZS) (p:Nat) (B:az) (F:aK) (e:ZO) (w':ZS):Prop:=e=Z3 .nilIface/\aA w' p B F/\aa F.S w w'
theorem lh {v:Nat} {A:az} (f:pG w v p D L G ps ho A F) (k6:A.fine D L G) (b:Nat) (j:b<A.nb) (W:ZR) (dl:a8) (Q:Bs w W dl) (k5:dl.length<=D*44) :
 ZP ZK 165 #[Z6 (ZV ⟨v,0,ZW⟩),Z7 Z9 b,W] w (Q4 w p (A.TR D L G b dl) F):=by
 obtain ⟨hr,hj,B,hL,hm,K,h4,hg⟩:=f.par;have hn:=f.n;have HD:=ak Q;have q:=lP D L G dl;have h1:=rq (L:=L) B K dl;obtain ⟨M,N⟩:=nM (dg D L G dl);rw [N] at q h1;have y:=al N q;clear N q;have hz:=QK (f.vol.keep (w':=w.drew) rfl) B W dl (HD.o.mono (TW _ w).drew) k5;obtain ⟨h5,hh⟩:=IK k5 hj;have R:=λu X h=>EV D L G hr hj B hL hm K h4 u (dQ D dl) X h (dW D dl) h5;rw [hh] at R;obtain ⟨_,c1,c2,c3,_⟩:=f.vol.cells;have HE:=al hz R;clear hz R h5 hh;go_enter func165,ntmps165;go_wp2_with fail;go_region_with (first
  | (go_at_call 190;refine HE.o.1.mono ?_;rintro e w1 ⟨u,rfl,hR,j⟩;obtain ⟨_,d1,d2,d3,_⟩:=(f.vol.keep (j.block _ f.vol.lt)).cells;have a:=al hR j;clear hR j)
  | (go_at_call 189;refine (HE.o.2 _ _ a.o.1).mono ?_;rintro e w2 ⟨x,T,rfl,hT,hH,j⟩;have l:=al (show LH w2 w.heap.size (dg D L G dl) x from ⟨T,hT.weaken a.o.2.size,hH⟩) (show bW w w2 from ((TW _ w).drew).trans (a.o.2.trans (j.mono a.o.2.size)));clear hT hH j))
 all_goals (
  rename ZS=>w1;obtain ⟨I,P⟩:=l.o;rw [y.o.1] at I;have q:=y.o.2;obtain ⟨g,c,rfl,hq⟩:=I.rows (λe=>by rw [e] at q;simp at q;omega) h1;have hs:=f.below P lR;have a:=aE hs hq P;clear I hq hs P q;go_wp2_with fail;refine (kI a.o.1.vol f.par).mono ?_;rintro e w2 ⟨rfl,r⟩;obtain ⟨S,C⟩:=nM (2^(D+L+G)-1);rw [C];have z:ab S=YE A.n:=by rw [<- C,hn];exact ot hg
  have k9:S<65536:=by
   have:2^(D+L+G)<=2^16:=UY ee hg;omega
  have O:=a.o.1.below r lR;have hp:NL w2 w.heap.size g M:=a.o.2.1.keep r.size (λk _ V=>r.block k V);have U:=lf O b S j k9 (λi s=>by rw [z] at s;simpa using s) (m:=M.length) (c:=c) hp (λi s=>by have:=y.o.2;rw [z] at s;simp at s;omega) lR (λk V=>f.arr.RN V);rw [z] at U;have hll:=zR A.lost (YE A.n) (λd Q=>by simp at Q;omega);have k7:gu D L G (jL A.lost (YE A.n)):=lQ k6.1 λi e=>k6.2 i (Ur.1 ((ji _ i _).1 e).1) ((ji _ i _).1 e).2;generalize jL A.lost (YE A.n)=E at *;have l:=a6 U r C O k7;clear O hp U r z C k7;go_wp2_with fail;refine l.o.1.mono ?_;rintro e Y ⟨rfl,H,J⟩;have hO:aa F.S w Y:=(aa.RL (a.o.2.2.trans (l.o.2.1.mono a.o.2.2.size)) _).trans J;have hv:=l.o.2.2.2.1.vol.keep (J.block _ l.o.2.2.2.1.vol.lt f.v);rw [<- y.o.1] at H;obtain ⟨_,g1,g2,g3,_⟩:=hv.cells;have t:=al (show aA Y p (A.TR D L G b dl) F from H) hO;clear H J hO hv;by_cases h0:E=0
  . subst h0;clear g1 g2 g3;go_wp2;go_ret;exact ⟨rfl,t.o.1,t.o.2⟩
  . have k8:¬ (E:Int)=0:=ec;have ka:((E:Int) != 0)=ZU:=(oD k8);have k0:=lg D L G E hr B hL hm K h4 ec Y;clear h0;go_wp2_with fail;refine k0.mono ?_;rintro e w4 ⟨bb,rfl,hy,hx⟩;obtain rfl:bb=ZU:=hy.2 l.o.2.2.2.2;have Z:=ak hx;clear hx k0 g1 g2 g3 hy;go_wp2;go_ret;exact ⟨rfl,t.o.1.below Z.o lR,t.o.2.trans (aa.RL Z.o _)⟩)
def cj (D:Nat) (P l:a8) (k:Nat):a8:=be (P.getD (k+1) 0) 4++(l.drop (k*(D*44-4))).take (D*44-4)
def az.wrTo (A:az) (D L G:Nat) (S:a8) (c:Nat->a8):Nat->az
 | 0=>A
 | k+1=>(A.wrTo D L G S c k).TR D L G (S.getD k 0) (c k)
def kQ (A:az) (D L G:Nat) (S:a8) (c:Nat->a8):∀ k,(A.wrTo D L G S c k).n=A.n/\(A.wrTo D L G S c k).nb=A.nb/\dJ A (A.wrTo D L G S c k)
 | 0=>⟨rfl,rfl,dJ.refl A⟩
 | k+1=>have h:=kQ A D L G S c k;⟨h.1,h.2.1,h.2.2.trans (dJ.put _ _ _ _)⟩
def E4 (w:ZS) (p D L G:Nat) (S:a8) (c:Nat->a8) (A:az) (F:aK) (e:ZO) (w':ZS):Prop:=e=Z3 .nilIface/\aA w' p (A.wrTo D L G S c S.length) F/\aa F.S w w'
def pY (a:1<=D) (P l:a8) (k:Nat):(cj D P l k).length<=D*44:=by
 unfold cj;rw [Ua,aD,Uo];omega
def ug (hl:∀ x∈l,x<256) (P:a8) (k:Nat):∀ x∈cj D P l k,x<256:=by
 intro x a;unfold cj at a;rw [Ui] at a;rcases a with a|a
 . exact qT _ _ x a
 . exact hl x (U0 (UX a))
def CG {size:Nat} {xs:List ZR} (h:w.ownsRow base e size v n xs) (f:aa S w w') (i:∀ k,S k->k<base):w'.ownsRow base e size v n xs:=by
 refine ⟨h.1,?_⟩;rcases h.2 with d|⟨g,cap,cur,b,c,a,r⟩
 . exact .inl d
 . exact .inr ⟨g,cap,cur,b,c,(f.block g (TX.1 a).1 (λq=>e9 (i g q))).trans a,r⟩
def ef.R8 (h:aa S w w'):ef (λk=>¬ S k) w w':=⟨h.size,λk a b=>h.block k a b⟩
def sC (h:bf K w v l) (hl:l≠[]):∃ b off c,v=Z5 (ZV ⟨b,off,ZW⟩) l.length c/\∀ i (e:i<l.length),w.cell? ⟨b,off+i,ZW⟩=ZV (Z7 Z9 ((l[i]:Nat):Int)):=by
 obtain ⟨ao,c,rfl,_,a⟩:=h;obtain ⟨b,off,rfl,_,_,d⟩:=a hl;exact ⟨b,off,c,rfl,d⟩
def Tryz.Sy:(ZK.info? 5).map (λi=>(i.zero,i.size,i.bytes))=ZV (ZV (Z7 .u8 0),1,1):=ei
theorem uh {v:Nat} {A:az} (s:a9 w ar v D' L' G' t f nn pg ob off) (q:pG w v p D L G ps ho A F) (qa:A.fine D L G) (q0:¬ F.S ar)
 (g cap base:Nat) (l:a8) (J:w.ownsRow base 5 1 (Z5 (ZV ⟨g,0,ZW⟩) l.length cap) l.length (aJ l)) (qe:∀ x∈l,x<256) (hll:l.length<=1000000) (hn:∀ k,F.S k->k<base)
 (vp:ZR) (P:a8) (B:bf (λk=>¬ F.S k) w vp P) (kh:∀ x∈P,x<A.nb) (kz:∀ k,k<P.length->k*(D*44-4)<=l.length) :
 ZP ZK 143 #[Z6 (ZV ⟨ar,0,ZW⟩),Z5 (ZV ⟨g,0,ZW⟩) l.length cap,vp] w (E4 w p D L G P (cj D P l) A F):=by
 have hz:=q.par.d1;have hD:=q.par.d;obtain ⟨i0,qb,qn,qo,qp⟩:=Uu Tryz.Sy;obtain ⟨pa,pc,rfl,kg,_⟩:=id B;have k8:=kH s q.vol hz ec;obtain ⟨sz,k9⟩:=nM (D*44-4);have qm:40<=sz/\sz<=524:=ec
 rw [k9] at k8;have qv:=q.arr.Sv.2;have H0:=a5 s q J B;clear s q J B;go_enter func143,ntmps143;go_wp2_with fail;refine k8.mono ?_;rintro e w1 ⟨rfl,rfl⟩;clear k8;go_wp2;go_loopw [17] (λi wr=>∃ k:Nat,i=Z7 Z9 (k:Nat)/\k<=P.length/\aA wr p (A.wrTo D L G P (cj D P l) k) F/\aa (F.S) w1 wr) (λi _=>P.length-(intOf i).toNat)
 case atStart=>exact ⟨0,rfl,T8 _,H0.o.2.1.arr,aa.refl _ _⟩
 case round=>
  obtain ⟨k,rfl,hk,K,r⟩:=hrel;by_cases E:k<P.length
  . obtain ⟨s,q,J,B⟩:=H0.o;have ki:=B.keep (ef.R8 r);obtain ⟨b,bo,c',e1,k0⟩:=sC ki (λe=>by rw [e] at E;simp at E);simp only [Vx] at e1;obtain ⟨rfl,_,rfl⟩:=e1;have c1:=k0 k E;obtain ⟨y,V⟩:=nM (P[k]);rw [V] at c1;have kb:y<A.nb:=(by rw [<- V];exact kh _ (T6 E));obtain ⟨nx,H⟩:=nM (P.getD (k+1) 0);have hp:(k+1<P.length/\wr.cell? ⟨b,bo+(k+1),ZW⟩=ZV (Z7 Z9 (nx:Nat)))\/(¬ k+1<P.length/\nx=0):=by
     by_cases h:k+1<P.length
     . have:=k0 (k+1) h;have e:P.getD (k+1) 0=P[k+1]:=(by simp [h]);rw [<- e,H] at this;exact .inl ⟨h,this⟩
     . exact .inr ⟨h,by rw [<- H];simp [(ec:P.length<=k+1)]⟩
    have qj:nx<1000001:=by
     rcases X3 (k+1) P.length with h|h
     . have e:P.getD (k+1) 0=P[k+1]:=(by simp [h]);rw [<- H,e];have:=kh _ (T6 h);omega
     . rw [<- H];simp [h]
    have k7:=kQ A D L G P (cj D P l) k;have kj:=q.turn r K k7.1;have h7:=CG J r hn;have hx:=s.keep (r.block _ s.lt q0);obtain ⟨ca,_⟩:=hx.cells;have m:=hide8 K r kj h7 k7 hx H V;clear K r kj h7 k7 hx H V k0 ki s q J B;have k6:=kz k E;rw [k9] at k6;have q9:l.length<=cap:=by
     rcases m.o.2.2.2.1.2 with ⟨e,_⟩|⟨g',cap',cur,e,_,_,hc,_⟩
     . cases e
     . simp only [Vx] at e;omega
    have O:(k+1)*sz=k*sz+sz:=W5 k sz;have qf:(k:Int)*(sz:Int)=((k*sz:Nat):Int):=(by rw [XJ]);have qg:((k:Int)+1)*(sz:Int)=(((k+1)*sz:Nat):Int):=(by rw [XJ];rfl);obtain ⟨a,U⟩:=nM (k*sz);obtain ⟨n,Z⟩:=nM ((k+1)*sz);rw [U] at qf O k6;rw [Z] at qg O;obtain ⟨bb,kk⟩:=nM (min n l.length);have qq:a<=bb:=ec;have qs:bb<=cap:=ec;have R:bb-a<=524:=ec;have Y:((l.drop a).take sz).length=bb-a:=(by rw [Uo,Um];omega);have qh:∀ I ty w,(Builtin.min_ I ty #[Z7 Z9 (n:Nat),Z7 Z9 (l.length:Nat)]).run ZK w=.ok (Z7 Z9 (bb:Nat)) w:=λI ty w=>by
     rw [je];by_cases h:((l.length:Nat):Int)<((n:Nat):Int)
     . rw [TT h,(ec:bb=l.length)]
     . rw [TS h,(ec:bb=n)]
    have hq:∀ W:ZS,W.ownsRow base 5 1 (Z5 (ZV ⟨g,0,ZW⟩) l.length cap) l.length (aJ l)->Src ZK 1 40 (.slice (if cap=a then ZV ⟨g,0,ZW⟩ else ZV ⟨g,a,ZW⟩) (bb-a) (cap-a)) (bb-a) (aJ ((l.drop a).take sz)) W:=λW Q=>by
     have qk:W.rangeAt g 0 (aJ l):=λj u c=>by have:=Q.cells (g:=g) rfl j u c;rw [jG] at this;rw [Uj];exact this
     by_cases T:cap=a
     . have h0:(l.drop a).take sz=[]:=UW ec;rw [TT T,h0,(ec:bb-a=0)];exact Vl W Un ⟨g,0,ZW⟩ 0 (cap-a) (aJ []) rfl (λj u c=>by simp [aJ] at c) (λu c=>by simp [aJ] at c)
     . rw [TS T];have kr:=nl sz (fZ a qk);rw [Uj] at kr;exact Vl W Un ⟨g,a,ZW⟩ (bb-a) (cap-a) _ (by rw [aX,Y,Wg]) (λj u c=>by rw [Vo];exact kr j u c) (λu c=>by unfold aJ at c;rw [T9] at c;obtain ⟨x,_,rfl⟩:=c;rfl)
    have h8:∀ (W:ZS) (u:ZR),W.ownsRow wr.heap.size 5 1 u (0+4+(bb-a)) ([]++aJ (be nx 4)++aJ ((l.drop a).take sz))->Bs W u (cj D P l k):=λW u c=>by
     have e:[]++aJ (be nx 4)++aJ ((l.drop a).take sz)=aJ (cj D P l k):=by
      unfold cj;rw [k9,U,m.o.2.2.2.2.2.2.1,bJ,Uq]
     rw [e] at c;exact Bs.Se c (ug qe P k) (TU (pY hz P l k) ec)
    have h2:∀ (W:ZS) (u:ZR),bW wr W->Bs W u (cj D P l k)->ZP ZK 165 #[Z6 (ZV ⟨v,0,ZW⟩),Z7 Z9 (y:Nat),u] W λe w'=>e=Z3 .nilIface/\aA w' p (A.wrTo D L G P (cj D P l) (k+1)) F/\aa F.S w1 w':=λW u Q c=>by
     obtain ⟨q1,q2,q3,q4,q5,q6,q7,q8⟩:=m.o;refine (lh (q3.below Q lR) (q5.2.2.fine qa) y (by rw [q5.2.1];exact kb) u (cj D P l k) c (pY hz P l k)).mono ?_;rintro e w' ⟨rfl,kx,ky⟩;have ey:P.getD k 0=y:=(by rw [<- q8];simp [E]);refine ⟨rfl,?_,q2.trans ((aa.RL Q _).trans ky)⟩;show aA w' p ((A.wrTo D L G P (cj D P l) k).TR D L G (P.getD k 0) (cj D P l k)) F;rw [ey];exact kx
    have kc:=al h8 h2;clear h8 h2;have HK:=a7 U Z kk Y k6 O;have qx:IntKind.u64.wrap (nx:Int)=(nx:Int):=K1;have qd:a<=1000000/\n<=1000524/\bb<=1000000:=ec;clear U Z kk Y O;go_upto_if 26 with fail;go_cut [10] from 27 to 31 (λu wc=>u=Z7 Z9 (nx:Nat)/\wc=wr)
    case first=>
     rcases hp with ⟨h,c2⟩|⟨h,qi⟩
     . have kv:(k:Int)+1<((P.length:Nat):Int):=ec;go_wp2;go_meet
       case rel=>exact ⟨rfl,rfl⟩
     . have kv:¬ (k:Int)+1<((P.length:Nat):Int):=ec;subst qi;go_wp2;go_meet
       case rel=>exact ⟨rfl,rfl⟩
    case rest=>
    obtain ⟨rfl,ka⟩:=hcut;have ka:=ka.symm;subst ka;clear hp c1;go_wp2_with fail;refine (fY wr.heap.size (Z5 ZW 0 0) 0 [] nx 4 wr (UK _ _ _ _) lR ee ee).mono ?_;rintro e w2 ⟨v2,rfl,ko,C,hm⟩;have N:bW wr w2:=⟨C.os,C.tape,C.output,C.size,λk hk=>C.block k hk (λe=>by simp [Value.ownBlock] at e)⟩;have X:=aq m.o.2.2.2.1 N;have hh:=m.o.2.2.2.2.2.1.keep (N.block _ m.o.2.2.2.2.2.1.lt);obtain ⟨cb,_⟩:=hh.cells;have z:=a6 ko N (hq w2 X) X hm;clear ko C N X hm hh;go_wp2_with (
     at_builtin;
     refine ae _ rfl (Z0 35) (Z0 47) 40 40 rfl wr.heap.size 5 i0 (Z7 .u8 0) 1 1 Un qb qn qo qp rfl v2 (0+4) ([]++aJ (be nx 4)) um (by exact z.o.1) _ um (bb-a) (aJ ((l.drop a).take sz)) (by exact z.o.2.2.1) eD ec (by exact z.o.2.1.size) ?_;
     intro v3 w3 kp km k5;
     have R:bW wr w3:=z.o.2.1.grown km z.o.2.1.size (λk e=>(z.o.1.lt k e).1);
     have hi:=m.o.2.2.2.2.2.1.keep (R.block _ m.o.2.2.2.2.2.1.lt);
     obtain ⟨cc,_⟩:=hi.cells;
     have H3:=al kp R;
     clear kp R km k5 hi)
    all_goals
     refine (kc.out.2 w3 v3 H3.o.2 (kc.out.1 w3 v3 H3.o.1)).mono ?_;rintro e w4 ⟨rfl,ke,kf⟩
     . have M:=al ke kf;clear ke kf;go_wp2;first
        | exact ⟨⟨k+1,eT,ec,M.o.1,M.o.2⟩,by simp only [intOf];omega⟩
        | (have T:cap=a:=by assumption
           subst T;go_roundw
           case rel=>exact ⟨k+1,eT,ec,M.o.1,M.o.2⟩
           case measure=>
            show P.length-((k:Int)+1).toNat<P.length-((k:Nat):Int).toNat;omega)
  . have qc:k=P.length:=ec;subst qc;have m:=al K r;clear K r;go_wp2;go_ret;exact ⟨rfl,m.o.1,m.o.2⟩
def nx (t:Nat):Nat:=(t+1)%18446744073709551616
def aaI (t:Nat):nx t<18446744073709551616:=Wc _ ee
def pZ (w:ZS):(zeroValue 142).run ZK w=.ok (.agg (aj 0 0 0 0 0 0)) w:=by
 obtain ⟨a,b,c⟩:∃ a,ZK.info? 142=ZV a/\a.zero=ZV (.agg (aj 0 0 0 0 0 0)):=by
  have:(ZK.info? 142).map (λi=>i.zero)=ZV (ZV (.agg (aj 0 0 0 0 0 0))):=ei
  rw [Wk] at this;exact this
 simp [zeroValue,typeInfo,UE,b,c]
def kR (D L G t f n:Nat):(ZK.info? 142).map (λi=>i.size)=ZV (aj D L G t f n).size:=ei
def qt (D L G t f n:Nat):(aj D L G t f n).all (λv=>v.oneCell')=ZU:=by simp [aj,Value.oneCell']
def ui (h:w.heap[b]?=ZV (Z4 cs 142 (0,0))) (a:cs.size=6):(Instr.storeAt 142 (Z6 (ZV ⟨b,0,ZW⟩)) (.agg (aj D L G t f n))).run ZK w=.ok () (w.setRow b (aj D L G t f n)):=by
 simp only [Instr.storeAt,Instr.sureAddr,UE,VP,UT,X1 w b 142 142 cs (aj D L G t f n) h (kR D L G t f n) T2 (qt D L G t f n)]
def E5 (h:w.heap[q]?=ZV (Z4 (aj D L G t f n) 142 (0,0))):(Instr.loadAt 142 (Z6 (ZV ⟨q,0,ZW⟩))).run ZK w=.ok (.agg (aj D L G t f n)) w:=by
 simp only [Instr.loadAt,Instr.sureAddr,UE,VP,UT,Xf w q 142 142 (aj D L G t f n) (0,0) _ h XF rfl ei]
def kS (e:o.guard=ZW) (x:ZL) (ho:o.op=.load 142 x) {b D L G t f n:Nat} {ra:Array ZR} (c:ra=aj D L G t f n)
 (g:a.eval x=Z6 (ZV ⟨b,0,ZW⟩)) (d:w.heap[b]?=ZV (Z4 (aj D L G t f n) 142 (0,0))) (h:wpList ZK ops Q rest (a.put o.dst (.agg ra)) w):wpList ZK ops Q (o::rest) a w:=by
 refine V0 e λK hK=>?_;subst c;unfold Oper.wp;simp [execOp,ho,g,E5 d,Result.andThen];exact hK _ _ h
def CH {v:Nat} (h:a9 w ar v D' L' G' t' f' n' pg ob off):a9 (w.setCells ar 1 (aj D L G t f n).toList) ar v D L G t f n pg ob off:=by
 have a:w.heap[ar]?=ZV (Z4 (jK v D' L' G' t' f' n' pg ob off) 146 (0,0)):=h;have:=ag (j:=6) (ag (j:=5) (ag (j:=4) (ag (j:=3) (ag (j:=2) (ag (j:=1) a (Z7 Z9 (D:Int))) (Z7 Z9 (L:Int))) (Z7 Z9 (G:Int))) (Z7 Z8 (t:Int))) (Z7 Z9 (f:Int))) (Z7 Z9 (n:Int));exact this
def a9.there {v:Nat} (h:a9 w ar v D' L' G' t' f' n' pg ob off):w.there ar 1 6:=by
 have a:w.heap[ar]?=ZV (Z4 (jK v D' L' G' t' f' n' pg ob off) 146 (0,0)):=h;intro j b;match j,b with
 | 0,_|1,_|2,_|3,_|4,_|5,_=>simp [World.cell?,World.frozen?,a,jK]
 | n+6,hn=>exact absurd hn ec
def a9.late {v:Nat} (h:a9 w ar v D' L' G' t' f' n' pg ob off) (b a:ZR):a9 ((w.setCell ⟨ar,7,ZW⟩ b).setCell ⟨ar,8,ZW⟩ a) ar v D' L' G' t' f' n' b a off:=by
 have c:w.heap[ar]?=ZV (Z4 (jK v D' L' G' t' f' n' pg ob off) 146 (0,0)):=h;exact ag (j:=8) (ag (j:=7) c b) a
def a9.tail {v:Nat} (h:a9 w ar v D' L' G' t' f' n' pg ob off):w.cell? ⟨ar,7,ZW⟩=ZV pg/\w.frozen? ⟨ar,7,ZW⟩=ZT/\w.cell? ⟨ar,8,ZW⟩=ZV ob/\w.frozen? ⟨ar,8,ZW⟩=ZT:=by
 have a:w.heap[ar]?=ZV (Z4 (jK v D' L' G' t' f' n' pg ob off) 146 (0,0)):=h;simp [World.cell?,World.frozen?,a,jK]
def E6 (w:ZS) (vo:ZR) (l:a8):Prop:=∀ W,bW w W->ZP ZK 142 #[vo] W λe w'=>∃ g cap,e=Z3 (Z5 (ZV ⟨g,0,ZW⟩) l.length cap)/\w'.ownsRow W.heap.size 5 1 (Z5 (ZV ⟨g,0,ZW⟩) l.length cap) l.length (aJ l)/\bW W w'
def az.TQ (A:az) (D L G t:Nat) (P l:a8):az:=(A.wrTo D L G P (cj D P l) P.length).putAt (YE A.n) 0 (λ_=>.root D L G t (P.getD 0 0) l.length)
def LI (w:ZS) (ar v p D L G t:Nat) (A:az) (F:aK) (P l:a8) (vp vo:ZR) (off:Bool) (e:ZO) (w':ZS):Prop:=aa (λk=>k=ar\/F.S k) w w'/\e=Z3 .nilIface/\aA w' p (A.TQ D L G (nx t) P l) F/\a9 w' ar v D L G (nx t) (P.getD 0 0) l.length vp vo off
theorem nz {v:Nat} {A:az} (ha:a9 w ar v D' L' G' t f nn pg ob off) (K:pG w v p D L G ps ho A F) (qh:A.fine D L G) (W:¬ F.S ar)
 (oo:Option Addr) (on oc:Nat) (l:a8) (qi:∀ x∈l,x<256) (hll:l.length<=1000000) (qk:E6 w (.slice oo on oc) l)
 (pb U pc:Nat) (P:a8) (hP:bf (λk=>¬ F.S k) w (Z5 (ZV ⟨pb,U,ZW⟩) P.length pc) P) (q0:P≠[]) (q2:∀ x∈P,x<A.nb) (qc:∀ k,k<P.length->k*(D*44-4)<=l.length) :
 ZP ZK 105 #[Z6 (ZV ⟨ar,0,ZW⟩),.slice oo on oc,Z5 (ZV ⟨pb,U,ZW⟩) P.length pc] w (LI w ar v p D L G t A F P l (Z5 (ZV ⟨pb,U,ZW⟩) P.length pc) (.slice oo on oc) off):=by
 obtain ⟨hr,qo,hD,hL,qp,hG,qf,ks⟩:=K.par;have hn:=K.n;have hf:0<P.length:=Ym.2 q0;obtain ⟨f0,kf⟩:=nM (P.getD 0 0);have hp:P[0]=f0:=by rw [<- kf];simp [hf]
 have qq:=K.arr.Sv.2;have qg:f0<A.nb:=by rw [<- hp];exact q2 _ (T6 _)
 have qj:(bG.root D L G (nx t) f0 l.length).ok:=by
  have:=aaI t;exact ⟨ec,ec,ec,ec,ec,ec⟩
 unfold LI az.TQ;rw [kf];have HA:=al kf hp;have HP:=ak hP;clear kf hp hP;go_enter func105,ntmps105;go_wp2_with fail;refine (qk w (TW _ w)).mono ?_;rintro e w1 ⟨g,cap,rfl,ka,B⟩;have M:=ha.keep (B.block _ ha.lt);have R:=K.below B lR;have hg:=HP.o.keep (ef.RM B);have qa:=uh M R qh W g cap w.heap.size l ka qi hll (λk O=>K.arr.RN O) _ P hg q2 qc;have H1:=a6 B qa hg M R;clear B qa hg ka M R;go_wp2_with fail;refine H1.o.2.1.mono ?_;rintro e w2 ⟨rfl,kv,Q⟩;obtain ⟨B,_,k7,M,R⟩:=H1.o;have y:=M.keep (Q.block _ M.lt W);have C:aa F.S w w2:=(aa.RL B _).trans Q;have q6:=kQ A D L G P (cj D P l) P.length;have s:=R.turn Q kv q6.1;have q1:=k7.keep (ef.R8 Q);obtain ⟨b',qv,c',e1,q4⟩:=sC q1 q0;simp only [Vx,UB,abC] at e1;obtain ⟨⟨rfl,rfl,_⟩,_,rfl⟩:=e1;have ko:=q4 0 hf;rw [VR,HA.o.2] at ko;have C:aa (F.S) w w2:=(aa.RL B _).trans Q;have H2:=a5 y s C ko;clear B k7 M R kv Q y s q1 q4 ko C;go_wp2_with fail;go_cut [9] from 19 to 35 (λv9 a=>∃ c,v9=Z6 (ZV ⟨c,0,ZW⟩)/\w2.heap.size<=c/\a.heap[c]?=ZV (Z4 (aj D L G (nx t) f0 l.length) 142 (0,0))/\bW w2 a)
 case first=>
  obtain ⟨y,s,C,he⟩:=H2.o;have Y:∀ a,bW w2 a->a.cell? ⟨ar,0,ZW⟩=ZV (Z6 (ZV ⟨v,0,ZW⟩))/\a.cell? ⟨ar,4,ZW⟩=ZV (Z7 Z8 t)/\a.cell? ⟨pb,U,ZW⟩=ZV (Z7 Z9 f0):=λa m=>by
   have hq:a.heap[ar]?=ZV (Z4 (jK v D' L' G' t f nn pg ob off) 146 (0,0)):=(m.block _ y.lt).trans y;exact ⟨by simp [World.cell?,hq,jK],by simp [World.cell?,hq,jK],(m.cell (p:=⟨pb,U,ZW⟩) (Uf he)).trans he⟩
  have T:bW w2 w2.drew:=(TW _ w2).drew;have n1:IntKind.u64.wrap ((t:Int)+1)=((nx t:Nat):Int):=by rw [Vb];unfold nx;omega
  have qs:=pZ;refine qU (n:=3) 18 [(0,ZU),(1,ZU),(2,ZU),(3,ZU),(5,ZU),(6,ZU),(7,ZU),(8,ZU),(9,ZU),(10,ZU),(11,ZU),(12,ZU),(13,ZU),(14,ZU),(15,ZU)] [[(4,ZT),(16,ZU),(17,ZT),(18,ZT)],[(17,ZT),(4,ZT),(16,ZU),(18,ZT)]] (λa=>a.cell? ⟨ar,0,ZW⟩=ZV (Z6 (ZV ⟨v,0,ZW⟩))/\a.cell? ⟨ar,4,ZW⟩=ZV (Z7 Z8 t)/\a.cell? ⟨pb,U,ZW⟩=ZV (Z7 Z9 f0)) ei ei (Y _ T) ?_;iterate 15 (refine aF rfl rfl ?_;apply YG;refine ⟨λw' V=>?_,?_⟩;(obtain ⟨s1,s2,s3⟩:=V;first|(go_simp;done)|(go_simp;exact rfl));simp only [Act.put,TZ,TY,T5])
  have q7:∀ {a:ZS} {b:Nat},bW w2 a->w2.heap.size<=b->a.heap[b]?=ZV (Z4 (aj 0 0 0 0 0 0) 142 (0,0))->(Instr.storeAt 142 (Z6 (ZV ⟨b,0,ZW⟩)) (.agg (aj D L G (nx t) f0 l.length))).run ZK a=.ok () (a.setRow b (aj D L G (nx t) f0 l.length))/\∃ c,Value.pointer (ZV ⟨b,0,ZW⟩)=Z6 (ZV ⟨c,0,ZW⟩)/\w2.heap.size<=c/\(a.setRow b (aj D L G (nx t) f0 l.length)).heap[c]?=ZV (Z4 (aj D L G (nx t) f0 l.length) 142 (0,0))/\bW w2 (a.setRow b (aj D L G (nx t) f0 l.length)):=λm qe hr=>⟨ui hr rfl,_,rfl,qe,Vt _ _ _ _ _ _ hr,m.trans ⟨rfl,rfl,rfl,by rw [jd];exact TV _,λk O=>(aY _ _ _).block k (e9 m.size) (λq=>by cases q;omega)⟩⟩;refine cH (Bm ?fa ?fb)
  case' fa=>
   refine fG (fI (w:=w2.drew) (s.vol.keep rfl)) rfl rfl ua ?_;rintro e I ⟨rfl,N,-⟩;have r:=T.trans N;refine ⟨_,rfl,λ_=>Y _ r,?_⟩;simp only [Act.put,TZ,TY,T5];refine aF rfl rfl ⟨.agg (aj D L G (nx t) f0 l.length),λw' _=>by go_simp;rfl,?_⟩;simp only [Act.put,TZ,TY,T5];refine eJ (v:=Z6 (ZV ⟨I.heap.size,0,ZW⟩)) (w1:=I.alloc (Z4 (aj 0 0 0 0 0 0) 142)) rfl rfl ua (λ_=>Y _ (r.alloc r.size _)) ?_;have hs:=q7 (r.alloc r.size _) r.size (Ug I (Z4 (aj 0 0 0 0 0 0) 142))
  case' fb=>
   refine eJ (v:=Z6 (ZV ⟨w2.heap.size,0,ZW⟩)) (w1:=w2.drew.alloc (Z4 (aj 0 0 0 0 0 0) 142)) rfl rfl ua (λ_=>Y _ (T.alloc T.size _)) ?_;simp only [Act.put,TZ,TY,T5];have qn:=Ug w2.drew (Z4 (aj 0 0 0 0 0 0) 142);refine fG (fI (w:=w2.drew.alloc (Z4 (aj 0 0 0 0 0 0) 142)) (s.vol.keep (UF w2.drew _ _ s.vol.lt))) rfl rfl ua ?_;rintro e I ⟨rfl,N,-⟩;have r:=(T.alloc T.size (Z4 (aj 0 0 0 0 0 0) 142)).trans (N.mono ek);refine ⟨_,rfl,λ_=>Y _ r,?_⟩;simp only [Act.put,TZ,TY,T5];refine aF rfl rfl ⟨.agg (aj D L G (nx t) f0 l.length),λw' _=>by go_simp;rfl,?_⟩;have hs:=q7 r lR ((N.block _ ek).trans qn)
  all_goals
   simp only [Act.put,TZ,TY,T5];refine ku rfl rfl (by simp [execOp,Act.eval,hs.1];rfl) (absurd rfl) (cH ?_);have HM:=ak hs.2;rename_i hK
   refine hK _ _ ?_;clear hK;simp only [Act.put];go_meet
   case rel=>exact HM.o
 case rest=>
 obtain ⟨c,rfl,kp,d,ke⟩:=hcut;rename ZS=>w3;obtain ⟨y,s,C,he⟩:=H2.o;clear he;have j:=y.keep (ke.block _ y.lt);have u:=s.below ke lR;have E:aa (F.S) w w3:=C.trans (aa.RL ke _);have J:¬ F.S c:=λq=>by have:=K.arr.RN q;have:=C.size;omega
 have H3:=a7 j u E d J kp;clear y s C j u E d J kp ke;go_wp2_with fail;obtain ⟨j,u,E,d,J,kp⟩:=H3.o;obtain ⟨hd,qr,qx,qy⟩:=q6;obtain ⟨S,V⟩:=nM (2^(D+L+G)-1);have ki:ab S=YE A.n:=by rw [<- V,hn];exact ot ks
 have q3:S<65536:=by
  have:2^(D+L+G)<=2^16:=UY ee ks;omega
 have q9:∀ X,bW w3 X->ZP ZK 118 #[Z6 (ZV ⟨v,0,ZW⟩),Z7 Z9 (0:Nat),dI (.root D L G (nx t) f0 l.length),Z7 Z8 S] X λe w'=>(∃ z:Nat,e=Z3 (Z7 Z8 z))/\aA w' p ((A.wrTo D L G P (cj D P l) P.length).putAt (YE A.n) 0 (λ_=>.root D L G (nx t) f0 l.length)) F/\aa (F.S) w3 w':=λX m=>by
  have qd:=u.below m lR;have h:=eZ qd 0 S (by rw [qr];omega) q3 (λi hi=>by rw [hd];rw [ki] at hi;simpa using hi) (.root D L G (nx t) f0 l.length) qj;rw [ki] at h;exact h.mono λe w' q=>⟨⟨_,q.1⟩,q.2.1,(aa.RL m _).trans q.2.2⟩
 have kk:=kI (u.vol.keep (w':=w3.drew) rfl) K.par;rw [V] at kk;have km:∀ X,bW w3 X->X.cell? ⟨ar,0,ZW⟩=ZV (Z6 (ZV ⟨v,0,ZW⟩))/\X.cell? ⟨c,0,ZW⟩=ZV (Z7 Z9 D)/\X.cell? ⟨c,1,ZW⟩=ZV (Z7 Z9 L)/\X.cell? ⟨c,2,ZW⟩=ZV (Z7 Z9 G)/\X.cell? ⟨c,3,ZW⟩=ZV (Z7 Z8 (nx t))/\X.cell? ⟨c,4,ZW⟩=ZV (Z7 Z9 f0)/\X.cell? ⟨c,5,ZW⟩=ZV (Z7 Z9 l.length):=λX m=>by
  have qm:X.heap[c]?=ZV (Z4 (aj D L G (nx t) f0 l.length) 142 (0,0)):=(m.block c (TX.1 d).1).trans d;refine ⟨(j.keep (m.block _ j.lt)).cells.1,?_,?_,?_,?_,?_,?_⟩<;>simp [World.cell?,qm,aj]
 obtain ⟨k0,k1,k2,k3,k4,k5,k6⟩:=km w3 (TW _ _);have Z:=aE q9 kk km;have qb:=a6 j u E d J;clear q9 kk km j u E d J V ki q3;go_cut [47] from 36 to 46 (λ_ a=>aA a p ((A.wrTo D L G P (cj D P l) P.length).putAt (YE A.n) 0 (λ_=>.root D L G (nx t) f0 l.length)) F/\aa (F.S) w3 a)
 case first=>
  go_region_with (first
   | (go_at_call 112;refine Z.o.2.1.mono ?_;rintro e I ⟨rfl,N⟩;have hj:bW w3 I:=((TW _ w3).drew).trans N;obtain ⟨j0,j1,j2,j3,j4,j5,j6⟩:=Z.o.2.2 I hj;have H5:=ak hj;clear N hj)
   | (go_at_call 118;refine (Z.o.1 I H5.o).mono ?_;rintro e w6 ⟨⟨z,rfl⟩,ky,kz⟩;have H6:=al ky kz;clear ky kz))
  all_goals (go_wp2_with fail;go_meet;case rel=>exact H6.o)
 case rest=>
 rename ZS=>w4;obtain ⟨kx,kb⟩:=hcut;obtain ⟨j,u,E,d,J⟩:=qb.out;clear k0 k1 k2 k3 k4 k5 k6 Z;have kj:=j.keep (kb.block _ j.lt W);have h6:=(kb.block c (TX.1 d).1 J).trans d;have hz:aa (λk=>k=ar\/F.S k) w w4:=(E.trans kb).mono λ_ _ q=>.inr q;have q8:=kj.there;have kc:=CH (D:=D) (L:=L) (G:=G) (t:=nx t) (f:=f0) (n:=l.length) kj;have kh:=hz.trans (aa.setCells (S:=λk=>k=ar\/F.S k) _ ar 1 (aj D L G (nx t) f0 l.length).toList (.inl rfl));have kg:=kx.outside (aa.setCells (S:=λk=>k=ar) w4 ar 1 (aj D L G (nx t) f0 l.length).toList rfl) (λk O e=>W (e▸O));obtain ⟨w8,kr⟩:=nM (w4.setCells ar 1 (aj D L G (nx t) f0 l.length).toList);rw [kr] at kc kh kg;obtain ⟨c7,f7,c8,f8⟩:=kc.tail;have H:=a7 kg kh kc q8 h6 kr;clear kx kb kj hz q8 kc kh kg kr h6 j u E d;go_wp2_with (first|(refine kS rfl (Z0 9) rfl rfl um (by exact H.o.2.2.2.2.1) ?_)|(refine wpList_store_mid rfl 142 (Z0 55) (Z0 51) rfl ar 1 (aj D L G (nx t) f0 l.length) um um (by exact H.o.2.2.2.1) (kR _ _ _ _ _ _) (qt _ _ _ _ _ _) ?_;rw [H.o.2.2.2.2.2]));go_ret;refine ⟨(H.o.2.1.trans (aa.setCell _ _ _ (.inl rfl))).trans (aa.setCell _ _ _ (.inl rfl)),rfl,?_,H.o.2.2.1.late _ _⟩;exact H.o.1.keep λk O=>by
  have q5:k≠ar:=λe=>W (e▸O);exact (Ud _ _ _ _ q5).trans (Ud _ _ _ _ q5)
def fM (s:ByteArray):a8:=s.toList.map (λ(b:UInt8)=>b.toNat)++YF (16-s.size) 0
def bL (o:Ob):a8:=be o.name.size 1++fM o.name++be o.size 2++o.RK.flatMap (λs=>be s 4)
def an (os:List Ob):a8:=os.flatMap bL
structure Ob.fit (o:Ob):Prop where
 name:1<=o.name.size/\o.name.size<=16
 size:o.size<=1500
 st:∀ s∈o.RK,s<4294967296
 len:o.RK.length<=1000
def yC (l:a8):(l.flatMap (λs=>be s 4)).length=4*l.length:=by
 induction l with
 | nil=>rfl
 | cons x l ih=>rw [VL,Ua,ih,aD,UA];omega
def mu {s:ByteArray} (h:s.size<=16):(fM s).length=16:=by
 unfold fM;rw [Ua,Ue,XY,Yn];have:s.data.toList.length=s.size:=by rw [WB];rfl
 omega
def cZ {o:Ob} (h:o.fit):(bL o).length=19+4*o.RK.length:=by
 unfold bL;rw [Ua,Ua,Ua,aD,aD,mu h.name.2,yC]
def kT (os:List Ob) (k:Nat) (a:k<os.length):an (os.take (k+1))=an (os.take k)++bL os[k]:=by
 unfold an;rw [Ve,Uc a,WN];simp
theorem gv (k:Nat) (b:k<=1000000) (w:ZS):ZP ZK 126 #[Z7 Z9 k] w λe w'=>e=Z3 (Z7 Z9 ((19+4*k:Nat):Int))/\w'=w:=by
 have a:((19+4*k:Nat):Int)=19+4*(k:Int):=ec
 rw [a];go_enter func126,ntmps126;go_wp2;go_ret;exact ⟨rfl,rfl⟩
def LnR (w:ZS) (os:List Ob) (s i:ZR) (wr:ZS):Prop:=∃ k:Nat,k<=os.length/\i=Z7 Z9 k/\s=Z7 Z9 (((an (os.take k)).length:Nat):Int)/\bW w wr
theorem uj {os:List Ob} (I:eN K w v os) (j:∀ o∈os,o.fit) (P:os.length<=10000):ZP ZK 104 #[v] w λe w'=>e=Z3 (Z7 Z9 (((an os).length:Nat):Int))/\bW w w':=by
 obtain ⟨ao,c,rfl,_,l⟩:=I;have g:∀ k,k<=os.length->(an (os.take k)).length<=k*5000:=by
  intro k D;induction k with
  | zero=>simp [an]
  | succ k ih=>
   have f:k<os.length:=ec;have:=ih ec;have A:=j _ (T6 f);rw [kT os k f,Ua,cZ A];have:=A.len;omega
 obtain ⟨N,p⟩:=nM (os.length);have r:=a5 l j g p;rw [p] at P ⊢;clear l j g p;go_enter func104,ntmps104;go_wp2_with fail;go_loopw [3,8] (λs i wr=>LnR w os s i wr) (λ_ i _=>N-(intOf i).toNat)
 case atStart=>exact ⟨0,T8 _,rfl,rfl,TW _ _⟩
 case round=>
  obtain ⟨k,D,rfl,rfl,d⟩:=hrel;rw [r.o.2.2.2] at D;by_cases X:k<N
  . obtain ⟨l,j,g,p⟩:=r.o;have f:k<os.length:=ec;obtain ⟨b,off,rfl,V,u,z⟩:=l (λe=>by rw [e] at f;cases f);obtain ⟨sv,c0,c1,y,J⟩:=z k f;obtain ⟨T,sc,Q,R,_⟩:=J;have F:wr.cell? ⟨b,off+k*3,ZW⟩=ZV (ZZ os[k].name):=(Uk (d.block b u.lt)).trans c0;have d1:wr.cell? ⟨b,off+k*3+1,ZW⟩=ZV (Z7 Z9 (os[k].size:Nat)):=(Uk (d.block b u.lt)).trans c1;have G:wr.cell? ⟨b,off+k*3+2,ZW⟩=ZV sv:=(Uk (d.block b u.lt)).trans y;subst Q;have M:=g k ec;have O:=g (k+1) ec;have n:(an (os.take (k+1))).length=(an (os.take k)).length+(19+4*os[k].RK.length):=(by rw [kT os k f,Ua,cZ (j _ (T6 f))]);obtain ⟨a,x⟩:=nM ((an (os.take k)).length);obtain ⟨U,h⟩:=nM ((an (os.take (k+1))).length);obtain ⟨m,t⟩:=nM (os[k].RK.length);obtain ⟨nm,B⟩:=nM (os[k].name);obtain ⟨sz,C⟩:=nM (os[k].size);rw [x,h,t] at n;rw [x] at M ⊢;rw [h] at O;rw [t] at G;rw [B] at F;rw [C] at d1;rw [t] at R;have S:=d.size;have H:=aE d h n;have W:((k:Nat):Int).toNat=k:=ec;clear d c0 c1 y l j g z n x h t B C p;go_wp2_with fail;refine (gv m ec _).mono ?_;obtain ⟨q,E⟩:=nM (19+4*m);rw [E];rintro e w2 ⟨rfl,rfl⟩;have Y:a+q<=100000000:=(e9 H.o.2.2);go_wp2;obtain ⟨d,h,n⟩:=H.o;refine ⟨⟨k+1,by rw [r.o.2.2.2];omega,eT,?_,d.alloc S _⟩,l7⟩;rw [h,n,E];first|rfl|(congr 1)
  . have L:k=N:=ec;subst L;have H:=ak d;clear d;go_wp2;go_ret;refine ⟨?_,H.o⟩;rw [UI (by rw [r.o.2.2.2];exact TV _)];rfl
def bm {size:Nat} {xs:List ZR} (h:w.ownsRow base e size v n xs):∃ d f,v=.slice d n f:=by
 rcases h.2 with ⟨b,c⟩|⟨g,cap,cur,a,_⟩
 . exact ⟨ZW,0,by rw [b,c]⟩
 . exact ⟨_,_,a⟩
def bw {size:Nat} {xs:List ZR} (h:w.ownsRow base e size v n xs) {k:Nat} (a:v.ownBlock=ZV k):∃ cur,w.heap[k]?=ZV (Z4 cur e (0,0)):=by
 rcases h.2 with ⟨d,_⟩|⟨g,cap,cur,b,_,c,_⟩
 . rw [d] at a;simp [Value.ownBlock] at a
 . rw [b] at a;simp [Value.ownBlock] at a;subst a;exact ⟨cur,c⟩
def bC {t:ZN} {size:Nat} {xs:List ZR} (h:w.ownsRow base e size v n xs) {k:Nat} {cs:Array ZR} (c:w.heap[k]?=ZV (Z4 cs t (0,0))) (b:e≠t):v.ownBlock≠ZV k:=by
 intro q;obtain ⟨cur,a⟩:=bw h q;rw [c] at a;injection a with a;injection a with h1 h2;exact b h2.symm
def bR {size:Nat} {xs:List ZR} (h:w.ownsRow base e size v n xs) (f:aa S w w') (i:∀ k,v.ownBlock=ZV k->¬ S k):w'.ownsRow base e size v n xs:=by
 refine ⟨h.1,?_⟩;rcases h.2 with d|⟨g,cap,cur,a,c,b,r⟩
 . exact .inl d
 . exact .inr ⟨g,cap,cur,a,c,(f.block g (TX.1 b).1 (i g T2)).trans b,r⟩
def yD {size:Nat} {xs:List ZR} (h:w.ownsRow base e size v n xs) (f:∀ k,v.ownBlock=ZV k->w'.heap[k]?=w.heap[k]?):w'.ownsRow base e size v n xs:=by
 refine ⟨h.1,?_⟩;rcases h.2 with d|⟨g,cap,cur,a,b,c,r⟩
 . exact .inl d
 . exact .inr ⟨g,cap,cur,a,b,(f g T2).trans c,r⟩
def Q5 {size:Nat} {xs:List ZR} (h:w.ownsRow base e size v n xs) {k:Nat} (b:v.ownBlock=ZV k):k<w.heap.size:=by
 obtain ⟨cur,a⟩:=bw h b;exact (TX.1 a).1
theorem CJ (s:ByteArray):(List.take 0 (aJ (YF 16 0))++Lib.byteCells s.data.toList++List.drop (0+s.size) (aJ (YF 16 0))).toArray=(aJ (fM s)).toArray:=by
 congr 1;unfold fM aJ Lib.byteCells;rw [Yn,YQ,Wq,Uq,Uj,X7,Uw,YQ,List.map_map];rfl
structure Pk (w:ZS) (l:a8) (v:ZR) (wr:ZS):Prop where
 own:wr.ownsRow w.heap.size 5 1 v l.length (aJ l)
 some_:v.ownBlock≠ZW
 below:bW w wr
def CK {size:Nat} {xs:List ZR} (h:w.ownsRow base e size v n xs) (c:0<n):v.ownBlock≠ZW:=by
 rcases h.2 with ⟨_,b⟩|⟨g,cap,cur,a,_⟩
 . omega
 . rw [a];simp [Value.ownBlock]
def Pk.out (h:Pk w l v wr) {S:Nat->Prop} (a:aa S wr w') (b:∀ k,S k->w.heap.size<=k) (d:∀ k,v.ownBlock=ZV k->¬ S k):Pk w l v w':=
 ⟨bR h.own a d,h.some_,⟨a.os.trans h.below.os,a.tape.trans h.below.tape,a.output.trans h.below.output,TU h.below.size a.size,λk c=>(a.block k (e9 h.below.size) (λq=>e9 (b k q))).trans (h.below.block k c)⟩⟩
def Pk.num (h:Pk w l v wr) (n s:Nat) (d:s<=8) (g:0<s) (hl:l.length<=1000000000) :
 ZP ZK 172 #[v,Z7 Z8 n,Z7 Z9 s] wr λe w'=>∃ b,e=Z3 b/\Pk w (l++be n s) b w'/\aa (λj=>v.ownBlock=ZV j) wr w':=by
 refine (fY w.heap.size v l.length (aJ l) n s wr h.own h.below.size d hl).mono ?_;rintro e w' ⟨b,rfl,ho,a,f⟩;refine ⟨b,rfl,⟨?_,CK ho ec,?_⟩,a⟩
 . rw [bJ,Ua,aD];exact ho
 . exact ⟨a.os.trans h.below.os,a.tape.trans h.below.tape,a.output.trans h.below.output,TU h.below.size a.size,λk c=>(a.block k (e9 h.below.size) (λq=>e9 (dY h.own q))).trans (h.below.block k c)⟩
def OA (h:Pk w l v wr):w.heap.size<=wr.heap.size:=h.below.size
def PsR (w:ZS) (pre:a8) (st:a8) (v i:ZR) (wr:ZS):Prop:=∃ j:Nat,j<=st.length/\i=Z7 Z9 j/\Pk w (pre++(st.take j).flatMap (λs=>be s 4)) v wr
def aa8 (w:ZS) (os:List Ob) (v i:ZR) (wr:ZS):Prop:=∃ k:Nat,k<=os.length/\i=Z7 Z9 k/\Pk w (an (os.take k)) v wr
def Q6 (w:ZS) (os:List Ob) (e:ZO) (w':ZS):Prop:=∃ g cap,e=Z3 (Z5 (ZV ⟨g,0,ZW⟩) (an os).length cap)/\w'.ownsRow w.heap.size 5 1 (Z5 (ZV ⟨g,0,ZW⟩) (an os).length cap) (an os).length (aJ (an os))/\bW w w'
theorem yE {os:List Ob} (hC:eN K w v os) (z:∀ o∈os,o.fit) (qj:os.length<=10000):ZP ZK 142 #[v] w λe w'=>Q6 w os e w':=by
 obtain ⟨ib,qg,hz,k0,k5⟩:=Uu Tryz.R5;have E:∀ k,k<=os.length->(an (os.take k)).length<=k*5000:=by
  intro k C;induction k with
  | zero=>simp [an]
  | succ k ih=>
   have y:k<os.length:=ec;have:=ih ec;have l:=z _ (T6 y);rw [kT os k y,Ua,cZ l];have:=l.len;omega
 have kj:=uj hC z qj;have hr:=E os.length lR;rw [UI lR] at hr;obtain ⟨ao,c,rfl,_,Q⟩:=hC;obtain ⟨N,G⟩:=nM (os.length);obtain ⟨M,F⟩:=nM ((an os).length);rw [F] at kj hr;have X:=a6 Q z E G F;rw [G] at qj kj hr ⊢;clear Q z E G F;go_enter func142,ntmps142;go_wp2_with fail;refine kj.mono ?_;rintro e w1 ⟨rfl,kv⟩;have x7:=kv.size;have H1:=ak kv;clear kv kj;go_wp2_with (at_make;refine ab3 w1 rfl (.const (Z7 Z9 0)) (Z0 10) 40 rfl w.heap.size 5 ib (Z7 .u8 0) 1 Un qg hz k0 .i64 .i64 _ M um um rfl (by rw [k5];omega) eD x7 ?_;intro w2 qi qf);have qa:Pk w [] (Z5 (ZV ⟨w1.heap.size,0,ZW⟩) 0 M) w2:=⟨qi,vm,H1.o.grown qf H1.o.size (λk e=>Y4)⟩;have H2:=ak qa;clear qa qi qf;go_loopw [3,14] (λv i wr=>aa8 w os v i wr) (λ_ i _=>N-(intOf i).toNat)
 case atStart=>exact ⟨0,T8 _,rfl,H2.o⟩
 case round=>
  clear H2;obtain ⟨k,C,rfl,a⟩:=hrel;rw [X.o.2.2.2.1] at C;by_cases xc:k<N
  . obtain ⟨Q,z,E,G,F⟩:=X.o;have y:k<os.length:=ec;obtain ⟨b,off,rfl,x8,ky,qd⟩:=Q (λe=>by rw [e] at y;cases y);obtain ⟨sv,c0,c1,c2,hI⟩:=qd k y;have l:=z _ (T6 y);have d0:wr.cell? ⟨b,off+k*3,ZW⟩=ZV (ZZ os[k].name):=(Uk (a.below.block b ky.lt)).trans c0;have d1:wr.cell? ⟨b,off+k*3+1,ZW⟩=ZV (Z7 Z9 (os[k].size:Nat)):=(Uk (a.below.block b ky.lt)).trans c1;have d2:wr.cell? ⟨b,off+k*3+2,ZW⟩=ZV sv:=(Uk (a.below.block b ky.lt)).trans c2;have qy:=E k ec;have t:=kT os k y;obtain ⟨pre,k8⟩:=nM (an (os.take k));obtain ⟨o,ho⟩:=nM (os[k]);rw [k8] at qy a t;rw [ho] at d0 d1 l hI t;obtain ⟨d,sc,x1,x3,R⟩:=hI;subst x1;obtain ⟨m,I⟩:=nM (o.RK.length);obtain ⟨nm,U⟩:=nM (o.name);obtain ⟨sz,V⟩:=nM (o.size);have kg:=l.name;have qs:=l.size;have qq:=l.len;rw [U] at d0 kg;rw [V] at d1 qs;rw [I] at d2 x3 qq;have x6:=a.below.size;have xa:((k:Nat):Int).toNat=k:=ec;have kx:bW wr (wr.alloc (Z4 #[ZZ nm,Z7 Z9 (sz:Int),.slice d m sc] 152)):=bA wr _;have qo:(wr.alloc (Z4 #[ZZ nm,Z7 Z9 (sz:Int),.slice d m sc] 152)).heap.size=wr.heap.size+1:=ek;have q5:(wr.alloc (Z4 #[ZZ nm,Z7 Z9 (sz:Int),.slice d m sc] 152)).heap[wr.heap.size]?=ZV (Z4 #[ZZ nm,Z7 Z9 (sz:Int),.slice d m sc] 152 (0,0)):=Ug _ _;obtain ⟨p,x4⟩:=nM (wr.alloc (Z4 #[ZZ nm,Z7 Z9 (sz:Int),.slice d m sc] 152));rw [x4] at kx qo q5;have n:(p.alloc (Z4 (aJ (YF 16 0)).toArray 287)).heap[p.heap.size]?=ZV (Z4 (aJ (YF 16 0)).toArray 287 (0,0)):=Ug _ _;have kf:bW p (p.alloc (Z4 (aJ (YF 16 0)).toArray 287)):=bA p _;have qp:(p.alloc (Z4 (aJ (YF 16 0)).toArray 287)).heap.size=p.heap.size+1:=ek;obtain ⟨wb,q7⟩:=nM (p.alloc (Z4 (aJ (YF 16 0)).toArray 287));rw [q7] at n kf qp;have D:=(kf.block _ ec).trans q5;have x5:p.alloc (Z4 #[Z7 .u8 0,Z7 .u8 0,Z7 .u8 0,Z7 .u8 0,Z7 .u8 0,Z7 .u8 0,Z7 .u8 0,Z7 .u8 0,Z7 .u8 0,Z7 .u8 0,Z7 .u8 0,Z7 .u8 0,Z7 .u8 0,Z7 .u8 0,Z7 .u8 0,Z7 .u8 0] 287)=wb:=q7;have J:Pk w pre u3 wb:=(a.out (aa.RL kx (λ_=>False)) (λ_ h=>h.elim) (λ_ _ h=>h)).out (aa.RL kf (λ_=>False)) (λ_ h=>h.elim) (λ_ _ h=>h);have Y:=hide7 R l t ho I U V;have HB:=a5 J D n qp;clear a Q z E G F qd c0 c1 c2 R l t ho I U V J D n q7 q5 kx kf k8;go_wp2_with fail;obtain ⟨J,D,n,kb⟩:=HB.o;rw [qo] at n kb;obtain ⟨q,hq⟩:=nM (wr.heap.size);rw [hq] at D n kb x6;rw [hq];have hp:=Lib.run_copy_row_string (P:=ZK) wb.drew 40 9 3 5 (q+1) 0 16 16 nm (aJ (YF 16 0)).toArray 287 Un ei n kg.2 (by rw [UH,aX];simpa using kg.2);rw [show (aJ (YF 16 0)).toArray.toList=aJ (YF 16 0) from rfl,CJ nm] at hp;refine dr 3 [(0,ZU),(1,ZU),(2,ZU),(3,ZT)] (λw'=>w'.cell? ⟨q,0,ZW⟩=ZV (ZZ nm)) ei ei (show wb.cell? _=_ by simp [World.cell?,D]) ?_;iterate 3 (refine aF rfl rfl ?_;apply YG;refine ⟨λw' hS=>?_,?_⟩;(first|(go_simp;done)|(go_simp;exact rfl));simp only [Act.put,TZ,TY,T5])
    refine eJ (v:=Z7 Z9 (nm.size:Nat)) (w1:=wb.drew.setRow (q+1) (aJ (fM nm)).toArray) rfl rfl (by simp [execOp,Act.eval,resolve,invoke,builtin,hp];rfl) (absurd rfl) (cH ?_);obtain ⟨O,km⟩:∃ O,O=wb.drew.setRow (q+1) (aJ (fM nm)).toArray:=⟨_,rfl⟩;rw [<- km];clear hp;have kc:aa (λk=>k=q+1) wb O:=by
     rw [km];have S:=aY wb.drew (q+1) (aJ (fM nm)).toArray;exact ⟨S.os,S.tape,S.output,S.size,λk C qz=>S.block k C (λe=>qz (UM e))⟩
    have A:Pk w pre u3 O:=J.out kc (λk C=>ec) (λk C e=>bC J.own n ee (by rw [C,e]));have B:=(kc.block q ec ec).trans D;have L:O.heap[q+1]?=ZV (Z4 (aJ (fM nm)).toArray 287 (0,0)):=(by rw [km];exact Vt _ _ _ _ _ _ n);have xd:=kc.size;have q0:O.cell? ⟨q,0,ZW⟩=ZV (ZZ nm):=(by simp [World.cell?,B]);have qe:=A.num nm.size 1 ec ec ec;have H6:=a5 A B L qe;have x0:nm.size<=16:=kg.2;clear J D n kc A B L qe km d0 d1 d2;rename_i q8
    refine q8 _ _ ?_;clear q8;simp only [Act.put,TZ,TY,T5];go_wp2_with fail;refine H6.o.2.2.2.mono ?_;rintro e w7 ⟨v7,rfl,ko,ke⟩;obtain ⟨A,B,L,hx⟩:=H6.o;clear hx;have qk:=(ke.block q ec (λe=>bC A.own B ee e)).trans B;have kz:=(ke.block (q+1) ec (λe=>bC A.own L ee e)).trans L;have xe:=ke.size;have ki:(pre++be nm.size 1).length=pre.length+1:=(by rw [Ua,aD]);have kk:(fM nm).length=16:=mu x0;have he:Src ZK 1 40 (Z5 (ZV ⟨q+1,0,ZW⟩) 16 16) 16 (aJ (fM nm)) w7:=Vl w7 Un ⟨q+1,0,ZW⟩ 16 16 (aJ (fM nm)) (by rw [aX,kk]) (λi u hu=>by
     have h9:w7.cell? ⟨q+1,i,ZW⟩=ZV u:=(by simp [World.cell?,kz];simpa using hu);unfold Addr.add;split
     . rename_i h0;subst h0;exact h9
     . rw [Uj];exact h9) (λu hu=>by obtain ⟨x,_,rfl⟩:=T9.1 hu;rfl)
    have h7:=ko.own;rw [ki] at h7;have r:=a6 ko qk kz he h7;clear A B L ko ke qk kz he h7 q0;have qn:=OA r.o.1;go_wp2_with (show wpList _ _ _ ({ dst:=ZV 30,op:=_,type:=_,pos:=_,after:=_,guard:=_ }::_) _ _;refine ae _ rfl (Z0 28) (Z0 29) 40 40 rfl w.heap.size 5 ib (Z7 .u8 0) 1 1 Un qg hz k0 k5 rfl v7 (pre.length+1) (aJ (pre++be nm.size 1)) um (by exact r.o.2.2.2.2) _ um 16 (aJ (fM nm)) (by exact r.o.2.2.2.1) eD ec (by exact qn) ?_;intro v8 w8 q3 kh ks;have q4:w8.heap[q]?=ZV (Z4 #[ZZ nm,Z7 Z9 (sz:Int),.slice d m sc] 152 (0,0)):=(kh.block q ec (λe=>bC r.o.1.own r.o.2.1 ee e.symm)).trans r.o.2.1;have q1:w8.cell? ⟨q,1,ZW⟩=ZV (Z7 Z9 (sz:Int)):=(by simp [World.cell?,q4]);have qb:Pk w ((pre++be nm.size 1)++fM nm) v8 w8:=⟨(by rw [bJ,Ua,ki,kk];exact q3),CK q3 ec,r.o.1.below.grown kh qn (λj e=>dY r.o.1.own e)⟩;have xf:=kh.size;have W:=al qb q4;clear q3 kh ks q4 qb);refine (W.o.1.num sz 2 ec ec (by rw [Ua,ki,kk];omega)).mono ?_;rintro e w9 ⟨v9,rfl,kp,q9⟩;have qm:=(q9.block q ec (λe=>bC W.o.1.own W.o.2 ee e)).trans W.o.2;have q2:w9.cell? ⟨q,2,ZW⟩=ZV (.slice d m sc):=(by simp [World.cell?,qm]);obtain ⟨f,Z⟩:=nM (pre++be nm.size 1++fM nm++be sz 2);have xb:f.length=pre.length+19:=(by rw [<- Z,Ua,Ua,ki,kk,aD]);rw [Z] at kp;have H9:=al kp Z;clear kp q9 qm q1 Z;go_wp2_with fail;go_loopw [3,39] (λv i hb=>PsR w f o.RK v i hb) (λ_ i _=>m-(intOf i).toNat)
    case atStart=>exact ⟨0,T8 _,rfl,by rw [Wq,List.flatMap_nil,Ws];exact H9.o.1⟩
    case round=>
     obtain ⟨j,hj,rfl,a⟩:=hrel;rw [Y.o.2.2.2.2.1] at hj;by_cases x9:j<m
     . obtain ⟨R,l,t,ho,I,_,_⟩:=Y.o;have T:j<o.RK.length:=ec;obtain ⟨sb,so,rfl,_,q6,k9⟩:=R (λe=>by rw [e] at T;cases T);have cs:=(Uk (a.below.block sb q6.lt)).trans (k9 j T);have x2:=l.st _ (T6 T);have hy:((o.RK.take j).flatMap (λs=>be s 4)).length=4*j:=(by rw [yC,Uo];omega);have qh:f++(o.RK.take (j+1)).flatMap (λs=>be s 4)=(f++(o.RK.take j).flatMap (λs=>be s 4))++be o.RK[j] 4:=by
        rw [Ve,Uc T,WN,Uz];simp
       have hc:=a.num o.RK[j] 4 ec ec (by rw [Ua,hy];omega);rw [<- qh] at hc;obtain ⟨x,hx⟩:=nM (o.RK[j]);rw [hx] at cs x2 hc;have HP:=ak hc;clear a R l t ho I k9 hc qh hx hy;go_wp2_with fail;refine HP.o.mono ?_;rintro e wj ⟨vj,rfl,qc,_⟩;have Hj:=ak qc;clear qc;go_wp2;go_roundw
       case rel=>exact ⟨j+1,e9 Y.o.2.2.2.2.1,eT,Hj.o⟩
       case measure=>simp [intOf];omega
     . have qv:j=m:=ec;have Hq:=ak a;clear a;go_wp2;go_roundw
       case rel=>
        refine ⟨k+1,e9 X.o.2.2.2.1,eT,?_⟩;obtain ⟨_,_,t,_,I,U,V⟩:=Y.o;have kr:=Hq.o;rw [UI ec,<- H9.o.2] at kr;rw [t];unfold bL;rw [U,V];simp only [Uz] at kr ⊢;exact kr
       case measure=>simp [intOf];omega
  . have qx:k=N:=ec;subst qx;have H:=ak a;clear a;go_wp2;go_ret;have a:=H.o;obtain ⟨_,_,_,G,F⟩:=X.o;rw [UI ec] at a;rcases a.own.2 with ⟨h0,_⟩|⟨g,cap,cur,e1,_⟩
    . exact absurd (by rw [h0];rfl) a.some_
    . have ho:=a.own;rw [e1] at ho;exact ⟨g,cap,by rw [<- e1];rfl,ho,a.below⟩
def uk {vo:ZR} {os:List Ob} (c:eN (λk=>k<w.heap.size) w vo os) (d:∀ o∈os,o.fit) (b:os.length<=10000):E6 w vo (an os):=λ_ a=>yE (c.keep ⟨a.size,λk e _=>a.block k e⟩) d b
def GA (nb:Nat):∀ (l:a8) (s:(Nat->Bool)×Bool),(∀ x∈l,2<=x/\x<nb/\s.1 x=ZT)->l.Nodup->(l.foldl (jA nb) s).2=s.2/\∀ x,(l.foldl (jA nb) s).1 x=(s.1 x || decide (x∈l))
 | [],s,_,_=>⟨rfl,λx=>ek⟩
 | y::l,s,h,m=>by
  obtain ⟨p,r,g⟩:=h y (U8 ..);obtain ⟨i,k⟩:=UO.1 m;have e:jA nb s y=(λj=>if j=y then ZU else s.1 j,s.2):=by
   unfold jA;rw [TS (λq=>by rcases q with q|q|q;omega;omega;rw [g] at q;cases q)]
  rw [Xc,e];obtain ⟨n,o⟩:=GA nb l (λj=>if j=y then ZU else s.1 j,s.2) (λx f=>by
   obtain ⟨a,b,c⟩:=h x (UJ _ f);have d:¬ x=y:=λq=>i (by rw [<- q];exact f);exact ⟨a,b,by show (if x=y then ZU else s.1 x)=ZT;rw [TS d];exact c⟩) k
  refine ⟨n,λx=>?_⟩;rw [o];show ((if x=y then ZU else s.1 x) || decide (x∈l))=(s.1 x || decide (x∈y::l));by_cases d:x=y
  . subst d;simp
  . rw [TS d];simp [d]
def LJ (e:l.Nodup) (a:∀ x∈l,2<=x/\x<nb):(tk nb l).2=ZU/\∀ x,(tk nb l).1 x=decide (x∈l):=by
 obtain ⟨c,d⟩:=GA nb l (λ_=>ZT,ZU) (λx b=>⟨(a x b).1,(a x b).2,rfl⟩) e;exact ⟨c,λx=>by rw [show (tk nb l).1 x=_ from d x];rfl⟩
def qu {T:Nat->Bool} {x:Nat}:x∈aZ T k↔x<k/\2<=x/\T x=ZT:=by
 unfold aZ;rw [Vq,Ur];simp
def rz (T:Nat->Bool) (k:Nat):(aZ T k).Nodup:=(YM).filter _
def jj (e:l.Nodup) (d:∀ x∈l,2<=x/\x<nb) {x:Nat} (f:x∈aZ (tk nb l).1 nb):(2<=x/\x<nb)/\x∉l:=by
 obtain ⟨b,c,a⟩:=qu.1 f;rw [(LJ e d).2] at a;exact ⟨⟨c,b⟩,of_decide_eq_false a⟩
def nA (b:l.Nodup) (a:∀ x∈l,2<=x/\x<nb) (c:Nat):(((aZ (tk nb l).1 nb).take c)++l).Nodup/\∀ x∈((aZ (tk nb l).1 nb).take c)++l,2<=x/\x<nb:=by
 refine ⟨U9.2 ⟨(rz _ _).sublist (List.take_sublist _ _),b,λx d y f e=>?_⟩,λx d=>?_⟩
 . subst e;exact (jj b a (UX d)).2 f
 . rcases Ui.1 d with h|h
   . exact (jj b a (UX h)).1
   . exact a x h
theorem lS (c:l.Nodup) (a:∀ x∈l,2<=x/\x<nb):(aZ (tk nb l).1 nb).length+l.length+2=max 2 nb:=by
 by_cases m:2<=nb
 . have k:((aZ (tk nb l).1 nb)++l++[0,1]).Perm (YE nb):=by
    refine (List.perm_ext_iff_of_nodup ?_ YM).2 λx=>?_
    . refine U9.2 ⟨U9.2 ⟨rz _ _,c,λx b y d e=>?_⟩,ee,λx b y d e=>?_⟩
      . subst e;exact (jj c a b).2 d
      . subst e;have g:2<=x:=by
         rcases Ui.1 b with h|h
         . exact (jj c a h).1.1
         . exact (a x h).1
        simp at d;omega
    . rw [Ur,Ui,Ui,qu];constructor
      . rintro ((h|h)|h)
        . exact h.1
        . exact (a x h).2
        . simp at h;omega
      . intro h;by_cases g:2<=x
        . by_cases f:x∈l
          . exact .inl (.inr f)
          . exact .inl (.inl ⟨h,g,by rw [(LJ c a).2];exact Vr f⟩)
        . exact .inr en
   have:=k.length_eq;simp at this;omega
 . have i:l=[]:=by
    cases l with
    | nil=>rfl
    | cons x l=>have:=a x (U8 ..);omega
   subst i;have j:aZ (tk nb []).1 nb=[]:=by
    rw [acn];intro x b;have:=qu.1 b;omega
   rw [j];simp;omega
section
attribute [local go_sem] Oper.semAt_some
def qw (K:Nat->Prop) (n b1:Nat) (v:ZR) (os:List Ob) (w:ZS) (i:b1<w.heap.size) (b:w.cell? ⟨b1,0,ZW⟩=ZV v) (j:eN K w v os) :
 SeqStopsK Fence.wide n ZK 144 #[Z6 (ZV ⟨b1,0,ZW⟩)] nr (ef K) (λu=>u=af os) (λpre=>pre<+:af os) (af os).length w:=λl J d W c m _ o f=>by
 refine (tI K n l b1 v os J d (λpre A B h a=>m pre A B ZW h ⟨a.os,a.tape,a.output,a.size,λk q _=>a.block k q⟩ (λr e=>Y4)) (af os).length o [] ek W ((c.cell (p:=⟨b1,0,ZW⟩) i).trans b) (j.keep (ef.RM c)) f).mono ?_;rintro e x ⟨b,g⟩;refine ⟨b,?_⟩;rcases g with h|⟨pre,s,t⟩
 . exact .inl ⟨_,rfl,oD h⟩
 . exact .inr ⟨pre,s,oD t⟩
structure RmI (w:ZS) (B:Nat) (pre:a8) (X:ZS):Prop where
 box:ZM X w.heap.size 3 (Z7 Z9 (pre.length:Nat))
 below:bW w X
 size:B<=X.heap.size
def RmI.Tf (h:w.heap.size<B):OwnFrom B (RmI w B):=by
 rintro pre X Y row ⟨f,b,g⟩ a d;have c:∀ k,k<B->Y.heap[k]?=X.heap[k]?:=λk c=>a.block k ec (λe=>e9 ((d k e.symm).1));exact ⟨(c _ ec).trans f,b.grown a b.size (λk e=>e9 ((d k e).1)),TU g a.size⟩
theorem CL {v:Nat} {A:az} (j:a9 w ar v D' L' G' t f nn pg ob off) (m:bg w v p D L G ps ho) (h:aA w p A F) (hn:0<A.n) (os:List Ob) (u:eN (λk=>k<w.heap.size) w ob os) (hv:(af os).length<=1000000) (count pages:Nat) (he:count<=1000000) (hg:pages<=1000000) :
 ZP ZK 127 #[Z6 (ZV ⟨ar,0,ZW⟩),Z7 Z9 (count:Nat),Z7 Z9 (pages:Nat)] w λe w'=>e=Z3 (Z1 (decide ((af os).length+count+2*pages+2<=A.nb)))/\bW w w':=by
 obtain ⟨n,HN⟩:∃ n:Nat,b9 (9<=n):=⟨9,TV _⟩;obtain ⟨c0,_,_,_,P⟩:=j.cells;obtain ⟨d,c,rfl,hol,_⟩:=id u;have H:=a5 j m h u;clear j m h u;refine (Vd (n:=n)).1 ?_;refine Wh func127 rfl trivial ?_ rfl;simp only [ntmps127,UH,UA,UV,YH,YI,Vg,Vh,Vj,Vk,Uq,US];have g:bW w (w.alloc (Z4 #[Z7 Z9 0] 3)):=bA w _;have Q:=(g.cell (p:=⟨ar,8,ZW⟩) H.o.1.lt).trans P;have r:ZM (w.alloc (Z4 #[Z7 Z9 0] 3)) w.heap.size 3 (Z7 Z9 0):=Us w _ _;have y:(w.alloc (Z4 #[Z7 Z9 0] 3)).heap.size=w.heap.size+1:=ek
 have I:=aE g r y;clear g r y;gi_wp2;refine cd (lJ d os.length c (w.alloc (Z4 #[Z7 Z9 0] 3))) ?_;rintro e w' ⟨rfl,rfl⟩;obtain ⟨w1,hy⟩:=nM (w.alloc (Z4 #[Z7 Z9 0] 3));rw [hy] at I Q ⊢;have C:bW w1 (w1.alloc (Z4 #[.slice d os.length c] 144)):=bA w1 _;have z:(w1.alloc (Z4 #[.slice d os.length c] 144)).cell? ⟨w1.heap.size,0,ZW⟩=ZV (.slice d os.length c):=(Us w1 _ _).cell;have N:(w1.alloc (Z4 #[.slice d os.length c] 144)).heap.size=w1.heap.size+1:=ek
 obtain ⟨w2,hz⟩:=nM (w1.alloc (Z4 #[.slice d os.length c] 144));rw [hz] at C z N ⊢;obtain ⟨g,r,y⟩:=I.o;have B:bW w w2:=g.trans (C.mono g.size);have V:RmI w w2.heap.size [] w2:=⟨(C.block _ ec).trans r,B,TV _⟩;have Z:eN (λk=>k<w.heap.size) w2 (.slice d os.length c) os:=H.o.2.2.2.keep (ef.RM B);have hs:=qw (λk=>k<w.heap.size) (n-1) w1.heap.size _ os w2 ec z Z;have O:=aE V hs B;have T:w1.heap.size=w.heap.size+1:=y;have U:w2.heap.size=w.heap.size+2:=ec
 have HZ:=al T U;clear V hs B Z g r y C z N hz hy Q T U I P;gi_wp2;obtain ⟨kc,N⟩:=HZ.o;refine Wi rfl (e9 HN.o) (gf:=144) (lb:=#[Z6 (ZV ⟨w1.heap.size,0,ZW⟩)]) rfl trivial (U5 func144 ei rfl)
  O.o.2.1 (λh k=>h.trans k) (λW l o o' hl _ _ _=>⟨Ok,λk _ E=>UP ec⟩) (TW _ _) (λ_=>rfl)
  (RmI w w2.heap.size) (λ_ _ _=>False) (RmI.Tf ec) (λ_ _ _ _ _ h _ _=>h.elim) O.o.1
  (λx=>{ tmps:=#[Z6 (ZV ⟨ar,0,ZW⟩),Z7 Z9 (count:Nat),Z7 Z9 (pages:Nat),ZX,ZX,ZX,Z1 ZT,Z6 (ZV ⟨w.heap.size,0,ZW⟩),Z6 (ZV ⟨ar,0,ZW⟩),Z6 (ZV ⟨ar,0,ZW⟩),Z6 (ZV ⟨ar,8,ZW⟩),.slice d os.length c,.func (.func 144) #[] #[Z6 (ZV ⟨w1.heap.size,0,ZW⟩)],Z7 Z9 (x:Nat),ZX,ZX,ZX,ZX,ZX,ZX,ZX,ZX,ZX,ZX,ZX,ZX,ZX,ZX,ZX],defers:=[] }) ?assign ?body ?done ?stop
 case assign=>
  intro l2 x X Kk hK;unfold nr;gi_wp2;simpa using hK
 case body=>
  rintro l2 pre x X b S;have c1:=b.box.cell;have f1:=b.box.frozen;obtain ⟨pl,s⟩:=nM (pre.length);rw [s] at c1 S;have k9:pl<=1000000:=ec
  have i:=al b s;clear b s S hv hol;gi_wp2;obtain ⟨b,s⟩:=i.o;have h6:((pre++[x]).length:Nat)=pl+1:=by rw [Ua,s];rfl
  have hr:∀ k,k≠w.heap.size->(X.setCell ⟨w.heap.size,0,ZW⟩ (Z7 Z9 ((pl:Int)+1))).heap[k]?=X.heap[k]?:=λk E=>Ud _ _ _ _ E;refine ⟨⟨oB,λk o E ho _=>?_⟩,⟨oB,λk E hK=>?_⟩,?_,?_,?_⟩
  . exact (hr k ec).trans ho
  . exact hr k ec
  . rw [h6];exact b.box.set _
  . exact Xs (p:=⟨w.heap.size,0,ZW⟩) b.below lR _
  . have:=b.size;simp [World.setCell];omega
 case done=>
  rintro D1 xs X k6 k0 b hK;have hj:xs=af os:=k0;subst hj;have c1:=b.box.cell;obtain ⟨xl,M⟩:=nM ((af os).length);rw [M] at c1 hv;have HL:=ak M;clear M;have q:=b.below;obtain ⟨j,m,h,u⟩:=H.o;have cX:=(q.cell (p:=⟨ar,0,ZW⟩) j.lt).trans c0;have R:∀ W,bW w W->ZP ZK 163 #[Z6 (ZV ⟨v,0,ZW⟩)] W λe w'=>e=Z3 (Z7 Z9 A.nb)/\w'=W:=λW Y=>jz (m.keep (Y.block _ m.lt)) (h.below Y lR) hn;have i:=a5 b hK R q;obtain ⟨nb,J⟩:=nM (A.nb);have k8:=h.Sv.2;rw [J] at i k8;have k5:=ak J;clear J;clear b hK k0 R q j m h u c0;gi_wp2;have k1:IntKind.i64.wrap ((xl:Int)+(count:Int))=(xl:Int)+(count:Int):=l3
  have k2:IntKind.i64.wrap (2*(pages:Int))=2*(pages:Int):=l3
  have k3:IntKind.i64.wrap ((xl:Int)+(count:Int)+2*(pages:Int))=(xl:Int)+(count:Int)+2*(pages:Int):=l3
  have k4:IntKind.i64.wrap ((nb:Int)-2)=(nb:Int)-2:=l3
  refine wpIn_region_quiet_lit rfl ei ei ?_;repeat (quiet_step_in (fail))
  refine wpQuietIn_step (by go_simp;intros;trivial) (λK hK=>?_);go_simp;refine ⟨Z7 Z9 (nb:Nat),λa=>⟨λh=>vE,CallsIn.quiet_of_same (Vd.2 (i.o.2.2.1 _ (i.o.2.2.2.trans ⟨rfl,rfl,rfl,TV _,λ_ _=>rfl⟩)))⟩,hK _ ?_⟩;clear hK K;repeat (quiet_step_in (fail))
  refine wpQuietIn_nil ?_;intro _ kb;obtain ⟨nq,rfl⟩:=kb;gi_wp2;obtain ⟨b,hK,_,q⟩:=i.o;have hq:(X.drewN nq).heap[D1]?=ZV (.deferred (ZV [])):=hK;have k7:bW w (X.drewN nq):=q.trans ⟨rfl,rfl,rfl,TV _,λ_ _=>rfl⟩;refine Gq (t:=6) (x:=Z1 (decide ((xl:Int)+(count:Int)+2*(pages:Int)<=(nb:Int)-2))) results127 rfl rfl hq ⟨?_,?_⟩
  . rw [HL.o,k5.out];congr 2;exact decide_eq_decide.2 ⟨λh=>ec,λh=>ec⟩
  . exact Below.RO k7 ec (TX.1 hq).1 _
 case stop=>
  rintro D1 z pre X k6 ka hx hK;exact hx.elim
end
def aw (n lost:Nat):Nat:=lost &&& (2^n-1)
def bz (n lost:Nat):Nat:=(2^n-1) &&& (18446744073709551615-aw n lost)
def jk (h:n<=16):2^n<=65536:=UY (n:=2) (i:=n) (j:=16) ee h
def yF (n lost i:Nat):(aw n lost).testBit i=(lost.testBit i&&decide (i<n)):=by unfold aw;rw [XG,XC]
def oI (lost:Nat) (h:n<=16):aw n lost<65536:=by
 have:=jk h;have:aw n lost<=2^n-1:=Nat.and_le_right;have:0<2^n:=VO n;omega
def CM (lost:Nat) (h:n<=16):bz n lost<65536:=by
 have:=jk h;have:bz n lost<=2^n-1:=WL;have:0<2^n:=VO n;omega
def qA (lost i:Nat) (h:n<=16):(bz n lost).testBit i=(decide (i<n) && !lost.testBit i):=by
 have:=oI lost h;unfold bz;rw [XG,XC,(ec:18446744073709551615-aw n lost=2^64-(aw n lost+1)),XB ec,yF];by_cases a:i<n
 . simp [a,(ec:i<64)]
 . simp [a]
theorem bM (h:n<=16):i∈ab (aw n lost)↔i<n/\lost.testBit i=ZU:=by
 rw [cE,yF];simp only [VJ,V4];constructor
 . rintro ⟨_,a,b⟩;exact ⟨b,a⟩
 . rintro ⟨a,b⟩;exact ⟨ec,b,a⟩
theorem oJ (h:n<=16):i∈ab (bz n lost)↔i<n/\lost.testBit i=ZT:=by
 rw [cE,qA lost i h];simp only [VJ,V4,Bool.not_eq_true'];constructor
 . rintro ⟨_,a,b⟩;exact ⟨a,b⟩
 . rintro ⟨a,b⟩;exact ⟨ec,a,b⟩
def E7 (s:Nat):(ab s).Nodup:=List.Pairwise.filter _ YM
def LK (h:eh w B v T) (d:cM T D M) (k:∀ r∈M,r.length=D) (m:M≠[]) :
 ∃ g c,v=Z5 (ZV ⟨g,0,ZW⟩) M.length c/\M.length<=c/\∀ i (b:i<M.length),∃ u,w.cell? ⟨g,0+i,ZW⟩=ZV u/\Bs w u M[i]:=by
 have f:T.length=M.length:=oD (Ux YL d)
 rcases h.own.2 with ⟨_,n⟩|⟨g,c,cur,rfl,_,_,o,_⟩
 . exact absurd (UW ec) m
 . refine ⟨g,c,by rw [f],ec,λi b=>?_⟩;have a:i<T.length:=ec;refine ⟨fX T[i],by rw [Uj];exact h.Sk a,?_⟩;have:=h.SU a;have j:T[i].2=(D,M[i]):=by
    have:=Ux (λl=>l[i]?) d;simpa [a,b] using this
   rw [j] at this;have e:(M[i]).take D=M[i]:=(by rw [<- k _ (T6 b),VA]);rw [e] at this;exact this
def GB (D L G i:Nat) (a:i<D):(aT D L G).getD i []=dh D i:=by
 unfold aT;rw [Uz,Ub,VC (oD a)];simp [a]
def jQ (D L G:Nat) (c:D<=12) (d:G<=4):Gf.Code (mf (aT D L G)) D (L+G):=by
 refine ⟨λi j=>?_,λi a j=>?_,λi j b=>?_⟩
 . unfold mf;by_cases a:i<(aT D L G).length
   . have e:(aT D L G).getD i []=(aT D L G)[i]:=Zg;rw [e];exact dm (oH D L G c d _ (T6 a)) j
   . have e:(aT D L G).getD i []=[]:=Zg;rw [e];simp
 . unfold mf;rw [GB D L G i a];unfold dh;rw [Ub,Xn];by_cases e:i=j
   . subst e;simp [a]
   . simp only [e,if_false];rw [TS (λh=>e h.symm)];by_cases b:j<D
     . simp [b]
     . simp [b]
 . unfold mf;by_cases a:i<(aT D L G).length
   . have e:(aT D L G).getD i []=(aT D L G)[i]:=Zg;have:=kO D L G _ (T6 a);rw [e,Ub,Vm ec];rfl
   . have e:(aT D L G).getD i []=[]:=Zg;rw [e];simp
def jR (D L G:Nat):Ck:=kl (mf (aT D L G)) D (L+G)
def Ai (d:D<=12) (g:L<=4) (f:G<=4) {pre:a8} {C:Ck} (h:tells (jR D L G) pre=ZV C):eA C:=by
 rcases (jQ D L G d f).told pre with ⟨c,a,b⟩|⟨a,_⟩
 . have e:tells (jR D L G) pre=ZV c:=a;rw [h] at e;obtain rfl:=UM e;exact ⟨b.byt,b.le,by have:C.count=L+G:=b.count;omega⟩
 . have e:tells (jR D L G) pre=ZW:=a;rw [h] at e;cases e
def E8 {B:Ck} (h:s∈fW B gone kept):(∃ i∈ab kept,s=⟨0,0,(i:Int),0⟩)\/(∃ i∈ab kept,∃ r,r<B.told/\s=⟨1,1+(r:Int),0,B.m r i⟩)\/(∃ k,∃ d:k<(ab gone).length,s=⟨2,(k:Int)+1,((ab gone)[k]:Int),0⟩):=by
 unfold fW wrTo at h;rcases Ui.1 h with h|h
 . obtain ⟨l,hl,a⟩:=YN.1 h;obtain ⟨i,c,rfl⟩:=T9.1 hl;cases hr:cF B i
   . rw [lI hr] at a;cases a
   . rw [iy hr] at a;rcases Uv.1 a with rfl|a
     . exact .inl ⟨i,c,rfl⟩
     . unfold gI at a;obtain ⟨r,e,rfl⟩:=T9.1 a;exact .inr (.inl ⟨i,c,r,Ur.1 (Vq.1 e).1,rfl⟩)
 . unfold fL at h;obtain ⟨k,d,rfl⟩:=T9.1 h;have b:=Ur.1 d;exact .inr (.inr ⟨k,b,acx⟩)
def Q7 {B:Ck} (gone kept:Nat) (e:B.told<=8):(fW B gone kept).length<=160:=by
 have:=sy B (ab kept);have a:∀ s,(ab s).length<=16:=λs=>TU (WS _ _) ek;have:(ab kept).length*(B.told+1)<=16*9:=Xm (a kept) ec;have:=a gone;unfold fW fL;simp only [Ua,Ue,Vp];omega
def aaJ {B:Ck} (h:B.told=(ab gone).length) (b:B.told<=8) (g:∀ i∈ab kept,i<n) (d:∀ i∈ab gone,i<n):iM (1+((ab gone).length:Int)) (fW B gone kept) (n:Int):=by
 have:=Q7 gone kept b;refine ⟨⟨ec,ec,ec⟩,λi f=>?_⟩;rcases E8 (T6 f) with ⟨j,a,e⟩|⟨j,a,r,l,e⟩|⟨k,c,e⟩
 . have:=g j a;rw [e];exact .inl ⟨.inl rfl,by show (0:Int)<=0;omega,by show (0:Int)<_;omega,by show (0:Int)<=(j:Int);omega,by show (j:Int)<_;omega⟩
 . rw [e];exact .inr ⟨rfl,by show (0:Int)<=1+(r:Int);omega,by show (1+(r:Int))<_;omega,by show (0:Int)<=0;omega,by show (0:Int)<_;omega,by show (1+(r:Int))≠0;omega⟩
 . have:=d _ (T6 c);rw [e];exact .inl ⟨.inr rfl,by show (0:Int)<=(k:Int)+1;omega,by show ((k:Int)+1)<_;omega,by show (0:Int)<=((ab gone)[k]:Int);omega,by show ((ab gone)[k]:Int)<_;omega⟩
theorem OB {α:Type} (L:List α) (f:α->a8) (v:Nat->Nat):nH (L.map f) 0 v↔∃ x∈L,v=dH (f x):=by
 unfold nH;constructor
 . rintro ⟨i,a,_,rfl⟩;have b:i<L.length:=(oD a);exact ⟨L[i],T6 b,ek⟩
 . rintro ⟨x,c,rfl⟩;obtain ⟨i,a,rfl⟩:=UR c;exact ⟨i,oD a,T8 _,ek⟩
def GC (x i:Nat):x/2^i%2=0↔x.testBit i=ZT:=by
 rw [Wy];simp
theorem CN (M:List a8) (lost n:Nat) (h:n<=16):nH (cY M lost n) 0=Kc (mf M) n (λi=>i∉ab (aw n lost)):=by
 funext v;apply propext;unfold cY;rw [OB];unfold Kc;constructor
 . rintro ⟨i,a,rfl⟩;obtain ⟨c,d⟩:=Vq.1 a;refine ⟨i,Ur.1 c,λb=>?_,rfl⟩;have:=(bM h).1 b;rw [(GC lost i).1 (WE d)] at this;exact absurd this.2 ee
 . rintro ⟨i,a,b,rfl⟩;refine ⟨i,Vq.2 ⟨Ur.2 a,UZ ((GC lost i).2 ?_)⟩,rfl⟩;cases hb:lost.testBit i
   . rfl
   . exact absurd ((bM h).2 ⟨a,hb⟩) b
theorem E9 (g:D<=12) (k:G<=4) (h:D+L+G<=16):gu D L G lost↔∃ C,tells (jR D L G) (ab (aw (D+L+G) lost))=ZV C:=by
 have a:=jQ D L G g k;have e:D+(L+G)=D+L+G:=ec
 unfold gu;rw [CN _ _ _ h];constructor
 . intro j;rcases a.told (ab (aw (D+L+G) lost)) with ⟨C,b,_⟩|⟨_,c⟩
   . exact ⟨C,b⟩
   . refine absurd ?_ (a.Tw (E7 _) (λi l=>by rw [e];exact ((bM h).1 l).1) c);rw [e];exact j
 . rintro ⟨C,f⟩;rcases a.told (ab (aw (D+L+G) lost)) with ⟨m,_,c⟩|⟨b,_⟩
   . have:=a.full c;rw [e] at this;exact this
   . have d:tells (jR D L G) (ab (aw (D+L+G) lost))=ZW:=b;rw [f] at d;cases d
def oK (g:D<=12) (h:G<=4) {C:Ck} (d:tells (jR D L G) (ab (aw (D+L+G) lost))=ZV C) :
 Hh (mf (aT D L G)) D (L+G) (ab (aw (D+L+G) lost)) (aP 8 C (bz (D+L+G) lost)).1/\fj (kl (mf (aT D L G)) D (L+G)) (vX (mf (aT D L G)) D (D+(L+G))) (ab (aw (D+L+G) lost)) C:=by
 have e:=jQ D L G g h;rcases e.told (ab (aw (D+L+G) lost)) with ⟨f,b,c⟩|⟨b,_⟩
 . have a:tells (jR D L G) (ab (aw (D+L+G) lost))=ZV f:=b;rw [d] at a;obtain rfl:=UM a;exact ⟨e.SB c (zq 8 C _).1,c⟩
 . have a:tells (jR D L G) (ab (aw (D+L+G) lost))=ZW:=b;rw [d] at a;cases a
def bS (D L G lost:Nat) (C:Ck):List St:=fW (aP 8 C (bz (D+L+G) lost)).1 (aw (D+L+G) lost) (bz (D+L+G) lost)
section
def lq (D:List a8) (R:List a8) (P:List St):List a8:=P.foldl (λR s=>dO D s R) R
def uo (D R:List a8):lq D R []=R:=rfl
def IL (D R:List a8) (s:St) (P:List St):lq D R (s::P)=lq D (dO D s R) P:=rfl
def lT (D R:List a8) (P Q:List St):lq D R (P++Q)=lq D (lq D R P) Q:=by unfold lq;rw [Wu]
def ur (P:List St) (D a:List a8):∀ k,k<=P.length->bP P D a k=lq D a (P.take k)
 | 0,_=>by simp [bP,lq]
 | k+1,h=>by
  have b:k<P.length:=ec
  show dO D (bF P k) (bP P D a k)=_;rw [ur P D a k ec,dS P k b,abn b,lT];rfl
def uv (P:List St) (D a:List a8):∀ k,k<=P.length->(∀ i (h:i<P.length),i<k->P[i].k≠2)->dA P D a k=[]
 | 0,_,_=>rfl
 | k+1,h,hn=>by
  have b:k<P.length:=ec
  show ig (bF P k) _ _=[];rw [uv P D a k ec (λi c d=>hn i c ec),dS P k b];unfold ig;rw [TS (hn k b ec)]
def CO (D R:List a8) {s:St} (h:s.k=2):dO D s R=R:=by
 unfold dO;rw [TS ec,TS ec]
def uw (A Q:List St) (D c:List a8) (g:∀ s∈A,s.k≠2) (j:∀ s∈Q,s.k=2):∀ k,k<=Q.length ->
 bP (A++Q) D c (A.length+k)=lq D c A/\dA (A++Q) D c (A.length+k)=(Q.take k).map (λs=>(s.b,(lq D c A).getD s.a.toNat []))
 | 0,_=>by
  refine ⟨?_,?_⟩
  . rw [VR,ur _ _ _ _ ek];simp
  . rw [VR,uv _ _ _ _ ek (λi l d=>by rw [XV d];exact g _ (T6 d))];simp
 | k+1,h=>by
  obtain ⟨e,o⟩:=uw A Q D c g j k ec;have m:k<Q.length:=ec
  have l:A.length+k<(A++Q).length:=en
  have n:bF (A++Q) (A.length+k)=Q[k]:=by rw [dS _ _ l,XU ec];simp
  have f:=j _ (T6 m);refine ⟨?_,?_⟩
  . show dO D (bF (A++Q) (A.length+k)) (bP (A++Q) D c (A.length+k))=_;rw [n,e,CO D _ f]
  . show ig (bF (A++Q) (A.length+k)) (bP (A++Q) D c (A.length+k)) (dA (A++Q) D c (A.length+k))=_;rw [n,e,o];unfold ig;rw [TT f,abn m,Uw];rfl
def xl (f:Nat->Nat) (K:a8):Nat:=K.foldr (λi a=>f i^^^a) 0
def LL (f:Nat->Nat):xl f []=0:=rfl
def Aj (f:Nat->Nat) (i:Nat) (K:a8):xl f (i::K)=f i^^^xl f K:=rfl
theorem CP (f:Nat->Nat) (p:Nat->Bool):∀ n,xl f ((YE n).filter p)=xs (λi=>if p i=ZU then f i else 0) n
 | 0=>rfl
 | n+1=>by
  have b:∀ A B:a8,xl f (A++B)=xl f A^^^xl f B:=by
   intro A B;induction A with
   | nil=>rw [Uq,LL,VU]
   | cons a A ih=>rw [US,Aj,Aj,ih,U3]
  rw [Vw,Wv,b,CP f p n];show _=xs _ n^^^(if p n=ZU then f n else 0);congr 1;by_cases h:p n=ZU
  . rw [TT h];simp [h,xl]
  . rw [TS h];simp [h,xl]
structure Rg (R:List a8) (T m:Nat) (v:Nat->Nat->Nat):Prop where
 len:R.length=1+T
 row:∀ r,r<T->R.getD (1+r) []=(YE m).map (v r)
def oL {R:List a8} {a:Nat} {x:a8} (c:a<R.length):(R.set a x).getD b []=if a=b then x else R.getD b []:=by
 rw [Ub,Xn];by_cases e:a=b
 . subst e;simp [c]
 . simp [e]
theorem Fa (m:Nat) (v:Nat->Nat) (y:a8) (c:Nat):iR ((YE m).map v) y c=(YE m).map (λq=>v q^^^gm c (y.getD q 0)):=by
 unfold iR;rw [Ue,Vp];apply Wt;intro q a;have:=Ur.1 a;simp [this]
theorem CQ (B:Ck) (D:List a8) (i T m:Nat) (y:a8) (v:Nat->Nat->Nat) {R:List a8} (h:Rg R T m v) (j:R.getD 0 []=y):∀ k,k<=T ->
 (lq D R (gI B i k)).getD 0 []=y/\Rg (lq D R (gI B i k)) T m (λr q=>if r<k then v r q^^^gm (B.m r i) (y.getD q 0) else v r q)
 | 0,_=>by rw [tT,uo];exact ⟨j,h.len,λr d=>by rw [h.row r d];simp⟩
 | k+1,hk=>by
  obtain ⟨f,a⟩:=CQ B D i T m y v h j k ec;by_cases g:B.m k i=0
  . rw [xZ B i k g];refine ⟨f,a.len,λr d=>?_⟩;rw [a.row r d];apply Wt;intro q _;by_cases c:r<k
    . rw [TT c,TT ec]
    . by_cases e:r=k
      . subst e;rw [TS c,TT ec,g,bI,U4]
      . rw [TS c,TS ec]
  . rw [Ci B i k g,lT];generalize h5:lq D R (gI B i k)=b at f a;have l:lq D b [⟨1,1+(k:Int),0,B.m k i⟩]=b.set (1+k) (iR (b.getD (1+k) []) (b.getD 0 []) (B.m k i)):=by
     show dO D ⟨1,1+(k:Int),0,B.m k i⟩ b=_;unfold dO;have e:(1+(k:Int)).toNat=1+k:=ec;simp only [e];rw [TS ee,TT trivial];rfl
    have hl:1+k<b.length:=(by rw [a.len];omega);rw [l];refine ⟨by rw [oL hl,TS ec];exact f,by rw [VZ];exact a.len,λr d=>?_⟩;rw [oL hl,f];by_cases e:r=k
    . subst e;rw [TT rfl,a.row r d,Fa];apply Wt;intro q _;rw [TS ec,TT ec]
    . rw [TS ec,a.row r d];apply Wt;intro q _;by_cases c:r<k
      . rw [TT c,TT ec]
      . rw [TS c,TS ec]
theorem OC (B:Ck) (D:List a8) (i m:Nat) (v:Nat->Nat->Nat) {R:List a8} (a:Rg R B.told m v):Rg (lq D R (lH B i)) B.told m (λr q=>v r q^^^gm (B.m r i) ((D.getD i []).getD q 0)):=by
 cases hr:cF B i
 . rw [lI hr,uo];refine ⟨a.len,λr h=>?_⟩;rw [a.row r h];apply Wt;intro q _;rw [gX.1 hr r h,bI,U4]
 . rw [iy hr,IL];have b:0<R.length:=(by rw [a.len];omega);have e:dO D ⟨0,0,(i:Int),0⟩ R=R.set 0 (D.getD i []):=by
    unfold dO;rw [TT rfl];rfl
   rw [e];have d:Rg (R.set 0 (D.getD i [])) B.told m v:=⟨by rw [VZ];exact a.len,λr h=>by rw [oL b,TS ec];exact a.row r h⟩;obtain ⟨_,c⟩:=CQ B D i B.told m (D.getD i []) v d (by rw [oL b,TT rfl]) B.told lR;refine ⟨c.len,λr h=>?_⟩;rw [c.row r h];apply Wt;intro q _;rw [TT h]
theorem LM (B:Ck) (D:List a8) (m:Nat):∀ (K:a8) (v:Nat->Nat->Nat) (R:List a8),Rg R B.told m v->Rg (lq D R (wrTo B K)) B.told m (λr q=>v r q^^^xl (λi=>gm (B.m r i) ((D.getD i []).getD q 0)) K)
 | [],v,R,h=>by
  rw [show wrTo B []=[] from rfl,uo];exact ⟨h.len,λr a=>by rw [h.row r a];simp [LL]⟩
 | i::K,v,R,h=>by
  have e:wrTo B (i::K)=lH B i++wrTo B K:=by unfold wrTo;simp
  rw [e,lT];have:=LM B D m K _ _ (OC B D i m v h);refine ⟨this.len,λr a=>?_⟩;rw [this.row r a];apply Wt;intro q _;rw [Aj,U3]
def LN (T m:Nat):Rg (eW (1+T) m) T m (λ_ _=>0):=by
 refine ⟨by simp [eW],λr a=>?_⟩;unfold eW;have:1+r<1+T:=ec
 rw [Ub,WH,TT this];simp [List.map_const']
def LO {P:List St} {D:List a8} (h:∀ s∈P,s.k=0->(D.getD s.b.toNat []).length=m):∀ k,k<=P.length->fl P D k=ZW\/fl P D k=ZV m
 | 0,_=>.inl rfl
 | k+1,hk=>by
  rcases LO h k ec with e|e
  . by_cases a:(bF P k).k=0
    . rw [Ac P D k e a];rw [dS P k ec] at a ⊢;exact .inr (by rw [h _ (T6 _) a])
    . rw [tU P D k a];exact .inl e
  . exact .inr (oA P D k m e)
def CR {P:List St} {D:List a8} (h:∀ s∈P,s.k=0->(D.getD s.b.toNat []).length=m) {k:Nat} (a:k<P.length) (c:P[k].k=0):fl P D (k+1)=ZV m:=by
 rcases LO h k ec with e|e
 . rw [Ac P D k e (by rw [dS P k a];exact c),dS P k a,h _ (T6 a) c]
 . exact oA P D k m e
def JZ (S:List a8) (lost:Nat):List a8:=(YE S.length).map (λi=>if lost.testBit i=ZU then [] else S.getD i [])
def Ak (S:List a8) (lost i:Nat) (a:i<S.length):(JZ S lost).getD i []=if lost.testBit i=ZU then [] else S.getD i []:=by simp [JZ,a]
def LP (row:a8) (Dt:List a8) (q:Nat):∀ t,Ou row Dt t q=xs (λj=>gm (row.getD j 0) ((Dt.getD j []).getD q 0)) t
 | 0=>rfl
 | t+1=>by
  show Ou row Dt t q^^^gm (row.getD t 0) ((Dt.getD t []).getD q 0)=xs (λj=>gm (row.getD j 0) ((Dt.getD j []).getD q 0)) t^^^gm (row.getD t 0) ((Dt.getD t []).getD q 0);rw [LP row Dt q t]
def Q8 (a:i<M.length) (j:Nat):mf M i j=(M[i]).getD j 0:=by unfold mf;simp [a]
theorem Al (M Dt:List a8) (m i:Nat) (a:i<M.length):(fs M Dt m).getD i []=(YE m).map (λq=>xs (λj=>gm (mf M i j) ((Dt.getD j []).getD q 0)) Dt.length):=by
 have e:(fs M Dt m).getD i []=cI M[i] Dt m Dt.length:=by simp [fs,a]
 rw [e];unfold cI;apply Wt;intro q _;rw [LP];exact eO _ (λj _=>by rw [Q8 a])
def Am (M Dt:List a8) (m:Nat):(fs M Dt m).length=M.length:=by simp [fs]
def oM:oz lost i↔lost.testBit i=ZU:=by
 unfold oz;rw [Wy];simp
section
variable {D L G lost m:Nat} {C:Ck} {Dt:List a8}
def jS (c:D+L+G<=16) {s:St} (e:s∈bS D L G lost C) (a:s.k=0):∃ i:Nat,s.b=(i:Int)/\i<D+L+G/\lost.testBit i=ZT:=by
 rcases E8 e with ⟨i,d,rfl⟩|⟨_,_,_,_,rfl⟩|⟨_,_,rfl⟩
 . exact ⟨i,rfl,(oJ c).1 d⟩
 . exact absurd a (Nat.one_ne_zero)
 . exact absurd a (Nat.succ_ne_zero 1)
def An (c:D+L+G<=16):∀ s∈bS D L G lost C,s.k=0->((JZ (fs (aT D L G) Dt m) lost).getD s.b.toNat []).length=m:=by
 intro s f a;obtain ⟨i,d,e,hl⟩:=jS c f a;have:(fs (aT D L G) Dt m).length=D+L+G:=by rw [Am,cJ]
 rw [d,VD,Ak _ _ _ ec,TS (by rw [hl];decide),Al _ _ _ _ (by rw [cJ];exact e)];simp
def OD (c:D+L+G<=16) (h:m<=4096):gJ (bS D L G lost C) (JZ (fs (aT D L G) Dt m) lost) lost:=by
 intro i b a;rw [dS _ _ b] at a ⊢;have e:=An (m:=m) (Dt:=Dt) c _ (T6 b) a;obtain ⟨j,f,g,hl⟩:=jS c (T6 b) a;refine ⟨λd=>?_,by rw [e];exact CR (An c) b a,ec⟩;rw [f,VD] at d;have:=oM.1 d;rw [hl] at this;cases this
theorem Fb (b:D+L+G<=16) (a:0<iD (ab (bz (D+L+G) lost)) (aP 8 C (bz (D+L+G) lost)).1):eB (bS D L G lost C) (JZ (fs (aT D L G) Dt m) lost)=m:=by
 unfold iD at a;obtain ⟨i,g⟩:=List.exists_mem_of_length_pos a;obtain ⟨c,d⟩:=Vq.1 g;have j:(⟨0,0,(i:Int),0⟩:St)∈bS D L G lost C:=by
  unfold bS fW wrTo;refine UG _ (YN.2 ⟨lH _ i,T9.2 ⟨i,c,rfl⟩,?_⟩);rw [iy d];exact U8
 obtain ⟨k,h,e⟩:=UR j;have f:=CR (An (m:=m) (Dt:=Dt) b) h Wb;have:=Gu _ _ _ _ f (bS D L G lost C).length ec;unfold eB;rw [this];rfl
theorem OE (w:D<=12) (y:G<=4) (b:D+L+G<=16) (I:tells (jR D L G) (ab (aw (D+L+G) lost))=ZV C) (p:Dt.length=D) (U:∀ l∈Dt,∀ x∈l,x<256) :
 ∃ O,dA (bS D L G lost C) (JZ (fs (aT D L G) Dt m) lost) (eW (1+(ab (aw (D+L+G) lost)).length) (eB (bS D L G lost C) (JZ (fs (aT D L G) Dt m) lost))) (bS D L G lost C).length=O /\
  O.length=(ab (aw (D+L+G) lost)).length/\∀ k (S:k<O.length) (f:k<(ab (aw (D+L+G) lost)).length),O[k].1=(((ab (aw (D+L+G) lost))[k]:Nat):Int)/\(0<iD (ab (bz (D+L+G) lost)) (aP 8 C (bz (D+L+G) lost)).1->O[k].2=(fs (aT D L G) Dt m).getD (ab (aw (D+L+G) lost))[k] []):=by
 obtain ⟨o,_⟩:=oK w y I;have K:=jQ D L G w y;have e:D+(L+G)=D+L+G:=ec
 have J:(bS D L G lost C).length=(wrTo (aP 8 C (bz (D+L+G) lost)).1 (ab (bz (D+L+G) lost))).length+(fL (ab (aw (D+L+G) lost))).length:=by unfold bS fW;rw [Ua]
 have N:(fL (ab (aw (D+L+G) lost))).length=(ab (aw (D+L+G) lost)).length:=by unfold fL;simp
 have R:=λz=>uw (wrTo (aP 8 C (bz (D+L+G) lost)).1 (ab (bz (D+L+G) lost))) (fL (ab (aw (D+L+G) lost))) (JZ (fs (aT D L G) Dt m) lost) z (λs a=>by
  unfold wrTo at a;obtain ⟨l,hl,a⟩:=YN.1 a;obtain ⟨i,c,rfl⟩:=T9.1 hl;cases hr:cF (aP 8 C (bz (D+L+G) lost)).1 i
  . rw [lI hr] at a;cases a
  . rw [iy hr] at a;rcases Uv.1 a with rfl|a
    . exact (by decide:(0:Nat)≠2)
    . unfold gI at a;obtain ⟨r,_,rfl⟩:=T9.1 a;exact (by decide:(1:Nat)≠2)) (λs a=>by
  unfold fL at a;obtain ⟨k,_,rfl⟩:=T9.1 a;rfl) _ lR
 refine ⟨_,rfl,?_⟩;rw [J];have g:=(R (eW (1+(ab (aw (D+L+G) lost)).length) (eB (bS D L G lost C) (JZ (fs (aT D L G) Dt m) lost)))).2;rw [VA] at g;rw [show bS D L G lost C=wrTo (aP 8 C (bz (D+L+G) lost)).1 (ab (bz (D+L+G) lost))++fL (ab (aw (D+L+G) lost)) from rfl] at g ⊢;rw [g];refine ⟨by simp [N],λk S f=>?_⟩;have:k<(fL (ab (aw (D+L+G) lost))).length:=ec
 have H:(fL (ab (aw (D+L+G) lost)))[k]=⟨2,(k:Int)+1,(((ab (aw (D+L+G) lost))[k]:Nat):Int),0⟩:=by
  simp [fL,f]
 rw [UN,H];refine ⟨rfl,λE=>?_⟩;have v:=Fb (m:=m) (Dt:=Dt) b E;rw [show bS D L G lost C=wrTo (aP 8 C (bz (D+L+G) lost)).1 (ab (bz (D+L+G) lost))++fL (ab (aw (D+L+G) lost)) from rfl] at v;rw [v];have Q:=LM (aP 8 C (bz (D+L+G) lost)).1 (JZ (fs (aT D L G) Dt m) lost) m (ab (bz (D+L+G) lost)) (λ_ _=>0) (eW (1+(ab (aw (D+L+G) lost)).length) m) (by rw [o.told];exact LN _ _);have F:=Q.row k (by rw [o.told];exact f);have B:((k:Int)+1).toNat=1+k:=ec
 show (lq _ _ _).getD ((k:Int)+1).toNat []=_;rw [B,F,Al _ _ _ _ (by rw [cJ];exact ((bM b).1 (T6 f)).1)];apply Wt;intro q T;have P:=Ur.1 T;have u:=o.sum K (λi c=>by rw [e];exact ((bM b).1 c).1) (λj=>(Dt.getD j []).getD q 0) (λj=>by
  show (Dt.getD j []).getD q 0<256;by_cases n:j<Dt.length
  . have A:Dt.getD j []=Dt[j]:=(by simp [n]);rw [A];exact dm (U _ (T6 n)) q
  . simp [n]) k f
 rw [e] at u;rw [p,<- u,VU];rw [show ab (bz (D+L+G) lost)=(YE 16).filter (λi=>(bz (D+L+G) lost).testBit i) from rfl,CP];obtain ⟨d,M⟩:=Nat.exists_eq_add_of_le b;rw [M,zt];have V:xs (λi=>if (bz (D+L+G) lost).testBit (D+L+G+i)=ZU then gm ((aP 8 C (bz (D+L+G) lost)).1.m k (D+L+G+i)) (((JZ (fs (aT D L G) Dt m) lost).getD (D+L+G+i) []).getD q 0) else 0) d=0:=dV d (λi _=>by
  rw [TS];rw [qA _ _ b,show decide (D+L+G+i<D+L+G)=ZT from Vr ec];simp)
 rw [V,U4];apply eO;intro i c;have:(fs (aT D L G) Dt m).length=D+L+G:=by rw [Am,cJ]
 rw [qA _ _ b];have t:i∈ab (aw (D+L+G) lost)↔lost.testBit i=ZU:=by
  rw [bM b];exact ⟨λh=>h.2,λh=>⟨c,h⟩⟩
 cases hb:lost.testBit i
 . rw [TT (Za:(decide (i<D+L+G) && !false)=ZU),TS (λh=>by rw [t,hb] at h;cases h),Ak _ _ _ ec,TS (by rw [hb];decide),Al _ _ _ _ (by rw [cJ];exact c),p];congr 1;simp [P]
 . rw [TS (ek:¬ (decide (i<D+L+G) && !true)=ZU),TT (t.2 hb)]
end
theorem CS (d:D<=12) (e:G<=4) (b:D+L+G<=16) (c:tells (jR D L G) (ab (aw (D+L+G) lost))=ZV C):∀ s∈bS D L G lost C,zL s:=by
 intro s k;have a:=(oK d e c).1;have:=a.le;have:=a.Sb;rcases E8 k with ⟨i,g,rfl⟩|⟨i,_,r,o,rfl⟩|⟨j,h,rfl⟩
 . have:=((oJ b).1 g).1;exact ⟨Ze,by show -9223372036854775808<=(0:Int);omega,by show (0:Int)<=9223372036854775807;omega,by show -9223372036854775808<=(i:Int);omega,by show (i:Int)<=9223372036854775807;omega,Ze⟩
 . exact ⟨by show 1<256;decide,by show -9223372036854775808<=(1:Int)+(r:Int);omega,by show (1:Int)+(r:Int)<=9223372036854775807;omega,by show -9223372036854775808<=(0:Int);omega,by show (0:Int)<=9223372036854775807;omega,a.byt r i⟩
 . have:(ab (aw (D+L+G) lost)).length<=16:=TU (WS _ _) ek;have f:=((bM b).1 (T6 h)).1;generalize (ab (aw (D+L+G) lost))[j]=y at f;exact ⟨by show 2<256;decide,by show -9223372036854775808<=(j:Int)+1;omega,by show (j:Int)+1<=9223372036854775807;omega,by show -9223372036854775808<=(y:Int);omega,by show (y:Int)<=9223372036854775807;omega,Ze⟩
def LQ (e:D<=12) (j:L<=4) (f:G<=4) (c:D+L+G<=16) (d:tells (jR D L G) (ab (aw (D+L+G) lost))=ZV C):iM (1+((ab (aw (D+L+G) lost)).length:Int)) (bS D L G lost C) ((D+L+G:Nat):Int):=by
 have b:=(oK e f d).1;have:=b.le;have:=b.Sb;exact aaJ b.told ec (λi a=>((oJ c).1 a).1) (λi a=>((bM c).1 a).1)
end
section
attribute [local go_sem] Oper.semAt_some
def LR (v:ZR) (w:ZS):(Instr.typeAssert (.iface 213 v) 215 213 ZU).run ZK w=.ok (ZY #[v,Z1 ZU]) w:=by
 simp [Instr.typeAssert,UL underlying213]
def IM:(ZK.info? 213).map (·.size)=ZV 44:=ei
def CT (w:ZS) (z:Array ZR) (c:z.size=44) (l:a8) (hl:l.length=44):(Instr.storeAt 213 (Z6 (ZV ⟨w.heap.size,0,ZW⟩)) (.agg (aJ l).toArray)).run ZK (w.alloc (Z4 z 213))=.ok () (w.alloc (Z4 (aJ l).toArray 213)):=by
 have a:(aJ l).toArray.size=44:=by rw [UH,aX,hl]
 have:=run_storeVar_new (P:=ZK) w 213 z (aJ l).toArray (by rw [a];exact IM) (by rw [a,c]) (by
  rw [List.all_toArray,WU];intro u b;obtain ⟨x,_,rfl⟩:=T9.1 b;rfl)
 simp only [Instr.storeAt,Instr.sureAddr,UE,VP,UT,this]
def Ao {F:Fence} (d:o.guard=ZW) (x y:ZL) (ho:o.op=.store 213 x y) {z:Array ZR} {l:a8}
 (e:a.eval x=Z6 (ZV ⟨w.heap.size,0,ZW⟩)) (f:a.eval y=.agg (aJ l).toArray) (g:z.size=44) (hl:l.length=44) (h:wpListIn F n ZK ops Q rest (a.put o.dst ZX) (w.alloc (Z4 (aJ l).toArray 213))):wpListIn F n ZK ops Q (o::rest) a (w.alloc (Z4 z 213)):=by
 refine Yj d λK b=>?_;unfold Oper.wpIn;refine ⟨Zt,?_⟩;rw [Vu F _ _ iE];simp [execOp,ho,e,f,CT w z g l hl,Result.andThen];exact b _ _ h
def CU (X:ZS) (a:Addr):(Instr.storeAt 231 (Z6 (ZV a)) (.agg #[])).run ZK X=.ok () X:=ei
def Ap {F:Fence} (d:o.guard=ZW) (x y:ZL) (ho:o.op=.store 231 x y) {ad:Addr}
 (e:a.eval x=Z6 (ZV ad)) (f:a.eval y=.agg #[]) (h:wpListIn F n ZK ops Q rest (a.put o.dst ZX) w):wpListIn F n ZK ops Q (o::rest) a w:=by
 refine Yj d λK b=>?_;unfold Oper.wpIn;refine ⟨Zt,?_⟩;rw [Vu F _ _ iE];simp [execOp,ho,e,f,CU,Result.andThen];exact b _ _ h
def LS (c:fn.results=#[]) (b:a.defers=[{ target:=.collected D',args:=#[] }])
 (hK:Z.heap[D']?=ZV (.deferred (ZV []))) (hR:R (Z3 (ZY #[])) (Z.putObj D' (.deferred ZW))):bodyPostM Fence.wide n ZK fn R .normal a Z:=by
 obtain ⟨e,d⟩:=a;simp only at b;subst b;refine ⟨ek,.inl ⟨_,_,rfl,WA hK,?_⟩⟩;refine ⟨ZY #[],?_,hR⟩;simp [results,c]
def Kn (w:ZS) (base:Nat) (f0 f:Nat->ZR) (R:Nat->a8) (ds:a8):Prop:=(∀ i,i∉ds->f i=f0 i)/\∀ i,i∈ds->∃ bl,f i=Z5 (ZV ⟨bl,0,ZW⟩) 44 44/\base<=bl/\bl<w.heap.size/\w.heap[bl]?=ZV (Z4 (aJ (R i)).toArray 213 (0,0))
def Kn.keep {f:Nat->ZR} {R:Nat->a8} (h:Kn w base f0 f R ds) (d:w.heap.size<=w'.heap.size) (c:∀ k o,base<=k->w.heap[k]?=ZV o->o.isCells=ZU->w'.heap[k]?=ZV o):Kn w' base f0 f R ds:=by
 refine ⟨h.1,λi b=>?_⟩;obtain ⟨bl,e,a,g,j⟩:=h.2 i b;exact ⟨bl,e,a,T7 g d,c bl _ a j rfl⟩
def Kn.nil (w:ZS) (base:Nat) (f0:Nat->ZR) (R:Nat->a8):Kn w base f0 f0 R []:=⟨λ_ _=>rfl,λ_ h=>vE⟩
def yG (S x:Nat):Nat:=S &&& (18446744073709551615-x)
def GD (S x:Nat) (a:S<65536) (b:x<65536):bits .andNot .u64 (S:Int) (x:Int)=(yG S x:Int):=Yb S x ec ec
def Fe {S:Nat} (x:Nat) (a:S<65536):yG S x<65536:=WX WL a
theorem sD {S x:Nat} (d:x<65536):i∈ab (yG S x)↔i∈ab S/\x.testBit i=ZT:=by
 rw [cE,cE];unfold yG;have e:(18446744073709551615-x).testBit i=(decide (i<64) && !x.testBit i):=by
  have:=XB (x:=x) (n:=64) ec i;rwa [(ec:2^64-(x+1)=18446744073709551615-x)] at this
 rw [XG,e];constructor
 . rintro ⟨b,a⟩;simp at a;exact ⟨⟨b,a.1⟩,a.2.2⟩
 . rintro ⟨⟨b,a⟩,c⟩;refine ⟨b,?_⟩;simp [a,c];omega
def wE:Nat->ZR:=λ_=>Z5 ZW 0 0
def A2 (ds l:a8):a8:=l.filter λi=>decide (i∉ds)
def Q9 (h:i∈ds):A2 ds (l++[i])=A2 ds l:=by unfold A2;rw [Wv];simp [h]
def oN (h:i∉ds):A2 ds (l++[i])=A2 ds l++[i]:=by unfold A2;rw [Wv];simp [h]
def GE:i∈A2 ds l↔i∈l/\i∉ds:=by unfold A2;rw [Vq];simp
def CV:∃ z,∀ w:ZS,(Instr.typeAssert .nilIface 215 213 ZU).run ZK w=.ok (ZY #[z,Z1 ZT]) w:=by
 exact ⟨.agg (YF 44 (Z7 .u8 0)).toArray,λw=>ei⟩
def CW:∃ z,∀ w:ZS,(Instr.typeAssert .nilIface 215 231 ZU).run ZK w=.ok (ZY #[z,Z1 ZT]) w:=by
 exact ⟨.agg #[],λw=>ei⟩
def CX (A:az) (b:Nat) (ds:a8):a8:=ds.filter λi=>!gnB A b i
def Ra {A:az} (ds:a8) {d:Nat} (h:gnB A b d=ZU):CX A b (ds++[d])=CX A b ds:=by unfold CX;rw [Wv];simp [h]
def GF {A:az} (ds:a8) {d:Nat} (h:gnB A b d=ZT):CX A b (ds++[d])=CX A b ds++[d]:=by unfold CX;rw [Wv];simp [h]
def mv {A:az}:d∈CX A b ds↔d∈ds/\gnB A b d=ZT:=by unfold CX;rw [Vq];simp
def LU {A:az} (h:gnB A b d=ZT):A.RX d b=ZV (A.rc d b):=by
 unfold gnB at h;simp only [XQ] at h;unfold az.RX az.rd;rw [h.1.1,h.1.2,h.2];rfl
def Ff {A:az} (h:gnB A b d=ZU):(A.lost d=ZU/\A.RX d b=ZW)\/(A.lost d=ZT/\A.RX d b=ZW)\/(A.lost d=ZT/\A.RX d b=ZV .blank):=by
 unfold gnB at h;unfold az.RX az.rd;cases hl:A.lost d<;>cases hb:A.bad d b<;>cases hk:A.bl d b<;>simp [hl,hb,hk] at h ⊢
def IN:∃ z,∀ w:ZS,(Instr.typeAssert (dI .blank) 215 213 ZU).run ZK w=.ok (ZY #[z,Z1 ZT]) w:=by
 exact ⟨.agg (YF 44 (Z7 .u8 0)).toArray,λw=>ei⟩
def IP (w:ZS):(Instr.typeAssert (dI .blank) 215 231 ZU).run ZK w=.ok (ZY #[.agg #[],Z1 ZU]) w:=ei
def VrK (p d b:Nat) (A:az) (F:aK) (w:ZS) (Y:ZR) (w':ZS):Prop:=
 aA w' p A F/\aa F.S w w'/\(ZP ZK 76 #[Y,.iface 66 (Z7 Z9 11)] w' λe w''=>e=Z3 (Z1 (A.lost d))/\w''=w')/\(A.RX d b≠ZW->Y=.nilIface)
def IQ {v:Nat} {A:az} (j:bg w v p D L G ps ho) (h:aA w p A F) (d b:Nat) (l:d<A.n) (k:b<A.nb) (o:bV w) (m:¬ F.S 2) :
 ZP ZK 120 #[Z6 (ZV ⟨v,0,ZW⟩),Z7 Z9 d,Z7 Z9 b] w λe w'=>∃ Y,e=Z3 (ZY #[fU (A.RX d b),Y])/\VrK p d b A F w Y w':=by
 refine (rk j h d b l k o m).mono ?_;rintro e w' ⟨c,f,⟨r,a,rfl⟩|⟨a,q,rfl,s,i⟩⟩
 . refine ⟨.nilIface,T2,c,f,?_⟩;have hl:A.lost d=ZT:=(by cases h:A.lost d;rfl;unfold az.RX at a;rw [TT h] at a;cases a);rw [hl];exact ⟨zJ 11 w',λ_=>rfl⟩
 . refine ⟨si q,T2,c,f,?_⟩;have g:=BG i 11;cases hl:A.lost d<;>(rw [hl] at g;exact ⟨g,λq=>absurd a q⟩)
structure FgI (w:ZS) (r v b g N p D L G ps ho gone sp B0:Nat) (ds:a8) (A:az) (F:aK) (M:Nat->a8) (B S:Nat) (pre:List (Mb S)) (X:ZS):Prop where
 b2:ZM X w.heap.size 170 (Z6 (ZV ⟨r,0,ZW⟩))
 rd:dZ X r v b g N (gone|||jL (gnB A b) (A2 ds (dF pre))) sp
 vol:∃ h,h<2^N/\bg X v p D L G ps h
 row:∃ f,X.rowIs g 40 N f/\Kn X B0 wE f M (ds++CX A b (A2 ds (dF pre)))
 arr:aA X p A F
 out:aa (λk=>k=g\/k=r\/k=v\/F.S k) w X
 size:B<=X.heap.size
def FgI.own {v:Nat} {A:az} {M:Nat->a8} {S:Nat} (J:w.heap.size+1<=B) (K:g<w.heap.size) (O:r<w.heap.size) (P:v<w.heap.size) (u:∀ k,F.S k->k<w.heap.size):OwnFrom B (FgI w r v b g N p D L G ps ho gone sp B0 ds A F M B S):=by
 rintro pre X Y row ⟨l,m,⟨j,E,I⟩,⟨f,n,x⟩,q,s,t⟩ a i;have c:∀ k,k<w.heap.size+1->Y.heap[k]?=X.heap[k]?:=λk c=>a.block k ec (λe=>e9 ((i k e.symm).1));refine ⟨(c _ ec).trans l,m.keep (c _ ec),⟨j,E,I.keep (c _ ec)⟩,⟨f,n.of_block (c _ ec),x.keep a.size λk o _ ho y=>?_⟩,q.keep λk z=>c k (e9 (u k z)),s.later (T:=λk=>w.heap.size<=k) ⟨a.os,a.tape,a.output,a.size,λk C H=>c k ec⟩ (λk C H=>ec),TU t a.size⟩;refine (a.block k (TX.1 ho).1 (λe=>?_)).trans ho;obtain ⟨_,Q,h,d⟩:=i k e.symm;rw [ho] at h;cases h;rw [y] at d;cases d
structure Rb (w:ZS) (r v b g N p D L G ps ho gone sp B0:Nat) (ds:a8) (A:az) (F:aK) (M:Nat->a8) (nw:a8) (e:ZO) (w':ZS):Prop where
 ret:e=Z3 (ZY #[])
 rd:dZ w' r v b g N (gone|||jL (gnB A b) nw) sp
 vol:∃ h,h<2^N/\bg w' v p D L G ps h
 row:∃ f,w'.rowIs g 40 N f/\Kn w' B0 wE f M (ds++CX A b nw)
 arr:aA w' p A F
 out:aa (λk=>k=g\/k=r\/k=v\/F.S k) w w'
theorem IR {v:Nat} {A:az} {M:Nat->a8} (u:pG w v p D L G ps ho A F) (hb:b<A.nb) (hM:∀ i,i<A.n->A.rc i b=.shard (M i)/\(M i).length=44) (hr:dZ w r v b g N gone sp) (kh:w.rowIs g 40 N f0) (x8:Kn w B0 wE f0 M ds) (T:Nat) (hT:T<65536) (x5:gone<65536) (y1:sp<65536) (y7:∀ i,i∈ab T->i<N/\i<A.n)
 (ye:ho<2^N) (qz:N<=16) (qa:v≠r) (z0:3<=r) (z5:3<=v) (x3:¬ F.S g) (ks:¬ F.S r) (x6:r≠g) (xp:v≠g) (yx:3<=g) (qv:B0<=w.heap.size) (yv:g<B0) (yz:r<B0) (z4:v<B0) (qh:∀ k,F.S k->k<B0) :
 ZP ZK 111 #[Z6 (ZV ⟨r,0,ZW⟩),Z7 Z8 T] w (Rb w r v b g N p D L G ps ho gone sp B0 ds A F M (A2 ds (ab (yG (yG T gone) sp)))):=by
 obtain ⟨S1,q0⟩:=nM (yG T gone);obtain ⟨S,qi⟩:=nM (yG S1 sp);have qm:=GD T gone hT x5;have qn:=GD S1 sp (by rw [<- q0];exact Fe _ hT) y1;have B:S<65536:=by rw [<- qi,<- q0];exact Fe _ (Fe _ hT)
 rw [q0] at qm ⊢;rw [qi] at qn ⊢;have y6:∀ i,i∈ab S->i∈ab T:=λi a=>by
  rw [<- qi] at a;have:=((sD y1).1 a).1;rw [<- q0] at this;exact ((sD x5).1 this).1
 clear q0 qi;obtain ⟨n,HN⟩:∃ n:Nat,b9 (9<=n):=⟨9,TV _⟩;have kx:∀ k,F.S k->k<w.heap.size:=λk m=>T7 (qh k m) qv;have yd:=kh.lt;have yk:=hr.lt;have yn:=u.vol.lt;refine (Vd (n:=n)).1 ?_;refine Wh func111 rfl trivial ?_ rfl;simp only [ntmps111,UH,UA,UV,YH,YI,Vg,Vh,Vj,Vk,Uq,US];gi_wp2;obtain ⟨w1,qb⟩:=nM (w.alloc (Z4 #[Z6 (ZV ⟨r,0,ZW⟩)] 170));have h2:ZM w1 w.heap.size 170 (Z6 (ZV ⟨r,0,ZW⟩)):=by rw [<- qb];exact Us w _ _
 have xf:w1.heap.size=w.heap.size+1:=by rw [<- qb];simp
 have qj:bW w w1:=by rw [<- qb];exact bA w _
 rw [qb];clear qb;have q9:=hr.keep (qj.block _ hr.lt);have c3:=q9.cells.2.2.2.1;have c4:=q9.cells.2.2.2.2;refine bX nU 99 [(0,ZU),(1,ZU),(2,ZU),(3,ZU),(4,ZU),(5,ZU),(6,ZU),(7,ZU),(8,ZU),(9,ZU),(10,ZU),(11,ZT)] (λw'=>w'.cell? ⟨w.heap.size,0,ZW⟩=ZV (Z6 (ZV ⟨r,0,ZW⟩))/\w'.cell? ⟨r,3,ZW⟩=ZV (Z7 Z8 gone)/\w'.cell? ⟨r,4,ZW⟩=ZV (Z7 Z8 sp)) ei ei ⟨h2.cell,c3,c4⟩ ?_;iterate 11 (refine aF rfl rfl ?_;apply YG;refine ⟨λw' B=>?_,?_⟩;(obtain ⟨s1,s2,s3⟩:=B;first|(go_simp;done)|(go_simp;exact rfl));simp only [Act.put,TZ,TY,T5])
 refine eR nU (dK S w1.drew) rfl rfl nofun ua ?_;rintro e w6 ⟨rfl,qc⟩;have he:bW w1 w6:=by rw [qc];exact (TW _ w1).drew.alloc lR _
 have c5:=(q9.keep (he.block _ q9.lt)).cells.2.2.2;refine ⟨_,rfl,λ_=>⟨Wj ((he.block _ h2.lt).trans h2),c5.1,c5.2⟩,cH ?_⟩;clear qm qn c3 c4 c5 he;have xh:w6.heap.size=w1.heap.size+1:=by rw [qc];simp
 have xn:w6.cell? ⟨w1.heap.size,0,ZW⟩=ZV (Z7 Z8 (S:Int)):=by rw [qc];exact (Us w1.drew 133 (Z7 Z8 (S:Int))).cell
 have he:bW w1 w6:=by rw [qc];exact (TW _ w1).drew.alloc lR _
 have k5:bW w w6:=qj.trans (he.mono qj.size);have xy:A2 ds (dF ([]:List (Mb S)))=[]:=rfl;have xq:FgI w r v b g N p D L G ps ho gone sp B0 ds A F M (w1.heap.size+1) S [] w6:=
  ⟨(he.block _ h2.lt).trans h2,by rw [xy,show jL (gnB A b) []=0 from rfl,Nat.or_zero];exact hr.keep (k5.block _ hr.lt),⟨ho,ye,u.vol.keep (k5.block _ u.vol.lt)⟩,⟨f0,kh.of_block (k5.block _ kh.lt),by rw [xy,show CX A b []=[] from rfl,Ws];exact x8.keep k5.size λk o _ ho _=>(k5.block k (TX.1 ho).1).trans ho⟩,u.arr.below k5 lR,aa.RL k5 _,ec⟩
 have y3:=ak xn;have qq:=al xq k5;have HZ:=al xf xh;clear xn xq h2 qj k5 he q9 qc xf;rename_i hK
 refine hK _ _ ?_;clear hK;simp only [Act.put,TZ,TY,T5];gi_wp2;obtain ⟨xf,yq,xh⟩:w.heap.size+1<=w1.heap.size/\w1.heap.size<=w.heap.size+1/\w6.heap.size=w1.heap.size+1:=e9 HZ.o
 rw [<- xh] at qq;refine Wi rfl (e9 HN.o) (gf:=147) (lb:=#[Z6 (ZV ⟨w1.heap.size,0,ZW⟩)]) rfl trivial (U5 func147 ei rfl)
  (nt (n-1) w1.heap.size S B w6 ec y3.out (e9 u.room) (u.tab.mono (by exact u.tab.lt) qq.out.2)) (λh k=>qY h k) (qZ (e9 u.room)) (TW _ _) (λ_=>rfl)
  (FgI w r v b g N p D L G ps ho gone sp B0 ds A F M w6.heap.size S) (λ_ _ _=>False) (FgI.own ec yd yk yn kx) (λ_ _ _ _ _ h _ _=>h.elim) qq.out.1
  (λx=>{ tmps:=#[Z6 (ZV ⟨r,0,ZW⟩),Z7 Z8 (T:Int),Z6 (ZV ⟨w.heap.size,0,ZW⟩),ZX,Z7 Z9 (x.1:Int),ZX,ZX,ZX,ZX,Z7 Z8 (T:Int),Z6 (ZV ⟨r,0,ZW⟩),Z6 (ZV ⟨r,0,ZW⟩),Z6 (ZV ⟨r,3,ZW⟩),Z7 Z8 (gone:Int),Z7 Z8 (S1:Int),Z6 (ZV ⟨r,0,ZW⟩),Z6 (ZV ⟨r,0,ZW⟩),Z6 (ZV ⟨r,4,ZW⟩),Z7 Z8 (sp:Int),Z7 Z8 (S:Int),.func (.func 147) #[] #[Z6 (ZV ⟨w1.heap.size,0,ZW⟩)],Z7 Z9 (x.1:Int),ZX,ZX,ZX,ZX,ZX,ZX,ZX,ZX,ZX,ZX,ZX,ZX,ZX,ZX,ZX,ZX,ZX,ZX,ZX,ZX,ZX,ZX,ZX,ZX,ZX,ZX,ZX,ZX,ZX,ZX,ZX,ZX,ZX,ZX,ZX,ZX,ZX,ZX,ZX,ZX,ZX,ZX,ZX,ZX,ZX,ZX,ZX,ZX,ZX,ZX,ZX,ZX,ZX,ZX,ZX,ZX,ZX,ZX,ZX,ZX,ZX,ZX,ZX,ZX,ZX,ZX,ZX,ZX,ZX,ZX,ZX,ZX,ZX,ZX,ZX,ZX,ZX,ZX],defers:=[] }) ?assign ?body ?done ?stop
 case assign=>
  intro l2 x X Kk hK;unfold xN;gi_wp2;exact hK
 case body=>
  rintro l2 pre x X a x9;clear x9;have yo:x.1∈ab S:=cE.2 x.2;obtain ⟨qp,y2⟩:=y7 _ (y6 _ yo);have qs:=a.b2.lt;have c2:=a.b2.cell;obtain ⟨c0,c1,cs,c3,c4⟩:=a.rd.cells;obtain ⟨f,E,H⟩:=a.row;have cg:=E.cell (i:=x.1) qp;have xz:¬ F.S w.heap.size:=λq=>e9 (kx _ q)
  have W:=a.arr;have yi:∀ d∈A2 ds (dF pre),d<16:=λd hd=>by replace hd:=(GE.1 hd).1;unfold dF at hd;obtain ⟨y,_,rfl⟩:=T9.1 hd;exact y.2.1
  have xx:=zR (gnB A b) _ yi;obtain ⟨gn,x4⟩:=nM (jL (gnB A b) (A2 ds (dF pre)));have I:=a.rd;obtain ⟨hl,q7,J⟩:=a.vol;have yf:hl<65536:=T7 q7 (UY (n:=2) ee qz);rw [x4] at xx I;by_cases hy:x.1∈ds++CX A b (A2 ds (dF pre))
  . obtain ⟨bl,y8,y9,ya,yb⟩:=H.2 _ hy;rw [y8] at cg;have HI:=ak a;have HK:=ak H;have HR:=ak E;clear a H E W I J;gi_wp2;rename_i ky
    refine ky _ _ ?_;clear ky;simp only [Act.put,TZ,TY,T5,Bool.not_false];gi_wp2;have a:=HI.o;refine ⟨⟨TV _,λk o _ ho _=>ho⟩,λ_=>u.tab.keep (a.out.block _ u.tab.lt (λq=>by rcases q with q|q|q|q;omega;omega;omega;exact u.t q)),?_⟩;by_cases kb:x.1∈ds
    . refine ⟨a.b2,?_,a.vol,⟨f,HR.o,?_⟩,a.arr,a.out,a.size⟩<;>rw [fw,Q9 kb]
      . exact a.rd
      . exact HK.o
    . have k8:=(mv.1 ((Ui.1 hy).resolve_left kb)).2;refine ⟨a.b2,?_,a.vol,⟨f,HR.o,?_⟩,a.arr,a.out,a.size⟩<;>rw [fw,oN kb]
      . rw [zP _ k8];exact a.rd
      . rw [GF _ k8,<- Uz];refine ⟨λi k9=>HK.o.1 i (λq=>k9 (UG _ q)),λi k9=>HK.o.2 i ?_⟩;rcases Ui.1 k9 with q|q
        . exact q
        . rw [U6.1 q];exact hy
  . have yc:f x.1=Z5 ZW 0 0:=H.1 _ hy;rw [yc] at cg;have kb:x.1∉ds:=λq=>hy (UG _ q);have h5:bV X:=u.laid.keep (a.out.block _ u.laid.lt (λq=>by rcases q with q|q|q|q;omega;omega;omega;exact u.g q));have HI:=hide7 a H E W I J h5;clear a H E W I J h5;gi_wp2;rename_i ky
    refine ky _ _ ?_;clear ky;simp only [Act.put,TZ,TY,T5];gi_wp2;obtain ⟨a,H,E,W,I,J,h5⟩:=HI.o;have yy:gone|||gn<65536:=WO (n:=16) x5 xx;have qk:bW X X.drew:=(TW _ X).drew;have xd:∀ w',aa F.S X w'->w'.cell? ⟨w.heap.size,0,ZW⟩=ZV (Z6 (ZV ⟨r,0,ZW⟩))/\w'.cell? ⟨r,0,ZW⟩=ZV (Z6 (ZV ⟨v,0,ZW⟩))/\w'.cell? ⟨r,1,ZW⟩=ZV (Z7 Z9 b):=λw' hO=>⟨Wj ((hO.block _ qs xz).trans a.b2),(a.rd.keep (hO.block _ a.rd.lt ks)).cells.1,(a.rd.keep (hO.block _ a.rd.lt ks)).cells.2.1⟩;refine bX (eG _) 99 [(0,ZU),(1,ZU),(2,ZU),(3,ZU),(4,ZU),(5,ZU),(6,ZU),(7,ZU),(8,ZU),(9,ZT),(10,ZU),(11,ZU),(12,ZU),(13,ZU),(14,ZU)] (λw'=>w'.cell? ⟨w.heap.size,0,ZW⟩=ZV (Z6 (ZV ⟨r,0,ZW⟩))/\w'.cell? ⟨r,0,ZW⟩=ZV (Z6 (ZV ⟨v,0,ZW⟩))/\w'.cell? ⟨r,1,ZW⟩=ZV (Z7 Z9 b)) ei ei (xd _ (aa.drew X)) ?_;iterate 9 (refine aF rfl rfl ?_;apply YG;refine ⟨λw' B=>?_,?_⟩;(obtain ⟨s1,s2,s3⟩:=B;first|(go_simp;done)|(go_simp;exact rfl));simp only [Act.put,TZ,TY,T5])
    refine eR (eG _) (IQ (J.keep (qk.block _ J.lt)) (W.below qk lR) x.1 b y2 hb (h5.below qk h5.lt) u.g) rfl rfl nofun ua ?_;rintro e w2 ⟨Y,rfl,xj,kc,qx,q5⟩;refine ⟨_,rfl,λ_=>xd _ ((aa.drew X).trans kc),?_⟩;simp only [Act.put,TZ,TY,T5];iterate 5 (refine aF rfl rfl ?_;apply YG;refine ⟨λw' B=>?_,?_⟩;(obtain ⟨s1,s2,s3⟩:=B;first|(go_simp;done)|(go_simp;exact rfl));simp only [Act.put,TZ,TY,T5])
    refine cH ?_;have Q:aa (F.S) X w2:=(aa.drew X).trans kc;have qo:∀ k,B0<=k->k<X.heap.size->w2.heap[k]?=X.heap[k]?:=λk m Z=>Q.block k Z (λq=>e9 (qh k q));have qe:=ak xj;have qf:=al Q qo;clear a H E W I J h5 xj Q kc qo c0 c1 cs c3 c4 cg c2 qk xd;rename_i hK
    refine hK _ _ ?_;clear hK;have q6:∀ z,gnB A b x.1=ZU->dZ z r v b g N (gone|||gn|||2^x.1) sp->(∃ h,h<2^N/\bg z v p D L G ps h)->aa (λk=>k=r\/k=v) w2 z->(X.heap.size<=z.heap.size/\∀ k,w.heap.size<=k->k<X.heap.size->z.heap[k]?=X.heap[k]?)/\aG z/\FgI w r v b g N p D L G ps ho gone sp B0 ds A F M w6.heap.size S (pre++[x]) z:=λz xo xc ym kz=>by
     obtain ⟨a,H,E,_⟩:=HI.o;have yg:∀ k,F.S k->¬ (k=r\/k=v):=λk m e=>by rcases e with e|e;exact ks (by rw [<- e];exact m);exact u.v (by rw [<- e];exact m)
     have y4:=qe.out.keep λk m=>kz.block k (qe.out.RN m) (yg k m);have ke:aa (λk=>k=r\/k=v\/F.S k) X z:=(qf.out.1.mono λ_ _ q=>.inr (.inr q)).trans (kz.mono λ_ _ q=>q.elim .inl λq=>.inr (.inl q));have xk:aa (λk=>k=g\/k=r\/k=v\/F.S k) w z:=a.out.trans (ke.mono λ_ _ q=>.inr q);have xm:∀ k,w.heap.size<=k->k<X.heap.size->z.heap[k]?=X.heap[k]?:=λk m Z=>ke.block k Z (λq=>by rcases q with q|q|q;omega;omega;have:=kx k q;omega);refine ⟨⟨ke.size,xm⟩,u.tab.keep (xk.block _ u.tab.lt (λq=>by rcases q with q|q|q|q;omega;omega;omega;exact u.t q)),?_⟩;have Z:∀ k,B0<=k->k<X.heap.size->z.heap[k]?=X.heap[k]?:=λk m Z=>ke.block k Z (λq=>by rcases q with q|q|q;omega;omega;have:=qh k q;omega);exact ⟨(xm _ lR qs).trans a.b2,by rw [fw,oN kb,zQ _ xo,x4,<- Nat.or_assoc];exact xc,ym,⟨f,E.of_block (ke.block _ E.lt (λq=>by rcases q with q|q|q;exact x6 q.symm;exact xp q.symm;exact x3 q)),by rw [fw,oN kb,Ra _ xo];exact H.keep ke.size λk o m ho _=>(Z k m (TX.1 ho).1).trans ho⟩,y4,xk,TU a.size ke.size⟩
    have HF:=ak q6;clear q6;obtain ⟨qy,kf⟩:=hM _ y2;cases k8:gnB A b x.1 with
    | false=>
     rw [LU k8,qy];obtain ⟨l,y0⟩:=nM (M x.1);rw [y0] at kf ⊢;clear qy qx HF q5;have z3:=LR;simp only [fU,dI];gi_wp2_with (show wpListIn _ _ _ _ _ ({ dst:=ZW,op:=Op.store 213 (Z0 7) (Z0 46),type:=_,pos:=_,after:=_,guard:=_ }::_) _ _;refine Ao (w:=w2) (l:=l) rfl (Z0 7) (Z0 46) rfl um um um kf ?_)
     obtain ⟨Q,qo⟩:=qf.out;obtain ⟨a,H,E,W,I,J,h5⟩:=HI.o;have ys:X.heap.size<=w2.heap.size:=Q.size;have hs:bW w2 (w2.alloc (Z4 (aJ (l)).toArray 213)):=bA w2 _;have xa:(w2.alloc (Z4 (aJ (l)).toArray 213)).heap[w2.heap.size]?=ZV (Z4 (aJ (l)).toArray 213 (0,0)):=Ug _ _;have yr:(w2.alloc (Z4 (aJ (l)).toArray 213)).heap.size=w2.heap.size+1:=ek;obtain ⟨c,k7⟩:=nM (w2.alloc (Z4 (aJ (l)).toArray 213));rw [k7] at hs xa yr ⊢;have ko:∀ k,k<X.heap.size->¬ F.S k->c.heap[k]?=X.heap[k]?:=λk m yh=>(hs.block k ec).trans (Q.block k m yh);have x2:∀ k,B0<=k->k<X.heap.size->c.heap[k]?=X.heap[k]?:=λk m Z=>ko k Z (λq=>e9 (qh k q));have hf:c.rowIs g 40 N f:=E.of_block (ko g E.lt x3);have h7:c.cell? ⟨w.heap.size,0,ZW⟩=ZV (Z6 (ZV ⟨r,0,ZW⟩)):=Wj ((x2 _ qv ec).trans a.b2);have hz:=(I.keep (ko r I.lt ks)).cells.2.2.1;have qr:=hf.cell (i:=x.1) qp;have z8:=hf.frozen x.1;refine bX (eG _) 99 [(0,ZU),(1,ZU),(2,ZU),(3,ZU),(4,ZU),(5,ZU),(6,ZU),(7,ZU),(8,ZT)] (λw'=>w'.cell? ⟨w.heap.size,0,ZW⟩=ZV (Z6 (ZV ⟨r,0,ZW⟩))/\w'.cell? ⟨r,2,ZW⟩=ZV (Z5 (ZV ⟨g,0,ZW⟩) N N)) ei ei ⟨h7,hz⟩ ?_;iterate 8 (refine aF rfl rfl ?_;apply YG;refine ⟨λw' B=>?_,?_⟩;(obtain ⟨s1,s2⟩:=B;first|(go_simp;done)|(go_simp;exact rfl));simp only [Act.put,TZ,TY,T5])
     refine iI (eG _) (w1:=c.drew.setCell ⟨g,x.1,ZW⟩ (Z5 (ZV ⟨w2.heap.size,0,ZW⟩) 44 44)) rfl rfl nofun ua (λ_=>⟨(Uk (Ud _ _ _ _ (by show w.heap.size≠g;omega))).trans h7,(Uk (Ud _ _ _ _ x6)).trans hz⟩) (cH ?_);obtain ⟨s,R⟩:∃ s,s=c.drew.setCell ⟨g,x.1,ZW⟩ (Z5 (ZV ⟨w2.heap.size,0,ZW⟩) 44 44):=⟨_,rfl⟩;rw [<- R];clear h7 hz qr z8;have hj:∀ k,k≠g->s.heap[k]?=c.heap[k]?:=λk m=>by rw [R];exact Ud _ _ _ _ m
     have z6:s.heap.size=c.heap.size:=(by rw [R];simp [World.setCell]);have hg:=hf.set x.1 (Z5 (ZV ⟨w2.heap.size,0,ZW⟩) 44 44);have k0:s.rowIs g 40 N (λi=>if i=x.1 then Z5 (ZV ⟨w2.heap.size,0,ZW⟩) 44 44 else f i):=(by rw [R];exact hg);have kp:∀ k,B0<=k->k<X.heap.size->s.heap[k]?=X.heap[k]?:=λk m Z=>(hj k ec).trans (x2 k m Z);have C:aa (λk=>k=g\/k=r\/k=v\/F.S k) w s:=by
      have h3:aa (λk=>k=g\/k=r\/k=v\/F.S k) w c:=(a.out.trans (Q.mono λ_ _ q=>.inr (.inr (.inr q)))).trans (aa.RL hs _);rw [R];exact (h3.trans (aa.drew c)).trans (aa.setCell _ _ _ (.inl rfl))
     have qg:=qe.out.keep λk m=>by
      have:=kx k m;exact (hj k (λe=>x3 (by rw [<- e];exact m))).trans (hs.block k ec)
     have k6:Kn s B0 wE (λi=>if i=x.1 then Z5 (ZV ⟨w2.heap.size,0,ZW⟩) 44 44 else f i) M (ds++CX A b (A2 ds (dF pre))++[x.1]):=by
      have xv:=H.keep (w':=s) ec λk o m ho _=>(kp k m (TX.1 ho).1).trans ho;refine ⟨λi k9=>?_,λi k9=>?_⟩
      . have h1:i≠x.1:=λe=>k9 (by rw [e];simp);show (if i=x.1 then _ else f i)=_;rw [TS h1];exact xv.1 i (λq=>k9 (UG _ q))
      . show ∃ bl,(if i=x.1 then _ else f i)=_/\_;by_cases e:i=x.1
        . rw [TT e,e,y0];exact ⟨w2.heap.size,rfl,ec,ec,(hj _ ec).trans xa⟩
        . rw [TS e];rcases Ui.1 k9 with q|q
          . exact xv.2 i q
          . exact absurd (U6.1 q) e
     have H4:=a6 k0 kp C qg k6;have xb:=ak (I.keep ((hj r x6).trans (ko r I.lt ks)));have xe:=ak (J.keep ((hj v xp).trans (ko v J.lt u.v)));have xg:X.heap.size<=s.heap.size:=ec;clear hg k0 kp C qg k6 hj R hf ko x2 hs xa a H E W I J h5 Q qo k7 qf qe;rename_i hK
     refine hK _ _ ?_;clear hK;simp only [Act.put,TZ,TY,T5];gi_wp2;obtain ⟨hg,kp,C,qg,k6⟩:=H4.o;have a:=HI.o.1;have z7:=a.size;refine ⟨⟨xg,λk o m ho _=>(kp k ec (TX.1 ho).1).trans ho⟩,λ_=>u.tab.keep (C.block _ u.tab.lt (λq=>by rcases q with q|q|q|q;omega;omega;omega;exact u.t q)),?_⟩;exact ⟨(kp _ qv ec).trans a.b2,by rw [fw,oN kb,zP _ k8,x4];exact xb.out,⟨_,q7,xe.out⟩,⟨_,hg,by rw [fw,oN kb,GF _ k8,<- Uz];exact k6⟩,qg,C,ec⟩
    | true=>
     have HS:=ak qx;have U:b9 (dZ w2 r v b g N (gone|||gn) sp/\bg w2 v p D L G ps hl/\ZM w2 w.heap.size 170 (Z6 (ZV ⟨r,0,ZW⟩))):=by
      have Q:=qf.out.1;obtain ⟨a,H,E,W,I,J,h5⟩:=HI.o;exact ak ⟨I.keep (Q.block _ I.lt ks),J.keep (Q.block _ J.lt u.v),(Q.block _ qs xz).trans a.b2⟩
     clear qx qy kf;rcases Ff k8 with ⟨kg,ka⟩|⟨kg,ka⟩|⟨kg,ka⟩<;>(
      rw [ka];rw [kg] at HS
      (first
       | (have q:A.lost x.1=ZU:=kg
          clear q ka kg q5;obtain ⟨z1,kk⟩:=CV;obtain ⟨z2,km⟩:=CW;simp only [fU];gi_wp2;refine dq HS.o ?_;rintro e c ⟨rfl,k7⟩;subst k7;gi_wp2;obtain ⟨K,O,P⟩:=U.o;have cb:=P.cell;have V:=K.cells.1;have c5:=O.cells.2.2.2.2.2;have f5:c.frozen? ⟨v,5,ZW⟩=ZT:=by
           have h':c.heap[v]?=_:=O;simp [World.frozen?,h']
          refine bX (eG _) 99 [(0,ZU),(1,ZU),(2,ZU),(3,ZU),(4,ZU),(5,ZU),(6,ZU),(7,ZU),(8,ZU),(9,ZU),(11,ZU),(10,ZT),(12,ZT),(13,ZU),(14,ZU),(15,ZT)] (λw'=>w'.cell? ⟨w.heap.size,0,ZW⟩=ZV (Z6 (ZV ⟨r,0,ZW⟩))/\w'.cell? ⟨r,0,ZW⟩=ZV (Z6 (ZV ⟨v,0,ZW⟩))) ei ei ⟨cb,V⟩ ?_;iterate 11 (refine aF rfl rfl ?_;apply YG;refine ⟨λw' B=>?_,?_⟩;(obtain ⟨s1,s2⟩:=B;first|(go_simp;done)|(go_simp;exact rfl));simp only [Act.put,TZ,TY,T5])
          refine zG (eG _) (w1:=c.drew) (v:=Z7 Z8 (hl:Int)) rfl rfl nofun ua (λ_=>⟨cb,V⟩) ?_;simp only [Act.put,TZ,TY,T5];refine eR (eG _) (eU hl x.1 ec ec c.drew) rfl rfl nofun ua ?_;rintro e z ⟨rfl,rfl⟩;refine ⟨_,rfl,λ_=>⟨cb,V⟩,?_⟩;simp only [Act.put,TZ,TY,T5];iterate 2 (refine aF rfl rfl ?_;apply YG;refine ⟨λw' B=>?_,?_⟩;(obtain ⟨s1,s2⟩:=B;first|(go_simp;done)|(go_simp;exact rfl));simp only [Act.put,TZ,TY,T5])
          refine iI (eG _) (w1:=c.drew.setCell ⟨v,5,ZW⟩ (Z7 Z8 ((hl|||2^x.1:Nat):Int))) rfl rfl nofun ua (λ_=>⟨(Uk (Ud _ _ _ _ (by show w.heap.size≠v;omega))).trans cb,(Uk (Ud _ _ _ _ (λe=>qa e.symm))).trans V⟩) (cH ?_);clear cb V c5 f5;have ki:bg (c.drew.setCell ⟨v,5,ZW⟩ (Z7 Z8 ((hl|||2^x.1:Nat):Int))) v p D L G ps (hl|||2^x.1):=ag (j:=5) O _;have C:aa (λk=>k=v) c (c.drew.setCell ⟨v,5,ZW⟩ (Z7 Z8 ((hl|||2^x.1:Nat):Int))):=(aa.drew c).trans (aa.setCell _ _ _ rfl);obtain ⟨s,R⟩:=nM (c.drew.setCell ⟨v,5,ZW⟩ (Z7 Z8 ((hl|||2^x.1:Nat):Int)));rw [R] at ki C ⊢;have kv:ZM s w.heap.size 170 (Z6 (ZV ⟨r,0,ZW⟩)):=(C.block _ P.lt ec).trans P;have H4:=a6 (K.keep (C.block r K.lt (λe=>qa e.symm))) ki kv (C.mono (T:=λk=>k=r\/k=v) λ_ _ q=>.inr q) (WO q7 (VE ee qp):hl|||2^x.1<2^N);clear K O P R ki C kv;rename_i hK
          refine hK _ _ ?_;clear hK;simp only [Act.put,TZ,TY,T5])
       | (have q:A.RX x.1 b=ZW:=ka
          clear q ka kg q5;obtain ⟨z1,kk⟩:=CV;obtain ⟨z2,km⟩:=CW;simp only [fU];gi_wp2;refine dq HS.o ?_;rintro e s ⟨rfl,k7⟩;subst k7;have H4:=a6 U.o.1 U.o.2.1 U.o.2.2 (aa.refl (λk=>k=r\/k=v) s) q7)
       | (have hY:=q5 (by rw [ka];nofun)
          subst hY;clear ka kg q5;obtain ⟨z1,kk⟩:=IN;have km:=IP;simp only [fU,dI] at kk km ⊢;gi_wp2_with (show wpListIn _ _ _ _ _ ({ dst:=ZW,op:=Op.store 231 (Z0 8) (Z0 57),type:=_,pos:=_,after:=_,guard:=_ }::_) _ _;refine Ap rfl (Z0 8) (Z0 57) rfl um um ?_)
          have kr:bW w2 (w2.alloc (Z4 #[] 231)):=bA w2 _;obtain ⟨c,k7⟩:=nM (w2.alloc (Z4 #[] 231));rw [k7] at kr ⊢;have xi:ZM c w.heap.size 170 (Z6 (ZV ⟨r,0,ZW⟩)):=(kr.block _ U.o.2.2.lt).trans U.o.2.2;have H3:=aE (U.o.1.keep (kr.block _ U.o.1.lt)) (U.o.2.1.keep (kr.block _ U.o.2.1.lt)) xi;clear k7 xi;obtain ⟨K,O,P⟩:=H3.o;have cb:=P.cell;have V:=K.cells.1;have c5:=O.cells.2.2.2.2.2;have f5:c.frozen? ⟨v,5,ZW⟩=ZT:=by
           have h':c.heap[v]?=_:=O;simp [World.frozen?,h']
          refine bX (eG _) 99 [(0,ZU),(1,ZU),(2,ZU),(3,ZU),(4,ZU),(5,ZU),(6,ZU),(7,ZU),(8,ZU),(9,ZU),(11,ZU),(10,ZT),(12,ZT),(13,ZU),(14,ZU),(15,ZT)] (λw'=>w'.cell? ⟨w.heap.size,0,ZW⟩=ZV (Z6 (ZV ⟨r,0,ZW⟩))/\w'.cell? ⟨r,0,ZW⟩=ZV (Z6 (ZV ⟨v,0,ZW⟩))) ei ei ⟨cb,V⟩ ?_;iterate 11 (refine aF rfl rfl ?_;apply YG;refine ⟨λw' B=>?_,?_⟩;(obtain ⟨s1,s2⟩:=B;first|(go_simp;done)|(go_simp;exact rfl));simp only [Act.put,TZ,TY,T5])
          refine zG (eG _) (w1:=c.drew) (v:=Z7 Z8 (hl:Int)) rfl rfl nofun ua (λ_=>⟨cb,V⟩) ?_;simp only [Act.put,TZ,TY,T5];refine eR (eG _) (eU hl x.1 ec ec c.drew) rfl rfl nofun ua ?_;rintro e z ⟨rfl,rfl⟩;refine ⟨_,rfl,λ_=>⟨cb,V⟩,?_⟩;simp only [Act.put,TZ,TY,T5];iterate 2 (refine aF rfl rfl ?_;apply YG;refine ⟨λw' B=>?_,?_⟩;(obtain ⟨s1,s2⟩:=B;first|(go_simp;done)|(go_simp;exact rfl));simp only [Act.put,TZ,TY,T5])
          refine iI (eG _) (w1:=c.drew.setCell ⟨v,5,ZW⟩ (Z7 Z8 ((hl|||2^x.1:Nat):Int))) rfl rfl nofun ua (λ_=>⟨(Uk (Ud _ _ _ _ (by show w.heap.size≠v;omega))).trans cb,(Uk (Ud _ _ _ _ (λe=>qa e.symm))).trans V⟩) (cH ?_);clear cb V c5 f5;have ki:bg (c.drew.setCell ⟨v,5,ZW⟩ (Z7 Z8 ((hl|||2^x.1:Nat):Int))) v p D L G ps (hl|||2^x.1):=ag (j:=5) O _;have C:aa (λk=>k=v) c (c.drew.setCell ⟨v,5,ZW⟩ (Z7 Z8 ((hl|||2^x.1:Nat):Int))):=(aa.drew c).trans (aa.setCell _ _ _ rfl);obtain ⟨s,R⟩:=nM (c.drew.setCell ⟨v,5,ZW⟩ (Z7 Z8 ((hl|||2^x.1:Nat):Int)));rw [R] at ki C ⊢;have kv:ZM s w.heap.size 170 (Z6 (ZV ⟨r,0,ZW⟩)):=(C.block _ P.lt ec).trans P;have H4:=a6 (K.keep (C.block r K.lt (λe=>qa e.symm))) ki kv ((aa.RL kr (λk=>k=r\/k=v)).trans (C.mono λ_ _ q=>.inr q)) (WO q7 (VE ee qp):hl|||2^x.1<2^N);clear K O P R ki C kv;rename_i hK
          refine hK _ _ ?_;clear hK;simp only [Act.put,TZ,TY,T5];gi_wp2;refine dq (zJ 11 s) ?_;rintro e z ⟨rfl,kj⟩;obtain rfl:s=z:=kj.symm;clear U H3 kr kj))
      gi_wp2;obtain ⟨K,O,P,x0,x7⟩:=H4.o;have h7:=P.cell;have hz:=K.cells.2.2.2.1;have z9:s.frozen? ⟨r,3,ZW⟩=ZT:=by
       have h':s.heap[r]?=_:=K;simp [World.frozen?,h']
      refine bX (eG _) 99 [(0,ZU),(1,ZU),(2,ZU),(3,ZU),(5,ZU),(4,ZT),(6,ZT),(7,ZU),(8,ZU),(9,ZT)] (λw'=>w'.cell? ⟨w.heap.size,0,ZW⟩=ZV (Z6 (ZV ⟨r,0,ZW⟩))) ei ei h7 ?_;iterate 5 (refine aF rfl rfl ?_;apply YG;refine ⟨λw' B=>?_,?_⟩;(first|(go_simp;done)|(go_simp;exact rfl));simp only [Act.put,TZ,TY,T5])
      refine zG (eG _) (w1:=s.drew) (v:=Z7 Z8 ((gone|||gn:Nat):Int)) rfl rfl nofun ua (λ_=>h7) ?_;simp only [Act.put,TZ,TY,T5];refine eR (eG _) (eU (gone|||gn) x.1 ec ec s.drew) rfl rfl nofun ua ?_;rintro e z ⟨rfl,rfl⟩;refine ⟨_,rfl,λ_=>h7,?_⟩;simp only [Act.put,TZ,TY,T5];iterate 2 (refine aF rfl rfl ?_;apply YG;refine ⟨λw' B=>?_,?_⟩;(first|(go_simp;done)|(go_simp;exact rfl));simp only [Act.put,TZ,TY,T5])
      refine iI (eG _) (w1:=s.drew.setCell ⟨r,3,ZW⟩ (Z7 Z8 ((gone|||gn|||2^x.1:Nat):Int))) rfl rfl nofun ua (λ_=>(Uk (Ud _ _ _ _ (by show w.heap.size≠r;omega))).trans h7) (cH ?_);obtain ⟨z,kj⟩:∃ z,z=s.drew.setCell ⟨r,3,ZW⟩ (Z7 Z8 ((gone|||gn|||2^x.1:Nat):Int)):=⟨_,rfl⟩;rw [<- kj];clear h7 hz z9;have x1:aa (λk=>k=r) s z:=by
       rw [kj];exact (aa.drew s).trans (aa.setCell _ _ _ rfl)
      have H5:=ak (HF.o z k8 (by rw [kj];exact ag (j:=3) K _) ⟨_,x7,O.keep (x1.block _ O.lt qa)⟩ (x0.trans (x1.mono λ_ _ q=>.inl q)));clear K O P kj x1;simp only [Act.put,TZ,TY,T5];gi_wp2;obtain ⟨⟨q1,q2⟩,q3,q4⟩:=H5.o;exact ⟨⟨q1,λk o m ho _=>(q2 k ec (TX.1 ho).1).trans ho⟩,λ_=>q3,q4⟩)
 case done=>
  rintro D' xs X y5 yp a hK;have qd:dF xs=ab S:=yp;obtain ⟨f,E,H⟩:=a.row;have q8:∀ k,k<w.heap.size+1->(X.putObj D' (.deferred ZW)).heap[k]?=X.heap[k]?:=λk m=>UP ec;have W:=a.arr;refine LS results111 rfl hK ⟨rfl,by rw [<- qd];exact a.rd.keep (q8 _ ec),a.vol.imp λ_ q=>⟨q.1,q.2.keep (q8 _ ec)⟩,⟨f,E.of_block (q8 _ ec),?_⟩,?_,?_⟩
  . rw [<- qd];refine H.keep Ok λk o m ho hc=>(UP (λe=>?_)).trans ho;rw [e,hK] at ho;cases ho;cases hc
  . exact W.keep λk m=>q8 k (e9 (kx k m))
  . exact a.out.later (T:=λk=>w.heap.size<=k) ⟨rfl,rfl,rfl,Ok,λk qm qn=>q8 k ec⟩ (λk qm qn=>ec)
 case stop=>
  rintro D' cc pre X y5 yj hx hK;exact hx.elim
end
section
attribute [local go_sem] Oper.semAt_some
structure CF (w:ZS) (D L G:Nat) (X:ZS):Prop where
 par:X.heap[w.heap.size]?=ZV (Z4 #[Z7 Z9 (D:Int),Z7 Z9 (L:Int),Z7 Z9 (G:Int)] 27 (0,0))
 res:aC X (w.heap.size+1) dN
 err:ZM X (w.heap.size+1+1) 64 .nilIface
 below:bW w X
def CF.mono (h:CF w D L G X) (a:ZQ B X Y) (b:w.heap.size+3<=B):CF w D L G Y:=
 ⟨(a.block _ ec).trans h.par,h.res.keep (a.block _ ec),(a.block _ ec).trans h.err,h.below.trans (a.mono ec)⟩
def CF.own {row:Option Nat} (h:CF w D L G X) (c:w.heap.size+3<=B) (a:X.grownBy Y row) (b:∀ r,row=ZV r->B<=r):CF w D L G Y:=
 h.mono (B:=w.heap.size+3) ⟨a.os,a.tape,a.output,a.size,λk d=>a.block k (e9 h.err.lt) (λe=>e9 (b k e.symm))⟩ lR
def fx {z:ZR} {t:ZN} (h:X.heap[b]?=ZV (Z4 #[x,y,z] t (0,0))):X.cell? ⟨b,0,ZW⟩=ZV x/\X.cell? ⟨b,1,ZW⟩=ZV y/\X.cell? ⟨b,2,ZW⟩=ZV z:=by simp [World.cell?,h]
def Rc (D L G S:Nat) (w:ZS) (e:ZO) (w':ZS):Prop:=
 bW w w'/\((tells (jR D L G) (ab S)=ZW/\e=Z3 (ZY #[.agg (aV dN),.iface 66 (Z7 Z9 3)])) \/
  (∃ C,tells (jR D L G) (ab S)=ZV C/\e=Z3 (ZY #[.agg (aV C),.nilIface])))
def Fg (pre:List Sh):a8:=pre.map (·.1)
def IS (pre:List Sh) (x:Sh):Fg (pre++[x])=Fg pre++[x.1]:=by unfold Fg;simp
def CfI (w:ZS) (D L G Bc B:Nat) (pre:List Sh) (X:ZS):Prop:=CF w D L G X/\(∃ C,tells (jR D L G) (Fg pre)=ZV C/\aC X Bc C)/\B<=X.heap.size
def CfX (w:ZS) (D L G B:Nat) (c:Code) (pre:List Sh) (X:ZS):Prop:=c=.ret/\tells (jR D L G) (Fg pre)=ZW/\bW w X/\B<=X.heap.size /\
 aC X (w.heap.size+1) dN/\ZM X (w.heap.size+1+1) 64 (.iface 66 (Z7 Z9 3))
def CfI.own {Bc:Nat} (h:w.heap.size+3<=B) (i:Bc<B):OwnFrom B (CfI w D L G Bc B):=by
 rintro pre X Y row ⟨d,⟨C,f,b⟩,g⟩ a c;exact ⟨d.own h a (λr e=>(c r e).1),⟨C,f,b.keep (a.block _ b.lt (λe=>e9 ((c _ e.symm).1)))⟩,TU g a.size⟩
def CfX.own (m:w.heap.size+3<=B) (c:Code):OwnFrom B (CfX w D L G B c):=by
 rintro pre X Y row ⟨g,h,d,i,j,l⟩ a f;have b:∀ k,k<w.heap.size+3->Y.heap[k]?=X.heap[k]?:=λk b=>a.block k ec (λe=>e9 ((f k e.symm).1));exact ⟨g,h,d.grown a d.size (λk e=>e9 ((f k e).1)),TU i a.size,j.keep (b _ ec),(b _ ec).trans l⟩
def rA (h:aC X b C) (cs:Array ZR):KeepsOthers X (X.setRow b cs):=
 ab7 (aN _ _ _) (λj o e ho=>by cases e;rw [h.heap] at ho;cases ho;rfl)
def Fh (h:aC w b C):(loadVar 332 ⟨b,0,ZW⟩).run ZK w=.ok (.agg (aV C)) w:=Xf w b 332 332 (aV C) (0,0) _ h.heap XP rfl (dR C)
theorem LV {ev:ZR} (c:a.defers=[{ target:=.collected D',args:=#[] }]) (h4:a.tmps.getD 4 ZX=Z6 (ZV ⟨w.heap.size+1,0,ZW⟩)) (h5:a.tmps.getD 5 ZX=Z6 (ZV ⟨w.heap.size+1+1,0,ZW⟩))
 (h1:aC Z (w.heap.size+1) C) (h0:ZM Z (w.heap.size+1+1) 64 ev) (hK:Z.heap[D']?=ZV (.deferred (ZV []))) (hD:w.heap.size+3<=D')
 (hR:R (Z3 (ZY #[.agg (aV C),ev])) (Z.putObj D' (.deferred ZW))):bodyPostM Fence.wide n ZK Tryz.f208 R .ret a Z:=by
 obtain ⟨d,h⟩:=a;simp only at c h4 h5;subst c;refine ⟨ek,.inl ⟨_,_,rfl,WA hK,?_⟩⟩;have c0:=Fh (show aC (Z.putObj D' (.deferred ZW)) (w.heap.size+1) C from h1.keep (UP ec));have e:=(show ZM (Z.putObj D' (.deferred ZW)) (w.heap.size+1+1) 64 ev from (UP ec).trans h0).cell;have b:(loadVar 64 ⟨w.heap.size+1+1,0,ZW⟩).run ZK (Z.putObj D' (.deferred ZW))=.ok ev (Z.putObj D' (.deferred ZW)):=by simp [go_sem,e]
 refine ⟨ZY #[.agg (aV C),ev],?_,hR⟩;have f:d[4]?.getD ZX=Z6 (ZV ⟨w.heap.size+1,0,ZW⟩):=oD h4
 have g:d[5]?.getD ZX=Z6 (ZV ⟨w.heap.size+1+1,0,ZW⟩):=oD h5
 simp [results,results208,asAddr,f,g,c0,b]
theorem lj (D L G S:Nat) (hr:cW D L G=ZU) (qb:1<=D) (hD:D<=12) (hL:1<=L) (k9:L<=4) (hG:G<=4) (hv:D%L=0) (qf:D+L+G<=16) (hS:S<65536) (w:ZS) (hT:aG w) (h2:3<=w.heap.size) :
 ZP ZK 208 #[.agg #[Z7 Z9 D,Z7 Z9 L,Z7 Z9 G],Z7 Z8 S] w λe w'=>Rc D L G S w e w':=by
 obtain ⟨n,HN⟩:∃ n:Nat,b9 (9<=n):=⟨9,TV _⟩;refine (Vd (n:=n)).1 ?_;refine Wh func208 rfl trivial ?_ rfl;simp only [ntmps208,UH,UA,UV,YH,YI,Vg,Vh,Vj,Vk,Uq,US];have hz:=zeroCk;gi_wp2;refine cd (kD D L G hr hD hL k9 hG hv _) ?_;rintro e w1 ⟨v,T,rfl,ka,hH,F⟩;have Y:(((w.alloc (Z4 #[Z7 Z9 (D:Int),Z7 Z9 (L:Int),Z7 Z9 (G:Int)] 27)).alloc (Z4 (aV dN) 332)).alloc (Z4 #[.nilIface] 64)).heap.size=w.heap.size+3:=ek
 have kg:CF w D L G (((w.alloc (Z4 #[Z7 Z9 (D:Int),Z7 Z9 (L:Int),Z7 Z9 (G:Int)] 27)).alloc (Z4 (aV dN) 332)).alloc (Z4 #[.nilIface] 64)):=by
  obtain ⟨a1,a2,a3,a4⟩:=KU w (Z4 #[Z7 Z9 (D:Int),Z7 Z9 (L:Int),Z7 Z9 (G:Int)] 27) (Z4 (aV dN) 332) (Z4 #[.nilIface] 64);exact ⟨a2,aC.of_heap a3,a4,((bA w _).alloc ek _).alloc en _⟩
 try change ZQ _ _ _ at F
 rw [Y] at F;have Q:=kg.mono F lR;have M:=F.size;try change ZQ _ _ _ at M
 rw [Y] at M;clear kg F Y;have hM:aT D L G≠[]:=λe=>by have:=cJ D L G;rw [e] at this;simp at this;omega
 obtain ⟨g,c,rfl,hs,kf⟩:=LK ka hH (kO D L G) hM;obtain ⟨p0,p1,p2⟩:=fx Q.par;have kh:ZP ZK 219 #[Z5 (ZV ⟨g,0,ZW⟩) (aT D L G).length c,Z7 Z9 D] w1 λe w'=>e=Z3 (.agg (aV (jR D L G)))/\bW w1 w':=by
  have ha:=cJ D L G;have h:=Aa g 0 c (aT D L G) D w1 hs (λi a=>kf i a) qb ec ec ec (λi a=>by
   have e:(aT D L G).getD i []=(aT D L G)[i]:=Zg;rw [e];exact kO D L G _ (T6 a))
  try change ZQ _ _ _ at h
  rw [(ec:(aT D L G).length-D=L+G)] at h;exact h
 have k5:=ak Q;clear ka hH Q kf;gi_wp2;refine cd kh ?_;clear kh;rintro e b ⟨rfl,W⟩;have kp:=W.size;have h6:=k5.out.mono W ec;have kb:bW b ((b.alloc (Z4 (aV dN) 332)).setRow b.heap.size (aV (jR D L G))):=(bA _ _).grown (aN _ _ _) ek (λk e=>B3);have kc:aC ((b.alloc (Z4 (aV dN) 332)).setRow b.heap.size (aV (jR D L G))) b.heap.size (jR D L G):=(aC.new b dN).setRow (jR D L G);have h7:=h6.mono kb ec;have ky:((b.alloc (Z4 (aV dN) 332)).setRow b.heap.size (aV (jR D L G))).heap.size=b.heap.size+1:=V1
 have H:=aE kc h7 ky;clear k5 W h6 kb kc h7 ky;gi_wp2_with (refine jN rfl (Z0 8) (Z0 22) rfl b.heap.size (jR D L G) dN rfl rfl (aC.new b dN) ?_)
 obtain ⟨d,ks⟩:=nM ((b.alloc (Z4 (aV dN) 332)).setRow b.heap.size (aV (jR D L G)));rw [ks] at H ⊢;clear ks;refine cd (dK S d) ?_;rintro e w' ⟨rfl,rfl⟩;have kz:(d.alloc (Z4 #[Z7 Z8 (S:Int)] 133)).heap.size=d.heap.size+1:=ek
 have ke:(d.alloc (Z4 #[Z7 Z8 (S:Int)] 133)).cell? ⟨d.heap.size,0,ZW⟩=ZV (Z7 Z8 (S:Int)):=(Bx.new d 133 (Z7 Z8 (S:Int))).cell;have kj:CfI w D L G b.heap.size (d.heap.size+1) [] (d.alloc (Z4 #[Z7 Z8 (S:Int)] 133)):=by
  have E:bW d (d.alloc (Z4 #[Z7 Z8 (S:Int)] 133)):=bA _ _;obtain ⟨u,y,m⟩:=H.o;exact ⟨y.mono E ec,⟨jR D L G,rfl,u.keep (E.block _ ec)⟩,ec⟩
 obtain ⟨A,kv⟩:=nM (d.alloc (Z4 #[Z7 Z8 (S:Int)] 133));have hf:=H.o.2.2;have K:=a5 kz hf M kp;have J:=ak ke;have s:=ak kj;clear kz ke kj H hf M kp p0 p1 p2;gi_wp2;try change ZQ _ _ _ at K
 try change ZQ _ _ _ at J
 try change ZQ _ _ _ at s
 rw [kv] at K J s;clear kv;have q9:w.heap.size+3<=A.heap.size/\b.heap.size<A.heap.size/\A.heap.size=d.heap.size+1:=by obtain ⟨u,y,m,N⟩:=K.out;omega
 obtain ⟨k6,q8,U⟩:=q9;try change ZQ _ _ _ at s
 rw [<- U] at s;have q0:=ak U;clear U;refine Wi rfl (e9 HN.o) (gf:=147) (lb:=#[Z6 (ZV ⟨d.heap.size,0,ZW⟩)]) rfl trivial (U5 func147 ei rfl)
  (eS (n-1) d.heap.size S hS A (e9 q0.out) J.out ec (hT.mono ec s.out.1.below)) (λh k=>qY h k) (qZ ec) (TW _ _) (λ_=>rfl)
  (CfI w D L G b.heap.size A.heap.size) (CfX w D L G A.heap.size) (CfI.own k6 q8) (CfX.own k6) s.out
  (λx=>{ tmps:=#[.agg #[Z7 Z9 (D:Int),Z7 Z9 (L:Int),Z7 Z9 (G:Int)],Z7 Z8 (S:Int),Z6 (ZV ⟨w.heap.size,0,ZW⟩),ZX,Z6 (ZV ⟨w.heap.size+1,0,ZW⟩),Z6 (ZV ⟨w.heap.size+1+1,0,ZW⟩),Z5 (ZV ⟨g,0,ZW⟩) (aT D L G).length c,.nilIface,Z6 (ZV ⟨b.heap.size,0,ZW⟩),Z7 Z9 (x.1:Int),ZY #[Z5 (ZV ⟨g,0,ZW⟩) (aT D L G).length c,.nilIface],.agg #[Z7 Z9 (D:Int),Z7 Z9 (L:Int),Z7 Z9 (G:Int)],ZY #[Z5 (ZV ⟨g,0,ZW⟩) (aT D L G).length c,.nilIface],Z5 (ZV ⟨g,0,ZW⟩) (aT D L G).length c,.nilIface,.nilIface,Z1 ZT,ZX,ZX,Z5 (ZV ⟨g,0,ZW⟩) (aT D L G).length c,Z6 (ZV ⟨w.heap.size,0,ZW⟩),Z7 Z9 (D:Int),.agg (aV (jR D L G)),Z7 Z8 (S:Int),.func (.func 147) #[] #[Z6 (ZV ⟨d.heap.size,0,ZW⟩)],Z7 Z9 (x.1:Int),ZX,ZX,ZX,ZX,ZX,ZX],defers:=[] }) ?assign ?body ?done ?stop
 case assign=>
  intro l2 x X Kk hK;unfold qX;gi_wp2;exact hK
 case body=>
  rintro l2 pre x X ⟨a,⟨C,l,z⟩,t⟩ ha;have h9:=Ai hD k9 hG l;have kr:=tR b.heap.size x.1 C X z h9 x.2;have I:tells (jR D L G) (Fg (pre++[x]))=pr C x.1:=by rw [IS,j9,l];rfl
  have j:=ak a;have Z:=ak t;clear t ha l z h9;have ce:=a.err.cell;have fe:=a.err.frozen;clear a;gi_wp2;refine dq kr ?_;clear kr;rintro e w2 (⟨kk,rfl,qe⟩|⟨C',km,rfl,k7,ki⟩)
  . subst qe;have q7:=ak (I.trans kk);clear I kk;have f:ZM (w2.setRow (w.heap.size+1) (aV dN)) (w.heap.size+1+1) 64 .nilIface:=((aN _ _ _).block _ j.o.err.lt (λe=>e9 (UM e))).trans j.o.err;have O:=f.cell;have P:=f.frozen;have q6:=ak f;clear f;gi_wp2_with (refine jN rfl (Z0 4) (Z0 29) rfl (w.heap.size+1) dN dN rfl rfl j.o.res ?_)
    have a:=j.o;have V:bW w (w2.setRow (w.heap.size+1) (aV dN)):=a.below.grown (aN _ _ _) a.below.size (λq e=>Zb);refine ⟨?_,rfl,q7.out,?_,?_,?_,?_⟩
    . exact ((rA j.o.res _).trans (V5 _ _ _)).from _
    . exact V.setCell (p:=⟨w.heap.size+1+1,0,ZW⟩) (by show w.heap.size<=w.heap.size+1+1;omega) _
    . have:=Z.o;simpa [World.setCell,World.setRow] using this
    . exact (a.res.setRow dN).keep (Wm _ _ _ _ (by show w.heap.size+1≠w.heap.size+1+1;omega))
    . exact q6.out.set _
  . have H2:=aE (I.trans km) k7 ki;clear I km k7 ki;gi_wp2;obtain ⟨u,y,m⟩:=H2.o;have h5:=j.o.own (B:=w.heap.size+3) lR m (λr e=>by cases e;obtain ⟨u,y,m,N⟩:=K.out;omega);exact ⟨⟨m.size,λk o hk ho _=>(m.block k (TX.1 ho).1 (λe=>Zb)).trans ho⟩,λ_=>hT.mono ec h5.below,h5,⟨C',u,y⟩,TU Z.o m.size⟩
 case done=>
  rintro D' xs X qa kx ⟨a,⟨C,l,z⟩,t⟩ hK;try change ZQ _ _ _ at l
  rw [show Fg xs=ab S from kx] at l;have f:ZM (X.setRow (w.heap.size+1) (aV C)) (w.heap.size+1+1) 64 .nilIface:=((aN _ _ _).block _ a.err.lt (λe=>e9 (UM e))).trans a.err;have O:=f.cell;have P:=f.frozen;have j:=a7 a z t hK l f;clear a z t hK l kx xs s J f;gi_wp2_with (first
   | refine kJ rfl (Z0 8) rfl b.heap.size C rfl j.o.2.1 ?_
   | refine jN rfl (Z0 4) (Z0 31) rfl (w.heap.size+1) C dN rfl rfl j.o.1.res ?_)
  obtain ⟨a,z,t,hK,l,f⟩:=j.o;have V:bW w (X.setRow (w.heap.size+1) (aV C)):=a.below.grown (aN _ _ _) a.below.size (λq e=>Zb);have qc:=V.setCell (p:=⟨w.heap.size+1+1,0,ZW⟩) (by show w.heap.size<=w.heap.size+1+1;omega) .nilIface;have qd:=(rA a.res (aV C)).trans (V5 _ ⟨w.heap.size+1+1,0,ZW⟩ .nilIface);have k8:=qd.same D' _ hK rfl;exact LV (w:=w) rfl rfl rfl ((a.res.setRow C).keep (Wm _ _ _ _ (by show w.heap.size+1≠w.heap.size+1+1;omega))) (f.set _) k8 ec
   ⟨Below.RO qc ec (TX.1 k8).1 _,.inr ⟨C,l,rfl⟩⟩
 case stop=>
  rintro D' cc pre X qa hy ⟨rfl,ko,E,t,he,h8⟩ hK;have hc:tells (jR D L G) (ab S)=ZW:=by
   obtain ⟨R,hR⟩:=hy;rw [<- hR];exact jb _ _ _ ko
  have HH:=a6 E he h8 hK hc;clear E he h8 hK hc ko;gi_wp2;obtain ⟨u,y,m,N,q5⟩:=HH.o;exact LV (w:=w) rfl rfl rfl y m N ec ⟨Below.RO u ec (TX.1 N).1 _,.inl ⟨q5,rfl⟩⟩
end
section
attribute [local go_sem] Oper.semAt_some
structure WI (w:ZS) (C:Ck) (regs:Int) (L:List St) (X:ZS):Prop where
 ck:aC X w.heap.size C
 res:X.heap[w.heap.size+1]?=ZV (Z4 #[Z7 Z9 0,Z5 ZW 0 0] 206 (0,0))
 pb:PB X (w.heap.size+3) (w.heap.size+1+1) regs L
 below:bW w X
theorem WI.own {L:List St} {row:Option Nat} (h:WI w C regs L X) (d:w.heap.size+3<=B) (a:X.grownBy Y row) (c:∀ r,row=ZV r->B<=r/\∃ o:Obj,X.heap[r]?=ZV o/\o.isCells=ZT):WI w C regs L Y:=by
 have:=h.pb.2.1;have b:∀ k,k<w.heap.size+3->Y.heap[k]?=X.heap[k]?:=λk b=>a.block k ec (λe=>e9 ((c k e.symm).1));exact ⟨h.ck.keep (b _ ec),(b _ ec).trans h.res,h.pb.own d a c,h.below.grown a h.below.size (λk e=>e9 ((c k e).1))⟩
def WI.next {L:List St} {ob:Obj} (h:WI w C regs L X) (d:X.heap[w.heap.size+1+1]?=ZV (Z4 #[Z7 Z9 regs,v] 206 (0,0))) (e:X.ownsRow (w.heap.size+3) 299 4 v L.length (ez .u8 L))
 (g:(X.alloc ob).grownBy w2 v.ownBlock) (f:w.heap.size+3<=g') (c:w2.ownsRow (w.heap.size+3) 299 4 (Z5 (ZV ⟨g',0,ZW⟩) (L.length+1) cap') (L.length+1) (ez .u8 (L++[s]))) :
 w2.cell? ⟨w.heap.size+1+1,1,ZW⟩=ZV v/\w2.frozen? ⟨w.heap.size+1+1,1,ZW⟩=ZT/\(WI w C regs (L++[s]) (w2.setCell ⟨w.heap.size+1+1,1,ZW⟩ (Z5 (ZV ⟨g',0,ZW⟩) (L.length+1) cap'))/\KeepsOthers X (w2.setCell ⟨w.heap.size+1+1,1,ZW⟩ (Z5 (ZV ⟨g',0,ZW⟩) (L.length+1) cap'))):=by
 obtain ⟨i,j,l,a,b,m,n,o⟩:=PB.next (n0:=w.heap.size+3) (Bg:=w.heap.size+1+1) ec h.pb.2.1 d e g f c;refine ⟨j,l,⟨h.ck.keep (a _ ec ec),(a _ ec ec).trans h.res,i,h.below.trans ⟨m,n,o,?_,λk p=>a k ec ec⟩⟩,b⟩;exact b.size
def WI.told {L:List St} (h:WI w C regs L X):X.cell? ⟨w.heap.size,128,ZW⟩=ZV (Z7 Z9 (C.told:Int)):=h.ck.R6
def CY (X:ZS) (s:St):∀ j v,(Ii .u8 s)[j]?=ZV v->(X.alloc (Z4 #[Z7 .u8 (s.k:Int),Z7 Z9 s.a,Z7 Z9 s.b,Z7 .u8 (s.c:Int)] 299)).cell? ((⟨X.heap.size,0,ZW⟩:Addr).add j)=ZV v:=
 BV X X.heap.size rfl _ _ _ _ _
def IT (C:Ck) (pre:List Sh):List St:=wrTo C (pre.map (·.1))
def GG (C:Ck) (pre:List Sh) (i k:Nat):List St:=IT C pre++[⟨0,0,(i:Int),0⟩]++gI C i k
theorem OF (C:Ck) (a:eA C) (pre:List Sh) (s:Nat) (h:pre.length<(ab s).length) (i k:Nat) (l:k<=C.told):(IT C pre).length<=200/\(GG C pre i k).length<=300:=by
 have b:=sy C (pre.map (·.1));have:=Cj C i k;have:(ab s).length<=16:=by rw [<- kK s];exact pL s
 have:=a.le;have:=a.Sb;have c:(pre.map (·.1)).length*(C.told+1)<=16*9:=Xm (by rw [Ue];omega) ec;have:(IT C pre).length<=144:=TU b c;refine ⟨ec,?_⟩;unfold GG;simp only [Ua,ab6];omega
def LX (C:Ck) (pre:List Sh) (i:Nat):GG C pre i 0=IT C pre++[⟨0,0,(i:Int),0⟩]:=by unfold GG;rw [tT,Ws]
def Re (pre:List Sh) {i k:Nat} (h:C.m k i≠0):GG C pre i (k+1)=GG C pre i k++[⟨1,1+(k:Int),0,C.m k i⟩]:=by unfold GG;rw [Ci C i k h,<- Uz]
def OG (pre:List Sh) {i k:Nat} (h:C.m k i=0):GG C pre i (k+1)=GG C pre i k:=by unfold GG;rw [xZ C i k h]
def OH {x:Sh} (h:cF C x.1=ZU):GG C pre x.1 C.told=IT C (pre++[x]):=by
 unfold GG IT;rw [Uw,YO,xY,iy h];simp
def Rf {x:Sh} (h:cF C x.1=ZT):IT C pre=IT C (pre++[x]):=by
 unfold IT;rw [Uw,YO,xY,lI h];simp
def IU (X:ZS) (n:Nat) (d:n=X.heap.size) (s:St):∀ j v,(Ii .u8 s)[j]?=ZV v->(X.alloc (Z4 #[Z7 .u8 (s.k:Int),Z7 Z9 s.a,Z7 Z9 s.b,Z7 .u8 (s.c:Int)] 299)).cell? ((⟨n,0,ZW⟩:Addr).add j)=ZV v:=
 BV X n d _ _ _ _ _
def OI {s:Nat} (h:pre.map (·.1)=ab s):IT C pre=wrTo C (ab s):=by unfold IT;rw [h]
def yH (C:Ck) (kept:Nat) (pre:List Sh):List St:=wrTo C (ab kept)++fL (pre.map (·.1))
def OJ (C:Ck) (kept:Nat):yH C kept []=wrTo C (ab kept):=by unfold yH fL;simp
def LY (C:Ck) (kept:Nat) (pre:List Sh) (x:Sh):yH C kept (pre++[x])=yH C kept pre++[⟨2,(pre.length:Int)+1,(x.1:Int),0⟩]:=by
 unfold yH;rw [Uw,YO,ES,Ue,<- Uz]
def OK (h:pre.map (·.1)=ab gone):yH C kept pre=fW C gone kept:=by unfold yH fW;rw [h]
theorem Rh (C:Ck) (a:eA C) (kept:Nat) (pre:List Sh) (s:Nat) (h:pre.length<(ab s).length):(yH C kept pre).length<=300:=by
 have c:=sy C (ab kept);have:(ab s).length<=16:=by rw [<- kK s];exact pL s
 have b:(ab kept).length<=16:=by rw [<- kK kept];exact pL kept
 have:=a.le;have:=a.Sb;have d:(ab kept).length*(C.told+1)<=16*9:=Xm b ec;have:(wrTo C (ab kept)).length<=144:=TU c d;unfold yH fL;simp only [Ua,Ue,Vp];omega
def LZ {n0 R:Nat} {xs:List ZR} (h:X.ownsRow n0 299 4 v k xs) (b:ZM X R 3 u):v.ownBlock≠ZV R:=by
 rcases h.2 with ⟨rfl,_⟩|⟨g,cap,cur,rfl,_,a,_⟩
 . intro e;cases e
 . intro e;obtain rfl:g=R:=W7;rw [show X.heap[g]?=_ from b] at a;have:=UM a;cases this
theorem WI.set {L:List St} {R:Nat} {u':ZR} (h:WI w C regs L X) (g:w.heap.size+3<=R) (c:ZM X R 3 u):WI w C regs L (X.setCell ⟨R,0,ZW⟩ u'):=by
 have a:∀ k,k≠R->(X.setCell ⟨R,0,ZW⟩ u').heap[k]?=X.heap[k]?:=λk a=>Wm _ _ _ _ a;obtain ⟨d,e,v,f,b⟩:=h.pb;exact ⟨h.ck.keep (a _ ec),(a _ ec).trans h.res,⟨d,by simpa [World.setCell] using e,v,(a _ ec).trans f,b.kept (dy X R 0 u') (.inr (LZ b c))⟩,h.below.setCell (p:=⟨R,0,ZW⟩) (by show w.heap.size<=R;omega) _⟩
structure WP (w:ZS) (C:Ck) (regs:Int) (kept R D:Nat) (pre:List Sh) (Y:ZS):Prop where
 wi:WI w C regs (yH C kept pre) Y
 box:ZM Y R 3 (Z7 Z9 (pre.length:Int))
 mark:Y.heap[D]?=ZV (.deferred (ZV []))
theorem WP.own {R:Nat} {row:Option Nat} (h:WP w C regs kept R D pre X) (d:w.heap.size+3<=B) (g:R<B) (f:D<B) (b:X.grownBy Y row) (c:∀ r,row=ZV r->B<=r/\∃ o:Obj,X.heap[r]?=ZV o/\o.isCells=ZT):WP w C regs kept R D pre Y:=by
 have a:∀ k,k<B->k<X.heap.size->Y.heap[k]?=X.heap[k]?:=λk a i=>b.block k i (λe=>e9 ((c k e.symm).1));exact ⟨h.wi.own d b c,(a R g h.box.lt).trans h.box,(a D f (TX.1 h.mark).1).trans h.mark⟩
def WP.next {R:Nat} {x:Sh} {ob:Obj} (h:WP w C regs kept R D pre X) (j:w.heap.size+3<=R)
 (g:(X.setCell ⟨R,0,ZW⟩ (Z7 Z9 ((pre.length:Int)+1))).heap[w.heap.size+1+1]?=ZV (Z4 #[Z7 Z9 regs,v] 206 (0,0))) (a:(X.setCell ⟨R,0,ZW⟩ (Z7 Z9 ((pre.length:Int)+1))).ownsRow (w.heap.size+3) 299 4 v (yH C kept pre).length (ez .u8 (yH C kept pre)))
 (d:((X.setCell ⟨R,0,ZW⟩ (Z7 Z9 ((pre.length:Int)+1))).alloc ob).grownBy w2 v.ownBlock) (i:w.heap.size+3<=g') (f:w2.ownsRow (w.heap.size+3) 299 4 (Z5 (ZV ⟨g',0,ZW⟩) ((yH C kept pre).length+1) cap') ((yH C kept pre).length+1) (ez .u8 (yH C kept pre++[⟨2,(pre.length:Int)+1,(x.1:Int),0⟩]))) :
 w2.cell? ⟨w.heap.size+1+1,1,ZW⟩=ZV v/\w2.frozen? ⟨w.heap.size+1+1,1,ZW⟩=ZT/\(WP w C regs kept R D (pre++[x]) (w2.setCell ⟨w.heap.size+1+1,1,ZW⟩ (Z5 (ZV ⟨g',0,ZW⟩) ((yH C kept pre).length+1) cap'))/\KeepsOthers X (w2.setCell ⟨w.heap.size+1+1,1,ZW⟩ (Z5 (ZV ⟨g',0,ZW⟩) ((yH C kept pre).length+1) cap'))):=by
 have k:WI w C regs (yH C kept pre) (X.setCell ⟨R,0,ZW⟩ (Z7 Z9 ((pre.length:Int)+1))):=h.wi.set j h.box;have c:ZM (X.setCell ⟨R,0,ZW⟩ (Z7 Z9 ((pre.length:Int)+1))) R 3 (Z7 Z9 ((pre.length:Int)+1)):=h.box.set _;obtain ⟨l,m,n,o⟩:=k.next g a d i f;have b:=(V5 X ⟨R,0,ZW⟩ (Z7 Z9 ((pre.length:Int)+1))).trans o;refine ⟨l,m,⟨by rw [LY];exact n,?_,b.same D _ h.mark rfl⟩,b⟩;have b2:ZM w2 R 3 (Z7 Z9 ((pre.length:Int)+1)):=(c.alloc ob).kept d (λe=>LZ a c e.symm);have b3:=(Wm w2 ⟨w.heap.size+1+1,1,ZW⟩ (Z5 (ZV ⟨g',0,ZW⟩) ((yH C kept pre).length+1) cap') R (by show R≠w.heap.size+1+1;omega)).trans b2;rw [Ua];exact b3
def iU {x':ZR} {t:ZN} (h:Y.heap[b]?=ZV (Z4 #[x,y] t (0,0))):(Y.setCell ⟨b,0,ZW⟩ x').heap[b]?=ZV (Z4 #[x',y] t (0,0)):=by
 obtain ⟨a,c⟩:=TX.1 h;show (Y.heap.modify b _)[b]?=_;rw [VK (by rw [abz];exact a),ab9,c];rfl
def iV {y':ZR} {t:ZN} (h:Y.heap[b]?=ZV (Z4 #[x,y] t (0,0))):(Y.setCell ⟨b,1,ZW⟩ y').heap[b]?=ZV (Z4 #[x,y'] t (0,0)):=by
 obtain ⟨a,c⟩:=TX.1 h;show (Y.heap.modify b _)[b]?=_;rw [VK (by rw [abz];exact a),ab9,c];rfl
def gw {base':Nat} {size:Nat} {xs:List ZR} (h:w.ownsRow base e size v n xs) (f:base'<=base):w.ownsRow base' e size v n xs:=by
 refine ⟨h.1,?_⟩;rcases h.2 with b|⟨g,cap,cur,a,c,d⟩
 . exact .inl b
 . exact .inr ⟨g,cap,cur,a,TU f c,d⟩
def IV:(ZK.info? 206).map (·.size)=ZV 2:=ei
theorem IW (C:Ck) (gone kept:Nat) (w:ZS) (F:eA C) (hg:gone<65536) (hk:kept<65536) (V:aG w) (h2:3<=w.heap.size) :
 ZP ZK 211 #[.agg (aV C),Z7 Z8 gone,Z7 Z8 kept] w λe w'=>∃ v,e=Z3 (.agg #[Z7 Z9 (1+((ab gone).length:Int)),v])/\bW w w'/\w'.ownsRow w.heap.size 299 4 v (fW C gone kept).length (ez .u8 (fW C gone kept)):=by
 have qe:(ab gone).length<=16:=by rw [<- kK gone];exact pL gone
 obtain ⟨n,HN⟩:∃ n:Nat,b9 (9<=n):=⟨9,TV _⟩;refine (Vd (n:=n)).1 ?_;refine Wh func211 rfl trivial ?_ rfl;simp only [ntmps211,UH,UA,UV,YH,YI,Vg,Vh,Vj,Vk,Uq,US];have q6:(((w.alloc (Z4 (aV C) 332)).alloc (Z4 #[Z7 Z9 0,Z5 ZW 0 0] 206)).alloc (Z4 #[Z7 Z9 (1+((ab gone).length:Int)),Z5 ZW 0 0] 206)).heap.size=w.heap.size+3:=ek
 have ky:WI w C (1+((ab gone).length:Int)) [] (((w.alloc (Z4 (aV C) 332)).alloc (Z4 #[Z7 Z9 0,Z5 ZW 0 0] 206)).alloc (Z4 #[Z7 Z9 (1+((ab gone).length:Int)),Z5 ZW 0 0] 206)):=by
  obtain ⟨a1,a2,a3,a4⟩:=KU w (Z4 (aV C) 332) (Z4 #[Z7 Z9 0,Z5 ZW 0 0] 206) (Z4 #[Z7 Z9 (1+((ab gone).length:Int)),Z5 ZW 0 0] 206);refine ⟨(aC.new w C).keep (by rw [We _ _ _ en,We _ _ _ ek]),a3,⟨ec,ec,_,a4,UK _ _ _ _⟩,((bA w _).alloc ek _).alloc en _⟩
 have M:=ak q6;have i:=ak ky;clear q6 ky;gi_wp2;refine cd (BI gone hg _) ?_;rintro e w' ⟨rfl,E⟩;gi_wp2;obtain ⟨l,km⟩:=nM ((((w.alloc (Z4 (aV C) 332)).alloc (Z4 #[Z7 Z9 0,Z5 ZW 0 0] 206)).alloc (Z4 #[Z7 Z9 (1+((ab gone).length:Int)),Z5 ZW 0 0] 206)));rw [km] at M i;rw [km];clear km E w';refine cd (dK kept l) ?_;rintro e w' ⟨rfl,rfl⟩;have q7:(l.alloc (Z4 #[Z7 Z8 (kept:Int)] 133)).heap.size=l.heap.size+1:=ek
 have ks:(l.alloc (Z4 #[Z7 Z8 (kept:Int)] 133)).cell? ⟨l.heap.size,0,ZW⟩=ZV (Z7 Z8 (kept:Int)):=(Bx.new l 133 (Z7 Z8 (kept:Int))).cell;have kz:WI w C (1+((ab gone).length:Int)) [] (l.alloc (Z4 #[Z7 Z8 (kept:Int)] 133)):=i.o.own (B:=l.heap.size) (row:=ZW) (e9 M.o) (aca _ _ _) (λr e=>Y4);obtain ⟨w4,q4⟩:=nM (l.alloc (Z4 #[Z7 Z8 (kept:Int)] 133));have O:=ak q7;have ka:=ak ks;have k6:=ak kz;clear q7 ks kz i;gi_wp2;rw [q4] at O ka k6;clear q4;refine Wi rfl (e9 HN.o) (gf:=147) (lb:=#[Z6 (ZV ⟨l.heap.size,0,ZW⟩)]) rfl trivial (U5 func147 ei rfl)
  (eS (n-1) l.heap.size kept hk w4 (e9 O.out) ka.out Y7 (V.mono ec k6.out.below)) (λh k=>qY h k) (qZ Y7) (TW _ _) (λ_=>rfl)
  (λpre X=>WI w C (1+((ab gone).length:Int)) (IT C pre) X/\w4.heap.size<=X.heap.size) (λ_ _ _=>False)
  (λpre X Y row G T hr=>⟨G.1.own Y7 T hr,TU G.2 T.size⟩) (λc pre X Y row G _ _=>G.elim) ⟨k6.out,TV _⟩
  (λx=>{ tmps:=#[.agg (aV C),Z7 Z8 (gone:Int),Z7 Z8 (kept:Int),Z6 (ZV ⟨w.heap.size,0,ZW⟩),ZX,ZX,Z6 (ZV ⟨w.heap.size+1,0,ZW⟩),Z6 (ZV ⟨w.heap.size+1+1,0,ZW⟩),Z7 Z9 (x.1:Int),ZX,ZX,ZX,ZX,Z7 Z8 (gone:Int),Z7 Z9 ((ab gone).length:Int),Z7 Z9 (1+((ab gone).length:Int)),.agg #[Z7 Z9 (1+((ab gone).length:Int)),Z5 ZW 0 0],Z7 Z8 (kept:Int),.func (.func 147) #[] #[Z6 (ZV ⟨l.heap.size,0,ZW⟩)],Z7 Z9 (x.1:Int),ZX,ZX,ZX,ZX,ZX,ZX,ZX,ZX,ZX,ZX,ZX,ZX,ZX,ZX,ZX,ZX,ZX,ZX,ZX,ZX,ZX,ZX,ZX,ZX,ZX,ZX,ZX,ZX,ZX,ZX,ZX,ZX,ZX,ZX,ZX,ZX,ZX,ZX,ZX,ZX,ZX,ZX,ZX,ZX,ZX,ZX,ZX],defers:=[] }) ?assign ?body ?done ?stop
 case assign=>
  intro l2 x X Kk hK;unfold qX;gi_wp2;exact hK
 case body=>
  rintro l2 pre x X ⟨a,W⟩ Q;have q3:=xR w.heap.size x.1 C X a.ck F x.2;obtain ⟨_,_,v,f,b⟩:=a.pb;have J:w.heap.size+3<=X.heap.size:=a.pb.2.1;obtain ⟨c0,c1,N,_⟩:=ay f;have ko:=x.2;have hL:=λk hk=>OF C F pre kept Q x.1 k hk;have HH:=ak a;have P:=ak f;have t:=ak b;have HL:=ak hL;have HX:=ak W;have R:=ak J;clear a f b hL W Q J;gi_wp2;refine dq q3 ?_;clear q3;rintro e w' ⟨rfl,E⟩;subst E;cases k9:cF C x.1 with
  | false=>
   have HE:=ak (Rf (pre:=pre) k9);clear k9;gi_wp2;refine ⟨Yk _ _,Gk.refl _,?_,HX.o⟩;rw [<- HE.o];exact HH.o
  | true=>
   have HE:=ak (OH (pre:=pre) k9);clear k9;gi_wp2_with (
    refine Ab rfl (Z0 24) (Z0 27) rfl (w.heap.size+3) w'.heap.size (IT C pre) ⟨0,0,(x.1:Int),0⟩ v rfl rfl (t.o.alloc _) (CY w' ⟨0,0,(x.1:Int),0⟩) (by have:=R.out;simp;omega) (e9 ((HL.o 0 (T8 _)).1)) ?_;
    rintro g' cap' w2 S H I;
    obtain ⟨c1,N,z⟩:=HH.o.next P.o t.o I S H;
    have ct:=z.1.told;
    have q:=ak z;
    clear z I H)
   rw [<- LX] at q;gi_loopw [32] (λp wr=>∃ k:Nat,p=Z7 Z9 (k:Int)/\k<=C.told/\WI w C (1+((ab gone).length:Int)) (GG C pre x.1 k) wr/\KeepsOthers w' wr) (λp _=>C.told-(intOf p).toNat)
   case atStart=>exact ⟨0,rfl,T8 _,q.out.1,q.out.2⟩
   case round=>
    obtain ⟨k,rfl,qc,a,y⟩:=hrel;have qi:=F.le;have qj:=F.Sb;by_cases qq:k<C.told
    . have cm:=a.ck.at k x.1 ec ko;have ki:(k:Int)<C.told:=ec;have qn:(k:Int)<8:=ec;have qv:(x.1:Int)<16:=ec;by_cases h0:C.m k x.1=0
      . rw [h0] at cm;have i:=ak a;have HK:=ak y;clear a y;gi_wp2;go_roundw
        case rel=>exact ⟨k+1,eT,ec,by rw [OG pre h0];exact i.o,HK.o⟩
        case measure=>simp [intOf];omega
      . have qs:((C.m k x.1:Nat):Int)≠0:=ec;obtain ⟨_,_,v,f,b⟩:=a.pb;have J:w.heap.size+3<=wr.heap.size:=a.pb.2.1;obtain ⟨c0,c1,N,_⟩:=ay f;have qm:=(HL.o k qc).2;have i:=ak a;have HK:=ak y;have P:=ak f;have t:=ak b;have R:=ak J;clear a y f b J;gi_wp2_with (
         refine Ab rfl (Z0 44) (Z0 49) rfl (w.heap.size+3) wr.heap.size (GG C pre x.1 k) ⟨1,1+(k:Int),0,C.m k x.1⟩ v rfl rfl (t.o.alloc _) (CY wr ⟨1,1+(k:Int),0,C.m k x.1⟩) (by have:=R.out;simp;omega) ec ?_;
         rintro g' cap' w2 S H I;
         obtain ⟨c1,N,z⟩:=i.o.next P.o t.o I S H;
         have q:=ak z;
         clear z I H)
        go_roundw
        case rel=>exact ⟨k+1,eT,ec,by rw [Re pre h0];exact q.out.1,HK.o.trans q.out.2⟩
        case measure=>simp [intOf];omega
    . have ki:¬ (k:Int)<C.told:=ec;obtain rfl:k=C.told:=ec;have i:=ak a;have HK:=ak y;clear a y;gi_wp2;refine ⟨HK.o.from _,λ_=>V.mono ec i.o.below,?_,TU HX.o HK.o.size⟩;rw [<- HE.o];exact i.o
 case done=>
  rintro D xs X hD q5 ⟨a,W⟩ hK;rw [OI q5] at a;have qo:w.heap.size+3<=D:=Y7
  have qb:D<X.heap.size:=(TX.1 hK).1;clear q5 xs ka k6 W;have i:=ak a;have HK:=ak hK;clear a hK;gi_wp2;refine cd (dK gone _) ?_;rintro e w' ⟨rfl,E⟩;have q8:w'.heap.size=X.heap.size+1+1:=by rw [E];simp
  have kv:w'.cell? ⟨X.heap.size+1,0,ZW⟩=ZV (Z7 Z8 (gone:Int)):=by
   have:=(Bx.new (X.alloc (Z4 #[Z7 Z9 0] 3)) 133 (Z7 Z8 (gone:Int))).cell;rw [Ul] at this;rw [E];exact this
  have kf:X.grownBy w' ZW:=by rw [E];exact BW (aca X _ ZW) _
  have q2:WP w C (1+((ab gone).length:Int)) kept X.heap.size D [] w':=by
   refine ⟨by rw [OJ];exact i.o.own (B:=w.heap.size+3) lR kf (λr e=>Y4),?_,(kf.block D qb (λe=>Y4)).trans HK.o⟩;rw [E];exact (Us X 3 (Z7 Z9 0)).alloc _
  have u:=ak q8;have q9:=ak kv;have kp:=ak q2;clear q8 kv q2 kf E i HK;gi_wp2;refine Wi rfl (e9 HN.o) (gf:=147) (lb:=#[Z6 (ZV ⟨X.heap.size+1,0,ZW⟩)]) rfl trivial (U5 func147 ei rfl)
   (eS (n-1) (X.heap.size+1) gone hg w' (e9 u.out) q9.out (e9 u.out) (V.mono ec kp.out.wi.below)) (λh k=>qY h k) (qZ (e9 u.out)) (TW _ _) (λ_=>rfl)
   (λpre Y=>WP w C (1+((ab gone).length:Int)) kept X.heap.size D pre Y/\w'.heap.size<=Y.heap.size) (λ_ _ _=>False)
   (λpre A Y row G T hr=>⟨G.1.own (B:=w'.heap.size) (e9 u.out) (e9 u.out) (e9 u.out) T hr,TU G.2 T.size⟩) (λc pre X Y row G _ _=>G.elim) ⟨kp.out,TV _⟩
   (λx=>{ tmps:=#[.agg (aV C),Z7 Z8 (gone:Int),Z7 Z8 (kept:Int),Z6 (ZV ⟨w.heap.size,0,ZW⟩),ZX,ZX,Z6 (ZV ⟨w.heap.size+1,0,ZW⟩),Z6 (ZV ⟨w.heap.size+1+1,0,ZW⟩),ZX,ZX,ZX,Z6 (ZV ⟨X.heap.size,0,ZW⟩),Z7 Z9 (x.1:Int),Z7 Z8 (gone:Int),Z7 Z9 ((ab gone).length:Int),Z7 Z9 (1+((ab gone).length:Int)),.agg #[Z7 Z9 (1+((ab gone).length:Int)),Z5 ZW 0 0],Z7 Z8 (kept:Int),.func (.func 147) #[] #[Z6 (ZV ⟨l.heap.size,0,ZW⟩)],ZX,ZX,ZX,ZX,ZX,ZX,ZX,ZX,ZX,ZX,ZX,ZX,ZX,ZX,ZX,ZX,ZX,ZX,ZX,ZX,ZX,ZX,ZX,ZX,ZX,ZX,ZX,ZX,ZX,ZX,ZX,ZX,ZX,ZX,Z7 Z8 (gone:Int),.func (.func 147) #[] #[Z6 (ZV ⟨X.heap.size+1,0,ZW⟩)],Z7 Z9 (x.1:Int),ZX,ZX,ZX,ZX,ZX,ZX,ZX,ZX,ZX,ZX,ZX],defers:=[] }) ?assign2 ?body2 ?done2 ?stop2
  case assign2=>
   intro l2 x Y Kk hK;unfold qX;gi_wp2;exact hK
  case body2=>
   rintro l2 pre x Y ⟨s,hY⟩ Q;have qp:=Rh C F kept pre gone Q;have qf:pre.length<16:=ec;have kc:w.heap.size+3<=X.heap.size:=ec;have hs:=s.wi.set (u':=Z7 Z9 ((pre.length:Int)+1)) kc s.box;obtain ⟨_,_,v,f,b⟩:=hs.pb;have J:w.heap.size+3<=(Y.setCell ⟨X.heap.size,0,ZW⟩ (Z7 Z9 ((pre.length:Int)+1))).heap.size:=hs.pb.2.1;obtain ⟨c0,c1,N,_⟩:=ay f;have cb:=s.box.cell;have fb:=s.box.frozen;have hb:=(s.box.set (Z7 Z9 ((pre.length:Int)+1))).cell;have HP:=ak s;have P:=ak f;have t:=ak b;have R:=ak J;have HY:=ak hY;have qa:=ak kc;clear s f b J hY hs Q kc;gi_wp2_with (
    refine Ab rfl (Z0 59) (Z0 63) rfl (w.heap.size+3) Y.heap.size (yH C kept pre) ⟨2,(pre.length:Int)+1,(x.1:Int),0⟩ v rfl rfl (t.o.alloc _) (IU _ Y.heap.size ek ⟨2,(pre.length:Int)+1,(x.1:Int),0⟩) (by have:=R.out;simp at this ⊢;omega) ec ?_;
    rintro g' cap' w2 S H I;
    obtain ⟨c1,N,z⟩:=HP.o.next qa.out P.o t.o I S H;
    have q:=ak z;
    clear z I H)
   refine ⟨q.out.2.from _,λ_=>V.mono ec q.out.1.wi.below,q.out.1,TU HY.o q.out.2.size⟩
  case done2=>
   rintro L ys Y qk qh ⟨s,hY⟩ k7;have K:=s.wi;rw [OK qh] at K;have hm:=s.mark;obtain ⟨_,_,v,f,b⟩:=K.pb;obtain ⟨c0,c1,N,f0⟩:=ay f;obtain ⟨r0,r1,g1,g0⟩:=ay K.res;obtain ⟨ao,m,j,rfl⟩:∃ ao m j,v=.slice ao m j:=by
    rcases b.2 with ⟨rfl,_⟩|⟨g,cap,cur,rfl,_⟩
    . exact ⟨_,_,_,rfl⟩
    . exact ⟨_,_,_,rfl⟩
   have t:=a5 K hm b k7;clear K hm b k7 s hY f;gi_wp2;obtain ⟨K,hm,b,k7⟩:=t.o;have k5:((Y.setCell ⟨w.heap.size+1,0,ZW⟩ (Z7 Z9 (1+((ab gone).length:Int)))).setCell ⟨w.heap.size+1,1,ZW⟩ (.slice ao m j)).heap[w.heap.size+1]?=ZV (Z4 #[Z7 Z9 (1+((ab gone).length:Int)),.slice ao m j] 206 (0,0)):=
    iV (iU K.res)
   have y:=(V5 Y ⟨w.heap.size+1,0,ZW⟩ (Z7 Z9 (1+((ab gone).length:Int)))).trans (V5 _ ⟨w.heap.size+1,1,ZW⟩ (.slice ao m j));have kr:bW w ((Y.setCell ⟨w.heap.size+1,0,ZW⟩ (Z7 Z9 (1+((ab gone).length:Int)))).setCell ⟨w.heap.size+1,1,ZW⟩ (.slice ao m j)):=(K.below.setCell (p:=⟨w.heap.size+1,0,ZW⟩) (Nat.le_succ _) _).setCell (p:=⟨w.heap.size+1,1,ZW⟩) (Nat.le_succ _) _;have hq:((Y.setCell ⟨w.heap.size+1,0,ZW⟩ (Z7 Z9 (1+((ab gone).length:Int)))).setCell ⟨w.heap.size+1,1,ZW⟩ (.slice ao m j)).ownsRow (w.heap.size+3) 299 4 (.slice ao m j) (fW C gone kept).length (ez .u8 (fW C gone kept)):=
    (b.kept (dy Y (w.heap.size+1) 0 _) (.inr λe=>e9 (jO b e))).kept (dy _ (w.heap.size+1) 1 _) (.inr λe=>e9 (jO b e))
   have k8:=y.same L _ k7 rfl;have ke:=y.same D _ hm rfl;have kb:D≠L:=(e9 u.out);have q0:=(TX.1 k8).1;have qd:=(TX.1 ke).1;have kj:L≠w.heap.size+1:=(e9 u.out);generalize ((Y.setCell ⟨w.heap.size+1,0,ZW⟩ (Z7 Z9 (1+((ab gone).length:Int)))).setCell ⟨w.heap.size+1,1,ZW⟩ (.slice ao m j))=Z at k5 kr hq k8 ke q0 qd ⊢;have hn:(Z.putObj L (.deferred ZW)).heap[D]?=ZV (.deferred (ZV [])):=(UP kb).trans ke;refine ⟨ek,.inl ⟨_,_,rfl,WA k8,ek,.inl ⟨_,_,rfl,WA hn,?_⟩⟩⟩;have qg:((Z.putObj L (.deferred ZW)).putObj D (.deferred ZW)).heap[w.heap.size+1]?=ZV (Z4 #[Z7 Z9 (1+((ab gone).length:Int)),.slice ao m j] 206 (0,0)):=((UP ec).trans (UP (Vn kj))).trans k5;have kg:=Xh Z L (.deferred ZW);have kh:=Xh (Z.putObj L (.deferred ZW)) D (.deferred ZW);have q1:∀ (U:ZS) (d:Nat),U.heap[d]?=ZV (.deferred (ZV []))->U.ownsRow (w.heap.size+3) 299 4 (.slice ao m j) (fW C gone kept).length (ez .u8 (fW C gone kept))->(Value.slice ao m j).ownBlock≠ZV d:=by
    intro U d hd hU e;rcases hU.2 with ⟨e1,_⟩|⟨g,cap,cur,e1,_,kx,_⟩
    . cases e1;cases e
    . cases e1;obtain rfl:g=d:=W7;rw [hd] at kx;cases kx
   have k0:=hq.kept kg (.inr (q1 _ _ k8 hq));have kk:=k0.kept kh (.inr (q1 _ _ hn k0));exact ⟨_,Wp results211 _ _ (w.heap.size+1) 206 #[Z7 Z9 (1+((ab gone).length:Int)),.slice ao m j] (0,0) _ rfl qg underlying206 rfl IV,_,rfl,Below.RO (Below.RO kr (e9 u.out) q0 _) ec (TX.1 hn).1 _,gw kk ec⟩
  case stop2=>
   rintro D c pre X _ _ F;exact F.elim
 case stop=>
  rintro D c pre X _ _ F;exact F.elim
end
def qB:List (Int×Nat×Nat×a8)->List ZR
 | []=>[]
 | q::O=>[Z7 Z9 q.1,fX q.2]++qB O
def rB:∀ O a,qB (O++a)=qB O++qB a
 | [],_=>rfl
 | q::O,a=>by simp [qB,rB O a]
def GH:∀ (O:List (Int×Nat×Nat×a8)) (i:Nat) (a:i<O.length),(qB O)[i*2]?=ZV (Z7 Z9 O[i].1)/\(qB O)[i*2+1]?=ZV (fX O[i].2)
 | q::O,0,_=>by simp [qB]
 | q::O,i+1,a=>by
  have:=GH O i (oD a);have b:(i+1)*2=i*2+2:=ec
  have c:(i+1)*2+1=i*2+1+2:=ec
  simp only [qB,X6];refine ⟨?_,?_⟩
  . rw [b];simpa using this.1
  . rw [c];simpa using this.2
structure mH (t:ZN) (w:ZS) (base:Nat) (v:ZR) (O:List (Int×Nat×Nat×a8)):Prop where
 own:w.ownsRow base t 2 v O.length (qB O)
 row:∀ q∈O,base<=q.2.1/\aM w q.2.1 q.2.2.2/\q.2.2.1<=q.2.2.2.length/\(q.2.2.1<=140737488355328/\q.2.2.2.length<=9223372036854775807)/\∀ x∈q.2.2.2,x<256
 nodup:(O.map (λq=>q.2.1)).Nodup
def mH.nil (t:ZN) (w:ZS) (base:Nat):mH t w base (Z5 ZW 0 0) []:=⟨UK _ _ _ _,λq a=>Zm,ek⟩
def mH.below {t:ZN} (h:mH t w base v O) (d:bW w w'):mH t w' base v O:=
 ⟨aq h.own d,λq e=>by obtain ⟨a,b,c⟩:=h.row q e;exact ⟨a,b.below d,c⟩,h.nodup⟩
def mH.cases {t:ZN} (h:mH t w base v O):(O=[]/\v=Z5 ZW 0 0)\/∃ g cap,v=Z5 (ZV ⟨g,0,ZW⟩) O.length cap/\∀ i (b:i<O.length),w.cell? ⟨g,i*2,ZW⟩=ZV (Z7 Z9 O[i].1)/\w.cell? ⟨g,i*2+1,ZW⟩=ZV (fX O[i].2):=by
 rcases h.own.2 with ⟨c,d⟩|⟨g,cap,cur,a,_⟩
 . exact .inl ⟨UW d,c⟩
 . refine .inr ⟨g,cap,a,λi b=>?_⟩;have ho:=h.own;rw [a] at ho;obtain ⟨e,f⟩:=GH O i b;exact ⟨by rw [ho.cellAt (i*2) ec];exact e,by rw [ho.cellAt (i*2+1) ec];exact f⟩
section
open Go.ChangeShapes Go.WideShapes
abbrev ux:List (String×DataW Unit):=[("math/bits.deBruijn64tab",Rows.laid_math_bits_deBruijn64tab),("errors.errorType",Rows.laid_errors_errorType),("stripes/record.halves",Rows.laid_stripes_record_halves)]
def GJ:List Int:=(YE 64).map λj=>((Lib.deBruijn64tab.getD j 0:Nat):Int)
def sE:List Int:=cG.map λ(x:Nat)=>(x:Int)
def Tryz.bt3:ZK.globalNamed "math/bits.deBruijn64tab"=ZV 1:=ei
def Tryz.bt3Type:(ZK.globals[1]?).map (·.type)=ZV 113:=ei
def Tryz.TF:ZK.cellsOf 113=64:=ei
def Tryz.S3:ZK.cellsOf 5=1:=ei
def Tryz.hv3:ZK.globalNamed "stripes/record.halves"=ZV 2:=ei
def Tryz.hv3Type:(ZK.globals[2]?).map (·.type)=ZV 323:=ei
def Tryz.TH:ZK.cellsOf 323=16:=ei
def Tryz.Tj:ZK.cellsOf 303=1:=ei
def IX:(Rows.laid_math_bits_deBruijn64tab:DataW Unit)=Lib.tabData .u8 GJ:=um
def L0:(Rows.laid_stripes_record_halves:DataW Unit)=Lib.tabData .u32 sE:=um
def IY {x:String×DataW Unit} {r:List (String×DataW Unit)} (h:laidMet P (x::r) w):laidMet P r w:=by
 obtain ⟨ps,i,c,a⟩:=h;obtain ⟨n,d⟩:=x;obtain ⟨g,t,cs,fuel,p,q,_,_,_,_,f,rfl⟩:=i;exact ⟨q,f,List.Nodup.sublist (acp _ _) c,λb off e=>a b off (VQ _ e)⟩
theorem CZ (h:laidMetH ZK ux W):bK W/\aG W/\bV W/\3<=W.heap.size:=by
 have d:laidMet ZK [("math/bits.deBruijn64tab",Rows.laid_math_bits_deBruijn64tab),("stripes/record.halves",Rows.laid_stripes_record_halves)] W/\handlesMet ZK [("errors.errorType",Rows.laid_errors_errorType)] W:=h;have l:bK W:=tZ (show laidMetH ZK [("errors.errorType",Rows.laid_errors_errorType)] W from ⟨⟨[],rfl,List.nodup_nil,λb off k=>by cases k⟩,d.2⟩);have c:=d.1;have e:=IY c;rw [IX] at c;rw [L0] at e;have n:=Lib.tabIs_of_head Tryz.bt3 Tryz.bt3Type Yi Xr Tryz.S3 Tryz.TF c;have m:=Lib.tabIs_of_head Tryz.hv3 Tryz.hv3Type underlying323 underlying303 Tryz.Tj Tryz.TH e;have g:aG W:=λj a=>by
  have:=n.cell Tryz.bt3 j (by simpa [GJ] using a);rw [this];unfold GJ;simp [a]
 have f:bV W:=λj a=>by
  have hl:cG.length=16:=rfl;have:=m.cell Tryz.hv3 j (by unfold sE;rw [Ue,hl];exact a);rw [this];unfold sE;congr 2;rw [Ub,Ub,UD,Uc ec];rfl
 refine ⟨l,g,f,?_⟩;have o:=Uf (g 0 ee);have i:=Uf (f 0 ee);have p:2<W.heap.size:=i;omega
noncomputable def uy (os:Os):ZS:=
 { World.holding ZK os ⟨#[],#[],[]⟩ with heap:=(((World.holding ZK os ⟨#[],#[],[]⟩).heap.modify 0 fun|Z4 _ t frozen=>Z4 #[.iface 157 (.agg #[Z6 (ZV ⟨3,64,ZW⟩)])] t frozen|o=>o).modify 1 fun|Z4 _ t frozen=>Z4 (GJ.map λz=>Value.int .u8 z).toArray t frozen|o=>o).modify 2 fun|Z4 _ t frozen=>Z4 (sE.map λz=>Value.int .u32 z).toArray t frozen|o=>o }
def uz (os:Os) (args:Array ZR):laidMetH ZK ux ((uy os).forCall (λ_ _=>0) ⟨#[],args,[]⟩).memory:=
 laidMetH_of_parts (laidMet_of_run' 8 ei ei) ei
end
