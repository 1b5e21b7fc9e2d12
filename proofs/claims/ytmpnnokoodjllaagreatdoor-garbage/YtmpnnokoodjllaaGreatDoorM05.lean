import Derived.Deep.CutRange
import Derived.Test.YtmpnnokoodjllaaGreatDoorM04
import Derived.OwnWalk
import Derived.Lib.BufferWrite
import Derived.Lib.AppendZerosOnto
import Derived.RangeFuncRecord
import Derived.Laws.BytesString
set_option maxRecDepth 100000
set_option linter.all false
set_option maxHeartbeats 8000000
open Go.IntKind renaming i64 -> Z9, u64 -> Z8
open Go.Value renaming int -> Z7, pointer -> Z6, slice -> Z5, bool -> Z1, string -> ZZ, tuple -> ZY
open Go.Obj renaming cells -> Z4
open Go.Ending renaming returned -> Z3
open Go.Operand renaming tmp -> Z0
open Go renaming undef -> ZX, World -> ZS, Value -> ZR, Calls -> ZQ, Ending -> ZP, TypeId -> ZO, Boxed -> ZN
open Option renaming none -> ZW, some -> ZV
open Bool renaming true -> ZU, false -> ZT
open List renaming range -> YC, replicate -> YD, takeWhile_cons -> YG, nodup_range -> YJ, take_prefix -> YK, map_replicate -> YL, drop_eq_nil_of_le -> YM, take_sublist -> YO, drop_sublist -> YP
open Nat renaming reduceAdd -> YE, reduceSub -> YF, succ_lt_succ -> YN, pos_of_ne_zero -> YQ
open ByteArray renaming empty -> YH
open List.Pairwise renaming sublist -> YI
open Array renaming getElem?_setIfInBounds_self_of_lt -> YR
open Go.Proofs.Tryz renaming prog -> ZM
open Go.Proofs.Tryz
namespace Go.Proofs.YtmpnnokoodjllaaGreatDoor
def XM:=@Go.Proofs.Tryz.underlying111
def XN:=@List.take_append_of_le_length
def V0:=@Nat.or_lt_two_pow
def Xl:=@List.length_pos_iff
def XO:=@Go.Addr.mk.injEq
def WU:=@Go.ByteArray.toList_eq
def XP:=@List.mem_flatMap
def Xm:=@Go.Src.ofNil
def Vk:=@Go.Proofs.Tryz.underlying113
def abp:=@Classical.choose_spec
def Vf:=@List.getElem_map
def Yl:=@Bool.or_eq_false_iff
def XQ:=@Nat.eq_or_lt_of_le
def WV:=@List.getElem_drop
def WW:=@List.getElem_take
def UF:=@List.nodup_cons
def abq:=@Go.Proofs.Tryz.underlying186
def XR:=@Go.Proofs.Tryz.underlying237
def Wn:=@List.mem_append_right
def Ym:=@Go.Proofs.Tryz.underlying9
def abr:=@Go.Proofs.Tryz.underlying195
end Go.Proofs.YtmpnnokoodjllaaGreatDoor
namespace Go.Proofs.YtmpnnokoodjllaaGreatDoor
open Go.RowKit Go.Shelf Go.Deep Gf
variable {a:Act} {ops:Array Oper} {cs:Array ZR} {off rd:Bool} {s:ByteArray} {C:Ck} {R:ZP->ZS->Prop} {Q:Exit->Act->ZS->Prop} {F:aR} {lost regs room:Int} {es:List (Nat×Nat×Nat)} {ns:List ByteArray} {l:a9} {vs xs cur:List ZR} {m v p D L G ps ho D' L' G' t f n g nb B x ar nn b0 b c q count d i base size t' f' n' k sb:Nat} {Dn:Nat->Bool} {ol nw:Nat->Nat} {S K K':Nat->Prop} {o:Oper} {ao:Option Addr} {P:Program} {e:ZO} {pg ob u steps ne:ZR} {X:ZR->Prop} {w W w' w0 wr:ZS}
section
attribute [local go_sem] Oper.semAt_some
def Hl {m':Nat} {l:Nat} {args:Array ZR} (h:YieldAt Fence.wide m P l args w R):YieldAt Fence.wide m' P l args w R:=by
 obtain ⟨a,tmps,assign,body,b,c⟩:=h;exact ⟨a,tmps,assign,body,b,wN c⟩
theorem lW (ao:Option Addr) (m c:Nat) (w:ZS) :
 ZQ ZM 125 #[.slice ao m c] w λe w'=>e=Z3 (.func (.func 153) #[] #[Z6 (ZV ⟨w.heap.size,0,ZW⟩)])/\w'=w.alloc (Z4 #[.slice ao m c] 113):=by
 go_enter func125,ntmps125;go_wp2;go_ret;exact ⟨rfl,rfl⟩
theorem lX (ar:Nat) (w:ZS) :
 ZQ ZM 89 #[Z6 (ZV ⟨ar,0,ZW⟩)] w λe w'=>e=Z3 (.func (.func 124) #[] #[Z6 (ZV ⟨w.heap.size,0,ZW⟩)])/\w'=w.alloc (Z4 #[Z6 (ZV ⟨ar,0,ZW⟩)] 95):=by
 go_enter func89,ntmps89;go_wp2;go_ret;exact ⟨rfl,rfl⟩
theorem lY (K:Nat->Prop) (n l b1 ar:Nat) (v D L G t f nn:Nat) (pg ob:ZR) (off:Bool) (P:a9) (os:List Ob) (hx:K b1) (hs:K ar) (J M:a9->ZS->Prop) (hn:∀ pre A B,J pre A->bW A B->J pre B)
 (hY:∀ pre x W,J pre W->pre++[x]<+:P++an os->YieldAt Fence.wide (n-1) ZM l (nJ x) W λe j=>(e=Z3 (Z1 ZU)/\J (pre++[x]) j/\dN K W j)\/(e=Z3 (Z1 ZT)/\M (pre++[x]) j))
 (W:ZS) (a:ZN W b1 95 (Z6 (ZV ⟨ar,0,ZW⟩))) (g:bf W ar v D L G t f nn pg ob off) (u:bp K W pg P) (s:fa K W ob os) (w:J [] W) :
 CallsIn Fence.wide n ZM 124 #[.func (.yield l) #[] #[],Z6 (ZV ⟨b1,0,ZW⟩)] W λe j=>(∃ v,e=Z3 v) /\
  ((∃ ys,ys=P++an os/\J ys j)\/(∃ pre,pre<+:P++an os/\M pre j)):=by
 obtain ⟨ao,c,rfl,k5,z⟩:=id u;obtain ⟨c0,_,_,c7,U⟩:=g.cells;have V:=a.cell;refine WL func124 rfl trivial ?_ rfl;simp only [ntmps124,Uy,Um,UQ,YE,YF,UX,UY,UZ,U0,Uk,UH];have H:=a7 a g u s w;clear a g u s w z;gi_wp2;gi_loopw [10] (λp wr=>∃ k:Nat,p=Z7 Z9 (k:Nat)/\k<=P.length/\J (P.take k) wr/\dN K W wr)
  (λp _=>P.length-(intOf p).toNat)
 case atStart=>
  exact ⟨0,rfl,T3 _,H.out.2.2.2.2,dN.refl _ _⟩
 case round=>
  clear c0 c7 U V;obtain ⟨k,rfl,hk,m,d⟩:=hrel;by_cases r:k<P.length
  . obtain ⟨hb,c',X,_,z⟩:=H.out.2.2.1.keep d;obtain ⟨b,bo,e2,hz,k7,hr⟩:=z (λe=>by rw [e] at r;simp at r);simp only [Vt] at X;obtain ⟨rfl,_,rfl⟩:=X;subst e2;have g1:=hr k r;obtain ⟨y,F⟩:=nM (P[k]);rw [F] at g1;obtain ⟨fn,tmps,assign,body,k6,hR⟩:=hY _ y _ m (by
     have a:=(YK (k+1) P).trans (Xp P (an os));rwa [Vd,T2 r,F] at a)
    unfold nJ at k6;have I:=a5 m d hR F;clear m d hR z hr F;gi_wp2;refine ⟨λh=>Bf,I.out.2.2.1.mono ?_⟩;have C:P.take k++[y]=P.take (k+1):=(by rw [Vd,T2 r,I.out.2.2.2];rfl);rintro e W3 (⟨rfl,R,hq⟩|⟨rfl,O⟩)
    . rw [C] at R;have i:=au R (I.out.2.1.trans hq);clear R hq C;gi_wp2;go_roundw
      case rel=>exact ⟨k+1,e8,eb,i.out.1,i.out.2⟩
      case measure=>simp only [intOf];omega
    . rw [C] at O;have i:=al O;clear O C;gi_wp2;refine Uf (Xc rfl _ _ _) rfl ?_;exact ⟨⟨_,rfl⟩,.inr ⟨_,(YK (k+1) P).trans (Xp _ _),i.out⟩⟩
  . have k0:k=P.length:=eb;subst k0;rw [VE] at m;obtain ⟨a,g,u,s,w⟩:=H.out;have hg:ZN wr b1 95 (Z6 (ZV ⟨ar,0,ZW⟩)):=(d.2 _ a.lt hx).trans a;have hh:=g.keep (d.2 _ g.lt hs);have Q:=s.keep d;obtain ⟨_,_,_,_,U⟩:=hh.cells;have V:=hg.cell;obtain ⟨q,o,rfl,hol,_⟩:=id Q;have T:=aE m d Q;clear m d a g u s w hg hh Q;gi_wp2;refine bX (lW q os.length o wr) ?_;rintro e w2 ⟨rfl,rfl⟩;have E:bW wr (wr.alloc (Z4 #[.slice q os.length o] 113)):=bA wr _;have N:(wr.alloc (Z4 #[.slice q os.length o] 113)).cell? ⟨wr.heap.size,0,ZW⟩=ZV (.slice q os.length o):=(Uj wr _ _).cell;obtain ⟨w2,S⟩:=nM (wr.alloc (Z4 #[.slice q os.length o] 113));rw [S] at E N;have hm:=hn _ _ _ T.out.1 E;have hi:=T.out.2.2.keep (dN.RN E);have Y:=lM K (n-1) l wr.heap.size (.slice q os.length o) os J M hn (P++an os) (λpre x W1 hj hp=>Hl (hY pre x W1 hj hp)) P (Yf _) w2 N hi hm;have H2:=al Y;clear E N hm hi Y;rw [S];clear S;gi_wp2;refine ⟨trivial,λh=>Bf,H2.out.mono ?_⟩;rintro e W3 ⟨⟨x,rfl⟩,Z⟩;have i:=al Z;clear Z;gi_wp2;go_end0
    refine ⟨⟨_,rfl⟩,?_⟩;rcases i.out with h|⟨pre,a,h2⟩
    . exact .inl ⟨_,rfl,h⟩
    . exact .inr ⟨_,(abk _).2 a,h2⟩
def qE (K:Nat->Prop) (n b1 ar v D L G t f nn:Nat) (pg ob:ZR) (off:Bool) (P:a9) (os:List Ob) (m:K b1) (j:K ar) (w:ZS) (c:ZN w b1 95 (Z6 (ZV ⟨ar,0,ZW⟩))) (d:bf w ar v D L G t f nn pg ob off) (q:bp K w pg P) (o:fa K w ob os) :
 SeqStopsK Fence.wide n ZM 124 #[Z6 (ZV ⟨b1,0,ZW⟩)] nJ (dN K) (λz=>z=P++an os) (λpre=>pre<+:P++an os) (P++an os).length w:=λl J g W b p _ s i=>
 lY K n l b1 ar v D L G t f nn pg ob off P os m j J g (λpre A B h a=>p pre A B ZW h ⟨a.os,a.tape,a.output,a.size,λk u _=>a.block k u⟩ (λr e=>Za)) (λpre x W h y=>s pre x W h (Ke y)) W
  ((b.block _ c.lt).trans c) (d.keep (b.block _ d.lt)) (q.keep (dN.RN b)) (o.keep (dN.RN b)) i
def Sn (l:a9):Type:={ x:Nat // x∈l }
def ON {l:a9} (x:Sn l):Array ZR:=nJ x.1
def qF (K:Nat->Prop) (n b1 ar v D L G t f nn:Nat) (pg ob:ZR) (off:Bool) (P:a9) (os:List Ob) (y:K b1) (u:K ar) (w:ZS) (b:ZN w b1 95 (Z6 (ZV ⟨ar,0,ZW⟩))) (p:bf w ar v D L G t f nn pg ob off) (E:bp K w pg P) (z:fa K w ob os) :
 SeqStopsK Fence.wide n ZM 124 #[Z6 (ZV ⟨b1,0,ZW⟩)] (ON (l:=P++an os)) (dN K) (λa=>a.map (·.1)=P++an os) (λpre=>pre.map (·.1)<+:P++an os) (P++an os).length w:=λl J q W i C _ F s=>by
 refine (lY K n l b1 ar v D L G t f nn pg ob off P os y u (λpre X=>∃ a:List (Sn (P++an os)),a.map (·.1)=pre/\J a X) (λpre X=>∃ a:List (Sn (P++an os)),a.map (·.1)=pre/\q a X)
  (λpre A B ⟨a,e,h⟩ g=>⟨a,e,C a A B ZW h ⟨g.os,g.tape,g.output,g.size,λk I _=>g.block k I⟩ (λr e=>Za)⟩) ?_ W
  ((i.block _ b.lt).trans b) (p.keep (i.block _ p.lt)) (E.keep (dN.RN i)) (z.keep (dN.RN i)) ⟨[],rfl,s⟩).mono ?_
 . rintro pre x X ⟨a,rfl,H⟩ j;have m:x∈P++an os:=j.subset ek;refine (F a ⟨x,m⟩ X H (by have:=Ke j;rwa [TZ] at this)).mono ?_;rintro e M (⟨b,c,d⟩|⟨b,c⟩)
   . exact .inl ⟨b,⟨a++[⟨x,m⟩],by rw [Uu];rfl,c⟩,d⟩
   . exact .inr ⟨b,⟨a++[⟨x,m⟩],by rw [Uu];rfl,c⟩⟩
 . rintro e X ⟨b,⟨a,rfl,o,c,d⟩|⟨pre,j,o,rfl,d⟩⟩
   . exact ⟨b,.inl ⟨o,c,d⟩⟩
   . exact ⟨b,.inr ⟨o,j,d⟩⟩
end
theorem ub (n m:Nat) (f:n<=5000000000) (c:1<=m/\m<=1000000) (w:ZS):ZQ ZM 120 #[Z7 Z9 n,Z7 Z9 m] w λe w'=>e=Z3 (Z7 Z9 (((n+m-1)/m:Nat):Int))/\w'=w:=by
 obtain ⟨g,h⟩:=c;have a:(((n+m-1)/m:Nat):Int)=((n:Int)+m-1)/(m:Int):=by rw [X4,(eb:((n+m-1:Nat):Int)=(n:Int)+m-1)]
 have d:Int.tdiv ((n:Int)+m-1) (m:Int)=((n:Int)+m-1)/(m:Int):=XK eb;have b:wrap64 (((n:Int)+m-1)/(m:Int))=((n:Int)+m-1)/(m:Int):=by rw [<- a];exact sU (TU (VK _ _) eb)
 rw [a];go_enter func120,ntmps120;go_wp2;go_ret;exact ⟨congrArg (λx=>Ending.returned (Z7 Z9 x)) b,rfl⟩
def pgs (D m:Nat):Nat:=max 1 ((m+(D*44-4)-1)/(D*44-4))
theorem gG {a:Nat} (r:bf w a v D' L' G' t f n pg ob off) (h:bk w v p D L G ps ho) (l:1<=D) (o:D<=1000) (m:Nat) (s:m<=5000000000):ZQ ZM 86 #[Z6 (ZV ⟨a,0,ZW⟩),Z7 Z9 m] w λe w'=>e=Z3 (Z7 Z9 (pgs D m:Nat))/\w'=w:=by
 have c:=ub m (D*44-4) s ⟨eb,eb⟩ w;obtain ⟨q,d⟩:=nM ((m+(D*44-4)-1)/(D*44-4));rw [d] at c;have i:pgs D m=max 1 q:=by unfold pgs;rw [d]
 rw [i];have u:∀ b k w,(Builtin.max_ b k #[Z7 Z9 1,Z7 Z9 (q:Nat)]).run ZM w=.ok (Z7 Z9 ((max 1 q:Nat):Int)) w:=λb k w=>by
  rw [lH];by_cases g:(q:Int)>1
  . rw [if_pos g,Nat.max_eq_right eb]
  . rw [if_neg g,Nat.max_eq_left eb];rfl
 have j:=j9 r h l o;have H:=au c j;clear c j i d;go_enter func86,ntmps86;go_wp2_with fail;refine H.out.2.mono ?_;rintro e w' ⟨rfl,rfl⟩;generalize ((D*44-4:Nat):Int)=x at *;go_wp2_with fail;refine H.out.1.mono ?_;rintro e w' ⟨rfl,rfl⟩;go_wp2;go_ret;exact ⟨rfl,rfl⟩
theorem jt {A:aA} (f:bk w v p D L G ps ho) (h:aj w p A F) (c:A.fit) (d:0<A.n):ZQ ZM 143 #[Z6 (ZV ⟨v,0,ZW⟩)] w λe w'=>e=Z3 (Z7 Z9 A.nb)/\w'=w:=by
 obtain ⟨i,_⟩:=f.cells;have g:=c.nb;have a:=kl h d;obtain ⟨nb,b⟩:=nM (A.nb);rw [b] at a g ⊢;clear h c d b;go_enter func143,ntmps143;go_wp2_with fail;refine a.mono ?_;rintro e w' ⟨rfl,rfl⟩;go_wp2;go_ret;exact ⟨rfl,rfl⟩
section
attribute [local go_sem] Oper.semAt_some
def eU (nb:Nat) (s:(Nat->Bool)×Bool) (x:Nat):(Nat->Bool)×Bool:=if x<2\/nb<=x\/s.1 x=ZU then (s.1,ZT) else (λj=>if j=x then ZU else s.1 j,s.2)
def tk (nb:Nat) (l:a9):(Nat->Bool)×Bool:=l.foldl (eU nb) (λ_=>ZT,ZU)
def sj (nb:Nat) (l:a9) (x:Nat):tk nb (l++[x])=eU nb (tk nb l) x:=by simp [tk]
def Tryz.Tu:(ZM.info? 4).map (λi=>(i.zero,i.size,i.bytes))=ZV (ZV (Z1 ZT),1,1):=ei
def qG (w:ZS) {F:Fence} {m:Nat} {ops:Array Oper} {rest:List Oper} {o:Oper} {a:Act} {Q:Exit->Act->ZS->Prop}
 (i:o.guard=ZW) (l c:Operand) (b:o.op=Op.makeSlice 89 l c) (C:Int) (n:Nat) (j:a.eval l=Z7 Z9 C) (g:a.eval c=Z7 Z9 C) (f:C=(n:Int)) (k:n<=1000000000)
 (hK:∀ w',w'.rowIs w.heap.size 4 n (λ_=>Z1 ZT)->bW w w'->w'.heap.size=w.heap.size+1->wpListIn F m ZM ops Q rest (a.put o.dst (Z5 (ZV ⟨w.heap.size,0,ZW⟩) n n)) w') :
 wpListIn F m ZM ops Q (o::rest) a w:=by
 refine Yj i λK e=>?_;have d:=Xs (P:=ZM) 89 4 (Z1 ZT) 1 underlying89 Tryz.Tu rfl .i64 .i64 n eb eb w;subst f;unfold Oper.wpIn;refine ⟨by simp [Oper.about,b],?_⟩;rw [V8 F _ _ (by rw [b];intro c h;cases h)];simp [execOp,b,j,g,d,Result.andThen];exact e _ _ (hK _ (W5 w _ n _) (bA _ _) (Ug _ _))
structure PW (w:ZS) (g nb B:Nat) (pre:a9) (X:ZS):Prop where
 row:X.rowIs g 4 nb (λj=>Z1 ((tk nb pre).1 j))
 box:ZN X (g+1) 89 (Z5 (ZV ⟨g,0,ZW⟩) nb nb)
 ok:ZN X (g+1+1) 4 (Z1 (tk nb pre).2)
 below:bW w X
 size:B<=X.heap.size
def PW.own (l:g+3<=B) (m:w.heap.size<=B):OwnFrom B (PW w g nb B):=by
 rintro pre X Y row ⟨f,h,i,c,j⟩ b d;have a:∀ k,k<B->Y.heap[k]?=X.heap[k]?:=λk a=>b.block k eb (λe=>eT ((d k e.symm).1));exact ⟨f.of_block (a _ eb),(a _ eb).trans h,(a _ eb).trans i,c.grown b c.size (λk e=>eT ((d k e).1)),TU j b.size⟩
def ud {fn:Func} {Z:ZS} {u:Nat} {x y:ZR} (f:fn.results=#[.tmp t,.tmp u]) (b:a.defers=[{ target:=.collected D',args:=#[] }]) (hx:a.tmps.getD t ZX=x) (hy:a.tmps.getD u ZX=y)
 (hK:Z.heap[D']?=ZV (.deferred (ZV []))) (hR:R (Z3 (ZY #[x,y])) (Z.putObj D' (.deferred ZW))):bodyPostM Fence.wide n ZM fn R .ret a Z:=by
 obtain ⟨c,g⟩:=a;simp only at b hx hy;subst b;refine ⟨ek,.inl ⟨_,_,rfl,Wd hK,?_⟩⟩;refine ⟨ZY #[x,y],?_,hR⟩;have d:c[t]?.getD ZX=x:=vE hx
 have e:c[u]?.getD ZX=y:=vE hy
 simp [results,f,d,e]
theorem xK {A:aA} (O:bf w ar v D' L' G' t f nn pg ob off) (hV:bk w v p D L G ps ho) (h:aj w p A F) (hf:A.fit) (hn:0<A.n) (P:a9) (os:List Ob) (hP:bp (λk=>k<w.heap.size) w pg P) (hC:fa (λk=>k<w.heap.size) w ob os) :
 ZQ ZM 136 #[Z6 (ZV ⟨ar,0,ZW⟩)] w λe w'=>∃ g,e=Z3 (ZY #[Z5 (ZV ⟨g,0,ZW⟩) A.nb A.nb,Z1 (tk A.nb (P++an os)).2])/\w.heap.size<=g/\w'.rowIs g 4 A.nb (λj=>Z1 ((tk A.nb (P++an os)).1 j))/\bW w w':=by
 obtain ⟨n,HN⟩:∃ n:Nat,Hid (9<=n):=⟨9,TV _⟩;obtain ⟨c0,_⟩:=O.cells;have R:=jt hV h hf hn;have kc:=hf.nb;obtain ⟨nb,h7⟩:=nM (A.nb);rw [h7] at R kc ⊢;clear h7;have C:=a5 O hP hC R;clear O hP hC R;refine (U6 (n:=n)).1 ?_;refine VS func136 rfl trivial ?_ rfl;simp only [ntmps136,Uy,Um,UQ,YE,YF,UX,UY,UZ,U0,Uk,UH];gi_wp2;refine bX C.out.2.2.2 ?_;rintro e w1 ⟨rfl,rfl⟩;gi_wp2_with (gi_at_make;refine qG _ rfl (Z0 11) (Z0 11) rfl _ nb l3 l3 rfl eb ?_;intro w2 h6 hr J)
 obtain ⟨d,B⟩:=nM ((w2.alloc (Z4 #[Z5 (ZV ⟨w1.heap.size,0,ZW⟩) nb nb] 89)).alloc (Z4 #[Z1 ZU] 4));have k6:d.heap.size=w1.heap.size+3:=by rw [<- B];simp [J]
 have hs:bW w1 d:=by rw [<- B];exact (hr.alloc eb _).alloc en _
 have hq:d.rowIs w1.heap.size 4 nb (λ_=>Z1 ZT):=by rw [<- B];exact (h6.alloc _).alloc _
 have hh:ZN d (w1.heap.size+1) 89 (Z5 (ZV ⟨w1.heap.size,0,ZW⟩) nb nb):=by
  rw [<- B];have:=Uj w2 89 (Z5 (ZV ⟨w1.heap.size,0,ZW⟩) nb nb);rw [J] at this;exact this.alloc _
 have hp:ZN d (w1.heap.size+1+1) 4 (Z1 ZU):=by
  rw [<- B];have:=Uj (w2.alloc (Z4 #[Z5 (ZV ⟨w1.heap.size,0,ZW⟩) nb nb] 89)) 4 (Z1 ZU);rw [Ua,J] at this;exact this
 rw [B];clear B h6 hr J c0 hV h;refine bX (lX ar d) ?_;rintro e w' ⟨rfl,rfl⟩;have h5:ZN (d.alloc (Z4 #[Z6 (ZV ⟨ar,0,ZW⟩)] 95)) d.heap.size 95 (Z6 (ZV ⟨ar,0,ZW⟩)):=Uj d _ _;have k7:(d.alloc (Z4 #[Z6 (ZV ⟨ar,0,ZW⟩)] 95)).heap.size=d.heap.size+1:=ek
 have H:PW w1 w1.heap.size nb (d.heap.size+1) [] (d.alloc (Z4 #[Z6 (ZV ⟨ar,0,ZW⟩)] 95)):=⟨hq.alloc _,hh.alloc _,hp.alloc _,hs.alloc eb _,eb⟩;obtain ⟨s,hy⟩:=nM (d.alloc (Z4 #[Z6 (ZV ⟨ar,0,ZW⟩)] 95));have I:=a5 h5 H k6 k7;clear h5 H k6 k7 hq hh hp hs;gi_wp2;rw [hy] at I;clear hy;obtain ⟨kg,kh,ki,kj⟩:d.heap.size<=w1.heap.size+3/\w1.heap.size+3<=d.heap.size/\s.heap.size<=d.heap.size+1/\d.heap.size+1<=s.heap.size:=eT I.out.2.2
 have H:PW w1 w1.heap.size nb s.heap.size [] s:=by have:=I.out.2.1;exact ⟨this.row,this.box,this.ok,this.below,TV _⟩
 have Q:∀ {v:ZR} {l:a9},bp (λk=>k<w1.heap.size) w1 v l->bp (λk=>k<w1.heap.size\/k=d.heap.size) w1 v l:=λ⟨ao,c,T,U,V⟩=>⟨ao,c,T,U,λK=>by obtain ⟨b,off,Y,Z,r3⟩:=V K;exact ⟨b,off,Y,.inl Z,r3⟩⟩;have ka:=Q C.out.2.1;have k8:fa (λk=>k<w1.heap.size\/k=d.heap.size) w1 ob os:=by
  obtain ⟨ao,c,T,U,V⟩:=C.out.2.2.1;refine ⟨ao,c,T,U,λK=>?_⟩;obtain ⟨b,off,Y,Z,r3,r4⟩:=V K;refine ⟨b,off,Y,.inl Z,r3,λi a=>?_⟩;obtain ⟨sv,s1,s2,s3,s4⟩:=r4 i a;exact ⟨sv,s1,s2,s3,Q s4⟩
 have N:=H.below;have HI:=al H;clear H Q;refine VT rfl (eT HN.out) (gf:=124) (lb:=#[Z6 (ZV ⟨d.heap.size,0,ZW⟩)]) rfl trivial (UR func124 ei rfl)
  (qE (λk=>k<w1.heap.size\/k=d.heap.size) (n-1) d.heap.size ar v D' L' G' t f nn pg ob off P os (.inr rfl) (.inl C.out.1.lt) s I.out.1 (C.out.1.keep (N.block _ C.out.1.lt)) (ka.keep (dN.RN N)) (k8.keep (dN.RN N)))
  (λh k=>h.trans k) (λW l o o' K _ _ _=>⟨W7,λk _ r=>UE (by rcases r with r|r<;>omega)⟩) (TX _ _) (λ_=>rfl)
  (PW w1 w1.heap.size nb s.heap.size) (λ_ _ _=>False) (PW.own eb eb) (λ_ _ _ _ _ h _ _=>h.elim) HI.out
  (λx=>{ tmps:=#[Z6 (ZV ⟨ar,0,ZW⟩),ZX,Z5 ZW 0 0,Z1 ZT,Z6 (ZV ⟨w1.heap.size+1,0,ZW⟩),Z6 (ZV ⟨w1.heap.size+1+1,0,ZW⟩),Z7 Z9 (x:Nat),Z6 (ZV ⟨ar,0,ZW⟩),Z6 (ZV ⟨ar,0,ZW⟩),Z6 (ZV ⟨ar,0,ZW⟩),Z6 (ZV ⟨v,0,ZW⟩),Z7 Z9 (nb:Nat),Z5 (ZV ⟨w1.heap.size,0,ZW⟩) nb nb,Z6 (ZV ⟨ar,0,ZW⟩),.func (.func 124) #[] #[Z6 (ZV ⟨d.heap.size,0,ZW⟩)],Z7 Z9 (x:Nat),ZX,ZX,ZX,ZX,ZX,ZX,ZX,ZX,ZX,ZX,ZX,ZX,ZX,ZX,ZX,ZX,ZX,ZX,ZX],defers:=[] }) ?assign ?body ?done ?stop
 case assign=>
  intro l2 x X Kk hK;unfold nJ;gi_wp2;exact hK
 case body=>
  rintro l2 pre x X a kb;have c1:=a.box.cell;have c2:=a.ok.cell;have f2:=a.ok.frozen;have E:=al a;have h1:tk nb (pre++[x])=((tk nb pre).1,ZT)->KeepsFrom s.heap.size X (X.setCell ⟨w1.heap.size+1+1,0,ZW⟩ (Z1 ZT))/\dN (λk=>k<w1.heap.size\/k=d.heap.size) X (X.setCell ⟨w1.heap.size+1+1,0,ZW⟩ (Z1 ZT))/\PW w1 w1.heap.size nb s.heap.size (pre++[x]) (X.setCell ⟨w1.heap.size+1+1,0,ZW⟩ (Z1 ZT)):=λm=>by
   have a:=E.out;refine ⟨(Vz _ _ _).from _,⟨l7,λk _ r=>T7 _ _ _ _ (by show k≠w1.heap.size+1+1;rcases r with r|r<;>omega)⟩,?_,?_,?_,?_,?_⟩
   . rw [m];exact a.row.of_block (T7 _ _ _ _ (by show w1.heap.size≠w1.heap.size+1+1;omega))
   . exact (T7 _ _ _ _ (by show w1.heap.size+1≠w1.heap.size+1+1;omega)).trans a.box
   . rw [m];exact a.ok.set _
   . exact a.below.setCell (p:=⟨w1.heap.size+1+1,0,ZW⟩) (by show w1.heap.size<=w1.heap.size+1+1;omega) _
   . simpa [World.setCell] using a.size
  have M:=al h1;clear a h1;by_cases hz:x<2
  . have e1:(x:Int)<2:=eb;have m:tk nb (pre++[x])=((tk nb pre).1,ZT):=(by rw [sj];unfold eU;rw [if_pos (.inl hz)]);have z:=al m;clear m;gi_wp2;exact M.out z.out
  . have e1:¬ (x:Int)<2:=eb;by_cases k0:nb<=x
    . have e2:(x:Int)≥(nb:Int):=eb;have m:tk nb (pre++[x])=((tk nb pre).1,ZT):=(by rw [sj];unfold eU;rw [if_pos (.inr (.inl k0))]);have z:=al m;clear m;gi_wp2;exact M.out z.out
    . have e2:¬ (x:Int)≥(nb:Int):=eb;have kf:x<nb:=eb;have c3:=E.out.row.cell (i:=x) kf;have f3:=E.out.row.frozen x;cases h9:(tk nb pre).1 x with
      | true=>
       rw [h9] at c3;have m:tk nb (pre++[x])=((tk nb pre).1,ZT):=(by rw [sj];unfold eU;rw [if_pos (.inr (.inr h9))]);have z:=al m;clear m;gi_wp2;exact M.out z.out
      | false=>
       rw [h9] at c3;have m:tk nb (pre++[x])=(λj=>if j=x then ZU else (tk nb pre).1 j,(tk nb pre).2):=by
        rw [sj];unfold eU;rw [if_neg];rintro (q|q|q)
        . exact hz q
        . exact k0 q
        . rw [h9] at q;cases q
       have z:=al m;clear m;gi_wp2;have m:=z.out;have a:=E.out;refine ⟨(Vz _ _ _).from _,⟨l7,λk _ r=>T7 _ _ _ _ (by show k≠w1.heap.size;rcases r with r|r<;>omega)⟩,?_,?_,?_,?_,?_⟩
       . rw [m];refine (a.row.set x (Z1 ZU)).congr λj hj=>?_;by_cases e:j=x
         . simp [e]
         . simp [e]
       . exact (T7 _ _ _ _ (by show w1.heap.size+1≠w1.heap.size;omega)).trans a.box
       . rw [m];exact (T7 _ _ _ _ (by show w1.heap.size+1+1≠w1.heap.size;omega)).trans a.ok
       . exact a.below.setCell (p:=⟨w1.heap.size,x,ZW⟩) lR _
       . simpa [World.setCell] using a.size
 case done=>
  rintro D1 xs X k9 k5 a hK;rw [k5] at a;have c1:=a.box.cell;have c2:=a.ok.cell;have E:=au a hK;clear a hK k5;obtain ⟨tb,S⟩:=nM ((tk nb (P++an os)).2);rw [S] at c2;have HT:=al S;clear S;gi_wp2;gi_region
  gi_wp2;obtain ⟨a,hK⟩:=E.out;have hm:X.drew.heap[D1]?=ZV (.deferred (ZV [])):=hK;refine ud (t:=2) (u:=3) (x:=Z5 (ZV ⟨w1.heap.size,0,ZW⟩) nb nb) (y:=Z1 tb) results136 rfl rfl rfl hm ⟨w1.heap.size,by rw [HT.out],TV _,?_,?_⟩
  . exact a.row.of_block (UE (w:=X.drew) eb)
  . exact Below.RY a.below.drew eb (TW.1 hm).1 _
 case stop=>
  rintro D1 cc pre X k9 ke hx hK;exact hx.elim
end
section
attribute [local go_sem] Oper.semAt_some
def aX (T:Nat->Bool) (k:Nat):a9:=(YC k).filter (λj=>decide (2<=j) && !T j)
def qH (T:Nat->Bool):aX T 2=[]:=by simp [aX,Vl]
theorem nO (T:Nat->Bool) (k:Nat):aX T (k+1)=aX T k++(if 2<=k/\T k=ZT then [k] else []):=by
 unfold aX;rw [Vl,V4];congr 1;by_cases h:2<=k/\T k=ZT
 . rw [if_pos h];simp [h.1,h.2]
 . rw [if_neg h];by_cases a:2<=k
   . have:T k=ZU:=by cases q:T k<;>simp_all
     simp [this]
   . simp [a]
def kJ (T:Nat->Bool) {k m:Nat} (h:k<=m):aX T k<+:aX T m:=by
 induction m with
 | zero=>rw [(eb:k=0)];exact Yf _
 | succ m ih=>
  by_cases e:k=m+1
  . rw [e];exact Yf _
  . rw [nO];exact (ih eb).trans (Xp _ _)
theorem BL (ar:Nat) (w:ZS) :
 ZQ ZM 119 #[Z6 (ZV ⟨ar,0,ZW⟩)] w λe w'=>e=Z3 (.func (.func 151) #[] #[Z6 (ZV ⟨w.heap.size,0,ZW⟩)])/\w'=w.alloc (Z4 #[Z6 (ZV ⟨ar,0,ZW⟩)] 95):=by
 go_enter func119,ntmps119;go_wp2;go_ret;exact ⟨rfl,rfl⟩
def OO (b0:Nat) (W W':ZS):Prop:=W.heap.size<=W'.heap.size/\∀ k o,b0<=k->W.heap[k]?=ZV o->o.isCells=ZU->W'.heap[k]?=ZV o
def OO.trans {a b c:ZS} (h:OO b0 a b) (k:OO b0 b c):OO b0 a c:=⟨TU h.1 k.1,λi o d f e=>k.2 i o d (h.2 i o d f e) e⟩
def OO.row {W':ZS} (h:OO b0 W W') {g n:Nat} {t:ZO} {f:Nat->ZR} (d:b0<=g) (b:W.rowIs g t n f):W'.rowIs g t n f:=by
 obtain ⟨c,a,_⟩:=id b;exact b.of_block ((h.2 g _ d a rfl).trans a.symm)
theorem K6 {A:aA} (Q:bf W ar v D' L' G' t f nn pg ob off) (V:bk W v p D L G ps ho) (h:aj W p A F) (y:A.fit) (Y:0<A.n) (P:a9) (os:List Ob) (S:bp (λk=>k<W.heap.size) W pg P) (R:fa (λk=>k<W.heap.size) W ob os)
 (n l b1 b0:Nat) (hq:b0<=W.heap.size) (J C:a9->ZS->Prop) (hc:∀ pre A B,J pre A->bW A B->J pre B)
 (s:∀ pre x W,J pre W->pre.length<(aX (tk A.nb (P++an os)).1 A.nb).length->YieldAt Fence.wide (n-1) ZM l (nJ x) W λe o=>(e=Z3 (Z1 ZU)/\J (pre++[x]) o/\OO b0 W o)\/(e=Z3 (Z1 ZT)/\C (pre++[x]) o))
 (h1:W.cell? ⟨b1,0,ZW⟩=ZV (Z6 (ZV ⟨ar,0,ZW⟩))) (E:J [] W) :
 CallsIn Fence.wide n ZM 151 #[.func (.yield l) #[] #[],Z6 (ZV ⟨b1,0,ZW⟩)] W λe o=>(∃ v,e=Z3 v) /\
  ((∃ Z,Z=aX (tk A.nb (P++an os)).1 A.nb/\J Z o)\/(∃ pre,pre<+:aX (tk A.nb (P++an os)).1 A.nb/\C pre o)):=by
 have q:=xK Q V h y Y P os S R;have hj:=y.nb;obtain ⟨nb,I⟩:=nM (A.nb);rw [I] at q hj s ⊢;obtain ⟨T,U⟩:=nM (tk nb (P++an os));rw [U] at q s ⊢;obtain ⟨a,tr⟩:=T;simp only at q s ⊢;clear I U Q V h y Y S R;refine WL func151 rfl trivial ?_ rfl;simp only [ntmps151,Uy,Um,UQ,YE,YF,UX,UY,UZ,U0,Uk,UH];gi_wp2;refine bX q ?_;rintro e w1 ⟨g,rfl,hg,b,O⟩;have K:=hc _ _ _ E O;have z:=au b K;clear b O K q E h1;gi_wp2;gi_loopw [5] (λp wr=>∃ k:Nat,p=Z7 Z9 (k:Nat)/\2<=k/\(k<=nb\/k=2)/\J (aX a k) wr/\wr.rowIs g 4 nb (λj=>Z1 (a j)))
  (λp _=>nb-(intOf p).toNat)
 case atStart=>
  exact ⟨2,rfl,TV _,.inr rfl,by rw [qH];exact z.out.2,z.out.1⟩
 case round=>
  obtain ⟨k,rfl,hh,u,d,b⟩:=hrel;by_cases hi:k<nb
  . have c1:=b.cell (i:=k) hi;cases hm:a k with
    | true=>
     rw [hm] at c1;have c:aX a (k+1)=aX a k:=(by rw [nO,if_neg (by rw [hm];simp),V7]);rw [<- c] at d;have m:=au d b;clear d b c hm;gi_wp2;refine ⟨λ_ h=>Bf,?_⟩;gi_wp2;go_roundw
     case rel=>exact ⟨k+1,e8,eb,.inl eb,m.out.1,m.out.2⟩
     case measure=>simp only [intOf];omega
    | false=>
     rw [hm] at c1;have c:aX a k++[k]=aX a (k+1):=(by rw [nO,if_pos ⟨hh,hm⟩]);have X:(aX a k).length<(aX a nb).length:=by
      have:=(kJ a (eb:k+1<=nb)).length_le;rw [<- c,T5] at this;simp at this;omega
     obtain ⟨fn,tmps,assign,body,hp,w⟩:=s _ k _ d X;unfold nJ at hp;rw [c] at w;have m:=au b w;clear d b w c hm X;gi_wp2;refine ⟨λh=>Bf,m.out.2.mono ?_⟩;rintro e W3 (⟨rfl,M,N⟩|⟨rfl,H⟩)
     . have r:=au M (N.row eb m.out.1);clear M N;gi_wp2;go_roundw
       case rel=>exact ⟨k+1,e8,eb,.inl eb,r.out.1,r.out.2⟩
       case measure=>simp only [intOf];omega
     . have r:=al H;clear H;gi_wp2;refine Uf (Xc rfl _ _ _) rfl ?_;exact ⟨⟨_,rfl⟩,.inr ⟨_,kJ a (eb:k+1<=nb),r.out⟩⟩
  . have c:aX a k=aX a nb:=by
     rcases u with u|u
     . rw [(eb:k=nb)]
     . subst u;rw [qH];exact (List.prefix_nil.1 (by have:=kJ a (eb:nb<=2);rwa [qH] at this)).symm
    rw [c] at d;have m:=al d;clear d c b;gi_wp2;go_end0
    exact ⟨⟨_,rfl⟩,.inl ⟨_,rfl,m.out⟩⟩
def En {A:aA} (y:bf w ar v D' L' G' t f nn pg ob off) (z:bk w v p D L G ps ho) (h:aj w p A F) (Q:A.fit) (T:0<A.n) (P:a9) (os:List Ob) (N:bp (λk=>k<w.heap.size) w pg P) (K:fa (λk=>k<w.heap.size) w ob os)
 (n b1:Nat) (d:b1<w.heap.size) (H:w.cell? ⟨b1,0,ZW⟩=ZV (Z6 (ZV ⟨ar,0,ZW⟩))) :
 SeqStopsK Fence.wide n ZM 151 #[Z6 (ZV ⟨b1,0,ZW⟩)] nJ (OO w.heap.size) (λys=>ys=aX (tk A.nb (P++an os)).1 A.nb) (λpre=>pre<+:aX (tk A.nb (P++an os)).1 A.nb) (aX (tk A.nb (P++an os)).1 A.nb).length w:=λl J C W a M _ O E=>by
 have x:∀ {v:ZR} {l:a9},bp (λk=>k<w.heap.size) W v l->bp (λk=>k<W.heap.size) W v l:=λ⟨ao,c,j,m,o⟩=>⟨ao,c,j,m,λg=>by obtain ⟨b,off,q,s,u⟩:=o g;exact ⟨b,off,q,TY s a.size,u⟩⟩;have I:fa (λk=>k<W.heap.size) W ob os:=by
  obtain ⟨ao,c,j,m,o⟩:=K.keep (dN.RN a);refine ⟨ao,c,j,m,λg=>?_⟩;obtain ⟨b,off,q,s,u,U⟩:=o g;refine ⟨b,off,q,TY s a.size,u,λi R=>?_⟩;obtain ⟨sv,V,X,Y,Z⟩:=U i R;exact ⟨sv,V,X,Y,x Z⟩
 exact K6 (y.keep (a.block _ y.lt)) (z.keep (a.block _ z.lt)) (h.below a lR) Q T P os (x (N.keep (dN.RN a))) I n l b1 w.heap.size a.size J C (λpre A B h d=>M pre A B ZW h ⟨d.os,d.tape,d.output,d.size,λk S _=>d.block k S⟩ (λr e=>Za)) O ((a.cell (p:=⟨b1,0,ZW⟩) d).trans H) E
end
section
attribute [local go_sem] Oper.semAt_some
def jJ (l:a9):List ZR:=l.map λ(x:Nat)=>Value.int .i64 (x:Int)
def Tryz.SF:(ZM.info? 3).map (λi=>(i.zero,i.size,i.bytes))=ZV (ZV (Z7 Z9 0),1,8):=ei
structure PX (w:ZS) (q count B:Nat) (pre:a9) (X:ZS):Prop where
 cnt:ZN X w.heap.size 3 (Z7 Z9 (count:Nat))
 box:ZN X q 111 (Z5 (ZV ⟨w.heap.size+1,0,ZW⟩) pre.length count)
 own:X.ownsRow (w.heap.size+1) 3 1 (Z5 (ZV ⟨w.heap.size+1,0,ZW⟩) pre.length count) pre.length (jJ pre)
 below:bW w X
 size:B<=X.heap.size
 le:pre.length<=count
def PX.To (l:w.heap.size+3<=B) (m:q<B):OwnFrom B (PX w q count B):=by
 rintro pre X Y row ⟨f,g,h,d,i,j⟩ a c;have b:∀ k,k<B->Y.heap[k]?=X.heap[k]?:=λk b=>a.block k eb (λe=>eT ((c k e.symm).1));exact ⟨(b _ eb).trans f,(b _ eb).trans g,lN h a λr e=>(c r e).2,d.grown a d.size (λk e=>eT ((c k e).1)),TU i a.size,j⟩
def TaX (w:ZS) (q count B id:Nat) (c:Code) (pre':a9) (X:ZS):Prop:=c=.exit id/\∃ pre x,pre'=pre++[x]/\pre.length=count/\PX w q count B pre X
def TaX.To {id:Nat} (g:w.heap.size+3<=B) (i:q<B) (c:Code):OwnFrom B (TaX w q count B id c):=by
 rintro a X Y row ⟨b,pre,x,d,e,f⟩ h j;exact ⟨b,pre,x,d,e,PX.To g i pre X Y row f h j⟩
theorem lZ {A:aA} (K:bf w ar v D' L' G' t f nn pg ob off) (M:bk w v p D L G ps ho) (h:aj w p A F) (hf:A.fit) (hn:0<A.n) (P:a9) (os:List Ob) (Q:bp (λk=>k<w.heap.size) w pg P) (O:fa (λk=>k<w.heap.size) w ob os) (count:Nat) (k8:count<=1000000) :
 ZQ ZM 85 #[Z6 (ZV ⟨ar,0,ZW⟩),Z7 Z9 (count:Nat)] w λe w'=>∃ u,e=Z3 (ZY #[u,Z1 (decide (count<=(aX (tk A.nb (P++an os)).1 A.nb).length))]) /\
  w'.ownsRow w.heap.size 3 1 u ((aX (tk A.nb (P++an os)).1 A.nb).take count).length (jJ ((aX (tk A.nb (P++an os)).1 A.nb).take count))/\bW w w':=by
 obtain ⟨n,HN⟩:∃ n:Nat,Hid (9<=n):=⟨9,TV _⟩;have H0:=a7 K M h Q O;clear K M h Q O;refine (U6 (n:=n)).1 ?_;refine VS func85 rfl trivial ?_ rfl;simp only [ntmps85,Uy,Um,UQ,YE,YF,UX,UY,UZ,U0,Uk,UH];obtain ⟨i0,ky,qi,q7,qj⟩:=Ur Tryz.SF;have hr:(w.alloc (Z4 #[Z7 Z9 (count:Int)] 3)).heap.size=w.heap.size+1:=ek
 have ks:bW w (w.alloc (Z4 #[Z7 Z9 (count:Int)] 3)):=bA w _;have ko:ZN (w.alloc (Z4 #[Z7 Z9 (count:Int)] 3)) w.heap.size 3 (Z7 Z9 (count:Nat)):=Uj w _ _;have z:=aE hr ks ko;clear hr ks ko;gi_wp2_with (gi_at_make;refine wpListIn_make_own _ rfl (.const (Z7 Z9 0)) (Z0 8) 111 rfl (w.heap.size+1) 3 i0 (Z7 Z9 0) 1 XM ky qi q7 .i64 .i64 _ count l3 l3 rfl (by rw [qj];omega) eD (by rw [z.out.1];exact TV _) ?_;intro w2 V hy)
 rw [z.out.1] at V;have kk:=hy.size;rw [z.out.1] at kk;have qk:w.heap.size+1<w2.heap.size:=(V.lt (w.heap.size+1) rfl).2;have hj:bW w w2:=z.out.2.1.grown hy (by rw [z.out.1];omega) (λk e=>Za);have h8:ZN w2 w.heap.size 3 (Z7 Z9 (count:Nat)):=(hy.block _ (by rw [z.out.1];omega) ek).trans z.out.2.2;have h2:ZN (w2.alloc (Z4 #[Z5 (ZV ⟨w.heap.size+1,0,ZW⟩) 0 count] 111)) w2.heap.size 111 (Z5 (ZV ⟨w.heap.size+1,0,ZW⟩) 0 count):=Uj w2 _ _;have Z:bW w2 (w2.alloc (Z4 #[Z5 (ZV ⟨w.heap.size+1,0,ZW⟩) 0 count] 111)):=bA w2 _;have hz:(w2.alloc (Z4 #[Z5 (ZV ⟨w.heap.size+1,0,ZW⟩) 0 count] 111)).heap.size=w2.heap.size+1:=ek
 obtain ⟨d,q5⟩:=nM (w2.alloc (Z4 #[Z5 (ZV ⟨w.heap.size+1,0,ZW⟩) 0 count] 111));rw [q5] at h2 Z hz ⊢;refine bX (BL ar d) ?_;rintro e w' ⟨rfl,rfl⟩;have h5:(d.alloc (Z4 #[Z6 (ZV ⟨ar,0,ZW⟩)] 95)).cell? ⟨d.heap.size,0,ZW⟩=ZV (Z6 (ZV ⟨ar,0,ZW⟩)):=(Uj d _ _).cell;have q8:(d.alloc (Z4 #[Z6 (ZV ⟨ar,0,ZW⟩)] 95)).heap.size=d.heap.size+1:=ek
 have k6:bW d (d.alloc (Z4 #[Z6 (ZV ⟨ar,0,ZW⟩)] 95)):=bA d _;obtain ⟨g,S⟩:=nM (d.alloc (Z4 #[Z6 (ZV ⟨ar,0,ZW⟩)] 95));have U:bW w2 g:=by rw [<- S];exact Z.trans (k6.mono Z.size)
 have ha:bW w g:=hj.trans (U.mono eb);have kz:PX w w2.heap.size count g.heap.size [] g:=⟨(U.block _ eb).trans h8,by rw [<- S];exact (k6.block _ eb).trans h2,aB V U,ha,TV _,T3 _⟩;have q4:g.heap.size=w2.heap.size+2:=by rw [<- S,q8,hz]
 have R:=a7 h5 kz ha hz q4;clear h5 kz q8 k6 U ha q4 h2 Z hz V hy hj h8;gi_wp2;rw [S] at R;clear S q5;obtain ⟨qm,qn,qo,qp⟩:d.heap.size<=w2.heap.size+1/\w2.heap.size+1<=d.heap.size/\g.heap.size<=w2.heap.size+2/\w2.heap.size+2<=g.heap.size:=eT R.out.2.2.2
 have C:=R.out.2.2.1;obtain ⟨K,M,h,Q,O⟩:=H0.out;have k5:∀ {v:ZR} {l:a9},bp (λk=>k<w.heap.size) g v l->bp (λk=>k<g.heap.size) g v l:=λ⟨ao,c,q1,q2,q3⟩=>⟨ao,c,q1,q2,λY=>by obtain ⟨b,off,r1,r2,r3⟩:=q3 Y;exact ⟨b,off,r1,TY r2 C.size,r3⟩⟩;have kr:=k5 (Q.keep (dN.RN C));have kp:fa (λk=>k<g.heap.size) g ob os:=by
  obtain ⟨ao,c,q1,q2,q3⟩:=O.keep (dN.RN C);refine ⟨ao,c,q1,q2,λY=>?_⟩;obtain ⟨b,off,r1,r2,r3,r4⟩:=q3 Y;refine ⟨b,off,r1,TY r2 C.size,r3,λi a=>?_⟩;obtain ⟨sv,s1,s2,s3,s4⟩:=r4 i a;exact ⟨sv,s1,s2,s3,k5 s4⟩
 have kg:=En (K.keep (C.block _ K.lt)) (M.keep (C.block _ M.lt)) (h.below C lR) hf hn P os kr kp (n-1) d.heap.size eb R.out.1;obtain ⟨fr,k9⟩:=nM (aX (tk A.nb (P++an os)).1 A.nb);rw [k9] at kg;have km:=al k9;have qb:=al kg;clear k9 kg kr kp k5 K M h Q O;refine VT rfl (eT HN.out) (gf:=151) (lb:=#[Z6 (ZV ⟨d.heap.size,0,ZW⟩)]) rfl trivial (UR func151 ei rfl)
  qb.out (λh k=>h.trans k) (λW l o o' Y ho hc _=>⟨W7,λk o2 _ m kx=>(UE (λe=>by subst e;rw [m] at ho;cases ho;rw [hc] at kx;cases kx)).trans m⟩) (TX _ _) (λ_=>rfl)
  (PX w w2.heap.size count g.heap.size) (TaX w w2.heap.size count g.heap.size 0) (PX.To eb eb) (TaX.To eb eb) R.out.2.1
  (λx=>{ tmps:=#[Z6 (ZV ⟨ar,0,ZW⟩),Z7 Z9 (count:Nat),ZX,Z6 (ZV ⟨w.heap.size,0,ZW⟩),Z5 ZW 0 0,Z1 ZT,Z6 (ZV ⟨w2.heap.size,0,ZW⟩),Z7 Z9 (x:Nat),Z7 Z9 (count:Nat),Z5 (ZV ⟨w.heap.size+1,0,ZW⟩) 0 count,Z6 (ZV ⟨ar,0,ZW⟩),.func (.func 151) #[] #[Z6 (ZV ⟨d.heap.size,0,ZW⟩)],Z7 Z9 (x:Nat),ZX,ZX,ZX,ZX,ZX,ZX,ZX,ZX,ZX,ZX,ZX,ZX,ZX],defers:=[] }) ?assign ?body ?done ?stop
 case assign=>
  intro l2 x X Kk hK;unfold nJ;gi_wp2;exact hK
 case body=>
  rintro l2 pre x X a qf;have c1:=a.cnt.cell;have I:=a.box.cell;have kc:=a.le;by_cases h3:pre.length=count
  . have e1:((pre.length:Nat):Int)=((count:Nat):Int):=eb;have B:=al a;clear a;rw [h3] at I;gi_wp2;exact ⟨XL _ _,rfl,pre,x,rfl,h3,B.out⟩
  . have e1:¬ ((pre.length:Nat):Int)=((count:Nat):Int):=eb;obtain ⟨pl,H⟩:=nM (pre.length);have HO:Hid ((X.alloc (Z4 #[Z7 Z9 (x:Nat)] 3)).ownsRow (w.heap.size+1) 3 1 (Z5 (ZV ⟨w.heap.size+1,0,ZW⟩) pl count) pl (jJ pre)):=al (by have:=aB a.own ((TX _ X).alloc lR (Z4 #[Z7 Z9 (x:Nat)] 3));rwa [H] at this);have hm:∀ j u,[Value.int .i64 ((x:Nat):Int)][j]?=ZV u->(X.alloc (Z4 #[Z7 Z9 (x:Nat)] 3)).cell? ((⟨X.heap.size,0,ZW⟩:Addr).add j)=ZV u:=lD X (Z7 Z9 (x:Nat)) 3;have qa:=al hm;have qh:w2.heap.size<X.heap.size:=(eT a.size);have B:=au a H;rw [H] at I e1 kc;have kv:ZN X w2.heap.size 111 (Z5 (ZV ⟨w.heap.size+1,0,ZW⟩) pl count):=(by have:=a.box;rwa [H] at this);have q9:=al kv;clear a hm kv h3 H;gi_wp2_with (
     gi_at_builtin;
     refine wpListIn_append_fits _ rfl (Z0 17) (Z0 19) 111 rfl (w.heap.size+1) 3 i0 1 XM ky q7 (w.heap.size+1) pl count (jJ pre) l3 (by exact HO.out) ⟨X.heap.size,0,ZW⟩ 1 1 [Z7 Z9 (x:Nat)] l3 rfl (by exact qa.out) (λu hu=>by simp at hu;subst hu;rfl) eb ?_;
     intro T hp J;
     have k0:ZN T w2.heap.size 111 (Z5 (ZV ⟨w.heap.size+1,0,ZW⟩) pl count):=(J.block _ en (λe=>eT (UA e))).trans ((Ut _ _ _ qh).trans q9.out);
     have d0:=k0.cell;
     have f0:=k0.frozen)
    obtain ⟨a,H⟩:=B.out;have hx:∀ k,k<X.heap.size->k≠w.heap.size+1->T.heap[k]?=X.heap[k]?:=λk m qg=>(J.block k en (λe=>qg (UA e))).trans (Ut _ _ _ m);have kh:=J.size;simp only [Ua] at kh;have ka:∀ k,k≠w2.heap.size->(T.setCell ⟨w2.heap.size,0,ZW⟩ (Z5 (ZV ⟨w.heap.size+1,0,ZW⟩) (pl+1) count)).heap[k]?=T.heap[k]?:=λk m=>T7 _ _ _ _ m;have h4:(pre++[x]).length=pl+1:=(by rw [T5,H];rfl);have kb:jJ (pre++[x])=jJ pre++[Z7 Z9 (x:Nat)]:=(by unfold jJ;rw [Uu];rfl);refine ⟨⟨Zr,λk o m ho _=>?_⟩,⟨Zr,λk o m ho _=>?_⟩,?_,?_,?_,?_,?_,?_⟩
    . exact ((ka k eb).trans (hx k (TW.1 ho).1 eb)).trans ho
    . exact ((ka k eb).trans (hx k (TW.1 ho).1 eb)).trans ho
    . exact ((ka _ eb).trans (hx _ eb eb)).trans a.cnt
    . rw [h4];exact k0.set _
    . rw [h4,kb];exact hp.kept (tw T w2.heap.size 0 _) (.inr λe=>by have q:w.heap.size+1=w2.heap.size:=UA e;omega)
    . refine WR (p:=⟨w2.heap.size,0,ZW⟩) ?_ (by show w.heap.size<=w2.heap.size;omega) _;exact ⟨J.os.trans a.below.os,J.tape.trans a.below.tape,J.output.trans a.below.output,eT a.below.size,λk m=>(hx k (eT a.below.size) eb).trans (a.below.block k m)⟩
    . have:=a.size;simp [World.setCell];omega
    . rw [h4];omega
 case done=>
  rintro D1 xs X qc q6 a hK;have kj:xs=fr:=q6;subst kj;have c1:=a.cnt.cell;have I:=a.box.cell;have kc:=a.le;have B:=au a hK;clear a hK q6;obtain ⟨xl,N⟩:=nM (xs.length);rw [N] at I kc;have HL:=al N;clear N;gi_wp2;gi_region
  gi_wp2;obtain ⟨a,hK⟩:=B.out;have N:=HL.out;have E:X.drew.heap[D1]?=ZV (.deferred (ZV [])):=hK;have ki:xs.take count=xs:=UU eb;have qd:decide (count<=xs.length)=(((xl:Nat):Int)==((count:Nat):Int)):=by
   by_cases e:xl=count
   . rw [decide_eq_true eb];subst e;simp
   . rw [decide_eq_false eb];have:¬ ((xl:Nat):Int)=((count:Nat):Int):=by omega
     simp [this]
  rw [km.out,ki,qd];refine ud (t:=4) (u:=5) (x:=Z5 (ZV ⟨w.heap.size+1,0,ZW⟩) xl count) (y:=Z1 (((xl:Nat):Int)==((count:Nat):Int))) results85 rfl rfl rfl E ⟨_,rfl,?_,?_⟩
  . have ho:=a.own;rw [N] at ho;have ke:X.drew.ownsRow (w.heap.size+1) 3 1 (Z5 (ZV ⟨w.heap.size+1,0,ZW⟩) xl count) xl (jJ xs):=aB ho ((TX _ X).drew);rw [N];exact cE (lN ke (WK X.drew D1 (.deferred ZW)) λr e=>by cases e;exact ⟨_,E,rfl⟩) eb
  . exact Below.RY a.below.drew eb (TW.1 E).1 _
 case stop=>
  rintro D1 cc pre X qc kf ⟨rfl,s,x,rfl,k7,a⟩ hK;have c1:=a.cnt.cell;have I:=a.box.cell;have B:=au a hK;rw [k7] at I;clear a hK;gi_wp2;gi_region
  gi_wp2;obtain ⟨a,hK⟩:=B.out;have E:X.drew.heap[D1]?=ZV (.deferred (ZV [])):=hK;obtain ⟨rr,q0⟩:=kf;have ki:fr.take count=s:=by rw [<- q0,UI,XN eb,UU eb]
  have qe:count<=fr.length:=by rw [<- q0];simp;omega
  rw [km.out,ki,decide_eq_true qe];refine ud (t:=4) (u:=5) (x:=Z5 (ZV ⟨w.heap.size+1,0,ZW⟩) count count) (y:=Z1 ZU) results85 rfl rfl rfl E ⟨_,rfl,?_,?_⟩
  . have ho:=a.own;rw [k7] at ho;have ke:X.drew.ownsRow (w.heap.size+1) 3 1 (Z5 (ZV ⟨w.heap.size+1,0,ZW⟩) count count) count (jJ s):=aB ho ((TX _ X).drew);rw [k7];exact cE (lN ke (WK X.drew D1 (.deferred ZW)) λr e=>by cases e;exact ⟨_,E,rfl⟩) eb
  . exact Below.RY a.below.drew eb (TW.1 E).1 _
end
def sm (q:Nat):ZR:=.iface 92 (Z6 (ZV ⟨q,0,ZW⟩))
def fG (w:ZS) (q d b:Nat) (n:Int):Prop:=w.heap[q]?=ZV (Z4 #[Z7 Z9 d,Z7 Z9 b,Z7 Z9 n] 94 (0,0))
def fG.lt {n:Int} (h:fG w q d b n):q<w.heap.size:=(TW.1 h).1
def fG.cell {n:Int} (h:fG w q d b n):w.cell? ⟨q,2,ZW⟩=ZV (Z7 Z9 n):=by
 have a:w.heap[q]?=_:=h;simp [World.cell?,a]
def fG.new (w:ZS) (d b:Nat) (n:Int):fG (w.alloc (Z4 #[Z7 Z9 d,Z7 Z9 b,Z7 Z9 n] 94)) w.heap.size d b n:=T9 w _
def fG.below {n:Int} (h:fG w q d b n) (a:bW w w'):fG w' q d b n:=(a.block _ h.lt).trans h
theorem Hm {A:aA} (h:aj w p A F) (o:A.fit) (d b:Nat) (f:d<A.n) (q:A.wait≠0) (g:A.lost d=ZU) :
 ZQ ZM 28 #[Z6 (ZV ⟨p,0,ZW⟩),Z7 Z9 d,Z7 Z9 b] w λe w'=>e=Z3 (ZY #[.pointer ZW,sm w.heap.size])/\w'=w.alloc (Z4 #[Z7 Z9 d,Z7 Z9 b,Z7 Z9 11] 94):=by
 obtain ⟨i,c1,_,_⟩:=h.R4;obtain ⟨a,d1,j,k⟩:=h.Sd d f;rw [g] at a;have l:¬ (d:Int)<0:=eb
 have m:¬ (A.n:Int)<=(d:Int):=eb
 have c:(d:Int)<(A.n:Int):=eb
 go_enter func28,ntmps28;go_wp2;go_ret2;exact ⟨rfl,rfl⟩
def PY (w:ZS) (d b:Nat) (mk:ZR->ZR) (e:ZP) (w':ZS):Prop:=e=Z3 (mk (sm (w.heap.size+1)))/\fG w' (w.heap.size+1) d b 11/\bW w w'
theorem Hn {A:aA} (h:aj w p A F) (G:A.fit) (d b:Nat) (D:d<A.n) (H:A.wait≠0) (s:A.lost d=ZU) :
 ZQ ZM 131 #[Z6 (ZV ⟨p,0,ZW⟩),Z7 Z9 d,Z7 Z9 b] w (PY w d b (λx=>ZY #[.agg (aw zb),x])):=by
 have J:=zeroBlk;have m:=h.alloc (Z4 (aw zb) 40);have a:=aS.new w zb;have g:bW w (w.alloc (Z4 (aw zb) 40)):=bA w _;obtain ⟨w1,o⟩:=nM (w.alloc (Z4 (aw zb) 40));have I:w1.heap.size=w.heap.size+1:=by rw [<- o];simp
 rw [o] at m a g;have y:=Hm m G d b D H s;have l:=au a g;clear h m a g;go_enter func131,ntmps131;go_wp2_with fail;refine y.mono ?_;rintro e w2 ⟨rfl,r⟩;obtain ⟨a,g⟩:=l.out;have f:fG w2 w1.heap.size d b 11:=by rw [r];exact fG.new _ _ _ _
 have c:bW w1 w2:=by rw [r];exact bA w1 _
 have i:aS w2 w.heap.size zb:=a.keep (c.block _ a.lt);obtain ⟨q,k⟩:=nM (w1.heap.size);rw [k] at f ⊢;unfold sm;have t:=a5 f c i k;clear a g f c i k r y o;go_wp2_with (refine eG rfl (Z0 6) (Z0 19) rfl w.heap.size zb zb rfl rfl t.out.2.2.1 bw bw ?_);obtain ⟨f,c,i,k⟩:=t.out;have B:=i.setRow zb;have C:=iW B bw;refine Uf (v:=ZY #[.agg (aw zb),.iface 92 (Z6 (ZV ⟨q,0,ZW⟩))]) (dK results131 _ _ _ _ _ rfl rfl C) rfl ?_;have E:=l.out.2.size;have u:∀ j,j≠w.heap.size->j<w2.heap.size->(w2.setRow w.heap.size (aw zb)).heap[j]?=w2.heap[j]?:=λj z s=>(aF w2 w.heap.size (aw zb)).block j s (λe=>by cases e;exact z rfl);obtain rfl:q=w.heap.size+1:=eb
 refine ⟨rfl,(u _ eb f.lt).trans f,?_⟩;exact (l.out.2.trans (c.mono E)).trans ⟨rfl,rfl,rfl,B2,λj z=>u j eb (eT c.size)⟩
def Ho (q:Nat) (m:Int) (w:ZS):(binOp .eql 42 (sm q) (.iface 54 (Z7 Z9 m))).run ZM w=.ok (Z1 ZT) w:=by
 have a:∀ d,(Op.equalIn (d+1) 42 (.iface 92 (Z6 (ZV ⟨q,0,ZW⟩))) (.iface 54 (Z7 Z9 m))).run ZM w=.ok ZT w:=λd=>by
  rw [Op.equalIn];simp [Uo,Uw underlying42,Uz]
 have b:=a 9999;unfold sm;simp only [binOp];simp [Op.equal,Op.maxDepth,b]
theorem Eo {n:Int} (h:fG w q d b n):ZQ ZM 238 #[Z6 (ZV ⟨q,0,ZW⟩)] w λe w'=>e=Z3 (.iface 54 (Z7 Z9 n))/\w'=w:=by
 have c:=h.cell;go_enter func238,ntmps238;go_wp2;go_ret;exact ⟨rfl,rfl⟩
theorem Hp {n:Int} (h:fG w q d b n) (m:Int):ZQ ZM 95 #[sm q,.iface 54 (Z7 Z9 m),Z1 ZU] w λe w'=>e=Z3 (Z1 (n==m))/\w'=w:=by
 have f:=Ho q m;have a:=wX n m;have b1:∀ w:ZS,(Instr.typeAssert (sm q) 42 240 ZU).run ZM w=.ok (ZY #[.nilIface,Z1 ZT]) w:=λw=>WS abi ei ei _ _ w;have b2:∀ w:ZS,(Instr.typeAssert (sm q) 42 156 ZU).run ZM w=.ok (ZY #[sm q,Z1 ZU]) w:=λw=>run_typeAssert_hasB abj ei _ _ w;have g:∀ w:ZS,(Instr.typeAssert (.iface 54 (Z7 Z9 n)) 42 240 ZU).run ZM w=.ok (ZY #[.nilIface,Z1 ZT]) w:=λw=>WS abi ei ei _ _ w;have i:∀ w:ZS,(Instr.typeAssert (.iface 54 (Z7 Z9 n)) 42 156 ZU).run ZM w=.ok (ZY #[.nilIface,Z1 ZT]) w:=λw=>WS abj ei ei _ _ w;have j:∀ w:ZS,(Instr.typeAssert (.iface 54 (Z7 Z9 n)) 42 157 ZU).run ZM w=.ok (ZY #[.nilIface,Z1 ZT]) w:=λw=>WS underlying157 ei ei _ _ w;have k:∀ w:ZS,(Go.method 463 92 (Z6 (ZV ⟨q,0,ZW⟩)) "Unwrap").run ZM w=.ok (238,Z6 (ZV ⟨q,0,ZW⟩)) w:=λw=>ei
 have c:=Eo h;unfold sm at f b1 b2 ⊢;clear h;cases h2:(n==m)
 . rw [h2] at a;go_enter func95,ntmps95;go_wp2;refine VL 2 ?_;rw [Vw];go_wp2_with fail;refine c.mono ?_;rintro e w' ⟨rfl,rfl⟩;go_wp2;rw [Vw];go_wp2;go_ret;exact ⟨rfl,rfl⟩
 . rw [h2] at a;go_enter func95,ntmps95;go_wp2;refine VL 2 ?_;rw [Vw];go_wp2_with fail;refine c.mono ?_;rintro e w' ⟨rfl,rfl⟩;go_wp2;rw [Vw];go_wp2;go_ret;exact ⟨rfl,rfl⟩
theorem BM {n:Int} (h:fG w q d b n) (m:Int):ZQ ZM 64 #[sm q,.iface 54 (Z7 Z9 m)] w λe w'=>e=Z3 (Z1 (n==m))/\w'=w:=by
 have ht:=Tryz.SP (Z7 Z9 m);have c := @run_callFunc_extern ZM 72 _ Extern.ReflectliteType.typeOf func72 ei ei ei ei;have g:∀ (h:ZR) (w:ZS),(Go.method 463 148 (.agg #[h]) "Comparable").run ZM w=.ok (245,.agg #[h]) w:=λh w=>ei
 have f:∀ w:ZS,(callFunc 245 #[.agg #[Z6 (ZV ⟨3,54,ZW⟩)]]).run ZM w=.ok (.value (Z1 ZU)) w:=λw=>ei
 have a:=Hp h m;unfold sm at a ⊢;clear h;generalize (n==m)=nm at a ⊢;go_enter func64,ntmps64;go_wp2_with fail;refine a.mono ?_;rintro e w' ⟨rfl,rfl⟩;go_wp2;go_ret;exact ⟨rfl,rfl⟩
theorem Ep {n:Int} (h:fG w q d b n) (c:n≠13):ZQ ZM 132 #[sm q] w λe w'=>e=Z3 (ZY #[])/\w'=w:=by
 have a:=BM h 13;rw [(vE c:(n==13)=ZT)] at a;unfold sm at a ⊢;clear h;go_enter func132,ntmps132;go_wp2_with fail;refine a.mono ?_;rintro e w' ⟨rfl,rfl⟩;go_wp2;first|go_end0|skip
 exact ⟨rfl,rfl⟩
theorem BN (h:bk w v p D L G ps ho) (d b:Nat) (r:bx) (o:oI r) (hv:aY w) (R:ZR->ZS->Prop)
 (g:∀ w1,bW w w1->ZQ ZM 9 #[Z6 (ZV ⟨p,0,ZW⟩),Z7 Z9 d,Z7 Z9 b,.agg (aw r.blk)] w1 λe w2=>∃ x,e=Z3 x/\R x w2)
 (m:∀ x w2,R x w2->ZQ ZM 132 #[x] w2 λe w'=>e=Z3 (ZY #[])/\w'=w2) :
 ZQ ZM 130 #[Z6 (ZV ⟨v,0,ZW⟩),Z7 Z9 d,Z7 Z9 b,bm r] w λe w'=>∃ x,e=Z3 x/\R x w':=by
 obtain ⟨i,_⟩:=h.cells;obtain ⟨rv,l⟩:=nM (bm r);have c:=o w.drew (hv.below ((TX _ w).drew) hv.lt);simp only [l] at c ⊢;obtain ⟨y,k⟩:=nM (aw r.blk);simp only [k] at c g;have j:∀ w',bW w w'->w'.cell? ⟨v,0,ZW⟩=ZV (Z6 (ZV ⟨p,0,ZW⟩)):=λw' s=>(s.cell (p:=⟨v,0,ZW⟩) h.lt).trans i;have H:=aE g m j;clear g m h l k o hv j;go_enter func130,ntmps130;go_upto_region 1 with fail;go_cut [9] from 10 to 21 (λt u=>R t u)
 case first=>
  go_region_with (first
   | (go_at_call 158;refine c.mono ?_;rintro e w1 ⟨rfl,f⟩;have c1:=H.out.2.2 w1 (((TX _ w).drew).trans f);have q:=al (((TX _ w).drew).trans f);clear f)
   | (go_at_call 9;refine (H.out.1 w1 q.out).mono ?_;rintro e w2 ⟨x,rfl,n⟩;have a:=al n;clear n))
  all_goals (go_wp2_with fail;go_meet;case rel=>exact a.out)
 case rest=>
  have a:=al hcut;clear hcut c i;go_wp2_with fail;refine (H.out.2.1 _ _ a.out).mono ?_;rintro e w' ⟨rfl,rfl⟩;go_wp2;go_ret;exact ⟨_,rfl,a.out⟩
def rz {A:aA} (i:bk w v p D L G ps ho) (h:aj w p A F) (l:A.fit) (d b:Nat) (k:d<A.n) (j:b<A.nb) (q:A.wait<0) (m:A.lost d=ZT)
 (r:bx) (g:r.ok) (o:oI r) (hv:aY w) (_hg:¬ F.has p A.n 2) (_hnv:¬ F.has p A.n v) :
 ZQ ZM 130 #[Z6 (ZV ⟨v,0,ZW⟩),Z7 Z9 d,Z7 Z9 b,bm r] w λe w'=>e=Z3 .nilIface/\aj w' p ((A.RX d b r.blk).RU d b ZT) F/\aa (F.has p A.n) w w':=by
 refine (BN i d b r o hv (λx w2=>x=.nilIface/\aj w2 p ((A.RX d b r.blk).RU d b ZT) F/\aa (F.has p A.n) w w2) (λw1 f=>(AK (h.below f lR) l d b k j q m r.blk (dJ g) (fO g)).mono ?_) ?_).mono ?_
 . rintro e w2 ⟨rfl,a,c⟩;exact ⟨_,rfl,rfl,a,(aa.RO f _).trans c⟩
 . rintro x w2 ⟨rfl,_⟩;exact Kb w2
 . rintro e w' ⟨x,rfl,rfl,a,c⟩;exact ⟨rfl,a,c⟩
section
attribute [local go_sem] Oper.semAt_some
def ln (A:aA) (ds:a9):Nat:=ds.foldl (λs d=>if A.lost d=ZU then s|||2^d else s) 0
def FB (A:aA) (ds:a9) (d:Nat) (h:A.lost d=ZT):ln A (ds++[d])=ln A ds:=by unfold ln;rw [V3];simp [h]
theorem aaw (A:aA) (ds:a9) (h:∀ d∈ds,d<16):ln A ds<65536:=by
 unfold ln;suffices ∀ (l:a9) (s:Nat),(∀ d∈l,d<16)->s<65536->l.foldl (λs d=>if A.lost d=ZU then s|||2^d else s) s<65536 from this ds 0 h ec
 intro l;induction l with
 | nil=>intro s _ a;exact a
 | cons d l ih=>
  intro s b a;refine ih _ (λx c=>b x ZB) ?_;show (if A.lost d=ZU then s|||2^d else s)<65536;split
  . exact V0 (n:=16) a (VC ec (b d ek))
  . exact a
def xL {A:aA} {ds:a9} (h:∀ d∈ds,A.lost d=ZT):ln A ds=0:=by
 unfold ln;suffices ∀ (l:a9),(∀ d∈l,A.lost d=ZT)->l.foldl (λs d=>if A.lost d=ZU then s|||2^d else s) 0=0 from this ds h
 intro l;induction l with
 | nil=>intro _;rfl
 | cons d l ih=>
  intro a;rw [Wf,a d ek];exact ih (λx b=>a x abQ)
structure WcL (w:ZS) (v p b:Nat) (r:bx) (A:aA) (F:aR) (B S:Nat) (pre:List (Mb S)) (X:ZS):Prop where
 b0:ZN X w.heap.size 106 (Z6 (ZV ⟨v,0,ZW⟩))
 b1:ZN X (w.heap.size+1) 3 (Z7 Z9 b)
 b2:ZN X (w.heap.size+1+1) 195 (bm r)
 b3:ZN X (w.heap.size+1+1+1) 131 (Z7 Z8 (ln A (ep pre):Nat))
 arr:aj X p (A.putAt (ep pre) b (λ_=>r.blk)) F
 out:aa (F.has p A.n) w X
 size:B<=X.heap.size
def WcL.own {r:bx} {A:aA} {S:Nat} (u:w.heap.size+4<=B) (s:∀ k,F.has p A.n k->k<w.heap.size):OwnFrom B (WcL w v p b r A F B S):=by
 rintro pre X Y row ⟨d,f,g,h,i,j,l⟩ c t;have a:∀ k,k<w.heap.size+4->Y.heap[k]?=X.heap[k]?:=λk a=>c.block k eb (λe=>eT ((t k e.symm).1));exact ⟨(a _ eb).trans d,(a _ eb).trans f,(a _ eb).trans g,(a _ eb).trans h,i.keep λk m=>a k (eT (s k m)),j.later (T:=λk=>w.heap.size<=k) ⟨c.os,c.tape,c.output,c.size,λk o q=>a k eb⟩ (λk o q=>eb),TU l c.size⟩
theorem eL {A:aA} (d:rp w v p D L G ps ho A F) (C:m8 F p A.n v) (hf:A.fit) (b S:Nat) (hb:b<A.nb) (hS:S<65536) (kb:∀ i,i∈ae S->i<A.n) (hw:A.wait<0) (hh:∀ i,A.lost i=ZT)
 (r:bx) (Q:r.ok) (hm:oI r) :
 ZQ ZM 98 #[Z6 (ZV ⟨v,0,ZW⟩),Z7 Z9 b,bm r,Z7 Z8 S] w λe w'=>e=Z3 (Z7 Z8 (ln A (ae S):Nat))/\aj w' p (A.putAt (ae S) b (λ_=>r.blk)) F/\aa (F.has p A.n) w w':=by
 obtain ⟨n,HN⟩:∃ n:Nat,Hid (9<=n):=⟨9,TV _⟩;obtain ⟨rv,K⟩:=nM (bm r);have km:∃ y u,rv=.iface y u:=by cases r<;>exact ⟨_,_,K.symm⟩
 obtain ⟨y,u,rfl⟩:=km;rw [K];have M:=al K;clear K;have P:∀ k,F.has p A.n k->k<w.heap.size:=λk z=>d.arr.RQ z;have ke:=dJ Q;have kf:=fO Q;refine (U6 (n:=n)).1 ?_;refine VS func98 rfl trivial ?_ rfl;simp only [ntmps98,Uy,Um,UQ,YE,YF,UX,UY,UZ,U0,Uk,UH];gi_wp2;obtain ⟨c,j⟩:=nM ((((w.alloc (Z4 #[Z6 (ZV ⟨v,0,ZW⟩)] 106)).alloc (Z4 #[Z7 Z9 (b:Int)] 3)).alloc (Z4 #[.iface y u] 195)).alloc (Z4 #[Z7 Z8 0] 131));have U:ZN c w.heap.size 106 (Z6 (ZV ⟨v,0,ZW⟩)):=by rw [<- j];exact (((Uj w _ _).alloc _).alloc _).alloc _
 have V:ZN c (w.heap.size+1) 3 (Z7 Z9 b):=by
  rw [<- j];have:=Uj (w.alloc (Z4 #[Z6 (ZV ⟨v,0,ZW⟩)] 106)) 3 (Z7 Z9 b);rw [Ua] at this;exact (this.alloc _).alloc _
 have W:ZN c (w.heap.size+1+1) 195 (bm r):=by
  rw [<- j,M.out];have:=Uj ((w.alloc (Z4 #[Z6 (ZV ⟨v,0,ZW⟩)] 106)).alloc (Z4 #[Z7 Z9 (b:Int)] 3)) 195 (.iface y u);rw [Ua,Ua] at this;exact this.alloc _
 have Y:ZN c (w.heap.size+1+1+1) 131 (Z7 Z8 0):=by
  rw [<- j];have:=Uj (((w.alloc (Z4 #[Z6 (ZV ⟨v,0,ZW⟩)] 106)).alloc (Z4 #[Z7 Z9 (b:Int)] 3)).alloc (Z4 #[.iface y u] 195)) 131 (Z7 Z8 0);rw [Ua,Ua,Ua] at this;exact this
 have R:c.heap.size=w.heap.size+4:=by rw [<- j];simp
 have hz:bW w c:=by rw [<- j];exact (((bA w _).alloc ek _).alloc en _).alloc en _
 rw [j];clear j;refine bX (dj S c) ?_;rintro e w' ⟨rfl,rfl⟩;have k7:(c.alloc (Z4 #[Z7 Z8 (S:Int)] 131)).heap.size=c.heap.size+1:=ek
 have k0:(c.alloc (Z4 #[Z7 Z8 (S:Int)] 131)).cell? ⟨c.heap.size,0,ZW⟩=ZV (Z7 Z8 (S:Int)):=(Uj c 131 (Z7 Z8 (S:Int))).cell;have J:bW w (c.alloc (Z4 #[Z7 Z8 (S:Int)] 131)):=hz.alloc eb _;have k5:WcL w v p b r A F (c.heap.size+1) S [] (c.alloc (Z4 #[Z7 Z8 (S:Int)] 131)):=
  ⟨U.alloc _,V.alloc _,W.alloc _,Y.alloc _,by rw [show ep ([]:List (Mb S))=[] from rfl,wZ];exact d.arr.below J lR,aa.RO J _,eb⟩
 obtain ⟨w6,k6⟩:=nM (c.alloc (Z4 #[Z7 Z8 (S:Int)] 131));have hy:=al k0;have E:=au k5 J;have k8:=al R;clear k0 k5 U V W Y hz J R;gi_wp2;obtain ⟨R,kr⟩:w.heap.size+4<=c.heap.size/\c.heap.size<=w.heap.size+4:=eT k8.out
 rw [k6] at k7 hy E;clear k6;rw [<- k7] at E;refine VT rfl (eT HN.out) (gf:=156) (lb:=#[Z6 (ZV ⟨c.heap.size,0,ZW⟩)]) rfl trivial (UR func156 ei rfl)
  (nK (n-1) c.heap.size S hS w6 eb hy.out (eT d.room) (d.RZ.mono (by exact d.RZ.lt) E.out.2)) (λh k=>qX h k) (qY (eT d.room)) (TX _ _) (λ_=>rfl)
  (WcL w v p b r A F w6.heap.size S) (λ_ _ _=>False) (WcL.own eb P) (λ_ _ _ _ _ h _ _=>h.elim) E.out.1
  (λx=>{ tmps:=#[Z6 (ZV ⟨v,0,ZW⟩),Z7 Z9 (b:Int),.iface y u,Z7 Z8 (S:Int),Z6 (ZV ⟨w.heap.size,0,ZW⟩),Z6 (ZV ⟨w.heap.size+1,0,ZW⟩),Z6 (ZV ⟨w.heap.size+1+1,0,ZW⟩),ZX,Z6 (ZV ⟨w.heap.size+1+1+1,0,ZW⟩),Z7 Z9 (x.1:Int),Z7 Z8 (S:Int),.func (.func 156) #[] #[Z6 (ZV ⟨c.heap.size,0,ZW⟩)],Z7 Z9 (x.1:Int),ZX,ZX,ZX,ZX,ZX,ZX,ZX,ZX,ZX,ZX],defers:=[] }) ?assign ?body ?done ?stop
 case assign=>
  intro l2 x X Kk hK;unfold wY;gi_wp2;exact hK
 case body=>
  rintro l2 pre x X a hq;have ko:x.1∈ae S:=bS.2 x.2;have I:=d.turn C a.out a.arr;have kg:(A.putAt (ep pre) b (λ_=>r.blk)).fit:=hf.putAt _ _ _ λ_ _=>⟨ke,kf⟩;cases m:A.lost x.1 with
  | false=>
   have O:=rz I.vol I.arr kg x.1 b (kb _ ko) hb hw m r Q hm I.laid C.g C.v;rw [tq,M.out] at O;have c0:=a.b0.cell;have c1:=a.b1.cell;have c2:=a.b2.cell;rw [M.out] at c2;have B:=au a m;clear a hq I m;gi_wp2;refine dS O ?_;clear O;rintro e w2 ⟨rfl,H,l⟩;have f:∀ k,w.heap.size<=k->k<X.heap.size->w2.heap[k]?=X.heap[k]?:=λk z ki=>l.block k ki (λq=>eT (P k q));have N:=B.out.1.b3.lt;have H2:=aE H l f;clear H l f;gi_wp2;obtain ⟨H,l,f⟩:=H2.out;obtain ⟨a,m⟩:=B.out;have Z:aa (F.has p A.n) w w2:=a.out.trans l;refine ⟨⟨l.size,λk o z ho _=>(f k eb (TW.1 ho).1).trans ho⟩,λ_=>d.RZ.keep (Z.block _ d.RZ.lt C.t),?_⟩;exact ⟨(f _ eb eb).trans a.b0,(f _ eb eb).trans a.b1,(f _ eb eb).trans a.b2,by rw [cK,FB _ _ _ m];exact (f _ eb eb).trans a.b3,by rw [cK];exact H,Z,TU a.size l.size⟩
  | true=>rw [hh] at m;cases m
 case done=>
  rintro D' xs X k9 kp a hK;have c3:=a.b3.cell;have f3:=a.b3.frozen;have B:=au a hK;clear a hK;gi_wp2;obtain ⟨a,hK⟩:=B.out;have ha:ep xs=ae S:=kp;have kc:=a.b3.set (Z7 Z8 (ln A (ep xs):Nat));have kj:=Vz X ⟨w.heap.size+1+1+1,0,ZW⟩ (Z7 Z8 (ln A (ep xs):Nat));have ka:=kj.same D' _ hK rfl;refine Ba (b:=w.heap.size+1+1+1) (t8:=8) results98 rfl rfl (ts (s:=ln A (ep xs)) kc) ka eb ⟨by rw [ha],?_,?_⟩
  . have N:=a.arr;rw [ha] at N;exact N.keep λk z=>by have:=P k z;exact (UE eb).trans (T7 _ _ _ _ Y8)
  . exact a.out.later (T:=λk=>w.heap.size<=k) ⟨rfl,rfl,rfl,by simp [World.setCell,World.putObj],λk _ kh=>(UE eb).trans (T7 _ _ _ _ Y8)⟩ (λk ks kh=>eb)
 case stop=>
  rintro D' cc pre X k9 kk hx hK;exact hx.elim
end
section
attribute [local go_sem] Oper.semAt_some
def aaa (v g m c bl off rc x b:Nat) (l:a9) (bv:Bool):List ZR:=[Z6 (ZV ⟨v,0,ZW⟩),Z7 Z9 x,Z7 Z9 b,Z5 (ZV ⟨g,0,ZW⟩) m c,Z7 Z9 x,Z6 (ZV ⟨g,x,ZW⟩),Z5 (ZV ⟨bl,off,ZW⟩) 44 rc,Z6 (ZV ⟨bl,off,ZW⟩),.agg (aJ l).toArray,.agg (aJ l).toArray,bm (.shard l),.nilIface,Z1 bv]
def zN (A A2:aA) (D:Nat->Bool):aA:=if D 11=ZU then A2 else A
def PZ (X:ZR->Prop) (vs:List ZR) (i:Nat) (u:ZR) (_:ZS):Prop:=if i=11 then X u else u=vs.getD i ZX
def gQ (h:i≠11) (q:PZ X vs i u w):u=vs.getD i ZX:=by unfold PZ at q;rwa [if_neg h] at q
def gS (h:i≠11) (q:u=vs.getD i ZX):PZ X vs i u w:=by unfold PZ;rwa [if_neg h]
def BWl (w0:ZS) (p:Nat) (A A2:aA) (F:aR) (Dn:Nat->Bool) (w:ZS):Prop:=aj w p (zN A A2 Dn) F/\aa (F.has p A.n) w0 w
def eM {A A2:aA} (h:BWl w0 p A A2 F Dn w) (i:Nat) (a:i≠11):BWl w0 p A A2 F (du Dn i) w:=by
 refine ⟨?_,h.2⟩;have e:zN A A2 (du Dn i)=zN A A2 Dn:=by unfold zN du;rw [if_neg (λe:11=i=>a e.symm)]
 rw [e];exact h.1
theorem nf {l:Nat} {A:aA} (hc:RWs=ops) (hV:rp w v p D L G ps ho A F) (hF:m8 F p A.n v) (_:A.fit) (x b:Nat) {A2:aA} (X:ZR->Prop) (bv:Bool) (hX:∀ (o:Oper) (r:Act) (w':ZS),o.op=Op.binOp BinOp.neq 42 (Z0 24) (Operand.const Value.nilIface) 42->X (r.eval (Z0 24))->(execOp r.eval o).run ZM w'=.ok (.value (Z1 bv)) w')
 {q4 N O g m c:Nat} (h4:ZN w q4 106 (Z6 (ZV ⟨v,0,ZW⟩))) (h5:ZN w N 3 (Z7 Z9 b)) (h6:ZN w O 176 (Z5 (ZV ⟨g,0,ZW⟩) m c)) {base:Nat} {R:List a9} (hR:Kf w base g R) (hq:x<R.length) (hm:R.length<=m)
 (K:∀ k,F.has p A.n k->k<base/\k≠q4/\k≠N/\k≠O) (ki:a.tmps.size=30) (V:∀ w',aj w' p A F->rp w' v p D L G ps ho A F->ZQ ZM 130 #[Z6 (ZV ⟨v,0,ZW⟩),Z7 Z9 x,Z7 Z9 b,bm (.shard (R.getD x []))] w' λe J=>∃ u,e=Z3 u/\X u/\aj J p A2 F/\aa (F.has p A.n) w' J)
 (e4:a.eval (Z0 4)=Z6 (ZV ⟨q4,0,ZW⟩)) (e5:a.eval (Z0 5)=Z6 (ZV ⟨N,0,ZW⟩)) (e6:a.eval (Z0 6)=Z6 (ZV ⟨O,0,ZW⟩)) (Z:a.eval (Z0 9)=Z7 Z9 x)
 (hQ:∀ (w':ZS) (vs:List ZR),vs.length=12->aj w' p A2 F->aa (F.has p A.n) w w'->Q .normal (Act.RL a 13 (vs++[Z1 bv])) w') :
 (Code.region 3 ops ZU).wpIn (Fence.wide.inRound l) n ZM Q a w:=by
 subst hc;obtain ⟨kc,ke,h8⟩:=hR;obtain ⟨bl,off,S,k8,k9,ka,hh,U,kb⟩:=h8 x hq;have k0:R.getD x []=R[x]:=by simp [hq]
 rw [k0] at V;obtain ⟨s,hs⟩:=nM (R[x]);rw [hs] at hh U kb V;have hj:∀ k,base<=k->¬ F.has p A.n k:=λk C q=>eT ((K k q).1)
 have hp:(aJ s).toArray.size=44:=by rw [Uy,aW,U]
 refine bu ei GP a w eb (PZ X (aaa v g m c bl off S x b s bv)) (BWl w p A A2 F) ⟨hV.arr.keep λ_ _=>rfl,aa.drew w⟩ ?_ ?_
 . intro i W;match i,W with
   | 0,_=>
    intro o r w' Dn I ho y C E H B d t;have u0:r.eval (Z0 4)=Z6 (ZV ⟨q4,0,ZW⟩):=(C.slot 4 eb).trans e4;have T:=(show ZN w' q4 106 (Z6 (ZV ⟨v,0,ZW⟩)) from (d.2.block _ h4.lt (λq=>(K _ q).2.1 rfl)).trans h4).cell;exact ak (v:=Z6 (ZV ⟨v,0,ZW⟩)) ee ej y ⟨eM d _ ec,gS ec rfl,kq⟩
   | 1,_=>exact λo r w' Dn I ho y C E H B d t=>ak (ah ho ((C.slot 9 eb).trans Z) w') ej y ⟨eM d _ ec,gS ec rfl,kq⟩
   | 2,_=>
    intro o r w' Dn I ho y C E H B d t;have u0:r.eval (Z0 5)=Z6 (ZV ⟨N,0,ZW⟩):=(C.slot 5 eb).trans e5;have T:=(show ZN w' N 3 (Z7 Z9 b) from (d.2.block _ h5.lt (λq=>(K _ q).2.2.1 rfl)).trans h5).cell;exact ak (v:=Z7 Z9 b) ee ej y ⟨eM d _ ec,gS ec rfl,kq⟩
   | 3,_=>
    intro o r w' Dn I ho y C E H B d t;have u0:r.eval (Z0 6)=Z6 (ZV ⟨O,0,ZW⟩):=(C.slot 6 eb).trans e6;have T:=(show ZN w' O 176 (Z5 (ZV ⟨g,0,ZW⟩) m c) from (d.2.block _ h6.lt (λq=>(K _ q).2.2.2 rfl)).trans h6).cell;exact ak (v:=Z5 (ZV ⟨g,0,ZW⟩) m c) ee ej y ⟨eM d _ ec,gS ec rfl,kq⟩
   | 4,_=>exact λo r w' Dn I ho y C E H B d t=>ak (ah ho ((C.slot 9 eb).trans Z) w') ej y ⟨eM d _ ec,gS ec rfl,kq⟩
   | 5,_=>
    intro o r w' Dn I ho y C E H B d t;have u0:r.eval (Z0 16)=Z5 (ZV ⟨g,0,ZW⟩) m c:=gQ ec (t 3 (B 3 ec));have u1:r.eval (Z0 17)=Z7 Z9 x:=gQ ec (t 4 (B 4 ec));have kj:x<m:=eb;exact ak (v:=Z6 (ZV ⟨g,x,ZW⟩)) ua ej y ⟨eM d _ ec,gS ec rfl,kq⟩
   | 6,_=>
    intro o r w' Dn I ho y C E H B d t;have u0:r.eval (Z0 18)=Z6 (ZV ⟨g,x,ZW⟩):=gQ ec (t 5 (B 5 ec));have T:w'.cell? ⟨g,x,ZW⟩=ZV (Z5 (ZV ⟨bl,off,ZW⟩) 44 S):=(Uh (d.2.block g ke (hj g kc))).trans k8;exact ak (v:=Z5 (ZV ⟨bl,off,ZW⟩) 44 S) ee ej y ⟨eM d _ ec,gS ec rfl,kq⟩
   | 7,_=>
    intro o r w' Dn I ho y C E H B d t;have u0:r.eval (Z0 19)=Z5 (ZV ⟨bl,off,ZW⟩) 44 S:=gQ ec (t 6 (B 6 ec));have k6:(Instr.arrayAt 231 (Z5 (ZV ⟨bl,off,ZW⟩) 44 S)).run ZM w'=.ok (Z6 (ZV ⟨bl,off,ZW⟩)) w':=(by simp [Instr.arrayAt,Uw Yd]);exact ak (v:=Z6 (ZV ⟨bl,off,ZW⟩)) (by (conv at ho=>rhs;whnf);simp [execOp,ho,u0,k6]) ej y ⟨eM d _ ec,gS ec rfl,kq⟩
   | 8,_=>
    intro o r w' Dn I ho y C E H B d t;have u0:r.eval (Z0 20)=Z6 (ZV ⟨bl,off,ZW⟩):=gQ ec (t 7 (B 7 ec));have hr:w'.rangeAt bl off (aJ s):=λj u Y=>(Uh (d.2.block bl ka (hj bl k9))).trans (hh j u Y);have kg:=run_loadAt_mid (P:=ZM) w' bl off 231 (aJ s) _ hr Yd rfl (by rw [aW,U];kernel_rfl);exact ak (v:=.agg (aJ s).toArray) (by (conv at ho=>rhs;whnf);simp [execOp,ho,u0,kg]) ej y ⟨eM d _ ec,gS ec rfl,kq⟩
   | 9,_=>
    intro o r w' Dn I ho y C E H B d t;have u0:r.eval (Z0 21)=.agg (aJ s).toArray:=gQ ec (t 8 (B 8 ec));have k7:∀ z:Array ZR,z.size=44->Array.foldl (λcs x=>cs.setIfInBounds x.snd x.fst) z (aJ s).toArray.zipIdx 0 44=(aJ s).toArray:=λz hz=>wV z _ 44 hz hp;obtain ⟨sa,he⟩:=nM ((aJ s).toArray);refine ak (v:=.agg (aJ s).toArray) ?_ ej y ⟨eM d _ ec,gS ec rfl,kq⟩;rw [he] at u0 k7 hp ⊢;(conv at ho=>rhs;whnf);simp only [execOp,ho,Vy,UD,U5,u0];go_simp
   | 10,_=>
    intro o r w' Dn I ho y C E H B d t;have u0:r.eval (Z0 22)=.agg (aJ s).toArray:=gQ ec (t 9 (B 9 ec));exact ak (v:=bm (.shard s)) Pl ej y ⟨eM d _ ec,gS ec rfl,kq⟩
   | 11,_=>
    intro o r w' Dn kh ho y C E H B d t;have u0:r.eval (Z0 13)=Z6 (ZV ⟨v,0,ZW⟩):=gQ ec (t 0 (B 0 ec));have u1:r.eval (Z0 14)=Z7 Z9 x:=gQ ec (t 1 (B 1 ec));have u2:r.eval (Z0 15)=Z7 Z9 b:=gQ ec (t 2 (B 2 ec));have u3:r.eval (Z0 23)=bm (.shard s):=gQ ec (t 10 (B 10 ec));have M:aj w' p A F:=(by have:=d.1;unfold zN at this;rw [if_neg (by rw [E];decide)] at this;exact this);have k5:=hV.turn hF d.2 M;refine gz (f:=130) (args:=#[Z6 (ZV ⟨v,0,ZW⟩),Z7 Z9 x,Z7 Z9 b,bm (.shard s)]) (w1:=w') (by (conv at ho=>rhs;whnf);simp only [execOp,ho];go_simp;exact ⟨B3,A1,YY,abL⟩) ej y (V w' M k5) ?_;rintro e J ⟨u,rfl,Y,hx,hy⟩;refine ⟨_,rfl,⟨?_,d.2.trans hy⟩,by unfold PZ;rw [if_pos rfl];exact Y,kq⟩;have e:zN A A2 (du Dn 11)=A2:=(by unfold zN du;rw [if_pos (by rw [if_pos rfl])]);rw [e];exact hx
   | 12,_=>
    intro o r w' Dn I ho y C E H B d t;have u0:X (r.eval (Z0 24)):=(by have:=t 11 (B 11 ec);unfold PZ at this;rwa [if_pos rfl] at this);exact ak (hX o r w' ho u0) ej y ⟨eM d _ ec,gS ec rfl,kq⟩
   | n+13,K=>exact absurd K abW
 . rintro r w' kf _ ⟨Dn,hD,d⟩ t;have e:zN A A2 Dn=A2:=(by unfold zN;rw [if_pos (hD 11 ec)]);have M:=d.1;rw [e] at M;have e:r=Act.RL a 13 (((YC 12).map λi=>r.eval (.tmp (13+i)))++[Z1 bv]):=kf.out _ ek eb (λi W=>by
    simp at W;by_cases ha:i=12
    . subst ha;have:=gQ ec (t 12 ec);simpa [dy,bT,Rp,aaa] using this
    . rw [T6,U7 en,Ul,Ve eb];rfl)
   rw [e];exact hQ w' _ Y5 M d.2
structure WsL (w:ZS) (v p b g m c:Nat) (R:List a9) (A:aA) (F:aR) (B S:Nat) (pre:List (Mb S)) (X:ZS):Prop where
 b0:ZN X w.heap.size 106 (Z6 (ZV ⟨v,0,ZW⟩))
 b1:ZN X (w.heap.size+1) 3 (Z7 Z9 b)
 b2:ZN X (w.heap.size+1+1) 176 (Z5 (ZV ⟨g,0,ZW⟩) m c)
 b3:ZN X (w.heap.size+1+1+1) 131 (Z7 Z8 (ln A (ep pre):Nat))
 arr:aj X p (A.putAt (ep pre) b (λi=>(bx.shard (R.getD i [])).blk)) F
 out:aa (F.has p A.n) w X
 size:B<=X.heap.size
def WsL.own {R:List a9} {A:aA} {S:Nat} (z:w.heap.size+4<=B) (u:∀ k,F.has p A.n k->k<w.heap.size):OwnFrom B (WsL w v p b g m c R A F B S):=by
 rintro pre X Y row ⟨f,h,i,j,l,o,q⟩ d y;have a:∀ k,k<w.heap.size+4->Y.heap[k]?=X.heap[k]?:=λk a=>d.block k eb (λe=>eT ((y k e.symm).1));have x:aa (F.has p A.n) w Y:=o.later (T:=λk=>w.heap.size<=k) ⟨d.os,d.tape,d.output,d.size,λk s t=>a k eb⟩ (λk s t=>eb);exact ⟨(a _ eb).trans f,(a _ eb).trans h,(a _ eb).trans i,(a _ eb).trans j,l.keep λk r=>a k (eT (u k r)),x,TU q d.size⟩
theorem ld {A:aA} (j:rp w v p D L G ps ho A F) (E:m8 F p A.n v) (hf:A.fit) (b S:Nat) (hb:b<A.nb) (hS:S<65536) (km:∀ i,i∈ae S->i<A.n) (hw:A.wait<0) (hh:∀ i,A.lost i=ZT)
 {g m c base:Nat} {R:List a9} (hR:Kf w base g R) (k5:∀ i,i∈ae S->i<R.length) (hm:R.length<=m) (h7:∀ k,F.has p A.n k->k<base) :
 ZQ ZM 91 #[Z6 (ZV ⟨v,0,ZW⟩),Z7 Z9 b,Z5 (ZV ⟨g,0,ZW⟩) m c,Z7 Z8 S] w λe w'=>e=Z3 (Z7 Z8 (ln A (ae S):Nat))/\aj w' p (A.putAt (ae S) b (λi=>(bx.shard (R.getD i [])).blk)) F/\aa (F.has p A.n) w w':=by
 obtain ⟨n,HN⟩:∃ n:Nat,Hid (9<=n):=⟨9,TV _⟩;have N:∀ k,F.has p A.n k->k<w.heap.size:=λk C=>j.arr.RQ C;have K:∀ i,i∈ae S->(bx.shard (R.getD i [])).ok:=λi a=>by
  have kc:=k5 i a;obtain ⟨_,_,_,_,_,_,_,q1,q2⟩:=hR.2.2 i kc;have e:R.getD i []=R[i]:=by simp [kc]
  rw [e];exact ⟨q1,q2⟩
 refine (U6 (n:=n)).1 ?_;refine VS func91 rfl trivial ?_ rfl;simp only [ntmps91,Uy,Um,UQ,YE,YF,UX,UY,UZ,U0,Uk,UH];gi_wp2;obtain ⟨d,r⟩:=nM ((((w.alloc (Z4 #[Z6 (ZV ⟨v,0,ZW⟩)] 106)).alloc (Z4 #[Z7 Z9 (b:Int)] 3)).alloc (Z4 #[Z5 (ZV ⟨g,0,ZW⟩) m c] 176)).alloc (Z4 #[Z7 Z8 0] 131));have Y:ZN d w.heap.size 106 (Z6 (ZV ⟨v,0,ZW⟩)):=by rw [<- r];exact (((Uj w _ _).alloc _).alloc _).alloc _
 have Q:ZN d (w.heap.size+1) 3 (Z7 Z9 b):=by
  rw [<- r];have:=Uj (w.alloc (Z4 #[Z6 (ZV ⟨v,0,ZW⟩)] 106)) 3 (Z7 Z9 b);rw [Ua] at this;exact (this.alloc _).alloc _
 have Z:ZN d (w.heap.size+1+1) 176 (Z5 (ZV ⟨g,0,ZW⟩) m c):=by
  rw [<- r];have:=Uj ((w.alloc (Z4 #[Z6 (ZV ⟨v,0,ZW⟩)] 106)).alloc (Z4 #[Z7 Z9 (b:Int)] 3)) 176 (Z5 (ZV ⟨g,0,ZW⟩) m c);rw [Ua,Ua] at this;exact this.alloc _
 have h3:ZN d (w.heap.size+1+1+1) 131 (Z7 Z8 0):=by
  rw [<- r];have:=Uj (((w.alloc (Z4 #[Z6 (ZV ⟨v,0,ZW⟩)] 106)).alloc (Z4 #[Z7 Z9 (b:Int)] 3)).alloc (Z4 #[Z5 (ZV ⟨g,0,ZW⟩) m c] 176)) 131 (Z7 Z8 0);rw [Ua,Ua,Ua] at this;exact this
 have W:d.heap.size=w.heap.size+4:=by rw [<- r];simp
 have k8:bW w d:=by rw [<- r];exact (((bA w _).alloc ek _).alloc en _).alloc en _
 rw [r];clear r;refine bX (dj S d) ?_;rintro e w' ⟨rfl,rfl⟩;have kg:(d.alloc (Z4 #[Z7 Z8 (S:Int)] 131)).heap.size=d.heap.size+1:=ek
 have k9:(d.alloc (Z4 #[Z7 Z8 (S:Int)] 131)).cell? ⟨d.heap.size,0,ZW⟩=ZV (Z7 Z8 (S:Int)):=(Uj d 131 (Z7 Z8 (S:Int))).cell;have O:bW w (d.alloc (Z4 #[Z7 Z8 (S:Int)] 131)):=k8.alloc eb _;have kb:WsL w v p b g m c R A F (d.heap.size+1) S [] (d.alloc (Z4 #[Z7 Z8 (S:Int)] 131)):=
  ⟨Y.alloc _,Q.alloc _,Z.alloc _,h3.alloc _,by rw [show ep ([]:List (Mb S))=[] from rfl,wZ];exact j.arr.below O lR,aa.RO O _,eb⟩
 obtain ⟨w6,kf⟩:=nM (d.alloc (Z4 #[Z7 Z8 (S:Int)] 131));have k0:=al k9;have M:=au kb O;have kh:=al W;clear k9 kb Y Q Z h3 k8 O W;gi_wp2;obtain ⟨W,kz⟩:w.heap.size+4<=d.heap.size/\d.heap.size<=w.heap.size+4:=eT kh.out
 rw [kf] at kg k0 M;clear kf;rw [<- kg] at M;refine VT rfl (eT HN.out) (gf:=156) (lb:=#[Z6 (ZV ⟨d.heap.size,0,ZW⟩)]) rfl trivial (UR func156 ei rfl)
  (nK (n-1) d.heap.size S hS w6 eb k0.out (eT j.room) (j.RZ.mono (by exact j.RZ.lt) M.out.2)) (λh k=>qX h k) (qY (eT j.room)) (TX _ _) (λ_=>rfl)
  (WsL w v p b g m c R A F w6.heap.size S) (λ_ _ _=>False) (WsL.own eb N) (λ_ _ _ _ _ h _ _=>h.elim) M.out.1
  (λx=>{ tmps:=#[Z6 (ZV ⟨v,0,ZW⟩),Z7 Z9 (b:Int),Z5 (ZV ⟨g,0,ZW⟩) m c,Z7 Z8 (S:Int),Z6 (ZV ⟨w.heap.size,0,ZW⟩),Z6 (ZV ⟨w.heap.size+1,0,ZW⟩),Z6 (ZV ⟨w.heap.size+1+1,0,ZW⟩),ZX,Z6 (ZV ⟨w.heap.size+1+1+1,0,ZW⟩),Z7 Z9 (x.1:Int),Z7 Z8 (S:Int),.func (.func 156) #[] #[Z6 (ZV ⟨d.heap.size,0,ZW⟩)],Z7 Z9 (x.1:Int),ZX,ZX,ZX,ZX,ZX,ZX,ZX,ZX,ZX,ZX,ZX,ZX,ZX,ZX,ZX,ZX,ZX],defers:=[] }) ?assign ?body ?done ?stop
 case assign=>
  intro l2 x X Kk hK;unfold wY;gi_wp2;exact hK
 case body=>
  rintro l2 pre x X a hy;have P:x.1∈ae S:=bS.2 x.2;have I:=j.turn E a.out a.arr;have H:Kf X base g R:=hR.keep a.out.size (λk C kv=>a.out.block k kv (λq=>eT (h7 k q)));have U:=a.b3.lt;have J:=aE a I H;clear hy a I H;gi_wp2;obtain ⟨a,I,H⟩:=J.out;have V:(A.putAt (ep pre) b (λi=>(bx.shard (R.getD i [])).blk)).fit:=hf.putAt _ _ _ λi ka=>by
   unfold ep at ka;obtain ⟨y,_,rfl⟩:=T1.1 ka;exact ⟨dJ (K _ (bS.2 y.2)),fO (K _ (bS.2 y.2))⟩
  have k7:∀ k,F.has p A.n k->k<base/\k≠w.heap.size/\k≠w.heap.size+1/\k≠w.heap.size+1+1:=λk q=>by
   have Q:k<w.heap.size:=N k q;exact ⟨h7 k q,eb,eb,eb⟩
  cases B:A.lost x.1 with
  | false=>
   refine nf ei I E V x.1 b (A2:=A.putAt (ep pre++[x.1]) b (λi=>(bx.shard (R.getD i [])).blk)) (λu=>u=.nilIface) ZT (λo a' w' ho (hu:a'.eval (Z0 24)=.nilIface)=>by simp only [execOp,ho,hu];go_simp) a.b0 a.b1 a.b2 H (k5 _ P) hm k7 rfl
    (λw' ki k6=>(rz k6.vol ki V x.1 b (km _ P) hb hw B _ (K _ P) (rm (K _ P)) k6.laid E.g E.v).mono (by
     rintro e hd ⟨rfl,z,f⟩;rw [tq A (ep pre) x.1 b (λi=>(bx.shard (R.getD i [])).blk)] at z;exact ⟨_,rfl,rfl,z,f⟩)) rfl rfl rfl rfl ?_
   intro w2 vs ke z f;obtain ⟨x0,x1,x2,x3,x4,x5,x6,x7,x8,x9,xa,xb,rfl⟩:=Kg ke;have l:∀ k,w.heap.size<=k->k<X.heap.size->w2.heap[k]?=X.heap[k]?:=λk C kr=>f.block k kr (λq=>eT (N k q));have H2:=a5 z f l B;clear z f l a I H ke V k7 B;rename_i hK
   refine hK _ _ ?_;clear hK;simp only [Act.RL,Act.put,UL,UJ,UM,UH,Uk];gi_wp2;obtain ⟨z,f,l,B⟩:=H2.out;have a:=J.out.1;have hO:aa (F.has p A.n) w w2:=a.out.trans f;refine ⟨⟨f.size,λk o C ho _=>(l k eb (TW.1 ho).1).trans ho⟩,λ_=>j.RZ.keep (hO.block _ j.RZ.lt E.t),?_⟩;exact ⟨(l _ eb eb).trans a.b0,(l _ eb eb).trans a.b1,(l _ eb eb).trans a.b2,by rw [cK,FB _ _ _ B];exact (l _ eb eb).trans a.b3,by rw [cK];exact z,hO,TU a.size f.size⟩
  | true=>rw [hh] at B;cases B
 case done=>
  rintro D' xs X kj ky a hK;have c3:=a.b3.cell;have f3:=a.b3.frozen;have J:=au a hK;clear a hK;gi_wp2;obtain ⟨a,hK⟩:=J.out;have hj:ep xs=ae S:=ky;have ko:=a.b3.set (Z7 Z8 (ln A (ep xs):Nat));have ks:=Vz X ⟨w.heap.size+1+1+1,0,ZW⟩ (Z7 Z8 (ln A (ep xs):Nat));have kk:=ks.same D' _ hK rfl;refine Ba (b:=w.heap.size+1+1+1) (t8:=8) results91 rfl rfl (ts (s:=ln A (ep xs)) ko) kk eb ⟨by rw [hj],?_,?_⟩
  . have U:=a.arr;rw [hj] at U;exact U.keep λk C=>by have:=N k C;exact (UE eb).trans (T7 _ _ _ _ Y8)
  . exact a.out.later (T:=λk=>w.heap.size<=k) ⟨rfl,rfl,rfl,by simp [World.setCell,World.putObj],λk _ kp=>(UE eb).trans (T7 _ _ _ _ Y8)⟩ (λk q0 kp=>eb)
 case stop=>
  rintro D' cc pre X kj kx hx hK;exact hx.elim
end
def bJ (D L G:Nat) (dl:a9):List a9:=vP (bE D L G) (gX D dl) 44
def jf (D L G:Nat) (dl:a9):(bJ D L G dl).length=D+L+G:=by unfold bJ vP;rw [TZ,gj]
def Hs {dl:a9} (d:dl.length<=D*44) (f:1<=D):Ru (gX D dl)/\((gX D dl).getD 0 []).length=44:=by
 have a:((gX D dl).getD 0 []).length=44:=by
  have e:(gX D dl).getD 0 []=(gX D dl)[0]'(by rw [fh];omega):=by simp [fh,(eb:0<D)]
  rw [e,tB];exact pZ d eb
 refine ⟨λi c=>?_,a⟩;have b:=c;rw [fh] at b;unfold Bh;rw [a,tB c,pZ d b];exact ⟨rfl,ec⟩
def K7 (w:ZS) (base:Nat) (M:List a9) (u:ZR):Prop:=∃ T,iU w base u T/\cO T 44 M
def l8 (c:D<=12) (d:G<=4) (dl:a9) (i:Nat) (a:i<(bJ D L G dl).length):((bJ D L G dl)[i]).length=44/\∀ x∈(bJ D L G dl)[i],x<256:=by
 have b:i<(bE D L G).length:=by rw [gj];rw [jf] at a;exact a
 have e:(bJ D L G dl)[i]=cW (bE D L G)[i] (gX D dl) 44 (gX D dl).length:=by simp [bJ,vP]
 rw [e];exact ⟨fR _ _ _ _,ql _ _ (oT D L G c d _ (T4 b)) _ _⟩
theorem K7.rows {M:List a9} (h:K7 w base M u) (v:M≠[]) (r:∀ i (d:i<M.length),M[i].length=44/\∀ x∈M[i],x<256):∃ g c,u=Z5 (ZV ⟨g,0,ZW⟩) M.length c/\Kf w base g M:=by
 obtain ⟨T,l,k⟩:=h;have f:T.length=M.length:=vE (congrArg List.length k)
 rcases l.shape with ⟨_,q⟩|⟨g,cap,m,n,D,E,o,p,_,_⟩
 . exact absurd (UK (by rw [<- f,q];rfl)) v
 . refine ⟨g,cap,by rw [m,f],n,o,λi d=>?_⟩;have a:i<T.length:=eb;have s:=k.at a d;obtain ⟨A,e,F,G,H⟩:=l.row T[i] (T4 a);have b:=p i a;unfold jT at b;rw [s] at b e;obtain ⟨B,C⟩:=r i d;refine ⟨T[i].1,0,M[i].length,b,A,e.lt,λj u z=>?_,B,C⟩;have y:=e.SR;have t:(aJ M[i]).toArray[j]?=ZV u:=(vE z);simp [World.cell?,y,t]
def jK (A:aA) (_D _L _G:Nat):Prop:=∀ i,A.lost i=ZT
def jK.here {A:aA} (h:∀ i,A.lost i=ZT) (D L G:Nat):jK A D L G:=h
theorem jK.congr {A B:aA} (h:jK A D L G) (_hn:B.n=A.n) (a:B.lost=A.lost):jK B D L G:=by
 unfold jK;rw [a];exact h
theorem lf {A:aA} (j:rp w v p D L G ps ho A F) (hF:m8 F p A.n v) (hf:A.fit) (hn:A.n=D+L+G) (hr:cJ D L G=ZU) (hh:1<=D) (t:D<=12) (hL:1<=L) (hj:L<=4) (H:G<=4) (h9:D%L=0) (z:D+L+G<=16)
 (b:Nat) (d:b<A.nb) (hw:A.wait<0) (ht:jK A D L G) (O:ZR) (dl:a9) (hd:Bs w O dl) (hy:dl.length<=D*44) :
 ZQ ZM 145 #[Z6 (ZV ⟨v,0,ZW⟩),Z7 Z9 b,O] w λe w'=>e=Z3 .nilIface/\aj w' p (A.putAt (YC A.n) b (λi=>(bx.shard ((bJ D L G dl).getD i [])).blk)) F/\aa (F.has p A.n) w w':=by
 have HD:=al hd;have f:=jf D L G dl;have R:=l8 (L:=L) t H dl;obtain ⟨M,I⟩:=nM (bJ D L G dl);rw [I] at f R;have r:=au I f;clear I f;have hx:=PC (j.vol.keep (w':=w.drew) rfl) t O dl (HD.out.mono (TX _ w).drew) hy;obtain ⟨U,he⟩:=Hs hy hh;have J:=λu X h=>DT D L G hr hh t hL hj H h9 u (gX D dl) X h (fh D dl) U;rw [he] at J;obtain ⟨_,c1,c2,c3,_⟩:=j.vol.cells;have Q:=au hx J;clear hx J U he;go_enter func145,ntmps145;go_wp2_with fail;go_region_with (first
  | (go_at_call 167;refine Q.out.1.mono ?_;rintro e w1 ⟨u,rfl,Z,d⟩;obtain ⟨_,d1,d2,d3,_⟩:=(j.vol.keep (d.block _ j.vol.lt)).cells;have a:=au Z d;clear Z d)
  | (go_at_call 166;refine (Q.out.2 _ _ a.out.1).mono ?_;rintro e w2 ⟨x,T,rfl,hT,W,d⟩;have q:=au (show K7 w2 w.heap.size (bJ D L G dl) x from ⟨T,hT.weaken a.out.2.size,W⟩) (show bW w w2 from ((TX _ w).drew).trans (a.out.2.trans (d.mono a.out.2.size)));clear hT W d))
 all_goals (
  rename ZS=>w1;obtain ⟨B,E⟩:=q.out;rw [r.out.1] at B;have f:=r.out.2;obtain ⟨g,c,rfl,hq⟩:=B.rows (λe=>by rw [e] at f;simp at f;omega) R;have hs:=j.below E lR;have a:=aE hs hq E;clear B hq hs E f;go_wp2_with fail;refine (kt a.out.1.vol t hj H z).mono ?_;rintro e w2 ⟨rfl,l⟩;obtain ⟨S,y⟩:=nM (2^(D+L+G)-1);rw [y];have s:ae S=YC A.n:=by rw [<- y,hn];exact oL z
  have hz:S<65536:=by
   have:2^(D+L+G)<=2^16:=Vm ec z;omega
  have C:=a.out.1.below l lR;have hp:Kf w2 w.heap.size g M:=a.out.2.1.keep l.size (λk _ N=>l.block k N);have K:=ld C hF hf b S d hz (λi o=>by rw [s] at o;simpa using o) hw ht (m:=M.length) (c:=c) hp (λi o=>by have:=r.out.2;rw [s] at o;simp at o;omega) lR (λk N=>j.arr.RQ N);rw [s,xL λi _=>ht i] at K;have q:=a5 K l y C;clear C hp K l s y;go_wp2_with fail;refine q.out.1.mono ?_;rintro e w3 ⟨rfl,hg,hm⟩;have Y:aa (F.has p A.n) w w3:=(aa.RO (a.out.2.2.trans (q.out.2.1.mono a.out.2.2.size)) _).trans hm;have P:=au hg Y;clear hg hm Y;go_wp2;go_ret;have V:=P.out.1;rw [<- r.out.1] at V;exact ⟨rfl,V,P.out.2⟩)
def gY (D:Nat) (P l:a9) (k:Nat):a9:=be (P.getD (k+1) 0) 4++(l.drop (k*(D*44-4))).take (D*44-4)
def aA.RT (A:aA) (D L G:Nat) (P l:a9):Nat->aA
 | 0=>A
 | k+1=>(aA.RT A D L G P l k).putAt (YC A.n) (P.getD k 0) (λi=>(bx.shard ((bJ D L G (gY D P l k)).getD i [])).blk)
def jL (A:aA) (D L G:Nat) (P l:a9):∀ k,(A.RT D L G P l k).n=A.n/\(A.RT D L G P l k).nb=A.nb/\(A.RT D L G P l k).wait=A.wait/\(A.RT D L G P l k).lost=A.lost
 | 0=>⟨rfl,rfl,rfl,rfl⟩
 | k+1=>jL A D L G P l k
def gH {A:aA} (h:A.fit) {D L G:Nat} (c:D<=12) (d:G<=4) (g:A.n=D+L+G) (P l:a9):∀ k,(A.RT D L G P l k).fit
 | 0=>h
 | k+1=>(gH h c d g P l k).putAt _ _ _ λi f=>by
  rw [Uq,g] at f;have a:i<(bJ D L G (gY D P l k)).length:=by rw [jf];exact f
  have e:(bJ D L G (gY D P l k)).getD i []=(bJ D L G (gY D P l k))[i]:=Zv
  have b:(bx.shard ((bJ D L G (gY D P l k)).getD i [])).ok:=by rw [e];exact l8 c d _ i a
  exact ⟨dJ b,fO b⟩
def xM (a:1<=D) (P l:a9) (k:Nat):(gY D P l k).length<=D*44:=by
 unfold gY;rw [T5,dD,Ud];omega
def K8 (b:∀ x∈l,x<256) (P:a9) (k:Nat):∀ x∈gY D P l k,x<256:=by
 intro x a;unfold gY at a;rw [Ub] at a;rcases a with a|a
 . exact sQ _ _ x a
 . exact b x (UV (US a))
def BO {v:ZR} (h:w.ownsRow base e size v n xs) (f:aa S w w') (i:∀ k,S k->k<base):w'.ownsRow base e size v n xs:=by
 refine ⟨h.1,?_⟩;rcases h.2 with d|⟨g,cap,cur,b,c,a,r⟩
 . exact .inl d
 . exact .inr ⟨g,cap,cur,b,c,(f.block g (TW.1 a).1 (λq=>eT (i g q))).trans a,r⟩
def dN.Sl (h:aa S w w'):dN (λk=>¬ S k) w w':=⟨h.size,λk a b=>h.block k a b⟩
def sn {v:ZR} (h:bp K w v l) (e:l≠[]):∃ b off c,v=Z5 (ZV ⟨b,off,ZW⟩) l.length c/\∀ i (f:i<l.length),w.cell? ⟨b,off+i,ZW⟩=ZV (Z7 Z9 ((l[i]:Nat):Int)):=by
 obtain ⟨ao,c,rfl,_,a⟩:=h;obtain ⟨b,off,rfl,_,_,d⟩:=a e;exact ⟨b,off,c,rfl,d⟩
def Tryz.SI:(ZM.info? 5).map (λi=>(i.zero,i.size,i.bytes))=ZV (ZV (Z7 .u8 0),1,1):=ei
theorem ue {A:aA} (E:bf w ar v D' L' G' t f nn pg ob off) (K:rp w v p D L G ps ho A F) (hF:m8 F p A.n v) (qn:¬ F.has p A.n ar) (hf:A.fit) (hn:A.n=D+L+G) (hr:cJ D L G=ZU) (ke:1<=D) (hD:D<=12) (hL:1<=L) (qi:L<=4) (hG:G<=4) (ki:D%L=0) (qf:D+L+G<=16)
 (hw:A.wait<0) (k9:jK A D L G) (g cap base:Nat) (l:a9) (V:w.ownsRow base 5 1 (Z5 (ZV ⟨g,0,ZW⟩) l.length cap) l.length (aJ l)) (qs:∀ x∈l,x<256) (hll:l.length<=1000000) (k7:∀ k,F.has p A.n k->k<base)
 (vp:ZR) (P:a9) (J:bp (λk=>¬ F.has p A.n k) w vp P) (kv:∀ x∈P,x<A.nb) (qk:∀ k,k<P.length->k*(D*44-4)<=l.length) :
 ZQ ZM 123 #[Z6 (ZV ⟨ar,0,ZW⟩),Z5 (ZV ⟨g,0,ZW⟩) l.length cap,vp] w λe w'=>e=Z3 .nilIface/\aj w' p (A.RT D L G P l P.length) F/\aa (F.has p A.n) w w':=by
 obtain ⟨i0,q0,qb,qc,qd⟩:=Ur Tryz.SI;obtain ⟨pa,pc,rfl,kr,_⟩:=id J;have km:=j9 E K.vol ke eb;obtain ⟨sz,ko⟩:=nM (D*44-4);have x2:40<=sz/\sz<=524:=eb
 rw [ko] at km;have x5:=hf.nb;have H0:=a5 E K V J;clear E K V J;go_enter func123,ntmps123;go_wp2_with fail;refine km.mono ?_;rintro e w1 ⟨rfl,rfl⟩;clear km;go_wp2;go_loopw [17] (λi wr=>∃ k:Nat,i=Z7 Z9 (k:Nat)/\k<=P.length/\aj wr p (A.RT D L G P l k) F/\aa (F.has p A.n) w1 wr) (λi _=>P.length-(intOf i).toNat)
 case atStart=>exact ⟨0,rfl,T3 _,H0.out.2.1.arr,aa.refl _ _⟩
 case round=>
  obtain ⟨k,rfl,hk,Z,z⟩:=hrel;by_cases N:k<P.length
  . obtain ⟨E,K,V,J⟩:=H0.out;have kx:=J.keep (dN.Sl z);obtain ⟨b,bo,c',e1,kh⟩:=sn kx (λe=>by rw [e] at N;simp at N);simp only [Vt] at e1;obtain ⟨rfl,_,rfl⟩:=e1;have c1:=kh k N;obtain ⟨y,hy⟩:=nM (P[k]);rw [hy] at c1;have kp:y<A.nb:=(by rw [<- hy];exact kv _ (T4 N));obtain ⟨nx,O⟩:=nM (P.getD (k+1) 0);have kj:(k+1<P.length/\wr.cell? ⟨b,bo+(k+1),ZW⟩=ZV (Z7 Z9 (nx:Nat)))\/(¬ k+1<P.length/\nx=0):=by
     by_cases h:k+1<P.length
     . have:=kh (k+1) h;have e:P.getD (k+1) 0=P[k+1]:=(by simp [h]);rw [<- e,O] at this;exact .inl ⟨h,this⟩
     . exact .inr ⟨h,by rw [<- O];simp [(eb:P.length<=k+1)]⟩
    have x0:nx<1000001:=by
     rcases XF (k+1) P.length with h|h
     . have e:P.getD (k+1) 0=P[k+1]:=(by simp [h]);rw [<- O,e];have:=kv _ (T4 h);omega
     . rw [<- O];simp [h]
    have q9:=jL A D L G P l k;have ky:rp wr v p D L G ps ho (A.RT D L G P l k) F:=K.turn hF z Z;have hh:=BO V z k7;have kg:=E.keep (z.block _ E.lt qn);obtain ⟨ca,_⟩:=kg.cells;have c:=hide8 Z z ky hh q9 kg O hy;clear Z z ky hh q9 kg O hy kh kx E K V J;have kk:=qk k N;rw [ko] at kk;have qo:l.length<=cap:=by
     rcases c.out.2.2.2.1.2 with ⟨e,_⟩|⟨g',hb,cur,e,_,_,hc,_⟩
     . cases e
     . simp only [Vt] at e;omega
    have he:(k+1)*sz=k*sz+sz:=Wz k sz;have qv:(k:Int)*(sz:Int)=((k*sz:Nat):Int):=(by rw [XD]);have qx:((k:Int)+1)*(sz:Int)=(((k+1)*sz:Nat):Int):=(by rw [XD];rfl);obtain ⟨a,kf⟩:=nM (k*sz);obtain ⟨q,hq⟩:=nM ((k+1)*sz);rw [kf] at qv he kk;rw [hq] at qx he;obtain ⟨bb,kz⟩:=nM (min q l.length);have x3:a<=bb:=eb;have x4:bb<=cap:=eb;have B:bb-a<=524:=eb;have hp:((l.drop a).take sz).length=bb-a:=abX;have qy:∀ R ty w,(Builtin.min_ R ty #[Z7 Z9 (q:Nat),Z7 Z9 (l.length:Nat)]).run ZM w=.ok (Z7 Z9 (bb:Nat)) w:=λR ty w=>by
     rw [gy];by_cases h:((l.length:Nat):Int)<((q:Nat):Int)
     . rw [if_pos h,(eb:bb=l.length)]
     . rw [if_neg h,(eb:bb=q)]
    have hj:∀ W:ZS,W.ownsRow base 5 1 (Z5 (ZV ⟨g,0,ZW⟩) l.length cap) l.length (aJ l)->Src ZM 1 31 (.slice (if cap=a then ZV ⟨g,0,ZW⟩ else ZV ⟨g,a,ZW⟩) (bb-a) (cap-a)) (bb-a) (aJ ((l.drop a).take sz)) W:=λW hW=>by
     have x1:W.rangeAt g 0 (aJ l):=λj u d=>by have:=hW.cells (g:=g) rfl j u d;rw [jU] at this;rw [Uc];exact this
     by_cases M:cap=a
     . have h0:(l.drop a).take sz=[]:=UK eb;rw [if_pos M,h0,(eb:bb-a=0)];exact U8 W Ui ⟨g,0,ZW⟩ 0 (cap-a) (aJ []) rfl (λj u d=>by simp [aJ] at d) (λu d=>by simp [aJ] at d)
     . rw [if_neg M];have qa:=nE sz (fP a x1);rw [Uc] at qa;exact U8 W Ui ⟨g,a,ZW⟩ (bb-a) (cap-a) _ (by rw [aW,hp,VW]) (λj u d=>by rw [Vj];exact qa j u d) (λu d=>by unfold aJ at d;rw [T1] at d;obtain ⟨x,_,rfl⟩:=d;rfl)
    have hi:∀ (W:ZS) (u:ZR),W.ownsRow wr.heap.size 5 1 u (0+4+(bb-a)) ([]++aJ (be nx 4)++aJ ((l.drop a).take sz))->Bs W u (gY D P l k):=λW u d=>by
     have e:[]++aJ (be nx 4)++aJ ((l.drop a).take sz)=aJ (gY D P l k):=by
      unfold gY;rw [ko,kf,c.out.2.2.2.2.2.2.1,bK,Uk]
     rw [e] at d;exact Bs.Sq d (K8 qs P k) (TU (xM ke P l k) eb)
    have h8:∀ (W:ZS) (u:ZR),bW wr W->Bs W u (gY D P l k)->ZQ ZM 145 #[Z6 (ZV ⟨v,0,ZW⟩),Z7 Z9 (y:Nat),u] W λe w'=>e=Z3 .nilIface/\aj w' p (A.RT D L G P l (k+1)) F/\aa (F.has p A.n) w1 w':=λW u hW d=>by
     obtain ⟨q1,q2,q3,q4,H,q6,q7,q8⟩:=c.out;have qm:=q3.below hW lR;have qh:m8 F p (A.RT D L G P l k).n v:=(by rw [H.1];exact hF);have hc:=lf qm qh (gH hf hD hG hn P l k) (by rw [H.1];exact hn) hr ke hD hL qi hG ki qf y (by rw [H.2.1];exact kp) (by rw [H.2.2.1];exact hw) (k9.congr H.1 H.2.2.2) u (gY D P l k) d (xM ke P l k);rw [H.1] at hc;refine hc.mono ?_;rintro e w' ⟨rfl,qg,qj⟩;refine ⟨rfl,?_,q2.trans ((aa.RO hW _).trans qj)⟩;have ey:P.getD k 0=y:=(by rw [<- q8];simp [N]);show aj w' p ((A.RT D L G P l k).putAt (YC A.n) (P.getD k 0) (λi=>(bx.shard ((bJ D L G (gY D P l k)).getD i [])).blk)) F;rw [ey];exact qg
    have kc:=au hi h8;clear hi h8;have HK:=a8 kf hq kz hp kk he;have x6:IntKind.u64.wrap (nx:Int)=(nx:Int):=Zn;have qq:a<=1000000/\q<=1000524/\bb<=1000000:=eb;clear kf hq kz hp he;rcases kj with ⟨h,c2⟩|⟨h,qz⟩
    . have qe:(k:Int)+1<((P.length:Nat):Int):=eb;go_wp2_with fail;refine (eQ wr.heap.size (Z5 ZW 0 0) 0 [] nx 4 wr (UB _ _ _ _) lR ec ec).mono ?_;rintro e w2 ⟨v2,rfl,ka,o,U⟩;have s:bW wr w2:=⟨o.os,o.tape,o.output,o.size,λk hk=>o.block k hk (λe=>abB)⟩;have C:=aB c.out.2.2.2.1 s;have S:=c.out.2.2.2.2.2.1.keep (s.block _ c.out.2.2.2.2.2.1.lt);obtain ⟨cb,_⟩:=S.cells;have X:Src ZM 1 31 (.slice (if cap=a then ZV ⟨g,0,ZW⟩ else ZV ⟨g,a,ZW⟩) (bb-a) (cap-a)) (bb-a) (aJ ((l.drop a).take sz)) w2:=hj w2 C;have m:=a7 ka s X C U;clear ka o s X C U S;go_wp2_with (
       at_builtin;
       refine af _ rfl (Z0 35) (Z0 47) 31 31 rfl wr.heap.size 5 i0 (Z7 .u8 0) 1 1 Ui q0 qb qc qd rfl v2 (0+4) ([]++aJ (be nx 4)) l3 (by exact m.out.1) _ l3 (bb-a) (aJ ((l.drop a).take sz)) abD eD eb (by exact m.out.2.1.size) ?_;
       intro v3 I kb k8 hm;
       have B:bW wr I:=m.out.2.1.grown k8 m.out.2.1.size (λk e=>(m.out.1.lt k e).1);
       have T:=c.out.2.2.2.2.2.1.keep (B.block _ c.out.2.2.2.2.2.1.lt);
       obtain ⟨cc,_⟩:=T.cells;
       have Q:=au kb B;
       clear kb B k8 hm T)
      all_goals
       refine (kc.out.2 I v3 Q.out.2 (kc.out.1 I v3 Q.out.1)).mono ?_;rintro e w4 ⟨rfl,Y,k6⟩;have r:=au Y k6;clear Y k6;go_wp2;first
        | exact ⟨⟨k+1,e8,eb,r.out.1,r.out.2⟩,by simp only [intOf];omega⟩
        | (have M:cap=a:=by assumption
           subst M;go_roundw
           case rel=>exact ⟨k+1,e8,eb,r.out.1,r.out.2⟩
           case measure=>
            show P.length-((k:Int)+1).toNat<P.length-((k:Nat):Int).toNat;omega)
    . have qe:¬ (k:Int)+1<((P.length:Nat):Int):=eb;subst qz;go_wp2_with fail;refine (eQ wr.heap.size (Z5 ZW 0 0) 0 [] 0 4 wr (UB _ _ _ _) lR ec ec).mono ?_;rintro e w2 ⟨v2,rfl,ka,o,U⟩;have s:bW wr w2:=⟨o.os,o.tape,o.output,o.size,λk hk=>o.block k hk (λe=>abB)⟩;have C:=aB c.out.2.2.2.1 s;have S:=c.out.2.2.2.2.2.1.keep (s.block _ c.out.2.2.2.2.2.1.lt);obtain ⟨cb,_⟩:=S.cells;have X:Src ZM 1 31 (.slice (if cap=a then ZV ⟨g,0,ZW⟩ else ZV ⟨g,a,ZW⟩) (bb-a) (cap-a)) (bb-a) (aJ ((l.drop a).take sz)) w2:=hj w2 C;have m:=a7 ka s X C U;clear ka o s X C U S;go_wp2_with (
       at_builtin;
       refine af _ rfl (Z0 35) (Z0 47) 31 31 rfl wr.heap.size 5 i0 (Z7 .u8 0) 1 1 Ui q0 qb qc qd rfl v2 (0+4) ([]++aJ (be 0 4)) l3 (by exact m.out.1) _ l3 (bb-a) (aJ ((l.drop a).take sz)) abD eD eb (by exact m.out.2.1.size) ?_;
       intro v3 I kb k8 hm;
       have B:bW wr I:=m.out.2.1.grown k8 m.out.2.1.size (λk e=>(m.out.1.lt k e).1);
       have T:=c.out.2.2.2.2.2.1.keep (B.block _ c.out.2.2.2.2.2.1.lt);
       obtain ⟨cc,_⟩:=T.cells;
       have Q:=au kb B;
       clear kb B k8 hm T)
      all_goals
       refine (kc.out.2 I v3 Q.out.2 (kc.out.1 I v3 Q.out.1)).mono ?_;rintro e w4 ⟨rfl,Y,k6⟩;have r:=au Y k6;clear Y k6;go_wp2;first
        | exact ⟨⟨k+1,e8,eb,r.out.1,r.out.2⟩,by simp only [intOf];omega⟩
        | (have M:cap=a:=by assumption
           subst M;go_roundw
           case rel=>exact ⟨k+1,e8,eb,r.out.1,r.out.2⟩
           case measure=>
            show P.length-((k:Int)+1).toNat<P.length-((k:Nat):Int).toNat;omega)
  . have qp:k=P.length:=eb;subst qp;have c:=au Z z;clear Z z;go_wp2;go_ret;exact ⟨rfl,c.out.1,c.out.2⟩
def Er {a':Act} {lo:Nat} {v:ZR} (f:a'.tmps.size=a.tmps.size) (c:a'.defers=a.defers) (l:lo+vs.length<=a.tmps.size) (m:d<lo) (hv:a'.eval (.tmp d)=v) (g:∀ i,i<vs.length->a'.eval (.tmp (lo+i))=vs.getD i ZX) (h:∀ s,s≠d->s<lo\/lo+vs.length<=s->a'.eval (.tmp s)=a.eval (.tmp s)):a'=Act.RL (a.put (ZV d) v) lo vs:=by
 obtain ⟨j,k⟩:=fu vs (a.put (ZV d) v) lo;refine yY (f.trans ((j.trans (ou _ _ _)).symm)) (c.trans k.symm) λs _=>?_;rw [fv vs _ lo s (by rw [ou];omega)];by_cases e:lo<=s/\s<lo+vs.length
 . rw [if_pos e];have:=g (s-lo) eb;rwa [(eb:lo+(s-lo)=s)] at this
 . rw [if_neg e];by_cases b:s=d
   . subst b;rw [yX _ _ _ eb,hv]
   . rw [lE _ _ _ _ (λq=>b q.symm)];exact h s b eb
def nx (t:Nat):Nat:=(t+1)%18446744073709551616
def FC (t:Nat):nx t<18446744073709551616:=V6 _ ec
noncomputable def RCm:Array Oper:=((Tryz.f88.body.bind (nZ · 5))).getD #[]
def P0:List (Op×Option Nat×a9):=[(Op.move (Z0 0),ZV 19,[]),
 (Op.nilCheck (Z0 19),ZV 20,[0]),
 (Op.fieldAddr 115 (Z0 20) 0,ZV 21,[1]),
 (Op.load 106 (Z0 21),ZV 22,[2]),
 (Op.call { callee:=Callee.value (Operand.func 67),args:=#[Z0 22],argTypes:=#[106] },ZV 23,[3]),
 (Op.move (Z0 0),ZV 24,[]),
 (Op.nilCheck (Z0 24),ZV 25,[5]),
 (Op.fieldAddr 115 (Z0 25) 1,ZV 26,[6]),
 (Op.fieldAddr 110 (Z0 26) 1,ZV 27,[7]),
 (Op.load 108 (Z0 27),ZV 28,[8]),
 (Op.binOp BinOp.add 108 (Z0 28) (Operand.const (Value.int IntKind.u64 1)) 108,ZV 29,[9]),
 (Op.move (Z0 2),ZV 30,[]),
 (Op.indexAddr 111 (Z0 30) (Operand.const (Value.int IntKind.i64 0)),ZV 31,[11]),
 (Op.load 3 (Z0 31),ZV 32,[12]),
 (Op.move (Z0 7),ZV 33,[]),
 (Op.call { callee:=Callee.builtin Builtin.len,args:=#[Z0 33],argTypes:=#[31] },ZV 34,[14]),
 (Op.build 110 #[(0,Z0 23),(1,Z0 29),(2,Z0 32),(3,Z0 34)],ZV 35,[4,10,13,15]),
 (Op.alloc 110,ZV 9,[]),
 (Op.store 110 (Z0 9) (Z0 35),ZW,[17,16,4,0,1,2,3,4,5,6,7,8,9,10,11,12,13,14,15,16,17])]
def Ht:aL RCm 9 36 P0:=bj ei ei
def zO {s:Operand} (ho:o.op=.call { callee:=.builtin .len,args:=#[s],argTypes:=#[31] }) {so:Option Addr} {n c:Nat} (hx:a.eval s=.slice so n c) (w:ZS):(execOp a.eval o).run ZM w=.ok (.value (Z7 Z9 n)) w:=by
 unfold execOp;simp only [ho,resolve,invoke,builtin,Uo,UW,Uz,Vy,UD,U5,hx];simp [Builtin.len_,Uw Ui,goInt]
def kK (w:ZS) (b:Nat):Prop:=∃ cs:Array ZR,cs.size=6/\w.heap[b]?=ZV (Z4 cs 110 (0,0))
def VCm (s ar v D L G t m pb po pn pc f:Nat) (so:Option Addr) (cap:Nat) (i:Nat) (u:ZR) (w:ZS):Prop:=match i with
 | 0|1|2|5|6=>u=Z6 (ZV ⟨ar,0,ZW⟩)
 | 3=>u=Z6 (ZV ⟨v,0,ZW⟩)
 | 4=>u=.agg #[Z7 Z9 D,Z7 Z9 L,Z7 Z9 G]
 | 7=>u=Z6 (ZV ⟨ar,1,ZW⟩)
 | 8=>u=Z6 (ZV ⟨ar,4,ZW⟩)
 | 9=>u=Z7 Z8 t
 | 10=>u=Z7 Z8 ((nx t:Nat):Int)
 | 11=>u=Z5 (ZV ⟨pb,po,ZW⟩) pn pc
 | 12=>u=Z6 (ZV ⟨pb,po,ZW⟩)
 | 13=>u=Z7 Z9 f
 | 14=>u=.slice so m cap
 | 15=>u=Z7 Z9 m
 | 16=>u=.agg (av D L G (nx t) f m)
 | 17=>∃ b,u=Z6 (ZV ⟨b,0,ZW⟩)/\s<=b/\kK w b
 | 18=>∃ b,s<=b/\w.heap[b]?=ZV (Z4 (av D L G (nx t) f m) 110 (0,0))
 | _=>True
def BCm (w0:ZS) (Dn:Nat->Bool) (w:ZS):Prop:=bW w0 w/\(∀ b b',w0.heap.size<=b->w0.heap.size<=b'->kK w b->kK w b'->b=b')/\(Dn 17=ZT->∀ b,w0.heap.size<=b->¬ kK w b)
def cw (h:BCm w0 Dn w) (i:Nat) (a:i≠17):BCm w0 (du Dn i) w:=⟨h.1,h.2.1,λq=>h.2.2 (by unfold du at q;rwa [if_neg (λe=>a e.symm)] at q)⟩
def xN (w:ZS):(zeroValue 110).run ZM w=.ok (.agg (av 0 0 0 0 0 0)) w:=by
 obtain ⟨a,b,c⟩:∃ a,ZM.info? 110=ZV a/\a.zero=ZV (.agg (av 0 0 0 0 0 0)):=by
  have:(ZM.info? 110).map (λi=>i.zero)=ZV (ZV (.agg (av 0 0 0 0 0 0))):=ei
  rw [VU] at this;exact this
 simp [zeroValue,typeInfo,Uo,b,c]
def kL (D L G t f n:Nat):(ZM.info? 110).map (λi=>i.size)=ZV (av D L G t f n).size:=ei
def qI (D L G t f n:Nat):(av D L G t f n).all (λv=>v.oneCell')=ZU:=by simp [av,Value.oneCell']
def uf (h:w.heap[b]?=ZV (Z4 cs 110 (0,0))) (a:cs.size=6):(Instr.storeAt 110 (Z6 (ZV ⟨b,0,ZW⟩)) (.agg (av D L G t f n))).run ZM w=.ok () (w.setRow b (av D L G t f n)):=by
 simp only [Instr.storeAt,Instr.sureAddr,Uo,UW,Uz,Xt w b 110 110 cs (av D L G t f n) h (kL D L G t f n) Zw (qI D L G t f n)]
theorem vU {cap pb po pn pc:Nat} {so:Option Addr} (hp:RCm=ops) (l:bk w v p D L G ps ho) (U:w.heap[ar]?=ZV (Z4 cs 115 (0,0))) (h0:cs[0]?=ZV (Z6 (ZV ⟨v,0,ZW⟩))) (h4:cs[4]?=ZV (Z7 Z8 t)) (ka:1<=pn) (hy:w.cell? ⟨pb,po,ZW⟩=ZV (Z7 Z9 f))
 (kb:a.tmps.size=60) (Y:a.eval (Z0 0)=Z6 (ZV ⟨ar,0,ZW⟩)) (e2:a.eval (Z0 2)=Z5 (ZV ⟨pb,po,ZW⟩) pn pc) (e7:a.eval (Z0 7)=.slice so m cap)
 (hQ:∀ (w':ZS) (vs:List ZR) (b:Nat),vs.length=17->w.heap.size<=b->w'.heap[b]?=ZV (Z4 (av D L G (nx t) f m) 110 (0,0))->bW w w'->Q .normal (Act.RL (a.put (ZV 9) (Z6 (ZV ⟨b,0,ZW⟩))) 19 vs) w'):(Code.region 5 ops ZU).wp ZM Q a w:=by
 subst hp;have Z:ar<w.heap.size:=(TW.1 U).1;have n1:IntKind.u64.wrap ((t:Int)+1)=((nx t:Nat):Int):=by rw [Vh];unfold nx;omega
 refine cQ ei Ht a w eb (VCm w.heap.size ar v D L G t m pb po pn pc f so cap) (BCm w) ⟨(TX _ w).drew,λb I H _ M _=>?_,λ_ b H M=>?_⟩ ?_ ?_
 . obtain ⟨c,_,M⟩:=M;have:=(TW.1 M).1;have k7:w.drew.heap.size=w.heap.size:=rfl;omega
 . obtain ⟨c,_,M⟩:=M;have:=(TW.1 M).1;have k7:w.drew.heap.size=w.heap.size:=rfl;omega
 . intro i P;match i,P with
   | 0,_=>exact λo g w' Dn C ho x z y B r d l=>ag (ah ho ((z.slot 0 eb).trans Y) w') x ⟨cw d _ ec,rfl,kq⟩
   | 1,_=>
    intro o g w' Dn C ho x z y B r d l;have u0:g.eval (Z0 19)=Z6 (ZV ⟨ar,0,ZW⟩):=l 0 (r 0 ec);exact ag (dR ho u0 w') x ⟨cw d _ ec,rfl,kq⟩
   | 2,_=>
    intro o g w' Dn C ho x z y B r d l;have u0:g.eval (Z0 20)=Z6 (ZV ⟨ar,0,ZW⟩):=l 1 (r 1 ec);exact ag (v:=Z6 (ZV ⟨ar,0,ZW⟩)) ee x ⟨cw d _ ec,rfl,kq⟩
   | 3,_=>
    intro o g w' Dn C ho x z y B r d l;have u0:g.eval (Z0 21)=Z6 (ZV ⟨ar,0,ZW⟩):=l 2 (r 2 ec);have T:=(d.1.block ar Z).trans U;have c:w'.cell? ⟨ar,0,ZW⟩=ZV (Z6 (ZV ⟨v,0,ZW⟩)):=(by simp [World.cell?,T,h0]);exact ag (v:=Z6 (ZV ⟨v,0,ZW⟩)) ee x ⟨cw d _ ec,rfl,kq⟩
   | 4,_=>
    intro o g w' Dn C ho x z y B r d k5;have u0:g.eval (Z0 22)=Z6 (ZV ⟨v,0,ZW⟩):=k5 3 (r 3 ec);have S:Dn 18=ZT:=by
     cases q:Dn 18 with
     | false=>rfl
     | true=>have:=(B 18 q).2 4 ec;rw [y] at this;cases this
    refine mG (f:=67) (args:=#[Z6 (ZV ⟨v,0,ZW⟩)]) (w1:=w') lk x (iq (l.keep (d.1.block _ l.lt))) ?_;rintro e X ⟨rfl,H,hz,V⟩;have O:∀ b,kK X b->kK w' b:=λb ⟨c,F,A⟩=>by
     have:=(TW.1 A).1;by_cases e:b=w'.heap.size
     . subst e;rw [V] at A;simp at A
     . exact ⟨c,F,(H.block b eb).symm.trans A⟩
    refine ⟨_,rfl,⟨d.1.trans (H.mono d.1.size),λb I J K F A=>d.2.1 b I J K (O b F) (O I A),λq b J K=>d.2.2 (by unfold du at q;rwa [if_neg ec] at q) b J (O b K)⟩,rfl,λj u E q=>?_⟩;match j,E,q with
    | 0,_,q|1,_,q|2,_,q|3,_,q|4,_,q|5,_,q|6,_,q|7,_,q|8,_,q|9,_,q|10,_,q|11,_,q|12,_,q|13,_,q|14,_,q|15,_,q|16,_,q=>exact q
    | 17,_,⟨b,F,A,c,R,N⟩=>exact ⟨b,F,A,c,R,(H.block b (TW.1 N).1).trans N⟩
    | 18,E,_=>rw [S] at E;cases E
    | n+19,_,_=>trivial
   | 5,_=>exact λo g w' Dn C ho x z y B r d l=>ag (ah ho ((z.slot 0 eb).trans Y) w') x ⟨cw d _ ec,rfl,kq⟩
   | 6,_=>
    intro o g w' Dn C ho x z y B r d l;have u0:g.eval (Z0 24)=Z6 (ZV ⟨ar,0,ZW⟩):=l 5 (r 5 ec);exact ag (dR ho u0 w') x ⟨cw d _ ec,rfl,kq⟩
   | 7,_=>
    intro o g w' Dn C ho x z y B r d l;have u0:g.eval (Z0 25)=Z6 (ZV ⟨ar,0,ZW⟩):=l 6 (r 6 ec);exact ag (v:=Z6 (ZV ⟨ar,1,ZW⟩)) ee x ⟨cw d _ ec,rfl,kq⟩
   | 8,_=>
    intro o g w' Dn C ho x z y B r d l;have u0:g.eval (Z0 26)=Z6 (ZV ⟨ar,1,ZW⟩):=l 7 (r 7 ec);exact ag (v:=Z6 (ZV ⟨ar,4,ZW⟩)) ee x ⟨cw d _ ec,rfl,kq⟩
   | 9,_=>
    intro o g w' Dn C ho x z y B r d l;have u0:g.eval (Z0 27)=Z6 (ZV ⟨ar,4,ZW⟩):=l 8 (r 8 ec);have T:=(d.1.block ar Z).trans U;have c:w'.cell? ⟨ar,4,ZW⟩=ZV (Z7 Z8 t):=(by simp [World.cell?,T,h4]);exact ag (v:=Z7 Z8 t) ee x ⟨cw d _ ec,rfl,kq⟩
   | 10,_=>
    intro o g w' Dn C ho x z y B r d l;have u0:g.eval (Z0 28)=Z7 Z8 t:=l 9 (r 9 ec);exact ag (v:=Z7 Z8 ((nx t:Nat):Int)) (by (conv at ho=>rhs;whnf);simp only [execOp,ho,u0,show g.eval (Operand.const (Value.int IntKind.u64 1))=Value.int IntKind.u64 1 from rfl];go_simp) x ⟨cw d _ ec,rfl,kq⟩
   | 11,_=>exact λo g w' Dn C ho x z y B r d l=>ag (ah ho ((z.slot 2 eb).trans e2) w') x ⟨cw d _ ec,rfl,kq⟩
   | 12,_=>
    intro o g w' Dn C ho x z y B r d l;have u0:g.eval (Z0 30)=Z5 (ZV ⟨pb,po,ZW⟩) pn pc:=l 11 (r 11 ec);exact ag (v:=Z6 (ZV ⟨pb,po,ZW⟩)) (by (conv at ho=>rhs;whnf);simp only [execOp,ho,u0,show g.eval (Operand.const (Value.int IntKind.i64 0))=Value.int IntKind.i64 0 from rfl];go_simp;intro h;omega) x ⟨cw d _ ec,rfl,kq⟩
   | 13,_=>
    intro o g w' Dn C ho x z y B r d l;have u0:g.eval (Z0 31)=Z6 (ZV ⟨pb,po,ZW⟩):=l 12 (r 12 ec);have c:w'.cell? ⟨pb,po,ZW⟩=ZV (Z7 Z9 f):=(d.1.cell (p:=⟨pb,po,ZW⟩) (T8 hy)).trans hy;exact ag (v:=Z7 Z9 f) ee x ⟨cw d _ ec,rfl,kq⟩
   | 14,_=>exact λo g w' Dn C ho x z y B r d l=>ag (ah ho ((z.slot 7 eb).trans e7) w') x ⟨cw d _ ec,rfl,kq⟩
   | 15,_=>
    intro o g w' Dn C ho x z y B r d l;have u0:g.eval (Z0 33)=.slice so m cap:=l 14 (r 14 ec);exact ag (v:=Z7 Z9 m) (zO ho u0 w') x ⟨cw d _ ec,rfl,kq⟩
   | 16,_=>
    intro o g w' Dn C ho x z y B r d l;have u0:g.eval (Z0 23)=.agg #[Z7 Z9 D,Z7 Z9 L,Z7 Z9 G]:=l 4 (r 4 ec);have u1:g.eval (Z0 29)=Z7 Z8 ((nx t:Nat):Int):=l 10 (r 10 ec);have u2:g.eval (Z0 34)=Z7 Z9 m:=l 15 (r 15 ec);have u3:g.eval (Z0 32)=Z7 Z9 f:=l 13 (r 13 ec);exact ag (v:=.agg (av D L G (nx t) f m)) (by (conv at ho=>rhs;whnf);simp only [execOp,ho,Vy,UD,U5,u0,u1,u2,u3];go_simp;rfl) x ⟨cw d _ ec,rfl,kq⟩
   | 17,_=>
    intro o g w' Dn C ho x z y B r d l;have S:Dn 18=ZT:=by
     cases q:Dn 18 with
     | false=>rfl
     | true=>have:=(B 18 q).2 17 ec;rw [y] at this;cases this
    have O:∀ b,w.heap.size<=b->kK (w'.alloc (Z4 (av 0 0 0 0 0 0) 110)) b->b=w'.heap.size:=λb H ⟨c,F,A⟩=>by
     have:=(TW.1 A).1;simp at this;by_cases e:b=w'.heap.size
     . exact e
     . exact absurd ⟨c,F,(Ut _ _ _ eb).symm.trans A⟩ (d.2.2 y b H)
    refine ag (v:=Z6 (ZV ⟨w'.heap.size,0,ZW⟩)) (w':=w'.alloc (Z4 (av 0 0 0 0 0 0) 110)) (by (conv at ho=>rhs;whnf);simp only [execOp,ho];go_simp;rfl) x ⟨⟨d.1.alloc d.1.size _,λb I J K F A=>(O b J F).trans (O I K A).symm,λq=>(by unfold du at q;rw [if_pos rfl] at q;cases q)⟩,⟨_,rfl,d.1.size,_,rfl,T9 _ _⟩,λj u E q=>?_⟩;match j,E,q with
    | 0,_,q|1,_,q|2,_,q|3,_,q|4,_,q|5,_,q|6,_,q|7,_,q|8,_,q|9,_,q|10,_,q|11,_,q|12,_,q|13,_,q|14,_,q|15,_,q|16,_,q=>exact q
    | 17,E,_=>rw [y] at E;cases E
    | 18,E,_=>rw [S] at E;cases E
    | n+19,_,_=>trivial
   | 18,_=>
    intro o g w' Dn C ho x z y B r d l;obtain ⟨b,u0,H,c,R,N⟩:VCm w.heap.size ar v D L G t m pb po pn pc f so cap 17 (g.eval (Z0 9)) w':=l 17 (r 17 ec);have u1:g.eval (Z0 35)=.agg (av D L G (nx t) f m):=l 16 (r 16 ec);have W:∀ I,kK (w'.setRow b (av D L G (nx t) f m)) I->kK w' I:=λI ⟨c',F,A⟩=>by
     by_cases e:I=b
     . subst e;exact ⟨c,R,N⟩
     . exact ⟨c',F,((aF w' b _).block I (by have:=(TW.1 A).1;rwa [gw] at this) (λq=>e (by cases q;rfl))).symm.trans A⟩
    have hO:Below w.heap.size w' (w'.setRow b (av D L G (nx t) f m)):=⟨rfl,rfl,rfl,by rw [gw];exact TV _,λk z=>(aF w' b _).block k (eT d.1.size) (λq=>by cases q;omega)⟩;refine iY (w':=w'.setRow b (av D L G (nx t) f m)) (by (conv at ho=>rhs;whnf);simp [execOp,ho,u0,u1,uf N R]) ⟨⟨d.1.trans hO,λb1 b2 J K F A=>d.2.1 b1 b2 J K (W b1 F) (W b2 A),λq b1 J K=>d.2.2 (by unfold du at q;rwa [if_neg ec] at q) b1 J (W b1 K)⟩,⟨b,H,U3 w' b c _ _ _ N⟩,λj u E q=>?_⟩;match j,E,q with
    | 0,_,q|1,_,q|2,_,q|3,_,q|4,_,q|5,_,q|6,_,q|7,_,q|8,_,q|9,_,q|10,_,q|11,_,q|12,_,q|13,_,q|14,_,q|15,_,q|16,_,q=>exact q
    | 17,_,⟨b1,F,A,c1,q5,q6⟩=>
     refine ⟨b1,F,A,?_⟩;have e:b1=b:=d.2.1 b1 b A H ⟨c1,q5,q6⟩ ⟨c,R,N⟩;subst e;exact ⟨_,rfl,U3 w' b1 c1 _ _ _ q6⟩
    | 18,E,_=>rw [y] at E;cases E
    | n+19,_,_=>trivial
   | n+19,V=>exact absurd V (by show ¬ n+19<19;omega)
 . rintro g w' hx hh ⟨Dn,hD,d⟩ l;obtain ⟨b,u0,H,M⟩:VCm w.heap.size ar v D L G t m pb po pn pc f so cap 17 (g.eval (Z0 9)) w':=l 17 ec;obtain ⟨b2,k6,k0⟩:VCm w.heap.size ar v D L G t m pb po pn pc f so cap 18 ZX w':=l 18 ec;have e:b2=b:=d.2.1 b2 b k6 H ⟨_,rfl,k0⟩ M;subst e;have e:g=Act.RL (a.put (ZV 9) (Z6 (ZV ⟨b2,0,ZW⟩))) 19 ((YC 17).map λi=>g.eval (.tmp (19+i))):=Er hx.size hx.defers (by rw [TZ,Uv];omega) ec u0 (λi P=>by
    rw [TZ,Uv] at P;rw [T6,Ul,Ve P];rfl) (λs hs k8=>by
    rw [TZ,Uv] at k8;refine hh s λi P=>?_;have k9:i<19:=P;rcases XF i 17 with h|h
    . intro q;have h3:(bT P0 i).2.1=ZV (19+i):=by
       have:∀ i,i<17->(bT P0 i).2.1=ZV (19+i):=ec
       exact this i h
      rw [h3] at q;have:=UA q;omega
    . rcases XF i 18 with h5|h5
      . have:i=17:=by omega
        subst this;intro q;have:=UA q;omega
      . have:i=18:=by omega
        subst this;intro q;cases q)
   rw [e];exact hQ w' _ b2 Y5 H k0 d.1
def Es (h:w.heap[q]?=ZV (Z4 (av D L G t f n) 110 (0,0))):(Instr.loadAt 110 (Z6 (ZV ⟨q,0,ZW⟩))).run ZM w=.ok (.agg (av D L G t f n)) w:=by
 simp only [Instr.loadAt,Instr.sureAddr,Uo,UW,Uz,WE w q 110 110 (av D L G t f n) (0,0) _ h WG rfl ei]
def kM {rest:List Oper} (e:o.guard=ZW) (x:Operand) (ho:o.op=.load 110 x) {b D L G t f n:Nat} {ra:Array ZR} (c:ra=av D L G t f n)
 (g:a.eval x=Z6 (ZV ⟨b,0,ZW⟩)) (d:w.heap[b]?=ZV (Z4 (av D L G t f n) 110 (0,0))) (h:wpList ZM ops Q rest (a.put o.dst (.agg ra)) w):wpList ZM ops Q (o::rest) a w:=by
 refine VD e λK hK=>?_;subst c;unfold Oper.wp;simp [execOp,ho,g,Es d,Result.andThen];exact hK _ _ h
def BP (h:bf w ar v D' L' G' t' f' n' pg ob off):bf (w.setCells ar 1 (av D L G t f n).toList) ar v D L G t f n pg ob off:=by
 have a:w.heap[ar]?=ZV (Z4 (lL v D' L' G' t' f' n' pg ob off) 115 (0,0)):=h;have:=ai (j:=6) (ai (j:=5) (ai (j:=4) (ai (j:=3) (ai (j:=2) (ai (j:=1) a (Z7 Z9 (D:Int))) (Z7 Z9 (L:Int))) (Z7 Z9 (G:Int))) (Z7 Z8 (t:Int))) (Z7 Z9 (f:Int))) (Z7 Z9 (n:Int));exact this
def bf.there (h:bf w ar v D' L' G' t' f' n' pg ob off):w.there ar 1 6:=by
 have a:w.heap[ar]?=ZV (Z4 (lL v D' L' G' t' f' n' pg ob off) 115 (0,0)):=h;intro j b;match j,b with
 | 0,_|1,_|2,_|3,_|4,_|5,_=>simp [World.cell?,World.frozen?,a,lL]
 | n+6,hn=>exact absurd hn eb
def bf.late (h:bf w ar v D' L' G' t' f' n' pg ob off) (b a:ZR):bf ((w.setCell ⟨ar,7,ZW⟩ b).setCell ⟨ar,8,ZW⟩ a) ar v D' L' G' t' f' n' b a off:=by
 have c:w.heap[ar]?=ZV (Z4 (lL v D' L' G' t' f' n' pg ob off) 115 (0,0)):=h;exact ai (j:=8) (ai (j:=7) c b) a
def bf.tail (h:bf w ar v D' L' G' t' f' n' pg ob off):w.cell? ⟨ar,7,ZW⟩=ZV pg/\w.frozen? ⟨ar,7,ZW⟩=ZT/\w.cell? ⟨ar,8,ZW⟩=ZV ob/\w.frozen? ⟨ar,8,ZW⟩=ZT:=by
 have a:w.heap[ar]?=ZV (Z4 (lL v D' L' G' t' f' n' pg ob off) 115 (0,0)):=h;simp [World.cell?,World.frozen?,a,lL]
def P3 (h:vs.length=17):∃ a b c d e f g i j k l m n o p q r,vs=[a,b,c,d,e,f,g,i,j,k,l,m,n,o,p,q,r]:=by
 match vs,h with
 | [a,b,c,d,e,f,g,i,j,k,l,m,n,o,p,q,r],_=>exact ⟨_,_,_,_,_,_,_,_,_,_,_,_,_,_,_,_,_,rfl⟩
def Et (w:ZS) (vo:ZR) (l:a9):Prop:=∀ W,bW w W->ZQ ZM 122 #[vo] W λe w'=>∃ g cap,e=Z3 (Z5 (ZV ⟨g,0,ZW⟩) l.length cap)/\w'.ownsRow W.heap.size 5 1 (Z5 (ZV ⟨g,0,ZW⟩) l.length cap) l.length (aJ l)/\bW W w'
def K9 (w:ZS) (ar v p D L G t:Nat) (A:aA) (F:aR) (P l:a9) (vp vo:ZR) (off:Bool) (e:ZP) (w':ZS):Prop:=e=Z3 .nilIface/\aj w' p ((A.RT D L G P l P.length).putAt (YC A.n) 0 (λ_=>(bx.root D L G (nx t) (P.getD 0 0) l.length).blk)) F/\bf w' ar v D L G (nx t) (P.getD 0 0) l.length vp vo off/\aa (λk=>k=ar\/F.has p A.n k) w w'
theorem nP {A:aA} (ha:bf w ar v D' L' G' t f nn pg ob off) (hV:rp w v p D L G ps ho A F) (Z:m8 F p A.n v) (N:¬ F.has p A.n ar) (hf:A.fit) (hn:A.n=D+L+G) (hr:cJ D L G=ZU) (qd:1<=D) (Y:D<=12) (hL:1<=L) (ky:L<=4) (hG:G<=4) (kk:D%L=0) (T:D+L+G<=16)
 (hw:A.wait<0) (h9:jK A D L G) (oo:Option Addr) (on oc:Nat) (l:a9) (qh:∀ x∈l,x<256) (hll:l.length<=1000000) (qi:Et w (.slice oo on oc) l)
 (pb po pc:Nat) (P:a9) (hP:bp (λk=>¬ F.has p A.n k) w (Z5 (ZV ⟨pb,po,ZW⟩) P.length pc) P) (q0:P≠[]) (q2:∀ x∈P,x<A.nb) (qe:∀ k,k<P.length->k*(D*44-4)<=l.length) :
 ZQ ZM 88 #[Z6 (ZV ⟨ar,0,ZW⟩),.slice oo on oc,Z5 (ZV ⟨pb,po,ZW⟩) P.length pc] w λe w'=>K9 w ar v p D L G t A F P l (Z5 (ZV ⟨pb,po,ZW⟩) P.length pc) (.slice oo on oc) off e w':=by
 have h7:0<P.length:=Xl.2 q0;obtain ⟨a,kc⟩:=nM (P.getD 0 0);have hh:P[0]=a:=by rw [<- kc];simp [h7]
 have qm:=hf.nb;have qg:a<A.nb:=by rw [<- hh];exact q2 _ (T4 _)
 have q7:(bx.root D L G (nx t) a l.length).ok:=by
  have:=FC t;exact ⟨eb,eb,eb,eb,eb,eb⟩
 unfold K9;rw [kc];have HA:=au kc hh;have HP:=al hP;clear kc hh hP;go_enter func88,ntmps88;go_wp2_with fail;refine (qi w (TX _ w)).mono ?_;rintro e w1 ⟨g,cap,rfl,k7,s⟩;have y:=ha.keep (s.block _ ha.lt);have C:=hV.below s lR;have hc:=HP.out.keep (dN.RN s);have qb:=ue y C Z N hf hn hr qd Y hL ky hG kk T hw h9 g cap w.heap.size l k7 qh hll (λk J=>hV.arr.RQ J) _ P hc q2 qe;have H1:=a7 s qb hc y C;clear s qb hc k7 y C;go_wp2_with fail;refine H1.out.2.1.mono ?_;rintro e w2 ⟨rfl,ks,K⟩;obtain ⟨s,_,hs,y,C⟩:=H1.out;have E:=y.keep (K.block _ y.lt N);have qj:=jL A D L G P l P.length;have M:=C.turn Z K ks;have q1:=hs.keep (dN.Sl K);obtain ⟨b',qp,c',e1,q4⟩:=sn q1 q0;simp only [Vt,UC,XO] at e1;obtain ⟨⟨rfl,rfl,_⟩,_,rfl⟩:=e1;have km:=q4 0 h7;rw [Vs,HA.out.2] at km;have B:aa (F.has p A.n) w w2:=(aa.RO s _).trans K;have Q:=a5 E M B km;clear s hs y C ks K E M q1 q4 km B;go_wp2_with fail;refine vU (f:=a) ei Q.out.2.1.vol Q.out.1 rfl rfl eb Q.out.2.2.2 rfl rfl rfl rfl ?_;intro o vs j q9 kp b W;obtain ⟨x0,x1,x2,x3,x4,x5,x6,x7,x8,x9,xa,xb,xc,xd,xe,xf,xg,rfl⟩:=P3 q9;obtain ⟨E,M,B,ko⟩:=Q.out;clear ko;have c:=E.keep (W.block _ E.lt);have m:=M.below W lR;have r:aa (F.has p A.n) w o:=B.trans (aa.RO W _);have u:¬ F.has p A.n j:=λq=>by have:=hV.arr.RQ q;have:=B.size;omega
 have H3:=a8 c m r b u kp;clear E M B c m r b u kp W q9;rename_i hK
 refine hK _ _ ?_;clear hK;simp only [Act.RL,Act.put,UL,UJ,UM];go_wp2_with fail;obtain ⟨c,m,r,b,u,kp⟩:=H3.out;obtain ⟨d,hd,qn,qo⟩:=qj;obtain ⟨S,hS⟩:=nM (2^(D+L+G)-1);have kg:ae S=YC A.n:=by rw [<- hS,hn];exact oL T
 have q3:S<65536:=by
  have:2^(D+L+G)<=2^16:=Vm ec T;omega
 have qa:∀ X,bW o X->ZQ ZM 98 #[Z6 (ZV ⟨v,0,ZW⟩),Z7 Z9 (0:Nat),bm (.root D L G (nx t) a l.length),Z7 Z8 S] X λe w'=>(∃ z:Nat,e=Z3 (Z7 Z8 z))/\aj w' p ((A.RT D L G P l P.length).putAt (YC A.n) 0 (λ_=>(bx.root D L G (nx t) a l.length).blk)) F/\aa (F.has p A.n) o w':=λX I=>by
  have qf:=m.below I lR;have h:=eL qf (by rw [d];exact Z) (gH hf Y hG hn P l _) 0 S (by rw [hd];omega) q3 (λi hi=>by rw [d];rw [kg] at hi;simpa using hi) (by rw [qn];exact hw) (λi=>by rw [qo];exact h9 i) (.root D L G (nx t) a l.length) q7 (tj q7);rw [kg,d] at h;exact h.mono λe w' q=>⟨⟨_,q.1⟩,q.2.1,(aa.RO I _).trans q.2.2⟩
 have ki:=kt (m.vol.keep (w':=o.drew) rfl) Y ky hG T;rw [hS] at ki;have kj:∀ X,bW o X->X.cell? ⟨ar,0,ZW⟩=ZV (Z6 (ZV ⟨v,0,ZW⟩))/\X.cell? ⟨j,0,ZW⟩=ZV (Z7 Z9 D)/\X.cell? ⟨j,1,ZW⟩=ZV (Z7 Z9 L)/\X.cell? ⟨j,2,ZW⟩=ZV (Z7 Z9 G)/\X.cell? ⟨j,3,ZW⟩=ZV (Z7 Z8 (nx t))/\X.cell? ⟨j,4,ZW⟩=ZV (Z7 Z9 a)/\X.cell? ⟨j,5,ZW⟩=ZV (Z7 Z9 l.length):=λX I=>by
  have qk:X.heap[j]?=ZV (Z4 (av D L G (nx t) a l.length) 110 (0,0)):=(I.block j (TW.1 b).1).trans b;refine ⟨(c.keep (I.block _ c.lt)).cells.1,?_,?_,?_,?_,?_,?_⟩<;>simp [World.cell?,qk,av]
 obtain ⟨k0,k1,k2,k3,k4,k5,k6⟩:=kj o (TX _ _);have R:=aE qa ki kj;have qc:=a7 c m r b u;clear qa ki kj c m r b u hS kg q3;go_cut [47] from 36 to 46 (λ_ wx=>aj wx p ((A.RT D L G P l P.length).putAt (YC A.n) 0 (λ_=>(bx.root D L G (nx t) a l.length).blk)) F/\aa (F.has p A.n) o wx)
 case first=>
  go_region_with (first
   | (go_at_call 103;refine R.out.2.1.mono ?_;rintro e w5 ⟨rfl,q5⟩;have hg:bW o w5:=((TX _ o).drew).trans q5;obtain ⟨j0,j1,j2,j3,j4,j5,j6⟩:=R.out.2.2 w5 hg;have H5:=al hg;clear q5 hg)
   | (go_at_call 98;refine (R.out.1 w5 H5.out).mono ?_;rintro e w6 ⟨⟨z,rfl⟩,kx,kz⟩;have H6:=au kx kz;clear kx kz))
  all_goals (go_wp2_with fail;go_meet;case rel=>exact H6.out)
 case rest=>
 rename ZS=>w4;obtain ⟨kv,U⟩:=hcut;obtain ⟨c,m,r,b,u⟩:=qc.out;clear k0 k1 k2 k3 k4 k5 k6 R;have kh:=c.keep (U.block _ c.lt N);have h5:=(U.block j (TW.1 b).1 u).trans b;have hp:aa (λk=>k=ar\/F.has p A.n k) w w4:=(r.trans U).mono λ_ _ q=>.inr q;have q8:=kh.there;have V:=BP (D:=D) (L:=L) (G:=G) (t:=nx t) (f:=a) (n:=l.length) kh;have kf:=hp.trans (aa.setCells (S:=λk=>k=ar\/F.has p A.n k) _ ar 1 (av D L G (nx t) a l.length).toList (.inl rfl));have ke:=kv.outside (aa.setCells (S:=λk=>k=ar) w4 ar 1 (av D L G (nx t) a l.length).toList rfl) (λk J e=>N (by have O:F.has p (A.RT D L G P l P.length).n k:=J;rw [d] at O;exact e▸O));obtain ⟨w8,kr⟩:=nM (w4.setCells ar 1 (av D L G (nx t) a l.length).toList);rw [kr] at V kf ke;obtain ⟨c7,f7,c8,f8⟩:=V.tail;have H:=a8 ke kf V q8 h5 kr;clear kv U kh hp q8 V kf ke kr h5 c m r b;go_wp2_with (first|(refine kM rfl (Z0 9) rfl rfl l3 (by exact H.out.2.2.2.2.1) ?_)|(refine wpList_store_mid rfl 110 (Z0 55) (Z0 51) rfl ar 1 (av D L G (nx t) a l.length) l3 l3 (by exact H.out.2.2.2.1) (kL _ _ _ _ _ _) (qI _ _ _ _ _ _) ?_;rw [H.out.2.2.2.2.2]));go_ret;refine ⟨rfl,?_,H.out.2.2.1.late _ _,(H.out.2.1.trans (aa.setCell _ _ _ (.inl rfl))).trans (aa.setCell _ _ _ (.inl rfl))⟩;exact H.out.1.keep λk J=>by
  have O:F.has p (A.RT D L G P l P.length).n k:=J;rw [d] at O;have q6:k≠ar:=λe=>N (e▸O);exact (T7 _ _ _ _ q6).trans (T7 _ _ _ _ q6)
def gZ (s:ByteArray):a9:=s.toList.map (λ(b:UInt8)=>b.toNat)++YD (16-s.size) 0
def gT (o:Ob):a9:=be o.name.size 1++gZ o.name++be o.size 2++o.RM.flatMap (λs=>be s 4)
def aG (os:List Ob):a9:=os.flatMap gT
structure Ob.fit (o:Ob):Prop where
 name:1<=o.name.size/\o.name.size<=16
 size:o.size<=1500
 st:∀ s∈o.RM,s<4294967296
 len:o.RM.length<=1000
def xO (l:a9):(l.flatMap (λs=>be s 4)).length=4*l.length:=by
 induction l with
 | nil=>rfl
 | cons x l ih=>rw [VR,T5,ih,dD,Um];omega
def xP (h:s.size<=16):(gZ s).length=16:=by
 unfold gZ;rw [T5,TZ,Yx,WU];have:s.data.toList.length=s.size:=by rw [Wm];rfl
 omega
def fY {o:Ob} (h:o.fit):(gT o).length=19+4*o.RM.length:=by
 unfold gT;rw [T5,T5,T5,dD,dD,xP h.name.2,xO]
def kN (os:List Ob) (k:Nat) (a:k<os.length):aG (os.take (k+1))=aG (os.take k)++gT os[k]:=by
 unfold aG;rw [Vd,T2 a,Wx];simp
theorem dY (k:Nat) (b:k<=1000000) (w:ZS):ZQ ZM 105 #[Z7 Z9 k] w λe w'=>e=Z3 (Z7 Z9 ((19+4*k:Nat):Int))/\w'=w:=by
 have a:((19+4*k:Nat):Int)=19+4*(k:Int):=eb
 rw [a];go_enter func105,ntmps105;go_wp2;go_ret;exact ⟨rfl,rfl⟩
def LnR (w:ZS) (os:List Ob) (s i:ZR) (wr:ZS):Prop:=∃ k:Nat,k<=os.length/\i=Z7 Z9 k/\s=Z7 Z9 (((aG (os.take k)).length:Nat):Int)/\bW w wr
theorem ug {v:ZR} {os:List Ob} (J:fa K w v os) (j:∀ o∈os,o.fit) (Q:os.length<=10000):ZQ ZM 87 #[v] w λe w'=>e=Z3 (Z7 Z9 (((aG os).length:Nat):Int))/\bW w w':=by
 obtain ⟨ao,c,rfl,_,l⟩:=J;have g:∀ k,k<=os.length->(aG (os.take k)).length<=k*5000:=by
  intro k E;induction k with
  | zero=>simp [aG]
  | succ k ih=>
   have f:k<os.length:=eb;have:=ih eb;have B:=j _ (T4 f);rw [kN os k f,T5,fY B];have:=B.len;omega
 obtain ⟨N,p⟩:=nM (os.length);have r:=a5 l j g p;rw [p] at Q ⊢;clear l j g p;go_enter func87,ntmps87;go_wp2_with fail;go_loopw [3,8] (λs i wr=>LnR w os s i wr) (λ_ i _=>N-(intOf i).toNat)
 case atStart=>exact ⟨0,T3 _,rfl,rfl,TX _ _⟩
 case round=>
  obtain ⟨k,E,rfl,rfl,d⟩:=hrel;rw [r.out.2.2.2] at E;by_cases Z:k<N
  . obtain ⟨l,j,g,p⟩:=r.out;have f:k<os.length:=eb;obtain ⟨b,off,rfl,X,u,A⟩:=l (λe=>by rw [e] at f;cases f);obtain ⟨V,y,c1,z,L⟩:=A k f;obtain ⟨U,sc,R,S,_⟩:=L;have G:wr.cell? ⟨b,off+k*3,ZW⟩=ZV (ZZ os[k].name):=(Uh (d.block b u)).trans y;have d1:wr.cell? ⟨b,off+k*3+1,ZW⟩=ZV (Z7 Z9 (os[k].size:Nat)):=(Uh (d.block b u)).trans c1;have I:wr.cell? ⟨b,off+k*3+2,ZW⟩=ZV V:=(Uh (d.block b u)).trans z;subst R;have O:=g k eb;have P:=g (k+1) eb;have n:(aG (os.take (k+1))).length=(aG (os.take k)).length+(19+4*os[k].RM.length):=(by rw [kN os k f,T5,fY (j _ (T4 f))]);obtain ⟨a,x⟩:=nM ((aG (os.take k)).length);obtain ⟨W,h⟩:=nM ((aG (os.take (k+1))).length);obtain ⟨m,t⟩:=nM (os[k].RM.length);obtain ⟨nm,C⟩:=nM (os[k].name);obtain ⟨sz,D⟩:=nM (os[k].size);rw [x,h,t] at n;rw [x] at O ⊢;rw [h] at P;rw [t] at I;rw [C] at G;rw [D] at d1;rw [t] at S;have T:=d.size;have H:=aE d h n;have Y:((k:Nat):Int).toNat=k:=eb;clear d y c1 z l j g A n x h t C D p;go_wp2_with fail;refine (dY m eb _).mono ?_;obtain ⟨q,F⟩:=nM (19+4*m);rw [F];rintro e w2 ⟨rfl,rfl⟩;have hx:a+q<=100000000:=(eT H.out.2.2);go_wp2;obtain ⟨d,h,n⟩:=H.out;refine ⟨⟨k+1,by rw [r.out.2.2.2];omega,e8,?_,d.alloc T _⟩,e9⟩;rw [h,n,F];first|rfl|(congr 1)
  . have M:k=N:=eb;subst M;have H:=al d;clear d;go_wp2;go_ret;refine ⟨?_,H.out⟩;rw [UU (by rw [r.out.2.2.2];exact TV _)];rfl
def bM {v:ZR} (h:w.ownsRow base e size v n xs):∃ d f,v=.slice d n f:=by
 rcases h.2 with ⟨b,c⟩|⟨g,cap,cur,a,_⟩
 . exact ⟨ZW,0,by rw [b,c]⟩
 . exact ⟨_,_,a⟩
def bL {v:ZR} (h:w.ownsRow base e size v n xs) {k:Nat} (a:v.ownBlock=ZV k):∃ cur,w.heap[k]?=ZV (Z4 cur e (0,0)):=by
 rcases h.2 with ⟨d,_⟩|⟨g,cap,cur,b,_,c,_⟩
 . rw [d] at a;simp [Value.ownBlock] at a
 . rw [b] at a;simp [Value.ownBlock] at a;subst a;exact ⟨cur,c⟩
def bF {t:ZO} {v:ZR} (h:w.ownsRow base e size v n xs) {k:Nat} {cs:Array ZR} (c:w.heap[k]?=ZV (Z4 cs t (0,0))) (b:e≠t):v.ownBlock≠ZV k:=by
 intro q;obtain ⟨cur,a⟩:=bL h q;rw [c] at a;injection a with a;injection a with h1 h2;exact b h2.symm
def bZ {v:ZR} (h:w.ownsRow base e size v n xs) (f:aa S w w') (i:∀ k,v.ownBlock=ZV k->¬ S k):w'.ownsRow base e size v n xs:=by
 refine ⟨h.1,?_⟩;rcases h.2 with d|⟨g,cap,cur,a,c,b,r⟩
 . exact .inl d
 . exact .inr ⟨g,cap,cur,a,c,(f.block g (TW.1 b).1 (i g Zw)).trans b,r⟩
def Hu {v:ZR} (h:w.ownsRow base e size v n xs) (f:∀ k,v.ownBlock=ZV k->w'.heap[k]?=w.heap[k]?):w'.ownsRow base e size v n xs:=by
 refine ⟨h.1,?_⟩;rcases h.2 with d|⟨g,cap,cur,a,b,c,r⟩
 . exact .inl d
 . exact .inr ⟨g,cap,cur,a,b,(f g Zw).trans c,r⟩
def P5 {v:ZR} (h:w.ownsRow base e size v n xs) {k:Nat} (b:v.ownBlock=ZV k):k<w.heap.size:=by
 obtain ⟨cur,a⟩:=bL h b;exact (TW.1 a).1
theorem BQ (s:ByteArray):(List.take 0 (aJ (YD 16 0))++Lib.byteCells s.data.toList++List.drop (0+s.size) (aJ (YD 16 0))).toArray=(aJ (gZ s)).toArray:=by
 congr 1;unfold gZ aJ Lib.byteCells;rw [WU,YL,VQ,Uk,Uc,XZ,Uu,YL,Xg];rfl
def NO (w:ZS) (g:Nat) (s:ByteArray) (Dn:Nat->Bool) (w':ZS):Prop:=w'=if Dn 3=ZU then w.drew.setRow g (aJ (gZ s)).toArray else w.drew
def zP (h:NO w g s Dn w') (i:Nat) (a:3≠i):NO w g s (du Dn i) w':=by unfold NO;rw [dm a];exact h
theorem La (h:NO w g s Dn w') {a:Addr} (c:a.block≠g) {v:ZR} (b:w.cell? a=ZV v):w'.cell? a=ZV v:=by
 unfold NO at h;subst h;split
 . exact (Uh ((aF w.drew g _).block a.block (T8 b) (λe=>c (UA e)))).trans b
 . exact b
noncomputable def RK6:Array Oper:=((Tryz.f122.body.bind (nZ · 6))).getD #[]
def aaN:List (Op×Option Nat×a9):=[(Op.slice 263 (Z0 6) ZW ZW ZW,ZV 18,[]),
 (Op.fieldAddr 130 (Z0 5) 0,ZV 19,[]),
 (Op.load 9 (Z0 19),ZV 20,[1]),
 (Op.call { callee:=Callee.builtin Builtin.copy,args:=#[Z0 18,Z0 20],argTypes:=#[31,9] },ZV 21,[0,2])]
def Hv:aL RK6 18 22 aaN:=bj ei ei
def aaO (g q:Nat) (s:ByteArray):List ZR:=[Z5 (ZV ⟨g,0,ZW⟩) 16 16,Z6 (ZV ⟨q,0,ZW⟩),ZZ s,Z7 Z9 (s.size:Nat)]
theorem zQ (x:s.size<=16) (D:w.heap[g]?=ZV (Z4 (aJ (YD 16 0)).toArray 263 (0,0))) (G:w.cell? ⟨q,0,ZW⟩=ZV (ZZ s)) (E:q≠g) (A:RK6=ops) (t:a.tmps.size=50)
 (y:a.eval (Z0 5)=Z6 (ZV ⟨q,0,ZW⟩)) (z:a.eval (Z0 6)=Z6 (ZV ⟨g,0,ZW⟩))
 (C:∀ (w':ZS),w'=w.drew.setRow g (aJ (gZ s)).toArray->Q .normal (Act.RL a 18 [Z5 (ZV ⟨g,0,ZW⟩) 16 16,Z6 (ZV ⟨q,0,ZW⟩),ZZ s,Z7 Z9 (s.size:Nat)]) w'):(Code.region 6 ops ZU).wp ZM Q a w:=by
 subst A;have t:(ZM.info? 5).map (λi=>i.size)=ZV 1:=ei
 refine cQ ei Hv a w eb (λi u _=>u=(aaO g q s).getD i ZX) (NO w g s) rfl ?_ ?_
 . intro i p;match i,p with
   | 0,_=>
    intro o d w' Dn m ho f j k l h b c;have u0:d.eval (Z0 6)=Z6 (ZV ⟨g,0,ZW⟩):=(j.slot 6 eb).trans z;exact ag (v:=Z5 (ZV ⟨g,0,ZW⟩) 16 16) ee f ⟨zP b 0 ec,rfl,kq⟩
   | 1,_=>
    intro o d w' Dn m ho f j k l h b c;have u0:d.eval (Z0 5)=Z6 (ZV ⟨q,0,ZW⟩):=(j.slot 5 eb).trans y;exact ag (v:=Z6 (ZV ⟨q,0,ZW⟩)) ee f ⟨zP b 1 ec,rfl,kq⟩
   | 2,_=>
    intro o d w' Dn m ho f j k l h b c;have u0:d.eval (Z0 19)=Z6 (ZV ⟨q,0,ZW⟩):=c 1 (h 1 ec);have I:w'.cell? ⟨q,0,ZW⟩=ZV (ZZ s):=La b E G;exact ag (v:=ZZ s) ee f ⟨zP b 2 ec,rfl,kq⟩
   | 3,_=>
    intro o d w' Dn m ho f j k l h b c;have u0:d.eval (Z0 18)=Z5 (ZV ⟨g,0,ZW⟩) 16 16:=c 0 (h 0 ec);have u1:d.eval (Z0 20)=ZZ s:=c 2 (h 2 ec);have H:w'=w.drew:=(by have:=b;unfold NO at this;rw [if_neg Y9] at this;exact this);subst H;have r:=Lib.run_copy_row_string (P:=ZM) w.drew 31 9 o.type 5 g 0 16 16 s (aJ (YD 16 0)).toArray 263 Ui t D x (by rw [Uy,aW];simpa using x);rw [show (aJ (YD 16 0)).toArray.toList=aJ (YD 16 0) from rfl,BQ s] at r;exact ag (v:=Z7 Z9 (s.size:Nat)) (by
     (conv at ho=>rhs;whnf);simp only [execOp,ho,resolve,invoke,builtin,Uo,UW,Uz,Vy,UD,U5,u0,u1,r];rfl) f ⟨by unfold NO;rw [if_pos ku],rfl,kq⟩
   | n+4,hn=>exact absurd hn ab2
 . rintro d w' F J ⟨Dn,B,b⟩ c;have e:d=Act.RL a 18 [Z5 (ZV ⟨g,0,ZW⟩) 16 16,Z6 (ZV ⟨q,0,ZW⟩),ZZ s,Z7 Z9 (s.size:Nat)]:=F.out _ rfl eb (λi p=>?_)
   . rw [e];exact C w' (by unfold NO at b;rw [if_pos (B 3 ec)] at b;exact b)
   . match i,p with
     | 0,_=>exact c 0 ec
     | 1,_=>exact c 1 ec
     | 2,_=>exact c 2 ec
     | 3,_=>exact c 3 ec
     | n+4,hn=>exact absurd hn ek
structure Pk (w:ZS) (l:a9) (v:ZR) (wr:ZS):Prop where
 own:wr.ownsRow w.heap.size 5 1 v l.length (aJ l)
 some_:v.ownBlock≠ZW
 below:bW w wr
def BR {v:ZR} (h:w.ownsRow base e size v n xs) (c:0<n):v.ownBlock≠ZW:=by
 rcases h.2 with ⟨_,b⟩|⟨g,cap,cur,a,_⟩
 . omega
 . rw [a];simp [Value.ownBlock]
def Pk.out {v:ZR} (h:Pk w l v wr) {S:Nat->Prop} (a:aa S wr w') (b:∀ k,S k->w.heap.size<=k) (hv:∀ k,v.ownBlock=ZV k->¬ S k):Pk w l v w':=
 ⟨bZ h.own a hv,h.some_,⟨a.os.trans h.below.os,a.tape.trans h.below.tape,a.output.trans h.below.output,TU h.below.size a.size,λk c=>(a.block k (eT h.below.size) (λq=>eT (b k q))).trans (h.below.block k c)⟩⟩
def Pk.num {v:ZR} (h:Pk w l v wr) (n s:Nat) (f:s<=8) (i:0<s) (d:l.length<=1000000000) :
 ZQ ZM 152 #[v,Z7 Z8 n,Z7 Z9 s] wr λe w'=>∃ b,e=Z3 b/\Pk w (l++be n s) b w'/\aa (λj=>v.ownBlock=ZV j) wr w':=by
 refine (eQ w.heap.size v l.length (aJ l) n s wr h.own h.below.size f d).mono ?_;rintro e w' ⟨b,rfl,ho,a,g⟩;refine ⟨b,rfl,⟨?_,BR ho eb,?_⟩,a⟩
 . rw [bK,T5,dD];exact ho
 . exact ⟨a.os.trans h.below.os,a.tape.trans h.below.tape,a.output.trans h.below.output,TU h.below.size a.size,λk c=>(a.block k (eT h.below.size) (λq=>eT (dX h.own q))).trans (h.below.block k c)⟩
def NP {v:ZR} (h:Pk w l v wr):w.heap.size<=wr.heap.size:=h.below.size
def PsR (w:ZS) (pre:a9) (st:a9) (v i:ZR) (wr:ZS):Prop:=∃ j:Nat,j<=st.length/\i=Z7 Z9 j/\Pk w (pre++(st.take j).flatMap (λs=>be s 4)) v wr
def aaP (w:ZS) (os:List Ob) (v i:ZR) (wr:ZS):Prop:=∃ k:Nat,k<=os.length/\i=Z7 Z9 k/\Pk w (aG (os.take k)) v wr
def P6 (w:ZS) (os:List Ob) (e:ZP) (w':ZS):Prop:=∃ g cap,e=Z3 (Z5 (ZV ⟨g,0,ZW⟩) (aG os).length cap)/\w'.ownsRow w.heap.size 5 1 (Z5 (ZV ⟨g,0,ZW⟩) (aG os).length cap) (aG os).length (aJ (aG os))/\bW w w'
theorem xQ {v:ZR} {os:List Ob} (hC:fa K w v os) (z:∀ o∈os,o.fit) (qj:os.length<=10000):ZQ ZM 122 #[v] w λe w'=>P6 w os e w':=by
 obtain ⟨ib,qg,hz,k0,k5⟩:=Ur Tryz.Sj;have F:∀ k,k<=os.length->(aG (os.take k)).length<=k*5000:=by
  intro k C;induction k with
  | zero=>simp [aG]
  | succ k ih=>
   have y:k<os.length:=eb;have:=ih eb;have l:=z _ (T4 y);rw [kN os k y,T5,fY l];have:=l.len;omega
 have ki:=ug hC z qj;have hp:=F os.length lR;rw [UU lR] at hp;obtain ⟨ao,c,rfl,_,P⟩:=hC;obtain ⟨N,I⟩:=nM (os.length);obtain ⟨M,G⟩:=nM ((aG os).length);rw [G] at ki hp;have W:=a7 P z F I G;rw [I] at qj ki hp ⊢;clear P z F I G;go_enter func122,ntmps122;go_wp2_with fail;refine ki.mono ?_;rintro e w1 ⟨rfl,ks⟩;have x7:=ks.size;have H1:=al ks;clear ks ki;go_wp2_with (at_make;refine abe w1 rfl (.const (Z7 Z9 0)) (Z0 10) 31 rfl w.heap.size 5 ib (Z7 .u8 0) 1 Ui qg hz k0 .i64 .i64 _ M l3 l3 rfl (by rw [k5];omega) eD x7 ?_;intro w2 qi qf);have qa:Pk w [] (Z5 (ZV ⟨w1.heap.size,0,ZW⟩) 0 M) w2:=⟨qi,vy,H1.out.grown qf H1.out.size (λk e=>Za)⟩;have H2:=al qa;clear qa qi qf;go_loopw [3,14] (λv i wr=>aaP w os v i wr) (λ_ i _=>N-(intOf i).toNat)
 case atStart=>exact ⟨0,T3 _,rfl,H2.out⟩
 case round=>
  clear H2;obtain ⟨k,C,rfl,a⟩:=hrel;rw [W.out.2.2.2.1] at C;by_cases xc:k<N
  . obtain ⟨P,z,F,I,G⟩:=W.out;have y:k<os.length:=eb;obtain ⟨b,off,rfl,x8,kx,qd⟩:=P (λe=>by rw [e] at y;cases y);obtain ⟨sv,c0,c1,c2,hI⟩:=qd k y;have l:=z _ (T4 y);have d0:wr.cell? ⟨b,off+k*3,ZW⟩=ZV (ZZ os[k].name):=(Uh (a.below.block b kx)).trans c0;have d1:wr.cell? ⟨b,off+k*3+1,ZW⟩=ZV (Z7 Z9 (os[k].size:Nat)):=(Uh (a.below.block b kx)).trans c1;have d2:wr.cell? ⟨b,off+k*3+2,ZW⟩=ZV sv:=(Uh (a.below.block b kx)).trans c2;have qy:=F k eb;have t:=kN os k y;obtain ⟨pre,k8⟩:=nM (aG (os.take k));obtain ⟨o,ho⟩:=nM (os[k]);rw [k8] at qy a t;rw [ho] at d0 d1 l hI t;obtain ⟨d,E,x1,x3,Q⟩:=hI;subst x1;obtain ⟨m,J⟩:=nM (o.RM.length);obtain ⟨nm,T⟩:=nM (o.name);obtain ⟨sz,U⟩:=nM (o.size);have ky:=l.name;have qs:=l.size;have qq:=l.len;rw [T] at d0 ky;rw [U] at d1 qs;rw [J] at d2 x3 qq;have x6:=a.below.size;have xa:((k:Nat):Int).toNat=k:=eb;have kv:bW wr (wr.alloc (Z4 #[ZZ nm,Z7 Z9 (sz:Int),.slice d m E] 130)):=bA wr _;have qo:(wr.alloc (Z4 #[ZZ nm,Z7 Z9 (sz:Int),.slice d m E] 130)).heap.size=wr.heap.size+1:=ek;have q5:(wr.alloc (Z4 #[ZZ nm,Z7 Z9 (sz:Int),.slice d m E] 130)).heap[wr.heap.size]?=ZV (Z4 #[ZZ nm,Z7 Z9 (sz:Int),.slice d m E] 130 (0,0)):=T9 _ _;obtain ⟨p,x4⟩:=nM (wr.alloc (Z4 #[ZZ nm,Z7 Z9 (sz:Int),.slice d m E] 130));rw [x4] at kv qo q5;have n:(p.alloc (Z4 (aJ (YD 16 0)).toArray 263)).heap[p.heap.size]?=ZV (Z4 (aJ (YD 16 0)).toArray 263 (0,0)):=T9 _ _;have kf:bW p (p.alloc (Z4 (aJ (YD 16 0)).toArray 263)):=bA p _;have qp:(p.alloc (Z4 (aJ (YD 16 0)).toArray 263)).heap.size=p.heap.size+1:=ek;obtain ⟨wb,q7⟩:=nM (p.alloc (Z4 (aJ (YD 16 0)).toArray 263));rw [q7] at n kf qp;have D:=(kf.block _ eb).trans q5;have x5:p.alloc (Z4 #[Z7 .u8 0,Z7 .u8 0,Z7 .u8 0,Z7 .u8 0,Z7 .u8 0,Z7 .u8 0,Z7 .u8 0,Z7 .u8 0,Z7 .u8 0,Z7 .u8 0,Z7 .u8 0,Z7 .u8 0,Z7 .u8 0,Z7 .u8 0,Z7 .u8 0,Z7 .u8 0] 263)=wb:=q7;have L:Pk w pre u3 wb:=(a.out (aa.RO kv (λ_=>False)) (λ_ h=>h.elim) (λ_ _ h=>h)).out (aa.RO kf (λ_=>False)) (λ_ h=>h.elim) (λ_ _ h=>h);have X:=hide7 Q l t ho J T U;have HB:=a5 L D n qp;clear a P z F I G qd c0 c1 c2 Q l t ho J T U L D n q7 q5 kv kf k8;go_wp2_with fail;obtain ⟨L,D,n,kb⟩:=HB.out;rw [qo] at n kb;obtain ⟨q,hq⟩:=nM (wr.heap.size);rw [hq] at D n kb x6;refine zQ (s:=nm) (q:=wr.heap.size) (g:=wr.heap.size+1) ky.2 (by rw [hq];exact n) (by rw [hq];simp [World.cell?,D]) eb ei rfl rfl rfl ?_;intro w6 kk;rw [hq] at kk ⊢;have kc:aa (λk=>k=q+1) wb w6:=by
     rw [kk];have R:=aF wb.drew (q+1) (aJ (gZ nm)).toArray;exact ⟨R.os,R.tape,R.output,R.size,λk C qz=>R.block k C (λe=>qz (UA e))⟩
    have A:Pk w pre u3 w6:=L.out kc (λk C=>eb) (λk C e=>bF L.own n ec (by rw [C,e]));have B:=(kc.block q eb eb).trans D;have O:w6.heap[q+1]?=ZV (Z4 (aJ (gZ nm)).toArray 263 (0,0)):=(by rw [kk];exact U3 _ _ _ _ _ _ n);have xd:=kc.size;have q0:w6.cell? ⟨q,0,ZW⟩=ZV (ZZ nm):=(by simp [World.cell?,B]);have qe:=A.num nm.size 1 eb eb eb;have H6:=a5 A B O qe;have x0:nm.size<=16:=ky.2;clear L D n kc A B O qe kk d0 d1 d2;rename_i q8
    refine q8 _ _ ?_;clear q8;simp only [Act.RL,Act.put,UL,UJ,UM];go_wp2_with fail;refine H6.out.2.2.2.mono ?_;rintro e w7 ⟨v7,rfl,km,ke⟩;obtain ⟨A,B,O,hx⟩:=H6.out;clear hx;have qk:=(ke.block q eb (λe=>bF A.own B ec e)).trans B;have kz:=(ke.block (q+1) eb (λe=>bF A.own O ec e)).trans O;have xe:=ke.size;have kh:(pre++be nm.size 1).length=pre.length+1:=(by rw [T5,dD]);have kj:(gZ nm).length=16:=xP x0;have he:Src ZM 1 31 (Z5 (ZV ⟨q+1,0,ZW⟩) 16 16) 16 (aJ (gZ nm)) w7:=U8 w7 Ui ⟨q+1,0,ZW⟩ 16 16 (aJ (gZ nm)) (by rw [aW,kj]) (λi u hu=>by
     have h9:w7.cell? ⟨q+1,i,ZW⟩=ZV u:=(by simp [World.cell?,kz];simpa using hu);unfold Addr.add;split
     . rename_i h0;subst h0;exact h9
     . rw [Uc];exact h9) (λu hu=>by obtain ⟨x,_,rfl⟩:=T1.1 hu;rfl)
    have h7:=km.own;rw [kh] at h7;have r:=a7 km qk kz he h7;clear A B O km ke qk kz he h7 q0;have qn:=NP r.out.1;go_wp2_with (show wpList _ _ _ ({ dst:=ZV 30,op:=_,type:=_,pos:=_,after:=_,guard:=_ }::_) _ _;refine af _ rfl (Z0 28) (Z0 29) 31 31 rfl w.heap.size 5 ib (Z7 .u8 0) 1 1 Ui qg hz k0 k5 rfl v7 (pre.length+1) (aJ (pre++be nm.size 1)) l3 (by exact r.out.2.2.2.2) _ l3 16 (aJ (gZ nm)) (by exact r.out.2.2.2.1) eD eb (by exact qn) ?_;intro v8 w8 q3 kg kr;have q4:w8.heap[q]?=ZV (Z4 #[ZZ nm,Z7 Z9 (sz:Int),.slice d m E] 130 (0,0)):=(kg.block q eb (λe=>bF r.out.1.own r.out.2.1 ec e.symm)).trans r.out.2.1;have q1:w8.cell? ⟨q,1,ZW⟩=ZV (Z7 Z9 (sz:Int)):=(by simp [World.cell?,q4]);have qb:Pk w ((pre++be nm.size 1)++gZ nm) v8 w8:=⟨(by rw [bK,T5,kh,kj];exact q3),BR q3 eb,r.out.1.below.grown kg qn (λj e=>dX r.out.1.own e)⟩;have xf:=kg.size;have V:=au qb q4;clear q3 kg kr q4 qb);refine (V.out.1.num sz 2 eb eb (by rw [T5,kh,kj];omega)).mono ?_;rintro e w9 ⟨v9,rfl,ko,q9⟩;have qm:=(q9.block q eb (λe=>bF V.out.1.own V.out.2 ec e)).trans V.out.2;have q2:w9.cell? ⟨q,2,ZW⟩=ZV (.slice d m E):=(by simp [World.cell?,qm]);obtain ⟨f,Y⟩:=nM (pre++be nm.size 1++gZ nm++be sz 2);have xb:f.length=pre.length+19:=(by rw [<- Y,T5,T5,kh,kj,dD]);rw [Y] at ko;have H9:=au ko Y;clear ko q9 qm q1 Y;go_wp2_with fail;go_loopw [3,39] (λv i hb=>PsR w f o.RM v i hb) (λ_ i _=>m-(intOf i).toNat)
    case atStart=>exact ⟨0,T3 _,rfl,by rw [VQ,List.flatMap_nil,V7];exact H9.out.1⟩
    case round=>
     obtain ⟨j,hj,rfl,a⟩:=hrel;rw [X.out.2.2.2.2.1] at hj;by_cases x9:j<m
     . obtain ⟨Q,l,t,ho,J,_,_⟩:=X.out;have S:j<o.RM.length:=eb;obtain ⟨sb,so,rfl,_,q6,k9⟩:=Q (λe=>by rw [e] at S;cases S);have cs:=(Uh (a.below.block sb q6)).trans (k9 j S);have x2:=l.st _ (T4 S);have hy:((o.RM.take j).flatMap (λs=>be s 4)).length=4*j:=(by rw [xO,Ud];omega);have qh:f++(o.RM.take (j+1)).flatMap (λs=>be s 4)=(f++(o.RM.take j).flatMap (λs=>be s 4))++be o.RM[j] 4:=by
        rw [Vd,T2 S,Wx,UI];simp
       have Z:=a.num o.RM[j] 4 eb eb (by rw [T5,hy];omega);rw [<- qh] at Z;obtain ⟨x,hx⟩:=nM (o.RM[j]);rw [hx] at cs x2 Z;have HP:=al Z;clear a Q l t ho J k9 Z qh hx hy;go_wp2_with fail;refine HP.out.mono ?_;rintro e wj ⟨vj,rfl,qc,_⟩;have Hj:=al qc;clear qc;go_wp2;go_roundw
       case rel=>exact ⟨j+1,eT X.out.2.2.2.2.1,e8,Hj.out⟩
       case measure=>simp [intOf];omega
     . have qv:j=m:=eb;have Hq:=al a;clear a;go_wp2;go_roundw
       case rel=>
        refine ⟨k+1,eT W.out.2.2.2.1,e8,?_⟩;obtain ⟨_,_,t,_,J,T,U⟩:=X.out;have kp:=Hq.out;rw [UU eb,<- H9.out.2] at kp;rw [t];unfold gT;rw [T,U];simp only [UI] at kp ⊢;exact kp
       case measure=>simp [intOf];omega
  . have qx:k=N:=eb;subst qx;have H:=al a;clear a;go_wp2;go_ret;have a:=H.out;obtain ⟨_,_,_,I,G⟩:=W.out;rw [UU eb] at a;rcases a.own.2 with ⟨h0,_⟩|⟨g,cap,cur,e1,_⟩
    . exact absurd (by rw [h0];rfl) a.some_
    . have ho:=a.own;rw [e1] at ho;exact ⟨g,cap,by rw [<- e1];rfl,ho,a.below⟩
def uh {vo:ZR} {os:List Ob} (c:fa (λk=>k<w.heap.size) w vo os) (d:∀ o∈os,o.fit) (b:os.length<=10000):Et w vo (aG os):=λ_ a=>xQ (c.keep ⟨a.size,λk e _=>a.block k e⟩) d b
theorem Eu (w:ZS):Et w (Z5 ZW 0 0) []:=by
 intro W _;go_enter func122,ntmps122;go_wp2_with fail;refine (length_nil W).mono ?_;rintro e w' ⟨rfl,rfl⟩;go_wp2_with (at_make;refine eo _ rfl (.const (Z7 Z9 0)) (Z0 10) rfl _ 0 rfl rfl rfl eb ?_;intro w2 b a c);have H:=au b a;clear b a;refine VL 1 ?_;rw [Vw];go_wp2;go_ret;obtain ⟨b,a⟩:=H.out;exact ⟨_,0,rfl,⟨rfl,.inr ⟨_,0,_,rfl,TV _,b.SR,TV _,eD,rfl,rfl⟩⟩,a⟩
def bp.weaken {v:ZR} (h:bp K w v l) (f:∀ k,K k->K' k):bp K' w v l:=by
 obtain ⟨ao,c,a,d,e⟩:=h;refine ⟨ao,c,a,d,λg=>?_⟩;obtain ⟨b,off,i,j,m⟩:=e g;exact ⟨b,off,i,f b j,m⟩
def Hw (h:3<=nb):(aX (tk nb ([]++an [])).1 nb).take 1=[2]/\1<=(aX (tk nb ([]++an [])).1 nb).length:=by
 have e:(tk nb ([]++an [])).1=λ_=>ZT:=rfl;rw [e];have b:aX (λ_=>ZT) 3=[2]:=by simp [aX,Vl]
 obtain ⟨r,a⟩:=kJ (λ_=>ZT) h;rw [b] at a;rw [<- a];exact ⟨rfl,ek⟩
def nQ (A:aA) (D L G:Nat):aA:=((A.putAt (YC A.n) 1 (λ_=>bx.filled.blk)).RT D L G [2] [] 1).putAt (YC A.n) 0 (λ_=>(bx.root D L G 1 2 0).blk)
def BS (h:w.ownsRow base 3 1 u n (jJ l)) (j:l≠[]) (hll:l.length<=1000000) {K:Nat->Prop} (hK:∀ k,base<=k->K k):∃ g c,u=Z5 (ZV ⟨g,0,ZW⟩) l.length c/\bp K w u l:=by
 have b:n=l.length:=by have:=h.1;unfold jJ at this;rw [TZ,VW] at this;omega
 rcases h.2 with ⟨_,m⟩|⟨g,cap,cur,a,d,e,_⟩
 . exact absurd (UK eb) j
 . refine ⟨g,cap,by rw [a,b],ZV ⟨g,0,ZW⟩,cap,by rw [a,b],hll,λ_=>⟨g,0,rfl,hK g d,(TW.1 e).1,λi f=>?_⟩⟩;have:=h.cells (g:=g) Zw i (Z7 Z9 ((l[i]:Nat):Int)) (by unfold jJ;simp [f]);rw [jU] at this;rw [Uc];exact this
theorem Hx {A:aA} (I:bf w ar v 0 0 0 0 0 0 (Z5 ZW 0 0) (Z5 ZW 0 0) off) (hV:rp w v p D L G ps ho A F) (hF:m8 F p A.n v) (ki:¬ F.has p A.n ar) (hf:A.fit) (hn:A.n=D+L+G) (hr:cJ D L G=ZU) (kb:1<=D) (hD:D<=12) (hL:1<=L) (kc:L<=4) (hG:G<=4) (k5:D%L=0) (J:D+L+G<=16)
 (kr:3<=A.nb) (hw:A.wait<0) (h5:∀ i,A.lost i=ZT) :
 ZQ ZM 71 #[Z6 (ZV ⟨ar,0,ZW⟩)] w λe w'=>e=Z3 .nilIface/\aj w' p (nQ A D L G) F/\(∃ u,bf w' ar v D L G 1 2 0 u (Z5 ZW 0 0) off/\bp (λk=>w.heap.size<=k) w' u [2])/\aa (λk=>k=ar\/F.has p A.n k) w w':=by
 go_enter func71,ntmps71;go_wp2_with fail;obtain ⟨S,hS⟩:=nM (2^(D+L+G)-1);have hs:ae S=YC A.n:=by rw [<- hS,hn];exact oL J
 have kf:S<65536:=by
  have:2^(D+L+G)<=2^16:=Vm ec J;omega
 have km:∀ X,bW w X->ZQ ZM 98 #[Z6 (ZV ⟨v,0,ZW⟩),Z7 Z9 (1:Nat),bm .filled,Z7 Z8 S] X λe w'=>(∃ z:Nat,e=Z3 (Z7 Z8 z))/\aj w' p (A.putAt (YC A.n) 1 (λ_=>bx.filled.blk)) F/\aa (F.has p A.n) w w':=λX hb=>by
  have h:=eL (hV.below hb lR) hF hf 1 S eb kf (λi O=>by rw [hs] at O;simpa using O) hw h5 .filled trivial oJ;rw [hs] at h;exact h.mono λe w' q=>⟨⟨_,q.1⟩,q.2.1,(aa.RO hb _).trans q.2.2⟩
 have hy:=kt (hV.vol.keep (w':=w.drew) rfl) hD kc hG J;rw [hS] at hy;have k0:=I.cells.1;have t:=aE km hy I;clear km hy hS hs kf;go_cut [16] from 5 to 15 (λ_ wx=>aj wx p (A.putAt (YC A.n) 1 (λ_=>bx.filled.blk)) F/\aa (F.has p A.n) w wx)
 case first=>
  go_region_with (first
   | (go_at_call 103;refine t.out.2.1.mono ?_;rintro e w5 ⟨rfl,kj⟩;have h7:bW w w5:=((TX _ w).drew).trans kj;have j0:=(t.out.2.2.keep (h7.block _ t.out.2.2.lt)).cells.1;have H5:=al h7;clear kj h7)
   | (go_at_call 98;refine (t.out.1 w5 H5.out).mono ?_;rintro e w6 ⟨⟨z,rfl⟩,ka,ke⟩;have H6:=au ka ke;clear ka ke))
  all_goals (go_wp2_with fail;go_meet;case rel=>exact H6.out)
 case rest=>
 rename ZS=>w1;obtain ⟨hm,j⟩:=hcut;clear k0 t;obtain ⟨l,m⟩:=nM (A.putAt (YC A.n) 1 (λ_=>bx.filled.blk));have s:l.fit:=by rw [<- m];exact hf.putAt _ _ _ λ_ _=>⟨dJ (r:=.filled) trivial,fO (r:=.filled) trivial⟩
 have hp:l.n=A.n/\l.nb=A.nb/\l.wait=A.wait/\l.lost=A.lost:=by rw [<- m];exact ⟨rfl,rfl,rfl,rfl⟩
 obtain ⟨a,y,V,W⟩:=hp;rw [m] at hm;have f:=I.keep (j.block _ I.lt ki);have d:=hV.turn hF j hm;have k7:=gG f d.vol kb eb 0 ec;have k6:pgs D 0=1:=by unfold pgs;rw [Xq eb];rfl
 rw [k6] at k7;have k8:=lZ f d.vol d.arr s (by rw [a];omega) [] [] (bp.nil _ _) (fa.nil _ _) 1 ec;obtain ⟨B,C⟩:=Hw (nb:=l.nb) (by rw [y];exact kr);rw [B,decide_eq_true C] at k8;have U:=hide7 f d j k7 k8 s m;clear f d j k7 k8 s m hm B C;go_wp2_with fail;refine U.out.2.2.2.1.mono ?_;rintro e w2 ⟨rfl,ks⟩;subst ks;go_wp2_with fail;refine U.out.2.2.2.2.1.mono ?_;rintro e w3 ⟨u,rfl,hc,P⟩;obtain ⟨f,d,j,_,_,s,m⟩:=U.out;have kh:=f.keep (P.block _ f.lt);have kg:=d.below P lR;obtain ⟨g,c,hu,hq⟩:=BS (K:=λk=>w2.heap.size<=k) hc ek ec (λk Q=>Q);subst hu;have M:bp (λk=>¬ F.has p l.n k) w3 (Z5 (ZV ⟨g,0,ZW⟩) [2].length c) [2]:=by
  obtain ⟨ao,Z,q1,q2,q3⟩:=hq;refine ⟨ao,Z,q1,q2,λhl=>?_⟩;obtain ⟨b,Y,r1,r2,T⟩:=q3 hl;exact ⟨b,Y,r1,λq=>eT (d.arr.RQ q),T⟩
 have kk:=nP kh kg (by rw [a];exact hF) (by rw [a];exact ki) s (by rw [a];exact hn) hr kb hD hL kc hG k5 J (by rw [V];exact hw) ((jK.here h5 D L G).congr a W) ZW 0 0 [] (λx R=>by cases R) ec (Eu w3) g 0 c [2] M ek (λx R=>by simp at R;subst R;rw [y];omega) (λk Q=>by simp at Q;subst Q;simp);have H:aa (F.has p A.n) w w3:=j.trans (aa.RO P _);have H3:=a8 kk H hq d f.lt j.size;clear kk H M hq kh kg hc P f d j s;go_wp2_with fail;refine H3.out.1.mono ?_;rintro e w4 ⟨rfl,E,N,o⟩;have H4:=aE E N o;clear E N o;go_wp2;go_ret;obtain ⟨E,N,o⟩:=H4.out;obtain ⟨_,H,M,d,ko,k9⟩:=H3.out;rw [a] at E o;refine ⟨rfl,?_,⟨_,N,?_⟩,(H.mono λ_ _ q=>.inr q).trans o⟩
 . unfold nQ;rw [m];exact E
 . obtain ⟨ao,Z,q1,q2,q3⟩:=M;refine ⟨ao,Z,q1,q2,λhl=>?_⟩;obtain ⟨b,Y,r1,r2,T,r4⟩:=q3 hl;have hz:b≠ar:=λe=>by omega
   have kp:¬ F.has p A.n b:=λq=>by have:=d.arr.RQ (k:=b) (by rw [a];exact q);omega
   refine ⟨b,Y,r1,TU k9 r2,TY T o.size,λi O=>?_⟩;exact (Uh (o.block b T (λq=>q.elim hz kp))).trans (r4 i O)
def sq:Ob:=⟨YH,0,[]⟩
def QY (a b:ByteArray):Bool:=Op.bytesLess a.toList b.toList || a.toList==b.toList
def ui (os:List Ob):Prop:=∀ i (_:i+1<os.length),QY (os.getD (i+1) sq).name (os.getD i sq).name=ZT
def Tryz.R7:(ZM.info? 130).map (λi=>(i.zero,i.size,i.bytes))=ZV (ZV (.agg #[ZZ YH,Z7 Z9 0,Z5 ZW 0 0]),3,48):=ei
def bp.ltS {v:ZR} (h:bp K w v l):bp (λk=>k<w.heap.size) w v l:=by
 obtain ⟨ao,c,d,e,f⟩:=h;refine ⟨ao,c,d,e,λg=>?_⟩;obtain ⟨b,off,i,_,a,j⟩:=f g;exact ⟨b,off,i,a,a,j⟩
def fa.ltS {v:ZR} {os:List Ob} (h:fa K w v os):fa (λk=>k<w.heap.size) w v os:=by
 obtain ⟨ao,c,d,e,f⟩:=h;refine ⟨ao,c,d,e,λj=>?_⟩;obtain ⟨b,off,l,_,a,m⟩:=f j;refine ⟨b,off,l,a,a,λi g=>?_⟩;obtain ⟨r,n,o,p,q⟩:=m i g;exact ⟨r,n,o,p,q.ltS⟩
def ay (w:ZS) (g:Nat) (e:ZO) (cur:List ZR):Prop:=w.heap[g]?=ZV (Z4 cur.toArray e (0,0))
def ay.lt (h:ay w g e cur):g<w.heap.size:=(TW.1 h).1
def ay.cell (h:ay w g e cur) {j:Nat} {u:ZR} (a:cur[j]?=ZV u):w.cell? ⟨g,j,ZW⟩=ZV u:=by
 unfold ay at h;simp [World.cell?,h,a]
def ay.R8 (h:ay w g e cur) (j:Nat):w.frozen? ⟨g,j,ZW⟩=ZT:=by
 unfold ay at h;simp [World.frozen?,h]
def ay.keep (h:ay w g e cur) (a:w'.heap[g]?=w.heap[g]?):ay w' g e cur:=a.trans h
def xR:∀ (vs:List ZR) (o:Nat) (cur:Array ZR),o+vs.length<=cur.size->vQ cur o vs=(cur.toList.take o++vs++cur.toList.drop (o+vs.length)).toArray
 | [],o,cur,_=>by simp [vQ]
 | v::r,o,cur,h=>by
  simp only [Um] at h ⊢;unfold vQ;rw [xR r (o+1) (cur.setIfInBounds o v) en,aba];have e:(cur.toList.set o v).take (o+1)=cur.toList.take o++[v]:=by
   rw [Vd,List.take_set_of_le (TV o),List.getElem?_set_self en];rfl
  have a:(cur.toList.set o v).drop (o+1+r.length)=cur.toList.drop (o+(r.length+1)):=by
   rw [List.drop_set_of_lt eb,(eb:o+1+r.length=o+(r.length+1))]
  rw [e,a];simp
def ay.set (h:ay w g e cur) (o:Nat) (vs:List ZR) (ho:o+vs.length<=cur.length):ay (w.setCells g o vs) g e (cur.take o++vs++cur.drop (o+vs.length)):=by
 unfold ay at h ⊢;rw [jr vs o w h,xR vs o cur.toArray (vE ho)]
def dC (w:ZS) (l z A elem:ZO) (k:Nat) (g o a d b h c f:Nat) (e:ZO) (cur cs:List ZR)
 (y:P.underlying l=ZV (.slice elem)) (q:(P.info? elem).map (·.size)=ZV k) (x:cs.length=Nat.min c a*k)
 (s:∀ j v,cs[j]?=ZV v->w.cell? ⟨b,h+j,ZW⟩=ZV v) (m:ay w g e cur) (ho:o+cs.length<=cur.length) (r:∀ v∈cs,v.oneCell'=ZU) :
 (Builtin.copy_ #[l,z] A #[Z5 (ZV ⟨g,o,ZW⟩) a d,Z5 (ZV ⟨b,h,ZW⟩) c f]).run P w=.ok (goInt (Nat.min c a)) (w.setCells g o cs):=by
 have u:=run_loadCells_list (P:=P) w ⟨b,h,ZW⟩ cs (λj v p=>by rw [Vj];exact s j v p);have n:=run_storeCells_cells (P:=P) g o cs 0 w (λj p=>by
  rw [Vs];rw [m.cell (T2 (by omega:o+j<cur.length))];rfl) (λj _=>m.R8 _) r
 cases hq:P.info? elem with
 | none=>simp [hq] at q
 | some i=>
  have t:i.size=k:=by simpa [hq] using q
  simp only [Vs] at n;simp [Builtin.copy_,Uw y,Builtin.lenOf,Builtin.firstCells,sizeOf,typeInfo,hq,t,<- x,u,n]
def uj (w:ZS) (t e h:ZO) (z:ZR) (g o n c:Nat) (d:ZO) (cur:List ZR) (ht:P.underlying t=ZV (.slice e)) (hv:∀ w,(zeroValue e).run P w=.ok z w) (k:0<n)
 (a:ay w g d cur) (ho:o+(Builtin.zeroCells z.cells n).toList.length<=cur.length) (f:∀ v∈(Builtin.zeroCells z.cells n).toList,v.oneCell'=ZU) :
 (Builtin.clear_ #[t] h #[Z5 (ZV ⟨g,o,ZW⟩) n c]).run P w=.ok (ZY #[]) (w.setCells g o (Builtin.zeroCells z.cells n).toList):=by
 have b:=run_storeCells_cells (P:=P) g o (Builtin.zeroCells z.cells n).toList 0 w (λj i=>by
  rw [Vs];rw [a.cell (T2 (by omega:o+j<cur.length))];rfl) (λj _=>a.R8 _) f
 simp only [Vs] at b;obtain ⟨m,rfl⟩:∃ m,n=m+1:=⟨n-1,eb⟩;simp [Builtin.clear_,Uw ht,hv,b]
def ju (x:Ob×ZR):List ZR:=[ZZ x.1.name,Z7 Z9 (x.1.size:Nat),x.2]
def bO (L:List (Ob×ZR)):List ZR:=L.flatMap ju
def bQ (L:List (Ob×ZR)):(bO L).length=L.length*3:=by
 induction L with
 | nil=>rfl
 | cons x L ih=>unfold bO at ih ⊢;rw [VR,T5,ih,Um];simp [ju];omega
def iQ (L M:List (Ob×ZR)):bO (L++M)=bO L++bO M:=by unfold bO;rw [Wx]
def BV (L:List (Ob×ZR)) (k:Nat):(bO L).take (k*3)=bO (L.take k):=by
 by_cases h:k<=L.length
 . have e:bO L=bO (L.take k)++bO (L.drop k):=(by rw [<- iQ,Wc]);have:(bO (L.take k)).length=k*3:=(by rw [bQ,Ud];omega);rw [e,XN eb,UU eb]
 . rw [UU (by rw [bQ];omega),UU eb]
def uk (L:List (Ob×ZR)) (k:Nat):(bO L).drop (k*3)=bO (L.drop k):=by
 by_cases h:k<=L.length
 . have e:bO L=bO (L.take k)++bO (L.drop k):=(by rw [<- iQ,Wc]);have a:(bO (L.take k)).length=k*3:=(by rw [bQ,Ud];omega);rw [e,<- a,List.drop_left]
 . rw [YM (by rw [bQ];omega),YM eb];rfl
def Lb (L:List (Ob×ZR)) (k:Nat) (d:k<L.length):(bO L)[k*3]?=ZV (ZZ L[k].1.name)/\(bO L)[k*3+1]?=ZV (Z7 Z9 (L[k].1.size:Nat))/\(bO L)[k*3+2]?=ZV L[k].2:=by
 have e:∀ j,(bO L)[k*3+j]?=(bO (L.drop k))[j]?:=λj=>by rw [<- uk,VM]
 have a:=e 0;have b:=e 1;have c:=e 2;rw [abh d] at a b c;exact ⟨a,b,c⟩
def FD {x:Ob×ZR} (h:∃ c sl b,x.2=.slice c sl b):∀ u∈ju x,u.oneCell'=ZU:=by
 obtain ⟨c,sl,b,e⟩:=h;intro u a;simp only [ju,Un,W4,or_false] at a;rcases a with rfl|rfl|rfl
 . rfl
 . rfl
 . rw [e];rfl
def NQ (K:Nat->Prop) (w:ZS) (L:List (Ob×ZR)):Prop:=∀ x∈L,bp K w x.2 x.1.RM
def NQ.one {L:List (Ob×ZR)} (h:NQ K w L):∀ u∈bO L,u.oneCell'=ZU:=by
 intro u a;unfold bO at a;rw [XP] at a;obtain ⟨x,d,b⟩:=a;obtain ⟨ao,c,e,_⟩:=h x d;exact FD ⟨ao,_,c,e⟩ u b
def bp.TC {v:ZR} (h:bp K w v l) (f:∀ k,K k->K' k):bp K' w v l:=by
 obtain ⟨ao,c,a,d,e⟩:=h;refine ⟨ao,c,a,d,λg=>?_⟩;obtain ⟨b,off,i,j,m⟩:=e g;exact ⟨b,off,i,f b j,m⟩
def NR {v:ZR} {os:List Ob} (h:fa K w v os):∃ L:List (Ob×ZR),L.map (·.1)=os/\NQ K w L/\∀ w',dN K w w'->Src ZM 3 113 v L.length (bO L) w':=by
 obtain ⟨ao,c,rfl,N,C⟩:=h;by_cases s:os=[]
 . subst s;refine ⟨[],rfl,λx l=>by simp at l,λw' _=>?_⟩;cases ao with
   | none=>exact Xm w' Vk c
   | some A=>exact U8 w' Vk A 0 c [] rfl (λj u a=>ZH) (λu I=>by simp at I)
 . obtain ⟨b,off,rfl,hK,F,r⟩:=C s;have D:∃ f:Nat->ZR,∀ i (d:i<os.length),w.cell? ⟨b,off+i*3,ZW⟩=ZV (ZZ os[i].name)/\w.cell? ⟨b,off+i*3+1,ZW⟩=ZV (Z7 Z9 (os[i].size:Nat))/\w.cell? ⟨b,off+i*3+2,ZW⟩=ZV (f i)/\bp K w (f i) os[i].RM:=by
    refine ⟨λi=>if d:i<os.length then Classical.choose (r i d) else .nilIface,λi d=>?_⟩;have:=abp (r i d);simpa [d] using this
   obtain ⟨f,z⟩:=D;obtain ⟨L,y⟩:∃ L:List (Ob×ZR),L=os.zipIdx.map (λq=>(q.1,f q.2)):=⟨_,rfl⟩;have p:L.length=os.length:=(by rw [y];simp);have g:∀ i (d:i<os.length),L[i]' eb=(os[i],f i):=λi d=>by subst y;simp
   have t:NQ K w L:=λx l=>by
    obtain ⟨i,d,e⟩:=Va l;rw [g i eb] at e;rw [<- e];exact (z i eb).2.2.2
   refine ⟨L,?_,t,?_⟩
   . refine U4 (by simp [p]) λi J B=>?_;rw [Vf,g i B]
   . intro w' G;have k:=G.2 b F hK;rw [<- p];refine U8 w' Vk ⟨b,off,ZW⟩ L.length c (bO L) (bQ L) (λj u a=>?_) t.one;rw [Vj];have M:j<L.length*3:=(by obtain ⟨q,_⟩:=UT.1 a;rwa [bQ] at q);have H:j/3<L.length:=eb;obtain ⟨m,n,o⟩:=Lb L (j/3) H;obtain ⟨b0,b1,b2,_⟩:=z (j/3) eb;rw [g (j/3) eb] at m n o;have E:j=j/3*3\/j=j/3*3+1\/j=j/3*3+2:=eb;rcases E with q|q|q
     . rw [q,m] at a;rw [q,<- a];exact (Uh k).trans b0
     . rw [q,n] at a;rw [q,<- a,<- Vb];exact (Uh k).trans b1
     . rw [q,o] at a;rw [q,<- a,<- Vb];exact (Uh k).trans b2
def uo {L:List (Ob×ZR)} (h:w.ownsRow base 130 3 u L.length (bO L)) (q:L.length<=1000000) (hK:∀ k,base<=k->K k) (n:NQ K w L):fa K w u (L.map (·.1)):=by
 rcases h.2 with ⟨rfl,r⟩|⟨g,cap,cur,rfl,o,d,s,t,v,m⟩
 . have:L=[]:=UK r;subst this;exact fa.nil _ _
 . refine ⟨ZV ⟨g,0,ZW⟩,cap,by rw [TZ],by rw [TZ];exact q,λ_=>⟨g,0,rfl,hK g o,(TW.1 d).1,λi b=>?_⟩⟩;rw [TZ] at b;obtain ⟨e,f,l⟩:=Lb L i b;have a:∀ j u,j<L.length*3->(bO L)[j]?=ZV u->w.cell? ⟨g,0+j,ZW⟩=ZV u:=λj u p c=>by
    rw [<- m,VP p] at c;rw [Uc];simp [World.cell?,d];simpa using c
   refine ⟨L[i].2,?_,?_,?_,?_⟩
   . rw [Vf];exact a _ _ eb e
   . rw [Vf,Vb];exact a _ _ eb f
   . rw [Vb];exact a _ _ eb l
   . rw [Vf];exact n _ (T4 b)
def Lc:∀ (x y:List UInt8),Op.bytesLess x y=decide (x<y)
 | [],[]=>by simp [Op.bytesLess]
 | _::_,[]=>by simp [Op.bytesLess]
 | [],_::_=>by simp [Op.bytesLess]
 | a::x,b::y=>by
  rw [Op.bytesLess,Lc x y];simp only [List.cons_lt_cons_iff];by_cases c:a<b<;>by_cases d:a=b<;>by_cases e:x<y<;>simp [c,d,e]
def jx (a b:ByteArray):Bool:=Op.bytesLess a.toList b.toList
def zR {a b:ByteArray}:jx a b=ZU↔a.toList<b.toList:=by unfold jx;rw [Lc];simp
def zS {a b:ByteArray}:jx a b=ZT↔¬ a.toList<b.toList:=by unfold jx;rw [Lc];simp
def nR (a:ByteArray):jx a a=ZT:=zS.2 (List.lt_irrefl _)
def mS {a b c:ByteArray} (h:jx a b=ZU) (k:jx b c=ZU):jx a c=ZU:=zR.2 (List.lt_trans (zR.1 h) (zR.1 k))
def toList_inj {a b:ByteArray} (h:a.toList=b.toList):a=b:=by
 have c:a.data.toList=b.data.toList:=by rw [<- Lib.toList_data,<- Lib.toList_data];exact h
 have d:a.data=b.data:=Array.toList_inj.1 c;cases a;cases b;simpa using d
def sr {a b:ByteArray} (h:jx a b=ZT) (k:jx b a=ZT):a=b:=toList_inj (List.le_antisymm (zS.1 k) (zS.1 h))
def Hy {a b:ByteArray} (h:QY a b=ZT):jx b a=ZU:=by
 unfold QY at h;rw [Yl] at h;cases hb:jx b a
 . have e:=sr (a:=a) (b:=b) h.1 hb;rw [e] at h;simp at h
 . rfl
def Up (ns:List ByteArray):Prop:=ns.Pairwise (λa b=>jx a b=ZU)
def aZ (os:List Ob):List ByteArray:=os.map (·.name)
def bG (os:List Ob):(aZ os).length=os.length:=by unfold aZ;rw [TZ]
def FE {os:List Ob} (a:i<os.length):os.getD i sq=os[i]:=by rw [T6,T2 a];rfl
def Hz (ns:List ByteArray) (h:∀ i (c:i+1<ns.length),jx ns[i] ns[i+1]=ZU):Up ns:=by
 unfold Up;rw [Wg];intro i j c a b;obtain ⟨d,rfl⟩:∃ d,j=i+1+d:=⟨j-(i+1),eb⟩;clear b;induction d with
 | zero=>exact h i a
 | succ d ih=>exact mS (ih eb) (h (i+1+d) a)
def zT {os:List Ob} (h:ui os):Up (aZ os):=by
 refine Hz _ λi a=>?_;rw [bG] at a;have:=Hy (h i a);rw [FE a,FE (by omega:i<os.length)] at this;have e:∀ j (b:j<os.length),(aZ os)[j]'(by rw [bG];exact b)=os[j].name:=λj b=>by unfold aZ;rw [Vf]
 rw [e i eb,e (i+1) a];exact this
def aI (ns:List ByteArray) (x:ByteArray):Nat:=(ns.takeWhile (λn=>jx n x)).length
def xS (ns:List ByteArray) (x:ByteArray):aI ns x<=ns.length:=by unfold aI;exact (List.takeWhile_prefix _).length_le
def gI:∀ (ns:List ByteArray) (x:ByteArray) (i:Nat),i<=ns.length->(∀ j (e:j<ns.length),j<i->jx ns[j] x=ZU)->(∀ a:i<ns.length,jx ns[i] x=ZT)->aI ns x=i
 | [],x,i,a,_,_=>by simp at a;subst a;rfl
 | n::ns,x,0,a,b,c=>by
  have:=c ek;unfold aI;rw [YG];simp at this;simp [this]
 | n::ns,x,i+1,a,b,c=>by
  have d:=b 0 ek eb;simp at d;have:=gI ns x i (vE a) (λj e g=>b (j+1) (YN e) eb) (λf=>c (YN f));unfold aI at this ⊢;rw [YG];simp [d,this]
def nt:∀ (ns:List ByteArray) (x:ByteArray) (j:Nat) (a:j<ns.length),j<aI ns x->jx ns[j] x=ZU
 | [],_,j,a,_=>ZH
 | n::ns,x,j,a,h=>by
  unfold aI at h;rw [YG] at h;cases b:jx n x
  . simp [b] at h
  . simp [b] at h;cases j with
    | zero=>simpa using b
    | succ j=>simpa using nt ns x j (vE a) (by unfold aI;omega)
def xT:∀ (ns:List ByteArray) (x:ByteArray) (a:aI ns x<ns.length),jx ns[aI ns x] x=ZT
 | [],x,a=>ZH
 | n::ns,x,a=>by
  by_cases b:jx n x=ZU
  . have e:aI (n::ns) x=aI ns x+1:=(by unfold aI;rw [YG];simp [b]);have c:=xT ns x (by rw [e] at a;simpa using a);simp only [e,X8];exact c
  . have e:aI (n::ns) x=0:=(by unfold aI;rw [YG];simp [b]);simp only [e,abf];simpa using b
def vV (b:Up ns) (x:ByteArray) (j:Nat) (f:j<ns.length) (h:aI ns x<=j):jx ns[j] x=ZT:=by
 have a:=xT ns x eb;rcases XQ h with e|d
 . subst e;exact a
 . unfold Up at b;rw [Wg] at b;have c:=b _ _ eb f d;cases hb:jx ns[j] x
   . rfl
   . rw [mS c hb] at a;cases a
def oY (a:Up ns) {x:ByteArray} {k:Nat} (b:k<ns.length) (e:ns[k]=x):aI ns x=k:=by
 refine gI ns x k (Nat.le_of_lt b) (λj d c=>?_) (λf=>by rw [e];exact nR x);unfold Up at a;rw [Wg] at a;have:=a j k d b c;rwa [e] at this
def ur (b:Up ns) {x:ByteArray} (c:x∈ns):∃ h:aI ns x<ns.length,ns[aI ns x]=x:=by
 obtain ⟨k,a,e⟩:=Va c;have:=oY b a e;exact ⟨eb,by simp only [this];exact e⟩
def HU (c:Up ns) {x:ByteArray} (m:x∉ns):Up (ns.take (aI ns x)++x::ns.drop (aI ns x)):=by
 have n:=xS ns x;unfold Up;rw [Yt,List.pairwise_cons];refine ⟨YI (YO _ _) c,⟨λa g=>?_,YI (YP _ _) c⟩,λa g b f=>?_⟩
 . obtain ⟨j,h,e⟩:=Va g;rw [Ue] at h;rw [WV] at e;have d:=vV c x (aI ns x+j) eb eb;rw [e] at d;cases f:jx x a
   . exact absurd (UV g) (by rw [sr d f];exact m)
   . rfl
 . obtain ⟨j,h,e⟩:=Va g;rw [Ud] at h;rw [WW] at e;have d:=nt ns x j eb eb;rw [e] at d;rcases Un.1 f with rfl|f
   . exact d
   . obtain ⟨i,l,k⟩:=Va f;rw [Ue] at l;rw [WV] at k;unfold Up at c;rw [Wg] at c;have:=c j (aI ns x+i) eb eb eb;rwa [e,k] at this
def Ld (b:Up ns) (k:Nat):Up (ns.take k++ns.drop (k+1)):=by
 refine YI ?_ b;have a:(ns.take k++ns.drop (k+1)).Sublist (ns.take k++ns.drop k):=List.Sublist.append (List.Sublist.refl _) (by rw [<- VF];exact YP _ _);rwa [Wc] at a
def FF (nb:Nat):∀ (l:a9) (s:(Nat->Bool)×Bool),(∀ x∈l,2<=x/\x<nb/\s.1 x=ZT)->l.Nodup->(l.foldl (eU nb) s).2=s.2/\∀ x,(l.foldl (eU nb) s).1 x=(s.1 x || decide (x∈l))
 | [],s,_,_=>⟨rfl,λx=>ek⟩
 | y::l,s,h,m=>by
  obtain ⟨p,r,g⟩:=h y (UO ..);obtain ⟨i,k⟩:=UF.1 m;have e:eU nb s y=(λj=>if j=y then ZU else s.1 j,s.2):=by
   unfold eU;rw [if_neg (λq=>by rcases q with q|q|q;omega;omega;rw [g] at q;cases q)]
  rw [Wf,e];obtain ⟨n,o⟩:=FF nb l (λj=>if j=y then ZU else s.1 j,s.2) (λx f=>by
   obtain ⟨a,b,c⟩:=h x (Ux _ f);have d:¬ x=y:=λq=>i (by rw [<- q];exact f);exact ⟨a,b,by show (if x=y then ZU else s.1 x)=ZT;rw [if_neg d];exact c⟩) k
  refine ⟨n,λx=>?_⟩;rw [o];show ((if x=y then ZU else s.1 x) || decide (x∈l))=(s.1 x || decide (x∈y::l));by_cases d:x=y
  . subst d;simp
  . rw [if_neg d];simp [d]
def OP (e:l.Nodup) (a:∀ x∈l,2<=x/\x<nb):(tk nb l).2=ZU/\∀ x,(tk nb l).1 x=decide (x∈l):=by
 obtain ⟨c,d⟩:=FF nb l (λ_=>ZT,ZU) (λx b=>⟨(a x b).1,(a x b).2,rfl⟩) e;exact ⟨c,λx=>by rw [show (tk nb l).1 x=_ from d x];rfl⟩
def qJ {T:Nat->Bool}:x∈aX T k↔x<k/\2<=x/\T x=ZT:=by
 unfold aX;rw [Vq,Uq];simp
def rA (T:Nat->Bool) (k:Nat):(aX T k).Nodup:=(YJ).filter _
def jg (e:l.Nodup) (d:∀ x∈l,2<=x/\x<nb) {x:Nat} (f:x∈aX (tk nb l).1 nb):(2<=x/\x<nb)/\x∉l:=by
 obtain ⟨b,c,a⟩:=qJ.1 f;rw [(OP e d).2] at a;exact ⟨⟨c,b⟩,of_decide_eq_false a⟩
def nS (b:l.Nodup) (a:∀ x∈l,2<=x/\x<nb) (c:Nat):(((aX (tk nb l).1 nb).take c)++l).Nodup/\∀ x∈((aX (tk nb l).1 nb).take c)++l,2<=x/\x<nb:=by
 refine ⟨Vc.2 ⟨(rA _ _).sublist (YO _ _),b,λx d y f e=>?_⟩,λx d=>?_⟩
 . subst e;exact (jg b a (US d)).2 f
 . rcases Ub.1 d with h|h
   . exact (jg b a (US h)).1
   . exact a x h
theorem l9 (c:l.Nodup) (a:∀ x∈l,2<=x/\x<nb):(aX (tk nb l).1 nb).length+l.length+2=max 2 nb:=by
 by_cases m:2<=nb
 . have k:((aX (tk nb l).1 nb)++l++[0,1]).Perm (YC nb):=by
    refine (List.perm_ext_iff_of_nodup ?_ YJ).2 λx=>?_
    . refine Vc.2 ⟨Vc.2 ⟨rA _ _,c,λx b y d e=>?_⟩,ec,λx b y d e=>?_⟩
      . subst e;exact (jg c a b).2 d
      . subst e;have g:2<=x:=by
         rcases Ub.1 b with h|h
         . exact (jg c a h).1.1
         . exact (a x h).1
        simp at d;omega
    . rw [Uq,Ub,Ub,qJ];constructor
      . rintro ((h|h)|h)
        . exact h.1
        . exact (a x h).2
        . simp at h;omega
      . intro h;by_cases g:2<=x
        . by_cases f:x∈l
          . exact .inl (.inr f)
          . exact .inl (.inl ⟨h,g,by rw [(OP c a).2];exact decide_eq_false f⟩)
        . exact .inr en
   have:=k.length_eq;simp at this;omega
 . have i:l=[]:=by
    cases l with
    | nil=>rfl
    | cons x l=>have:=a x (UO ..);omega
   subst i;have j:aX (tk nb []).1 nb=[]:=by
    rw [aby];intro x b;have:=qJ.1 b;omega
   rw [j];simp;omega
def mfl (a:g<L) (j:Nat) (b:j<D):mf (bE D L G) (D+g) j=if g*(D/L)<=j/\j<(g+1)*(D/L) then 1 else 0:=by
 unfold mf bE;have e:((YC D).map (fI D)++(YC L).map (eR D L)++(YC G).map (dn D)).getD (D+g) []=eR D L g:=by
  rw [UI,T6,Vp ek];simp only [TZ,Uv,Wu];rw [U7 (vE a)];simp [a]
 rw [e];unfold eR;simp [b]
def mfg (a:i<G) (j:Nat) (b:j<D):mf (bE D L G) (D+L+i) j=gi ((D+i)^^^j):=by
 unfold mf bE;have e:((YC D).map (fI D)++(YC L).map (eR D L)++(YC G).map (dn D)).getD (D+L+i) []=dn D i:=by
  rw [T6,Vp ek];simp only [T5,TZ,Uv,Wu];simp [a]
 rw [e];unfold dn;simp [b]
def P7 (o:1<=D) (p:D<=12) (q:G<=4) (k:D%L=0) (r:d<D+L+G):∃ j,j<D/\mf (bE D L G) d j≠0:=by
 by_cases a:d<D
 . refine ⟨d,a,?_⟩;unfold mf;rw [Fx D L G d a];unfold fI;simp [a]
 . by_cases n:d<D+L
   . obtain ⟨g,rfl⟩:∃ g,d=D+g:=⟨d-D,eb⟩;have h:g<L:=eb;have c:D/L*L=D:=Nat.div_mul_cancel (Nat.dvd_of_mod_eq_zero k);have m:0<D/L:=YQ λe=>by rw [e] at c;omega
     have f:g*(D/L)<D:=by
      have b:=Nat.mul_lt_mul_of_pos_right h m;rw [WB L,c] at b;exact b
     refine ⟨g*(D/L),f,?_⟩;rw [mfl h _ f,if_pos ⟨TV _,by rw [Xi];omega⟩];decide
   . obtain ⟨i,rfl⟩:∃ i,d=D+L+i:=⟨d-(D+L),eb⟩;have l:i<G:=eb;refine ⟨0,eb,?_⟩;rw [mfg l 0 eb,Vg];exact Q4 eb eb
theorem NS {lost:Nat} (w:1<=D) (g:D<=12) (h:G<=4) (v:D%L=0) (b:D+L+G<=16) (B:tells (lS D L G) (ae (aC (D+L+G) lost))=ZV C) (p:d<D+L+G) (F:lost.testBit d=ZU):0<jl (ae (bN (D+L+G) lost)) (aT 8 C (bN (D+L+G) lost)).1:=by
 apply YQ;intro n;obtain ⟨t,_⟩:=oW g h B;have o:=tS D L G g h;have e:D+(L+G)=D+L+G:=eb
 obtain ⟨k,r,y⟩:=Va ((cZ b).2 ⟨p,F⟩);obtain ⟨j,E,z⟩:=P7 w g h v p;have A:∀ i,i∈ae (bN (D+L+G) lost)->cy (aT 8 C (bN (D+L+G) lost)).1 i=ZT:=λi a=>by
  cases hr:cy (aT 8 C (bN (D+L+G) lost)).1 i
  . rfl
  . unfold jl at n;have:=UK n;have s:i∈(ae (bN (D+L+G) lost)).filter (cy (aT 8 C (bN (D+L+G) lost)).1):=Vq.2 ⟨a,hr⟩;rw [this] at s;cases s
 have c:=t.sum o (λi a=>by rw [e];exact ((cZ b).1 a).1) (λq=>if q=j then 1 else 0) (λq=>by show (if q=j then 1 else 0)<256;split<;>decide) k r;rw [e,y] at c;have I:=fM (f:=λi=>if i∈ae (aC (D+L+G) lost) then 0 else gm ((aT 8 C (bN (D+L+G) lost)).1.m k i) (xs (λq=>gm (mf (bE D L G) i q) (if q=j then 1 else 0)) D)) (D+L+G) (λi a=>by
  by_cases l:i∈ae (aC (D+L+G) lost)
  . rw [if_pos l]
  . have x:lost.testBit i=ZT:=by
     cases hb:lost.testBit i
     . rfl
     . exact absurd ((cZ b).2 ⟨a,hb⟩) l
    have:=ij.1 (A i ((oV b).2 ⟨a,x⟩)) k (by rw [t.told];exact r);rw [if_neg l,this,cM])
 rw [I] at c;have u:=pL (f:=λq=>gm (mf (bE D L G) d q) (if q=j then 1 else 0)) (k:=j) D E (λq _ H=>by rw [if_neg H,cL]);rw [u,if_pos rfl,iA _ (o.byt d j)] at c;exact z c.symm
structure CI (w:ZS) (D L G:Int) (X:ZS):Prop where
 par:X.heap[w.heap.size]?=ZV (Z4 #[Z7 Z9 D,Z7 Z9 L,Z7 Z9 G] 26 (0,0))
 res:X.heap[w.heap.size+1]?=ZV (Z4 #[Z7 Z9 0,Z5 ZW 0 0] 189 (0,0))
 below:bW w X
def CI.mono {X Y:ZS} {D L G:Int} (h:CI w D L G X) (a:Below B X Y) (b:w.heap.size+2<=B):CI w D L G Y:=
 ⟨(a.block _ eb).trans h.par,(a.block _ eb).trans h.res,h.below.trans (a.mono eb)⟩
def CI.new (w:ZS) (D L G:Int):CI w D L G ((w.alloc (Z4 #[Z7 Z9 D,Z7 Z9 L,Z7 Z9 G] 26)).alloc (Z4 #[Z7 Z9 0,Z5 ZW 0 0] 189)):=by
 refine ⟨?_,?_,(bA w _).alloc ek _⟩
 . rw [VN _ _ _ ek];exact XA _ _
 . have:=XA (w.alloc (Z4 #[Z7 Z9 D,Z7 Z9 L,Z7 Z9 G] 26)) (Z4 #[Z7 Z9 0,Z5 ZW 0 0] 189);rwa [Ua] at this
def P8 (n:Nat):Nat:=2^n-1
def Le (lost n:Nat) (a:lost<18446744073709551616) (b:n<=16):bits .and .u64 (lost:Int) (P8 n:Int)=((aC n lost:Nat):Int):=by
 have:=je b;have:0<2^n:=VH n;exact gh lost (2^n-1) a eb
def Lf (lost n:Nat) (a:n<=16):bits .andNot .u64 (P8 n:Int) ((aC n lost:Nat):Int)=((bN n lost:Nat):Int):=by
 have:=je a;have:=oU lost a;exact X5 (2^n-1) (aC n lost) eb eb
def P9 (D L G lost:Nat) (w:ZS) (e:ZP) (w':ZS):Prop:=
 bW w w'/\((tells (lS D L G) (ae (aC (D+L+G) lost))=ZW/\e=Z3 (ZY #[.agg #[Z7 Z9 0,Z5 ZW 0 0],.iface 54 (Z7 Z9 3)])) \/
  (∃ C v,tells (lS D L G) (ae (aC (D+L+G) lost))=ZV C/\e=Z3 (ZY #[.agg #[Z7 Z9 (1+((ae (aC (D+L+G) lost)).length:Int)),v],.nilIface]) /\
   w'.ownsRow w.heap.size 288 4 v (fK (aT 8 C (bN (D+L+G) lost)).1 (aC (D+L+G) lost) (bN (D+L+G) lost)).length (dW .u8 (fK (aT 8 C (bN (D+L+G) lost)).1 (aC (D+L+G) lost) (bN (D+L+G) lost)))))
def Lg {z:Int} (k:Nat) (a:k<=16) (b:z=(k:Int)) (w:ZS) :
 ZQ ZM 115 #[Z7 Z9 z] w λe w'=>e=Z3 (Z7 Z8 (P8 k:Int))/\w'=w:=by subst b;exact mH k a w
theorem vW (D L G lost:Nat) (hr:cJ D L G=ZU) (kc:1<=D) (B:D<=12) (hL:1<=L) (U:L<=4) (E:G<=4) (hs:D%L=0) (c:D+L+G<=16) (hl:lost<18446744073709551616) (w:ZS) (F:aK w) (h2:3<=w.heap.size) :
 ZQ ZM 190 #[.agg #[Z7 Z9 D,Z7 Z9 L,Z7 Z9 G],Z7 Z8 lost] w λe w'=>P9 D L G lost w e w':=by
 have h:=CI.new w D L G;have j:((w.alloc (Z4 #[Z7 Z9 (D:Int),Z7 Z9 (L:Int),Z7 Z9 (G:Int)] 26)).alloc (Z4 #[Z7 Z9 0,Z5 ZW 0 0] 189)).heap.size=w.heap.size+2:=ek
 obtain ⟨p0,p1,p2⟩:=eu h.par;have K:=au h j;clear h j;go_enter func190,ntmps190;go_wp2_with fail;refine (pQ D L G _).mono ?_;rintro e w1 ⟨rfl,o⟩;obtain ⟨h,j⟩:=K.out;try change Below _ _ _ at o
 rw [j] at o;have ke:=o.size;try change Below _ _ _ at ke
 rw [j] at ke;have z:=h.mono o lR;obtain ⟨p0,p1,p2⟩:=eu z.par;have M:=al z;clear K h j o z;go_wp2_with fail;refine (dU D L G _ eb eb eb).mono ?_;rintro e w2 ⟨rfl,H⟩;have ki:=H.size;have A:=M.out.mono H eb;obtain ⟨p0,p1,p2⟩:=eu A.par;have q:=al A;clear A H M;go_wp2_with fail;refine (Lg (D+L+G) c eb w2).mono ?_;rintro e J ⟨rfl,hy⟩;subst hy;have kg:=Le lost (D+L+G) hl c;go_wp2_with fail;refine (kZ D L G (aC (D+L+G) lost) hr kc B hL U E hs c (oU lost c) J (F.mono eb q.out.below) eb).mono ?_;rintro e a ⟨u,hg⟩;have kj:=u.size;have s:=q.out.mono u eb;have hz:=zeroCk;rcases hg with ⟨x,rfl⟩|⟨C,t,rfl⟩
 . have S:=bV dq;have n:bW a ((a.alloc (Z4 (aV dq) 322)).setRow a.heap.size (aV dq)):=(bA _ _).grown (aP _ _ _) ek (λk e=>D2);have d:=s.mono n eb;obtain ⟨r0,r1,g1,g0⟩:=az d.res;have b:=au d x;clear s d u n q x;go_wp2_with (refine V9 rfl 322 (Z0 8) (Z0 25) rfl a.heap.size (aV dq) rfl rfl 322 (aV dq) (aH.new a dq).heap (dA _) rfl (mO _) ?_);obtain ⟨R,x⟩:=b.out;have y:=gE (y':=Z5 ZW 0 0) (gD (x':=Z7 Z9 0) R.res);obtain ⟨n0,n1,_⟩:=az y;refine Uf (v:=ZY #[.agg #[Z7 Z9 0,Z5 ZW 0 0],.iface 54 (Z7 Z9 3)]) (by simp [results,results190,go_sem,n0,n1]) rfl ?_;exact ⟨(R.below.setCell (p:=⟨w.heap.size+1,0,ZW⟩) eP _).setCell (p:=⟨w.heap.size+1,1,ZW⟩) eP _,.inl ⟨x,rfl⟩⟩
 . have r:=(oW B E t).1;have Q:=zL B U E t;have O:dV (aT 8 C (bN (D+L+G) lost)).1:=⟨r.byt,r.le,eT r.So⟩;have kh:=Lf lost (D+L+G) c;have S:=bV C;have n:bW a ((a.alloc (Z4 (aV dq) 322)).setRow a.heap.size (aV C)):=(bA _ _).grown (aP _ _ _) ek (λk e=>D2);have X:aH ((a.alloc (Z4 (aV dq) 322)).setRow a.heap.size (aV C)) a.heap.size C:=(aH.new a dq).setRow C;have d:=s.mono n eb;have kb:((a.alloc (Z4 (aV dq) 322)).setRow a.heap.size (aV C)).heap.size=a.heap.size+1:=B2;have V:=F.mono eb d.below;have b:=a7 d X kb V t;have N:=au Q O;clear s d u n X kb V q t r Q O;go_wp2_with (first
    | refine V9 rfl 322 (Z0 8) (Z0 25) rfl a.heap.size (aV C) rfl rfl 322 (aV dq) (aH.new a dq).heap (dA _) (by rw [bV,bV]) (mO _) ?_
    | refine X6 rfl 322 (Z0 8) rfl a.heap.size rfl 322 (aV C) (0,0) _ b.out.2.1.heap Xk rfl (dA _) ?_)
   obtain ⟨w5,Z⟩:=nM ((a.alloc (Z4 (aV dq) 322)).setRow a.heap.size (aV C));rw [Z] at b ⊢;clear Z S hz;refine (Eg C (bN (D+L+G) lost) w5 N.out.1 (BD lost c) b.out.2.2.2.1 (eT b.out.2.2.1)).mono ?_;rintro e w7 ⟨rfl,I⟩;have kk:=I.size;have Y:=b.out.1.mono I (eT b.out.2.2.1);have kf:a.heap.size+1<=w7.heap.size:=(eT b.out.2.2.1);have T:=al Y;clear Y I;go_wp2_with fail;refine (Hk (aT 8 C (bN (D+L+G) lost)).1 (aC (D+L+G) lost) (bN (D+L+G) lost) w7 N.out.2 (oU lost c) (BD lost c) (F.mono eb T.out.below) eb).mono ?_;rintro e w8 ⟨v,rfl,W,l⟩;obtain ⟨ao,m,f,rfl⟩:∃ ao m f,v=.slice ao m f:=by
    rcases l.2 with ⟨rfl,_⟩|⟨g,cap,cur,rfl,_⟩
    . exact ⟨_,_,_,rfl⟩
    . exact ⟨_,_,_,rfl⟩
   have i:=T.out.mono W eb;obtain ⟨r0,r1,g1,g0⟩:=az i.res;have H8:=au i l;clear i l W;go_wp2;obtain ⟨i,l⟩:=H8.out;have y:=gE (y':=.slice ao m f) (gD (x':=Z7 Z9 (1+((ae (aC (D+L+G) lost)).length:Int))) i.res);obtain ⟨n0,n1,_⟩:=az y;have P:(Value.slice ao m f).ownBlock≠ZV (w.heap.size+1):=λe=>eT (jI l e)
   have hx:=(l.kept (cT w8 (w.heap.size+1) 0 (Z7 Z9 (1+((ae (aC (D+L+G) lost)).length:Int)))) (.inr P)).kept (cT _ (w.heap.size+1) 1 (.slice ao m f)) (.inr P);refine Uf (v:=ZY #[.agg #[Z7 Z9 (1+((ae (aC (D+L+G) lost)).length:Int)),.slice ao m f],.nilIface]) (by simp [results,results190,go_sem,n0,n1]) rfl ?_;exact ⟨(i.below.setCell (p:=⟨w.heap.size+1,0,ZW⟩) eP _).setCell (p:=⟨w.heap.size+1,1,ZW⟩) eP _,.inr ⟨C,_,b.out.2.2.2.2,rfl,fW hx eb⟩⟩
def bH (D L G lost:Int) (rd:Bool):ZR:=.agg #[Z7 Z9 D,Z7 Z9 L,Z7 Z9 G,Z7 Z8 lost,Z1 rd]
def oZ (e:Bool) (D L G lost:Int) (rd:Bool) (w:ZS):(Instr.checkKey e 10000 186 (bH D L G lost rd)).run ZM w=.ok () w:=ei
theorem NT (D L G lost:Int) (rd:Bool) (w:ZS):(Op.equal 186 (bH D L G lost rd) (bH D L G lost rd)).run ZM w=.ok ZU w:=by
 unfold bH Op.equal Op.maxDepth;go_simp
def uv {es:Array MapEntry} (h:w.heap[m]?=ZV (.map es n)):(getObj m).run ZM w=.ok (.map es n) w:=by simp [getObj,Sem.run,h]
def Lh {es:Array MapEntry} (h:w.heap[m]?=ZV (.map es n)) (o:Obj):(setObj m o).run ZM w=.ok () (w.putObj m o):=by simp [setObj,Sem.run,h,World.putObj]
def jv (w:ZS) (n:Nat) (D L G lost:Int) (rd:Bool) (regs:Int) (steps:ZR) (ne ol:ZR):Prop:=w.heap[n]?=ZV (Z4 (nl D L G lost rd regs steps ne ol) 236 (0,0))
def jv.lt {D L G:Int} {ol:ZR} (h:jv w n D L G lost rd regs steps ne ol):n<w.heap.size:=(TW.1 h).1
def jv.cells {D L G:Int} {ol:ZR} (h:jv w n D L G lost rd regs steps ne ol):w.cell? ⟨n,7,ZW⟩=ZV ne/\w.cell? ⟨n,8,ZW⟩=ZV ol/\w.frozen? ⟨n,7,ZW⟩=ZT/\w.frozen? ⟨n,8,ZW⟩=ZT:=by
 have a:w.heap[n]?=ZV (Z4 (nl D L G lost rd regs steps ne ol) 236 (0,0)):=h;simp [World.cell?,World.frozen?,a,nl]
def jv.S8 {D L G:Int} {ol:ZR} (h:jv w n D L G lost rd regs steps ne ol) (x:ZR):jv (w.setCell ⟨n,7,ZW⟩ x) n D L G lost rd regs steps x ol:=ai (j:=7) h x
def jv.SV {D L G:Int} {ol:ZR} (h:jv w n D L G lost rd regs steps ne ol) (x:ZR):jv (w.setCell ⟨n,8,ZW⟩ x) n D L G lost rd regs steps ne x:=ai (j:=8) h x
def jv.keep {D L G:Int} {ol:ZR} (h:jv w n D L G lost rd regs steps ne ol) (e:w'.heap[n]?=w.heap[n]?):jv w' n D L G lost rd regs steps ne ol:=e.trans h
def eN (w:ZS) (b i j:Nat) (x y:ZR):aa (λk=>k=b) w ((w.setCell ⟨b,i,ZW⟩ x).setCell ⟨b,j,ZW⟩ y):=by
 have a:aa (λk=>k=b) w (w.setCell ⟨b,i,ZW⟩ x):=aa.setCell _ _ _ rfl;have c:aa (λk=>k=b) (w.setCell ⟨b,i,ZW⟩ x) ((w.setCell ⟨b,i,ZW⟩ x).setCell ⟨b,j,ZW⟩ y):=aa.setCell _ _ _ rfl;exact a.trans c
def aab (w:ZS) (sb n:Nat):Prop:=jv w sb 0 0 0 0 ZT 0 (Z5 ZW 0 0) (Z6 (ZV ⟨n,0,ZW⟩)) (Z6 (ZV ⟨n,0,ZW⟩))
def fA (w:ZS) (sb:Nat) (room:Int):Prop:=w.heap[sb+1+1]?=ZV (Z4 #[Z7 Z9 room,.map (ZV (sb+1)),Z6 (ZV ⟨sb,0,ZW⟩)] 239 (0,0))
def jv.value {D L G:Int} {ol:ZR} (h:jv w n D L G lost rd regs steps ne ol):w.cell? ⟨n,5,ZW⟩=ZV (Z7 Z9 regs)/\w.cell? ⟨n,6,ZW⟩=ZV steps:=by
 have a:w.heap[n]?=ZV (Z4 (nl D L G lost rd regs steps ne ol) 236 (0,0)):=h;simp [World.cell?,a,nl]
def fZ (b:fA w sb room):w.cell? ⟨sb+1+1,0,ZW⟩=ZV (Z7 Z9 room)/\w.cell? ⟨sb+1+1,1,ZW⟩=ZV (.map (ZV (sb+1)))/\w.cell? ⟨sb+1+1,2,ZW⟩=ZV (Z6 (ZV ⟨sb,0,ZW⟩)):=by
 have a:w.heap[sb+1+1]?=_:=b;simp [World.cell?,a]
def aa.putObj (w:ZS) (m:Nat) (o:Obj) (h:S m):aa S w (w.putObj m o):=⟨rfl,rfl,rfl,W7,λk _ a=>UE (λe=>a (e▸h))⟩
def Li (P:List St) (D c:List a9) (k:Nat) (h:(cF P k).k=0):bU P D c (k+1)=(bU P D c k).set (cF P k).a.toNat (D.getD (cF P k).b.toNat [])/\dM P D c (k+1)=dM P D c k:=by
 simp [bU,dM,dL,im,h]
def NU (P:List St) (D d:List a9) (k:Nat) (h:(cF P k).k=1):bU P D d (k+1)=(bU P D d k).set (cF P k).a.toNat (iJ ((bU P D d k).getD (cF P k).a.toNat []) ((bU P D d k).getD (cF P k).b.toNat []) (cF P k).c)/\dM P D d (k+1)=dM P D d k:=by
 simp [bU,dM,dL,im,h]
def NV (P:List St) (D c:List a9) (k:Nat) (h:(cF P k).k=2):bU P D c (k+1)=bU P D c k/\dM P D c (k+1)=dM P D c k++[((cF P k).b,(bU P D c k).getD (cF P k).a.toNat [])]:=by
 simp [bU,dM,dL,im,h]
def RnR (w0:ZS) (B:Nat) (P:List St) (D R0:List a9) (n r gR:Nat) (vO iv:ZR) (wr:ZS):Prop:=
 ∃ k T O,k<=P.length/\iv=Z7 Z9 (k:Nat)/\Rn w0 B P D R0 n r gR k vO T O wr
def Qa (regs:Int) (P:List St) (D:List a9) (gone:Nat) (w:ZS) (e:ZP) (w':ZS):Prop:=
 (iI regs P D.length->ja P D gone->∃ v O,e=Z3 (ZY #[v,.nilIface])/\m9 270 w' w.heap.size v O/\O.map (λq=>(q.1,q.2.2.2.take q.2.2.1))=dM P D (eZ regs.toNat (gN P D)) P.length) /\
 (iI regs P D.length->¬ ja P D gone->e=Z3 (ZY #[Z5 ZW 0 0,.iface 54 (Z7 Z9 2)]))/\(¬ iI regs P D.length->e=Z3 (ZY #[Z5 ZW 0 0,.iface 54 (Z7 Z9 4)]))/\bW w w'
def m9.weaken {t:ZO} {base':Nat} {v:ZR} {O:List (Int×Nat×Nat×a9)} (h:m9 t w base v O) (c:base'<=base):m9 t w base' v O:=
 ⟨cE h.own c,λq d=>by obtain ⟨a,b⟩:=h.row q d;exact ⟨eb,b⟩,h.nodup⟩
def Tryz.Ta:(ZM.info? 270).map (λi=>(i.zero,i.size,i.bytes))=ZV (ZV (.agg #[Z7 Z9 0,Z5 ZW 0 0]),2,32):=ei
def NW (w:ZS) (n:Nat) (a:n=w.heap.size) (x y:ZR) (t:ZO):∀ j v,[x,y][j]?=ZV v->(w.alloc (Z4 #[x,y] t)).cell? ((⟨n,0,ZW⟩:Addr).add j)=ZV v:=by
 subst a;intro j v hv;rw [jU];rcases j with _|_|j;all_goals simp at hv
 all_goals subst hv;simp
def aaQ (w:ZS) (k a b c:ZR) (t:ZO):∃ d,w.alloc (Z4 #[k,a,b,c] t)=d/\bW w d/\d.heap.size=w.heap.size+1/\d.cell? ⟨w.heap.size,1,ZW⟩=ZV a/\d.cell? ⟨w.heap.size,2,ZW⟩=ZV b/\d.cell? ⟨w.heap.size,3,ZW⟩=ZV c:=
 ⟨_,rfl,bA _ _,Ug _ _,ek,ek,ek⟩
theorem NX (regs:Int) (v:ZR) (P:List St) (U ci:Nat) (D:List a9) (gone:Nat) (w:ZS) (h:Ps .u8 w v P) (hP:∀ s∈P,zj s) (W:In w U D gone) (xe:U<w.heap.size) (q3:∀ l∈D,l.length<=100000) (K:P.length<=5000) :
 ZQ ZM 155 #[.agg #[Z7 Z9 regs,v],Z5 (ZV ⟨U,0,ZW⟩) D.length ci] w λe w'=>Qa regs P D gone w e w':=by
 obtain ⟨i0,x3,xa,xb,xc⟩:=Ur Tryz.Ta;have kg:bW w (w.alloc (Z4 #[Z7 Z9 regs,v] 189)):=bA _ _;have h0:=h.mono kg;obtain ⟨ao,c,rfl⟩:=h.slice;go_enter func155,ntmps155;go_wp2_with fail;refine (GE regs D.length _ P _ h0).mono ?_;rintro e w1 ⟨ks,kv,L⟩;try change Below _ _ _ at L
 rw [Ug] at L;obtain ⟨p0,p1⟩:=Rm L rfl;have x8:=L.size;try change Below _ _ _ at x8
 rw [Ug] at x8;have h5:=kg.trans (L.mono eb);by_cases J:iI regs P D.length
 . have G:=ks J;subst G;obtain ⟨⟨g0,g1,g2⟩,hz⟩:=id J;obtain ⟨r,rfl⟩:∃ r:Nat,regs=(r:Int):=⟨regs.toNat,eb⟩;have q9:=al J;have qq:=al hz;have hr:∀ i,i<P.length->(cF P i).k=0->0<=(cF P i).b/\(cF P i).b<(D.length:Int):=by
    intro i hi hk;rw [eI P i hi] at *;rcases hz i hi with h|h
    . exact ⟨h.2.2.2.1,h.2.2.2.2⟩
    . omega
   have q5:r<=32:=eb;have h1:=h.mono h5;have qd:=W.mono h5;clear J hz ks kv h0 L kg g0 g1;go_wp2_with fail;refine (pU _ P U ci D gone w1 h1 qd q3 hr K).mono ?_;rintro e w2 ⟨ky,kz,k7⟩;have q0:=(k7.cell (T8 p0)).trans p0;have q1:=(k7.cell (T8 p1)).trans p1;have k8:=h5.trans (k7.mono eb);have xg:=k7.size;clear hr h1 qd p0 p1 h5 k7;by_cases C:ja P D gone
   . have G:=ky C;subst G;have qj:=GF C;have kb:=al C;have q7:=al (Pt C);clear C ky kz;obtain ⟨n,E⟩:=nM (gN P D);have HN:=al E;rw [E] at qj q7;rw [E];clear E;go_wp2_with fail;refine (zC r n w2 q5 qj).mono ?_;rintro e w3 ⟨y,T0,rfl,qf,qc,kp⟩;have x9:=kp.size;have hd:=(kp.cell (T8 q1)).trans q1;have qe:Rn w2 w2.heap.size P D (eZ r n) n r y 0 (Z5 ZW 0 0) T0 [] w3:=⟨qf,qc,λl K=>by
      have:=Vn (show l∈YD r (YD n 0) from K);rw [this];simp,m9.nil _ _ _,rfl,λp _ q hq=>by simp at hq,kp,x9⟩
     have qb:=al qe;clear qe qf qc q0 q1;go_wp2;clear hd;go_loopw [10,37] (λvO iv wr=>RnR w2 w2.heap.size P D (eZ r n) n r y vO iv wr) (λ_ iv _=>P.length-(intOf iv).toNat)
     case atStart=>exact ⟨0,T0,[],T3 _,rfl,qb.out⟩
     case round=>
      clear qb;rename ZS=>wo;obtain ⟨k,T,O,hk,rfl,Y⟩:=hrel;have xi:=Y.size;have kr:=k8.trans (Y.below.mono eb);by_cases I:k<P.length
      . rcases (h.mono kr).cases with ⟨rfl,_⟩|⟨b,off,cc,e,_,hc⟩
        . simp at I
        simp at e;obtain ⟨rfl,rfl⟩:=e;obtain ⟨d0,d1,d2,d3⟩:=hc k I;have hz:=qq.out k I;unfold iH at hz;have qi:=hP _ (T4 I);have ka:=eI P k I;have B:=al (Li P D (eZ r n) k);have Z:=al (NU P D (eZ r n) k);have hs:=al (NV P D (eZ r n) k);have kc:=al (kb.out k I);have k5:=al (q7.out k I);have h4:Hid (Nj P D gone k↔((cF P k).k=0->¬ rk gone (cF P k).b.toNat/\fl P D (k+1)=ZV (D.getD (cF P k).b.toNat []).length/\(D.getD (cF P k).b.toNat []).length<=4096)):=Iff.rfl;rw [ka] at B Z hs k5 h4;have qo:=al (W.mono kr);have HC:=al hc;have t:=al Y;have HI:=al W;have HH:=al h;have xd:=al hP;clear hc Y W h hP ka;have qk:=qi.2.2.2.2.2;clear qi;generalize P[k].k=sk at *;generalize P[k].a=sa at *;generalize P[k].b=sb at *;generalize P[k].c=M at *;obtain ⟨d,k0,z,xh,b1,b2,b3⟩:=aaQ wo (Z7 .u8 (sk:Int)) (Z7 Z9 sa) (Z7 Z9 sb) (Z7 .u8 (M:Int)) 288;have kj:=al (t.out.next z);rcases hz with ⟨q2,a0,a1,x0,x1⟩|⟨x4,a0,a1,x0,x1,xf⟩
        . obtain ⟨A,rfl⟩:∃ A:Nat,sa=(A:Int):=⟨sa.toNat,eb⟩;obtain ⟨X,rfl⟩:∃ X:Nat,sb=(X:Int):=⟨sb.toNat,eb⟩;have hA:A<r:=eb;have hX:X<D.length:=eb;obtain ⟨g,H,t1,u,o,F,t5,t6,t7,t8,t9⟩:=t.out.reg A hA;replace t1:=(z.cell (T8 t1)).trans t1
          replace u:=u.below z
          rw [VO,VO] at B;rw [VO] at hs;rcases q2 with rfl|rfl
          . have h6:Hid (wo.alloc (Z4 #[Z7 .u8 0,Z7 Z9 (A:Int),Z7 Z9 (X:Int),Z7 .u8 (M:Int)] 288)=d):=k0;have qh:D.getD X []=D[X]:=(by simp [hX]);have q4:=h4.out.1 kc.out rfl;have kh:=k5.out rfl;rw [VO,qh] at q4 kh;rw [qh] at B;obtain ⟨ax,cx,u1,u2⟩:=(qo.out X hX).2 q4.1;have N:=(z.cell (T8 u1)).trans u1;have hb:=u2.mono z;have qm:∀ x∈D[X],x<256:=by
             obtain ⟨_,_,_,_,_,h,_⟩:=u2;exact h
            obtain ⟨wc,hh,kf,f⟩:=KB d.drew 3 g n n _ D[X] (ZV ax) cx u hb kh o;have HW:=al ((kj.out.next (show bW d d.drew from ⟨rfl,rfl,rfl,TV _,λ_ _=>rfl⟩)).write H o f kf kh qm (B.out rfl).1 (B.out rfl).2);rw [kh] at N hh;have kk:=al hh;have z1:=f.cell (show d.drew.cell? ⟨wo.heap.size,1,ZW⟩=_ from b1) en;have z2:=f.cell (show d.drew.cell? ⟨wo.heap.size,2,ZW⟩=_ from b2) en;have z3:=f.cell (show d.drew.cell? ⟨y,A,ZW⟩=_ from t1) en;have z4:=f.cell (show d.drew.cell? ⟨U,X,ZW⟩=_ from N) en;clear hh kf f u1 u2 hb H u o F B Z hs kc k5 h4 q4 qm k0;go_wp2;rw [h6.out];go_region_held3 (λw'=>w'.cell? ⟨wo.heap.size,1,ZW⟩=ZV (Z7 Z9 (A:Int))/\w'.cell? ⟨wo.heap.size,2,ZW⟩=ZV (Z7 Z9 (X:Int))/\w'.cell? ⟨y,A,ZW⟩=ZV (Z5 (ZV ⟨g,0,ZW⟩) n n)/\w'.cell? ⟨U,X,ZW⟩=ZV (Z5 (ZV ax) n cx)) (first|exact ⟨b1,b2,t1,N⟩|exact ⟨z1,z2,z3,z4⟩) (refine GY rfl (Z0 49) (Z0 54) rfl _ _ _ rfl rfl kk.out ?_);go_wp2;go_roundw
            case rel=>
             obtain ⟨T',ko⟩:=HW.out;exact ⟨k+1,T',O,eb,e8,ko⟩
            case measure=>simp [intOf];omega
          . have h6:Hid (wo.alloc (Z4 #[Z7 .u8 2,Z7 Z9 (A:Int),Z7 Z9 (X:Int),Z7 .u8 (M:Int)] 288)=d):=k0;have hx:=kj.out.next (show bW d d.drew from ⟨rfl,rfl,rfl,TV _,λ_ _=>rfl⟩);have hol:=hx.olen;have kx:=DJ ⟨g,0,ZW⟩ n _ d.drew (by have:=Bs.SD (n:=n) (show aM d.drew g _ from u) eb eb F;rw [UU eb,o] at this;rw [o];exact this) eb;rw [o] at kx;have qn:=al kx;have k6:=al hx;have qa:=al (hs.out rfl);have ke:=al o;have km:=al F;have q8:=al (λj hj=>(t.out.outs.own.lt j hj).2);have qp:=al (tH t.out.RZ.own t.out.outs.own);have z1:d.drew.cell? ⟨wo.heap.size,1,ZW⟩=ZV (Z7 Z9 (A:Int)):=b1;have z2:d.drew.cell? ⟨wo.heap.size,2,ZW⟩=ZV (Z7 Z9 (X:Int)):=b2;have z3:d.drew.cell? ⟨y,A,ZW⟩=ZV (Z5 (ZV ⟨g,0,ZW⟩) n n):=t1;clear kx hx H u o F B Z hs kc k5 h4 k0;go_wp2;rw [h6.out];go_region_held3 (λw'=>w'.cell? ⟨wo.heap.size,1,ZW⟩=ZV (Z7 Z9 (A:Int))/\w'.cell? ⟨wo.heap.size,2,ZW⟩=ZV (Z7 Z9 (X:Int))/\w'.cell? ⟨y,A,ZW⟩=ZV (Z5 (ZV ⟨g,0,ZW⟩) n n)) (first|exact ⟨b1,b2,t1⟩|exact ⟨Q,R,S⟩|exact ⟨((bA _ _).cell (T8 Q)).trans Q,((bA _ _).cell (T8 R)).trans R,((bA _ _).cell (T8 S)).trans S⟩|exact ⟨qr,xj,xk⟩)
             (first
              | (go_at_call 176;refine qn.out.mono ?_;rintro e wd ⟨bd,m,rfl,qz,qx,x7,V⟩
                 have Q:=(V.cell (T8 z1)).trans z1;have R:=(V.cell (T8 z2)).trans z2;have S:=(V.cell (T8 z3)).trans z3)
              | (refine step_append_lies _ rfl (Z0 73) (Z0 83) 266 rfl w2.heap.size 270 i0 (.agg #[Z7 Z9 0,Z5 ZW 0 0]) 2 32 underlying266 x3 xa xb xc rfl ec u10 O.length (qu O) rfl ((k6.out.next V).next (bA _ _)).outs.own ⟨wd.heap.size,0,ZW⟩ 1 1 [Z7 Z9 (X:Int),Z5 (ZV ⟨bd,0,ZW⟩) n (n+m)] rfl rfl (NW _ _ rfl _ _ _) (by intro q hq;simp at hq;rcases hq with rfl|rfl<;>rfl) eb eD eb (by have:=((k6.out.next V).next ((TX _ _).alloc lR (Z4 #[Z7 Z9 (X:Int),Z5 (ZV ⟨bd,0,ZW⟩) n (n+m)] 270))).size;exact this) _ rfl ?_;intro g5 xm w5 k9 h8 qy x6
                 have qr:=h8.cell (((bA _ _).cell (T8 Q)).trans Q) (λe=>by have:=q8.out _ e.symm;simp at this);have xj:=h8.cell (((bA _ _).cell (T8 R)).trans R) (λe=>by have:=q8.out _ e.symm;simp at this);have xk:=h8.cell (((bA _ _).cell (T8 S)).trans S) (λe=>qp.out e.symm)))
            go_wp2;go_roundw
            case rel=>exact ⟨k+1,T,_,eb,e8,k6.out.put V qz qx ke.out eb x7 km.out h8 k9 qa.out.1 qa.out.2⟩
            case measure=>simp [intOf];omega
        . obtain ⟨A,rfl⟩:∃ A:Nat,sa=(A:Int):=⟨sa.toNat,eb⟩;obtain ⟨X,rfl⟩:∃ X:Nat,sb=(X:Int):=⟨sb.toNat,eb⟩;have hA:A<r:=eb;have hX:X<r:=eb;have qv:A≠X:=eb;obtain ⟨g,H,t1,u,o,F,t5,t6,t7,t8,t9⟩:=t.out.reg A hA;obtain ⟨g',qg,s1,s2,s3,s4,s5,s6,s7,s8,s9⟩:=t.out.reg X hX;have x2:=t.out.reg_ne H qg qv;replace t1:=(z.cell (T8 t1)).trans t1
          replace u:=u.below z
          replace s1:=(z.cell (T8 s1)).trans s1
          replace s2:=s2.below z
          rw [VO,VO] at Z;subst x4;have h6:Hid (wo.alloc (Z4 #[Z7 .u8 1,Z7 Z9 (A:Int),Z7 Z9 (X:Int),Z7 .u8 (M:Int)] 288)=d):=k0;have hx:=kj.out.next (show bW d d.drew from ⟨rfl,rfl,rfl,TV _,λ_ _=>rfl⟩);have ki:=al (zE g g' n M _ _ d.drew qk u s2 o s3 x2 F s4 eb);have k6:=al hx;have q6:=al (Z.out rfl);have qs:=al H;have ke:=al o;have km:=al F;have z1:d.drew.cell? ⟨wo.heap.size,1,ZW⟩=ZV (Z7 Z9 (A:Int)):=b1;have z2:d.drew.cell? ⟨wo.heap.size,2,ZW⟩=ZV (Z7 Z9 (X:Int)):=b2;have z3:d.drew.cell? ⟨wo.heap.size,3,ZW⟩=ZV (Z7 .u8 (M:Int)):=b3;have z4:d.drew.cell? ⟨y,A,ZW⟩=ZV (Z5 (ZV ⟨g,0,ZW⟩) n n):=t1;have z5:d.drew.cell? ⟨y,X,ZW⟩=ZV (Z5 (ZV ⟨g',0,ZW⟩) n n):=s1;clear hx H qg u o F s2 s3 s4 B Z hs kc k5 h4 k0;go_wp2;rw [h6.out];go_region_held3 (λw'=>w'.cell? ⟨wo.heap.size,1,ZW⟩=ZV (Z7 Z9 (A:Int))/\w'.cell? ⟨wo.heap.size,2,ZW⟩=ZV (Z7 Z9 (X:Int))/\w'.cell? ⟨wo.heap.size,3,ZW⟩=ZV (Z7 .u8 (M:Int))/\w'.cell? ⟨y,A,ZW⟩=ZV (Z5 (ZV ⟨g,0,ZW⟩) n n)/\w'.cell? ⟨y,X,ZW⟩=ZV (Z5 (ZV ⟨g',0,ZW⟩) n n)) (first|exact ⟨b1,b2,b3,t1,s1⟩|exact ⟨Q,R,S,y4,y5⟩)
           (first
            | (go_at_call 164;refine ki.out.mono ?_;rintro e wc ⟨rfl,kf,f⟩
               have Q:=f.cell z1 en;have R:=f.cell z2 en;have S:=f.cell z3 en;have y4:=f.cell z4 en;have y5:=f.cell z5 en))
          go_wp2;go_roundw
          case rel=>
           obtain ⟨T',ko⟩:=k6.out.write qs.out ke.out f kf (by rw [tG];exact ke.out) (G0 km.out qk) q6.out.1 q6.out.2;exact ⟨k+1,T',O,eb,e8,ko⟩
          case measure=>simp [intOf];omega
      . have x5:k=P.length:=eb;subst x5;have t:=al Y;clear Y h hP W;go_wp2;go_ret2;refine ⟨λ_ _=>⟨_,O,rfl,t.out.outs.weaken eb,?_⟩,λ_ K=>absurd kb.out K,λE=>absurd q9.out E,kr⟩;rw [HN.out,VO];exact t.out.vals
   . have G:=kz C;subst G;have kb:=al C;clear C ky kz;go_wp2;go_ret2;exact ⟨λ_ K=>absurd K kb.out,λ_ _=>rfl,λE=>absurd q9.out E,k8⟩
 . have G:=kv J;subst G;have HN:=al J;clear J ks kv h0 h hP W L kg;go_wp2;go_ret2;exact ⟨λhp=>absurd hp HN.out,λhp=>absurd hp HN.out,λ_=>rfl,h5⟩
def Qb (w:ZS) (d b:Nat) (n:Int) (mk:ZR->ZR) (e:ZP) (w':ZS):Prop:=e=Z3 (mk (sm (w.heap.size+1)))/\fG w' (w.heap.size+1) d b n/\bW w w'
theorem Lj {A:aA} (h:aj w p A F) (s:A.fit) (d b:Nat) (f:d<A.n) (r:A.nb<=b) (t:A.wait≠0) (g:A.lost d=ZT) :
 ZQ ZM 28 #[Z6 (ZV ⟨p,0,ZW⟩),Z7 Z9 d,Z7 Z9 b] w λe w'=>e=Z3 (ZY #[.pointer ZW,sm w.heap.size])/\w'=w.alloc (Z4 #[Z7 Z9 d,Z7 Z9 b,Z7 Z9 12] 94):=by
 obtain ⟨i,c1,_,_⟩:=h.R4;obtain ⟨a,d1,j,k⟩:=h.Sd d f;rw [g] at a;have l:¬ (d:Int)<0:=eb
 have m:¬ (A.n:Int)<=(d:Int):=eb
 have c:(d:Int)<(A.n:Int):=eb
 have o:¬ (b:Int)<0:=eb
 have q:(A.nb:Int)<=(b:Int):=eb
 go_enter func28,ntmps28;go_wp2;go_ret2;exact ⟨rfl,rfl⟩
theorem Lk {A:aA} (h:aj w p A F) (H:A.fit) (d b:Nat) (E:d<A.n) (D:A.nb<=b) (I:A.wait≠0) (s:A.lost d=ZT) :
 ZQ ZM 131 #[Z6 (ZV ⟨p,0,ZW⟩),Z7 Z9 d,Z7 Z9 b] w (Qb w d b 12 (λx=>ZY #[.agg (aw zb),x])):=by
 have K:=zeroBlk;have m:=h.alloc (Z4 (aw zb) 40);have a:=aS.new w zb;have g:bW w (w.alloc (Z4 (aw zb) 40)):=bA w _;obtain ⟨w1,o⟩:=nM (w.alloc (Z4 (aw zb) 40));have J:w1.heap.size=w.heap.size+1:=by rw [<- o];simp
 rw [o] at m a g;have y:=Lj m H d b E D I s;have l:=au a g;clear h m a g;go_enter func131,ntmps131;go_wp2_with fail;refine y.mono ?_;rintro e w2 ⟨rfl,r⟩;obtain ⟨a,g⟩:=l.out;have f:fG w2 w1.heap.size d b 12:=by rw [r];exact fG.new _ _ _ _
 have c:bW w1 w2:=by rw [r];exact bA w1 _
 have i:aS w2 w.heap.size zb:=a.keep (c.block _ a.lt);obtain ⟨q,k⟩:=nM (w1.heap.size);rw [k] at f ⊢;unfold sm;have t:=a5 f c i k;clear a g f c i k r y o;go_wp2_with (refine eG rfl (Z0 6) (Z0 19) rfl w.heap.size zb zb rfl rfl t.out.2.2.1 bw bw ?_);obtain ⟨f,c,i,k⟩:=t.out;have B:=i.setRow zb;have C:=iW B bw;refine Uf (v:=ZY #[.agg (aw zb),.iface 92 (Z6 (ZV ⟨q,0,ZW⟩))]) (dK results131 _ _ _ _ _ rfl rfl C) rfl ?_;have G:=l.out.2.size;have u:∀ j,j≠w.heap.size->j<w2.heap.size->(w2.setRow w.heap.size (aw zb)).heap[j]?=w2.heap[j]?:=λj z s=>(aF w2 w.heap.size (aw zb)).block j s (λe=>by cases e;exact z rfl);obtain rfl:q=w.heap.size+1:=eb
 refine ⟨rfl,(u _ eb f.lt).trans f,?_⟩;exact (l.out.2.trans (c.mono G)).trans ⟨rfl,rfl,rfl,B2,λj z=>u j eb (eT c.size)⟩
theorem zU {A:aA} (h:aq w p A F) (K:A.fit) (d b:Nat) (x:d<A.n) (H:b<A.nb) (R:A.wait≠0) (C:A.lost d=ZT) (L:A.bad d b=ZU) :
 ZQ ZM 131 #[Z6 (ZV ⟨p,0,ZW⟩),Z7 Z9 d,Z7 Z9 b] w λe w'=>e=Z3 (ZY #[.agg (aw zb),sm (w.heap.size+1)])/\fG w' (w.heap.size+1) d b 12 /\
  aq w' p (A.RS d (wrap64 (A.reads d+1))) F/\aa (F.has p A.n) w w':=by
 have hz:=zeroBlk;have c:=h.alloc (Z4 (aw zb) 40);have z:=aS.new w zb;have Z:=h.g_lt;have o:∀ k,F.has p A.n k->k<w.heap.size:=λk m=>h.RQ m;have y:aa (F.has p A.n) w (w.alloc (Z4 (aw zb) 40)):=aa.alloc w _;obtain ⟨w1,J⟩:=nM (w.alloc (Z4 (aw zb) 40));have G:w1.heap.size=w.heap.size+1:=by rw [<- J];simp
 rw [J] at c z y;go_enter func131,ntmps131;go_wp2_with fail;refine (sX c K d b x H R C).mono ?_;rintro e w' ⟨rfl,rfl⟩;have i:=c.RS d (wrap64 (A.reads d+1));obtain ⟨U,d1,V,W⟩:=c.Sd d x;have Y:=c.SB (d*4+3);obtain ⟨w2,t⟩:=nM (w'.setCell ⟨F.g,d*4+3,ZW⟩ (Z7 Z9 (wrap64 (A.reads d+1))));have Q:w2.heap.size=w'.heap.size:=by rw [<- t];simp [World.setCell]
 rw [t] at i;obtain ⟨q0,q1,q2,q3⟩:=i.Sd d x;have S:w2.cell? ⟨F.bd d,b,ZW⟩=ZV (Z1 (A.bad d b)):=i.badC d b x H;rw [L] at S;have B:aS w2 w.heap.size zb:=z.keep (by rw [<- t];exact T7 _ _ _ _ (by show w.heap.size≠F.g;omega));have I:aa (F.has p A.n) w w2:=y.trans (by rw [<- t];exact aa.setCell _ _ _ (.inr (.inl rfl)));have X:¬ (b:Int)<0:=eb
 obtain ⟨a,u⟩:=nM (w2.alloc (Z4 #[Z7 Z9 d,Z7 Z9 b,Z7 Z9 12] 94));have f:fG a (w.heap.size+1) d b 12:=by rw [<- u,<- G,<- Q];exact fG.new _ _ _ _
 have s:aS a w.heap.size zb:=by rw [<- u];exact B.keep ((bA w2 _).block _ B.lt)
 have l:aq a p (A.RS d (wrap64 (A.reads d+1))) F:=by rw [<- u];exact i.alloc _
 have r:aa (F.has p A.n) w a:=I.trans (by rw [<- u];exact aa.alloc _ _);have D:=a8 f s l r o G;obtain ⟨q,P⟩:=nM (w.heap.size+1);have hy:w2.heap.size=q:=eb
 clear f s l r o y I c i z B h;go_wp2_with (refine eG rfl (Z0 6) (Z0 35) rfl w.heap.size zb zb rfl rfl (by exact D.out.2.1) bw bw ?_);obtain ⟨f,s,l,r,o,_⟩:=D.out;have N:=s.setRow zb;have O:=iW N bw;refine Uf (v:=ZY #[.agg (aw zb),.iface 92 (Z6 (ZV ⟨q,0,ZW⟩))]) (dK results131 _ _ _ _ _ rfl rfl O) rfl ?_;have E:∀ j,j≠w.heap.size->j<a.heap.size->(a.setRow w.heap.size (aw zb)).heap[j]?=a.heap[j]?:=λj M C=>(aF a w.heap.size (aw zb)).block j C (λe=>by cases e;exact M rfl);subst P;exact ⟨rfl,(E _ eb f.lt).trans f,l.keep λk m=>E k (eT (o k m)) (l.RQ m),r.later (T:=λk=>k=w.heap.size) (aa.setRow _ _ _ rfl) λk m e=>absurd e eb⟩
def aA.TA (A:aA) (d b:Nat):Prop:=A.lost d=ZT/\b<A.nb/\A.bad d b=ZT
instance (A:aA) (d b:Nat):Decidable (A.TA d b):=by unfold aA.TA;infer_instance
def aA.R9 (A:aA) (d b:Nat):Option bx:=if A.TA d b then MR (A.blk d b) else ZW
def aA.cnt (A:aA) (d b:Nat):aA:=if A.lost d=ZT/\b<A.nb then A.RS d (wrap64 (A.reads d+1)) else A
def aA.SM (A:aA) (d:Nat):Int:=if A.lost d=ZU then 11 else 12
theorem FG (A:aA) (d:Nat):A.SM d≠13:=by unfold aA.SM;split<;>decide
def Qc (w:ZS) (p d b:Nat) (A:aA) (F:aR) (e:ZP) (w':ZS):Prop:=
 aj w' p (A.cnt d b) F/\aa (F.has p A.n) w w'/\((A.TA d b/\e=Z3 (ZY #[.agg (aw (A.blk d b)),.nilIface]))\/(¬ A.TA d b/\∃ q,e=Z3 (ZY #[.agg (aw zb),sm q])/\w.heap.size<=q/\fG w' q d b (A.SM d)))
def Ll {A:aA} (h:aj w p A F) (l:A.fit) (d b:Nat) (i:d<A.n) (j:A.wait≠0) :
 ZQ ZM 131 #[Z6 (ZV ⟨p,0,ZW⟩),Z7 Z9 d,Z7 Z9 b] w (Qc w p d b A F):=by
 cases hl:A.lost d with
 | true=>
  refine (Hn h l d b i j hl).mono ?_;rintro e w' ⟨rfl,f,a⟩;refine ⟨?_,aa.RO a _,.inr ⟨(λq=>by rw [q.1] at hl;cases hl),_,rfl,eb,?_⟩⟩
  . unfold aA.cnt;rw [if_neg (λq=>by rw [q.1] at hl;cases hl)];exact h.below a lR
  . unfold aA.SM;rw [if_pos hl];exact f
 | false=>
  have s:A.SM d=12:=by unfold aA.SM;rw [hl];rfl
  by_cases a:b<A.nb
  . have r:A.cnt d b=A.RS d (wrap64 (A.reads d+1)):=(by unfold aA.cnt;rw [if_pos ⟨hl,a⟩]);cases h0:A.bad d b with
    | false=>
     refine (Na h l d b i a j hl h0).mono ?_;rintro e w' ⟨rfl,k,g⟩;exact ⟨by rw [r];exact k,g,.inl ⟨⟨hl,a,h0⟩,rfl⟩⟩
    | true=>
     obtain ⟨R,t,m,c⟩:=id h;obtain ⟨v,u⟩:=c.here d hl;refine (zU t m d b (by rw [c.n];exact i) (by rw [c.nb];exact a) (by rw [c.wait];exact j) (by rw [c.lost];exact hl) (by rw [u];exact h0)).mono ?_;rintro e w' ⟨rfl,f,k,g⟩;rw [c.n] at g;refine ⟨?_,g,.inr ⟨(λq=>by rw [q.2.2] at h0;cases h0),_,rfl,eb,by rw [s];exact f⟩⟩;rw [r];exact ⟨_,k,m.RS _ _,by rw [c.reads];exact c.RS _ _⟩
  . refine (Lk h l d b i eb j hl).mono ?_;rintro e w' ⟨rfl,f,o⟩;refine ⟨?_,aa.RO o _,.inr ⟨λq=>a q.2.1,_,rfl,eb,by rw [s];exact f⟩⟩;unfold aA.cnt;rw [if_neg λq=>a q.2];exact h.below o lR
def Qd (w:ZS) (p d b:Nat) (A:aA) (F:aR) (e:ZP) (w':ZS):Prop:=
 aj w' p (A.cnt d b) F/\aa (F.has p A.n) w w'/\((∃ r,A.R9 d b=ZV r/\e=Z3 (ZY #[bm r,.nilIface]))\/(A.R9 d b=ZW/\∃ q n,e=Z3 (ZY #[.nilIface,sm q])/\w.heap.size<=q/\fG w' q d b n/\(n=11↔A.lost d=ZU)/\n≠13))
theorem rB {A:aA} (Z:bk w v p D L G ps ho) (h:aj w p A F) (K:A.fit) (d b:Nat) (hd:d<A.n) (hw:A.wait≠0) (hv:aY w) (hg:¬ F.has p A.n 2) :
 ZQ ZM 96 #[Z6 (ZV ⟨v,0,ZW⟩),Z7 Z9 d,Z7 Z9 b] w (Qd w p d b A F):=by
 obtain ⟨V,_⟩:=Z.cells;have hz:=zeroBlk;have hc:=Ll h K d b hd hw;have B:=K.len d b;have ha:=K.byt d b;have k8:∀ k,F.has p A.n k->k<w.heap.size:=λk j=>h.RQ j;have k9:(A.cnt d b).n=A.n:=by unfold aA.cnt;split<;>rfl
 have x:=a5 ha k8 k9 hv;clear Z h ha k8 k9 hv;go_enter func96,ntmps96;go_wp2_with fail;refine hc.mono ?_;rintro e w1 ⟨M,H,kf⟩;clear hc;have kg:=H.size;have I:=aS.new w1 zb;have C:=M.alloc (Z4 (aw zb) 40);have N:aa (F.has p A.n) w (w1.alloc (Z4 (aw zb) 40)):=H.trans (aa.alloc _ _);have Q:∀ k,F.has p A.n k->k≠w1.heap.size:=λk j e=>eT (x.out.2.1 k j)
 have y:∀ l:a9,aj ((w1.alloc (Z4 (aw zb) 40)).setRow w1.heap.size (aw l)) p (A.cnt d b) F/\aa (F.has p A.n) w ((w1.alloc (Z4 (aw zb) 40)).setRow w1.heap.size (aw l)):=λl=>
  ⟨C.keep λk j=>(aF _ _ _).block k (C.RQ j) (λe=>Q k (by rw [x.out.2.2.1] at j;exact j) Zq),N.later (T:=λk=>k=w1.heap.size) (aa.setRow _ _ _ rfl) (λk j e=>absurd e eb)⟩
 rcases kf with ⟨R,rfl⟩|⟨kb,q,rfl,u,P⟩
 . obtain ⟨l,hll⟩:=nM (A.blk d b);rw [hll] at B ⊢;have a:A.R9 d b=MR l:=(by unfold aA.R9;rw [if_pos R,hll]);have ka:¬ A.lost d=ZU:=(by rw [R.1];exact nofun);have c:=a5 I (y l) a hll;have ke:=al ka;clear M H I C N Q y V R a hll ka;go_wp2_with (first|(refine eG rfl (Z0 8) (Z0 20) rfl w1.heap.size l zb rfl rfl c.out.1 bw B ?_)|(refine mD rfl (Z0 8) rfl w1.heap.size l rfl (c.out.1.setRow l) B ?_));obtain ⟨m,i⟩:=c.out.2.1;obtain ⟨w3,t⟩:=nM ((w1.alloc (Z4 (aw zb) 40)).setRow w1.heap.size (aw l));rw [t] at m i ⊢;have ho:=PJ l w3 B (by rw [<- c.out.2.2.2];exact x.out.1) (x.out.2.2.2.outside i hg);have g:=au m i;clear m i t;refine ho.mono ?_;rintro e o ⟨rfl,J⟩;have E:=g.out.1.below J lR;have s:aa (F.has p A.n) w o:=g.out.2.trans (aa.RO J _);cases hr:MR l with
   | some r=>
    have a:=c.out.2.2.1;rw [hr] at a;have f:=aE E s a;clear ho J E s a c hr;obtain ⟨rv,S⟩:=nM (bm r);have HR:=al S;unfold ofV;simp only [S];clear S;go_wp2;go_ret2;exact ⟨f.out.1,f.out.2.1,.inl ⟨r,f.out.2.2,by rw [HR.out];rfl⟩⟩
   | none=>
    have a:=c.out.2.2.1;rw [hr] at a;obtain ⟨w5,kc⟩:=nM (o.alloc (Z4 #[Z7 Z9 d,Z7 Z9 b,Z7 Z9 12] 94));have Y:fG w5 o.heap.size d b 12:=(by rw [<- kc];exact fG.new _ _ _ _);have O:bW o w5:=(by rw [<- kc];exact bA o _);have f:=a7 (E.below O lR) (s.trans (aa.RO O _)) a Y s.size;clear ho J E s a c hr O Y;unfold ofV;go_wp2;go_ret2;exact ⟨f.out.1,f.out.2.1,.inr ⟨f.out.2.2.1,_,12,rfl,f.out.2.2.2.2,f.out.2.2.2.1,⟨(λe=>Za),λe=>absurd e ke.out⟩,ec⟩⟩
 . have a:A.R9 d b=ZW:=(by unfold aA.R9;rw [if_neg kb]);have X:fG ((w1.alloc (Z4 (aw zb) 40)).setRow w1.heap.size (aw zb)) q d b (A.SM d):=by
    have W:fG (w1.alloc (Z4 (aw zb) 40)) q d b (A.SM d):=P.below (bA w1 _);exact ((aF _ _ _).block q W.lt (λe=>by have:=P.lt;cases e;omega)).trans W
   have c:=a7 I (y zb) a X u;clear M H I C N Q y V kb a P X u;unfold sm;go_wp2_with (refine eG rfl (Z0 8) (Z0 20) rfl w1.heap.size zb zb rfl rfl c.out.1 bw bw ?_);obtain ⟨_,⟨m,i⟩,a,z,u⟩:=c.out;obtain ⟨w3,t⟩:=nM ((w1.alloc (Z4 (aw zb) 40)).setRow w1.heap.size (aw zb));rw [t] at m i z ⊢;have U:=Ep z (FG A d);unfold sm at U;have g:=a7 m i a z u;clear m i a z u t;refine U.mono ?_;rintro e o ⟨rfl,rfl⟩;clear U;go_wp2;go_ret2;exact ⟨g.out.1,g.out.2.1,.inr ⟨g.out.2.2.1,q,_,rfl,g.out.2.2.2.2,g.out.2.2.2.1,by unfold aA.SM;split<;>simp_all,FG A d⟩⟩
def dP (x:Nat):Nat:=x/2
def fC (x:Nat):Bool:=decide (x%2=1)
theorem FH (D L G:Int) {x y:Nat} (h:x≠y) (w:ZS):(Op.equal 186 (bH D L G (dP x:Nat) (fC x)) (bH D L G (dP y:Nat) (fC y))).run ZM w=.ok ZT w:=by
 by_cases a:dP x=dP y
 . have b:fC x≠fC y:=λe=>h (by
    unfold dP at a;unfold fC at e;have:(x%2=1)↔(y%2=1):=by
     constructor
     . intro q;exact of_decide_eq_true (by rw [<- e];exact decide_eq_true q)
     . intro q;exact of_decide_eq_true (by rw [e];exact decide_eq_true q)
    omega)
   have d:(fC x==fC y)=ZT:=abQ;rw [a];unfold bH Op.equal Op.maxDepth;go_simp
 . have c:(((dP x:Nat):Int)==((dP y:Nat):Int))=ZT:=by
    rw [beq_eq_false_iff_ne];omega
   unfold bH Op.equal Op.maxDepth;go_simp
def dB (D L G:Int) (es:List (Nat×Nat×Nat)):List MapEntry:=es.map λe=>{ key:=bH D L G (dP e.1:Nat) (fC e.1),val:=Z6 (ZV ⟨e.2.1,0,ZW⟩),born:=e.2.2 }
def cC (es:List (Nat×Nat×Nat)):a9:=es.map (·.1)
def BW (D L G:Int) (lost:Nat) (w:ZS):∀ (es:List (Nat×Nat×Nat)) (i:Nat),lost∉cC es->(Instr.findAsking 186 (bH D L G (dP lost:Nat) (fC lost)) (dB D L G es) i).run ZM w=.ok ZW w
 | [],_,_=>by simp [dB,Instr.findAsking]
 | e::es,i,h=>by
  have b:lost≠e.1:=λq=>by
   subst q;exact h (UO ..)
  have a:=BW D L G lost w es (i+1) (λq=>h (Ux _ q));have c:=FH D L G b w;unfold dB at a ⊢;simp only [UD,Instr.findAsking,Uo,c,Uz];simpa using a
def Lm (D L G:Int) (w:ZS):∀ (es:List (Nat×Nat×Nat)) (i k:Nat) (a:k<es.length),(cC es).Nodup->(Instr.findAsking 186 (bH D L G (dP es[k].1:Nat) (fC es[k].1)) (dB D L G es) i).run ZM w=.ok (ZV (i+k,Z6 (ZV ⟨es[k].2.1,0,ZW⟩))) w
 | [],_,_,a,_=>absurd a ek
 | e::es,i,0,_,_=>by
  have b:=NT D L G (dP e.1:Nat) (fC e.1) w;unfold dB;simp only [UD,Instr.findAsking,Uo,abf,b,Uz];simp
 | e::es,i,k+1,a,f=>by
  have c:k<es.length:=vE a
  have g:es[k].1≠e.1:=λq=>(UF.1 f).1 (T1.2 ⟨es[k],T4 c,q⟩);have d:=Lm D L G w es (i+1) k c (UF.1 f).2;have b:=FH D L G g w;unfold dB at d ⊢;simp only [UD,Instr.findAsking,Uo,X8,b,Uz];rw [(eb:i+(k+1)=i+1+k)];simpa using d
def BX (k:ZR) (x:MapEntry) (es:List MapEntry) (f:Array Field) (i:Nat):Instr.findNow (.struct f) k (x::es) i=ZW:=by
 simp [Instr.findNow,Instr.sameNow]
def xU (D L G:Int) {lost:Nat} {es:List (Nat×Nat×Nat)} (h:lost∉cC es) (w:ZS):(Instr.findKey 186 (bH D L G (dP lost:Nat) (fC lost)) (dB D L G es)).run ZM w=.ok ZW w:=by
 have a:=BW D L G lost w es 0 h;cases es with
 | nil=>simp [dB,Instr.findKey,Instr.findNow,Uw abq]
 | cons e es=>
  unfold dB at a ⊢;simp only [UD] at a ⊢;simp only [Instr.findKey,Uo,Uw abq,Uz,BX];exact a
def FJ (D L G:Int) {es:List (Nat×Nat×Nat)} {k:Nat} (b:k<es.length) (c:(cC es).Nodup) (w:ZS):(Instr.findKey 186 (bH D L G (dP es[k].1:Nat) (fC es[k].1)) (dB D L G es)).run ZM w=.ok (ZV (k,Z6 (ZV ⟨es[k].2.1,0,ZW⟩))) w:=by
 have a:=Lm D L G w es 0 k b c;rw [Uc] at a;cases es with
 | nil=>exact absurd b ek
 | cons e es=>
  unfold dB at a ⊢;simp only [UD] at a ⊢;simp only [Instr.findKey,Uo,Uw abq,Uz,BX];exact a
def Ln {D L G:Int} (h:w.heap[m]?=ZV (.map (dB D L G es).toArray n)) {lost:Nat} (d:lost∉cC es):(Instr.lookup 237 (.map (ZV m)) (bH D L G (dP lost:Nat) (fC lost)) ZU).run ZM w=.ok (ZY #[.pointer ZW,Z1 ZT]) w:=by
 have a:=uv h;have b:=λe=>oZ e D L G (dP lost:Nat) (fC lost) w;have c:=xU D L G d w;simp [Instr.lookup,Uw XR,a,b,c]
def NY {D L G:Int} (h:w.heap[m]?=ZV (.map (dB D L G es).toArray n)) {k:Nat} (d:k<es.length) (f:(cC es).Nodup):(Instr.lookup 237 (.map (ZV m)) (bH D L G (dP es[k].1:Nat) (fC es[k].1)) ZU).run ZM w=.ok (ZY #[Z6 (ZV ⟨es[k].2.1,0,ZW⟩),Z1 ZU]) w:=by
 have a:=uv h;have b:=λe=>oZ e D L G (dP es[k].1:Nat) (fC es[k].1) w;have c:=FJ D L G d f w;simp [Instr.lookup,Uw XR,a,b,c]
def NZ {D L G:Int} (h:w.heap[m]?=ZV (.map (dB D L G es).toArray n)) {lost:Nat} (e:lost∉cC es) (nb:Nat):(Instr.mapUpdate 237 (.map (ZV m)) (bH D L G (dP lost:Nat) (fC lost)) (Z6 (ZV ⟨nb,0,ZW⟩))).run ZM w=.ok () (w.putObj m (.map (dB D L G (es++[(lost,nb,n)])).toArray (n+1))):=by
 have a:=uv h;have b:=oZ ZT D L G (dP lost:Nat) (fC lost) w;have c:=xU D L G e w;have d:(dB D L G es).toArray.push { key:=bH D L G (dP lost:Nat) (fC lost),val:=Z6 (ZV ⟨nb,0,ZW⟩),born:=n }=(dB D L G (es++[(lost,nb,n)])).toArray:=by simp [dB]
 simp [Instr.mapUpdate,Uw XR,a,b,c,Lh h,d]
def xV (D L G:Int):∀ (es:List (Nat×Nat×Nat)) (k:Nat),(dB D L G es).eraseIdx k=dB D L G (es.eraseIdx k)
 | [],_=>rfl
 | _::_,0=>rfl
 | e::es,k+1=>by
  have h:=xV D L G es k;unfold dB at h ⊢;simp only [UD,List.eraseIdx_cons_succ,h]
def Qe {D L G:Int} (h:w.heap[m]?=ZV (.map (dB D L G es).toArray n)) {k:Nat} (d:k<es.length) (f:(cC es).Nodup) (t:ZO):(Builtin.delete_ #[237,186] t #[.map (ZV m),bH D L G (dP es[k].1:Nat) (fC es[k].1)]).run ZM w=.ok (ZY #[]) (w.putObj m (.map (dB D L G (es.eraseIdx k)).toArray n)):=by
 have a:=uv h;have b:=λe=>oZ e D L G (dP es[k].1:Nat) (fC es[k].1) w;have c:=FJ D L G d f w;simp [Builtin.delete_,Uw XR,a,b,c,Lh h,xV]
def N0 {D L G:Int} (h:w.heap[m]?=ZV (.map (dB D L G es).toArray n)) (t:ZO):(Builtin.len_ #[237] t #[.map (ZV m)]).run ZM w=.ok (Z7 Z9 (es.length:Nat)) w:=by
 have a:=uv h;simp [Builtin.len_,Uw XR,a,dB,goInt]
structure Ev where
 D:Int
 L:Int
 G:Int
 lost:Int
 rd:Bool
 regs:Int
 steps:ZR
def pH (w:ZS) (S:Nat->Prop) (cn:Nat->Ev) (nw ol:Nat->Nat):Prop:=∀ a,S a->jv w a (cn a).D (cn a).L (cn a).G (cn a).lost (cn a).rd (cn a).regs (cn a).steps (Z6 (ZV ⟨nw a,0,ZW⟩)) (Z6 (ZV ⟨ol a,0,ZW⟩))
def ir (f:Nat->Nat) (a x:Nat):Nat->Nat:=λb=>if b=a then x else f b
def dZ (f:Nat->Nat) (a x:Nat):ir f a x a=x:=if_pos rfl
def eB {f:Nat->Nat} {a:Nat} (x:Nat) (h:b≠a):ir f a x b=f b:=if_neg h
def pH.S8 {cn:Nat->Ev} (h:pH w S cn nw ol) (a x:Nat):pH (w.setCell ⟨a,7,ZW⟩ (Z6 (ZV ⟨x,0,ZW⟩))) S cn (ir nw a x) ol:=λb c=>by
 by_cases e:b=a
 . subst e;rw [dZ];exact (h b c).S8 _
 . rw [eB x e];exact (h b c).keep (T7 _ _ _ _ e)
def pH.SV {cn:Nat->Ev} (h:pH w S cn nw ol) (a x:Nat):pH (w.setCell ⟨a,8,ZW⟩ (Z6 (ZV ⟨x,0,ZW⟩))) S cn nw (ir ol a x):=λb c=>by
 by_cases e:b=a
 . subst e;rw [dZ];exact (h b c).SV _
 . rw [eB x e];exact (h b c).keep (T7 _ _ _ _ e)
def pH.keep {T:Nat->Prop} {cn:Nat->Ev} (h:pH w S cn nw ol) (d:aa T w w') (e:∀ a,S a->¬ T a):pH w' S cn nw ol:=λb c=>(h b c).keep (d.block b (h b c).lt (e b c))
theorem rC {cn:Nat->Ev} (h:pH w S cn nw ol) {n:Nat} (c:S n) (a:S (nw n)) (b:S (ol n)) :
 ZQ ZM 187 #[Z6 (ZV ⟨n,0,ZW⟩)] w λe w'=>e=Z3 (ZY #[])/\pH w' S cn (ir nw (ol n) (nw n)) (ir ol (nw n) (ol n))/\aa S w w':=by
 obtain ⟨d,f,_,_⟩:=(h n c).cells;obtain ⟨_,g,_,j⟩:=(h _ a).cells;obtain ⟨i,_,k,_⟩:=((h.SV (nw n) (ol n)) _ b).cells;have H:=aE ((h.SV (nw n) (ol n)).S8 (ol n) (nw n)) a b;clear h a b c;generalize nw n=x at *;generalize ol n=y at *;generalize ol x=z at *;generalize nw y=l at *;go_enter func187,ntmps187;go_region;go_end0
 exact ⟨rfl,H.out.1,((aa.setCell _ _ _ H.out.2.1).trans (aa.setCell _ _ _ H.out.2.2)).trans (aa.drew _)⟩
theorem zV {cn:Nat->Ev} (k:fA w sb room) (h:pH w S cn nw ol) {n:Nat} (a:S n) (c:S sb) (ho:S (ol sb)) :
 ZQ ZM 188 #[Z6 (ZV ⟨sb+1+1,0,ZW⟩),Z6 (ZV ⟨n,0,ZW⟩)] w λe w'=>e=Z3 (ZY #[])/\pH w' S cn (ir (ir nw n sb) (ol sb) n) (ir (ir ol n (ol sb)) sb n)/\aa S w w':=by
 have l2:=(fZ k).2.2;obtain ⟨l,_,b7,_⟩:=(h n a).cells;obtain ⟨_,p,_,_⟩:=(h sb c).cells;have d:=h.S8 n sb;obtain ⟨_,m,_,o⟩:=(d n a).cells;have i:=d.SV n (ol sb);obtain ⟨w2,g⟩:=nM (((w.setCell ⟨n,7,ZW⟩ (Z6 (ZV ⟨sb,0,ZW⟩))).setCell ⟨n,8,ZW⟩ (Z6 (ZV ⟨ol sb,0,ZW⟩))).drew);have b:pH w2 S cn (ir nw n sb) (ir ol n (ol sb)):=by rw [<- g];exact i
 have j:aa S w w2:=by rw [<- g];exact ((aa.setCell _ _ _ a).trans (aa.setCell _ _ _ a)).trans (aa.drew _)
 obtain ⟨q,r,_,_⟩:=(b n a).cells;rw [dZ] at q r;have f:=b.SV sb n;obtain ⟨_,s,_,t8⟩:=(b sb c).cells;obtain ⟨t,_,u,_⟩:=(f (ol sb) ho).cells;have H:=a5 (f.S8 (ol sb) n) j c ho;clear h d i b f k a c ho j;generalize ol sb=y at *;generalize ir ol n y sb=z at *;generalize ir nw n sb y=v at *;generalize nw n=x at *;generalize ol n=A at *;go_enter func188,ntmps188;go_wp2;go_region;clear g l b7 p m o l2;go_wp2;go_region;go_end0
 exact ⟨rfl,H.out.1,H.out.2.1.trans (((aa.setCell _ _ _ H.out.2.2.1).trans (aa.setCell _ _ _ H.out.2.2.2)).trans (aa.drew _))⟩
def vz (nw ol:Nat->Nat):Nat->a9->Nat->Prop
 | a,[],b=>ol a=b/\nw b=a
 | a,n::ns,b=>(ol a=n/\nw n=a)/\vz nw ol n ns b
theorem vz.congr {nw' ol':Nat->Nat}:∀ {ns:a9} {a b:Nat},vz nw ol a ns b->(∀ x∈a::ns,ol' x=ol x)->(∀ x∈ns++[b],nw' x=nw x)->vz nw' ol' a ns b
 | [],a,b,h,c,d=>⟨(c a (UO ..)).trans h.1,(d b ek).trans h.2⟩
 | n::ns,a,b,h,c,d=>⟨⟨(c a (UO ..)).trans h.1.1,(d n ek).trans h.1.2⟩,vz.congr h.2 (λx e=>c x (Ux _ e)) (λx e=>d x (by rw [UH];exact Ux _ e))⟩
def vz.Ss {ns:a9} {a:Nat} (h:vz nw ol a ns b):ol a=b/\ns=[]\/ol a∈ns:=by
 cases ns with
 | nil=>exact .inl ⟨h.1,rfl⟩
 | cons n ns=>exact .inr (by rw [h.1.1];exact UO ..)
def vz.last:∀ {ns:a9} {a b:Nat},vz nw ol a ns b->(c:ns≠[])->nw b=ns.getLast c
 | [],_,_,_,c=>absurd rfl c
 | [_],_,_,h,_=>h.2.2
 | _::m::ns,_,_,h,_=>by rw [List.getLast_cons ek];exact vz.last h.2 ek
theorem vz.put {ns:a9} (h:vz nw ol sb ns sb) (d:(sb::ns).Nodup) (c:n∉sb::ns):vz (ir (ir nw n sb) (ol sb) n) (ir (ir ol n (ol sb)) sb n) sb (n::ns) sb:=by
 have b:n≠sb:=λe=>c (e▸UO ..);have j:n≠ol sb:=λe=>by
  rcases h.Ss with q|q
  . exact b (e.trans q.1)
  . exact c (Ux _ (e▸q))
 refine ⟨⟨dZ _ _ _,by rw [eB _ j,dZ]⟩,?_⟩;cases ns with
 | nil=>exact ⟨by rw [eB _ b,dZ];exact h.1,by rw [h.1,dZ]⟩
 | cons m o=>
  have f:=h.1.1;refine ⟨⟨by rw [eB _ b,dZ];exact f,by rw [f,dZ]⟩,h.2.congr (λx a=>?_) (λx a=>?_)⟩
  . have g:x≠sb:=λe=>(UF.1 d).1 (e▸a);have i:x≠n:=λe=>c (Ux _ (e▸a));rw [eB _ g,eB _ i]
  . have k:x≠m:=λe=>by
     subst e;rcases Ub.1 a with q|q
     . exact (UF.1 (UF.1 d).2).1 q
     . rw [U9] at q;subst q;exact (UF.1 d).1 (UO ..)
    have l:x≠n:=λe=>by
     subst e;rcases Ub.1 a with q|q
     . exact c (Ux _ (Ux _ q))
     . rw [U9] at q;exact b q
    rw [f,eB _ k,eB _ l]
theorem vz.take {r:a9}:∀ {l:a9} {a b:Nat},vz nw ol a (l++n::r) b->(a::(l++n::r)).Nodup->b∉l++n::r->vz (ir nw (ol n) (nw n)) (ir ol (nw n) (ol n)) a (l++r) b/\nw n∈a::l/\(ol n∈r\/ol n=b)
 | [],a,b,h,j,i=>by
  have d:(ol a=n/\nw n=a)/\vz nw ol n r b:=h;obtain ⟨⟨_,t⟩,g⟩:=d;rw [t];refine ⟨?_,UO ..,g.Ss.elim (λq=>.inr q.1) .inl⟩;cases r with
  | nil=>exact ⟨by rw [dZ];exact g.1,by rw [g.1,dZ]⟩
  | cons m rs=>
   have k:=g.1.1;have f:=(UF.1 (UF.1 j).2).2;refine ⟨⟨by rw [dZ];exact k,by rw [k,dZ]⟩,g.2.congr (λx o=>?_) (λx o=>?_)⟩
   . exact eB _ λe=>(UF.1 j).1 (by rw [<- e];exact Ux _ o)
   . rw [k];refine eB _ λe=>?_;subst e;rcases Ub.1 o with q|q
     . exact (UF.1 f).1 q
     . rw [U9] at q;subst q;exact i ek
 | c::l,a,b,h,j,i=>by
  have d:(ol a=c/\nw c=a)/\vz nw ol c (l++n::r) b:=h;have f:=UF.1 j;obtain ⟨u,p,s⟩:=vz.take d.2 f.2 (λq=>i (Ux _ q));refine ⟨⟨⟨?_,?_⟩,u⟩,Ux _ p,s⟩
  . rw [eB _ λe=>f.1 (by
     rw [e];rcases Un.1 p with q|q
     . rw [q];exact UO ..
     . exact Ux _ (UN _ q))]
    exact d.1.1
  . rw [eB _ λe=>by
     rcases s with q|q
     . exact (UF.1 f.2).1 (by rw [e];exact Wn _ (Ux _ q))
     . exact i (by rw [<- q,<- e];exact UO ..)]
    exact d.1.2
theorem Ew (o:fA w sb room) {D L G:Int} {es:List (Nat×Nat×Nat)} (i:w.heap[sb+1]?=ZV (.map (dB D L G es).toArray n)) {x:Nat} (z:x∉cC es) :
 ZQ ZM 170 #[Z6 (ZV ⟨sb+1+1,0,ZW⟩),bH D L G (dP x:Nat) (fC x)] w λe w'=>e=Z3 (ZY #[.agg #[Z7 Z9 0,Z5 ZW 0 0],Z1 ZT])/\bW w w':=by
 have l1:w.cell? ⟨sb+1+1,1,ZW⟩=ZV (.map (ZV (sb+1))):=by
  have y:w.heap[sb+1+1]?=_:=o;simp [World.cell?,y]
 have k:∀ w',bW w w'->(Instr.lookup 237 (.map (ZV (sb+1))) (bH D L G (dP x:Nat) (fC x)) ZU).run ZM w'=.ok (ZY #[.pointer ZW,Z1 ZT]) w':=λw' A=>Ln ((A.block _ (TW.1 i).1).trans i) z;obtain ⟨w2,f⟩:=nM ((w.alloc (Z4 #[Z7 Z9 D,Z7 Z9 L,Z7 Z9 G,Z7 Z8 (dP x:Nat),Z1 (fC x)] 186)).alloc (Z4 #[Z7 Z9 0,Z5 ZW 0 0] 189));have a:bW w w2:=by rw [<- f];exact (bA w _).alloc ek _
 have d:w2.heap[w.heap.size]?=ZV (Z4 #[Z7 Z9 D,Z7 Z9 L,Z7 Z9 G,Z7 Z8 (dP x:Nat),Z1 (fC x)] 186 (0,0)):=by rw [<- f];exact (Ut _ _ _ ek).trans (T9 _ _)
 have r:w2.cell? ⟨w.heap.size,0,ZW⟩=ZV (Z7 Z9 D):=Ok
 have c1:w2.cell? ⟨w.heap.size,1,ZW⟩=ZV (Z7 Z9 L):=Ok
 have s:w2.cell? ⟨w.heap.size,2,ZW⟩=ZV (Z7 Z9 G):=Ok
 have t:w2.cell? ⟨w.heap.size,3,ZW⟩=ZV (Z7 Z8 (dP x:Nat)):=Ok
 have u:w2.cell? ⟨w.heap.size,4,ZW⟩=ZV (Z1 (fC x)):=Ok
 have h:w2.heap[w.heap.size+1]?=ZV (Z4 #[Z7 Z9 0,Z5 ZW 0 0] 189 (0,0)):=by
  have:=T9 (w.alloc (Z4 #[Z7 Z9 D,Z7 Z9 L,Z7 Z9 G,Z7 Z8 (dP x:Nat),Z1 (fC x)] 186)) (Z4 #[Z7 Z9 0,Z5 ZW 0 0] 189);rw [Ua] at this;rw [<- f];exact this
 have l2:=(a.cell (p:=⟨sb+1+1,1,ZW⟩) (T8 l1)).trans l1;have j:=k w2.drew a.drew;unfold bH at j ⊢;have c:w2.heap.size=w.heap.size+2:=by rw [<- f];simp
 have H:=aE a h c;clear o i k a d h c;go_enter func170,ntmps170;go_wp2;go_region;obtain ⟨a,h,c⟩:=H.out;have b:bW w2 (w2.drew.alloc (Z4 #[Z7 Z9 0,Z5 ZW 0 0] 189)):=((TX _ w2).drew).alloc lR _;obtain ⟨B,m⟩:=nM (w2.drew.alloc (Z4 #[Z7 Z9 0,Z5 ZW 0 0] 189));rw [m] at b;have g:=(b.block (w.heap.size+1) eb).trans h;obtain ⟨E,F,g1,C⟩:=az g;have l:B.heap[w2.heap.size]?=ZV (Z4 #[Z7 Z9 0,Z5 ZW 0 0] 189 (0,0)):=by rw [<- m];exact T9 w2.drew _
 obtain ⟨I,J,_,_⟩:=az l;have q:=a5 g b a c;clear a h c b g l r c1 s t u l1 l2 j f;go_wp2;obtain ⟨g,b,a,c⟩:=q.out;obtain ⟨n0,n1,_⟩:=az (gE (y':=Z5 ZW 0 0) (gD (x':=Z7 Z9 0) g));refine Uf (v:=ZY #[.agg #[Z7 Z9 0,Z5 ZW 0 0],Z1 ZT]) (by simp [results,results170,go_sem,n0,n1]) rfl ?_;exact ⟨rfl,((a.trans (b.mono a.size)).setCell (p:=⟨w.heap.size+1,0,ZW⟩) eP _).setCell (p:=⟨w.heap.size+1,1,ZW⟩) eP _⟩
theorem Ia {D L G:Int} {cn:Nat->Ev} (I:fA w sb room) (J:w.heap[sb+1]?=ZV (.map (dB D L G es).toArray n)) (F:k<es.length) (Q:(cC es).Nodup) (k7:es[k].1=x) (R:es[k].2.1=nb) (h:pH w S cn nw ol) (l:∀ a,S a->a≠sb+1/\a≠sb+1+1) (f:S nb) (O:S (nw nb)) (C:S (ol nb)) (p:S sb) (P:S (ol sb)) (o:cn nb=⟨D,L,G,(dP x:Nat),fC x,regs,.slice ao m c⟩) :
 ZQ ZM 170 #[Z6 (ZV ⟨sb+1+1,0,ZW⟩),bH D L G (dP x:Nat) (fC x)] w λe w'=>e=Z3 (ZY #[.agg #[Z7 Z9 regs,.slice ao m c],Z1 ZU])/\pH w' S cn (ir (ir (ir nw (ol nb) (nw nb)) nb sb) (ir ol (nw nb) (ol nb) sb) nb) (ir (ir (ir ol (nw nb) (ol nb)) nb (ir ol (nw nb) (ol nb) sb)) sb nb)/\aa S w w':=by
 obtain ⟨w2,z⟩:=nM ((w.alloc (Z4 #[Z7 Z9 D,Z7 Z9 L,Z7 Z9 G,Z7 Z8 (dP x:Nat),Z1 (fC x)] 186)).alloc (Z4 #[Z7 Z9 0,Z5 ZW 0 0] 189));have b:bW w w2:=by rw [<- z];exact (bA w _).alloc ek _
 have i:w2.heap.size=w.heap.size+2:=by rw [<- z];simp
 have t:w2.heap[w.heap.size]?=ZV (Z4 #[Z7 Z9 D,Z7 Z9 L,Z7 Z9 G,Z7 Z8 (dP x:Nat),Z1 (fC x)] 186 (0,0)):=by rw [<- z];exact (Ut _ _ _ ek).trans (T9 _ _)
 have c0:w2.cell? ⟨w.heap.size,0,ZW⟩=ZV (Z7 Z9 D):=Y6
 have c1:w2.cell? ⟨w.heap.size,1,ZW⟩=ZV (Z7 Z9 L):=Y6
 have c2:w2.cell? ⟨w.heap.size,2,ZW⟩=ZV (Z7 Z9 G):=Y6
 have c3:w2.cell? ⟨w.heap.size,3,ZW⟩=ZV (Z7 Z8 (dP x:Nat)):=Y6
 have c4:w2.cell? ⟨w.heap.size,4,ZW⟩=ZV (Z1 (fC x)):=Y6
 have r:w2.heap[w.heap.size+1]?=ZV (Z4 #[Z7 Z9 0,Z5 ZW 0 0] 189 (0,0)):=by
  have:=T9 (w.alloc (Z4 #[Z7 Z9 D,Z7 Z9 L,Z7 Z9 G,Z7 Z8 (dP x:Nat),Z1 (fC x)] 186)) (Z4 #[Z7 Z9 0,Z5 ZW 0 0] 189);rw [Ua] at this;rw [<- z];exact this
 have hll:sb+1+1<w.heap.size:=(TW.1 I).1;have g:fA w2 sb room:=(b.block _ hll).trans I;have l1:=(fZ g).2.1;have T:pH w2 S cn nw ol:=λa s=>(h a s).keep (b.block _ (h a s).lt);have d:∀ a,S a->a<w.heap.size:=λa s=>(h a s).lt;have K:=NY (w:=w2.drew) ((b.block _ (TW.1 J).1).trans J) F Q;rw [k7,R] at K;have Z:=rC (w:=w2.drew) (show pH w2.drew S cn nw ol from T) f O C;have j:S (ir ol (nw nb) (ol nb) sb):=by
  by_cases e:sb=nw nb
  . rw [e,dZ];exact C
  . rw [eB _ e];exact P
 unfold bH at K ⊢;have H:=hide12 b r i g d l f p j o hll Z;clear I J h b t r i g T Z l f O C p P j o d Q F k7 R hll;go_enter func170,ntmps170;go_wp2;go_region;clear c0 c1 c2 c3 c4 l1 K z;go_wp2_with fail;refine H.out.2.2.2.2.2.2.2.2.2.2.2.mono ?_;rintro e M ⟨rfl,U,V⟩;obtain ⟨b,r,i,g,d,l,f,p,j,o,hll,_⟩:=H.out;have E:aa S w2 M:=(aa.drew w2).trans V;have Y:=zV (w:=M) (n:=nb) (show fA M sb room from (E.block _ eb (λq=>(l _ q).2 rfl)).trans g) U f p j;have N:=au E Y;clear b r i g d l f p j o U V E Y hll;go_wp2_with fail;refine N.out.2.mono ?_;rintro e B ⟨rfl,y,W⟩;obtain ⟨b,r,i,g,d,l,f,p,j,o,hll,_⟩:=H.out;have u:aa S w2 B:=N.out.1.trans W;have A:=(u.block (w.heap.size+1) eb (λq=>eT (d _ q))).trans r;have k6:=(y nb f).value;rw [o] at k6;obtain ⟨v5,v6⟩:=k6;obtain ⟨r0,r1,g1,g0⟩:=az A;have H4:=a8 y u A b i d;clear b r i g d l f p j o y W u A hll;go_wp2;obtain ⟨y,u,A,b,i,d⟩:=H4.out;obtain ⟨n0,n1,_⟩:=az (gE (y':=.slice ao m c) (gD (x':=Z7 Z9 regs) A));refine Uf (v:=ZY #[.agg #[Z7 Z9 regs,.slice ao m c],Z1 ZU]) (by simp [results,results170,go_sem,n0,n1]) rfl ?_;have X:aa (λk=>k=w.heap.size+1) B ((B.setCell ⟨w.heap.size+1,0,ZW⟩ (Z7 Z9 regs)).setCell ⟨w.heap.size+1,1,ZW⟩ (.slice ao m c)):=eN B (w.heap.size+1) 0 1 _ _;exact ⟨rfl,y.keep X (λa s e=>eT (d a s)),((aa.RO b _).trans u).later X (λk F q=>eb)⟩
theorem zW {cn:Nat->Ev} (p:fA w sb room) {n:Nat} {ne0 k:ZR} (j:jv w n (cn n).D (cn n).L (cn n).G (cn n).lost (cn n).rd (cn n).regs (cn n).steps ne0 k) (h:pH w (λa=>S a/\a≠n) cn nw ol) (c:S n) (d:S sb) (o:sb≠n) (ho:S (ol sb)) :
 ZQ ZM 188 #[Z6 (ZV ⟨sb+1+1,0,ZW⟩),Z6 (ZV ⟨n,0,ZW⟩)] w λe w'=>e=Z3 (ZY #[])/\pH w' S cn (ir (ir nw n sb) (ol sb) n) (ir (ir ol n (ol sb)) sb n)/\aa S w w':=by
 have l2:=(fZ p).2.2;obtain ⟨q,_,b7,_⟩:=j.cells;obtain ⟨_,t,_,_⟩:=(h sb ⟨d,o⟩).cells;have g:=j.S8 (Z6 (ZV ⟨sb,0,ZW⟩));obtain ⟨_,r,_,s⟩:=g.cells;have l:pH ((w.setCell ⟨n,7,ZW⟩ (Z6 (ZV ⟨sb,0,ZW⟩))).setCell ⟨n,8,ZW⟩ (Z6 (ZV ⟨ol sb,0,ZW⟩))) S cn (ir nw n sb) (ir ol n (ol sb)):=λa u=>by
  by_cases e:a=n
  . subst e;rw [dZ,dZ];exact g.SV _
  . rw [eB _ e,eB _ e];exact ((h a ⟨u,e⟩).keep (T7 _ _ _ _ e)).keep (T7 _ _ _ _ e)
 obtain ⟨w2,i⟩:=nM (((w.setCell ⟨n,7,ZW⟩ (Z6 (ZV ⟨sb,0,ZW⟩))).setCell ⟨n,8,ZW⟩ (Z6 (ZV ⟨ol sb,0,ZW⟩))).drew);have b:pH w2 S cn (ir nw n sb) (ir ol n (ol sb)):=by rw [<- i];exact l
 have m:aa S w w2:=by rw [<- i];exact ((aa.setCell _ _ _ c).trans (aa.setCell _ _ _ c)).trans (aa.drew _)
 obtain ⟨v,x,_,_⟩:=(b n c).cells;rw [dZ] at v x;have f:=b.SV sb n;obtain ⟨_,A,_,t8⟩:=(b sb d).cells;obtain ⟨B,_,C,_⟩:=(f (ol sb) ho).cells;have H:=a5 (f.S8 (ol sb) n) m d ho;clear h g l b f p j d ho m c o;generalize ol sb=y at *;generalize ir ol n y sb=z at *;generalize ir nw n sb y=E at *;go_enter func188,ntmps188;go_wp2;go_region;clear i q b7 t r s l2;go_wp2;go_region;go_end0
 exact ⟨rfl,H.out.1,H.out.2.1.trans (((aa.setCell _ _ _ H.out.2.2.1).trans (aa.setCell _ _ _ H.out.2.2.2)).trans (aa.drew _))⟩
def cnN (cn:Nat->Ev) (N:Nat) (c:Ev):Nat->Ev:=λa=>if a=N then c else cn a
def jv.key {D L G:Int} {ol:ZR} (h:jv w n D L G lost rd regs steps ne ol):w.cell? ⟨n,0,ZW⟩=ZV (Z7 Z9 D)/\w.cell? ⟨n,1,ZW⟩=ZV (Z7 Z9 L)/\w.cell? ⟨n,2,ZW⟩=ZV (Z7 Z9 G)/\w.cell? ⟨n,3,ZW⟩=ZV (Z7 Z8 lost)/\w.cell? ⟨n,4,ZW⟩=ZV (Z1 rd):=by
 have a:w.heap[n]?=ZV (Z4 (nl D L G lost rd regs steps ne ol) 236 (0,0)):=h;simp [World.cell?,a,nl]
def OQ (w':ZS) (sb:Nat) (room:Int) (D L G:Int) (es:List (Nat×Nat×Nat)) (S:Nat->Prop) (cn:Nat->Ev) (nw ol:Nat->Nat):Prop:=
 (((es.length:Nat):Int)<=room->(∃ n,w'.heap[sb+1]?=ZV (.map (dB D L G es).toArray n))/\pH w' S cn nw ol) /\
 (room<((es.length:Nat):Int)->∃ j,∃ hj:j<es.length,es[j].2.1=nw sb/\(∃ n,w'.heap[sb+1]?=ZV (.map (dB D L G (es.eraseIdx j)).toArray n))/\pH w' S cn (ir nw (ol (nw sb)) (nw (nw sb))) (ir ol (nw (nw sb)) (ol (nw sb))))
theorem Ex {D L G:Int} {cn:Nat->Ev} (hl:fA w sb room) (hm:w.heap[sb+1]?=ZV (.map (dB D L G es).toArray n)) (q3:x∉cC es) (h:pH w S cn nw ol) (i:∀ a,S a->a≠sb+1/\a≠sb+1+1) (v:S sb) (E:S (ol sb)) {N:Nat} (hN:N=w.heap.size+1+1) {cn':Nat->Ev} (k6:cn'=cnN cn N ⟨D,L,G,(dP x:Nat),fC x,regs,.slice ao m c⟩) {nw' o:Nat->Nat} (k9:nw'=ir (ir nw N sb) (ol sb) N) (ka:o=ir (ir ol N (ol sb)) sb N) {b:List (Nat×Nat×Nat)} (k7:b=es++[(x,N,n)])
 (hB:room<((b.length:Nat):Int)->(cC b).Nodup/\∃ j,∃ hj:j<b.length,b[j].2.1=nw' sb/\(∃ rg st,cn' (nw' sb)=⟨D,L,G,(dP b[j].1:Nat),fC b[j].1,rg,st⟩)/\(nw' sb=N\/S (nw' sb))/\(nw' (nw' sb)=N\/S (nw' (nw' sb)))/\(o (nw' sb)=N\/S (o (nw' sb)))) :
 ZQ ZM 172 #[Z6 (ZV ⟨sb+1+1,0,ZW⟩),bH D L G (dP x:Nat) (fC x),.agg #[Z7 Z9 regs,.slice ao m c]] w λe w'=>e=Z3 (ZY #[])/\OQ w' sb room D L G b (λa=>a=N\/S a) cn' nw' o/\aa (λk=>S k\/k=sb+1) w w':=by
 subst hN;obtain ⟨d,kj⟩:=nM (((w.alloc (Z4 #[Z7 Z9 D,Z7 Z9 L,Z7 Z9 G,Z7 Z8 (dP x:Nat),Z1 (fC x)] 186)).alloc (Z4 #[Z7 Z9 regs,.slice ao m c] 189)).alloc (Z4 #[Z7 Z9 D,Z7 Z9 L,Z7 Z9 G,Z7 Z8 (dP x:Nat),Z1 (fC x),Z7 Z9 regs,.slice ao m c,.pointer ZW,.pointer ZW] 236));have f:bW w d:=by rw [<- kj];exact ((bA w _).alloc ek _).alloc en _
 obtain ⟨O,_,hn⟩:=np w (Z4 #[Z7 Z9 D,Z7 Z9 L,Z7 Z9 G,Z7 Z8 (dP x:Nat),Z1 (fC x)] 186) (Z4 #[Z7 Z9 regs,.slice ao m c] 189) (Z4 #[Z7 Z9 D,Z7 Z9 L,Z7 Z9 G,Z7 Z8 (dP x:Nat),Z1 (fC x),Z7 Z9 regs,.slice ao m c,.pointer ZW,.pointer ZW] 236);rw [kj] at O hn;have J:jv d (w.heap.size+1+1) D L G (dP x:Nat) (fC x) regs (.slice ao m c) (.pointer ZW) (.pointer ZW):=hn;have hll:sb+1+1<w.heap.size:=(TW.1 hl).1;have p:fA d sb room:=(f.block _ hll).trans hl;have ky:=(f.block _ eb).trans hm;have Q:pH d S cn nw ol:=λa g=>(h a g).keep (f.block _ (h a g).lt);have s:∀ a,S a->a<w.heap.size:=λa g=>(h a g).lt;have c0:d.cell? ⟨w.heap.size,0,ZW⟩=ZV (Z7 Z9 D):=Zj
 have c1:d.cell? ⟨w.heap.size,1,ZW⟩=ZV (Z7 Z9 L):=Zj
 have c2:d.cell? ⟨w.heap.size,2,ZW⟩=ZV (Z7 Z9 G):=Zj
 have c3:d.cell? ⟨w.heap.size,3,ZW⟩=ZV (Z7 Z8 (dP x:Nat)):=Zj
 have c4:d.cell? ⟨w.heap.size,4,ZW⟩=ZV (Z1 (fC x)):=Zj
 obtain ⟨_,l1,_⟩:=fZ p;have kh:=NZ (w:=d.drew) ky q3 (w.heap.size+1+1);have l:aa (λk=>k=sb+1) d (d.drew.putObj (sb+1) (.map (dB D L G (es++[(x,w.heap.size+1+1,n)])).toArray (n+1))):=(aa.drew d).trans (aa.putObj _ _ _ rfl);have u:(d.drew.putObj (sb+1) (.map (dB D L G (es++[(x,w.heap.size+1+1,n)])).toArray (n+1))).heap[sb+1]?=ZV (.map (dB D L G (es++[(x,w.heap.size+1+1,n)])).toArray (n+1)):=by
  have hz:=f.size;unfold World.putObj;exact YR (by show sb+1<d.heap.size;omega)
 obtain ⟨w4,q2⟩:=nM (d.drew.putObj (sb+1) (.map (dB D L G (es++[(x,w.heap.size+1+1,n)])).toArray (n+1)));rw [q2] at kh l u;unfold bH at kh ⊢;have P:=a7 k6 k9 ka k7 hB;clear k6 k9 ka k7 hB;have H:=hide11 f J p Q l u hll s i v E;clear hl hm h f J p ky Q l u O hn q2 s i v E q3;go_enter func172,ntmps172;go_wp2;go_region;clear c0 c1 c2 c3 c4 l1 kh kj;obtain ⟨f,J,p,Q,l,u,hll,s,i,v,E⟩:=H.out;have q0:=J.lt;have kk:∀ a,S a->a≠w.heap.size+1+1:=λa g=>eT (s a g)
 have kp:cn' (w.heap.size+1+1)=⟨D,L,G,(dP x:Nat),fC x,regs,.slice ao m c⟩:=by rw [P.out.1];exact if_pos rfl
 have kr:∀ a,S a->cn' a=cn a:=λa g=>by rw [P.out.1];exact if_neg (kk a g)
 have q1:=zW (w:=w4) (S:=λa=>a=w.heap.size+1+1\/S a) (cn:=cn') (nw:=nw) (ol:=ol) (n:=w.heap.size+1+1) (show fA w4 sb room from (l.block _ eb eb).trans p) (by rw [kp];exact J.keep (l.block _ J.lt eb)) (λa g=>by
  have Z:=g.1.resolve_left g.2;rw [kr a Z];exact (Q a Z).keep (l.block _ (Q a Z).lt (i a Z).1)) (.inl rfl) (.inr v) (kk sb v) (.inr E)
 have H4:=hide7 u l p f q0 hll q1;clear f J p Q l u q1 kp kr;go_wp2_with fail;refine H4.out.2.2.2.2.2.2.mono ?_;rintro e C ⟨rfl,A,B⟩;obtain ⟨u,l,p,f,q0,hll,_⟩:=H4.out;obtain ⟨_,_,_,_,_,_,_,s,i,v,E⟩:=H.out;have X:aa (λk=>k=sb+1\/k=w.heap.size+1+1\/S k) d C:=(l.mono λ_ _ q=>.inl q).trans (B.mono λ_ _ q=>.inr q);have I:fA C sb room:=(X.block _ eb (λq=>by
  rcases q with q|q|q
  . omega
  . omega
  . exact (i _ q).2 rfl)).trans p
 have q6:=l.size;have r:=(B.block (sb+1) eb (λq=>by
  rcases q with q|q
  . omega
  . exact (i _ q).1 rfl)).trans u
 obtain ⟨l0,l1,l2⟩:=fZ I;have kg:=λt=>N0 (w:=C.drew) r t;have Y:aa (λk=>S k\/k=sb+1) w C:=(aa.RO f _).later X (λk hk q=>by
  rcases q with q|q|q
  . exact .inr q
  . omega
  . exact .inl q)
 rw [<- P.out.2.1,<- P.out.2.2.1] at A;rw [<- P.out.2.2.2.1] at r kg;obtain ⟨K,hK⟩:=nM (b.length);rw [hK] at kg;by_cases hr:(K:Int)<=room
 . have q4:¬ (room<(K:Int)):=eb;have U:decide (room<(K:Int))=ZT:=decide_eq_false q4;have W:=a5 A r Y hK;clear u l p X I r A B Y i v E s f hK;go_wp2;go_region;go_wp2;go_end0
   obtain ⟨A,r,hO,hK⟩:=W.out;exact ⟨rfl,⟨λ_=>⟨⟨_,r⟩,A⟩,λq=>by rw [hK] at q;omega⟩,hO.trans (aa.drew _)⟩
 . have q5:room<(K:Int):=eb;obtain ⟨U,j,hj,R,⟨rg,st,T⟩,F,ke,kf⟩:=P.out.2.2.2.2 (by rw [hK];exact q5);obtain ⟨e7,_,_,_⟩:=(A sb (.inr v)).cells;have ki:=rC (w:=C.drew) (show pH C.drew (λa=>a=w.heap.size+1+1\/S a) cn' nw' o from A) F ke kf;obtain ⟨q,M⟩:=nM (nw' sb);rw [M] at R T F ke kf e7 ki;have W:=hide13 I r Y hK U R T F ki M i s f;clear u l p X I r A B Y i v E s f hK U R T F ke kf ki M;go_wp2;go_region;go_wp2_with fail;refine W.out.2.2.2.2.2.2.2.2.1.mono ?_;rintro e z ⟨rfl,kc,km⟩;clear l0 l1 l2 e7 kg;obtain ⟨I,r,B,hK,U,R,T,F,_,M,i,s,f⟩:=W.out;have V:aa (λa=>a=w.heap.size+1+1\/S a) C z:=(aa.drew C).trans km;have q7:=B.size;have kx:fA z sb room:=(V.block _ eb (λe=>by
    rcases e with e|e
    . omega
    . exact (i _ e).2 rfl)).trans I
   have kz:=(V.block (sb+1) eb (λe=>by
    rcases e with e|e
    . omega
    . exact (i _ e).1 rfl)).trans r
   obtain ⟨_,l1,_⟩:=fZ kx;have kv:=(kc q F).key;rw [T] at kv;obtain ⟨c0,c1,c2,c3,c4⟩:=kv;have ks:=λt=>Qe (w:=z.drew) kz hj U t;obtain ⟨y,hy⟩:=nM (b[j].1);rw [hy] at ks c3 c4;unfold bH at ks;have k8:OQ (z.drew.putObj (sb+1) (.map (dB D L G (b.eraseIdx j)).toArray (n+1))) sb room D L G b (λa=>a=w.heap.size+1+1\/S a) cn' nw' o/\aa (λk=>S k\/k=sb+1) w (z.drew.putObj (sb+1) (.map (dB D L G (b.eraseIdx j)).toArray (n+1))):=by
    have ko:aa (λk=>k=sb+1) z (z.drew.putObj (sb+1) (.map (dB D L G (b.eraseIdx j)).toArray (n+1))):=(aa.drew z).trans (aa.putObj _ _ _ rfl);have q8:=V.size;refine ⟨⟨λe=>by rw [hK] at e;omega,λ_=>⟨j,hj,R.trans M.symm,⟨n+1,?_⟩,?_⟩⟩,?_⟩
    . unfold World.putObj;exact YR (by show sb+1<z.heap.size;omega)
    . rw [M];exact kc.keep ko (λa g e=>by
       rcases g with g|g
       . omega
       . exact (i a g).1 e)
    . exact (B.later V (λk hk e=>by
       rcases e with e|e
       . omega
       . exact .inl e)).later ko (λk hk e=>.inr e)
   have H6:=al k8;clear k8 I r B hK U R T F M i s f V kx kz kc km hy;go_wp2;go_region;go_end0
   exact ⟨rfl,H6.out⟩
def OR {f:Nat->Nat}:∀ K:a9,(∀ i∈K,f i<256)->xl f K<256
 | [],_=>by rw [KV];decide
 | i::K,h=>by
  rw [Fy];exact xlt (h i UO) (OR K λj a=>h j (Ux _ a))
def QZ (D L G s:Nat) (C:Ck) (Dl:List a9) (k:Nat):a9:=(YC 44).map λq=>xl (λi=>gm ((aT 8 C (bN (D+L+G) s)).1.m k i) ((Dl.getD i []).getD q 0)) (ae (bN (D+L+G) s))
def N1 (D L G s:Nat) (C:Ck) (Dl:List a9) (k:Nat):(QZ D L G s C Dl k).length=44:=by unfold QZ;simp
theorem BY {s:Nat} {Dl:List a9} (J:1<=D) (w:D<=12) (z:G<=4) (F:D%L=0) (I:D+L+G<=16) (v:tells (lS D L G) (ae (aC (D+L+G) s))=ZV C) (K:d<D+L+G) (a:s.testBit d=ZU)
 (j:∀ i,(Bk (di D L G s C)).testBit i=ZU->(Dl.getD i []).length=44/\x.testBit i=ZT) :
 ja (di D L G s C) Dl x/\∃ R:Nat->a9,(∀ d,(R d).length=44/\∀ x∈R d,x<256)/\dM (di D L G s C) Dl (eZ (1+(ae (aC (D+L+G) s)).length) (gN (di D L G s C) Dl)) (di D L G s C).length=(ae (aC (D+L+G) s)).map (λd:Nat=>((d:Int),R d)):=by
 obtain ⟨m,_⟩:=oW w z v;have p:∀ t∈di D L G s C,t.k=0->(Dl.getD t.b.toNat []).length=44/\x.testBit t.b.toNat=ZT:=λt ht c=>j _ ((oQ _ _).2 ⟨t,ht,c,rfl⟩);have u:∀ t∈di D L G s C,t.k=0->(Dl.getD t.b.toNat []).length=44:=λt ht c=>(p t ht c).1;refine ⟨λi e c=>?_,?_⟩
 . rw [eI _ _ e] at c ⊢;have f:=p _ (T4 e) c;refine ⟨λO=>?_,by rw [f.1];exact BI u e c,eb⟩;have:=tY.1 O;rw [f.2] at this;cases this
 have o:=NS J w z F I v K a;have W:gN (di D L G s C) Dl=44:=by
  unfold jl at o;obtain ⟨i,e⟩:=List.exists_mem_of_length_pos o;obtain ⟨f,g⟩:=Vq.1 e;have a:(⟨0,0,(i:Int),0⟩:St)∈di D L G s C:=by
   unfold di fK wrTo;refine UN _ (Yk.2 ⟨lT _ i,T1.2 ⟨i,f,rfl⟩,?_⟩);rw [iy g];exact UO
  obtain ⟨k,j,Q⟩:=Va a;unfold gN;rw [Fl _ _ _ _ (BI u j (by rw [Q])) _ eb];rfl
 have N:(di D L G s C).length=(wrTo (aT 8 C (bN (D+L+G) s)).1 (ae (bN (D+L+G) s))).length+(gC (ae (aC (D+L+G) s))).length:=by unfold di fK;rw [T5]
 have U:(gC (ae (aC (D+L+G) s))).length=(ae (aC (D+L+G) s)).length:=by unfold gC;simp
 have X:=λB=>tX (wrTo (aT 8 C (bN (D+L+G) s)).1 (ae (bN (D+L+G) s))) (gC (ae (aC (D+L+G) s))) Dl B (λt a=>by
  unfold wrTo at a;obtain ⟨l,S,a⟩:=Yk.1 a;obtain ⟨i,e,rfl⟩:=T1.1 S;cases hr:cy (aT 8 C (bN (D+L+G) s)).1 i
  . rw [lU hr] at a;cases a
  . rw [iy hr] at a;rcases Un.1 a with rfl|a
    . exact (by decide:(0:Nat)≠2)
    . unfold gB at a;obtain ⟨r,_,rfl⟩:=T1.1 a;exact (by decide:(1:Nat)≠2)) (λt a=>by
  unfold gC at a;obtain ⟨k,_,rfl⟩:=T1.1 a;rfl) _ lR
 have n:=(X (eZ (1+(ae (aC (D+L+G) s)).length) 44)).2;rw [VE] at n;rw [W,N];rw [show di D L G s C=wrTo (aT 8 C (bN (D+L+G) s)).1 (ae (bN (D+L+G) s))++gC (ae (aC (D+L+G) s)) from rfl,n];have V:=KW (aT 8 C (bN (D+L+G) s)).1 Dl 44 (ae (bN (D+L+G) s)) (λ_ _=>0) (eZ (1+(ae (aC (D+L+G) s)).length) 44) (by rw [m.told];exact KX _ _);refine ⟨λd=>QZ D L G s C Dl ((ae (aC (D+L+G) s)).idxOf d),λd=>⟨N1 _ _ _ _ _ _ _,λy A=>?_⟩,U4 (by simp [U]) λk f g=>?_⟩
 . unfold QZ at A;obtain ⟨q,_,rfl⟩:=T1.1 A;exact OR _ λi _=>bD _ (m.byt _ _)
 have h:k<(ae (aC (D+L+G) s)).length:=vE g
 have M:(gC (ae (aC (D+L+G) s)))[k]' eb=⟨2,(k:Int)+1,(((ae (aC (D+L+G) s))[k]:Nat):Int),0⟩:=by
  simp [gC,h]
 have T:(ae (aC (D+L+G) s)).Nodup:=List.Nodup.sublist List.filter_sublist YJ;have P:(ae (aC (D+L+G) s)).idxOf (ae (aC (D+L+G) s))[k]=k:=T.idxOf_getElem k h;have H:=V.row k (by rw [m.told];exact h);have E:((k:Int)+1).toNat=1+k:=eb
 rw [Vf,Vf,M];show _=(_,QZ D L G s C Dl ((ae (aC (D+L+G) s)).idxOf (ae (aC (D+L+G) s))[k]));rw [P];show ((_:Int),(lj _ _ _).getD ((k:Int)+1).toNat [])=_;rw [E,H];unfold QZ;simp only [We]
def zX (ao:Option Addr) (a:Nat) (w:ZS):(convert 31 9 (.slice ao 0 a)).run ZM w=.ok (ZZ YH) w:=by
 rw [run_convert_bytes_string w 31 9 5 ao 0 a Ui WO Ym];cases ao<;>simp [Conv.bytesToString,loadCells,loadCellsFrom]
def uw (d:Nat) (tx:ZO) (a b:ZR) (i:TypeInfo) (e:ZM.info? tx=ZV i) (c:i.comparable=ZU) (w:ZS):(Op.equalIn (d+1) 195 (.iface tx a) (.iface tx b)).run ZM w=(Op.equalIn d tx a b).run ZM w:=by
 simp [Op.equalIn,Uw abr,typeInfo,e,c]
theorem Lo (D L G D' L' G':Int) (w:ZS):(Op.equalIn 10000 26 (.agg #[Z7 Z9 D,Z7 Z9 L,Z7 Z9 G]) (.agg #[Z7 Z9 D',Z7 Z9 L',Z7 Z9 G'])).run ZM w=.ok (decide (D=D'/\L=L'/\G=G')) w:=by
 by_cases a:D=D'
 . by_cases b:L=L'
   . by_cases c:G=G'
     . subst a b c;go_simp
     . have:(G==G')=ZT:=by simp [c]
       subst a b;go_simp
   . have:(L==L')=ZT:=by simp [b]
     subst a;go_simp
 . have:(D==D')=ZT:=by simp [a]
   go_simp
def Lp:∃ i:TypeInfo,ZM.info? 110=ZV i/\i.comparable=ZU:=by
 have:(ZM.info? 110).map (λi=>i.comparable)=ZV ZU:=ei
 rw [VU] at this;exact this
