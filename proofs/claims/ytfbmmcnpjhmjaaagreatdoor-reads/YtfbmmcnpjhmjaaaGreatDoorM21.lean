import Derived.Test.YtfbmmcnpjhmjaaaGreatDoorM20
import Derived.Sort.QuietIn
import Derived.Sort.QuietTacIn
set_option maxRecDepth 100000
set_option maxHeartbeats 8000000
open Go.IntKind renaming i64 -> Z9
open Go.Value renaming int -> Z8, pointer -> Z7, slice -> Z6, bool -> Z3
open Go.Obj renaming cells -> Z5
open Go.Ending renaming returned -> Z4
open Go renaming undef -> Z2, World -> ZY, Value -> ZX, Calls -> ZV, Boxed -> ZU
open Option renaming none -> Z1, some -> Z0
open Bool renaming false -> ZZ
open Go.RowKit renaming Below -> ZW
open Nat renaming le_refl -> Tm, reduceAdd -> Tr, reduceSub -> Ts, le_trans -> Tz, lt_of_lt_of_le -> TA
open Array renaming getElem?_eq_some_iff -> Tn, replicate_succ -> Tt, replicate_zero -> Tu
open List renaming size_toArray -> To, length_cons -> Tp, length_nil -> Tq, push_toArray -> Tv, append_toArray -> Tw, nil_append -> Tx, cons_append -> Ty, prefix_append -> TB, prefix_refl -> TC, length_append -> TD, take_prefix -> TF, take_add_one -> TG, getElem?_eq_getElem -> TH, range_succ -> TI, take_of_length_le -> TJ
open Option.some renaming inj -> TE
open Go.Proofs.Tryz renaming prog -> ZT
namespace Go.Proofs.YtfbmmcnpjhmjaaaGreatDoor
open Go.RowKit Go.Deep
variable {A:aB} {off:Bool} {R:Ending->ZY->Prop} {F:bx} {xs:List ZX} {v p D L G ps ho D' L' G' t f n B ar nn b0 q count base size:Nat} {e:TypeId} {pg ob:ZX} {w W w':ZY}
section
open Go.Shelf Gf
attribute [local go_sem] Oper.semAt_some
theorem F4 {m m':Nat} {P:Program} {l:Nat} {args:Array ZX} (h:YieldAt Fence.wide m P l args w R):YieldAt Fence.wide m' P l args w R:=by
 obtain ⟨a,tmps,assign,body,b,c⟩:=h;exact ⟨a,tmps,assign,body,b,vA c⟩
theorem lH (a:Option Addr) (m c:Nat) (w:ZY) :
 ZV ZT 125 #[.slice a m c] w λe w'=>e=Z4 (.func (.func 150) #[] #[Z7 (Z0 ⟨w.heap.size,0,Z1⟩)])/\w'=w.alloc (Z5 #[.slice a m c] 119):=by
 have d:∀ (b:Fn) (first cap:Array ZX) (w:ZY),(Instr.makeFunc b first cap).run ZT w=.ok (.func b first cap) w:=λ_ _ _ _=>rfl;go_enter Tryz.func125,Tryz.ntmps125;go_wp2;go_ret;exact ⟨rfl,rfl⟩
theorem sL (ar:Nat) (w:ZY) :
 ZV ZT 86 #[Z7 (Z0 ⟨ar,0,Z1⟩)] w λe w'=>e=Z4 (.func (.func 124) #[] #[Z7 (Z0 ⟨w.heap.size,0,Z1⟩)])/\w'=w.alloc (Z5 #[Z7 (Z0 ⟨ar,0,Z1⟩)] 90):=by
 have b:∀ (a:Fn) (first cap:Array ZX) (w:ZY),(Instr.makeFunc a first cap).run ZT w=.ok (.func a first cap) w:=λ_ _ _ _=>rfl;go_enter Tryz.func86,Tryz.ntmps86;go_wp2;go_ret;exact ⟨rfl,rfl⟩
theorem sM (K:Nat->Prop) (n l b1 ar:Nat) (v D L G t f nn:Nat) (pg ob:ZX) (off:Bool) (P:List Nat) (os:List Ob) (hv:K b1) (hs:K ar) (J M:List Nat->ZY->Prop) (hn:∀ pre A B,J pre A->ZW A.heap.size A B->J pre B)
 (hY:∀ pre x W,J pre W->pre++[x]<+:P++ai os->YieldAt Fence.wide (n-1) ZT l (px x) W λe j=>(e=Z4 (Z3 true)/\J (pre++[x]) j/\eM K W j)\/(e=Z4 (Z3 ZZ)/\M (pre++[x]) j))
 (W:ZY) (a:ZU W b1 90 (Z7 (Z0 ⟨ar,0,Z1⟩))) (g:bJ W ar v D L G t f nn pg ob off) (u:bK K W pg P) (s:gz K W ob os) (w:J [] W) :
 CallsIn Fence.wide n ZT 124 #[.func (.yield l) #[] #[],Z7 (Z0 ⟨b1,0,Z1⟩)] W λe j=>(∃ v,e=Z4 v) /\
  ((∃ ys,ys=P++ai os/\J ys j)\/(∃ pre,pre<+:P++ai os/\M pre j)):=by
 obtain ⟨ao,c,rfl,k0,z⟩:=id u;obtain ⟨c0,_,_,c7,U⟩:=g.cells;have V:=a.cell;refine callsIn_of_wp Tryz.func124 rfl trivial ?_ rfl;simp only [Tryz.ntmps124,To,Tp,Tq,Tr,Ts,Tt,Tu,Tv,Tw,Tx,Ty];have H:=hide5 a g u s w;clear a g u s w z;gi_wp2;gi_loopw [10] (λp wr=>∃ k:Nat,p=Z8 Z9 (k:Nat)/\k<=P.length/\J (P.take k) wr/\eM K W wr)
  (λp _=>P.length-(intOf p).toNat)
 case atStart=>
  exact ⟨0,rfl,Nat.zero_le _,H.out.2.2.2.2,eM.refl _ _⟩
 case round=>
  clear c0 c7 U V;obtain ⟨k,rfl,hk,m,d⟩:=hrel;by_cases r:k<P.length
  . obtain ⟨hb,c',X,_,z⟩:=H.out.2.2.1.keep d;obtain ⟨b,bo,e2,hx,k6,hr⟩:=z (λe=>by rw [e] at r;simp at r);simp only [Value.slice.injEq] at X;obtain ⟨rfl,_,rfl⟩:=X;subst e2;have g1:=hr k r;obtain ⟨y,F⟩:=nM (P[k]);rw [F] at g1;obtain ⟨fn,tmps,assign,body,k5,hR⟩:=hY _ y _ m (by
     have a:=(TF (k+1) P).trans (TB P (ai os));rwa [TG,TH r,F] at a)
    unfold px at k5;have I:=hide4 m d hR F;clear m d hR z hr F;gi_wp2;refine ⟨λh=>(by cases h),I.out.2.2.1.mono ?_⟩;have C:P.take k++[y]=P.take (k+1):=(by rw [TG,TH r,I.out.2.2.2];rfl);rintro e W3 (⟨rfl,R,hq⟩|⟨rfl,O⟩)
    . rw [C] at R;have i:=hide2 R (I.out.2.1.trans hq);clear R hq C;gi_wp2;go_roundw
      case rel=>exact ⟨k+1,by go_num,by omega,i.out.1,i.out.2⟩
      case measure=>simp only [intOf];omega
    . rw [C] at O;have i:=hide O;clear O C;gi_wp2;refine bodyPost_ret (results_none rfl _ _ _) rfl ?_;exact ⟨⟨_,rfl⟩,.inr ⟨_,(TF (k+1) P).trans (TB _ _),i.out⟩⟩
  . have hz:k=P.length:=(by omega);subst hz;rw [List.take_length] at m;obtain ⟨a,g,u,s,w⟩:=H.out;have hg:ZU wr b1 90 (Z7 (Z0 ⟨ar,0,Z1⟩)):=(d.2 _ a.lt hv).trans a;have hh:=g.keep (d.2 _ g.lt hs);have Q:=s.keep d;obtain ⟨_,_,_,_,U⟩:=hh.cells;have V:=hg.cell;obtain ⟨q,o,rfl,hol,_⟩:=id Q;have T:=hide3 m d Q;clear m d a g u s w hg hh Q;gi_wp2;refine cV (lH q os.length o wr) ?_;rintro e w2 ⟨rfl,rfl⟩;have E:ZW wr.heap.size wr (wr.alloc (Z5 #[.slice q os.length o] 119)):=bA wr _;have N:(wr.alloc (Z5 #[.slice q os.length o] 119)).cell? ⟨wr.heap.size,0,Z1⟩=Z0 (.slice q os.length o):=(Boxed.new wr _ _).cell;obtain ⟨w2,S⟩:=nM (wr.alloc (Z5 #[.slice q os.length o] 119));rw [S] at E N;have hm:=hn _ _ _ T.out.1 E;have hi:=T.out.2.2.keep (eM.of_below E);have Y:=lG K (n-1) l wr.heap.size (.slice q os.length o) os J M hn (P++ai os) (λpre x W1 hj hp=>F4 (hY pre x W1 hj hp)) P (TC _) w2 N hi hm;have H2:=hide Y;clear E N hm hi Y;rw [S];clear S;gi_wp2;refine ⟨trivial,λh=>(by cases h),H2.out.mono ?_⟩;rintro e W3 ⟨⟨x,rfl⟩,Z⟩;have i:=hide Z;clear Z;gi_wp2;go_end0
    refine ⟨⟨_,rfl⟩,?_⟩;rcases i.out with h|⟨pre,a,h2⟩
    . exact .inl ⟨_,rfl,h⟩
    . exact .inr ⟨_,(List.prefix_append_right_inj _).2 a,h2⟩
theorem py (K:Nat->Prop) (n b1 ar v D L G t f nn:Nat) (pg ob:ZX) (off:Bool) (P:List Nat) (os:List Ob) (m:K b1) (j:K ar) (w:ZY) (c:ZU w b1 90 (Z7 (Z0 ⟨ar,0,Z1⟩))) (d:bJ w ar v D L G t f nn pg ob off) (q:bK K w pg P) (o:gz K w ob os) :
 SeqStopsK Fence.wide n ZT 124 #[Z7 (Z0 ⟨b1,0,Z1⟩)] px (eM K) (λz=>z=P++ai os) (λpre=>pre<+:P++ai os) (P++ai os).length w:=λl J g W b p _ s i=>
 sM K n l b1 ar v D L G t f nn pg ob off P os m j J g (λpre A B h a=>p pre A B Z1 h ⟨a.os,a.tape,a.output,a.size,λk u _=>a.block k u⟩ (λr e=>by cases e)) (λpre x W h y=>s pre x W h (MV y)) W
  ((b.block _ c.lt).trans c) (d.keep (b.block _ d.lt)) (q.keep (eM.of_below b)) (o.keep (eM.of_below b)) i
end
theorem sO (n m:Nat) (g:n<=1000000000) (c:1<=m/\m<=1000000) (w:ZY):ZV ZT 118 #[Z8 Z9 n,Z8 Z9 m] w λe w'=>e=Z4 (Z8 Z9 (((n+m-1)/m:Nat):Int))/\w'=w:=by
 obtain ⟨h,i⟩:=c;have a:(((n+m-1)/m:Nat):Int)=((n:Int)+m-1)/(m:Int):=by rw [Int.natCast_ediv,show ((n+m-1:Nat):Int)=(n:Int)+m-1 by omega]
 have d:Int.tdiv ((n:Int)+m-1) (m:Int)=((n:Int)+m-1)/(m:Int):=Int.tdiv_eq_ediv_of_nonneg (by omega);have f:¬ (m:Int)=0:=by omega
 have b:wrap64 (((n:Int)+m-1)/(m:Int))=((n:Int)+m-1)/(m:Int):=by rw [<- a];exact fH (Tz (Nat.div_le_self _ _) (by omega))
 rw [a];go_enter Tryz.func118,Tryz.ntmps118;go_wp2;go_ret;exact ⟨congrArg (λx=>Ending.returned (Z8 Z9 x)) b,rfl⟩
def pgs (D m:Nat):Nat:=max 1 ((m+(D*44-4)-1)/(D*44-4))
theorem iZ {a:Nat} (r:bJ w a v D' L' G' t f n pg ob off) (h:bq w v p D L G ps ho) (l:1<=D) (o:D<=1000) (m:Nat) (s:m<=1000000000):ZV ZT 83 #[Z7 (Z0 ⟨a,0,Z1⟩),Z8 Z9 m] w λe w'=>e=Z4 (Z8 Z9 (pgs D m:Nat))/\w'=w:=by
 have c:=sO m (D*44-4) s ⟨by omega,by omega⟩ w;obtain ⟨q,d⟩:=nM ((m+(D*44-4)-1)/(D*44-4));rw [d] at c;have i:pgs D m=max 1 q:=by unfold pgs;rw [d]
 rw [i];have u:∀ b k w,(Builtin.max_ b k #[Z8 Z9 1,Z8 Z9 (q:Nat)]).run ZT w=.ok (Z8 Z9 ((max 1 q:Nat):Int)) w:=λb k w=>by
  rw [lj];by_cases g:(q:Int)>1
  . rw [if_pos g,Nat.max_eq_right (by omega)]
  . rw [if_neg g,Nat.max_eq_left (by omega)];rfl
 have j:=og r h l o;have H:=hide2 c j;clear c j i d;go_enter Tryz.func83,Tryz.ntmps83;go_wp2_with fail;refine H.out.2.mono ?_;rintro e w' ⟨rfl,rfl⟩;generalize ((D*44-4:Nat):Int)=x at *;go_wp2_with fail;refine H.out.1.mono ?_;rintro e w' ⟨rfl,rfl⟩;go_wp2;go_ret;exact ⟨rfl,rfl⟩
theorem mM (f:bq w v p D L G ps ho) (h:aq w p A F) (c:A.fit) (d:0<A.n):ZV ZT 139 #[Z7 (Z0 ⟨v,0,Z1⟩)] w λe w'=>e=Z4 (Z8 Z9 A.nb)/\w'=w:=by
 obtain ⟨i,_⟩:=f.cells;have g:=c.nb;have a:=sN h d;obtain ⟨nb,b⟩:=nM (A.nb);rw [b] at a g ⊢;clear h c d b;have j:¬ (2147483647:Int)<(nb:Int):=by omega
 go_enter Tryz.func139,Tryz.ntmps139;go_wp2_with fail;refine a.mono ?_;rintro e w' ⟨rfl,rfl⟩;go_wp2;go_ret;exact ⟨rfl,rfl⟩
section
open Go.Shelf Gf
attribute [local go_sem] Oper.semAt_some
def jv (nb:Nat) (s:(Nat->Bool)×Bool) (x:Nat):(Nat->Bool)×Bool:=if x<2\/nb<=x\/s.1 x=true then (s.1,ZZ) else (λj=>if j=x then true else s.1 j,s.2)
def tk (nb:Nat) (l:List Nat):(Nat->Bool)×Bool:=l.foldl (jv nb) (λ_=>ZZ,true)
theorem ri (nb:Nat) (l:List Nat) (x:Nat):tk nb (l++[x])=jv nb (tk nb l) x:=by simp [tk]
theorem Tryz.infoBoolT:(ZT.info? 4).map (λi=>(i.zero,i.size,i.bytes))=Z0 (Z0 (Z3 ZZ),1,1):=by kernel_rfl
theorem pA (w:ZY) {F:Fence} {m:Nat} {ops:Array Oper} {rest:List Oper} {o:Oper} {a:Act} {Q:Exit->Act->ZY->Prop}
 (i:o.guard=Z1) (l c:Operand) (b:o.op=Op.makeSlice 59 l c) (C:Int) (n:Nat) (j:a.eval l=Z8 Z9 C) (g:a.eval c=Z8 Z9 C) (f:C=(n:Int)) (k:n<=1000000000)
 (hK:∀ w',w'.rowIs w.heap.size 4 n (λ_=>Z3 ZZ)->ZW w.heap.size w w'->w'.heap.size=w.heap.size+1->wpListIn F m ZT ops Q rest (a.put o.dst (Z6 (Z0 ⟨w.heap.size,0,Z1⟩) n n)) w') :
 wpListIn F m ZT ops Q (o::rest) a w:=by
 refine wpListIn_plain i λK e=>?_;have d:=run_make_row' (P:=ZT) 59 4 (Z3 ZZ) 1 Tryz.underlying59 Tryz.infoBoolT rfl .i64 .i64 n (by omega) (by omega) w;subst f;unfold Oper.wpIn;refine ⟨by simp [Oper.about,b],?_⟩;rw [Oper.semAt_plain F _ _ (by rw [b];intro c h;cases h)];simp [execOp,b,j,g,d,Result.andThen];exact e _ _ (hK _ (World.rowIs_made w _ n _) (bA _ _) (nblk_alloc _ _))
structure N7 (w:ZY) (g nb B:Nat) (pre:List Nat) (X:ZY):Prop where
 row:X.rowIs g 4 nb (λj=>Z3 ((tk nb pre).1 j))
 box:ZU X (g+1) 59 (Z6 (Z0 ⟨g,0,Z1⟩) nb nb)
 ok:ZU X (g+1+1) 4 (Z3 (tk nb pre).2)
 below:ZW w.heap.size w X
 size:B<=X.heap.size
theorem N7.own {g nb:Nat} (l:g+3<=B) (m:w.heap.size<=B):OwnFrom B (N7 w g nb B):=by
 rintro pre X Y row ⟨f,h,i,c,j⟩ b d;have a:∀ k,k<B->Y.heap[k]?=X.heap[k]?:=λk a=>b.block k (by omega) (λe=>by have:=(d k e.symm).1;omega);exact ⟨f.of_block (a _ (by omega)),(a _ (by omega)).trans h,(a _ (by omega)).trans i,c.grown b c.size (λk e=>by have:=(d k e).1;omega),Tz j b.size⟩
theorem sP {fn:Func} {Z:ZY} {u:Nat} {x y:ZX} {a:Act} (f:fn.results=#[.tmp t,.tmp u]) (b:a.defers=[{ target:=.collected D',args:=#[] }]) (hx:a.tmps.getD t Z2=x) (hy:a.tmps.getD u Z2=y)
 (hK:Z.heap[D']?=Z0 (.deferred (Z0 []))) (hR:R (Z4 (.tuple #[x,y])) (Z.putObj D' (.deferred Z1))):bodyPostM Fence.wide n ZT fn R .ret a Z:=by
 obtain ⟨c,g⟩:=a;simp only at b hx hy;subst b;refine ⟨by simp,.inl ⟨_,_,rfl,run_takeDeferred hK,?_⟩⟩;refine ⟨.tuple #[x,y],?_,hR⟩;have d:c[t]?.getD Z2=x:=by simpa using hx
 have e:c[u]?.getD Z2=y:=by simpa using hy
 simp [results,f,d,e]
theorem F5 (Q:bJ w ar v D' L' G' t f nn pg ob off) (hV:bq w v p D L G ps ho) (h:aq w p A F) (hf:A.fit) (hn:0<A.n) (P:List Nat) (os:List Ob) (hP:bK (λk=>k<w.heap.size) w pg P) (hC:gz (λk=>k<w.heap.size) w ob os) :
 ZV ZT 148 #[Z7 (Z0 ⟨ar,0,Z1⟩)] w λe w'=>∃ g,e=Z4 (.tuple #[Z6 (Z0 ⟨g,0,Z1⟩) A.nb A.nb,Z3 (tk A.nb (P++ai os)).2])/\w.heap.size<=g/\w'.rowIs g 4 A.nb (λj=>Z3 ((tk A.nb (P++ai os)).1 j))/\ZW w.heap.size w w':=by
 obtain ⟨n,HN⟩:∃ n:Nat,Hid (9<=n):=⟨9,Tm _⟩;obtain ⟨c0,_⟩:=Q.cells;have S:=mM hV h hf hn;have kc:=hf.nb;obtain ⟨nb,h7⟩:=nM (A.nb);rw [h7] at S kc ⊢;clear h7;have C:=hide4 Q hP hC S;clear Q hP hC S;refine (callsIn_wide (n:=n)).1 ?_;refine callsIn_of_wp_marks Tryz.func148 rfl trivial ?_ rfl;simp only [Tryz.ntmps148,To,Tp,Tq,Tr,Ts,Tt,Tu,Tv,Tw,Tx,Ty];gi_wp2;refine cV C.out.2.2.2 ?_;rintro e w1 ⟨rfl,rfl⟩;gi_wp2_with (gi_at_make;refine pA _ rfl (.tmp 11) (.tmp 11) rfl _ nb (by rfl) (by rfl) rfl (by omega) ?_;intro w2 h6 hs J)
 obtain ⟨d,B⟩:=nM ((w2.alloc (Z5 #[Z6 (Z0 ⟨w1.heap.size,0,Z1⟩) nb nb] 59)).alloc (Z5 #[Z3 true] 4));have k6:d.heap.size=w1.heap.size+3:=by rw [<- B];simp [J]
 have hv:ZW w1.heap.size w1 d:=by rw [<- B];exact (hs.alloc (by omega) _).alloc (by simp;omega) _
 have hr:d.rowIs w1.heap.size 4 nb (λ_=>Z3 ZZ):=by rw [<- B];exact (h6.alloc _).alloc _
 have hm:ZU d (w1.heap.size+1) 59 (Z6 (Z0 ⟨w1.heap.size,0,Z1⟩) nb nb):=by
  rw [<- B];have:=Boxed.new w2 59 (Z6 (Z0 ⟨w1.heap.size,0,Z1⟩) nb nb);rw [J] at this;exact this.alloc _
 have hq:ZU d (w1.heap.size+1+1) 4 (Z3 true):=by
  rw [<- B];have:=Boxed.new (w2.alloc (Z5 #[Z6 (Z0 ⟨w1.heap.size,0,Z1⟩) nb nb] 59)) 4 (Z3 true);rw [World.size_alloc,J] at this;exact this
 rw [B];clear B h6 hs J c0 hV h;refine cV (sL ar d) ?_;rintro e w' ⟨rfl,rfl⟩;have h5:ZU (d.alloc (Z5 #[Z7 (Z0 ⟨ar,0,Z1⟩)] 90)) d.heap.size 90 (Z7 (Z0 ⟨ar,0,Z1⟩)):=Boxed.new d _ _;have k7:(d.alloc (Z5 #[Z7 (Z0 ⟨ar,0,Z1⟩)] 90)).heap.size=d.heap.size+1:=by simp
 have H:N7 w1 w1.heap.size nb (d.heap.size+1) [] (d.alloc (Z5 #[Z7 (Z0 ⟨ar,0,Z1⟩)] 90)):=⟨hr.alloc _,hm.alloc _,hq.alloc _,hv.alloc (by omega) _,by omega⟩;obtain ⟨s,hy⟩:=nM (d.alloc (Z5 #[Z7 (Z0 ⟨ar,0,Z1⟩)] 90));have I:=hide4 h5 H k6 k7;clear h5 H k6 k7 hr hm hq hv;gi_wp2;rw [hy] at I;clear hy;obtain ⟨kg,kh,ki,kj⟩:d.heap.size<=w1.heap.size+3/\w1.heap.size+3<=d.heap.size/\s.heap.size<=d.heap.size+1/\d.heap.size+1<=s.heap.size:=by have:=I.out.2.2;omega
 have H:N7 w1 w1.heap.size nb s.heap.size [] s:=by have:=I.out.2.1;exact ⟨this.row,this.box,this.ok,this.below,Tm _⟩
 have R:∀ {v:ZX} {l:List Nat},bK (λk=>k<w1.heap.size) w1 v l->bK (λk=>k<w1.heap.size\/k=d.heap.size) w1 v l:=λ⟨N,c,U,V,Y⟩=>⟨N,c,U,V,λK=>by obtain ⟨b,off,Z,r2,r3⟩:=Y K;exact ⟨b,off,Z,.inl r2,r3⟩⟩;have ka:=R C.out.2.1;have k8:gz (λk=>k<w1.heap.size\/k=d.heap.size) w1 ob os:=by
  obtain ⟨N,c,U,V,Y⟩:=C.out.2.2.1;refine ⟨N,c,U,V,λK=>?_⟩;obtain ⟨b,off,Z,r2,r3,r4⟩:=Y K;refine ⟨b,off,Z,.inl r2,r3,λi a=>?_⟩;obtain ⟨sv,s1,s2,s3,s4⟩:=r4 i a;exact ⟨sv,s1,s2,s3,R s4⟩
 have O:=H.below;have HI:=hide H;clear H R;refine wpIn_rangeFunc_ownG rfl (by have:=HN.out;omega) (gf:=124) (lb:=#[Z7 (Z0 ⟨d.heap.size,0,Z1⟩)]) rfl trivial (enters_of Tryz.func124 (by kernel_rfl) rfl)
  (py (λk=>k<w1.heap.size\/k=d.heap.size) (n-1) d.heap.size ar v D' L' G' t f nn pg ob off P os (.inr rfl) (.inl C.out.1.lt) s I.out.1 (C.out.1.keep (O.block _ C.out.1.lt)) (ka.keep (eM.of_below O)) (k8.keep (eM.of_below O)))
  (λh k=>h.trans k) (λW l o o' K _ _ _=>⟨by simp [World.putObj],λk _ r=>World.putObj_heap_other (by rcases r with r|r<;>omega)⟩) (Below.refl _ _) (λ_=>rfl)
  (N7 w1 w1.heap.size nb s.heap.size) (λ_ _ _=>False) (N7.own (by omega) (by omega)) (λ_ _ _ _ _ h _ _=>h.elim) HI.out
  (λx=>{ tmps:=#[Z7 (Z0 ⟨ar,0,Z1⟩),Z2,Z6 Z1 0 0,Z3 ZZ,Z7 (Z0 ⟨w1.heap.size+1,0,Z1⟩),Z7 (Z0 ⟨w1.heap.size+1+1,0,Z1⟩),Z8 Z9 (x:Nat),Z7 (Z0 ⟨ar,0,Z1⟩),Z7 (Z0 ⟨ar,0,Z1⟩),Z7 (Z0 ⟨ar,0,Z1⟩),Z7 (Z0 ⟨v,0,Z1⟩),Z8 Z9 (nb:Nat),Z6 (Z0 ⟨w1.heap.size,0,Z1⟩) nb nb,Z7 (Z0 ⟨ar,0,Z1⟩),.func (.func 124) #[] #[Z7 (Z0 ⟨d.heap.size,0,Z1⟩)],Z8 Z9 (x:Nat),Z2,Z2,Z2,Z2,Z2,Z2,Z2,Z2,Z2,Z2,Z2,Z2,Z2,Z2,Z2,Z2,Z2,Z2,Z2],defers:=[] }) ?assign ?body ?done ?stop
 case assign=>
  intro l2 x X Kk hK;unfold px;gi_wp2;exact hK
 case body=>
  rintro l2 pre x X a kb;have c1:=a.box.cell;have c2:=a.ok.cell;have f2:=a.ok.frozen;have E:=hide a;have hg:=a.size;have h1:tk nb (pre++[x])=((tk nb pre).1,ZZ)->KeepsFrom s.heap.size X (X.setCell ⟨w1.heap.size+1+1,0,Z1⟩ (Z3 ZZ))/\eM (λk=>k<w1.heap.size\/k=d.heap.size) X (X.setCell ⟨w1.heap.size+1+1,0,Z1⟩ (Z3 ZZ))/\N7 w1 w1.heap.size nb s.heap.size (pre++[x]) (X.setCell ⟨w1.heap.size+1+1,0,Z1⟩ (Z3 ZZ)):=λm=>by
   have a:=E.out;refine ⟨(KeepsOthers.setCell _ _ _).from _,⟨by simp [World.setCell],λk _ r=>blk_setCell_other _ _ _ _ (by show k≠w1.heap.size+1+1;rcases r with r|r<;>omega)⟩,?_,?_,?_,?_,?_⟩
   . rw [m];exact a.row.of_block (blk_setCell_other _ _ _ _ (by show w1.heap.size≠w1.heap.size+1+1;omega))
   . exact (blk_setCell_other _ _ _ _ (by show w1.heap.size+1≠w1.heap.size+1+1;omega)).trans a.box
   . rw [m];exact a.ok.set _
   . exact a.below.setCell (p:=⟨w1.heap.size+1+1,0,Z1⟩) (by show w1.heap.size<=w1.heap.size+1+1;omega) _
   . simpa [World.setCell] using a.size
  have M:=hide h1;clear a h1 hg;by_cases hz:x<2
  . have e1:(x:Int)<2:=(by omega);have m:tk nb (pre++[x])=((tk nb pre).1,ZZ):=(by rw [ri];unfold jv;rw [if_pos (.inl hz)]);have z:=hide m;clear m;gi_wp2;exact M.out z.out
  . have e1:¬ (x:Int)<2:=(by omega);by_cases k0:nb<=x
    . have e2:(x:Int)≥(nb:Int):=(by omega);have m:tk nb (pre++[x])=((tk nb pre).1,ZZ):=(by rw [ri];unfold jv;rw [if_pos (.inr (.inl k0))]);have z:=hide m;clear m;gi_wp2;exact M.out z.out
    . have e2:¬ (x:Int)≥(nb:Int):=(by omega);have kf:x<nb:=(by omega);have c3:=E.out.row.cell (i:=x) kf;have f3:=E.out.row.frozen x;cases h9:(tk nb pre).1 x with
      | true=>
       rw [h9] at c3;have m:tk nb (pre++[x])=((tk nb pre).1,ZZ):=(by rw [ri];unfold jv;rw [if_pos (.inr (.inr h9))]);have z:=hide m;clear m;gi_wp2;exact M.out z.out
      | false=>
       rw [h9] at c3;have m:tk nb (pre++[x])=(λj=>if j=x then true else (tk nb pre).1 j,(tk nb pre).2):=by
        rw [ri];unfold jv;rw [if_neg];rintro (q|q|q)
        . exact hz q
        . exact k0 q
        . rw [h9] at q;cases q
       have z:=hide m;clear m;gi_wp2;have m:=z.out;have a:=E.out;refine ⟨(KeepsOthers.setCell _ _ _).from _,⟨by simp [World.setCell],λk _ r=>blk_setCell_other _ _ _ _ (by show k≠w1.heap.size;rcases r with r|r<;>omega)⟩,?_,?_,?_,?_,?_⟩
       . rw [m];refine (a.row.set x (Z3 true)).congr λj hj=>?_;by_cases e:j=x
         . simp [e]
         . simp [e]
       . exact (blk_setCell_other _ _ _ _ (by show w1.heap.size+1≠w1.heap.size;omega)).trans a.box
       . rw [m];exact (blk_setCell_other _ _ _ _ (by show w1.heap.size+1+1≠w1.heap.size;omega)).trans a.ok
       . exact a.below.setCell (p:=⟨w1.heap.size,x,Z1⟩) lR _
       . simpa [World.setCell] using a.size
 case done=>
  rintro D1 xs X k9 k5 a hK;rw [k5] at a;have c1:=a.box.cell;have c2:=a.ok.cell;have E:=hide2 a hK;clear a hK k5;obtain ⟨tb,T⟩:=nM ((tk nb (P++ai os)).2);rw [T] at c2;have HT:=hide T;clear T;gi_wp2;gi_region
  gi_wp2;obtain ⟨a,hK⟩:=E.out;have hp:X.drew.heap[D1]?=Z0 (.deferred (Z0 [])):=hK;refine sP (t:=2) (u:=3) (x:=Z6 (Z0 ⟨w1.heap.size,0,Z1⟩) nb nb) (y:=Z3 tb) Tryz.results148 rfl rfl rfl hp ⟨w1.heap.size,by rw [HT.out],Tm _,?_,?_⟩
  . exact a.row.of_block (World.putObj_heap_other (w:=X.drew) (by omega))
  . exact Below.putObj' a.below.drew (by omega) (Tn.1 hp).1 _
 case stop=>
  rintro D1 cc pre X k9 ke hx hK;exact hx.elim
end
section
open Go.Shelf Gf
attribute [local go_sem] Oper.semAt_some
def bh (T:Nat->Bool) (k:Nat):List Nat:=(List.range k).filter (λj=>decide (2<=j) && !T j)
theorem pB (T:Nat->Bool):bh T 2=[]:=by simp [bh,TI]
theorem ni (T:Nat->Bool) (k:Nat):bh T (k+1)=bh T k++(if 2<=k/\T k=ZZ then [k] else []):=by
 unfold bh;rw [TI,List.filter_append];congr 1;by_cases h:2<=k/\T k=ZZ
 . rw [if_pos h];simp [h.1,h.2]
 . rw [if_neg h];by_cases a:2<=k
   . have:T k=true:=by cases q:T k<;>simp_all
     simp [this]
   . simp [a]
theorem kt (T:Nat->Bool) {k m:Nat} (h:k<=m):bh T k<+:bh T m:=by
 induction m with
 | zero=>rw [show k=0 by omega];exact TC _
 | succ m ih=>
  by_cases e:k=m+1
  . rw [e];exact TC _
  . rw [ni];exact (ih (by omega)).trans (TB _ _)
theorem AE (ar:Nat) (w:ZY) :
 ZV ZT 117 #[Z7 (Z0 ⟨ar,0,Z1⟩)] w λe w'=>e=Z4 (.func (.func 147) #[] #[Z7 (Z0 ⟨w.heap.size,0,Z1⟩)])/\w'=w.alloc (Z5 #[Z7 (Z0 ⟨ar,0,Z1⟩)] 90):=by
 have b:∀ (a:Fn) (first cap:Array ZX) (w:ZY),(Instr.makeFunc a first cap).run ZT w=.ok (.func a first cap) w:=λ_ _ _ _=>rfl;go_enter Tryz.func117,Tryz.ntmps117;go_wp2;go_ret;exact ⟨rfl,rfl⟩
def MW (b0:Nat) (W W':ZY):Prop:=W.heap.size<=W'.heap.size/\∀ k o,b0<=k->W.heap[k]?=Z0 o->o.isCells=true->W'.heap[k]?=Z0 o
theorem MW.trans {a b c:ZY} (h:MW b0 a b) (k:MW b0 b c):MW b0 a c:=⟨Tz h.1 k.1,λi o d f e=>k.2 i o d (h.2 i o d f e) e⟩
theorem MW.row {W':ZY} (h:MW b0 W W') {g n:Nat} {t:TypeId} {f:Nat->ZX} (d:b0<=g) (b:W.rowIs g t n f):W'.rowIs g t n f:=by
 obtain ⟨c,a,_⟩:=id b;exact b.of_block ((h.2 g _ d a rfl).trans a.symm)
theorem JQ (Q:bJ W ar v D' L' G' t f nn pg ob off) (V:bq W v p D L G ps ho) (h:aq W p A F) (y:A.fit) (Y:0<A.n) (P:List Nat) (os:List Ob) (S:bK (λk=>k<W.heap.size) W pg P) (R:gz (λk=>k<W.heap.size) W ob os)
 (n l b1 b0:Nat) (hq:b0<=W.heap.size) (J C:List Nat->ZY->Prop) (hc:∀ pre A B,J pre A->ZW A.heap.size A B->J pre B)
 (s:∀ pre x W,J pre W->pre.length<(bh (tk A.nb (P++ai os)).1 A.nb).length->YieldAt Fence.wide (n-1) ZT l (px x) W λe o=>(e=Z4 (Z3 true)/\J (pre++[x]) o/\MW b0 W o)\/(e=Z4 (Z3 ZZ)/\C (pre++[x]) o))
 (h1:W.cell? ⟨b1,0,Z1⟩=Z0 (Z7 (Z0 ⟨ar,0,Z1⟩))) (E:J [] W) :
 CallsIn Fence.wide n ZT 147 #[.func (.yield l) #[] #[],Z7 (Z0 ⟨b1,0,Z1⟩)] W λe o=>(∃ v,e=Z4 v) /\
  ((∃ Z,Z=bh (tk A.nb (P++ai os)).1 A.nb/\J Z o)\/(∃ pre,pre<+:bh (tk A.nb (P++ai os)).1 A.nb/\C pre o)):=by
 have q:=F5 Q V h y Y P os S R;have hj:=y.nb;obtain ⟨nb,I⟩:=nM (A.nb);rw [I] at q hj s ⊢;obtain ⟨T,U⟩:=nM (tk nb (P++ai os));rw [U] at q s ⊢;obtain ⟨a,tr⟩:=T;simp only at q s ⊢;clear I U Q V h y Y S R;refine callsIn_of_wp Tryz.func147 rfl trivial ?_ rfl;simp only [Tryz.ntmps147,To,Tp,Tq,Tr,Ts,Tt,Tu,Tv,Tw,Tx,Ty];gi_wp2;refine cV q ?_;rintro e w1 ⟨g,rfl,hg,b,O⟩;have K:=hc _ _ _ E O;have z:=hide2 b K;clear b O K q E h1;gi_wp2;gi_loopw [5] (λp wr=>∃ k:Nat,p=Z8 Z9 (k:Nat)/\2<=k/\(k<=nb\/k=2)/\J (bh a k) wr/\wr.rowIs g 4 nb (λj=>Z3 (a j)))
  (λp _=>nb-(intOf p).toNat)
 case atStart=>
  exact ⟨2,rfl,Tm _,.inr rfl,by rw [pB];exact z.out.2,z.out.1⟩
 case round=>
  obtain ⟨k,rfl,hh,u,d,b⟩:=hrel;by_cases hi:k<nb
  . have c1:=b.cell (i:=k) hi;cases hm:a k with
    | true=>
     rw [hm] at c1;have c:bh a (k+1)=bh a k:=(by rw [ni,if_neg (by rw [hm];simp),List.append_nil]);rw [<- c] at d;have m:=hide2 d b;clear d b c hm;gi_wp2;refine ⟨λ_ h=>(by cases h),?_⟩;gi_wp2;go_roundw
     case rel=>exact ⟨k+1,by go_num,by omega,.inl (by omega),m.out.1,m.out.2⟩
     case measure=>simp only [intOf];omega
    | false=>
     rw [hm] at c1;have c:bh a k++[k]=bh a (k+1):=(by rw [ni,if_pos ⟨hh,hm⟩]);have X:(bh a k).length<(bh a nb).length:=by
      have:=(kt a (show k+1<=nb by omega)).length_le;rw [<- c,TD] at this;simp at this;omega
     obtain ⟨fn,tmps,assign,body,hp,w⟩:=s _ k _ d X;unfold px at hp;rw [c] at w;have m:=hide2 b w;clear d b w c hm X;gi_wp2;refine ⟨λh=>(by cases h),m.out.2.mono ?_⟩;rintro e W3 (⟨rfl,M,N⟩|⟨rfl,H⟩)
     . have r:=hide2 M (N.row (by omega) m.out.1);clear M N;gi_wp2;go_roundw
       case rel=>exact ⟨k+1,by go_num,by omega,.inl (by omega),r.out.1,r.out.2⟩
       case measure=>simp only [intOf];omega
     . have r:=hide H;clear H;gi_wp2;refine bodyPost_ret (results_none rfl _ _ _) rfl ?_;exact ⟨⟨_,rfl⟩,.inr ⟨_,kt a (show k+1<=nb by omega),r.out⟩⟩
  . have c:bh a k=bh a nb:=by
     rcases u with u|u
     . rw [show k=nb by omega]
     . subst u;rw [pB];exact (List.prefix_nil.1 (by have:=kt a (show nb<=2 by omega);rwa [pB] at this)).symm
    rw [c] at d;have m:=hide d;clear d c b;gi_wp2;go_end0
    exact ⟨⟨_,rfl⟩,.inl ⟨_,rfl,m.out⟩⟩
theorem Dk (z:bJ w ar v D' L' G' t f nn pg ob off) (C:bq w v p D L G ps ho) (h:aq w p A F) (R:A.fit) (U:0<A.n) (P:List Nat) (os:List Ob) (O:bK (λk=>k<w.heap.size) w pg P) (M:gz (λk=>k<w.heap.size) w ob os)
 (n b1:Nat) (d:b1<w.heap.size) (I:w.cell? ⟨b1,0,Z1⟩=Z0 (Z7 (Z0 ⟨ar,0,Z1⟩))) :
 SeqStopsK Fence.wide n ZT 147 #[Z7 (Z0 ⟨b1,0,Z1⟩)] px (MW w.heap.size) (λys=>ys=bh (tk A.nb (P++ai os)).1 A.nb) (λpre=>pre<+:bh (tk A.nb (P++ai os)).1 A.nb) (bh (tk A.nb (P++ai os)).1 A.nb).length w:=λl J E W a N _ Q H=>by
 have y:∀ {v:ZX} {l:List Nat},bK (λk=>k<w.heap.size) W v l->bK (λk=>k<W.heap.size) W v l:=λ⟨g,c,m,o,q⟩=>⟨g,c,m,o,λj=>by obtain ⟨b,off,s,u,x⟩:=q j;exact ⟨b,off,s,TA u a.size,x⟩⟩;have K:gz (λk=>k<W.heap.size) W ob os:=by
  obtain ⟨g,c,m,o,q⟩:=M.keep (eM.of_below a);refine ⟨g,c,m,o,λj=>?_⟩;obtain ⟨b,off,s,u,x,V⟩:=q j;refine ⟨b,off,s,TA u a.size,x,λi S=>?_⟩;obtain ⟨sv,X,Y,Z,s4⟩:=V i S;exact ⟨sv,X,Y,Z,y s4⟩
 exact JQ (z.keep (a.block _ z.lt)) (C.keep (a.block _ C.lt)) (h.below a lR) R U P os (y (O.keep (eM.of_below a))) K n l b1 w.heap.size a.size J E (λpre A B h d=>N pre A B Z1 h ⟨d.os,d.tape,d.output,d.size,λk T _=>d.block k T⟩ (λr e=>by cases e)) Q ((a.cell (p:=⟨b1,0,Z1⟩) d).trans I) H
end
section
open Go.Shelf Gf
attribute [local go_sem] Oper.semAt_some
def zj (l:List Nat):List ZX:=l.map λ(x:Nat)=>Value.int .i64 (x:Int)
theorem Tryz.infoIntT:(ZT.info? 3).map (λi=>(i.zero,i.size,i.bytes))=Z0 (Z0 (Z8 Z9 0),1,8):=by kernel_rfl
structure N8 (w:ZY) (q count B:Nat) (pre:List Nat) (X:ZY):Prop where
 cnt:ZU X w.heap.size 3 (Z8 Z9 (count:Nat))
 box:ZU X q 41 (Z6 (Z0 ⟨w.heap.size+1,0,Z1⟩) pre.length count)
 own:X.ownsRow (w.heap.size+1) 3 1 (Z6 (Z0 ⟨w.heap.size+1,0,Z1⟩) pre.length count) pre.length (zj pre)
 below:ZW w.heap.size w X
 size:B<=X.heap.size
 le:pre.length<=count
theorem N8.own' (l:w.heap.size+3<=B) (m:q<B):OwnFrom B (N8 w q count B):=by
 rintro pre X Y row ⟨f,g,h,d,i,j⟩ a c;have b:∀ k,k<B->Y.heap[k]?=X.heap[k]?:=λk b=>a.block k (by omega) (λe=>by have:=(c k e.symm).1;omega);exact ⟨(b _ (by omega)).trans f,(b _ (by omega)).trans g,lz h a λr e=>(c r e).2,d.grown a d.size (λk e=>by have:=(c k e).1;omega),Tz i a.size,j⟩
def P5 (w:ZY) (q count B id:Nat) (c:Code) (pre':List Nat) (X:ZY):Prop:=c=.exit id/\∃ pre x,pre'=pre++[x]/\pre.length=count/\N8 w q count B pre X
theorem P5.own' {id:Nat} (g:w.heap.size+3<=B) (i:q<B) (c:Code):OwnFrom B (P5 w q count B id c):=by
 rintro a X Y row ⟨b,pre,x,d,e,f⟩ h j;exact ⟨b,pre,x,d,e,N8.own' g i pre X Y row f h j⟩
theorem lI (K:bJ w ar v D' L' G' t f nn pg ob off) (M:bq w v p D L G ps ho) (h:aq w p A F) (hf:A.fit) (hn:0<A.n) (P:List Nat) (os:List Ob) (R:bK (λk=>k<w.heap.size) w pg P) (Q:gz (λk=>k<w.heap.size) w ob os) (count:Nat) (k7:count<=1000000) :
 ZV ZT 82 #[Z7 (Z0 ⟨ar,0,Z1⟩),Z8 Z9 (count:Nat)] w λe w'=>∃ u,e=Z4 (.tuple #[u,Z3 (decide (count<=(bh (tk A.nb (P++ai os)).1 A.nb).length))]) /\
  w'.ownsRow w.heap.size 3 1 u ((bh (tk A.nb (P++ai os)).1 A.nb).take count).length (zj ((bh (tk A.nb (P++ai os)).1 A.nb).take count))/\ZW w.heap.size w w':=by
 obtain ⟨n,HN⟩:∃ n:Nat,Hid (9<=n):=⟨9,Tm _⟩;have H0:=hide5 K M h R Q;clear K M h R Q;refine (callsIn_wide (n:=n)).1 ?_;refine callsIn_of_wp_marks Tryz.func82 rfl trivial ?_ rfl;simp only [Tryz.ntmps82,To,Tp,Tq,Tr,Ts,Tt,Tu,Tv,Tw,Tx,Ty];obtain ⟨i0,kx,qh,q6,qi⟩:=info_parts Tryz.infoIntT;have hr:(w.alloc (Z5 #[Z8 Z9 (count:Int)] 3)).heap.size=w.heap.size+1:=by simp
 have kr:ZW w.heap.size w (w.alloc (Z5 #[Z8 Z9 (count:Int)] 3)):=bA w _;have km:ZU (w.alloc (Z5 #[Z8 Z9 (count:Int)] 3)) w.heap.size 3 (Z8 Z9 (count:Nat)):=Boxed.new w _ _;have z:=hide3 hr kr km;clear hr kr km;gi_wp2_with (gi_at_make;refine wpListIn_make_own _ rfl (.const (Z8 Z9 0)) (.tmp 8) 41 rfl (w.heap.size+1) 3 i0 (Z8 Z9 0) 1 Tryz.underlying41 kx qh q6 .i64 .i64 _ count (by rfl) (by rfl) rfl (by rw [qi];omega) (by unfold maxLen;omega) (by rw [z.out.1];exact Tm _) ?_;intro w2 Y hx)
 rw [z.out.1] at Y;have kj:=hx.size;rw [z.out.1] at kj;have qj:w.heap.size+1<w2.heap.size:=(Y.lt (w.heap.size+1) rfl).2;have hj:ZW w.heap.size w w2:=z.out.2.1.grown hx (by rw [z.out.1];omega) (λk e=>by cases e);have h8:ZU w2 w.heap.size 3 (Z8 Z9 (count:Nat)):=(hx.block _ (by rw [z.out.1];omega) (by simp)).trans z.out.2.2;have h2:ZU (w2.alloc (Z5 #[Z6 (Z0 ⟨w.heap.size+1,0,Z1⟩) 0 count] 41)) w2.heap.size 41 (Z6 (Z0 ⟨w.heap.size+1,0,Z1⟩) 0 count):=Boxed.new w2 _ _;have hs:ZW w2.heap.size w2 (w2.alloc (Z5 #[Z6 (Z0 ⟨w.heap.size+1,0,Z1⟩) 0 count] 41)):=bA w2 _;have hy:(w2.alloc (Z5 #[Z6 (Z0 ⟨w.heap.size+1,0,Z1⟩) 0 count] 41)).heap.size=w2.heap.size+1:=by simp
 obtain ⟨d,q4⟩:=nM (w2.alloc (Z5 #[Z6 (Z0 ⟨w.heap.size+1,0,Z1⟩) 0 count] 41));rw [q4] at h2 hs hy ⊢;refine cV (AE ar d) ?_;rintro e w' ⟨rfl,rfl⟩;have h5:(d.alloc (Z5 #[Z7 (Z0 ⟨ar,0,Z1⟩)] 90)).cell? ⟨d.heap.size,0,Z1⟩=Z0 (Z7 (Z0 ⟨ar,0,Z1⟩)):=(Boxed.new d _ _).cell;have q7:(d.alloc (Z5 #[Z7 (Z0 ⟨ar,0,Z1⟩)] 90)).heap.size=d.heap.size+1:=by simp
 have k5:ZW d.heap.size d (d.alloc (Z5 #[Z7 (Z0 ⟨ar,0,Z1⟩)] 90)):=bA d _;obtain ⟨g,T⟩:=nM (d.alloc (Z5 #[Z7 (Z0 ⟨ar,0,Z1⟩)] 90));have V:ZW w2.heap.size w2 g:=by rw [<- T];exact hs.trans (k5.mono hs.size)
 have ha:ZW w.heap.size w g:=hj.trans (V.mono (by omega));have ky:N8 w w2.heap.size count g.heap.size [] g:=⟨(V.block _ (by omega)).trans h8,by rw [<- T];exact (k5.block _ (by omega)).trans h2,aA Y V,ha,Tm _,Nat.zero_le _⟩;have q0:g.heap.size=w2.heap.size+2:=by rw [<- T,q7,hy]
 have S:=hide5 h5 ky ha hy q0;clear h5 ky q7 k5 V ha q0 h2 hs hy Y hx hj h8;gi_wp2;rw [T] at S;clear T q4;obtain ⟨qk,qm,qn,qo⟩:d.heap.size<=w2.heap.size+1/\w2.heap.size+1<=d.heap.size/\g.heap.size<=w2.heap.size+2/\w2.heap.size+2<=g.heap.size:=by have:=S.out.2.2.2;omega
 have C:=S.out.2.2.1;obtain ⟨K,M,h,R,Q⟩:=H0.out;have k0:∀ {v:ZX} {l:List Nat},bK (λk=>k<w.heap.size) g v l->bK (λk=>k<g.heap.size) g v l:=λ⟨ao,c,q1,q2,q3⟩=>⟨ao,c,q1,q2,λZ=>by obtain ⟨b,off,r1,r2,r3⟩:=q3 Z;exact ⟨b,off,r1,TA r2 C.size,r3⟩⟩;have kp:=k0 (R.keep (eM.of_below C));have ko:gz (λk=>k<g.heap.size) g ob os:=by
  obtain ⟨ao,c,q1,q2,q3⟩:=Q.keep (eM.of_below C);refine ⟨ao,c,q1,q2,λZ=>?_⟩;obtain ⟨b,off,r1,r2,r3,r4⟩:=q3 Z;refine ⟨b,off,r1,TA r2 C.size,r3,λi a=>?_⟩;obtain ⟨sv,s1,s2,s3,s4⟩:=r4 i a;exact ⟨sv,s1,s2,s3,k0 s4⟩
 have kf:=Dk (K.keep (C.block _ K.lt)) (M.keep (C.block _ M.lt)) (h.below C lR) hf hn P os kp ko (n-1) d.heap.size (by omega) S.out.1;obtain ⟨fr,k8⟩:=nM (bh (tk A.nb (P++ai os)).1 A.nb);rw [k8] at kf;have kk:=hide k8;have qa:=hide kf;clear k8 kf kp ko k0 K M h R Q;refine wpIn_rangeFunc_ownG rfl (by have:=HN.out;omega) (gf:=147) (lb:=#[Z7 (Z0 ⟨d.heap.size,0,Z1⟩)]) rfl trivial (enters_of Tryz.func147 (by kernel_rfl) rfl)
  qa.out (λh k=>h.trans k) (λW l o o' Z ho hc _=>⟨by simp [World.putObj],λk o2 _ m kv=>(World.putObj_heap_other (λe=>by subst e;rw [m] at ho;cases ho;rw [hc] at kv;cases kv)).trans m⟩) (Below.refl _ _) (λ_=>rfl)
  (N8 w w2.heap.size count g.heap.size) (P5 w w2.heap.size count g.heap.size 0) (N8.own' (by omega) (by omega)) (P5.own' (by omega) (by omega)) S.out.2.1
  (λx=>{ tmps:=#[Z7 (Z0 ⟨ar,0,Z1⟩),Z8 Z9 (count:Nat),Z2,Z7 (Z0 ⟨w.heap.size,0,Z1⟩),Z6 Z1 0 0,Z3 ZZ,Z7 (Z0 ⟨w2.heap.size,0,Z1⟩),Z8 Z9 (x:Nat),Z8 Z9 (count:Nat),Z6 (Z0 ⟨w.heap.size+1,0,Z1⟩) 0 count,Z7 (Z0 ⟨ar,0,Z1⟩),.func (.func 147) #[] #[Z7 (Z0 ⟨d.heap.size,0,Z1⟩)],Z8 Z9 (x:Nat),Z2,Z2,Z2,Z2,Z2,Z2,Z2,Z2,Z2,Z2,Z2,Z2,Z2],defers:=[] }) ?assign ?body ?done ?stop
 case assign=>
  intro l2 x X Kk hK;unfold px;gi_wp2;exact hK
 case body=>
  rintro l2 pre x X a qe;have c1:=a.cnt.cell;have I:=a.box.cell;have kb:=a.le;by_cases h3:pre.length=count
  . have e1:((pre.length:Nat):Int)=((count:Nat):Int):=(by omega);have B:=hide a;clear a;rw [h3] at I;gi_wp2;exact ⟨KeepsFrom.refl _ _,rfl,pre,x,rfl,h3,B.out⟩
  . have e1:¬ ((pre.length:Nat):Int)=((count:Nat):Int):=(by omega);obtain ⟨pl,H⟩:=nM (pre.length);have HO:Hid ((X.alloc (Z5 #[Z8 Z9 (x:Nat)] 3)).ownsRow (w.heap.size+1) 3 1 (Z6 (Z0 ⟨w.heap.size+1,0,Z1⟩) pl count) pl (zj pre)):=hide (by have:=aA a.own ((Below.refl _ X).alloc lR (Z5 #[Z8 Z9 (x:Nat)] 3));rwa [H] at this);have hm:∀ j u,[Value.int .i64 ((x:Nat):Int)][j]?=Z0 u->(X.alloc (Z5 #[Z8 Z9 (x:Nat)] 3)).cell? ((⟨X.heap.size,0,Z1⟩:Addr).add j)=Z0 u:=rC X (Z8 Z9 (x:Nat)) 3;have q9:=hide hm;have qg:w2.heap.size<X.heap.size:=(by have:=a.size;omega);have B:=hide2 a H;rw [H] at I e1 kb;have ks:ZU X w2.heap.size 41 (Z6 (Z0 ⟨w.heap.size+1,0,Z1⟩) pl count):=(by have:=a.box;rwa [H] at this);have q8:=hide ks;clear a hm ks h3 H;gi_wp2_with (
     gi_at_builtin;
     refine wpListIn_append_fits _ rfl (.tmp 17) (.tmp 19) 41 rfl (w.heap.size+1) 3 i0 1 Tryz.underlying41 kx q6 (w.heap.size+1) pl count (zj pre) (by rfl) (by exact HO.out) ⟨X.heap.size,0,Z1⟩ 1 1 [Z8 Z9 (x:Nat)] (by rfl) rfl (by exact q9.out) (λu hu=>by simp at hu;subst hu;rfl) (by omega) ?_;
     intro U hp J;
     have hz:ZU U w2.heap.size 41 (Z6 (Z0 ⟨w.heap.size+1,0,Z1⟩) pl count):=(J.block _ (by simp;omega) (λe=>by have:=TE e;omega)).trans ((blk_alloc_lt _ _ _ qg).trans q8.out);
     have d0:=hz.cell;
     have f0:=hz.frozen)
    obtain ⟨a,H⟩:=B.out;have hv:∀ k,k<X.heap.size->k≠w.heap.size+1->U.heap[k]?=X.heap[k]?:=λk m qf=>(J.block k (by simp;omega) (λe=>qf (TE e))).trans (blk_alloc_lt _ _ _ m);have kg:=J.size;simp only [World.size_alloc] at kg;have k9:∀ k,k≠w2.heap.size->(U.setCell ⟨w2.heap.size,0,Z1⟩ (Z6 (Z0 ⟨w.heap.size+1,0,Z1⟩) (pl+1) count)).heap[k]?=U.heap[k]?:=λk m=>blk_setCell_other _ _ _ _ m;have h4:(pre++[x]).length=pl+1:=(by rw [TD,H];rfl);have ka:zj (pre++[x])=zj pre++[Z8 Z9 (x:Nat)]:=(by unfold zj;rw [List.map_append];rfl);refine ⟨⟨by simp [World.setCell];omega,λk o m ho _=>?_⟩,⟨by simp [World.setCell];omega,λk o m ho _=>?_⟩,?_,?_,?_,?_,?_,?_⟩
    . exact ((k9 k (by omega)).trans (hv k (Tn.1 ho).1 (by omega))).trans ho
    . exact ((k9 k (by omega)).trans (hv k (Tn.1 ho).1 (by omega))).trans ho
    . exact ((k9 _ (by omega)).trans (hv _ (by omega) (by omega))).trans a.cnt
    . rw [h4];exact hz.set _
    . rw [h4,ka];exact hp.kept (sg U w2.heap.size 0 _) (.inr λe=>by have q:w.heap.size+1=w2.heap.size:=TE e;omega)
    . refine Below.setCell (p:=⟨w2.heap.size,0,Z1⟩) ?_ (by show w.heap.size<=w2.heap.size;omega) _;exact ⟨J.os.trans a.below.os,J.tape.trans a.below.tape,J.output.trans a.below.output,by have:=a.below.size;omega,λk m=>(hv k (by have:=a.below.size;omega) (by omega)).trans (a.below.block k m)⟩
    . have:=a.size;simp [World.setCell];omega
    . rw [h4];omega
 case done=>
  rintro O xs X qb q5 a hK;have ki:xs=fr:=q5;subst ki;have c1:=a.cnt.cell;have I:=a.box.cell;have kb:=a.le;have B:=hide2 a hK;clear a hK q5;obtain ⟨xl,N⟩:=nM (xs.length);rw [N] at I kb;have HL:=hide N;clear N;gi_wp2;gi_region
  gi_wp2;obtain ⟨a,hK⟩:=B.out;have N:=HL.out;have E:X.drew.heap[O]?=Z0 (.deferred (Z0 [])):=hK;have kh:xs.take count=xs:=TJ (by omega);have qc:decide (count<=xs.length)=(((xl:Nat):Int)==((count:Nat):Int)):=by
   by_cases e:xl=count
   . rw [decide_eq_true (by omega)];subst e;simp
   . rw [decide_eq_false (by omega)];have:¬ ((xl:Nat):Int)=((count:Nat):Int):=by omega
     simp [this]
  rw [kk.out,kh,qc];refine sP (t:=4) (u:=5) (x:=Z6 (Z0 ⟨w.heap.size+1,0,Z1⟩) xl count) (y:=Z3 (((xl:Nat):Int)==((count:Nat):Int))) Tryz.results82 rfl rfl rfl E ⟨_,rfl,?_,?_⟩
  . have ho:=a.own;rw [N] at ho;have kc:X.drew.ownsRow (w.heap.size+1) 3 1 (Z6 (Z0 ⟨w.heap.size+1,0,Z1⟩) xl count) xl (zj xs):=aA ho ((Below.refl _ X).drew);rw [N];exact cT (lz kc (grownBy_putObj' X.drew O (.deferred Z1)) λr e=>by cases e;exact ⟨_,E,rfl⟩) (by omega)
  . exact Below.putObj' a.below.drew (by omega) (Tn.1 E).1 _
 case stop=>
  rintro O cc pre X qb ke ⟨rfl,s,x,rfl,k6,a⟩ hK;have c1:=a.cnt.cell;have I:=a.box.cell;have B:=hide2 a hK;rw [k6] at I;clear a hK;gi_wp2;gi_region
  gi_wp2;obtain ⟨a,hK⟩:=B.out;have E:X.drew.heap[O]?=Z0 (.deferred (Z0 [])):=hK;obtain ⟨rr,kz⟩:=ke;have kh:fr.take count=s:=by rw [<- kz,List.append_assoc,List.take_append_of_le_length (by omega),TJ (by omega)]
  have qd:count<=fr.length:=by rw [<- kz];simp;omega
  rw [kk.out,kh,decide_eq_true qd];refine sP (t:=4) (u:=5) (x:=Z6 (Z0 ⟨w.heap.size+1,0,Z1⟩) count count) (y:=Z3 true) Tryz.results82 rfl rfl rfl E ⟨_,rfl,?_,?_⟩
  . have ho:=a.own;rw [k6] at ho;have kc:X.drew.ownsRow (w.heap.size+1) 3 1 (Z6 (Z0 ⟨w.heap.size+1,0,Z1⟩) count count) count (zj s):=aA ho ((Below.refl _ X).drew);rw [k6];exact cT (lz kc (grownBy_putObj' X.drew O (.deferred Z1)) λr e=>by cases e;exact ⟨_,E,rfl⟩) (by omega)
  . exact Below.putObj' a.below.drew (by omega) (Tn.1 E).1 _
end
section
open Gf
theorem fh {v:ZX} (h:w.ownsRow base e size v n xs):∃ d f,v=.slice d n f:=by
 rcases h.2 with ⟨b,c⟩|⟨g,cap,cur,a,_⟩
 . exact ⟨Z1,0,by rw [b,c]⟩
 . exact ⟨_,_,a⟩
theorem lJ {v:ZX} (h:w.ownsRow base e size v n xs) {k:Nat} (a:v.ownBlock=Z0 k):∃ cur,w.heap[k]?=Z0 (Z5 cur e (0,0)):=by
 rcases h.2 with ⟨d,_⟩|⟨g,cap,cur,b,_,c,_⟩
 . rw [d] at a;simp [Value.ownBlock] at a
 . rw [b] at a;simp [Value.ownBlock] at a;subst a;exact ⟨cur,c⟩
theorem cP {t:TypeId} {v:ZX} (h:w.ownsRow base e size v n xs) {k:Nat} {cs:Array ZX} (c:w.heap[k]?=Z0 (Z5 cs t (0,0))) (b:e≠t):v.ownBlock≠Z0 k:=by
 intro q;obtain ⟨cur,a⟩:=lJ h q;rw [c] at a;injection a with a;injection a with h1 h2;exact b h2.symm
theorem fj {v:ZX} {S:Nat->Prop} (h:w.ownsRow base e size v n xs) (f:aa S w w') (i:∀ k,v.ownBlock=Z0 k->¬ S k):w'.ownsRow base e size v n xs:=by
 refine ⟨h.1,?_⟩;rcases h.2 with d|⟨g,cap,cur,a,c,b,r⟩
 . exact .inl d
 . exact .inr ⟨g,cap,cur,a,c,(f.block g (Tn.1 b).1 (i g (by rw [a];rfl))).trans b,r⟩
theorem Gd {v:ZX} (h:w.ownsRow base e size v n xs) (f:∀ k,v.ownBlock=Z0 k->w'.heap[k]?=w.heap[k]?):w'.ownsRow base e size v n xs:=by
 refine ⟨h.1,?_⟩;rcases h.2 with d|⟨g,cap,cur,a,b,c,r⟩
 . exact .inl d
 . exact .inr ⟨g,cap,cur,a,b,(f g (by rw [a];rfl)).trans c,r⟩
theorem Of {v:ZX} (h:w.ownsRow base e size v n xs) {k:Nat} (b:v.ownBlock=Z0 k):k<w.heap.size:=by
 obtain ⟨cur,a⟩:=lJ h b;exact (Tn.1 a).1
end
section
open Go.Shelf Gf
attribute [local go_sem] Oper.semAt_some
theorem pK (K:Nat->Prop) (n b1:Nat) (v:ZX) (os:List Ob) (w:ZY) (i:b1<w.heap.size) (b:w.cell? ⟨b1,0,Z1⟩=Z0 v) (j:gz K w v os) :
 SeqStopsK Fence.wide n ZT 150 #[Z7 (Z0 ⟨b1,0,Z1⟩)] px (eM K) (λu=>u=ai os) (λpre=>pre<+:ai os) (ai os).length w:=λl J d W c m _ o f=>by
 refine (sK K n l b1 v os J d (λpre A B h a=>m pre A B Z1 h ⟨a.os,a.tape,a.output,a.size,λk q _=>a.block k q⟩ (λr e=>by cases e)) (ai os).length o [] (by simp) W ((c.cell (p:=⟨b1,0,Z1⟩) i).trans b) (j.keep (eM.of_below c)) f).mono ?_;rintro e x ⟨b,g⟩;refine ⟨b,?_⟩;rcases g with h|⟨pre,s,t⟩
 . exact .inl ⟨_,rfl,by simpa using h⟩
 . exact .inr ⟨pre,s,by simpa using t⟩
structure PS (w:ZY) (B:Nat) (pre:List Nat) (X:ZY):Prop where
 box:ZU X w.heap.size 3 (Z8 Z9 (pre.length:Nat))
 below:ZW w.heap.size w X
 size:B<=X.heap.size
theorem PS.own' (h:w.heap.size<B):OwnFrom B (PS w B):=by
 rintro pre X Y row ⟨f,b,g⟩ a d;have c:∀ k,k<B->Y.heap[k]?=X.heap[k]?:=λk c=>a.block k (by omega) (λe=>by have:=(d k e.symm).1;omega);exact ⟨(c _ (by omega)).trans f,b.grown a b.size (λk e=>by have:=(d k e).1;omega),Tz g a.size⟩
theorem qG (j:bJ w ar v D' L' G' t f nn pg ob off) (m:bq w v p D L G ps ho) (h:aq w p A F) (hf:A.fit) (hn:0<A.n) (os:List Ob) (u:gz (λk=>k<w.heap.size) w ob os) (hy:(ai os).length<=1000000) (count pages:Nat) (he:count<=1000000) (hh:pages<=1000000) :
 ZV ZT 102 #[Z7 (Z0 ⟨ar,0,Z1⟩),Z8 Z9 (count:Nat),Z8 Z9 (pages:Nat)] w λe w'=>e=Z4 (Z3 (decide ((ai os).length+count+2*pages+2<=A.nb)))/\ZW w.heap.size w w':=by
 obtain ⟨n,HN⟩:∃ n:Nat,Hid (9<=n):=⟨9,Tm _⟩;obtain ⟨Q,_,_,_,R⟩:=j.cells;obtain ⟨d,c,rfl,hol,_⟩:=id u;have H:=hide4 j m h u;clear j m h u;refine (callsIn_wide (n:=n)).1 ?_;refine callsIn_of_wp_marks Tryz.func102 rfl trivial ?_ rfl;simp only [Tryz.ntmps102,To,Tp,Tq,Tr,Ts,Tt,Tu,Tv,Tw,Tx,Ty];have g:ZW w.heap.size w (w.alloc (Z5 #[Z8 Z9 0] 3)):=bA w _;have S:=(g.cell (p:=⟨ar,8,Z1⟩) H.out.1.lt).trans R;have r:ZU (w.alloc (Z5 #[Z8 Z9 0] 3)) w.heap.size 3 (Z8 Z9 0):=Boxed.new w _ _;have y:(w.alloc (Z5 #[Z8 Z9 0] 3)).heap.size=w.heap.size+1:=by simp
 have I:=hide3 g r y;clear g r y;gi_wp2;refine cV (lH d os.length c (w.alloc (Z5 #[Z8 Z9 0] 3))) ?_;rintro e w' ⟨rfl,rfl⟩;obtain ⟨w1,hz⟩:=nM (w.alloc (Z5 #[Z8 Z9 0] 3));rw [hz] at I S ⊢;have C:ZW w1.heap.size w1 (w1.alloc (Z5 #[.slice d os.length c] 119)):=bA w1 _;have z:(w1.alloc (Z5 #[.slice d os.length c] 119)).cell? ⟨w1.heap.size,0,Z1⟩=Z0 (.slice d os.length c):=(Boxed.new w1 _ _).cell;have N:(w1.alloc (Z5 #[.slice d os.length c] 119)).heap.size=w1.heap.size+1:=by simp
 obtain ⟨w2,k0⟩:=nM (w1.alloc (Z5 #[.slice d os.length c] 119));rw [k0] at C z N ⊢;obtain ⟨g,r,y⟩:=I.out;have B:ZW w.heap.size w w2:=g.trans (C.mono g.size);have Z:PS w w2.heap.size [] w2:=⟨(C.block _ (by omega)).trans r,B,Tm _⟩;have hq:gz (λk=>k<w.heap.size) w2 (.slice d os.length c) os:=H.out.2.2.2.keep (eM.of_below B);have hv:=pK (λk=>k<w.heap.size) (n-1) w1.heap.size _ os w2 (by omega) z hq;have P:=hide3 Z hv B;have V:w1.heap.size=w.heap.size+1:=y;have Y:w2.heap.size=w.heap.size+2:=by omega
 have HZ:=hide2 V Y;clear Z hv B hq g r y C z N k0 hz S V Y I R;gi_wp2;obtain ⟨ke,N⟩:=HZ.out;refine wpIn_rangeFunc_ownG rfl (by have:=HN.out;omega) (gf:=150) (lb:=#[Z7 (Z0 ⟨w1.heap.size,0,Z1⟩)]) rfl trivial (enters_of Tryz.func150 (by kernel_rfl) rfl)
  P.out.2.1 (λh k=>h.trans k) (λW l o o' hl _ _ _=>⟨by simp [World.putObj],λk _ E=>World.putObj_heap_other (by omega)⟩) (Below.refl _ _) (λ_=>rfl)
  (PS w w2.heap.size) (λ_ _ _=>False) (PS.own' (by omega)) (λ_ _ _ _ _ h _ _=>h.elim) P.out.1
  (λx=>{ tmps:=#[Z7 (Z0 ⟨ar,0,Z1⟩),Z8 Z9 (count:Nat),Z8 Z9 (pages:Nat),Z2,Z2,Z2,Z3 ZZ,Z7 (Z0 ⟨w.heap.size,0,Z1⟩),Z7 (Z0 ⟨ar,0,Z1⟩),Z7 (Z0 ⟨ar,0,Z1⟩),Z7 (Z0 ⟨ar,8,Z1⟩),.slice d os.length c,.func (.func 150) #[] #[Z7 (Z0 ⟨w1.heap.size,0,Z1⟩)],Z8 Z9 (x:Nat),Z2,Z2,Z2,Z2,Z2,Z2,Z2,Z2,Z2,Z2,Z2,Z2,Z2,Z2,Z2],defers:=[] }) ?assign ?body ?done ?stop
 case assign=>
  intro l2 x X Kk hK;unfold px;gi_wp2;simpa using hK
 case body=>
  rintro l2 pre x X b U;have c1:=b.box.cell;have f1:=b.box.frozen;obtain ⟨pl,s⟩:=nM (pre.length);rw [s] at c1 U;have ka:pl<=1000000:=by omega
  have i:=hide2 b s;clear b s U hy hol;gi_wp2;obtain ⟨b,s⟩:=i.out;have h6:((pre++[x]).length:Nat)=pl+1:=by rw [TD,s];rfl
  have hs:∀ k,k≠w.heap.size->(X.setCell ⟨w.heap.size,0,Z1⟩ (Z8 Z9 ((pl:Int)+1))).heap[k]?=X.heap[k]?:=λk E=>blk_setCell_other _ _ _ _ E;refine ⟨⟨by simp [World.setCell],λk o E ho _=>?_⟩,⟨by simp [World.setCell],λk E hK=>?_⟩,?_,?_,?_⟩
  . exact (hs k (by omega)).trans ho
  . exact hs k (by omega)
  . rw [h6];exact b.box.set _
  . exact Below.setCell (p:=⟨w.heap.size,0,Z1⟩) b.below lR _
  . have:=b.size;simp [World.setCell];omega
 case done=>
  rintro O xs X k7 k5 b hK;have hm:xs=ai os:=k5;subst hm;have c1:=b.box.cell;obtain ⟨xl,M⟩:=nM ((ai os).length);rw [M] at c1 hy;have HL:=hide M;clear M;have q:=b.below;obtain ⟨j,m,h,u⟩:=H.out;have cX:=(q.cell (p:=⟨ar,0,Z1⟩) j.lt).trans Q;have T:∀ W,ZW w.heap.size w W->ZV ZT 139 #[Z7 (Z0 ⟨v,0,Z1⟩)] W λe w'=>e=Z4 (Z8 Z9 A.nb)/\w'=W:=λW hb=>mM (m.keep (hb.block _ m.lt)) (h.below hb lR) hf hn;have i:=hide4 b hK T q;obtain ⟨nb,J⟩:=nM (A.nb);have k9:=hf.nb;rw [J] at i k9;have k6:=hide J;clear J;clear b hK k5 T q j m h u Q;gi_wp2;have k1:IntKind.i64.wrap ((xl:Int)+(count:Int))=(xl:Int)+(count:Int):=by rw [IntKind.wrap_i64];omega
  have k2:IntKind.i64.wrap (2*(pages:Int))=2*(pages:Int):=by rw [IntKind.wrap_i64];omega
  have k3:IntKind.i64.wrap ((xl:Int)+(count:Int)+2*(pages:Int))=(xl:Int)+(count:Int)+2*(pages:Int):=by rw [IntKind.wrap_i64];omega
  have k4:IntKind.i64.wrap ((nb:Int)-2)=(nb:Int)-2:=by rw [IntKind.wrap_i64];omega
  refine wpIn_region_quiet_lit rfl (by kernel_rfl) (by kernel_rfl) ?_;repeat (quiet_step_in (fail))
  refine wpQuietIn_step (by go_simp;intros;trivial) (λK hK=>?_);go_simp;refine ⟨Z8 Z9 (nb:Nat),λa=>⟨λh=>(by cases h),CallsIn.quiet_of_same (callsIn_wide.2 (i.out.2.2.1 _ (i.out.2.2.2.trans ⟨rfl,rfl,rfl,Tm _,λ_ _=>rfl⟩)))⟩,hK _ ?_⟩;clear hK K;repeat (quiet_step_in (fail))
  refine wpQuietIn_nil ?_;intro _ kc;obtain ⟨nq,rfl⟩:=kc;gi_wp2;obtain ⟨b,hK,_,q⟩:=i.out;have hr:(X.drewN nq).heap[O]?=Z0 (.deferred (Z0 [])):=hK;have k8:ZW w.heap.size w (X.drewN nq):=q.trans ⟨rfl,rfl,rfl,Tm _,λ_ _=>rfl⟩;refine Ei (t:=6) (x:=Z3 (decide ((xl:Int)+(count:Int)+2*(pages:Int)<=(nb:Int)-2))) Tryz.results102 rfl rfl hr ⟨?_,?_⟩
  . rw [HL.out,k6.out];congr 2;exact decide_eq_decide.2 ⟨λh=>by omega,λh=>by omega⟩
  . exact Below.putObj' k8 (by omega) (Tn.1 hr).1 _
 case stop=>
  rintro O z pre X k7 kb hx hK;exact hx.elim
end
end Go.Proofs.YtfbmmcnpjhmjaaaGreatDoor
