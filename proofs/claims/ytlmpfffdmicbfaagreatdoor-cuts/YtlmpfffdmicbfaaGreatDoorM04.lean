import Derived.Test.YtlmpfffdmicbfaaGreatDoorM03
import Derived.Deep.RegionHeld
import Derived.Sort.QuietIn
import Derived.Sort.QuietTacIn
import Derived.Laws.EntriesVeiled
set_option maxRecDepth 100000
set_option linter.all false
set_option maxHeartbeats 8000000
open Go.IntKind renaming i64 -> O, u64 -> Z8
open Go.Value renaming int -> I, pointer -> Z6, slice -> Z5, bool -> Z1, tuple -> ZZ
open Go.Obj renaming cells -> Z4
open Go.Ending renaming returned -> Z3
open Go.Operand renaming tmp -> Z0
open Go renaming undef -> ZY, World -> ZT, Value -> ZS, Calls -> ZQ, Oper -> ZP, TypeId -> ZO, Boxed -> ZN, Operand -> ZM
open Option renaming none -> U, some -> J
open Bool renaming true -> ZV, false -> ZU
open Go.RowKit renaming Below -> ZR
open List renaming range -> YE, replicate -> YH, length -> YJ, prefix_refl -> YK, mem_flatten -> YL, take_prefix -> YM
open Nat renaming reduceAdd -> YF, reduceSub -> YG, le_succ_of_le -> YO
open Array renaming replicate -> YI
open Exists renaming intro -> YN
open Go.Proofs.Tryz renaming prog -> ZL
open Go.Proofs.Tryz
namespace Go.Proofs.YtlmpfffdmicbfaaGreatDoor
def WO:=@Go.callsIn_of_wp_marks
def WQ:=@Go.wpIn_rangeFunc_ownG
def adr:=@Go.KeepsOthers.of_grownBy
def Yf:=@List.length_eq_zero_iff
def Yg:=@Go.wpListIn_plain
def ads:=@Go.Proofs.Tryz.underlying111
def Yh:=@Go.Proofs.Tryz.underlying45
def Yi:=@Go.KeepsFrom.refl
def Wp:=@Go.Proofs.Tryz.underlying3
def Vm:=@Go.Src.ofSlice
def adt:=@List.flatten_append
def acV:=@Go.heap_setCell_same
def XL:=@Go.Proofs.Tryz.underlying335
def XM:=@Nat.le_succ
def acW:=@Array.size_modify
def UT:=@Go.Obj.cells.injEq
def adu:=@Array.getElem_modify_self
def W4:=@Nat.succ_mul
def Wq:=@List.map_congr_left
def W5:=@of_decide_eq_true
def adv:=@Nat.pos_of_ne_zero
def VK:=@List.getElem?_take_of_lt
def adw:=@Array.getElem?_toList
def acX:=@Int.tmod_eq_emod_of_nonneg
def W9:=@Bool.eq_false_iff
end Go.Proofs.YtlmpfffdmicbfaaGreatDoor
namespace Go.Proofs.YtlmpfffdmicbfaaGreatDoor
open Go.RowKit Go.Shelf Go.Deep Gf
variable {a:Act}{ops:Array ZP}{cs:Array ZS}{C C':Ck}{rec:Ck->Nat->Nat->cW->cW}{R:Ending->ZT->Prop}{Q:Exit->Act->ZT->Prop}{F:Fence}{fn:Func}{regs:Int}{T:List (Nat×Nat×a7)}{M:List (Nat×Nat)}{l K dl:a7}{rest:List ZP}{pre:List Sh}{m n ar D L G t f nn N p ps ho D' L' G' base g B i nb b0 b c q count k r lost gone sp h of Bl d n0 kept Bg:Nat}{o:ZP}{P:Program}{s sx:cW}{J':cW->ZT->Prop}{e:ZO}{v pg ob x y:ZS}{w W w' Z W' X Y wr:ZT}
section
attribute [local go_sem] Oper.semAt_some
def zJ{m':Nat}{l:Nat}{args:Array ZS}(h:YieldAt Fence.wide m P l args w R):YieldAt Fence.wide m' P l args w R:=by obtain⟨fn,tmps,assign,body,a,b⟩:=h;exact⟨fn,tmps,assign,body,a,qT b⟩
theorem mF(ao:Option Addr)(m c:Nat)(w:ZT):ZQ ZL 118 #[.slice ao m c] w λe w'=>e=Z3 (.func (.func 151) #[] #[Z6 (J ⟨w.heap.size,0,U⟩)])/\w'=w.alloc (Z4 #[.slice ao m c] 134):=by go_enter func118,ntmps118;go_wp2;go_ret;exact⟨rfl,rfl⟩
theorem mG(ar:Nat)(w:ZT):ZQ ZL 83 #[Z6 (J ⟨ar,0,U⟩)] w λe w'=>e=Z3 (.func (.func 117) #[] #[Z6 (J ⟨w.heap.size,0,U⟩)])/\w'=w.alloc (Z4 #[Z6 (J ⟨ar,0,U⟩)] 102):=by go_enter func83,ntmps83;go_wp2;go_ret;exact⟨rfl,rfl⟩
theorem mH(K:Nat->Prop)(n l b1 ar:Nat)(v D L G t f nn:Nat)(pg ob:ZS)(off:Bool)(P:a7)(os:List Ob)(hv:K b1)(hs:K ar)(J' C:a7->ZT->Prop)(z:List PanicEntry->ZT->Prop)(Z:∀pre A B,J' pre A->bW A B->J' pre B)(V':∀pre x W,J' pre W->pre++[x]<+:P++ah os->YieldAt Fence.wide (n-1) ZL l (oA x) W λe W'=>(e=Z3 (Z1 ZV)/\J' (pre++[x]) W'/\eW K W W')\/(e=Z3 (Z1 ZU)/\C (pre++[x]) W')\/∃a,e=.panicked a/\z a W')(W:ZT)(d:ZN W b1 102 (Z6 (J ⟨ar,0,U⟩)))(r:bh W ar v D L G t f nn pg ob off)(H:bt K W pg P)(F:fA K W ob os)(R:J' [] W):CallsIn Fence.wide n ZL 117 #[.func (.yield l) #[] #[],Z6 (J ⟨b1,0,U⟩)] W λe W'=>((∃v,e=Z3 v)/\((∃ys,ys=P++ah os/\J' ys W')\/(∃pre,pre<+:P++ah os/\C pre W')))\/∃a,e=.panicked a/\z a W':=by
 obtain⟨ao,c,rfl,k5,T⟩:=id H;obtain⟨c0,_,_,c7,c8⟩:=r.cells;have cb:=d.cell;refine Xl func117 rfl trivial ?_ rfl;simp only[ntmps117,UK,UC,U0,YF,YG,Vf,Vg,Vh,Vi,Ut,U1];have u:=a5 d r H F R;gi_wp2;gi_loopw[10](λp wr=>∃k:Nat,p=I O (k:Nat)/\k<=P.length/\J' (P.take k) wr/\eW K W wr)(λp _=>P.length-(intOf p).toNat);case atStart=>exact⟨0,rfl,T8 _,u.o.2.2.2.2,eW.refl _ _⟩
 case round=>
  obtain⟨k,rfl,hk,s,i⟩:=hrel;by_cases q:k<P.length
  . obtain⟨hb,c',Q,_,T⟩:=u.o.2.2.1.keep i;obtain⟨b,bo,e2,hx,k7,hz⟩:=T (λe=>by rw[e]at q;simp at q);simp only[Vy]at Q;obtain⟨rfl,_,rfl⟩:=Q;subst e2;have g1:=hz k q;obtain⟨y,M⟩:=nM (P[k]);rw[M]at g1;obtain⟨fn,tmps,assign,body,k6,hR⟩:=V' _ y _ s (by have d:=(YM (k+1) P).trans (XT P (ah os));rwa[Vl,Ud q,M]at d);unfold oA at k6;have w:=aE s i hR M;gi_wp2;refine⟨λh=>Bf,w.o.2.2.1.mono ?_⟩;have U':P.take k++[y]=P.take (k+1):=(by rw[Vl,Ud q,w.o.2.2.2];rfl);rintro e W3(⟨rfl,Y,hr⟩|⟨rfl,S⟩|⟨a,rfl,I'⟩)
    . rw[U']at Y;have g:=al Y (w.o.2.1.trans hr);gi_wp2;go_roundw;case rel=>exact⟨k+1,eT,V,g.o.1,g.o.2⟩
      case measure=>simp only[intOf];omega
    .rw[U']at S;have g:=ak S;gi_wp2;refine Uv (XD rfl _ _ _) rfl ?_;exact .inl ⟨⟨_,rfl⟩,.inr ⟨_,(YM (k+1) P).trans (XT _ _),g.o⟩⟩
    .exact⟨rfl,.inr ⟨a,rfl,I'⟩⟩
  . have k0:k=P.length:=V;subst k0;rw[VE]at s;obtain⟨d,r,H,F,R⟩:=u.o;have hi:ZN wr b1 102 (Z6 (J ⟨ar,0,U⟩)):=(i.2 _ d.lt hv).trans d;have hm:=r.keep (i.2 _ r.lt hs);have X:=F.keep i;obtain⟨_,_,_,_,c8⟩:=hm.cells;have cb:=hi.cell;obtain⟨m,j,rfl,hol,_⟩:=id X;have N:=au s i X;gi_wp2;refine cM (mF m os.length j wr) ?_;rintro e w2⟨rfl,rfl⟩;have E:bW wr (wr.alloc (Z4 #[.slice m os.length j] 134)):=bA wr _;have O':(wr.alloc (Z4 #[.slice m os.length j] 134)).cell? ⟨wr.heap.size,0,U⟩=J (.slice m os.length j):=(Us wr _ _).cell;obtain⟨w2,hh⟩:=nM (wr.alloc (Z4 #[.slice m os.length j] 134));rw[hh]at E O';have hq:=Z _ _ _ N.o.1 E;have hn:=N.o.2.2.keep (eW.RM E);have h5:=mw K (n-1) l wr.heap.size (.slice m os.length j) os J' C z Z (P++ah os) (λpre x W1 hj hp=>zJ (V' pre x W1 hj hp)) P (YK _) w2 O' hn hq;have H2:=ak h5;rw[hh];gi_wp2;refine⟨trivial,λh=>Bf,H2.o.mono ?_⟩;rintro e W3(⟨⟨x,rfl⟩,hc⟩|⟨a,rfl,I'⟩);rotate_left;.exact⟨rfl,.inr ⟨a,rfl,I'⟩⟩
    have g:=ak hc;gi_wp2;go_end0;refine .inl ⟨⟨_,rfl⟩,?_⟩;rcases g.o with h|⟨pre,d,h2⟩;.exact .inl ⟨_,rfl,h⟩
    .exact .inr ⟨_,(ac9 _).2 d,h2⟩
def rA(K:Nat->Prop)(n b1 ar v D L G t f nn:Nat)(pg ob:ZS)(off:Bool)(P:a7)(os:List Ob)(m:K b1)(j:K ar)(w:ZT)(c:ZN w b1 102 (Z6 (J ⟨ar,0,U⟩)))(d:bh w ar v D L G t f nn pg ob off)(s:bt K w pg P)(o:fA K w ob os):SeqStopsK Fence.wide n ZL 117 #[Z6 (J ⟨b1,0,U⟩)] oA (eW K) (λC=>C=P++ah os) (λpre=>pre<+:P++ah os) (P++ah os).length w:=λl J' g W b p _ u i=>(mH K n l b1 ar v D L G t f nn pg ob off P os m j J' g (λ_ _=>False) (λpre A B h a=>p pre A B U h ⟨a.os,a.tape,a.output,a.size,λk y _=>a.block k y⟩ (λr e=>W8)) (λpre x W h z=>(u pre x W h (QZ z)).mono λe W' q=>q.imp_right .inl) W ((b.block _ c.lt).trans c) (d.keep (b.block _ d.lt)) (s.keep (eW.RM b)) (o.keep (eW.RM b)) i).mono λe W' q=>q.elim id λq=>q.elim λ_ q=>q.2.elim
def Sn(l:a7):Type:={x:Nat//x∈l}
def MA{l:a7}(x:Sn l):Array ZS:=oA x.1
def ts{K:Nat->Prop}{l b1 v:Nat}{off:Bool}{P:a7}{os:List Ob}{J':List (Sn (P++ah os))->ZT->Prop}{Jp:List PanicEntry->ZT->Prop}(s:K b1)(r:K ar)(b:ZN w b1 102 (Z6 (J ⟨ar,0,U⟩)))(C:bh w ar v D L G t f nn pg ob off)(F:bt K w pg P)(E:fA K w ob os)(u:w.heap.size<=W.heap.size)(o:∀pre X,J' pre X->∀k,K k->X.heap[k]?=w.heap[k]?)(M:∀pre A B,J' pre A->bW A B->J' pre B)(H:∀pre x i,J' pre i->True->YieldAt Fence.wide m ZL l (MA x) i λe W'=>(e=Z3 (Z1 ZV)/\J' (pre++[x]) W'/\CC N i W')\/∃c,e=.panicked c/\Jp c W')(p:J' [] W):CallsIn Fence.wide n ZL 117 #[.func (.yield l) #[] #[],Z6 (J ⟨b1,0,U⟩)] W λe W'=>((∃v,e=Z3 v)/\∃pre,pre.map (·.1)=P++ah os/\J' pre W')\/∃c,e=.panicked c/\Jp c W':=by
 have g:=o _ _ p;refine(mH K n l b1 ar v D L G t f nn pg ob off P os s r (λpre X=>∃a:List (Sn (P++ah os)),a.map (·.1)=pre/\J' a X) (λ_ _=>False) Jp (λpre A B⟨a,e,h⟩S=>⟨a,e,M a A B h S⟩) ?_ W ((g _ s).trans b) (C.keep (g _ r)) (F.keep ⟨u,λk _ q=>g k q⟩) (E.keep ⟨u,λk _ q=>g k q⟩) ⟨[],rfl,p⟩).mono ?_
 . rintro pre x X⟨a,rfl,y⟩O';have z:x∈P++ah os:=O'.subset ej;refine zJ ((H a ⟨x,z⟩ X y trivial).mono ?_);rintro e R(⟨b,d,j⟩|b);.exact .inl ⟨b,⟨a++[⟨x,z⟩],by rw[Uz];rfl,d⟩,j.1,λk _ q=>(o _ _ d k q).trans (o _ _ y k q).symm⟩
   .exact .inr (.inr b)
 . rintro e X(⟨b,⟨a,rfl,Q,d,j⟩|⟨_,_,q⟩⟩|q);.exact .inl ⟨b,Q,d,j⟩
   .exact q.elim
   .exact .inr q
end
section
variable {w:ZT}{p:Nat}{A:an}{F:aC}
theorem FX(h:ay w p A F):ZQ ZL 77 #[Z6 (J ⟨p,0,U⟩)] w λe w'=>e=Z3 (I O A.n)/\w'=w:=by obtain⟨R,a,b⟩:=h;obtain⟨c0,c1⟩:=a.RN;rw[b.n]at c0;go_enter func77,ntmps77;go_wp2;go_ret;exact⟨rfl,rfl⟩
theorem jg{R:eR}(h:aj w p R F)(a:0<R.n):ZQ ZL 52 #[Z6 (J ⟨p,0,U⟩)] w λe w'=>e=Z3 (I O R.nb)/\w'=w:=by obtain⟨c0,c1⟩:=h.RN;obtain⟨b,d1,c,d⟩:=h.R4 0 a;rw[acK,Uj]at d1;go_enter func52,ntmps52;go_wp2;go_ret;exact⟨rfl,rfl⟩
def vh(h:ay w p A F)(c:0<A.n):ZQ ZL 52 #[Z6 (J ⟨p,0,U⟩)] w λe w'=>e=Z3 (I O A.nb)/\w'=w:=by obtain⟨R,b,a⟩:=h;rw[<-a.nb];exact jg b (by rw[a.n];exact c)
end
theorem vk(n m:Nat)(f:n<=5000000000)(c:1<=m/\m<=1000000)(w:ZT):ZQ ZL 137 #[I O n,I O m] w λe w'=>e=Z3 (I O (((n+m-1)/m:Nat):Int))/\w'=w:=by
 obtain⟨g,h⟩:=c;have a:(((n+m-1)/m:Nat):Int)=((n:Int)+m-1)/(m:Int):=by rw[X1,(V:((n+m-1:Nat):Int)=(n:Int)+m-1)]
 have d:Int.tdiv ((n:Int)+m-1) (m:Int)=((n:Int)+m-1)/(m:Int):=XK V;have b:wrap64 (((n:Int)+m-1)/(m:Int))=((n:Int)+m-1)/(m:Int):=by rw[<-a];exact ja (TU (VU _ _) V)
 rw[a];go_enter func137,ntmps137;go_wp2;go_ret;exact⟨Uy (λx=>Ending.returned (I O x)) b,rfl⟩
def pgs(D m:Nat):Nat:=max 1 ((m+(D*44-4)-1)/(D*44-4))
theorem jB{a v:Nat}{off:Bool}(s:bh w a v D' L' G' t f n pg ob off)(h:bz w v p D L G ps ho)(l:1<=D)(r:D<=1000)(m:Nat)(u:m<=5000000000):ZQ ZL 96 #[Z6 (J ⟨a,0,U⟩),I O m] w λe w'=>e=Z3 (I O (pgs D m:Nat))/\w'=w:=by
 have c:=vk m (D*44-4) u ⟨V,V⟩ w;obtain⟨q,d⟩:=nM ((m+(D*44-4)-1)/(D*44-4));rw[d]at c;have i:pgs D m=max 1 q:=by unfold pgs;rw[d]
 rw[i];have x:∀b k w,(Builtin.max_ b k #[I O 1,I O (q:Nat)]).run ZL w=.ok (I O ((max 1 q:Nat):Int)) w:=λb k w=>by
  rw[mx];by_cases g:(q:Int)>1;.rw[TT g,Nat.max_eq_right V]
  .rw[TS g,Nat.max_eq_left V];rfl
 have j:=lz s h l r;have H:=al c j;clear c j i d;go_enter func96,ntmps96;go_wp2_with fail;refine H.o.2.mono ?_;rintro e w'⟨rfl,rfl⟩;generalize((D*44-4:Nat):Int)=y at*;go_wp2_with fail;refine H.o.1.mono ?_;rintro e w'⟨rfl,rfl⟩;go_wp2;go_ret;exact⟨rfl,rfl⟩
theorem jU{v:Nat}{A:an}{F:aC}(d:bz w v p D L G ps ho)(h:ay w p A F)(c:0<A.n):ZQ ZL 141 #[Z6 (J ⟨v,0,U⟩)] w λe w'=>e=Z3 (I O A.nb)/\w'=w:=by obtain⟨c0,_⟩:=d.cells;have f:=h.Sy.2;have a:=vh h c;obtain⟨nb,b⟩:=nM (A.nb);rw[b]at a f⊢;clear h c b;go_enter func141,ntmps141;go_wp2_with fail;refine a.mono ?_;rintro e w'⟨rfl,rfl⟩;go_wp2;go_ret;exact⟨rfl,rfl⟩
section
attribute [local go_sem] Oper.semAt_some
abbrev Ch(D:Nat):={i:Nat//i<D}
def E4(g i:Nat):ZS:=Z5 (J ⟨g,i*44,U⟩) 44 44
def Ic(g:Nat){D:Nat}(x:Ch D):Array ZS:=#[E4 g x.1]
def Kp2(b1 b2:Nat)(W W':ZT):Prop:=W'.heap[b1]?=W.heap[b1]?/\W'.heap[b2]?=W.heap[b2]?
theorem FY(n l b1 b2 g D:Nat)(O':D<=1000)(J' q:List (Ch D)->ZT->Prop)(K:∀pre W,J' pre W->J' pre W.drew)(N:∀pre x W,J' pre W->pre.length<D->YieldAt Fence.wide (n-1) ZL l (Ic g x) W λe W'=>(e=Z3 (Z1 ZV)/\J' (pre++[x]) W'/\Kp2 b1 b2 W W')\/(e=Z3 (Z1 ZU)/\q (pre++[x]) W'))(W:ZT)(C:W.cell? ⟨b1,0,U⟩=J (Z5 (J ⟨g,0,U⟩) (D*44) (D*44)))(E:W.cell? ⟨b2,0,U⟩=J (I O 44))(B:J' [] W):CallsIn Fence.wide n ZL 210 #[.func (.yield l) #[] #[],Z6 (J ⟨b1,0,U⟩),Z6 (J ⟨b2,0,U⟩)] W λe W'=>(∃v,e=Z3 v)/\((∃w,w.map (·.1)=YE D/\J' w W')\/(∃pre,pre.map (·.1)<+:YE D/\q pre W')):=by
 refine Xl func210 rfl trivial ?_ rfl;simp only[ntmps210,UK,UC,U0,YF,YG,Vf,Vg,Vh,Vi,Ut,U1];gi_wp2;gi_loopw[4](λp wr=>∃(pre:List (Ch D))(k:Nat),p=I O (k*44:Nat)/\k<=D/\pre.map (·.1)=YE k/\J' pre wr/\wr.cell? ⟨b1,0,U⟩=J (Z5 (J ⟨g,0,U⟩) (D*44) (D*44))/\wr.cell? ⟨b2,0,U⟩=J (I O 44))(λp _=>D*44-(intOf p).toNat);case atStart=>exact⟨[],0,rfl,T8 _,rfl,B,C,E⟩
 case round=>
  obtain⟨pre,k,rfl,U',i,j,c1,y⟩:=hrel;have G:pre.length=k:=by have:=Uy YJ i;simpa using this
  by_cases m:k<D
  . have V':((k*44:Nat):Int)<((D*44:Nat):Int):=V;have b:wr.drew.cell? ⟨b1,0,U⟩=J (Z5 (J ⟨g,0,U⟩) (D*44) (D*44)):=c1;have c:wr.drew.cell? ⟨b2,0,U⟩=J (I O 44):=y;obtain⟨fn,tmps,assign,body,u,L⟩:=N pre ⟨k,m⟩ wr.drew (K _ _ j) V;unfold Ic E4 at u;simp only at u;have H:=aE L j i G;have P:k*44+44-k*44=44:=V;have Q:k*44+44<=D*44:=V;generalize t:k*44=d at*;generalize hh:D*44=a at*;generalize hi:d+44=A at*;have R:¬((a-d:Nat):Int)<44:=V;have S:¬a=d:=V;have T:¬((a:Nat):Int)<((d:Nat):Int):=V;gi_wp2;refine bM iD 99 [(0,ZV),(1,ZV),(2,ZV),(3,ZV),(4,ZV),(5,ZV),(6,ZV)] (λw'=>w'.cell? ⟨b1,0,U⟩=J (Z5 (J ⟨g,0,U⟩) a a)/\w'.cell? ⟨b2,0,U⟩=J (I O 44)) ee ee ⟨b,c⟩ ?_;iterate 7(refine cZ rfl rfl ?_;apply YN;refine⟨λw' M=>?_,?_⟩;(obtain⟨X,Y⟩:=M;first|(go_simp;done)|(go_simp;exact rfl)|(go_simp;omega));simp only[Act.put,TZ,T5,T6])
    refine bI ?_;rename_i hK;refine hK _ _ ?_;gi_wp2;refine⟨λh=>Bf,H.o.1.mono ?_⟩;rintro e r(⟨rfl,I',s⟩|⟨rfl,F⟩)
    . have d1:r.cell? ⟨b1,0,U⟩=J (Z5 (J ⟨g,0,U⟩) a a):=(Uk s.1).trans b;have z:r.cell? ⟨b2,0,U⟩=J (I O 44):=(Uk s.2).trans c;have f:=ak I';gi_wp2;go_roundw;case rel=>exact⟨pre++[⟨k,m⟩],k+1,by rw[(V:(k+1)*44=A)];congr 1;omega,V,by rw[Uz,H.o.2.2.1,Vs];rfl,f.o,d1,z⟩
      case measure=>simp only[intOf];omega
    . have f:=ak F;gi_wp2;refine Uv (XD rfl _ _ _) rfl ?_;refine⟨⟨_,rfl⟩,.inr ⟨pre++[⟨k,m⟩],?_,f.o⟩⟩;rw[Uz,H.o.2.2.1];refine⟨(YE D).drop (k+1),?_⟩;show YE k++[k]++_=_;rw[<-Vs];have:YE (k+1)=(YE D).take (k+1):=by rw[List.take_range,Wn V]
      rw[this,Wk]
  . have t:k=D:=V;subst t;gi_wp2;go_end0;exact⟨⟨_,rfl⟩,.inl ⟨pre,i,j⟩⟩
def A9(n b1 b2 g D:Nat)(k:D<=1000)(w:ZT)(i:b1<w.heap.size)(j:b2<w.heap.size)(d:w.cell? ⟨b1,0,U⟩=J (Z5 (J ⟨g,0,U⟩) (D*44) (D*44)))(f:w.cell? ⟨b2,0,U⟩=J (I O 44)):SeqStopsK Fence.wide n ZL 210 #[Z6 (J ⟨b1,0,U⟩),Z6 (J ⟨b2,0,U⟩)] (Ic g (D:=D)) (Kp2 b1 b2) (λq=>q.map (·.1)=YE D) (λpre=>pre.map (·.1)<+:YE D) D w:=λl J' b W a m _ o c=>FY n l b1 b2 g D k J' b (λpre X h=>m pre X X.drew U h ⟨rfl,rfl,rfl,TV _,λ_ _ _=>rfl⟩ (λr e=>W8)) o W ((a.cell (p:=⟨b1,0,U⟩) i).trans d) ((a.cell (p:=⟨b2,0,U⟩) j).trans f) c
theorem JJ(g D:Nat)(w:ZT):ZQ ZL 193 #[Z5 (J ⟨g,0,U⟩) (D*44) (D*44),I O 44] w λe w'=>e=Z3 (.func (.func 210) #[] #[Z6 (J ⟨w.heap.size,0,U⟩),Z6 (J ⟨w.heap.size+1,0,U⟩)])/\w'=(w.alloc (Z4 #[Z5 (J ⟨g,0,U⟩) (D*44) (D*44)] 36)).alloc (Z4 #[I O 44] 3):=by generalize D*44=a;go_enter func193,ntmps193;go_wp2;go_ret;exact⟨rfl,rfl⟩
end
section
attribute [local go_sem] Oper.semAt_some
def zK{size:Nat}{xs:List ZS}(h:w.ownsRow base e size v n xs){j:Nat}{o:Obj}(a:v.ownBlock=J j)(ho:w.heap[j]?=J o):o.isCells=ZV:=by
 rcases h.2 with⟨d,_⟩|⟨g,cap,cur,b,f,c,_⟩;.rw[d]at a;simp[Value.ownBlock]at a
 .rw[b]at a;simp[Value.ownBlock]at a;subst a;rw[c]at ho;cases ho;rfl
def mJ{size:Nat}{xs:List ZS}{row:Option Nat}(h:w.ownsRow base e size v n xs)(a:w.grownBy w' row)(c:∀r,row=J r->∃o:Obj,w.heap[r]?=J o/\o.isCells=ZU):w'.ownsRow base e size v n xs:=by cases row with
 |none=>cases hv:v.ownBlock with|none=>exact h.kept a (.inl hv)|some q=>exact h.kept a (.inr (by rw[hv];intro e;cases e))
 |some r=>obtain⟨o,ho,b⟩:=c r rfl;exact h.kept a (.inr λe=>by have:=zK h e ho;rw[b]at this;cases this)
def vl(w:ZT)(b i:Nat)(v:ZS):w.grownBy (w.setCell ⟨b,i,U⟩ v) (J b):=⟨rfl,rfl,rfl,oD,λk _ a=>Uc _ _ _ _ (λe=>a V2)⟩
def Ie(d:fn.results=#[.tmp t])(b:a.defers=[{target:=.collected D',args:=#[]}])(hx:a.tmps.getD t ZY=x)(hK:Z.heap[D']?=J (.deferred (J [])))(hR:R (Z3 x) (Z.putObj D' (.deferred U))):bodyPostM Fence.wide n ZL fn R .ret a Z:=by obtain⟨e,f⟩:=a;simp only at b hx;subst b;refine⟨ej,.inl ⟨_,_,rfl,Wo hK,?_⟩⟩;refine⟨x,?_,hR⟩;have c:e[t]?.getD ZY=x:=ua hx;simp[results,d,c]
def ApI(w:ZT)(g:Nat)(B D:Nat)(pre:List (Ch D))(X:ZT):Prop:=(∃v,ZN X w.heap.size 84 v/\X.ownsRow (w.heap.size+1) 36 1 v pre.length (pre.map λx=>E4 g x.1))/\bW w X/\B<=X.heap.size
def ApI.own(i:w.heap.size+1<=B):OwnFrom B (ApI w g B D):=by rintro pre X Y row⟨⟨v,c,f⟩,d,h⟩a b;exact⟨⟨v,(a.block _ c.lt (λe=>ia ((b _ e.symm).1))).trans c,mJ f a λr e=>(b r e).2⟩,d.grown a d.size (λk e=>ia ((b k e).1)),TU h a.size⟩
def Tryz.Sa:(ZL.info? 36).map (λi=>(i.zero,i.size,i.bytes))=J (J (Z5 U 0 0),1,24):=ee
def MC(t:o.guard=U)(x y:ZM)(ho:o.op=.call {callee:=.builtin .append,args:=#[x,y],argTypes:=#[84,84]})(n0 q:Nat)(k:Nat)(xs:List ZS)(u v:ZS)(hx:a.eval x=v)(hy:a.eval y=Z5 (J ⟨q,0,U⟩) 1 1)(h3:w.ownsRow n0 36 1 v k xs)(hc:w.cell? ⟨q,0,U⟩=J u)(hu:u.oneCell'=ZV)(h7:n0<=w.heap.size)(hk:k<=1000000)(hK:∀c b w2,n0<=c->w2.ownsRow n0 36 1 (Z5 (J ⟨c,0,U⟩) (k+1) b) (k+1) (xs++[u])->w.grownBy w2 v.ownBlock->wpListIn F n ZL ops Q rest (a.put o.dst (Z5 (J ⟨c,0,U⟩) (k+1) b)) w2):wpListIn F n ZL ops Q (o::rest) a w:=by
 obtain⟨A,l,m,p,r⟩:=Uw Tryz.Sa;refine wpListIn_append_own w t x y 84 ho n0 36 A (Z5 U 0 0) 1 24 VP l m p r rfl ec v k xs hx h3 ⟨q,0,U⟩ 1 1 [u] hy rfl (λj u' d=>?_) (λu' f=>by simp at f;subst f;exact hu) eD V h7 ?_;.cases j with|zero=>simp at d;subst d;exact hc|succ j=>simp at d
 . intro B w2 e h _;obtain⟨c,b,rfl,i⟩:∃c b,B=Z5 (J ⟨c,0,U⟩) (k+1) b/\n0<=c:=by
    rcases e.2 with⟨_,C⟩|⟨g,cap,cur,z,s,_⟩;.omega
    .exact⟨g,cap,z,s⟩
   exact hK c b w2 i e h
theorem rB(g D b1 b2:Nat)(Q:D<=1000)(w:ZT)(G:b1<w.heap.size)(I':b2<w.heap.size)(O':w.cell? ⟨b1,0,U⟩=J (Z5 (J ⟨g,0,U⟩) (D*44) (D*44)))(P:w.cell? ⟨b2,0,U⟩=J (I O 44)):ZQ ZL 209 #[Z5 U 0 0,.func (.func 210) #[] #[Z6 (J ⟨b1,0,U⟩),Z6 (J ⟨b2,0,U⟩)]] w λe w'=>∃v,e=Z3 v/\w'.ownsRow w.heap.size 36 1 v D ((YE D).map (E4 g))/\bW w w':=by
 obtain⟨n,M⟩:∃n:Nat,cL (9<=n):=⟨9,TV _⟩;refine(Vo (n:=n)).1 ?_;refine WO func209 rfl trivial ?_ rfl;simp only[ntmps209,UK,UC,U0,YF,YG,Vf,Vg,Vh,Vi,Ut,U1];gi_wp2;obtain⟨w1,u⟩:=nM (w.alloc (Z4 #[Z5 U 0 0] 84));have N:ZN w1 w.heap.size 84 (Z5 U 0 0):=by rw[<-u];exact Us w _ _
 have k7:w1.heap.size=w.heap.size+1:=by rw[<-u];simp
 have B:bW w w1:=by rw[<-u];exact bA w _
 rw[u];have U':ApI w g w1.heap.size D [] w1:=⟨⟨_,N,UQ _ _ _ _⟩,B,TV _⟩;refine WQ rfl (ia M.o) (gf:=210) (lb:=#[Z6 (J ⟨b1,0,U⟩),Z6 (J ⟨b2,0,U⟩)]) rfl trivial (U9 func210 ee rfl) (A9 (n-1) b1 b2 g D Q w1 V V ((B.cell (p:=⟨b1,0,U⟩) G).trans O') ((B.cell (p:=⟨b2,0,U⟩) I').trans P)) (λh k=>⟨k.1.trans h.1,k.2.trans h.2⟩) (λW l o o' hl _ _ _=>⟨UI V,UI V⟩) (TW _ _) (λ_=>rfl) (ApI w g w1.heap.size D) (λ_ _ _=>False) (ApI.own V) (λ_ _ _ _ _ h _ _=>h.elim) U' (λx=>{tmps:=#[Z5 U 0 0,.func (.func 210) #[] #[Z6 (J ⟨b1,0,U⟩),Z6 (J ⟨b2,0,U⟩)],Z6 (J ⟨w.heap.size,0,U⟩),ZY,Z5 U 0 0,E4 g x.1,.func (.func 210) #[] #[Z6 (J ⟨b1,0,U⟩),Z6 (J ⟨b2,0,U⟩)],E4 g x.1,ZY,ZY,ZY,ZY,ZY],defers:=[]}) ?assign ?body ?done ?stop;case assign=>intro l2 x X Kk hK;unfold Ic;gi_wp2;exact hK
 case body=>
  rintro l2 pre x X⟨⟨v,m,d⟩,a,z⟩hq;have c0:=m.cell;have k6:pre.length<=1000:=V;obtain⟨b,Y⟩:=nM (x.1*44);have s:E4 g x.1=Z5 (J ⟨g,b,U⟩) 44 44:=by rw[<-Y];rfl
  have R:(Value.slice (J ⟨g,b,U⟩) 44 44).oneCell'=ZV:=rfl;have T:(X.alloc (Z4 #[Z5 (J ⟨g,b,U⟩) 44 44] 36)).cell? ⟨X.heap.size,0,U⟩=J (Z5 (J ⟨g,b,U⟩) 44 44):=(Us X 36 (Z5 (J ⟨g,b,U⟩) 44 44)).cell;have H:=a5 m d a z s;rw[s];have C:cL ((X.alloc (Z4 #[Z5 (J ⟨g,b,U⟩) 44 44] 36)).ownsRow (w.heap.size+1) 36 1 v pre.length (pre.map λx=>E4 g x.1)):=ak (az H.o.2.1 (bA X _));have L:cL (w.heap.size+1<=(X.alloc (Z4 #[Z5 (J ⟨g,b,U⟩) 44 44] 36)).heap.size):=ak ek;gi_wp2_with(gi_at_builtin;refine MC rfl (Z0 8) (Z0 10) rfl (w.heap.size+1) X.heap.size pre.length (pre.map λx=>E4 g x.1) (Z5 (J ⟨g,b,U⟩) 44 44) v um um (by exact C.o) (by exact T) R L.o V ?_;intro E c w2 k5 F f;have A:ZN w2 w.heap.size 84 v:=(f.block w.heap.size ek (λe=>ia ((H.o.2.1.lt _ e.symm).1))).trans (H.o.1.alloc _);have d0:=A.cell;have f0:=A.frozen);obtain⟨m,d,a,z,s⟩:=H.o;have Z:∀q,v.ownBlock=J q->w.heap.size+1<=q:=λq e=>(d.lt q e).1;have hy:=f.size;simp only[Um]at hy;have V':KeepsOthers X w2:=(KeepsOthers.alloc X (Z4 #[Z5 (J ⟨g,b,U⟩) 44 44] 36)).trans (adr f λj o e ho=>zK C.o e ho);have y:∀k,k<w.heap.size->w2.heap[k]?=X.heap[k]?:=λk i=>(f.block k ek (λe=>ia (Z k e.symm))).trans (UE _ _ _ V);have J':∀k,k≠w.heap.size->(w2.setCell ⟨w.heap.size,0,U⟩ (Z5 (J ⟨E,0,U⟩) (pre.length+1) c)).heap[k]?=w2.heap[k]?:=λk i=>Uc _ _ _ _ i;refine⟨(V'.trans (V6 _ _ _)).from _,⟨(J' _ V).trans (y _ G),(J' _ V).trans (y _ I')⟩,⟨_,A.set _,?_⟩,?_,Zk⟩;.have q:=F.kept (vl w2 w.heap.size 0 (Z5 (J ⟨E,0,U⟩) (pre.length+1) c)) (.inr λe=>ia ((F.lt _ e).1));have e:(pre++[x]).map (λx=>E4 g x.1)=pre.map (λx=>E4 g x.1)++[Z5 (J ⟨g,b,U⟩) 44 44]:=(by rw[Uz,<-s];rfl);rw[e,Ua];exact q
  .refine(Xr (p:=⟨w.heap.size,0,U⟩) ?_ lR _);exact⟨f.os.trans a.os,f.tape.trans a.tape,f.output.trans a.output,ia a.size,λk i=>(y k i).trans (a.block k i)⟩
 case done=>
  rintro D' xs X S K⟨⟨v,m,d⟩,a,z⟩hK;have c0:=m.cell;have H:=au d a hK;gi_wp2;obtain⟨d,a,hK⟩:=H.o;have hz:xs.length=D:=by have:=Uy YJ K;simpa using this
  have k0:xs.map (λx=>E4 g x.1)=(YE D).map (E4 g):=by rw[<-K,List.map_map];rfl
  rw[hz,k0]at d;refine Ie (t:=4) results209 rfl rfl hK ⟨_,rfl,?_,?_⟩;.exact dz (mJ d (Xd X D' (.deferred U)) λr e=>by cases e;exact⟨_,hK,rfl⟩) V
  .exact Below.RO a V (TX.1 hK).1 _
 case stop=>rintro D' cc pre X S hs hx hK;exact hx.elim
theorem vq(g D b1 b2:Nat)(h:D<=1000)(w:ZT)(d:b1<w.heap.size)(f:b2<w.heap.size)(b:w.cell? ⟨b1,0,U⟩=J (Z5 (J ⟨g,0,U⟩) (D*44) (D*44)))(c:w.cell? ⟨b2,0,U⟩=J (I O 44)):ZQ ZL 192 #[.func (.func 210) #[] #[Z6 (J ⟨b1,0,U⟩),Z6 (J ⟨b2,0,U⟩)]] w λe w'=>∃v,e=Z3 v/\w'.ownsRow w.heap.size 36 1 v D ((YE D).map (E4 g))/\bW w w':=by have j:=rB g D b1 b2 h w d f b c;go_enter func192,ntmps192;go_wp2_with fail;refine j.mono ?_;rintro e w'⟨v,rfl,a,i⟩;have H:=al a i;go_wp2;go_ret;exact⟨_,rfl,H.o.1,H.o.2⟩
def jh(D:Nat)(dl:a7):a7:=dl++YH (D*44-dl.length) 0
def eG(D:Nat)(dl:a7):List a7:=(YE D).map λi=>((jh D dl).drop (i*44)).take 44
def MD(h:dl.length<=D*44):(jh D dl).length=D*44:=by unfold jh;simp;omega
def eM(D:Nat)(dl:a7):(eG D dl).length=D:=by simp[eG]
def pM(a:i<(eG D dl).length):(eG D dl)[i]=((jh D dl).drop (i*44)).take 44:=by simp[eG]
def nu(h:dl.length<=D*44)(a:i<D):(((jh D dl).drop (i*44)).take 44).length=44:=by rw[Uq,Un,MD h];omega
def Pz(h:∀x∈dl,x<256):∀x∈jh D dl,x<256:=by
 intro x a;unfold jh at a;rw[Ui]at a;rcases a with a|a;.exact h x a
 .have:=VG a;omega
theorem aaL{v:Nat}(h:bz w v p D L G ps ho)(hD:D<=12)(Q:ZS)(dl:a7)(Y:Bs w Q dl)(hl:dl.length<=D*44):ZQ ZL 167 #[Z6 (J ⟨v,0,U⟩),Q] w λe w'=>∃u,e=Z3 u/\Rd w' u (eG D dl)/\bW w w':=by
 have P:=dY h V;obtain⟨b,y⟩:=nM (D*44);have hp:b<=528:=V;rw[y]at P hl;have F:=ak Y;go_enter func167,ntmps167;go_wp2_with fail;refine P.mono ?_;rintro e w1⟨rfl,rfl⟩;go_wp2_with(at_make;refine dq _ rfl (Z0 7) (Z0 7) rfl _ b um um rfl V ?_;intro w2 W J' hz;obtain⟨a,hy,r,hq⟩:=Dh (n:=b) (cap:=b) (off:=0) 3 W (F.o.mono J') V ek);have s:bW w1 a:=J'.grown hq V (λk e=>E3);have X:spl (YH b 0) 0 dl=jh D dl:=by unfold spl jh;rw[WN,Ut,Uj,XZ,y]
 rw[X]at r;have K:=JJ w1.heap.size D a;rw[y]at K;have C:=au r s K;refine C.o.2.2.mono ?_;rintro e d⟨rfl,rfl⟩;obtain⟨d,f⟩:=nM ((a.alloc (Z4 #[Z5 (J ⟨w1.heap.size,0,U⟩) b b] 36)).alloc (Z4 #[I O 44] 3));have t:bW a d:=by rw[<-f];exact(bA a _).alloc ej _
 have k0:d.heap.size=a.heap.size+2:=by rw[<-f];simp
 have S:d.cell? ⟨a.heap.size,0,U⟩=J (Z5 (J ⟨w1.heap.size,0,U⟩) (D*44) (D*44)):=by rw[<-f,y];exact((Us a _ _).alloc _).cell
 have T:d.cell? ⟨a.heap.size+1,0,U⟩=J (I O 44):=by have:=(Us (a.alloc (Z4 #[Z5 (J ⟨w1.heap.size,0,U⟩) b b] 36)) 3 (I O 44)).cell;rw[Um]at this;rw[<-f];exact this
 have hn:=vq w1.heap.size D a.heap.size (a.heap.size+1) V d V V S T;rw[f];have E:=al t hn;go_wp2_with fail;refine E.o.2.mono ?_;rintro e w5⟨u,rfl,m,z⟩;have R:=al m z;go_wp2;go_ret;obtain⟨r,s,_⟩:=C.o;obtain⟨t,_⟩:=E.o;obtain⟨m,z⟩:=R.o;have I':bW a w5:=t.trans (z.mono t.size);have hk:aM w5 w1.heap.size (jh D dl):=r.below I';refine⟨u,rfl,?_,s.trans (I'.mono s.size)⟩;rcases m.2 with⟨U',V'⟩|⟨q,cap,cur,H,e2,e3,e4,e5,e6,e7⟩
 . subst U';have:eG D dl=[]:=by rw[<-Yf,eM];exact V'
   exact⟨U,0,by rw[this];rfl,by rw[this];decide,λB=>absurd this B⟩
 . refine⟨J ⟨q,0,U⟩,cap,by rw[H,eM],by rw[eM];omega,λ_=>⟨q,0,rfl,λi M=>?_⟩⟩;have A:=M;rw[eM]at A;refine⟨E4 w1.heap.size i,?_,?_⟩;.have:=m.cells (g:=q) (by rw[H];rfl) i (E4 w1.heap.size i) (by simp[A]);rw[kl]at this;rw[Uj];exact this
   . rw[pM M];have Z:=nu (D:=D) (dl:=dl) V A;have hr:w5.rangeAt w1.heap.size 0 (aL (jh D dl)):=λj u hu=>by have B:=hk.SW;have hv:(aL (jh D dl)).toArray[j]?=J u:=(ua hu);simp[World.cell?,B,hv]
     have N:=oE 44 (gH (i*44) hr);rw[Uj]at N;have O':=Bs.mid (c:=44) (l:=((jh D dl).drop (i*44)).take 44) V V (λx hx=>Pz F.o.lt x (UW (US hx))) N;rw[Z]at O';exact O'
end
section
attribute [local go_sem] Oper.semAt_some
def jV(nb:Nat)(s:(Nat->Bool)×Bool)(x:Nat):(Nat->Bool)×Bool:=if x<2\/nb<=x\/s.1 x=ZV then(s.1,ZU)else(λj=>if j=x then ZV else s.1 j,s.2)
def tk(nb:Nat)(l:a7):(Nat->Bool)×Bool:=l.foldl (jV nb) (λ_=>ZU,ZV)
def tQ(nb:Nat)(l:a7)(x:Nat):tk nb (l++[x])=jV nb (tk nb l) x:=by simp[tk]
def Tryz.To:(ZL.info? 4).map (λi=>(i.zero,i.size,i.bytes))=J (J (Z1 ZU),1,1):=ee
def rC(w:ZT){F:Fence}{m:Nat}{ops:Array ZP}{rest:List ZP}{o:ZP}{a:Act}{Q:Exit->Act->ZT->Prop}(i:o.guard=U)(l c:ZM)(b:o.op=Op.makeSlice 111 l c)(C:Int)(n:Nat)(hl:a.eval l=I O C)(g:a.eval c=I O C)(f:C=(n:Int))(j:n<=1000000000)(hK:∀w',w'.rowIs w.heap.size 4 n (λ_=>Z1 ZU)->bW w w'->w'.heap.size=w.heap.size+1->wpListIn F m ZL ops Q rest (a.put o.dst (Z5 (J ⟨w.heap.size,0,U⟩) n n)) w'):wpListIn F m ZL ops Q (o::rest) a w:=by refine Yg i λK e=>?_;have d:=XX (P:=ZL) 111 4 (Z1 ZU) 1 ads Tryz.To rfl .i64 .i64 n V V w;subst f;unfold Oper.wpIn;refine⟨by simp[Oper.about,b],?_⟩;rw[Wg F _ _ (by rw[b];intro c h;cases h)];simp[execOp,b,hl,g,d,Result.andThen];exact e _ _ (hK _ (Xv w _ n _) (bA _ _) (Uh _ _))
structure TkI(w:ZT)(g nb B:Nat)(pre:a7)(X:ZT):Prop where
 row:X.rowIs g 4 nb (λj=>Z1 ((tk nb pre).1 j))box:ZN X (g+1) 111 (Z5 (J ⟨g,0,U⟩) nb nb)ok:ZN X (g+1+1) 4 (Z1 (tk nb pre).2)below:bW w X
 size:B<=X.heap.size
def TkI.own(l:g+3<=B)(m:w.heap.size<=B):OwnFrom B (TkI w g nb B):=by rintro pre X Y row⟨f,h,i,c,j⟩b d;have a:∀k,k<B->Y.heap[k]?=X.heap[k]?:=λk a=>b.block k V (λe=>ia ((d k e.symm).1));exact⟨f.of_block (a _ V),(a _ V).trans h,(a _ V).trans i,c.grown b c.size (λk e=>ia ((d k e).1)),TU j b.size⟩
def vt{u:Nat}(f:fn.results=#[.tmp t,.tmp u])(b:a.defers=[{target:=.collected D',args:=#[]}])(hx:a.tmps.getD t ZY=x)(hy:a.tmps.getD u ZY=y)(hK:Z.heap[D']?=J (.deferred (J [])))(hR:R (Z3 (ZZ #[x,y])) (Z.putObj D' (.deferred U))):bodyPostM Fence.wide n ZL fn R .ret a Z:=by obtain⟨c,g⟩:=a;simp only at b hx hy;subst b;refine⟨ej,.inl ⟨_,_,rfl,Wo hK,?_⟩⟩;refine⟨ZZ #[x,y],?_,hR⟩;have d:c[t]?.getD ZY=x:=ua hx;have e:c[u]?.getD ZY=y:=ua hy;simp[results,f,d,e]
theorem zL{v:Nat}{off:Bool}{A:an}{F:aC}(M:bh w ar v D' L' G' t f nn pg ob off)(hV:bz w v p D L G ps ho)(h:ay w p A F)(hn:0<A.n)(P:a7)(os:List Ob)(hP:bt (λk=>k<w.heap.size) w pg P)(hC:fA (λk=>k<w.heap.size) w ob os):ZQ ZL 164 #[Z6 (J ⟨ar,0,U⟩)] w λe w'=>∃g,e=Z3 (ZZ #[Z5 (J ⟨g,0,U⟩) A.nb A.nb,Z1 (tk A.nb (P++ah os)).2])/\w.heap.size<=g/\w'.rowIs g 4 A.nb (λj=>Z1 ((tk A.nb (P++ah os)).1 j))/\bW w w':=by
 obtain⟨n,HN⟩:∃n:Nat,cL (9<=n):=⟨9,TV _⟩;obtain⟨c0,_⟩:=M.cells;have O':=jU hV h hn;have ka:=h.Sy.2;obtain⟨nb,h7⟩:=nM (A.nb);rw[h7]at O' ka⊢;clear h7;have B:=aE M hP hC O';clear M hP hC O';refine(Vo (n:=n)).1 ?_;refine WO func164 rfl trivial ?_ rfl;simp only[ntmps164,UK,UC,U0,YF,YG,Vf,Vg,Vh,Vi,Ut,U1];gi_wp2;refine cM B.o.2.2.2 ?_;rintro e w1⟨rfl,rfl⟩;gi_wp2_with(gi_at_make;refine rC _ rfl (Z0 11) (Z0 11) rfl _ nb um um rfl V ?_;intro w2 h6 hq I');obtain⟨d,z⟩:=nM ((w2.alloc (Z4 #[Z5 (J ⟨w1.heap.size,0,U⟩) nb nb] 111)).alloc (Z4 #[Z1 ZV] 4));have k0:d.heap.size=w1.heap.size+3:=by rw[<-z];simp[I']
 have hr:bW w1 d:=by rw[<-z];exact(hq.alloc V _).alloc ek _
 have hp:d.rowIs w1.heap.size 4 nb (λ_=>Z1 ZU):=by rw[<-z];exact(h6.alloc _).alloc _
 have hg:ZN d (w1.heap.size+1) 111 (Z5 (J ⟨w1.heap.size,0,U⟩) nb nb):=by rw[<-z];have:=Us w2 111 (Z5 (J ⟨w1.heap.size,0,U⟩) nb nb);rw[I']at this;exact this.alloc _
 have hm:ZN d (w1.heap.size+1+1) 4 (Z1 ZV):=by rw[<-z];have:=Us (w2.alloc (Z4 #[Z5 (J ⟨w1.heap.size,0,U⟩) nb nb] 111)) 4 (Z1 ZV);rw[Um,I']at this;exact this
 rw[z];clear z h6 hq I' c0 hV h;refine cM (mG ar d) ?_;rintro e w'⟨rfl,rfl⟩;have h5:ZN (d.alloc (Z4 #[Z6 (J ⟨ar,0,U⟩)] 102)) d.heap.size 102 (Z6 (J ⟨ar,0,U⟩)):=Us d _ _;have k5:(d.alloc (Z4 #[Z6 (J ⟨ar,0,U⟩)] 102)).heap.size=d.heap.size+1:=ej;have E:TkI w1 w1.heap.size nb (d.heap.size+1) [] (d.alloc (Z4 #[Z6 (J ⟨ar,0,U⟩)] 102)):=⟨hp.alloc _,hg.alloc _,hm.alloc _,hr.alloc V _,V⟩;obtain⟨w5,hs⟩:=nM (d.alloc (Z4 #[Z6 (J ⟨ar,0,U⟩)] 102));have H:=aE h5 E k0 k5;clear h5 E k0 k5 hp hg hm hr;gi_wp2;rw[hs]at H;clear hs;obtain⟨ke,kf,kg,kh⟩:d.heap.size<=w1.heap.size+3/\w1.heap.size+3<=d.heap.size/\w5.heap.size<=d.heap.size+1/\d.heap.size+1<=w5.heap.size:=ia H.out.2.2;have E:TkI w1 w1.heap.size nb w5.heap.size [] w5:=by have:=H.out.2.1;exact⟨this.row,this.box,this.ok,this.below,TV _⟩
 have N:∀{v:ZS}{l:a7},bt (λk=>k<w1.heap.size) w1 v l->bt (λk=>k<w1.heap.size\/k=d.heap.size) w1 v l:=λ⟨ao,c,R,S,T⟩=>⟨ao,c,R,S,λhl=>by obtain⟨b,off,U',V',Y⟩:=T hl;exact⟨b,off,U',.inl V',Y⟩⟩;have k8:=N B.o.2.1;have k6:fA (λk=>k<w1.heap.size\/k=d.heap.size) w1 ob os:=by obtain⟨ao,c,R,S,T⟩:=B.o.2.2.1;refine⟨ao,c,R,S,λhl=>?_⟩;obtain⟨b,off,U',V',Y,r4⟩:=T hl;refine⟨b,off,U',.inl V',Y,λi a=>?_⟩;obtain⟨sv,s1,s2,s3,s4⟩:=r4 i a;exact⟨sv,s1,s2,s3,N s4⟩
 have K:=E.below;have HI:=ak E;clear E N;refine WQ rfl (ia HN.o) (gf:=117) (lb:=#[Z6 (J ⟨d.heap.size,0,U⟩)]) rfl trivial (U9 func117 ee rfl) (rA (λk=>k<w1.heap.size\/k=d.heap.size) (n-1) d.heap.size ar v D' L' G' t f nn pg ob off P os (.inr rfl) (.inl B.o.1.lt) w5 H.out.1 (B.o.1.keep (K.block _ B.o.1.lt)) (k8.keep (eW.RM K)) (k6.keep (eW.RM K))) (λh k=>h.trans k) (λW l o o' hl _ _ _=>⟨L0,λk _ r=>UI (by rcases r with r|r<;>omega)⟩) (TW _ _) (λ_=>rfl) (TkI w1 w1.heap.size nb w5.heap.size) (λ_ _ _=>False) (TkI.own V V) (λ_ _ _ _ _ h _ _=>h.elim) HI.o (λx=>{tmps:=#[Z6 (J ⟨ar,0,U⟩),ZY,Z5 U 0 0,Z1 ZU,Z6 (J ⟨w1.heap.size+1,0,U⟩),Z6 (J ⟨w1.heap.size+1+1,0,U⟩),I O (x:Nat),Z6 (J ⟨ar,0,U⟩),Z6 (J ⟨ar,0,U⟩),Z6 (J ⟨ar,0,U⟩),Z6 (J ⟨v,0,U⟩),I O (nb:Nat),Z5 (J ⟨w1.heap.size,0,U⟩) nb nb,Z6 (J ⟨ar,0,U⟩),.func (.func 117) #[] #[Z6 (J ⟨d.heap.size,0,U⟩)],I O (x:Nat),ZY,ZY,ZY,ZY,ZY,ZY,ZY,ZY,ZY,ZY,ZY,ZY,ZY,ZY,ZY,ZY,ZY,ZY,ZY],defers:=[]}) ?assign ?body ?done ?stop;case assign=>intro l2 x X Kk hK;unfold oA;gi_wp2;exact hK
 case body=>
  rintro l2 pre x X a k9;have c1:=a.box.cell;have Z:=a.ok.cell;have f2:=a.ok.frozen;have C:=ak a;have h1:tk nb (pre++[x])=((tk nb pre).1,ZU)->KeepsFrom w5.heap.size X (X.setCell ⟨w1.heap.size+1+1,0,U⟩ (Z1 ZU))/\eW (λk=>k<w1.heap.size\/k=d.heap.size) X (X.setCell ⟨w1.heap.size+1+1,0,U⟩ (Z1 ZU))/\TkI w1 w1.heap.size nb w5.heap.size (pre++[x]) (X.setCell ⟨w1.heap.size+1+1,0,U⟩ (Z1 ZU)):=λm=>by
   have a:=C.o;refine⟨(V6 _ _ _).from _,⟨oD,λk _ r=>Uc _ _ _ _ (by show k≠w1.heap.size+1+1;rcases r with r|r<;>omega)⟩,?_,?_,?_,?_,?_⟩;.rw[m];exact a.row.of_block (Uc _ _ _ _ (by show w1.heap.size≠w1.heap.size+1+1;omega))
   .exact(Uc _ _ _ _ (by show w1.heap.size+1≠w1.heap.size+1+1;omega)).trans a.box
   .rw[m];exact a.ok.set _
   .exact a.below.setCell (p:=⟨w1.heap.size+1+1,0,U⟩) (by show w1.heap.size<=w1.heap.size+1+1;omega) _
   .simpa[World.setCell]using a.size
  have J':=ak h1;clear a h1;by_cases hv:x<2;.have e1:(x:Int)<2:=V;have m:tk nb (pre++[x])=((tk nb pre).1,ZU):=(by rw[tQ];unfold jV;rw[TT (.inl hv)]);have s:=ak m;clear m;gi_wp2;exact J'.o s.o
  . have e1:¬(x:Int)<2:=V;by_cases hy:nb<=x;.have e2:(x:Int)≥(nb:Int):=V;have m:tk nb (pre++[x])=((tk nb pre).1,ZU):=(by rw[tQ];unfold jV;rw[TT (.inr (.inl hy))]);have s:=ak m;clear m;gi_wp2;exact J'.o s.o
    .have e2:¬(x:Int)≥(nb:Int):=V;have kc:x<nb:=V;have c3:=C.o.row.cell (i:=x) kc;have f3:=C.o.row.frozen x;cases h9:(tk nb pre).1 x with|true=>rw[h9]at c3;have m:tk nb (pre++[x])=((tk nb pre).1,ZU):=(by rw[tQ];unfold jV;rw[TT (.inr (.inr h9))]);have s:=ak m;clear m;gi_wp2;exact J'.o s.o|false=>
       rw[h9]at c3;have m:tk nb (pre++[x])=(λj=>if j=x then ZV else(tk nb pre).1 j,(tk nb pre).2):=by
        rw[tQ];unfold jV;rw[TS];rintro(q|q|q);.exact hv q
        .exact hy q
        .rw[h9]at q;cases q
       have s:=ak m;clear m;gi_wp2;have m:=s.o;have a:=C.o;refine⟨(V6 _ _ _).from _,⟨oD,λk _ r=>Uc _ _ _ _ (by show k≠w1.heap.size;rcases r with r|r<;>omega)⟩,?_,?_,?_,?_,?_⟩
       . rw[m];refine(a.row.set x (Z1 ZV)).congr λj hj=>?_;by_cases e:j=x;.simp[e]
         .simp[e]
       .exact(Uc _ _ _ _ (by show w1.heap.size+1≠w1.heap.size;omega)).trans a.box
       .rw[m];exact(Uc _ _ _ _ (by show w1.heap.size+1+1≠w1.heap.size;omega)).trans a.ok
       .exact a.below.setCell (p:=⟨w1.heap.size,x,U⟩) lR _
       .simpa[World.setCell]using a.size
 case done=>
  rintro D1 xs X k7 hz a hK;rw[hz]at a;have c1:=a.box.cell;have Z:=a.ok.cell;have C:=al a hK;clear a hK hz;obtain⟨tb,Q⟩:=nM ((tk nb (P++ah os)).2);rw[Q]at Z;have HT:=ak Q;clear Q;gi_wp2;gi_region;gi_wp2;obtain⟨a,hK⟩:=C.o;have hh:X.drew.heap[D1]?=J (.deferred (J [])):=hK;refine vt (t:=2) (u:=3) (x:=Z5 (J ⟨w1.heap.size,0,U⟩) nb nb) (y:=Z1 tb) results164 rfl rfl rfl hh ⟨w1.heap.size,by rw[HT.o],TV _,?_,?_⟩;.exact a.row.of_block (UI (w:=X.drew) V)
  .exact Below.RO a.below.drew V (TX.1 hh).1 _
 case stop=>rintro D1 cc pre X k7 kb hx hK;exact hx.elim
end
section
attribute [local go_sem] Oper.semAt_some
def bf(T:Nat->Bool)(k:Nat):a7:=(YE k).filter (λj=>decide (2<=j)&&!T j)
def rE(T:Nat->Bool):bf T 2=[]:=by simp[bf,Vs]
theorem oG(T:Nat->Bool)(k:Nat):bf T (k+1)=bf T k++(if 2<=k/\T k=ZU then[k]else[]):=by
 unfold bf;rw[Vs,Wv];congr 1;by_cases h:2<=k/\T k=ZU;.rw[TT h];simp[h.1,h.2]
 . rw[TS h];by_cases a:2<=k
   . have:T k=ZV:=by cases q:T k<;>simp_all
     simp[this]
   .simp[a]
def lB(T:Nat->Bool){k m:Nat}(h:k<=m):bf T k<+:bf T m:=by induction m with|zero=>rw[(V:k=0)];exact YK _|succ m ih=>
  by_cases e:k=m+1;.rw[e];exact YK _
  .rw[oG];exact(ih V).trans (XT _ _)
theorem Dv(ar:Nat)(w:ZT):ZQ ZL 136 #[Z6 (J ⟨ar,0,U⟩)] w λe w'=>e=Z3 (.func (.func 163) #[] #[Z6 (J ⟨w.heap.size,0,U⟩)])/\w'=w.alloc (Z4 #[Z6 (J ⟨ar,0,U⟩)] 102):=by go_enter func136,ntmps136;go_wp2;go_ret;exact⟨rfl,rfl⟩
def Q5(b0:Nat)(W W':ZT):Prop:=W.heap.size<=W'.heap.size/\∀k o,b0<=k->W.heap[k]?=J o->o.isCells=ZV->W'.heap[k]?=J o
def Q5.trans{a b c:ZT}(h:Q5 b0 a b)(k:Q5 b0 b c):Q5 b0 a c:=⟨TU h.1 k.1,λi o d f e=>k.2 i o d (h.2 i o d f e) e⟩
def Q5.row(h:Q5 b0 W W'){g n:Nat}{t:ZO}{f:Nat->ZS}(d:b0<=g)(b:W.rowIs g t n f):W'.rowIs g t n f:=by obtain⟨c,a,_⟩:=id b;exact b.of_block ((h.2 g _ d a rfl).trans a.symm)
theorem ME{v:Nat}{off:Bool}{A:an}{F:aC}(Q:bh W ar v D' L' G' t f nn pg ob off)(V':bz W v p D L G ps ho)(h:ay W p A F)(hn:0<A.n)(P:a7)(os:List Ob)(S:bt (λk=>k<W.heap.size) W pg P)(R:fA (λk=>k<W.heap.size) W ob os)(n l b1 b0:Nat)(hp:b0<=W.heap.size)(J' y:a7->ZT->Prop)(N:∀pre A B,J' pre A->bW A B->J' pre B)(s:∀pre x W,J' pre W->pre.length<(bf (tk A.nb (P++ah os)).1 A.nb).length->YieldAt Fence.wide (n-1) ZL l (oA x) W λe W'=>(e=Z3 (Z1 ZV)/\J' (pre++[x]) W'/\Q5 b0 W W')\/(e=Z3 (Z1 ZU)/\y (pre++[x]) W'))(h1:W.cell? ⟨b1,0,U⟩=J (Z6 (J ⟨ar,0,U⟩)))(E:J' [] W):CallsIn Fence.wide n ZL 163 #[.func (.yield l) #[] #[],Z6 (J ⟨b1,0,U⟩)] W λe W'=>(∃v,e=Z3 v)/\((∃C,C=bf (tk A.nb (P++ah os)).1 A.nb/\J' C W')\/(∃pre,pre<+:bf (tk A.nb (P++ah os)).1 A.nb/\y pre W')):=by
 have r:=zL Q V' h hn P os S R;have hh:=h.Sy.2;obtain⟨nb,I'⟩:=nM (A.nb);rw[I']at r hh s⊢;obtain⟨T,U'⟩:=nM (tk nb (P++ah os));rw[U']at r s⊢;obtain⟨a,tr⟩:=T;simp only at r s⊢;refine Xl func163 rfl trivial ?_ rfl;simp only[ntmps163,UK,UC,U0,YF,YG,Vf,Vg,Vh,Vi,Ut,U1];gi_wp2;refine cM r ?_;rintro e w1⟨g,rfl,hg,d,X⟩;have K:=N _ _ _ E X;have w:=al d K;gi_wp2;gi_loopw[5](λp wr=>∃k:Nat,p=I O (k:Nat)/\2<=k/\(k<=nb\/k=2)/\J' (bf a k) wr/\wr.rowIs g 4 nb (λj=>Z1 (a j)))(λp _=>nb-(intOf p).toNat);case atStart=>exact⟨2,rfl,TV _,.inr rfl,by rw[rE];exact w.o.2,w.o.1⟩
 case round=>
  obtain⟨k,rfl,Y,u,m,d⟩:=hrel;by_cases Z:k<nb;.have c1:=d.cell (i:=k) Z;cases hm:a k with
    |true=>
     rw[hm]at c1;have c:bf a (k+1)=bf a k:=(by rw[oG,TS (by rw[hm];simp),Wj]);rw[<-c]at m;have b:=al m d;gi_wp2;refine⟨λ_ h=>Bf,?_⟩;gi_wp2;go_roundw;case rel=>exact⟨k+1,eT,V,.inl V,b.o.1,b.o.2⟩
     case measure=>simp only[intOf];omega|false=>
     rw[hm]at c1;have c:bf a k++[k]=bf a (k+1):=(by rw[oG,TT ⟨Y,hm⟩]);have hi:(bf a k).length<(bf a nb).length:=by have:=(lB a (V:k+1<=nb)).length_le;rw[<-c,Ua]at this;simp at this;omega
     obtain⟨fn,tmps,assign,body,hj,z⟩:=s _ k _ m hi;unfold oA at hj;rw[c]at z;have b:=al d z;gi_wp2;refine⟨λh=>Bf,b.o.2.mono ?_⟩;rintro e W3(⟨rfl,M,O'⟩|⟨rfl,H⟩)
     . have q:=al M (O'.row V b.o.1);gi_wp2;go_roundw;case rel=>exact⟨k+1,eT,V,.inl V,q.o.1,q.o.2⟩
       case measure=>simp only[intOf];omega
     .have q:=ak H;gi_wp2;refine Uv (XD rfl _ _ _) rfl ?_;exact⟨⟨_,rfl⟩,.inr ⟨_,lB a (V:k+1<=nb),q.o⟩⟩
  . have c:bf a k=bf a nb:=by
     rcases u with u|u;.rw[(V:k=nb)]
     .subst u;rw[rE];exact(List.prefix_nil.1 (by have:=lB a (V:nb<=2);rwa[rE]at this)).symm
    rw[c]at m;have b:=ak m;gi_wp2;go_end0;exact⟨⟨_,rfl⟩,.inl ⟨_,rfl,b.o⟩⟩
def FZ{v:Nat}{off:Bool}{A:an}{F:aC}(x:bh w ar v D' L' G' t f nn pg ob off)(y:bz w v p D L G ps ho)(h:ay w p A F)(R:0<A.n)(P:a7)(os:List Ob)(M:bt (λk=>k<w.heap.size) w pg P)(I':fA (λk=>k<w.heap.size) w ob os)(n b1:Nat)(d:b1<w.heap.size)(E:w.cell? ⟨b1,0,U⟩=J (Z6 (J ⟨ar,0,U⟩))):SeqStopsK Fence.wide n ZL 163 #[Z6 (J ⟨b1,0,U⟩)] oA (Q5 w.heap.size) (λY=>Y=bf (tk A.nb (P++ah os)).1 A.nb) (λpre=>pre<+:bf (tk A.nb (P++ah os)).1 A.nb) (bf (tk A.nb (P++ah os)).1 A.nb).length w:=λl J' z W a K _ N C=>by
 have u:∀{v:ZS}{l:a7},bt (λk=>k<w.heap.size) W v l->bt (λk=>k<W.heap.size) W v l:=λ⟨ao,c,g,j,m⟩=>⟨ao,c,g,j,λhl=>by obtain⟨b,off,o,q,s⟩:=m hl;exact⟨b,off,o,TY q a.size,s⟩⟩;have H:fA (λk=>k<W.heap.size) W ob os:=by obtain⟨ao,c,g,j,m⟩:=I'.keep (eW.RM a);refine⟨ao,c,g,j,λhl=>?_⟩;obtain⟨b,off,o,q,s,S⟩:=m hl;refine⟨b,off,o,TY q a.size,s,λi O'=>?_⟩;obtain⟨sv,T,U',V',X⟩:=S i O';exact⟨sv,T,U',V',u X⟩
 exact ME (x.keep (a.block _ x.lt)) (y.keep (a.block _ y.lt)) (h.below a lR) R P os (u (M.keep (eW.RM a))) H n l b1 w.heap.size a.size J' z (λpre A B h d=>K pre A B U h ⟨d.os,d.tape,d.output,d.size,λk Q _=>d.block k Q⟩ (λr e=>W8)) N ((a.cell (p:=⟨b1,0,U⟩) d).trans E) C
end
section
attribute [local go_sem] Oper.semAt_some
def kY(l:a7):List ZS:=l.map λ(x:Nat)=>Value.int .i64 (x:Int)
def Tryz.Su:(ZL.info? 3).map (λi=>(i.zero,i.size,i.bytes))=J (J (I O 0),1,8):=ee
structure TaI(w:ZT)(q count B:Nat)(pre:a7)(X:ZT):Prop where
 cnt:ZN X w.heap.size 3 (I O (count:Nat))box:ZN X q 45 (Z5 (J ⟨w.heap.size+1,0,U⟩) pre.length count)own:X.ownsRow (w.heap.size+1) 3 1 (Z5 (J ⟨w.heap.size+1,0,U⟩) pre.length count) pre.length (kY pre)below:bW w X
 size:B<=X.heap.size
 le:pre.length<=count
def TaI.Tq(l:w.heap.size+3<=B)(m:q<B):OwnFrom B (TaI w q count B):=by rintro pre X Y row⟨f,g,h,d,i,j⟩a c;have b:∀k,k<B->Y.heap[k]?=X.heap[k]?:=λk b=>a.block k V (λe=>ia ((c k e.symm).1));exact⟨(b _ V).trans f,(b _ V).trans g,mJ h a λr e=>(c r e).2,d.grown a d.size (λk e=>ia ((c k e).1)),TU i a.size,j⟩
def TaX(w:ZT)(q count B id:Nat)(c:Code)(pre':a7)(X:ZT):Prop:=c=.exit id/\∃pre x,pre'=pre++[x]/\pre.length=count/\TaI w q count B pre X
def TaX.Tq{id:Nat}(g:w.heap.size+3<=B)(i:q<B)(c:Code):OwnFrom B (TaX w q count B id c):=by rintro a X Y row⟨b,pre,x,d,e,f⟩h j;exact⟨b,pre,x,d,e,TaI.Tq g i pre X Y row f h j⟩
theorem mL{v:Nat}{off:Bool}{A:an}{F:aC}(J':bh w ar v D' L' G' t f nn pg ob off)(K:bz w v p D L G ps ho)(h:ay w p A F)(hn:0<A.n)(P:a7)(os:List Ob)(O':bt (λk=>k<w.heap.size) w pg P)(N:fA (λk=>k<w.heap.size) w ob os)(count:Nat)(k6:count<=1000000):ZQ ZL 95 #[Z6 (J ⟨ar,0,U⟩),I O (count:Nat)] w λe w'=>∃u,e=Z3 (ZZ #[u,Z1 (decide (count<=(bf (tk A.nb (P++ah os)).1 A.nb).length))])/\w'.ownsRow w.heap.size 3 1 u ((bf (tk A.nb (P++ah os)).1 A.nb).take count).length (kY ((bf (tk A.nb (P++ah os)).1 A.nb).take count))/\bW w w':=by
 obtain⟨n,HN⟩:∃n:Nat,cL (9<=n):=⟨9,TV _⟩;have H0:=a5 J' K h O' N;clear J' K h O' N;refine(Vo (n:=n)).1 ?_;refine WO func95 rfl trivial ?_ rfl;simp only[ntmps95,UK,UC,U0,YF,YG,Vf,Vg,Vh,Vi,Ut,U1];obtain⟨i0,kv,qg,q5,qh⟩:=Uw Tryz.Su;have hq:(w.alloc (Z4 #[I O (count:Int)] 3)).heap.size=w.heap.size+1:=ej;have kp:bW w (w.alloc (Z4 #[I O (count:Int)] 3)):=bA w _;have kk:ZN (w.alloc (Z4 #[I O (count:Int)] 3)) w.heap.size 3 (I O (count:Nat)):=Us w _ _;have s:=au hq kp kk;clear hq kp kk;gi_wp2_with(gi_at_make;refine wpListIn_make_own _ rfl (.const (I O 0)) (Z0 8) 45 rfl (w.heap.size+1) 3 i0 (I O 0) 1 Yh kv qg q5 .i64 .i64 _ count um um rfl (by rw[qh];omega) eD (by rw[s.o.1];exact TV _) ?_;intro w2 U' Z);rw[s.o.1]at U';have ki:=Z.size;rw[s.o.1]at ki;have qi:w.heap.size+1<w2.heap.size:=(U'.lt (w.heap.size+1) rfl).2;have hh:bW w w2:=s.o.2.1.grown Z (by rw[s.o.1];omega) (λk e=>W8);have h8:ZN w2 w.heap.size 3 (I O (count:Nat)):=(Z.block _ (by rw[s.o.1];omega) ej).trans s.o.2.2;have h2:ZN (w2.alloc (Z4 #[Z5 (J ⟨w.heap.size+1,0,U⟩) 0 count] 45)) w2.heap.size 45 (Z5 (J ⟨w.heap.size+1,0,U⟩) 0 count):=Us w2 _ _;have V':bW w2 (w2.alloc (Z4 #[Z5 (J ⟨w.heap.size+1,0,U⟩) 0 count] 45)):=bA w2 _;have hx:(w2.alloc (Z4 #[Z5 (J ⟨w.heap.size+1,0,U⟩) 0 count] 45)).heap.size=w2.heap.size+1:=ej;obtain⟨d,q0⟩:=nM (w2.alloc (Z4 #[Z5 (J ⟨w.heap.size+1,0,U⟩) 0 count] 45));rw[q0]at h2 V' hx⊢;refine cM (Dv ar d) ?_;rintro e w'⟨rfl,rfl⟩;have h5:(d.alloc (Z4 #[Z6 (J ⟨ar,0,U⟩)] 102)).cell? ⟨d.heap.size,0,U⟩=J (Z6 (J ⟨ar,0,U⟩)):=(Us d _ _).cell;have q6:(d.alloc (Z4 #[Z6 (J ⟨ar,0,U⟩)] 102)).heap.size=d.heap.size+1:=ej;have k0:bW d (d.alloc (Z4 #[Z6 (J ⟨ar,0,U⟩)] 102)):=bA d _;obtain⟨w5,R⟩:=nM (d.alloc (Z4 #[Z6 (J ⟨ar,0,U⟩)] 102));have T:bW w2 w5:=by rw[<-R];exact V'.trans (k0.mono V'.size)
 have ha:bW w w5:=hh.trans (T.mono V);have kx:TaI w w2.heap.size count w5.heap.size [] w5:=⟨(T.block _ V).trans h8,by rw[<-R];exact(k0.block _ V).trans h2,az U' T,ha,TV _,T8 _⟩;have kz:w5.heap.size=w2.heap.size+2:=by rw[<-R,q6,hx]
 have Q:=a5 h5 kx ha hx kz;clear h5 kx q6 k0 T ha kz h2 V' hx U' Z hh h8;gi_wp2;rw[R]at Q;clear R q0;obtain⟨qj,qk,qm,qn⟩:d.heap.size<=w2.heap.size+1/\w2.heap.size+1<=d.heap.size/\w5.heap.size<=w2.heap.size+2/\w2.heap.size+2<=w5.heap.size:=ia Q.out.2.2.2;have B:=Q.out.2.2.1;obtain⟨J',K,h,O',N⟩:=H0.o;have hz:∀{v:ZS}{l:a7},bt (λk=>k<w.heap.size) w5 v l->bt (λk=>k<w5.heap.size) w5 v l:=λ⟨ao,c,q1,q2,q3⟩=>⟨ao,c,q1,q2,λhl=>by obtain⟨b,off,r1,r2,r3⟩:=q3 hl;exact⟨b,off,r1,TY r2 B.size,r3⟩⟩;have ko:=hz (O'.keep (eW.RM B));have km:fA (λk=>k<w5.heap.size) w5 ob os:=by obtain⟨ao,c,q1,q2,q3⟩:=N.keep (eW.RM B);refine⟨ao,c,q1,q2,λhl=>?_⟩;obtain⟨b,off,r1,r2,r3,r4⟩:=q3 hl;refine⟨b,off,r1,TY r2 B.size,r3,λi a=>?_⟩;obtain⟨sv,s1,s2,s3,s4⟩:=r4 i a;exact⟨sv,s1,s2,s3,hz s4⟩
 have ke:=FZ (J'.keep (B.block _ J'.lt)) (K.keep (B.block _ K.lt)) (h.below B lR) hn P os ko km (n-1) d.heap.size V Q.out.1;obtain⟨fr,k7⟩:=nM (bf (tk A.nb (P++ah os)).1 A.nb);rw[k7]at ke;have kj:=ak k7;have q9:=ak ke;clear k7 ke ko km hz J' K h O' N;refine WQ rfl (ia HN.o) (gf:=163) (lb:=#[Z6 (J ⟨d.heap.size,0,U⟩)]) rfl trivial (U9 func163 ee rfl) q9.out (λh k=>h.trans k) (λW l o o' hl ho hc _=>⟨L0,λk o2 _ g ks=>(UI (λe=>by subst e;rw[g]at ho;cases ho;rw[hc]at ks;cases ks)).trans g⟩) (TW _ _) (λ_=>rfl) (TaI w w2.heap.size count w5.heap.size) (TaX w w2.heap.size count w5.heap.size 0) (TaI.Tq V V) (TaX.Tq V V) Q.out.2.1 (λx=>{tmps:=#[Z6 (J ⟨ar,0,U⟩),I O (count:Nat),ZY,Z6 (J ⟨w.heap.size,0,U⟩),Z5 U 0 0,Z1 ZU,Z6 (J ⟨w2.heap.size,0,U⟩),I O (x:Nat),I O (count:Nat),Z5 (J ⟨w.heap.size+1,0,U⟩) 0 count,Z6 (J ⟨ar,0,U⟩),.func (.func 163) #[] #[Z6 (J ⟨d.heap.size,0,U⟩)],I O (x:Nat),ZY,ZY,ZY,ZY,ZY,ZY,ZY,ZY,ZY,ZY,ZY,ZY,ZY],defers:=[]}) ?assign ?body ?done ?stop;case assign=>intro l2 x X Kk hK;unfold oA;gi_wp2;exact hK
 case body=>
  rintro l2 pre x X a qd;have c1:=a.cnt.cell;have H:=a.box.cell;have ka:=a.le;by_cases h3:pre.length=count;.have e1:((pre.length:Nat):Int)=((count:Nat):Int):=V;have z:=ak a;clear a;rw[h3]at H;gi_wp2;exact⟨Yi _ _,rfl,pre,x,rfl,h3,z.o⟩
  . have e1:¬((pre.length:Nat):Int)=((count:Nat):Int):=V;obtain⟨pl,E⟩:=nM (pre.length);have HO:cL ((X.alloc (Z4 #[I O (x:Nat)] 3)).ownsRow (w.heap.size+1) 3 1 (Z5 (J ⟨w.heap.size+1,0,U⟩) pl count) pl (kY pre)):=ak (by have:=az a.own ((TW _ X).alloc lR (Z4 #[I O (x:Nat)] 3));rwa[E]at this);have hj:∀j u,[Value.int .i64 ((x:Nat):Int)][j]?=J u->(X.alloc (Z4 #[I O (x:Nat)] 3)).cell? ((⟨X.heap.size,0,U⟩:Addr).add j)=J u:=oZ X (I O (x:Nat)) 3;have q8:=ak hj;have qf:w2.heap.size<X.heap.size:=(ia a.size);have z:=al a E;rw[E]at H e1 ka;have kr:ZN X w2.heap.size 45 (Z5 (J ⟨w.heap.size+1,0,U⟩) pl count):=(by have:=a.box;rwa[E]at this);have q7:=ak kr;clear a hj kr h3 E;gi_wp2_with(gi_at_builtin;refine wpListIn_append_fits _ rfl (Z0 17) (Z0 19) 45 rfl (w.heap.size+1) 3 i0 1 Yh kv q5 (w.heap.size+1) pl count (kY pre) um (by exact HO.o) ⟨X.heap.size,0,U⟩ 1 1 [I O (x:Nat)] um rfl (by exact q8.out) (λu hu=>by simp at hu;subst hu;rfl) V ?_;intro S hm I';have hy:ZN S w2.heap.size 45 (Z5 (J ⟨w.heap.size+1,0,U⟩) pl count):=(I'.block _ ek (λe=>ia (UN e))).trans ((UE _ _ _ qf).trans q7.out);have d0:=hy.cell;have f0:=hy.frozen);obtain⟨a,E⟩:=z.o;have Y:∀k,k<X.heap.size->k≠w.heap.size+1->S.heap[k]?=X.heap[k]?:=λk g qe=>(I'.block k ek (λe=>qe (UN e))).trans (UE _ _ _ g);have kf:=I'.size;simp only[Um]at kf;have k8:∀k,k≠w2.heap.size->(S.setCell ⟨w2.heap.size,0,U⟩ (Z5 (J ⟨w.heap.size+1,0,U⟩) (pl+1) count)).heap[k]?=S.heap[k]?:=λk g=>Uc _ _ _ _ g;have h4:(pre++[x]).length=pl+1:=(by rw[Ua,E];rfl);have k9:kY (pre++[x])=kY pre++[I O (x:Nat)]:=(by unfold kY;rw[Uz];rfl);refine⟨⟨Zk,λk o g ho _=>?_⟩,⟨Zk,λk o g ho _=>?_⟩,?_,?_,?_,?_,?_,?_⟩;.exact((k8 k V).trans (Y k (TX.1 ho).1 V)).trans ho
    .exact((k8 k V).trans (Y k (TX.1 ho).1 V)).trans ho
    .exact((k8 _ V).trans (Y _ V V)).trans a.cnt
    .rw[h4];exact hy.set _
    .rw[h4,k9];exact hm.kept (vl S w2.heap.size 0 _) (.inr λe=>by have q:w.heap.size+1=w2.heap.size:=UN e;omega)
    .refine Xr (p:=⟨w2.heap.size,0,U⟩) ?_ (by show w.heap.size<=w2.heap.size;omega) _;exact⟨I'.os.trans a.below.os,I'.tape.trans a.below.tape,I'.output.trans a.below.output,ia a.below.size,λk g=>(Y k (ia a.below.size) V).trans (a.below.block k g)⟩
    .have:=a.size;simp[World.setCell];omega
    .rw[h4];omega
 case done=>
  rintro D1 xs X qa q4 a hK;have kh:xs=fr:=q4;subst kh;have c1:=a.cnt.cell;have H:=a.box.cell;have ka:=a.le;have z:=al a hK;clear a hK q4;obtain⟨xl,M⟩:=nM (xs.length);rw[M]at H ka;have HL:=ak M;clear M;gi_wp2;gi_region;gi_wp2;obtain⟨a,hK⟩:=z.o;have M:=HL.o;have C:X.drew.heap[D1]?=J (.deferred (J [])):=hK;have kg:xs.take count=xs:=UM V;have qb:decide (count<=xs.length)=(((xl:Nat):Int)==((count:Nat):Int)):=by
   by_cases e:xl=count;.rw[U4 V];subst e;simp
   . rw[Vk V];have:¬((xl:Nat):Int)=((count:Nat):Int):=by omega
     simp[this]
  rw[kj.out,kg,qb];refine vt (t:=4) (u:=5) (x:=Z5 (J ⟨w.heap.size+1,0,U⟩) xl count) (y:=Z1 (((xl:Nat):Int)==((count:Nat):Int))) results95 rfl rfl rfl C ⟨_,rfl,?_,?_⟩;.have ho:=a.own;rw[M]at ho;have kb:X.drew.ownsRow (w.heap.size+1) 3 1 (Z5 (J ⟨w.heap.size+1,0,U⟩) xl count) xl (kY xs):=az ho ((TW _ X).drew);rw[M];exact dz (mJ kb (Xd X.drew D1 (.deferred U)) λr e=>by cases e;exact⟨_,C,rfl⟩) V
  .exact Below.RO a.below.drew V (TX.1 C).1 _
 case stop=>
  rintro D1 cc pre X qa kc⟨rfl,m,x,rfl,k5,a⟩hK;have c1:=a.cnt.cell;have H:=a.box.cell;have z:=al a hK;rw[k5]at H;clear a hK;gi_wp2;gi_region;gi_wp2;obtain⟨a,hK⟩:=z.o;have C:X.drew.heap[D1]?=J (.deferred (J [])):=hK;obtain⟨rr,ky⟩:=kc;have kg:fr.take count=m:=by rw[<-ky,UA,VV V,UM V]
  have qc:count<=fr.length:=by rw[<-ky];simp;omega
  rw[kj.out,kg,U4 qc];refine vt (t:=4) (u:=5) (x:=Z5 (J ⟨w.heap.size+1,0,U⟩) count count) (y:=Z1 ZV) results95 rfl rfl rfl C ⟨_,rfl,?_,?_⟩;.have ho:=a.own;rw[k5]at ho;have kb:X.drew.ownsRow (w.heap.size+1) 3 1 (Z5 (J ⟨w.heap.size+1,0,U⟩) count count) count (kY m):=az ho ((TW _ X).drew);rw[k5];exact dz (mJ kb (Xd X.drew D1 (.deferred U)) λr e=>by cases e;exact⟨_,C,rfl⟩) V
  .exact Below.RO a.below.drew V (TX.1 C).1 _
end
theorem lC{v:Nat}(h:bz w v p D L G ps ho)(a:xX D L G):ZQ ZL 121 #[Z6 (J ⟨v,0,U⟩)] w λe w'=>e=Z3 (I Z8 ((2^(D+L+G)-1:Nat):Int))/\bW w w':=by obtain⟨_,c1,j,k,_⟩:=h.cells;have n:=a.d;have t:=a.l4;have r:=a.g;have l:=a.s;clear a;obtain⟨m,i⟩:=nM (D+L+G);obtain⟨q,b⟩:=nM (((2^m-1:Nat):Int));rw[i,b];have f:=ak b;clear b;go_enter func121,ntmps121;go_wp2_with fail;refine(cU (D:Int) (L:Int) (G:Int) w ⟨V,V⟩ ⟨V,V⟩ ⟨V,V⟩).mono ?_;rintro e w5⟨rfl,c⟩;rw[(V:((D:Int)+(L:Int)+(G:Int))=(m:Int))];have H:=ak c;clear c;go_wp2_with fail;refine(ni m V w5).mono ?_;rw[f.o];rintro e u⟨rfl,rfl⟩;go_wp2;go_ret;exact⟨rfl,H.o⟩
def Tryz.Te:(ZL.info? 219).map (λi=>(i.zero,i.size,i.bytes))=J (J .nilIface,1,16):=ee
def yt(w:ZT){ops:Array ZP}{rest:List ZP}{o:ZP}{a:Act}{Q:Exit->Act->ZT->Prop}(h:o.guard=U)(l c:ZM)(e:o.op=Op.makeSlice 195 l c)(C:Int)(n:Nat)(hl:a.eval l=I O C)(g:a.eval c=I O C)(f:C=(n:Int))(i:n<=1000000)(hK:∀w',w'.rowIs w.heap.size 219 n (λ_=>.nilIface)->bW w w'->w'.heap.size=w.heap.size+1->wpList ZL ops Q rest (a.put o.dst (Z5 (J ⟨w.heap.size,0,U⟩) n n)) w'):wpList ZL ops Q (o::rest) a w:=by refine VZ h λK d=>?_;have b:=XX (P:=ZL) 195 219 .nilIface 16 underlying195 Tryz.Te rfl .i64 .i64 n V V w;subst f;unfold Oper.wp;simp[execOp,e,hl,g,b,Result.andThen];exact d _ _ (hK _ (Xv w _ n _) (bA _ _) (Uh _ _))
def ji(r:bF):∃a x,ef r=.iface a x:=by cases r<;>exact⟨_,_,rfl⟩
def gy:Option bF->ZS|some r=>ef r|none=>.nilIface
def MF(A:an)(b k i:Nat):ZS:=if i<k then gy (A.RR i b)else .nilIface
def aaM{A:an}{r:bF}(h:A.RR k b=J r)(i:Nat):(if i=k then ef r else MF A b k i)=MF A b (k+1) i:=by
 unfold MF;by_cases e:i=k;.rw[TT e,TT V,e,h];rfl
 . rw[TS e];by_cases a:i<k;.rw[TT a,TT V]
   .rw[TS a,TS V]
def aaN{A:an}(h:A.RR k b=U)(i:Nat):MF A b k i=MF A b (k+1) i:=by
 unfold MF;by_cases e:i=k;.rw[TS V,TT V,e,h];rfl
 . by_cases a:i<k;.rw[TT a,TT V]
   .rw[TS a,TS V]
def acs(w1:ZT)(g p N b:Nat)(A:an)(F:aC)(i:ZS)(wr:ZT):Prop:=∃k:Nat,k<=N/\i=I O k/\ay wr p A F/\aa (λj=>j=g\/F.S j) w1 wr/\wr.rowIs g 219 N (MF A b k)
def PA(w:ZT)(p b:Nat)(A:an)(F:aC)(e:Ending)(w':ZT):Prop:=∃g,e=Z3 (Z5 (J ⟨g,0,U⟩) A.n A.n)/\w.heap.size<=g/\w'.rowIs g 219 A.n (λi=>gy (A.RR i b))/\ay w' p A F/\aa (F.S) w w'
theorem jj{v:Nat}{A:an}{F:aC}(c:qP w v p D L G ps ho A F)(b:Nat)(hb:b<A.nb):ZQ ZL 109 #[Z6 (J ⟨v,0,U⟩),I O b] w λe w'=>PA w p b A F e w':=by
 obtain⟨_,c1,Y,Z,_⟩:=c.vol.cells;have hn:=c.n;have hD:=c.par.d;have hL:=c.par.l4;have hG:=c.par.g;have N:((D:Int)+(L:Int)+(G:Int))=((A.n:Nat):Int):=V;have k0:A.n<=1000:=V;go_enter func109,ntmps109;go_wp2_with fail;refine(cU (D:Int) (L:Int) (G:Int) w ⟨V,V⟩ ⟨V,V⟩ ⟨V,V⟩).mono ?_;rintro e w5⟨rfl,R⟩;rw[N];clear N hn;simp only[];go_wp2_with(at_make;refine yt _ rfl (Z0 13) (Z0 13) rfl _ A.n rfl rfl rfl V ?_;intro E J' T k5);have t:bW w w5:=R;have U':bW w E:=t.trans (T.mono t.size);have hr:w.heap.size<=w5.heap.size:=t.size;have W:¬F.S w5.heap.size:=λq=>ia (c.arr.RL q);have f:=c.below U' lR;have hs:v≠w5.heap.size:=λe=>ia c.vol.lt;have hq:2≠w5.heap.size:=λe=>ia c.laid.lt;have K:=f.arr;have P:E.rowIs w5.heap.size 219 A.n (MF A b 0):=J'.congr λi B=>by unfold MF;rw[TS V]
 clear J' R t T c c1 Y Z;go_loopw[17](λi wr=>acs E w5.heap.size p A.n b A F i wr)(λi _=>A.n-(intOf i).toNat);case atStart=>exact⟨0,T8 _,rfl,K,aa.refl _ _,P⟩
 case round=>
  clear K P;obtain⟨k,hk,rfl,y,l,z⟩:=hrel;by_cases X:k<A.n
  . have Q:bz wr v p D L G ps ho:=f.vol.keep (l.block _ f.vol.lt (λq=>q.elim hs f.v));have M:cJ wr:=f.laid.keep (l.block _ f.laid.lt (λq=>q.elim hq f.g));have S:=sL Q y k b X hb M f.g;have H:=au l z S;clear Q M S y l z;go_wp2_with fail;refine H.o.2.2.mono ?_;rintro e w7⟨u,m,hy⟩;have h:w7.rowIs w5.heap.size 219 A.n (MF A b k):=H.o.2.1.of_block (m.block w5.heap.size H.o.2.1.lt W);rcases hy with⟨r,s,rfl⟩|⟨s,q,rfl,-⟩;.have cS:=h.cell (i:=k) X;have fS:=h.frozen k;obtain⟨ty,x,C⟩:=ji r;rw[C];have hz:((k:Nat):Int).toNat=k:=V;have a:=a5 u (H.o.1.trans (m.mono λ_ _ q=>.inr q)) h s C;clear u m H h s C;go_wp2;refine⟨⟨k+1,V,eT,a.o.1.keep λj V'=>Uc _ _ _ _ (λe=>W (by have e':j=w5.heap.size:=e;rwa[e']at V')),a.o.2.1.trans (aa.setCell _ _ _ (.inl rfl)),(a.o.2.2.1.set k _).congr λi B=>?_⟩,iE⟩;rw[<-a.o.2.2.2.2];exact aaM a.o.2.2.2.1 i
    .unfold jQ;have a:=aE u (H.o.1.trans (m.mono λ_ _ q=>.inr q)) h s;clear u m H h s;go_wp2;exact⟨⟨k+1,V,eT,a.o.1,a.o.2.1,a.o.2.2.1.congr λi _=>aaN a.o.2.2.2 i⟩,iE⟩
  .have hv:k=A.n:=V;subst hv;have O':aa F.S w wr:=(aa.RK U' _).later l λj V' q=>q.elim (λe=>V) id;have H:=au y O' z;clear y l O' z;go_wp2;go_ret;exact⟨_,rfl,hr,H.o.2.2.congr λi B=>(by unfold MF;rw[TT B]),H.o.1,H.o.2.1⟩
def aaO(D:List a7)(w:ZT)(e:Ending)(w':ZT):Prop:=(tj D->e=Z3 (Z1 ZV))/\(¬tj D->e=Z3 (Z1 ZU))/\w'=w
def FtR(D:List a7)(i:ZS):Prop:=∃k:Nat,k<=D.length/\i=I O (k:Nat)/\∀j(hj:j<D.length),j<k->(D[j]).length<=64
theorem Dw(t:ZS)(D:List a7)(w:ZT)(m:Rd w t D):ZQ ZL 177 #[t] w λe w'=>aaO D w e w':=by
 by_cases E:64<D.length;.obtain⟨ao,c,rfl,hl,_⟩:=m;go_enter func177,ntmps177;go_wp2;go_ret;exact⟨λh=>absurd h.1 V,λ_=>rfl,rfl⟩
 rcases m.cases with⟨rfl,ao,c,rfl⟩|⟨b,off,c,rfl,hl,l⟩;.go_enter func177,ntmps177;go_wp2;refine VD 1 ?_;rw[Vx];go_wp2;go_ret;exact⟨λ_=>rfl,λh=>absurd ⟨ej,λi d=>by simp at d⟩ h,rfl⟩
 have v:=ak l;clear l;go_enter func177,ntmps177;go_wp2;go_loop[10](λi=>FtR D i)(λi=>D.length-(intOf i).toNat);case atStart=>exact⟨0,T8 _,rfl,λj _ h=>absurd h V⟩
 case round=>
  obtain⟨k,H,rfl,a⟩:=hrel;by_cases g:k<D.length
  . obtain⟨u,S,A⟩:=v.o k g;obtain⟨C,B,rfl,p,q,r,s⟩:=A;by_cases f:(D[k]).length<=64
    . have z:cL (∀j(n:j<D.length),j<k+1->(D[j]).length<=64):=by
       intro j n F;by_cases e:j=k;.subst e;exact f
       .exact a j n V
      clear a p q r s;generalize(D[k]).length=lk at*;go_wp2;go_round;case rel=>exact⟨k+1,V,eT,z.out⟩
      case measure=>simp[intOf];omega
    .have y:cL (¬tj D):=λh=>f (h.2 k g);have G:(D[k]).length<=140737488355328:=V;clear a p q r s;generalize(D[k]).length=lk at*;go_wp2;go_ret;exact⟨λh=>absurd h y.o,λ_=>rfl,rfl⟩
  .have x:cL (tj D):=⟨V,λi d=>a i d V⟩;clear a;go_wp2;go_ret;exact⟨λ_=>rfl,λh=>absurd x.o h,rfl⟩
def wk(G:Nat->Nat)(top c iv k x:Nat):Nat:=if top<x/64/\x/64<k/\c<=x%64 then G x^^^gm (gm (G (x/64*64+c)) iv) (G (top*64+x%64))else G x
theorem MG(G:Nat->Nat)(top c a:Nat):wk G top c a (top+1)=G:=by funext x;unfold wk;rw[TS V]
theorem Q6{G:Nat->Nat}(h:∀x,G x<256){iv:Nat}(top c k x:Nat):wk G top c iv k x<256:=by
 unfold wk;split;.exact ld (h x) (aV _ (aV _ (h _)))
 .exact h x
def aaP(G:Nat->Nat)(top c a k j:Nat)(b:j<64):wk G top c a k (top*64+j)=G (top*64+j):=by unfold wk;rw[TS V]
def PC(G:Nat->Nat)(top c a k j:Nat)(b:j<64):wk G top c a k (k*64+j)=G (k*64+j):=by unfold wk;rw[TS V]
theorem PD(G:Nat->Nat)(top c a k:Nat)(g:top<k)(f:c<64):iF (wk G top c a k) (λi=>G (top*64+c+i)) (gm (G (k*64+c)) a) (k*64+c) (64-c)=wk G top c a (k+1):=by
 funext x;unfold iF;by_cases h:k*64+c<=x/\x<k*64+c+(64-c);.have d:x/64=k:=V;have e:top*64+c+(x-(k*64+c))=top*64+x%64:=V;rw[TT h];unfold wk;rw[TS V,TT V,d];show _^^^gm _ (G (top*64+c+(x-(k*64+c))))=_;rw[e]
 . rw[TS h];unfold wk;by_cases b:top<x/64/\x/64<k/\c<=x%64;.rw[TT b,TT V]
   .rw[TS b,TS V]
theorem vu(w:ZT)(b o c:Nat)(f:c<64):(Instr.sliceAt 118 (Z6 (J ⟨b,o,U⟩)) (J (I O (c:Int))) U U).run ZL w=.ok (Z5 (J ⟨b,o+c,U⟩) (64-c) (64-c)) w:=by
 have hl:ZL.arrayLen 118=64:=ee;have e:ZL.underlying 118=J (.array (ZL.arrayLen 118) (ZL.elem 118)):=ee;have d:∀w,(sizeOf (ZL.elem 118)).run ZL w=.ok 1 w:=by have a:ZL.elem 118=5:=ee;rw[a];intro w;go_simp
 rw[run_sliceAt_array_l w 118 _ e .i64 (c:Int) V (by rw[hl];omega),d,hl];simp[slicedAt,Result.andThen];rw[TS V];simp[Addr.add]
def WkR(w:ZT)(b t top c iv n:Nat)(G:Nat->Nat)(i:ZS)(wr:ZT):Prop:=∃k:Nat,top<k/\k<=max n (top+1)/\i=I O (k:Nat)/\wr.rowIs b t 4096 (tv (wk G top c iv k))/\w.grownBy wr (J b)
theorem Dx(b top c n:Nat)(G:Nat->Nat)(w:ZT)(f:∀x,G x<256)(h:w.rowIs b 292 4096 (tv G))(O':top<64)(g:c<64)(L:n<=64):ZQ ZL 179 #[Z6 (J ⟨b,0,U⟩),I O top,I O c,I O n] w λe w'=>e=Z3 (ZZ #[])/\w'.rowIs b 292 4096 (tv (wk G top c (gi (G (top*64+c))) (max n (top+1))))/\w.grownBy w' (J b):=by
 have E:w.cell? ⟨b,top*64+c,U⟩=J (I .u8 ((G (top*64+c):Nat):Int)):=h.cell V;have z:=f (top*64+c);generalize hv:G (top*64+c)=y at*;go_enter func179,ntmps179;go_wp2_with(go_at_call 199;refine(tI y z _).mono ?_;rintro e l⟨rfl,rfl⟩);have t:l.rowIs b 292 4096 (tv (wk G top c (gi y) (top+1))):=by rw[MG];exact h
 go_loopw[9](λi wr=>WkR l b 292 top c (gi y) n G i wr)(λi _=>n-(intOf i).toNat);case atStart=>exact⟨top+1,V,V,eT,t,Wx _ _⟩
 case round=>
  clear t h E;rename ZT=>wo;obtain⟨k,J',M,rfl,d,p⟩:=hrel;by_cases N:k<n
  . have F:wo.cell? ⟨b,k*64+c,U⟩=J (I .u8 ((wk G top c (gi y) k (k*64+c):Nat):Int)):=d.cell V;rw[PC _ _ _ _ _ _ g]at F;have v:=f (k*64+c);have o:∀i,i<64-c->wo.cell? ⟨b,top*64+c+i,U⟩=J (I .u8 ((G (top*64+c+i):Nat):Int)):=by intro i K;have m:wo.cell? ⟨b,top*64+c+i,U⟩=J (I .u8 ((wk G top c (gi y) k (top*64+c+i):Nat):Int)):=d.cell V;rw[Vt,aaP _ _ _ _ _ _ V,<-Vt]at m;exact m
    have u:=PD G top c (gi y) k J' g;have H:gm (G (k*64+c)) (gi y)<256:=aV _ v;have C:=ak o;have D:=ak u;clear o u;generalize G (k*64+c)=x at*;have A:=λw=>vu w b (k*64) c g;have B:=λw=>vu w b (top*64) c g;go_wp2;go_region_with(first|(go_at_call 200;refine(m9 x (gi y) v (dH z) _).mono ?_;rintro e w'⟨rfl,rfl⟩)|(go_at_call 186;refine(jP b 292 4096 (k*64+c) (64-c) (64-c) b (top*64+c) (64-c) (gm x (gi y)) (wk G top c (gi y) k) (λi=>G (top*64+c+i)) _ H (by exact d) (Q6 f top c k) (λj=>f _) V V (by exact C.out) (.inr (.inl V))).mono ?_;rintro e w'⟨rfl,r,a⟩));all_goals
     have s:=r;rw[D.out]at s;have S:l.grownBy w' (J b):=gW p ⟨a.os,a.tape,a.output,a.size,a.block⟩;clear r a A B;go_wp2;go_roundw;case rel=>exact⟨k+1,V,V,eT,s,S⟩
     case measure=>simp[intOf];omega
  . have q:k=max n (top+1):=V;rw[q]at d;clear q;go_wp2;go_end0;exact⟨rfl,d,p⟩
def gI(D:List a7)(x:Nat):Nat:=(D.getD (x/64) []).getD (x%64) 0
def mM(D:List a7)(k x:Nat):Nat:=if x/64<k then gI D x else 0
def Tryz.TC:(ZL.info? 292).map (λi=>(i.zero,i.size,i.bytes))=J (J (.agg (YI 4096 (I .u8 0))),4096,4096):=ee
def Tryz.SM:(ZL.info? 292).map (λi=>i.size)=J 4096:=ee
def Dy(w:ZT):(zeroValue 292).run ZL w=.ok (.agg (YI 4096 (I .u8 0))) w:=by obtain⟨c,a,b,_,_⟩:=Uw Tryz.TC;simp[zeroValue,typeInfo,UH,a,b]
def Dz(w:ZT):(w.alloc (Z4 (YI 4096 (I .u8 0)) 292)).rowIs w.heap.size 292 4096 (λ_=>I .u8 0):=by have h:=adf w (YI 4096 (I .u8 0)) 292 (λ_=>I .u8 0) (λi a=>by simp at a;simp[a]);simpa using h
theorem MH{f:Nat->ZS}(h:w.rowIs b t n f):w.heap[b]?=J (Z4 ((YE n).map f).toArray t (0,0)):=by
 obtain⟨c,d,g,e⟩:=h;have:c=((YE n).map f).toArray:=by
  apply Array.ext;.simp[g]
  .intro i a j;have:=e i V;rw[V3 a]at this;simp at this;simp[this]
 rw[<-this];exact d
def F0(C:o.guard=U)(d s:ZM)(ho:o.op=.call {callee:=.builtin .copy,args:=#[d,s],argTypes:=#[36,36]})(g off n cap N t:Nat)(v:ZS)(hd:a.eval d=Z5 (J ⟨g,off,U⟩) n cap)(hs:a.eval s=v)(F:Nat->Nat)(src:a7)(hB:w.rowIs g t N (tv F))(hS:Bs w v src)(h8:src.length<=n)(hn:off+n<=N)(h:∀w',w'.rowIs g t N (tv (λx=>if off<=x/\x<off+src.length then src.getD (x-off) 0 else F x))->ZR g w w'->wpList ZL ops Q rest (a.put o.dst (goInt src.length)) w'):wpList ZL ops Q (o::rest) a w:=by
 obtain⟨ao,c,rfl,K,L,M,A⟩:=hS;refine ac8 C d s 36 36 ho 5 Ur ee (J ⟨g,off,U⟩) ao n cap src.length c hd hs g off _ t (MH hB) (src.map (λx=>Value.int .u8 ((x:Nat):Int))) ?_ ?_ ?_ ?_ g w (TW _ _) lR ?_;.rw[Uf];show src.length=min src.length n;omega
 . intro l;rw[Uf]at l;obtain⟨b,off,rfl,E⟩:=A (by intro e;rw[e]at l;simp at l);refine⟨rfl,_,rfl,λj u k=>?_⟩;have f:j<src.length:=by have:=Vd.1 k;obtain⟨q,_⟩:=this;simpa using q
   rw[Vp,E j f];simp[f]at k;simp[f,k]
 .simp;omega
 .intro u G;obtain⟨x,_,rfl⟩:=T9.1 G;rfl
 . intro w' D B;have H:=D.out;rw[Uf];refine h w' ⟨_,H,?_,λi m=>?_⟩ B;.rw[UK,length_splice _ _ _ ek];simp
   . unfold splice;rw[XE];by_cases p:i<off;.rw[Vz ek];have S:¬(off<=i/\i<off+src.length):=V;simp only[tv,TS S];simp[p,m,tv]
     . rw[U8 ek];have y:(((YE N).map (tv F)).take off).length=off:=ek;rw[y];by_cases r:i<off+src.length;.rw[Vz ek];have J':i-off<src.length:=V;simp[J',tv,r,Wz.1 p]
       .rw[U8 ek];simp only[Uf];rw[Wm];have z:off+src.length+(i-off-src.length)=i:=V;rw[z];simp[m,tv,r]
def LyR(w:ZT)(B:Nat)(D:List a7)(i:ZS)(wr:ZT):Prop:=∃k:Nat,k<=D.length/\i=I O (k:Nat)/\wr.rowIs (B+1) 292 4096 (tv (mM D k))/\wr.rowIs B 292 4096 (λ_=>I .u8 0)/\ZR B w wr
theorem DA(D:List a7)(k:Nat)(f:k<D.length)(hl:(D[k]).length<=64):(λx=>if k*64<=x/\x<k*64+(D[k]).length then(D[k]).getD (x-k*64) 0 else mM D k x)=mM D (k+1):=by
 have b:D.getD k []=D[k]:=by simp[f]
 funext x;unfold mM gI;by_cases h:k*64<=x/\x<k*64+(D[k]).length;.rw[TT h,TT V];have c:x/64=k:=V;have d:x%64=x-k*64:=V;rw[c,b,d]
 . rw[TS h];by_cases a:x/64<k;.rw[TT a,TT V]
   . rw[TS a];by_cases e:x/64=k;.rw[TT V,e,b,Ub,Vn V];rfl
     .rw[TS V]
def F2(D:List a7)(x:Nat):mM D D.length x=gI D x:=by
 unfold mM;by_cases h:x/64<D.length;.rw[TT h]
 .rw[TS h];unfold gI;simp[Vn (Wz.1 h)]
def vv{f:Nat->Nat}(b:cs.size=N)(h:∀j,j<N->cs[j]?=J (tv f j)):cs.all (λv=>v.oneCell')=ZV:=by rw[X4];intro i a;have:=h i V;rw[V3 a]at this;simp at this;rw[this];rfl
theorem PE(B:ZS)(D:List a7)(w:ZT)(y:Rd w B D)(z:tj D):ZQ ZL 178 #[B] w λe w'=>∃cs:Array ZS,e=Z3 (.agg cs)/\cs.size=4096/\(∀j,j<4096->cs[j]?=J (tv (gI D) j))/\bW w w':=by
 have F:=ak z;have W:=z.1;have X:=y;obtain⟨ao,c,rfl,hl,M⟩:=y;have E:=ak M;have Z:=Dy;go_enter func178,ntmps178;go_wp2;go_loopw[8](λi wr=>LyR w w.heap.size D i wr)(λi _=>D.length-(intOf i).toNat);case atStart=>
  refine⟨0,T8 _,rfl,?_,?_,?_⟩
  . have h:=Dz (w.alloc (Z4 (YI 4096 (I .u8 0)) 292));try change ZR _ _ _ at h
    rw[Uh]at h;exact h.congr λj R=>by unfold tv mM;simp
  .exact(Dz w).alloc _
  .exact(bA _ _).alloc G0 _
 case round=>
  rename ZT=>wo;obtain⟨k,V',rfl,p,x,f⟩:=hrel;by_cases a:k<D.length
  . obtain⟨b,off,rfl,O'⟩:=E.o Zr;obtain⟨u,A,L⟩:=O' k a;have K:=L.mono f;have t:=F.o.2 k a;have T:=DA D k a t;have Y:wo.cell? ⟨b,off+k,U⟩=J u:=(by rw[f.cell (Ue A)];exact A);have J':=ak T;generalize D[k]=l at*;go_wp2_with(refine F0 rfl (Z0 15) (Z0 16) rfl (w.heap.size+1) (k*64) 64 64 4096 292 u rfl rfl (mM D k) l p K t V ?_;intro w2 d s);rw[J'.out]at d;have N:=Wc x (s.block w.heap.size V);go_wp2;go_roundw;case rel=>exact⟨k+1,V,eT,d,N,f.trans (s.mono V)⟩
    case measure=>simp[intOf];omega
  . have S:k=D.length:=V;rw[S]at p;have d:=p.congr (g:=tv (gI D)) (λj R=>by unfold tv;rw[F2]);obtain⟨cs,P,n,r⟩:=d;obtain⟨C,U',hx,_⟩:=x;have H:=vv n r;have G:=ak r;have Q:(ZL.info? 292).map (λi=>i.size)=J cs.size:=(by rw[Tryz.SM,n]);have m:=ak Q;have I':=ak P;have q:=ak U';go_wp2_with(first|refine acG rfl 292 (Z0 3) rfl (w.heap.size+1) rfl 292 cs (0,0) _ I'.out underlying292 rfl m.o ?_|refine Wy rfl 292 (Z0 2) (Z0 19) rfl w.heap.size cs rfl rfl 292 C q.o m.o V H ?_);exact Uv (v:=.agg cs) (Wl results178 _ _ w.heap.size 292 cs (0,0) _ rfl (Vw _ _ C cs _ _ q.o) underlying292 rfl m.o) rfl ⟨cs,rfl,n,G.o,below_setRow f lR cs⟩
def rH(G:Nat->Nat)(i:Nat):a7:=(YE 64).map λj=>G (i*64+j)
def mN(G:Nat->Nat)(n:Nat):List a7:=(YE n).map (rH G)
def jk(G:Nat->Nat)(i j:Nat):dP (rH G i) j=if j<64 then G (i*64+j)else 0:=by
 unfold dP rH;by_cases h:j<64;.simp[h]
 .simp[h]
def gJ(G:Nat->Nat)(n:Nat):(mN G n).length=n:=by simp[mN]
def gL(G:Nat->Nat)(n i:Nat)(h:i<(mN G n).length):(mN G n)[i]=rH G i:=by simp[mN]
def vw{G:Nat->Nat}(a:∀x,G x<256)(n:Nat):∀l∈mN G n,∀x∈l,x<256:=by intro l hl x b;obtain⟨i,_,rfl⟩:=T9.1 hl;obtain⟨j,_,rfl⟩:=T9.1 b;exact a _
def DB(G:Nat->Nat)(p r x:Nat):Nat:=if x/64=r then G (p*64+x%64)else if x/64=p then G (r*64+x%64)else G x
theorem Ba{G:Nat->Nat}(a:∀x,G x<256)(p r x:Nat):DB G p r x<256:=by
 unfold DB;split;.exact a _
 .split<;>exact a _
def F3(G:Nat->Nat)(p r i j:Nat)(c:j<64):DB G p r (i*64+j)=if i=r then G (p*64+j)else if i=p then G (r*64+j)else G (i*64+j):=by have a:(i*64+j)/64=i:=V;have b:(i*64+j)%64=j:=V;unfold DB;rw[a,b]
def MI(G:Nat->Nat)(p r c n:Nat):Nat->Nat:=wk (DB G p r) r c (gi (G (p*64+c))) (max n (r+1))
def MK{G:Nat->Nat}(a:∀x,G x<256)(p r c n x:Nat):MI G p r c n x<256:=Q6 (Ba a p r) _ _ _ _
def ML(G:Nat->Nat)(p r c n i j:Nat)(_hc:c<64)(d:j<64)(f:r<i)(e:i<n):MI G p r c n (i*64+j)=if c<=j then DB G p r (i*64+j)^^^gm (gm (DB G p r (i*64+c)) (gi (G (p*64+c)))) (G (p*64+j))else DB G p r (i*64+j):=by
 have a:(i*64+j)/64=i:=V;have b:(i*64+j)%64=j:=V;unfold MI wk;rw[a,b,F3 G p r r j d,TT rfl];by_cases h:c<=j;.rw[TT h,TT V]
 .rw[TS h,TS V]
theorem If{G:Nat->Nat}(d:∀x,G x<256)(b:c<64)(o:p<n)(l:r<=p)(k:G (p*64+c)≠0)(q:∀i,r<=i->i<n->∀j,j<c->G (i*64+j)=0)(g:r<i)(e:i<n):∃f,f<256/\dP (rH (MI G p r c n) i)=cC (dP (rH G (if i=p then r else i))) f (dP (rH G p))/\dP (rH (MI G p r c n) i) c=0:=by
 have m:∀j,j<64->DB G p r (i*64+j)=G ((if i=p then r else i)*64+j):=by intro j a;rw[F3 G p r i j a,TS V];split<;>rfl
 refine⟨gm (DB G p r (i*64+c)) (gi (G (p*64+c))),aV _ (Ba d _ _ _),?_,?_⟩
 . funext j;show dP (rH (MI G p r c n) i) j=dP (rH G (if i=p then r else i)) j^^^gm _ (dP (rH G p) j);rw[jk,jk,jk];by_cases a:j<64
   . rw[TT a,TT a,TT a,ML G p r c n i j b a g e,m j a];by_cases h:c<=j;.rw[TT h]
     .rw[TS h,q p l o j V,bm,UX]
   .rw[TS a,TS a,TS a,bm];exact(UL 0).symm
 .rw[jk,TT b,ML G p r c n i c b b g e,TT lR];exact oQ (Ba d _ _ _) (d _) k
theorem F4{G:Nat->Nat}(a:∀x,G x<256)(g:c<64)(l:p<n)(d:r<=p)(b:G (p*64+c)≠0)(u:∀i,r<=i->i<n->∀j,j<c->G (i*64+j)=0)(t:dw m (m7 (mN (MI G p r c n) n) (r+1)) (c+1) k):dw (m+1) (m7 (mN G n) r) c (k+1):=by
 refine sA (p:=p) (T':=mN (MI G p r c n) n) (vw a n) (vw (MK a p r c n) n) (by rw[gJ,gJ]) d (by rw[gJ];exact l) ?_ ?_ t;.rw[gL,jk,TT g];exact b
 . intro i h q;rw[gJ]at h;obtain⟨f,s,e,o⟩:=If a g l d b u q h;refine⟨f,by rw[gJ];split<;>omega,s,?_,?_⟩;.rw[gL,gL,gL];exact e
   .rw[gL];exact o
structure GI(D:List a7)(c r n:Nat)(G:Nat->Nat):Prop where
 byt:∀x,G x<256rle:r<=n
 zer:∀i,r<=i->i<n->∀j,j<c->G (i*64+j)=0tak:∀k,dw (64-c) (m7 (mN G n) r) c k->oe D (r+k)
def GI.skip{D:List a7}{G:Nat->Nat}(h:GI D c r n G)(f:c<64)(d:∀i,r<=i->i<n->G (i*64+c)=0):GI D (c+1) r n G:={h with
  zer:=λi b a j l=>by
   by_cases e:j=c;.subst e;exact d i b a
   .exact h.zer i b a j V
  tak:=λk g=>by refine h.tak k ?_;have e:64-c=64-(c+1)+1:=V;rw[e];refine uf (λi a b=>?_) g;rw[gL,jk,TT f];rw[gJ]at a;exact d i b a}
theorem GI.Tw{D:List a7}{G:Nat->Nat}(h:GI D c r n G)(b:c<64)(a:r<=p)(d:p<n)(o:G (p*64+c)≠0):GI D (c+1) (r+1) n (MI G p r c n)where
 byt:=MK h.byt p r c n;rle:=V;zer:=λi y v j x=>by
  obtain⟨f,_,e,l⟩:=If h.byt b d a o h.zer (V:r<i) v;by_cases s:j=c;.subst s;rw[jk,TT b]at l;exact l
  .have g:=congrFun e j;have t:=h.zer (if i=p then r else i) adM adM j V;have u:=h.zer p a d j V;rw[jk,TT V]at g;rw[g];show dP (rH G (if i=p then r else i)) j^^^gm f (dP (rH G p) j)=0;generalize(if i=p then r else i)=q at*;have m:j<64:=V;rw[jk,jk,TT m,TT m,t,u,bm];exact UL 0
 tak:=λk w=>by have e:r+1+k=r+(k+1):=V;rw[e];refine h.tak (k+1) ?_;have e:64-c=64-(c+1)+1:=V;rw[e];exact F4 h.byt b d a o h.zer w
def GI.done{D:List a7}{G:Nat->Nat}(h:GI D 64 r n G):oe D r:=h.tak 0 rfl
def JK{D:List a7}(a:∀l∈D,∀x∈l,x<256)(x:Nat):gI D x<256:=by
 unfold gI;by_cases h:x/64<D.length;.have e:D.getD (x/64) []=D[x/64]:=(by simp[h]);rw[e];exact dM (a _ (T7 h)) _
 .have e:D.getD (x/64) []=[]:=(by simp[Vn (Wz.1 h)]);rw[e];simp
theorem GI.start{D:List a7}(g:∀l∈D,∀x∈l,x<256)(h:tj D):GI D 0 0 D.length (gI D)where
 byt:=JK g
 rle:=T8 _;zer:=λ_ _ _ j a=>absurd a (WK _);tak:=λk c=>by rw[Uj];have e:m7 (mN (gI D) D.length) 0=m7 D 0:=yI (by rw[gJ]) (λi n b=>by
   rw[gL];funext j;rw[jk];have m:D.getD i []=D[i]:=adV;by_cases a:j<64;.rw[TT a];have d:(i*64+j)/64=i:=V;have f:(i*64+j)%64=j:=V;unfold gI dP;rw[d,f,m]
   .rw[TS a];have:=h.2 i b;unfold dP;simp[Vn (V:(D[i]).length<=j)]) 0;rw[e]at c;exact c
def F6(w:ZT){ops:Array ZP}{rest:List ZP}{o:ZP}{a:Act}{Q:Exit->Act->ZT->Prop}(h:o.guard=U)(x y:ZM)(ho:o.op=.store 292 x y)(g:Nat)(f:Nat->Nat)(cs old:Array ZS)(l:a.eval x=Z6 (J ⟨g,0,U⟩))(m:a.eval y=.agg cs)(d:w.heap[g]?=J (Z4 old 292 (0,0)))(hold:old.size=4096)(b:cs.size=4096)(c:∀j,j<4096->cs[j]?=J (tv f j))(hK:∀w2,w2.rowIs g 292 4096 (tv f)->w.grownBy w2 (J g)->wpList ZL ops Q rest (a.put o.dst ZY) w2):wpList ZL ops Q (o::rest) a w:=by
 refine Wy h 292 x y ho g cs l m 292 old d (by rw[Tryz.SM,b]) V (vv b c) (hK _ ?_ ?_);.exact⟨cs,Vw w g old cs _ _ d,b,c⟩
 .refine⟨rfl,rfl,rfl,ej,λk n i=>?_⟩;have:g≠k:=λe=>i V2;simp[World.setRow,Vb,this]
theorem lD:∀(a:List ZS)(o:Nat)(w:ZT)(f:Nat->ZS),w.rowIs b t n f->(w.setCells b o a).rowIs b t n (λx=>if o<=x/\x<o+a.length then a.getD (x-o) ZY else f x)|[],o,w,f,h=>h.congr (λi _=>by rw[TS ej])|v::a,o,w,f,h=>(lD a (o+1) _ _ (h.set o v)).congr (λi _=>by
  by_cases c:o+1<=i/\i<o+1+a.length;.have e:i-o=(i-(o+1))+1:=V;rw[TT c,TT ek,e];simp
  . rw[TS c];by_cases d:i=o;.subst d;rw[TT rfl,TT ej];simp
    .rw[TS d,TS ek])
def jl:∀(a:List ZS)(o:Nat)(w w':ZT),w.grownBy w' (J b)->w.grownBy (w'.setCells b o a) (J b)|[],_,_,_,h=>h|v::a,o,w,_,h=>jl a (o+1) w _ (fq h o v)
def zM(G:Nat->Nat)(i:Nat):List ZS:=(YE 64).map λj=>tv G (i*64+j)
def pN(G:Nat->Nat)(i:Nat):(zM G i).length=64:=by simp[zM]
def DC(G:Nat->Nat)(i j:Nat)(h:j<64):(zM G i).getD j ZY=tv G (i*64+j):=by simp[zM,h]
def zN{G:Nat->Nat}(h:w.rowIs b t 4096 (tv G)){i:Nat}(d:i<64):w.rangeAt b (i*64) (zM G i):=by
 intro j v a;have c:j<64:=by obtain⟨q,_⟩:=Vd.1 a;rwa[pN]at q
 simp[zM,c]at a;rw[h.cell V,a]
def zO{f:Nat->ZS}(h:w.rowIs b t 4096 f){i n:Nat}(a:i<64)(d:n<=64):w.there b (i*64) n:=λj c=>by rw[h.cell V];exact⟨rfl,h.frozen _⟩
def Ig(G:Nat->Nat)(i:Nat):(zM G i).toArray.all (λv=>v.oneCell')=ZV:=by rw[X4];intro j a;simp[zM,tv];rfl
theorem aaQ{G:Nat->Nat}(h:w.rowIs b t 4096 (tv G))(p r:Nat):((w.setCells b (r*64) (zM G p)).setCells b (p*64) (zM G r)).rowIs b t 4096 (tv (DB G p r)):=by
 refine(lD (zM G r) (p*64) _ _ (lD (zM G p) (r*64) _ _ h)).congr (λx _=>?_);rw[pN,pN];by_cases e:p*64<=x/\x<p*64+64
 . have a:x/64=p:=V;have c:x-p*64=x%64:=V;rw[TT e,c,DC _ _ _ V];unfold tv DB;rw[a];by_cases d:p=r;.rw[TT d,d]
   .rw[TS d,TT rfl]
 . rw[TS e];by_cases f:r*64<=x/\x<r*64+64;.have a:x/64=r:=V;have c:x-r*64=x%64:=V;rw[TT f,c,DC _ _ _ V];unfold tv DB;rw[TT a]
   .rw[TS f];unfold tv DB;rw[TS V,TS V]
def GpR(G:Nat->Nat)(r c n:Nat)(rv iv:ZS):Prop:=∃k:Nat,r<=k/\k<=n/\rv=I O (r:Nat)/\iv=I O (k:Nat)/\∀i,r<=i->i<k->G (i*64+c)=0
def GcR(w:ZT)(b:Nat)(D:List a7)(rv cv:ZS)(wr:ZT):Prop:=∃(r c:Nat)(G:Nat->Nat),c<=64/\rv=I O (r:Nat)/\cv=I O (c:Nat)/\GI D c r D.length G/\wr.rowIs b 292 4096 (tv G)/\bW w wr
theorem MM(O':ZS)(D:List a7)(w:ZT)(J':Rd w O' D)(U':∀l∈D,∀x∈l,x<256):ZQ ZL 149 #[O'] w λe w'=>L5 D w e w':=by
 have t:=ak J';have ks:=Dy;obtain⟨ao,c,rfl,hl,hc⟩:=J';by_cases C:tj D
 . have X:=C.1;have j:=ak C;go_enter func149,ntmps149;go_wp2;go_step3;go_wp2_with(first|(go_at_call 177;refine(Dw _ D _ t.o).mono ?_;rintro e P⟨d,_,rfl⟩;obtain rfl:=d j.o)|(go_at_call 178;refine(PE _ D _ t.o j.o).mono ?_;rintro e H⟨cs,rfl,ko,W,f⟩)|(refine F6 _ rfl (Z0 3) (Z0 11) rfl H.heap.size (gI D) cs _ rfl rfl (UD H _) ej ko W ?_;intro wb k6 ke));have k9:bW P wb:=gX (f.alloc f.size _) ke (by rw[Uh];have:=f.size;omega) f.size;have k5:=GI.start U' j.o;have ka:=f.size;have Z:=ak k5;generalize H.heap.size=gb at*;go_step3;go_wp2;go_loopw[4,12](λrv v wr=>GcR P gb D rv v wr)(λ_ v _=>64-(intOf v).toNat);case atStart=>exact⟨0,0,gI D,V,rfl,rfl,Z.out,k6,k9⟩
   case round=>
    rename ZT=>wo;obtain⟨r,a,G,kb,rfl,rfl,n,T,M⟩:=hrel;have kj:=n.rle;by_cases q:a<64
    . have B:=ak n;have u:=ak T;have A:=ak M;go_wp2;go_loop[4,6](λrv F=>GpR G r a D.length rv F)(λ_ F=>D.length-(intOf F).toNat);case atStart=>exact⟨r,TV _,kj,rfl,rfl,λi d k=>absurd d V⟩
      case round=>
       obtain⟨p,kk,kr,rfl,rfl,N⟩:=hrel;by_cases ki:p<D.length
       . have S:wo.cell? ⟨gb,p*64+a,U⟩=J (I .u8 ((G (p*64+a):Nat):Int)):=u.o.cell V;have k0:=ak N;by_cases E:G (p*64+a)=0
         . rw[E]at S;have R:=ak E;go_wp2;go_round;case rel=>
            refine⟨p+1,V,V,rfl,eT,λi d k=>?_⟩;by_cases e:i=p;.subst e;exact R.o
            .exact k0.out i d V
           case measure=>simp[intOf];omega
         . have t0:(((G (p*64+a):Nat):Int)==0)=ZU:=vy;have hs:=ak (B.out.Tw q kk ki E);have L:wo.drew.rowIs gb 292 4096 (tv G):=u.o;have kg:DB G p r (r*64+a)=G (p*64+a):=(by rw[F3 G p r r a q,TT rfl]);have V':=ak kg;have Y:=ak (Ba B.out.byt p r);have y:p<64:=V;have z:r<64:=V;obtain⟨s,kp,km,kh⟩:∃s,(wo.drew.setCells gb (r*64) (zM G p)).setCells gb (p*64) (zM G r)=s/\s.rowIs gb 292 4096 (tv (DB G p r))/\wo.drew.grownBy s (J gb):=⟨_,rfl,aaQ L p r,jl (b:=gb) (zM G r) (p*64) wo.drew _ (jl (b:=gb) (zM G p) (r*64) wo.drew wo.drew (Wx _ _))⟩;have hy:=ak km;have hv:=ak kh;have hz:=ak kp;have m:=ak L;go_wp2;refine L7 gb p r (zM G p) (zM G r) ee (λ_ _ _ _ _ h=>h) rfl y z rfl rfl rfl (pN _ _) (pN _ _) (Ig _ _) (Ig _ _) (zN m.out y) (zN m.out z) (zO m.out z lR) (zO m.out y lR) ?_;rw[hz.out];unfold L6;generalize(zM G p).toArray=cp;generalize(zM G r).toArray=cr;go_wp2_with(go_at_call 179;refine(Dx gb r a D.length (DB G p r) _ Y.out hy.out V q X).mono ?_;rintro e w2⟨rfl,K,kf⟩);have k7:w2.rowIs gb 292 4096 (tv (MI G p r a D.length)):=by rw[V'.out]at K;exact K
           have g:=gW hv.out kf;have k8:=gX A.out (w:=wo) ⟨g.os,g.tape,g.output,g.size,g.block⟩ A.out.size ka;go_wp2;go_roundw;case rel=>exact⟨r+1,a+1,MI G p r a D.length,V,eT,eT,hs.out,k7,k8⟩
           case measure=>simp[intOf];omega
       . have hx:=ak (B.out.skip q (λi d k=>N i d V));go_wp2;go_roundw;case rel=>exact⟨r,a+1,G,V,rfl,eT,hx.out,u.o,A.out⟩
         case measure=>simp[intOf];omega
    . have kc:a=64:=V;rw[kc]at n;have Q:=ak n.done;go_wp2;try rw[Exit.noGoto_ret]
      go_ret;exact⟨λ_=>⟨r,V,rfl,Q.o⟩,λh=>absurd j.o h,M⟩
 . have I':=ak C;go_enter func149,ntmps149;go_wp2;go_step3;go_wp2_with(go_at_call 177;refine(Dw _ D _ t.o).mono ?_;rintro e w'⟨_,k,rfl⟩;obtain rfl:=k I'.o);try rw[Exit.noGoto_ret]
   go_ret;exact⟨λh=>absurd h I'.o,λ_=>rfl,TW _ _⟩
def eS.rdH{M:List a7}(h:eS w B v T)(c:dj T D M)(k:∀r∈M,r.length=D)(hl:M.length<=100000):Rd w v M:=by
 have a:T.length=M.length:=ua (Uy YJ c);obtain⟨ao,cap,rfl,f⟩:=h.slice;refine⟨ao,cap,by rw[a],V,λm=>?_⟩;obtain⟨g,rfl⟩:=f (by intro e;rw[e]at a;exact m (U2 a.symm));refine⟨g,0,rfl,λi d=>?_⟩;have b:i<T.length:=V;refine⟨fV T[i],by rw[Uj];exact h.So b,?_⟩;have:=h.S7 b;have j:T[i].2=(D,M[i]):=by have:=Uy (λl=>l[i]?) c;simpa[b,d]using this
 rw[j]at this;have e:(M[i]).take D=M[i]:=by rw[<-k _ (T7 d),VE]
 rw[e]at this;exact this
def Rd.byte{D:List a7}(h:Rd w v D):∀l∈D,∀x∈l,x<256:=by
 rcases h.cases with⟨rfl,_⟩|⟨b,off,c,rfl,_,a⟩;.intro l hl;simp at hl
 .intro l hl;obtain⟨i,d,rfl⟩:=Xz.1 hl;obtain⟨u,_,e⟩:=a i d;exact e.lt
def cP(D L G:Nat):(aQ D L G).length=D+L+G:=by simp[aQ];omega
def lE(D L G:Nat):∀r∈aQ D L G,r.length=D:=by
 intro r a;simp only[aQ,Ui,T9,Ul]at a;rcases a with(⟨i,_,rfl⟩|⟨i,_,rfl⟩)|⟨i,_,rfl⟩;.simp[dB]
 .simp[dh]
 .simp[bQ]
theorem mO(D L G:Nat)(c:D<=12)(d:G<=4):∀r∈aQ D L G,∀x∈r,x<256:=by
 intro r b x a;simp only[aQ,Ui,T9,Ul]at b;rcases b with(⟨i,_,rfl⟩|⟨i,_,rfl⟩)|⟨i,e,rfl⟩
 . rcases X7 a with h|h;.have:=VG h;omega
   .omega
 .simp only[dh,T9]at a;obtain⟨j,_,rfl⟩:=a;split<;>decide
 .simp only[bQ,T9,Ul]at a;obtain⟨j,f,rfl⟩:=a;exact dH (ld V V)
def dZ(D L G lost:Nat):Prop:=l9 (m7 (cA (aQ D L G) lost (D+L+G)) 0) 0 D
def DD(b:D<=12)(c:G<=4)(h:oe (cA (aQ D L G) lost (D+L+G)) k):k=D↔dZ D L G lost:=by have a:=py (aQ D L G) lost (D+L+G) Zc;exact IZ (λl hl=>mO D L G b c l (a l hl)) (λl hl=>by rw[lE D L G l (a l hl)];omega) V h
def DE(D L G lost:Nat)(b:D<=12)(d:L<=4)(c:G<=4):tj (cA (aQ D L G) lost (D+L+G)):=by refine⟨TU (kt _ _ _) V,λi a=>?_⟩;rw[lE D L G _ (py (aQ D L G) lost (D+L+G) Zc _ (T7 a))];omega
def MN(D L G lost:Nat)(w:ZT)(e:Ending)(w':ZT):Prop:=∃b:Bool,e=Z3 (Z1 b)/\(b=ZV↔dZ D L G lost)/\bW w w'
theorem lX(D L G lost:Nat)(E:dA D L G=ZV)(h:D<=12)(u:1<=L)(n:L<=4)(i:G<=4)(s:D%L=0)(hl:lost<18446744073709551616)(w:ZT):ZQ ZL 112 #[.agg #[I O D,I O L,I O G],I Z8 lost] w λe w'=>MN D L G lost w e w':=by
 go_enter func112,ntmps112;go_wp2_with fail;refine(lx D L G E h u n i s _).mono ?_;rintro e w1⟨v,T,rfl,j,t,c⟩;try change ZR _ _ _ at j
 try change ZR _ _ _ at c
 rw[Uh]at j c;have p:=c.size;try change ZR _ _ _ at p
 rw[Uh]at p;obtain⟨l,J',K⟩:=du c;have B:=j.rdH t (lE D L G) Zc;have r:bW w w1:=(bA _ _).trans (c.mono V);have z:=ak B;have y:=ak r;go_wp2;go_region_held(λw'=>w'.cell? ⟨w.heap.size,0,U⟩=J (I O (D:Nat)))(first|assumption|exact l)(first| (go_at_call 150;refine(LZ _ (aQ D L G) lost _ (show Rd w1.drew _ _ from z.out) hl Zc).mono ?_;rintro e w2⟨M,rfl,f⟩;rw[cP]at f;have d:w2.cell? ⟨w.heap.size,0,U⟩=J (I O (D:Nat)):=(by rw[f.choose_spec.2.2.2.cell (Ue l)];exact l);have g:=ak f;clear f)| (go_at_call 149;refine(MM _ _ _ (g.out.rd (TU (kt _ _ _) V)) (g.out.rd (TU (kt _ _ _) V)).byte).mono ?_;rintro e H⟨m,_,b⟩;obtain⟨k,S,rfl,o⟩:=m (DE D L G lost h n i);have F:H.cell? ⟨w.heap.size,0,U⟩=J (I O (D:Nat)):=(by rw[b.cell (Ue d)];exact d);have A:=ak o;have x:=ak b;clear m o b));go_wp2;go_ret;have a:=g.out.choose_spec.2.2.2;have b:=x.out;have C:=a.size;change w1.heap.size<=_ at C;have q:bW w w2:=y.out.trans ((show bW w1 w2 from⟨a.os,a.tape,a.output,a.size,a.block⟩).mono V);refine⟨((k:Int)==(D:Int)),rfl,?_,q.trans (b.mono V)⟩;rw[<-DD h i A.out];simp;omega
theorem tR(lost k:Nat)(hl:lost<18446744073709551616)(b:k<=64)(w:ZT):ZQ ZL 12 #[I Z8 lost,I O k] w λe w'=>e=Z3 (Z1 (((lost/2^k%2:Nat):Int)==1))/\w'=w:=by have a:=Ht lost k hl;go_enter func12,ntmps12;go_wp2;go_ret;exact⟨rfl,rfl⟩
theorem kI(D L G lost:Nat)(hr:dA D L G=ZV)(p:D<=12)(hL:1<=L)(F:L<=4)(r:G<=4)(h8:D%L=0)(hl:lost<18446744073709551616)(w:ZT):ZQ ZL 11 #[.agg #[I O D,I O L,I O G],I Z8 lost] w λe w'=>MN D L G lost w e w':=by
 obtain⟨i0,kb,kh,ki,kj⟩:=Uw Tryz.RX;go_enter func11,ntmps11;go_wp2_with fail;refine(xY D L G hr p hL F r h8 _).mono ?_;rintro e w1⟨v,T,rfl,s,hH,d⟩;try change ZR _ _ _ at s
 try change ZR _ _ _ at d
 rw[Uh]at s d;have R:=d.size;try change ZR _ _ _ at R
 rw[Uh]at R;obtain⟨S,p1,p2⟩:=du d;have Q:=s.rdH hH (lE D L G) Zc;have h7:bW w w1:=(bA _ _).trans (d.mono V);have hy:=ak h7;have N:=cP D L G;have ke:(aQ D L G).length<=64:=V;have E:=ak (λk=>DD (lost:=lost) (L:=L) (k:=k) p r);have C:=ak (DE D L G lost p F r);rw[<-N]at E C;have k8:=ak N;generalize aQ D L G=M at*;rcases Q.cases with⟨rfl,ao,c,rfl⟩|⟨b,off,c,rfl,_,hc⟩;.exfalso;have:=k8.out;simp at this;omega
 . clear Q;go_wp2;go_loopw[7,8](λv i wr=>KpR w1 M lost v i wr)(λ_ i _=>M.length-(intOf i).toNat);case atStart=>exact⟨0,T8 _,rfl,Rl.nil _⟩
   case round=>
    rename ZT=>wo;obtain⟨k,hk,rfl,a⟩:=hrel;have g:wo.cell? ⟨w.heap.size,0,U⟩=J (I O (D:Nat)):=(by rw[a.choose_spec.2.2.2.cell (Ue S)];exact S);by_cases K:k<M.length
    . obtain⟨u,P,B⟩:=hc k K;have ko:wo.cell? ⟨b,off+k,U⟩=J u:=(by rw[a.choose_spec.2.2.2.cell (Ue P)];exact P);obtain⟨W,X,rfl,_⟩:=id B;have U':=ak (kt M lost k);have y:=ak B;have h9:M.getD k []=M[k]:=(by simp[K]);have k0:=ak h9;by_cases x:lost/2^k%2=0
      . have m:=ak (show(((lost/2^k%2:Nat):Int)==1)=ZU by rw[x];rfl);have k5:=ak (Hs M lost k x);obtain⟨xs,z,hX,A,J'⟩:=a;have V':=ak hX;have k7:=ak z;have kp:xs.length<=64:=(by rw[z];exact TU U'.o V);have hs:=J'.size;go_wp2_with(first|(go_at_call 12;refine(tR lost k hl V _).mono ?_;rintro e w'⟨rfl,f⟩;have t:=f.symm;clear f;subst t;rw[m.o])|(at_builtin;refine WH _ rfl (Z0 29) (Z0 34) 84 rfl w1.heap.size 36 i0 (Z5 U 0 0) 1 24 VP kb kh ki kj rfl ec _ xs.length xs rfl (az A (bA _ _)) ⟨wo.heap.size,0,U⟩ 1 1 [.slice W (M[k]).length X] rfl rfl (nh _ _ rfl _ _) (by intro q O';simp at O';rw[O'];exact y.o.one) eD V G0 ?_;intro v' w2 Z Y kk));have H:=Rl.push k7.out V'.o A J' rfl y.o Y Z;rw[<-k0.out,<-k5.out]at H;go_wp2;go_roundw;case rel=>exact⟨k+1,V,eT,H⟩
        case measure=>simp[intOf];omega
      . have n:lost/2^k%2=1:=V;have m:=ak (show(((lost/2^k%2:Nat):Int)==1)=ZV by rw[n];rfl);have k6:=ak (CT M lost k x);have l:=ak a;go_wp2_with(go_at_call 12;refine(tR lost k hl V _).mono ?_;rintro e w'⟨rfl,f⟩;have t:=f.symm;clear f;subst t;rw[m.o]);go_roundw;case rel=>exact⟨k+1,V,eT,by rw[k6.out];exact l.o⟩
        case measure=>simp[intOf];omega
    .have kc:k=M.length:=V;rw[kc]at a;have l:=ak a;have k9:=ak (a.rd (TU (kt _ _ _) V));go_wp2_with fail;refine(Jh _ _ _ k9.out).mono ?_;rintro e w3⟨n,_,h⟩;obtain⟨j,hj,rfl,kf⟩:=n C.out;have hb:w3.cell? ⟨w.heap.size,0,U⟩=J (I O (D:Nat)):=(by rw[h.cell (Ue g)];exact g);have ka:=ak kf;have hx:=ak h;go_wp2;go_ret;have I':=l.o.choose_spec.2.2.2;have h:=hx.out;have km:=I'.size;refine⟨((j:Int)==(D:Int)),rfl,?_,(hy.out.trans (I'.mono V)).trans (h.mono V)⟩;rw[<-E.out _ ka.out];simp;omega
def rI(w:ZT)(t u q e:ZO)(k:IntKind)(i:TypeInfo)(z:ZS)(l:P.underlying t=J (.slice e))(m:P.underlying u=J (.int k))(g:P.info? e=J i)(p:i.zero=J z)(f:i.bytes=1)(j:i.size=1)(n:Nat)(a:0<n)(r:n<=1000000):(Builtin.append_ #[t,u] q #[Z5 U 0 0,I O n]).run P w=.ok (Z5 (J ⟨w.heap.size,0,U⟩) n (grownCap w n 0 e)) (w.drew.alloc (Z4 (Builtin.zeroCells z.cells n++Builtin.zeroCells z.cells (grownCap w n 0 e-n)) e)):=by
 have h:n≠0:=V;have d:¬(9223372036854775807<(n:Int)):=V;have o:IntKind.i64.wrap (n:Int)=n:=l7;have hl:¬((n:Int)<0):=V;have c:¬(281474976710656<Builtin.nextslicecap n 0):=by rw[nextslicecap_zero a];omega
 have b:¬(281474976710656<(n:Int)):=V;simp[Builtin.append_,UP l,UP m,sizeOf,typeInfo,zeroValue,g,p,f,j,h,d,c,b,o,hl,Question.forced,run_firstCells_none,newRow,grownCap,asInt,asIntOf]
def Tryz.R8:(ZL.info? 5).map (λi=>(i.zero,i.size,i.bytes))=J (J (I .u8 0),1,1):=ee
def JL(w:ZT)(n c:Nat)(b:n<=c)(a:c<=maxLen):(w.drew.alloc (Z4 (Builtin.zeroCells (Value.cells (I .u8 0)) n++Builtin.zeroCells (Value.cells (I .u8 0)) (c-n)) 5)).ownsRow w.heap.size 5 1 (Z5 (J ⟨w.heap.size,0,U⟩) 0 c) 0 []:=by refine⟨rfl,.inr ⟨w.heap.size,c,_,rfl,TV _,Ug w.drew _,T8 _,a,?_,ej⟩⟩;simp[Builtin.zeroCells,Value.cells];omega
def Bb(w w':ZT){ops:Array ZP}{rest:List ZP}{o:ZP}{a:Act}{Q:Exit->Act->ZT->Prop}(b:o.guard=U)(s x:ZM)(t tx:ZO)(ho:o.op=.call {callee:=.builtin .append,args:=#[s,x],argTypes:=#[t,tx]})(v u v':ZS)(hv:a.eval s=v)(hu:a.eval x=u)(hr:∀c,(Builtin.append_ #[t,tx] c #[v,u]).run P w=.ok v' w')(h:wpList P ops Q rest (a.put o.dst v') w'):wpList P ops Q (o::rest) a w:=by refine VZ b λK hK=>?_;unfold Oper.wp execOp;simp only[ho,resolve,invoke,builtin,UH,VN,UV,acQ,U5,Wi,hv,hu,hr];exact hK _ _ h
theorem MP(n:Nat)(r:n<=1000000)(w:ZT):ZQ ZL 162 #[Z5 U 0 0,I O n] w λe w'=>∃v,e=Z3 v/\w'.ownsRow w.heap.size 5 1 v 0 []/\bW w w':=by
 obtain⟨s,j,m,p,q⟩:=Uw Tryz.R8;by_cases h:0<n;.have a:=λt=>rI (P:=ZL) w 36 3 t 5 .i64 s (I .u8 0) Ur Wp j m q p n h r;have d:n<=grownCap w n 0 5:=acM w n 0 5;have f:grownCap w n 0 5<=maxLen:=acN w n 0 5 eD;have c:=JL w n (grownCap w n 0 5) d f;have b:bW w (w.drew.alloc (Z4 (Builtin.zeroCells (Value.cells (I .u8 0)) n++Builtin.zeroCells (Value.cells (I .u8 0)) (grownCap w n 0 5-n)) 5)):=(TW _ w).drew.alloc lR _;obtain⟨cp,i⟩:=nM (grownCap w n 0 5);rw[i]at a d f c b;obtain⟨w2,l⟩:=nM (w.drew.alloc (Z4 (Builtin.zeroCells (Value.cells (I .u8 0)) n++Builtin.zeroCells (Value.cells (I .u8 0)) (cp-n)) 5));rw[l]at a c b;have H:=al c b;have g:=ak a;go_enter func162,ntmps162;go_wp2_with(show wpList _ _ _ ({dst:=J 22,op:=_,type:=_,pos:=_,after:=_,guard:=_}::_) _ _;refine Bb w w2 rfl (Z0 20) (Z0 21) 36 3 rfl (Z5 U 0 0) (I O n) (Z5 (J ⟨w.heap.size,0,U⟩) n cp) rfl rfl (by exact g.o) ?_);go_ret;exact⟨_,rfl,H.o.1,H.o.2⟩
 .have k:n=0:=V;subst k;go_enter func162,ntmps162;go_wp2;go_ret;exact⟨_,rfl,UQ _ _ _ _,TW _ _⟩
def eO{size:Nat}{xs:List ZS}(h:w.ownsRow base e size v n xs){k:Nat}(a:v.ownBlock=J k):base<=k:=by
 rcases h.2 with⟨c,_⟩|⟨g,cap,cur,b,d,_⟩;.rw[c]at a;simp[Value.ownBlock]at a
 .rw[b]at a;simp[Value.ownBlock]at a;omega
def CcR(w:ZT)(K:Nat)(s i:ZS)(wr:ZT):Prop:=∃k:Nat,k<=K/\i=I O k/\s=I O ((44*k:Nat):Int)/\wr=w
def CdR(w:ZT)(R:List a7)(v i:ZS)(wr:ZT):Prop:=∃k:Nat,k<=R.length/\i=I O k/\wr.ownsRow w.heap.size 5 1 v (44*k) (aL (R.take k).flatten)/\bW w wr
theorem JM{R:List a7}(N:O0 w base g R)(W:R.length<=1000):ZQ ZL 133 #[Z5 (J ⟨g,0,U⟩) R.length c] w λe w'=>∃v,e=Z3 v/\w'.ownsRow w.heap.size 5 1 v (44*R.length) (aL R.flatten)/\bW w w':=by
 obtain⟨i0,V',hx,hy,hz⟩:=Uw Tryz.R8;obtain⟨K,hK⟩:=nM (R.length);obtain⟨_,U',L⟩:=N;have d:=al L hK;rw[hK]at W⊢;go_enter func133,ntmps133;go_wp2_with fail;go_loopw[3,11](λs i wr=>CcR w K s i wr)(λ_ i _=>K-(intOf i).toNat);case atStart=>exact⟨0,T8 _,rfl,rfl,rfl⟩
 case round=>
  obtain⟨k,k6,rfl,rfl,hv⟩:=hrel;obtain rfl:w=wr:=hv.symm;by_cases r:k<K;.obtain⟨b,off,l,c1,Q,B,C,D,S⟩:=d.o.1 k (by rw[d.o.2];exact r);have n:((44*k:Nat):Int)+44=((44*(k+1):Nat):Int):=V;have O':44*(k+1)<=44000:=V;obtain⟨M,m⟩:=nM (44*k);obtain⟨M',p⟩:=nM (44*(k+1));rw[m,p]at n;rw[p]at O';rw[m];go_wp2;refine⟨⟨k+1,V,eT,by rw[p],rfl⟩,iE⟩
  . have Z:k=K:=V;subst Z;obtain⟨M,m⟩:=nM (44*k);have k0:M<=44000:=V;rw[m];go_wp2_with fail;refine(MP M V w).mono ?_;rintro e w1⟨v,rfl,f,a⟩;have z:=al f a;go_wp2_with fail;go_loopw[6,27](λv i y=>CdR w R v i y)(λ_ i _=>k-(intOf i).toNat);case atStart=>exact⟨0,T8 _,rfl,z.o.1,z.o.2⟩
    case round=>
     obtain⟨j,X,rfl,f,a⟩:=hrel;rw[d.o.2]at X;by_cases r:j<k
     . have E:j<R.length:=(by rw[d.o.2];exact r);obtain⟨b,off,l,c1,Q,B,C,D,S⟩:=d.o.1 j E;have I':wr.cell? ⟨g,j,U⟩=J (Z5 (J ⟨b,off,U⟩) 44 l):=(Uk (a.block g U')).trans c1;have A:Src ZL 1 36 (Z5 (J ⟨b,off,U⟩) 44 l) 44 (aL R[j]) wr:=Vm wr Ur ⟨b,off,U⟩ 44 l (aL R[j]) (by rw[aY,D]) (λq u hq=>by have F:wr.cell? ⟨b,off+q,U⟩=J u:=(Uk (a.block b B)).trans (C q u hq);unfold Addr.add;split<;>first|exact F|(rename_i J';subst J';exact F)) (λu hu=>by obtain⟨x,_,rfl⟩:=T9.1 hu;rfl);have h:aL (R.take (j+1)).flatten=aL (R.take j).flatten++aL R[j]:=by rw[Vl,Ud E,adl,adt,bT];simp
       obtain⟨t,hs⟩:=nM (aL R[j]);obtain⟨rt,hr⟩:=nM (aL (R.take j).flatten);rw[hs]at A h;rw[hr]at f h;have G:=a.size;have H:=aE f a A h;have k5:44*j+44<=44000:=V;go_wp2_with(show wpList _ _ _ ({dst:=J 33,op:=_,type:=_,pos:=_,after:=_,guard:=_}::_) _ _;refine af _ rfl (Z0 31) (Z0 32) 36 36 rfl w.heap.size 5 i0 (I .u8 0) 1 1 Ur V' hx hy hz rfl _ (44*j) rt um ZE _ um 44 t (by exact H.o.2.2.1) eD V (by exact G) ?_;intro v' w3 P T _);obtain⟨f,a,_,h⟩:=H.o;refine⟨⟨j+1,by rw[d.o.2];omega,eT,?_,a.grown T G λq e=>eO f e⟩,iE⟩;rw[h,(V:44*(j+1)=44*j+44)];exact P
     .have Y:j=k:=V;subst Y;have H:=al f a;go_wp2;go_ret;refine⟨_,rfl,?_,H.o.2⟩;have:=H.o.1;rw[UM (by rw[d.o.2];exact TV _)]at this;exact this
def bu{size:Nat}{xs:List ZS}(h:w.ownsRow base e size v n xs):∃d f,v=.slice d n f:=by
 rcases h.2 with⟨b,c⟩|⟨g,cap,cur,a,_⟩;.exact⟨U,0,by rw[b,c]⟩
 .exact⟨_,_,a⟩
def bJ{size:Nat}{xs:List ZS}(h:w.ownsRow base e size v n xs){k:Nat}(a:v.ownBlock=J k):∃cur,w.heap[k]?=J (Z4 cur e (0,0)):=by
 rcases h.2 with⟨d,_⟩|⟨g,cap,cur,b,_,c,_⟩;.rw[d]at a;simp[Value.ownBlock]at a
 .rw[b]at a;simp[Value.ownBlock]at a;subst a;exact⟨cur,c⟩
def bN{t:ZO}{size:Nat}{xs:List ZS}(h:w.ownsRow base e size v n xs){k:Nat}{cs:Array ZS}(c:w.heap[k]?=J (Z4 cs t (0,0)))(b:e≠t):v.ownBlock≠J k:=by intro q;obtain⟨cur,a⟩:=bJ h q;rw[c]at a;injection a with a;injection a with h1 h2;exact b h2.symm
def cD{size:Nat}{xs:List ZS}{S:Nat->Prop}(h:w.ownsRow base e size v n xs)(f:aa S w w')(i:∀k,v.ownBlock=J k->¬S k):w'.ownsRow base e size v n xs:=by
 refine⟨h.1,?_⟩;rcases h.2 with d|⟨g,cap,cur,a,c,b,r⟩;.exact .inl d
 .exact .inr ⟨g,cap,cur,a,c,(f.block g (TX.1 b).1 (i g T2)).trans b,r⟩
def JN{size:Nat}{xs:List ZS}(h:w.ownsRow base e size v n xs)(f:∀k,v.ownBlock=J k->w'.heap[k]?=w.heap[k]?):w'.ownsRow base e size v n xs:=by
 refine⟨h.1,?_⟩;rcases h.2 with d|⟨g,cap,cur,a,b,c,r⟩;.exact .inl d
 .exact .inr ⟨g,cap,cur,a,b,(f g T2).trans c,r⟩
def aaR{size:Nat}{xs:List ZS}(h:w.ownsRow base e size v n xs){k:Nat}(b:v.ownBlock=J k):k<w.heap.size:=by obtain⟨cur,a⟩:=bJ h b;exact(TX.1 a).1
def Ih(nb:Nat):∀(l:a7)(s:(Nat->Bool)×Bool),(∀x∈l,2<=x/\x<nb/\s.1 x=ZU)->l.Nodup->(l.foldl (jV nb) s).2=s.2/\∀x,(l.foldl (jV nb) s).1 x=(s.1 x||decide (x∈l))
 |[],s,_,_=>⟨rfl,λx=>ej⟩|y::l,s,h,m=>by
  obtain⟨p,r,g⟩:=h y (UG ..);obtain⟨i,k⟩:=UO.1 m;have e:jV nb s y=(λj=>if j=y then ZV else s.1 j,s.2):=by unfold jV;rw[TS (λq=>by rcases q with q|q|q;omega;omega;rw[g]at q;cases q)]
  rw[Xc,e];obtain⟨n,o⟩:=Ih nb l (λj=>if j=y then ZV else s.1 j,s.2) (λx f=>by obtain⟨a,b,c⟩:=h x (Uo _ f);have d:¬x=y:=λq=>i (by rw[<-q];exact f);exact⟨a,b,by show(if x=y then ZV else s.1 x)=ZU;rw[TS d];exact c⟩) k;refine⟨n,λx=>?_⟩;rw[o];show((if x=y then ZV else s.1 x)||decide (x∈l))=(s.1 x||decide (x∈y::l));by_cases d:x=y;.subst d;simp
  .rw[TS d];simp[d]
def MQ(e:l.Nodup)(a:∀x∈l,2<=x/\x<nb):(tk nb l).2=ZV/\∀x,(tk nb l).1 x=decide (x∈l):=by obtain⟨c,d⟩:=Ih nb l (λ_=>ZU,ZV) (λx b=>⟨(a x b).1,(a x b).2,rfl⟩) e;exact⟨c,λx=>by rw[show(tk nb l).1 x=_ from d x];rfl⟩
def rJ{T:Nat->Bool}{x:Nat}:x∈bf T k↔x<k/\2<=x/\T x=ZU:=by unfold bf;rw[Vr,Ul];simp
def sN(T:Nat->Bool)(k:Nat):(bf T k).Nodup:=(X8).filter _
def jC(e:l.Nodup)(d:∀x∈l,2<=x/\x<nb){x:Nat}(f:x∈bf (tk nb l).1 nb):(2<=x/\x<nb)/\x∉l:=by obtain⟨b,c,a⟩:=rJ.1 f;rw[(MQ e d).2]at a;exact⟨⟨c,b⟩,of_decide_eq_false a⟩
def oH(b:l.Nodup)(a:∀x∈l,2<=x/\x<nb)(c:Nat):(((bf (tk nb l).1 nb).take c)++l).Nodup/\∀x∈((bf (tk nb l).1 nb).take c)++l,2<=x/\x<nb:=by
 refine⟨U3.2 ⟨(sN _ _).sublist (List.take_sublist _ _),b,λx d y f e=>?_⟩,λx d=>?_⟩;.subst e;exact(jC b a (US d)).2 f
 . rcases Ui.1 d with h|h;.exact(jC b a (US h)).1
   .exact a x h
theorem mP(c:l.Nodup)(a:∀x∈l,2<=x/\x<nb):(bf (tk nb l).1 nb).length+l.length+2=max 2 nb:=by
 by_cases m:2<=nb
 . have k:((bf (tk nb l).1 nb)++l++[0,1]).Perm (YE nb):=by
    refine(List.perm_ext_iff_of_nodup ?_ X8).2 λx=>?_
    . refine U3.2 ⟨U3.2 ⟨sN _ _,c,λx b y d e=>?_⟩,ec,λx b y d e=>?_⟩;.subst e;exact(jC c a b).2 d
      . subst e;have g:2<=x:=by
         rcases Ui.1 b with h|h;.exact(jC c a h).1.1
         .exact(a x h).1
        simp at d;omega
    . rw[Ul,Ui,Ui,rJ];constructor
      . rintro((h|h)|h);.exact h.1
        .exact(a x h).2
        .simp at h;omega
      . intro h;by_cases g:2<=x
        . by_cases f:x∈l;.exact .inl (.inr f)
          .exact .inl (.inl ⟨h,g,by rw[(MQ c a).2];exact Vk f⟩)
        .exact .inr ek
   have:=k.length_eq;simp at this;omega
 . have i:l=[]:=by cases l with|nil=>rfl|cons x l=>have:=a x (UG ..);omega
   subst i;have j:bf (tk nb []).1 nb=[]:=by rw[List.eq_nil_iff_forall_not_mem];intro x b;have:=rJ.1 b;omega
   rw[j];simp;omega
section
attribute [local go_sem] Oper.semAt_some
def rM(K:Nat->Prop)(n b1:Nat)(v:ZS)(os:List Ob)(w:ZT)(i:b1<w.heap.size)(b:w.cell? ⟨b1,0,U⟩=J v)(j:fA K w v os):SeqStopsK Fence.wide n ZL 151 #[Z6 (J ⟨b1,0,U⟩)] oA (eW K) (λu=>u=ah os) (λpre=>pre<+:ah os) (ah os).length w:=λl J' d W c m _ o f=>by
 refine(uE K n l b1 v os J' d (λpre A B h a=>m pre A B U h ⟨a.os,a.tape,a.output,a.size,λk q _=>a.block k q⟩ (λr e=>W8)) (ah os).length o [] ej W ((c.cell (p:=⟨b1,0,U⟩) i).trans b) (j.keep (eW.RM c)) f).mono ?_;rintro e W'⟨b,g⟩;refine⟨b,?_⟩;rcases g with h|⟨pre,s,t⟩;.exact .inl ⟨_,rfl,ua h⟩
 .exact .inr ⟨pre,s,ua t⟩
structure RmI(w:ZT)(B:Nat)(pre:a7)(X:ZT):Prop where
 box:ZN X w.heap.size 3 (I O (pre.length:Nat))below:bW w X
 size:B<=X.heap.size
def RmI.Tq(h:w.heap.size<B):OwnFrom B (RmI w B):=by rintro pre X Y row⟨f,b,g⟩a d;have c:∀k,k<B->Y.heap[k]?=X.heap[k]?:=λk c=>a.block k V (λe=>ia ((d k e.symm).1));exact⟨(c _ V).trans f,b.grown a b.size (λk e=>ia ((d k e).1)),TU g a.size⟩
theorem DG{v:Nat}{off:Bool}{A:an}{F:aC}(j:bh w ar v D' L' G' t f nn pg ob off)(m:bz w v p D L G ps ho)(h:ay w p A F)(hn:0<A.n)(os:List Ob)(u:fA (λk=>k<w.heap.size) w ob os)(hv:(ah os).length<=1000000)(count pages:Nat)(he:count<=1000000)(hg:pages<=1000000):ZQ ZL 101 #[Z6 (J ⟨ar,0,U⟩),I O (count:Nat),I O (pages:Nat)] w λe w'=>e=Z3 (Z1 (decide ((ah os).length+count+2*pages+2<=A.nb)))/\bW w w':=by
 obtain⟨n,HN⟩:∃n:Nat,cL (9<=n):=⟨9,TV _⟩;obtain⟨c0,_,_,_,P⟩:=j.cells;obtain⟨d,c,rfl,hol,_⟩:=id u;have H:=aE j m h u;clear j m h u;refine(Vo (n:=n)).1 ?_;refine WO func101 rfl trivial ?_ rfl;simp only[ntmps101,UK,UC,U0,YF,YG,Vf,Vg,Vh,Vi,Ut,U1];have g:bW w (w.alloc (Z4 #[I O 0] 3)):=bA w _;have Q:=(g.cell (p:=⟨ar,8,U⟩) H.o.1.lt).trans P;have r:ZN (w.alloc (Z4 #[I O 0] 3)) w.heap.size 3 (I O 0):=Us w _ _;have y:(w.alloc (Z4 #[I O 0] 3)).heap.size=w.heap.size+1:=ej;have I':=au g r y;clear g r y;gi_wp2;refine cM (mF d os.length c (w.alloc (Z4 #[I O 0] 3))) ?_;rintro e w'⟨rfl,rfl⟩;obtain⟨w1,hy⟩:=nM (w.alloc (Z4 #[I O 0] 3));rw[hy]at I' Q⊢;have C:bW w1 (w1.alloc (Z4 #[.slice d os.length c] 134)):=bA w1 _;have z:(w1.alloc (Z4 #[.slice d os.length c] 134)).cell? ⟨w1.heap.size,0,U⟩=J (.slice d os.length c):=(Us w1 _ _).cell;have N:(w1.alloc (Z4 #[.slice d os.length c] 134)).heap.size=w1.heap.size+1:=ej;obtain⟨w2,hz⟩:=nM (w1.alloc (Z4 #[.slice d os.length c] 134));rw[hz]at C z N⊢;obtain⟨g,r,y⟩:=I'.o;have B:bW w w2:=g.trans (C.mono g.size);have V':RmI w w2.heap.size [] w2:=⟨(C.block _ V).trans r,B,TV _⟩;have Z:fA (λk=>k<w.heap.size) w2 (.slice d os.length c) os:=H.o.2.2.2.keep (eW.RM B);have hs:=rM (λk=>k<w.heap.size) (n-1) w1.heap.size _ os w2 V z Z;have O':=au V' hs B;have T:w1.heap.size=w.heap.size+1:=y;have U':w2.heap.size=w.heap.size+2:=V;have HZ:=al T U';clear V' hs B Z g r y C z N hz hy Q T U' I' P;gi_wp2;obtain⟨kc,N⟩:=HZ.o;refine WQ rfl (ia HN.o) (gf:=151) (lb:=#[Z6 (J ⟨w1.heap.size,0,U⟩)]) rfl trivial (U9 func151 ee rfl) O'.o.2.1 (λh k=>h.trans k) (λW l o o' hl _ _ _=>⟨L0,λk _ E=>UI V⟩) (TW _ _) (λ_=>rfl) (RmI w w2.heap.size) (λ_ _ _=>False) (RmI.Tq V) (λ_ _ _ _ _ h _ _=>h.elim) O'.o.1 (λx=>{tmps:=#[Z6 (J ⟨ar,0,U⟩),I O (count:Nat),I O (pages:Nat),ZY,ZY,ZY,Z1 ZU,Z6 (J ⟨w.heap.size,0,U⟩),Z6 (J ⟨ar,0,U⟩),Z6 (J ⟨ar,0,U⟩),Z6 (J ⟨ar,8,U⟩),.slice d os.length c,.func (.func 151) #[] #[Z6 (J ⟨w1.heap.size,0,U⟩)],I O (x:Nat),ZY,ZY,ZY,ZY,ZY,ZY,ZY,ZY,ZY,ZY,ZY,ZY,ZY,ZY,ZY],defers:=[]}) ?assign ?body ?done ?stop;case assign=>intro l2 x X Kk hK;unfold oA;gi_wp2;simpa using hK
 case body=>
  rintro l2 pre x X b S;have c1:=b.box.cell;have f1:=b.box.frozen;obtain⟨pl,s⟩:=nM (pre.length);rw[s]at c1 S;have k9:pl<=1000000:=V;have i:=al b s;clear b s S hv hol;gi_wp2;obtain⟨b,s⟩:=i.o;have h6:((pre++[x]).length:Nat)=pl+1:=by rw[Ua,s];rfl
  have hr:∀k,k≠w.heap.size->(X.setCell ⟨w.heap.size,0,U⟩ (I O ((pl:Int)+1))).heap[k]?=X.heap[k]?:=λk E=>Uc _ _ _ _ E;refine⟨⟨oD,λk o E ho _=>?_⟩,⟨oD,λk E hK=>?_⟩,?_,?_,?_⟩;.exact(hr k V).trans ho
  .exact hr k V
  .rw[h6];exact b.box.set _
  .exact Xr (p:=⟨w.heap.size,0,U⟩) b.below lR _
  .have:=b.size;simp[World.setCell];omega
 case done=>
  rintro D1 xs X k6 k0 b hK;have hj:xs=ah os:=k0;subst hj;have c1:=b.box.cell;obtain⟨xl,M⟩:=nM ((ah os).length);rw[M]at c1 hv;have HL:=ak M;clear M;have q:=b.below;obtain⟨j,m,h,u⟩:=H.o;have cX:=(q.cell (p:=⟨ar,0,U⟩) j.lt).trans c0;have R:∀W,bW w W->ZQ ZL 141 #[Z6 (J ⟨v,0,U⟩)] W λe w'=>e=Z3 (I O A.nb)/\w'=W:=λW Y=>jU (m.keep (Y.block _ m.lt)) (h.below Y lR) hn;have i:=aE b hK R q;obtain⟨nb,J'⟩:=nM (A.nb);have k8:=h.Sy.2;rw[J']at i k8;have k5:=ak J';clear J';clear b hK k0 R q j m h u c0;gi_wp2;have k1:IntKind.i64.wrap ((xl:Int)+(count:Int))=(xl:Int)+(count:Int):=l7;have k2:IntKind.i64.wrap (2*(pages:Int))=2*(pages:Int):=l7;have k3:IntKind.i64.wrap ((xl:Int)+(count:Int)+2*(pages:Int))=(xl:Int)+(count:Int)+2*(pages:Int):=l7;have k4:IntKind.i64.wrap ((nb:Int)-2)=(nb:Int)-2:=l7;refine wpIn_region_quiet_lit rfl ee ee ?_;repeat(quiet_step_in(fail))
  refine wpQuietIn_step (by go_simp;intros;trivial) (λK hK=>?_);go_simp;refine⟨I O (nb:Nat),λa=>⟨λh=>Bf,CallsIn.quiet_of_same (Vo.2 (i.o.2.2.1 _ (i.o.2.2.2.trans ⟨rfl,rfl,rfl,TV _,λ_ _=>rfl⟩)))⟩,hK _ ?_⟩;clear hK K;repeat(quiet_step_in(fail))
  refine wpQuietIn_nil ?_;intro _ kb;obtain⟨nq,rfl⟩:=kb;gi_wp2;obtain⟨b,hK,_,q⟩:=i.o;have hq:(X.drewN nq).heap[D1]?=J (.deferred (J [])):=hK;have k7:bW w (X.drewN nq):=q.trans ⟨rfl,rfl,rfl,TV _,λ_ _=>rfl⟩;refine Ie (t:=6) (x:=Z1 (decide ((xl:Int)+(count:Int)+2*(pages:Int)<=(nb:Int)-2))) results101 rfl rfl hq ⟨?_,?_⟩;.rw[HL.o,k5.out];congr 2;exact decide_eq_decide.2 ⟨λh=>V,λh=>V⟩
  .exact Below.RO k7 V (TX.1 hq).1 _
 case stop=>rintro D1 z pre X k6 ka hx hK;exact hx.elim
end
def rdA(v b g N gone sp:Nat):Array ZS:=#[Z6 (J ⟨v,0,U⟩),I O b,Z5 (J ⟨g,0,U⟩) N N,I Z8 gone,I Z8 sp]
def eQ(w:ZT)(r v b g N gone sp:Nat):Prop:=w.heap[r]?=J (Z4 (rdA v b g N gone sp) 204 (0,0))
def eQ.keep{v:Nat}(h:eQ w r v b g N gone sp)(e:w'.heap[r]?=w.heap[r]?):eQ w' r v b g N gone sp:=e.trans h
def eQ.lt{v:Nat}(h:eQ w r v b g N gone sp):r<w.heap.size:=(TX.1 h).1
def eQ.cells{v:Nat}(h:eQ w r v b g N gone sp):w.cell? ⟨r,0,U⟩=J (Z6 (J ⟨v,0,U⟩))/\w.cell? ⟨r,1,U⟩=J (I O b)/\w.cell? ⟨r,2,U⟩=J (Z5 (J ⟨g,0,U⟩) N N)/\w.cell? ⟨r,3,U⟩=J (I Z8 gone)/\w.cell? ⟨r,4,U⟩=J (I Z8 sp):=by have a:w.heap[r]?=J (Z4 (rdA v b g N gone sp) 204 (0,0)):=h;simp[World.cell?,a,rdA]
def eQ.free{v:Nat}(h:eQ w r v b g N gone sp)(i:Nat):w.frozen? ⟨r,i,U⟩=ZU:=by have a:w.heap[r]?=J (Z4 (rdA v b g N gone sp) 204 (0,0)):=h;simp[World.frozen?,a]
def yu(w:ZT){ops:Array ZP}{rest:List ZP}{o:ZP}{a:Act}{Q:Exit->Act->ZT->Prop}(h:o.guard=U)(l c:ZM)(e:o.op=Op.makeSlice 84 l c)(C:Int)(n:Nat)(hl:a.eval l=I O C)(g:a.eval c=I O C)(f:C=(n:Int))(i:n<=1000000)(hK:∀w',w'.rowIs w.heap.size 36 n (λ_=>Z5 U 0 0)->bW w w'->w'.heap.size=w.heap.size+1->wpList ZL ops Q rest (a.put o.dst (Z5 (J ⟨w.heap.size,0,U⟩) n n)) w'):wpList ZL ops Q (o::rest) a w:=by refine VZ h λK d=>?_;have b:=XX (P:=ZL) 84 36 (Z5 U 0 0) 24 VP Tryz.Sa rfl .i64 .i64 n V V w;subst f;unfold Oper.wp;simp[execOp,e,hl,g,b,Result.andThen];exact d _ _ (hK _ (Xv w _ n _) (bA _ _) (Uh _ _))
theorem vz(w:ZT)(n:ZO)(g N c:Nat)(f:Nat->ZS)(h:w.rowIs g 36 N f)(s:0<N):(Builtin.clear_ #[84] n #[Z5 (J ⟨g,0,U⟩) N c]).run ZL w=.ok (ZZ #[]) (w.setRow g (YH N (Value.slice U 0 0)).toArray):=by
 obtain⟨cs,d,e,o⟩:=h;obtain⟨t,b,j,q,r⟩:=Uw Tryz.Sa;have l:(Builtin.zeroCells (Value.cells (Z5 U 0 0)) N).toList=YH N (Value.slice U 0 0):=by
  apply Ve;.simp[Builtin.zeroCells,Value.cells]
  .intro i _ _;simp[Builtin.zeroCells,Value.cells,Nat.mod_one]
 have a:=run_storeCells_from (P:=ZL) g 36 (YH N (Value.slice U 0 0)) 0 cs w d (by simp[e]) (λv k=>by rw[VG k];rfl);have:N≠0:=V;simp only[WN,Ut]at a;obtain⟨m,rfl⟩:∃m,N=m+1:=⟨N-1,V⟩;simp[Builtin.clear_,UP VP,zeroValue,typeInfo,b,j,l,a]
def Bd(w:ZT){ops:Array ZP}{rest:List ZP}{o:ZP}{a:Act}{Q:Exit->Act->ZT->Prop}(j:o.guard=U)(s:ZM)(ho:o.op=.call {callee:=.builtin .clear,args:=#[s],argTypes:=#[84]})(h0:o.dst=U){g N c:Nat}{f:Nat->ZS}(hv:a.eval s=Z5 (J ⟨g,0,U⟩) N c)(hr:w.rowIs g 36 N f)(hN:0<N)(h:∀w',w'.rowIs g 36 N (λ_=>Z5 U 0 0)->aa (λk=>k=g) w w'->wpList ZL ops Q rest a w'):wpList ZL ops Q (o::rest) a w:=by refine VZ j λK hK=>?_;unfold Oper.wp execOp;simp only[ho,resolve,invoke,builtin,UH,VN,UV,acQ,U5,Wi,hv,vz w _ g N c f hr hN];have b:=aZ w g (YH N (Value.slice U 0 0)).toArray;obtain⟨cs,d,_⟩:=hr;refine hK _ _ ?_;rw[h0];exact h _ ⟨_,Vw _ _ _ _ _ _ d,ej,λi m=>by simp[m]⟩ ⟨b.os,b.tape,b.output,b.size,λk n l=>b.block k n (λe=>l (UN e))⟩
def F7(w:ZT)(r:Nat){v b0 g N gone sp:Nat}(h:eQ w r v b0 g N gone sp)(b ho:Nat):eQ (((w.setCell ⟨r,1,U⟩ (I O b)).setCell ⟨r,3,U⟩ (I Z8 0)).setCell ⟨r,4,U⟩ (I Z8 ho)) r v b g N 0 ho/\aa (λk=>k=r) w (((w.setCell ⟨r,1,U⟩ (I O b)).setCell ⟨r,3,U⟩ (I Z8 0)).setCell ⟨r,4,U⟩ (I Z8 ho)):=by refine⟨?_,((aa.setCell (S:=λk=>k=r) w ⟨r,1,U⟩ _ rfl).trans (aa.setCell _ ⟨r,3,U⟩ _ rfl)).trans (aa.setCell _ ⟨r,4,U⟩ _ rfl)⟩;have a:=acV w r 1 _ _ (I O b) h;have c:=acV _ r 3 _ _ (I Z8 0) a;exact acV _ r 4 _ _ (I Z8 ho) c
theorem Ii{v:Nat}{f:Nat->ZS}(h:eQ w r v b0 g N gone sp)(m:bz w v p D L G ps ho)(n:w.rowIs g 36 N f)(x:0<N)(d:g≠r)(u:v≠g)(b:Nat):ZQ ZL 119 #[Z6 (J ⟨r,0,U⟩),I O b] w λe w'=>e=Z3 (ZZ #[])/\eQ w' r v b g N 0 ho/\w'.rowIs g 36 N (λ_=>Z5 U 0 0)/\aa (λk=>k=r\/k=g) w w':=by
 obtain⟨c0,c1,q,s,t⟩:=h.cells;have H:=au h m n;clear h m n;go_enter func119,ntmps119;go_wp2_with(show wpList _ _ _ ({dst:=U,op:=.call {callee:=.builtin .clear,args:=_,argTypes:=_},type:=_,pos:=_,after:=_,guard:=_}::_) _ _;refine Bd _ rfl (Z0 7) rfl rfl (g:=g) (N:=N) (c:=N) (f:=f) rfl (by exact H.o.2.2) x ?_;intro w1 l a;obtain⟨z,d1,A,B,C⟩:=(H.o.1.keep (a.block _ H.o.1.lt (λe=>d e.symm))).cells;obtain⟨_,_,_,_,_,J'⟩:=(H.o.2.1.keep (a.block _ H.o.2.1.lt u)).cells;have E:=(H.o.1.keep (a.block _ H.o.1.lt (λe=>d e.symm))).free 1;have F:=(H.o.1.keep (a.block _ H.o.1.lt (λe=>d e.symm))).free 3;have S:=(H.o.1.keep (a.block _ H.o.1.lt (λe=>d e.symm))).free 4;have i:=al l a;clear l a c0 c1 q s t);first|go_end0|skip
 have y:=H.o.1.keep (i.o.2.block _ H.o.1.lt (λe=>d e.symm));have j:=F7 w1 r y b ho;refine⟨rfl,j.1,i.o.1.of_block (j.2.block _ i.o.1.lt (λe=>d e)),(i.o.2.mono λ_ _ e=>.inr e).trans (j.2.mono λ_ _ e=>.inl e)⟩
def F8{o:Nat}{m:Nat->Nat}(h:w.there b o 16):(Instr.storeAt 265 (Z6 (J ⟨b,o,U⟩)) (.agg (gd m).toArray)).run ZL w=.ok () (w.setCells b o (gd m)):=adq (P:=ZL) w b o 265 (gd m).toArray (by simpa[kG]using h) (ua (Tryz.Sj _)) (Mw _)
theorem DH(b i:Nat)(C:Ck)(w:ZT)(s:aH w b C)(h:fh C)(u:i<16):ZQ ZL 233 #[Z6 (J ⟨b,0,U⟩),I O i] w λe w'=>(iX C i=U/\e=Z3 (Z1 ZU)/\w'=w)\/(∃C',iX C i=J C'/\e=Z3 (Z1 ZV)/\aH w' b C'/\w.grownBy w' (J b)):=by go_enter func233,ntmps233;go_wp2_with fail;refine(zD b i C w s h u).mono ?_;rintro e w1⟨rfl,E⟩;subst E;cases h3:dQ C i with|none=>have f:cL (iX C i=U):=ak (by unfold iX;rw[h3];rfl);simp only[spV];go_wp2;go_ret;exact .inl ⟨f.o,rfl,rfl⟩|some r=>
  obtain⟨S,J',K⟩:=iI h3;have f:cL (iX C i=J (iJ C i r)):=ak (by unfold iX;rw[h3];rfl);have G:=h.Sg;simp only[spV];go_wp2_with fail;refine(zG b r i C _ s h V u).mono ?_;rintro e w2⟨rfl,g,A⟩;have x:=g.Sr;have F:=g.frozen 129;have y:(mb C C.count r i).count=C.count:=rfl;rw[y]at x;have c:=zH g (C.count-1);have a:=fq A 129 (I O ((C.count-1:Nat):Int));have H:IntKind.i64.wrap ((C.count:Int)-1)=((C.count-1:Nat):Int):=l7;obtain⟨d,B⟩:=nM (w2.setCell ⟨b,129,U⟩ (I O ((C.count-1:Nat):Int)));rw[B]at c a;have k:=c.Sr;have j:=ak (tM (show aH d.drew b _ from c) r V ((mb C C.count r i).m (C.count-1)));have n:cL (w1.grownBy (d.drew.setCells b (r*16) (gd ((mb C C.count r i).m (C.count-1)))) (J b)):=ak (pK _ _ _ _ ⟨a.os,a.tape,a.output,a.size,a.block⟩);have l:=ak (show aH d.drew b _ from c);go_wp2;obtain⟨t,v⟩:=nM (C.count-1);have p:=tN l.out (C.count-1) V;have q:=F8 (m:=(mb C C.count r i).m (C.count-1)) (uW l.out r V);simp only[v]at k p q⊢;have k1:(r:Int)<8:=V;have k2:(t:Int)<8:=V;refine bw 14 [(0,ZV),(1,ZV),(2,ZV),(3,ZV),(4,ZV),(5,ZV),(6,ZV),(7,ZV),(8,ZV),(9,ZV),(10,ZV),(11,ZV),(12,ZV),(13,ZV),(14,ZU)] (λw'=>w'.cell? ⟨b,129,U⟩=J (I O (t:Int))/\(Instr.loadAt 265 (Z6 (J ⟨b,t*16,U⟩))).run ZL w'=.ok (.agg (gd ((mb C C.count r i).m t)).toArray) w') ee ee ⟨k,p⟩ ?_;iterate 10 refine bE ?_
  refine cZ rfl rfl ⟨_,λw' z=>by simp[execOp,Act.eval,z.2];rfl,?_⟩;simp only[Act.put,TZ,T5,T6];iterate 3 refine bE ?_
  refine lj rfl rfl (by simp[execOp,Act.eval,q];rfl) xJ (bI ?_);simp only[Act.put];subst v;obtain⟨L,D⟩:=nM (d.drew.setCells b (r*16) (gd ((mb C C.count r i).m (C.count-1))));rw[D]at j n⊢;go_wp2;go_ret;exact .inr ⟨_,f.o,rfl,j.o,n.out⟩
theorem MR(m:Nat->Nat->Nat)(t r:Nat):tq (tq m t (m r)) r (m t)=dU m t r:=by
 funext k;unfold tq dU;by_cases b:k=r
 . rw[TT b];by_cases a:k=t;.rw[TT a,<-b,<-a]
   .rw[TS a,TT b]
 . rw[TS b];by_cases a:k=t;.rw[TT a,TT a]
   .rw[TS a,TS a,TS b]
theorem vA(b i:Nat)(C:Ck)(w:ZT)(d:aH w b C)(a:fh C)(t:i<16):ZQ ZL 216 #[Z6 (J ⟨b,0,U⟩),I O i] w λe w'=>(oh C i=U/\e=Z3 (Z1 ZU)/\w'=w)\/(∃C',oh C i=J C'/\e=Z3 (Z1 ZV)/\aH w' b C'/\w.grownBy w' (J b)):=by go_enter func216,ntmps216;go_wp2_with fail;refine(zD b i C w d a t).mono ?_;rintro e w1⟨rfl,R⟩;subst R;cases h5:dQ C i with|none=>have j:cL (oh C i=U):=ak (by unfold oh;rw[h5];rfl);simp only[spV];clear h5;go_wp2;go_ret;exact .inl ⟨j.o,rfl,rfl⟩|some r=>
  obtain⟨r1,r2,r3⟩:=iI h5;have j:cL (oh C i=J (jK C i r)):=ak (by unfold oh;rw[h5];rfl);have Y:=a.Sg;simp only[spV];clear h5;have k:=d.R9;have z:=tM (tM (show aH w1.drew b _ from d) C.told V (C.m r)) r V (C.m C.told);have x:(⟨tq (tq C.m C.told (C.m r)) r (C.m C.told),C.told,C.count⟩:Ck)=⟨dU C.m C.told r,C.told,C.count⟩:=by rw[MR]
  have A:aH ((w1.drew.setCells b (C.told*16) (gd (C.m r))).setCells b (r*16) (gd (C.m C.told))) b ⟨dU C.m C.told r,C.told,C.count⟩:=by rw[<-x];exact z
  have E:w1.grownBy ((w1.drew.setCells b (C.told*16) (gd (C.m r))).setCells b (r*16) (gd (C.m C.told))) (J b):=pK _ _ _ _ (pK _ _ _ _ ⟨rfl,rfl,rfl,TV _,λ_ _ _=>rfl⟩);have f:=ak A;have n:=ak E;have c:=ak (show aH w1.drew b C from d);clear z x A E d;go_wp2;have g:=tM c.out C.told V (C.m r);have q:=tN c.out r V;have L:=tN c.out C.told V;have s:=tN g r V;have y:tq C.m C.told (C.m r) r=C.m r:=by unfold tq;split<;>rfl
  simp only[y]at s;have M:=F8 (m:=C.m r) (uW c.out C.told V);have N:=F8 (m:=C.m C.told) (uW g r V);have k1:(r:Int)<8:=V;have k2:(C.told:Int)<8:=V;refine bw 29 [(0,ZV),(1,ZV),(2,ZV),(3,ZV),(4,ZV),(5,ZV),(6,ZV),(7,ZV),(8,ZV),(9,ZV),(10,ZV),(11,ZV),(12,ZV),(13,ZV),(14,ZV),(15,ZV),(16,ZV),(17,ZV),(18,ZV),(19,ZV),(20,ZV),(22,ZV),(23,ZV),(26,ZV),(27,ZV),(21,ZU),(24,ZV),(25,ZU),(28,ZV),(29,ZU)] (λw'=>w'.cell? ⟨b,128,U⟩=J (I O (C.told:Int))/\(Instr.loadAt 265 (Z6 (J ⟨b,r*16,U⟩))).run ZL w'=.ok (.agg (gd (C.m r)).toArray) w') ee ee ⟨c.out.R9,q⟩ ?_;iterate 12 refine bE ?_
  refine cZ rfl rfl ⟨_,λw' Q=>by simp[execOp,Act.eval,Q.2];rfl,?_⟩;simp only[Act.put,TZ,T5,T6];iterate 12 refine bE ?_
  refine dV (v:=.agg (gd (C.m C.told)).toArray) (w1:=w1.drew) rfl rfl (by simp[execOp,Act.eval,L]) (λ_=>⟨c.out.R9,q⟩) ?_;simp only[Act.put,TZ,T5,T6];refine lT ?_;simp only[Act.put,TZ,T5,T6];refine lj rfl rfl (by simp[execOp,Act.eval,M]) (λ_=>⟨g.R9,s⟩) ?_;simp only[Act.put,TZ,T5,T6];refine lT ?_;simp only[Act.put,TZ,T5,T6];refine lj rfl rfl (by simp[execOp,Act.eval,N];rfl) xJ (bI ?_);simp only[Act.put];clear g q L s y M N k1 k2 c;obtain⟨w2,O'⟩:=nM ((w1.drew.setCells b (C.told*16) (gd (C.m r))).setCells b (r*16) (gd (C.m C.told)));rw[O']at f n⊢;clear O' k;have k:=f.out.R9;have U':fh ⟨dU C.m C.told r,C.told,C.count⟩:=⟨j7 a.byt,a.le,a.Sg⟩;go_wp2_with fail;refine(Dp b C.told i _ _ f.out U' V t).mono ?_;rintro e w3⟨rfl,p,I'⟩;have V':fh ⟨fs (dU C.m C.told r) C.told i,C.told,C.count⟩:=⟨uh (j7 a.byt),a.le,a.Sg⟩;have B:=gW n.out I';have l:=p.R9;have F:=ak p;have G:=ak B;clear p I' B k f n;go_wp2_with fail;refine(zG b C.told i _ _ F.out V' V t).mono ?_;rintro e W⟨rfl,h,J'⟩;have D:=gW G.out J';have H:=Mx h (C.told+1);have K:=fq D 128 (I O ((C.told+1:Nat):Int));have u:=h.R9;have X:=h.frozen 128;have P:W.cell? ⟨b,128,U⟩=J (I O (C.told:Int)):=u;have k7:wrap64 ((C.told:Int)+1)=((C.told+1:Nat):Int):=D2;have Z:IntKind.i64.wrap ((C.told:Int)+1)=((C.told+1:Nat):Int):=l7;have S:=ak H;have T:=ak K;clear h J' D H K u l F G;go_wp2;go_ret;exact .inr ⟨_,j.o,rfl,S.out,T.out⟩
def a9(C:Ck):Array ZS:=((YE 130).map (oP C)).toArray
def cK(C:Ck):(a9 C).size=130:=by unfold a9;rw[UK,Uf,Vj]
def Be(C:Ck)(i:Nat)(a:i<130):(a9 C)[i]?=J (oP C i):=by unfold a9;rw[XE,UJ,WE a];rfl
def Tryz.infoCk:(ZL.info? 335).map (λi=>i.size)=J 130:=ee
def eH(C:Ck):(ZL.info? 335).map (λi=>i.size)=J (a9 C).size:=by rw[cK];exact Tryz.infoCk
theorem PF(C:Ck)(i:Nat):(oP C i).oneCell'=ZV:=by
 unfold oP;split;.rfl
 .split<;>rfl
def nv(C:Ck):(a9 C).all (λv=>v.oneCell')=ZV:=by rw[X4];intro i a;have:=Be C i (by rw[<-cK C];exact a);rw[V3 a]at this;rw[UN this];exact PF C i
theorem aH.heap(h:aH w b C):w.heap[b]?=J (Z4 (a9 C) 335 (0,0)):=by
 obtain⟨c,j,l,k⟩:=h;have e:c=a9 C:=by
  apply Array.ext;.rw[l,cK]
  .intro i f g;have a:=k i V;have d:=Be C i V;rw[V3 f]at a;rw[V3 g]at d;rw[UN a,UN d]
 rw[<-e];exact j
def aH.of_heap(h:w.heap[b]?=J (Z4 (a9 C) 335 (0,0))):aH w b C:=⟨_,h,cK C,λi a=>Be C i a⟩
def aH.new(w:ZT)(C:Ck):aH (w.alloc (Z4 (a9 C) 335)) w.heap.size C:=aH.of_heap (Xe w _)
def aH.lt(h:aH w b C):b<w.heap.size:=(TX.1 h.heap).1
def aH.keep(h:aH w b C)(e:w'.heap[b]?=w.heap[b]?):aH w' b C:=aH.of_heap (e.trans h.heap)
def aH.setRow(C:Ck)(h:aH w b C'):aH (w.setRow b (a9 C)) b C:=aH.of_heap (Vw w b (a9 C') (a9 C) _ _ h.heap)
def aT(w:ZT)(b:Nat)(cs:Array ZS):w.grownBy (w.setRow b cs) (J b):=⟨rfl,rfl,rfl,ej,λk _ a=>by have:b≠k:=λe=>a V2;simp[World.setRow,Vb,this]⟩
def ny(h:aH w b C):(Instr.loadAt 335 (Z6 (J ⟨b,0,U⟩))).run ZL w=.ok (.agg (a9 C)) w:=by simp only[Instr.loadAt,Instr.sureAddr,UH,VN,UV,Xk w b 335 335 (a9 C) (0,0) _ h.heap XL rfl (eH C)]
def lF(C:Ck)(h:aH w b C'):(Instr.storeAt 335 (Z6 (J ⟨b,0,U⟩)) (.agg (a9 C))).run ZL w=.ok () (w.setRow b (a9 C)):=by simp only[Instr.storeAt,Instr.sureAddr,UH,VN,UV,XY w b 335 335 (a9 C') (a9 C) h.heap (eH C) (by rw[cK,cK]) (nv C)]
def lG(f:o.guard=U)(x:ZM)(ho:o.op=.load 335 x)(b:Nat)(C:Ck)(g:a.eval x=Z6 (J ⟨b,0,U⟩))(e:aH w b C)(h:wpListIn F n ZL ops Q rest (a.put o.dst (.agg (a9 C))) w):wpListIn F n ZL ops Q (o::rest) a w:=by refine Yg f λK hK=>?_;unfold Oper.wpIn;refine⟨ZC,?_⟩;rw[Wg F _ _ (by rw[ho];intro c d;cases d)];simp[execOp,ho,g,ny e,Result.andThen];exact hK _ _ h
def kJ(f:o.guard=U)(x y:ZM)(ho:o.op=.store 335 x y)(b:Nat)(C C':Ck)(g:a.eval x=Z6 (J ⟨b,0,U⟩))(i:a.eval y=.agg (a9 C))(e:aH w b C')(h:wpListIn F n ZL ops Q rest (a.put o.dst ZY) (w.setRow b (a9 C))):wpListIn F n ZL ops Q (o::rest) a w:=by refine Yg f λK hK=>?_;unfold Oper.wpIn;refine⟨ZC,?_⟩;rw[Wg F _ _ (by rw[ho];intro c d;cases d)];simp[execOp,ho,g,i,lF C e,Result.andThen];exact hK _ _ h
def ei:Ck:=⟨λ_ _=>0,0,0⟩
def Tryz.zeroCk:(ZL.info? 335).map (λi=>(i.zero,i.size,i.bytes))=J (J (.agg (a9 ei)),130,144):=ee
def zeroCk(w:ZT):(zeroValue 335).run ZL w=.ok (.agg (a9 ei)) w:=by obtain⟨c,a,b,_,_⟩:=Uw Tryz.zeroCk;simp[zeroValue,typeInfo,UH,a,b]
def aH.mono(h:aH w b C)(c:ZR B w w')(a:b<B):aH w' b C:=h.keep (c.block b a)
section
attribute [local go_sem] Oper.semAt_some
theorem zP(p least Bl:Nat)(w:ZT)(a:w.cell? ⟨Bl,0,U⟩=J (I O (least:Int))):ZQ ZL 228 #[I O p,Z6 (J ⟨Bl,0,U⟩)] w λe w'=>e=Z3 (Z1 (decide (p<least)))/\w'=w:=by go_enter func228,ntmps228;go_wp2;go_ret;exact⟨ej,rfl⟩
def gz(Bl:Nat):ZS:=.func (.func 228) #[] #[Z6 (J ⟨Bl,0,U⟩)]
def Bx(W:ZT)(B:Nat)(v:ZS):Prop:=∃t,ZN W B t v
def Bx.cell(h:Bx W B v):W.cell? ⟨B,0,U⟩=J v:=by obtain⟨t,h⟩:=h;exact h.cell
def Bx.frozen(h:Bx W B v):W.frozen? ⟨B,0,U⟩=ZU:=by obtain⟨t,h⟩:=h;exact h.frozen
def Bx.lt(h:Bx W B v):B<W.heap.size:=by obtain⟨t,h⟩:=h;exact h.lt
def Bx.keep(h:Bx W B v)(e:W'.heap[B]?=W.heap[B]?):Bx W' B v:=by obtain⟨t,h⟩:=h;exact⟨t,e.trans h⟩
def Bx.set(h:Bx W B v)(a:ZS):Bx (W.setCell ⟨B,0,U⟩ a) B a:=by obtain⟨t,h⟩:=h;exact⟨t,h.set a⟩
def Bx.new(W:ZT)(t:ZO)(v:ZS):Bx (W.alloc (Z4 #[v] t)) W.heap.size v:=⟨t,Us W t v⟩
def Bx.alloc(h:Bx W B v)(o:Obj):Bx (W.alloc o) B v:=by obtain⟨t,h⟩:=h;exact⟨t,h.alloc o⟩
structure VB(W:ZT)(h:Nat)(C:Ck)(of q Bl l:Nat):Prop where
 ck:aH W h C
 set:Bx W (h+1) (I Z8 (of:Int))pas:Bx W (h+1+1) (I O (q:Int))Sd:Bx W (h+1+1+1) (gz Bl)yld:Bx W (h+1+1+1+1) (.func (.yield l) #[] #[])res:Bx W (h+1+1+1+1+1) (Z1 ZU)
def VB.keep{l:Nat}(v:VB W h C of q Bl l)(e:∀k,h<=k->k<h+6->W'.heap[k]?=W.heap[k]?):VB W' h C of q Bl l:=⟨v.ck.keep (e _ V V),v.set.keep (e _ V V),v.pas.keep (e _ V V),v.Sd.keep (e _ V V),v.yld.keep (e _ V V),v.res.keep (e _ V V)⟩
def VB.passed{l:Nat}(v:VB W h C of q Bl l)(a:Nat):VB (W.setCell ⟨h+1+1,0,U⟩ (I O (a:Int))) h C of a Bl l:=by have e:∀k,k≠h+1+1->(W.setCell ⟨h+1+1,0,U⟩ (I O (a:Int))).heap[k]?=W.heap[k]?:=λk b=>V8 _ _ _ _ b;exact⟨v.ck.keep (e _ V),v.set.keep (e _ V),v.pas.set _,v.Sd.keep (e _ V),v.yld.keep (e _ V),v.res.keep (e _ V)⟩
def jD(K:a7)(d:Nat)(C:Ck)(of p:Nat)(s:cW)(pre:List Sh):Nat×cW×Bool:=(pre.map (·.1)).foldl (iL (Fb K d) C of) (p,fQ K s C,ZU)
def F9(K:a7)(d:Nat)(C:Ck)(of p:Nat)(s:cW)(pre:List Sh)(x:Sh):jD K d C of p s (pre++[x])=iL (Fb K d) C of (jD K d C of p s pre) x.1:=by unfold jD;rw[Uz,Ws];rfl
def JO(h:pre.map (·.1)=ae of):(jD K d C of p s pre).2.1=iZ K d C of p s:=by unfold jD;rw[h,qS]
def Ga(h:pre.map (·.1)<+:ae of)(e:(jD K d C of p s pre).2.2=ZV):(jD K d C of p s pre).2.1=iZ K d C of p s:=by obtain⟨R,c⟩:=h;rw[qS,<-c,Ws];show _=(R.foldl (iL (Fb K d) C of) (jD K d C of p s pre)).2.1;obtain⟨f,a⟩:∃q sx,jD K d C of p s pre=(q,sx,ZV):=⟨_,_,by rw[<-e]⟩;obtain⟨a,b⟩:=a;rw[b,yM]
def VI(K:a7)(d:Nat)(C:Ck)(of p:Nat)(s:cW)(W:ZT)(B n0 Bl l:Nat)(J':cW->ZT->Prop)(brk:Bool)(pre:List Sh)(X:ZT):Prop:=(jD K d C of p s pre).2.2=brk/\VB X W.heap.size C of (jD K d C of p s pre).1 Bl l/\J' (jD K d C of p s pre).2.1 X/\bg n0 W X/\(jD K d C of p s pre).1<=p+pre.length/\B<=X.heap.size
def VI.own{l:Nat}{brk:Bool}(f:∀s A B,J' s A->ZR n0 A B->J' s B)(o:W.heap.size+6<=B)(t:n0<=W.heap.size):OwnFrom B (VI K d C of p s W B n0 Bl l J' brk):=by rintro pre X Y row⟨g,h,i,b,j,q⟩a n;have c:∀k,k<W.heap.size+6->Y.heap[k]?=X.heap[k]?:=λk c=>a.block k V (λe=>ia ((n k e.symm).1));have:=a.size;refine⟨g,h.keep (λk _ m=>c k m),f _ _ _ i ⟨a.os,a.tape,a.output,a.size,λk r=>c k V⟩,⟨a.os.trans b.os,a.tape.trans b.tape,a.output.trans b.output,ia b.size,λk k1 k2=>(c k V).trans (b.block k k1 k2)⟩,j,V⟩
def VX(K:a7)(d:Nat)(C:Ck)(of p:Nat)(s:cW)(W:ZT)(B n0 Bl l:Nat)(J':cW->ZT->Prop)(c:Code)(pre:List Sh)(X:ZT):Prop:=c=.exit 0/\VI K d C of p s W B n0 Bl l J' ZV pre X
def JP(h:¬q<sx.2):iL rec C of (q,sx,ZU) i=(q,sx,ZV):=by unfold iL;simp[h]
def JQ(h:q<sx.2)(hl:iX C i=U):iL rec C of (q,sx,ZU) i=(q,sx,ZU):=by unfold iL;simp[h,hl]
def PG(h:q<sx.2)(hl:iX C i=J C'):iL rec C of (q,sx,ZU) i=(q+1,rec C' (dI of i) q sx,ZU):=by unfold iL;simp[h,hl]
def lH(s:Nat):(shs s).length=(ae s).length:=by rw[<-Pf s,Uf]
def rN(s:Nat):(shs s).length<=16:=by rw[lH];exact TU (WS _ _) ej
theorem JR(q:Nat)(h:q<=100000):wrap64 ((q:Int)+1)=((q+1:Nat):Int)/\IntKind.i64.wrap ((q:Int)+1)=((q+1:Nat):Int):=by
 constructor;.unfold wrap64;omega
 .rw[Ux];omega
theorem zQ(b:∀s A B,J' s A->ZR n0 A B->J' s B)(w:n0<=W.heap.size)(q:W.heap.size<=B)(r:W.heap.size<=D)(j:B≠D)(i:Bx X B (Z1 ZU))(t:J' s X)(o:bg n0 W X)(hK:X.heap[D]?=J (.deferred (J [])))(f:a.defers=[{target:=.collected D,args:=#[]}])(h5:a.eval (Z0 10)=Z6 (J ⟨B,0,U⟩))(hT:a.tmps.size=39):bodyPostM Fence.wide n ZL Tryz.f232 (λe W'=>e=Z3 (Z1 ZV)/\J' s W'/\bg n0 W W') .ret a (X.setCell ⟨B,0,U⟩ (Z1 ZV)):=by
 have d:(X.setCell ⟨B,0,U⟩ (Z1 ZV)).heap[D]?=J (.deferred (J [])):=(V6 _ _ _).same D _ hK rfl;obtain⟨g,u⟩:=a;simp only at f hT;subst f;refine⟨ej,.inl ⟨_,_,rfl,Wo d,?_⟩⟩;have k:Bx (X.setCell ⟨B,0,U⟩ (Z1 ZV)) B (Z1 ZV):=i.set _;have l:Bx ((X.setCell ⟨B,0,U⟩ (Z1 ZV)).putObj D (.deferred U)) B (Z1 ZV):=k.keep (UI (λe=>j e));have c:=l.cell;have m:=(TX.1 d).1;have h:g.getD 10 ZY=Z6 (J ⟨B,0,U⟩):=h5;refine⟨Z1 ZV,?_,rfl,b _ _ _ (b _ _ _ t ((TW _ _).setCell (p:=⟨B,0,U⟩) (by show n0<=B;omega) _)) (Below.RO (TW _ _) V m _),(o.setCell (p:=⟨B,0,U⟩) (.inr q) _).putObj (.inr r) _⟩;have v:g[10]' V=Z6 (J ⟨B,0,U⟩):=by rw[<-h];simp[hT]
 simp only[results,results232];go_simp
theorem vC(K:a7)(n0 Bl l:Nat)(J':cW->ZT->Prop)(u:∀s A B,J' s A->ZR n0 A B->J' s B)(S:∀s A,J' s A->A.cell? ⟨Bl,0,U⟩=J (I O (s.2:Int))/\n0<=A.heap.size/\aI A)(qp:2<=n0)(hY:∀m s C W1,J' s W1->fh C->YieldAt Fence.wide m ZL l #[.agg (a9 C)] W1 λe W'=>e=Z3 (Z1 ZV)/\J' (fQ K s C) W'/\bg n0 W1 W')(d m:Nat)(C:Ck)(of p:Nat)(s:cW)(W:ZT)(hf:fh C)(kb:of<65536)(hp:p+16<=100000)(hJ:J' s W)(ke:∀(m i:Nat)(C':Ck)(z p':Nat)(s':cW)(W':ZT),iX C i=J C'->z<65536->p'<=p+16->J' s' W'->CallsIn Fence.wide m ZL 232 #[.agg (a9 C'),I Z8 z,I O p',gz Bl,.func (.yield l) #[] #[]] W' λe G=>e=Z3 (Z1 ZV)/\J' (Fb K d C' z p' s') G/\bg n0 W' G):CallsIn Fence.wide m ZL 232 #[.agg (a9 C),I Z8 of,I O p,gz Bl,.func (.yield l) #[] #[]] W λe W'=>e=Z3 (Z1 ZV)/\J' (iZ K d C of p s) W'/\bg n0 W W':=by
 obtain⟨_,P,_⟩:=S s W hJ;obtain⟨n,HN⟩:∃n:Nat,cL (5<=n):=⟨5,TV _⟩;refine Vo.2 ((Vo (n:=n)).1 ?_);refine WO func232 rfl trivial ?_ rfl;simp only[ntmps232,UK,UC,U0,YF,YG,Vf,Vg,Vh,Vi,Ut,U1];have T:bW W ((((((W.alloc (Z4 (a9 C) 335)).alloc (Z4 #[I Z8 (of:Int)] 123)).alloc (Z4 #[I O (p:Int)] 3)).alloc (Z4 #[gz Bl] 205)).alloc (Z4 #[.func (.yield l) #[] #[]] 350)).alloc (Z4 #[Z1 ZU] 4)):=(((((bA W _).alloc ej _).alloc ek _).alloc ek _).alloc ek _).alloc ek _;have U':VB ((((((W.alloc (Z4 (a9 C) 335)).alloc (Z4 #[I Z8 (of:Int)] 123)).alloc (Z4 #[I O (p:Int)] 3)).alloc (Z4 #[gz Bl] 205)).alloc (Z4 #[.func (.yield l) #[] #[]] 350)).alloc (Z4 #[Z1 ZU] 4)) W.heap.size C of p Bl l:=by
  have N:∀(X:ZT)(o:Obj)(k:Nat),k<X.heap.size->(X.alloc o).heap[k]?=X.heap[k]?:=λX o k h=>VS X o k h;refine⟨?_,?_,?_,?_,?_,?_⟩;.exact(aH.new W C).keep (by rw[N _ _ _ ek,N _ _ _ ek,N _ _ _ ek,N _ _ _ ek,N _ _ _ ej])
  .have h:=Bx.new (W.alloc (Z4 (a9 C) 335)) 123 (I Z8 (of:Int));rw[Um]at h;exact(((h.alloc _).alloc _).alloc _).alloc _
  .have h:=Bx.new ((W.alloc (Z4 (a9 C) 335)).alloc (Z4 #[I Z8 (of:Int)] 123)) 3 (I O (p:Int));simp only[Um]at h;exact((h.alloc _).alloc _).alloc _
  .have h:=Bx.new (((W.alloc (Z4 (a9 C) 335)).alloc (Z4 #[I Z8 (of:Int)] 123)).alloc (Z4 #[I O (p:Int)] 3)) 205 (gz Bl);simp only[Um]at h;exact(h.alloc _).alloc _
  .have h:=Bx.new ((((W.alloc (Z4 (a9 C) 335)).alloc (Z4 #[I Z8 (of:Int)] 123)).alloc (Z4 #[I O (p:Int)] 3)).alloc (Z4 #[gz Bl] 205)) 350 (.func (.yield l) #[] #[]);simp only[Um]at h;exact h.alloc _
  .have h:=Bx.new (((((W.alloc (Z4 (a9 C) 335)).alloc (Z4 #[I Z8 (of:Int)] 123)).alloc (Z4 #[I O (p:Int)] 3)).alloc (Z4 #[gz Bl] 205)).alloc (Z4 #[.func (.yield l) #[] #[]] 350)) 4 (Z1 ZU);simp only[Um]at h;exact h
 have kf:((((((W.alloc (Z4 (a9 C) 335)).alloc (Z4 #[I Z8 (of:Int)] 123)).alloc (Z4 #[I O (p:Int)] 3)).alloc (Z4 #[gz Bl] 205)).alloc (Z4 #[.func (.yield l) #[] #[]] 350)).alloc (Z4 #[Z1 ZU] 4)).heap.size=W.heap.size+6:=ej;unfold gz at T U' kf⊢;obtain⟨W6,ko⟩:=nM (((((((W.alloc (Z4 (a9 C) 335)).alloc (Z4 #[I Z8 (of:Int)] 123)).alloc (Z4 #[I O (p:Int)] 3)).alloc (Z4 #[.func (.func 228) #[] #[Z6 (J ⟨Bl,0,U⟩)]] 205)).alloc (Z4 #[.func (.yield l) #[] #[]] 350)).alloc (Z4 #[Z1 ZU] 4)));rw[ko]at T U' kf;obtain⟨fn,tmps,assign,body,hy,q2⟩:=hY (n-1) s C W6 (u s W W6 hJ (T.mono P)) hf;have c9:=U'.yld.cell;have r:=ak U';have HB:=ak T;have HS:=ak kf;gi_wp2_with(first|(rw[ko];refine lG rfl (Z0 5) rfl W.heap.size C rfl r.o.ck ?_)|(refine lG rfl (Z0 5) rfl W.heap.size C rfl r.o.ck ?_));refine⟨λh=>Bf,q2.mono ?_⟩;rintro e b⟨rfl,km,k0⟩;have hA:bg n0 W b:=(bg.RM HB.o).trans k0;have ks:VB b W.heap.size C of p Bl l:=r.o.keep (λk k1 k2=>k0.block k V (ia HS.o));have qq:W.heap.size+6<=b.heap.size:=by have:=k0.size;have:=HS.o;omega
 have kp:=S _ _ km;have c6:=ks.set.cell;have r:=ak ks;gi_wp2;refine cM (eo of b) ?_;rintro e w'⟨rfl,rfl⟩;have q3:aI (b.alloc (Z4 #[I Z8 (of:Int)] 123)):=kp.2.2.mono (B:=b.heap.size) V (bA _ _);have q6:(b.alloc (Z4 #[I Z8 (of:Int)] 123)).cell? ⟨b.heap.size,0,U⟩=J (I Z8 (of:Int)):=(Bx.new b 123 (I Z8 (of:Int))).cell;have h0:VI K d C of p s W (b.alloc (Z4 #[I Z8 (of:Int)] 123)).heap.size n0 Bl l J' ZU [] (b.alloc (Z4 #[I Z8 (of:Int)] 123)):=⟨rfl,r.o.keep (λk k1 k2=>VS _ _ _ V),u _ _ _ km ((TW _ _).alloc kp.2.1 _),hA.trans (bg.RM (bA _ _)),TV _,TV _⟩;have qh:(b.alloc (Z4 #[I Z8 (of:Int)] 123)).heap.size=b.heap.size+1:=ej;obtain⟨R,q5⟩:=nM (b.alloc (Z4 #[I Z8 (of:Int)] 123));have H0:=ak h0;have HC:=ak q6;have HT:=ak q3;have g:=ak qh;gi_wp2;rw[q5]at H0 HC HT g;refine WQ rfl (ia HN.o) (gf:=154) (lb:=#[Z6 (J ⟨b.heap.size,0,U⟩)]) rfl trivial (U9 func154 ee rfl) (fD (n-1) b.heap.size of kb R (ia g.o) HC.o (ia g.o) HT.o) (λh k=>yV h k) (yW (ia g.o)) (TW _ _) (λ_=>rfl) (VI K d C of p s W R.heap.size n0 Bl l J' ZU) (VX K d C of p s W R.heap.size n0 Bl l J') (VI.own u (ia g.o) P) (λc=>by rintro pre X Y row⟨E,f⟩hg hr;exact⟨E,VI.own u (ia g.o) P pre X Y row f hg hr⟩) H0.o (λx=>{tmps:=#[.agg (a9 C),I Z8 (of:Int),I O (p:Int),.func (.func 228) #[] #[Z6 (J ⟨Bl,0,U⟩)],.func (.yield l) #[] #[],Z6 (J ⟨W.heap.size,0,U⟩),Z6 (J ⟨W.heap.size+1,0,U⟩),Z6 (J ⟨W.heap.size+1+1,0,U⟩),Z6 (J ⟨W.heap.size+1+1+1,0,U⟩),Z6 (J ⟨W.heap.size+1+1+1+1,0,U⟩),Z6 (J ⟨W.heap.size+1+1+1+1+1,0,U⟩),I O (x.1:Int),ZY,.func (.yield l) #[] #[],.agg (a9 C),Z1 ZV,Z1 ZU,I Z8 (of:Int),.func (.func 154) #[] #[Z6 (J ⟨b.heap.size,0,U⟩)],I O (x.1:Int),ZY,ZY,ZY,ZY,ZY,ZY,ZY,ZY,ZY,ZY,ZY,ZY,ZY,ZY,ZY,ZY,ZY,ZY,ZY],defers:=[]}) ?assign ?body ?done ?stop;case assign=>intro l2 x X Kk hK;unfold sF;gi_wp2;exact hK
 case body=>
  rintro l2 pre x X⟨E,f,t,H,y,I'⟩qc;obtain⟨q,sx,qi⟩:∃q sx,jD K d C of p s pre=(q,sx,ZU):=⟨_,_,by rw[<-E]⟩;have kr:=F9 K d C of p s pre x;rw[qi]at f t y kr;simp only at f t y;have ka:(ae of).length<=16:=by rw[<-lH of];exact rN of
  have hq:q<=p+16:=V;have qg:q<=100000:=V;have hl:=S _ _ t;have cl:=hl.1;have c7:=f.pas.cell;have f7:=f.pas.frozen;have c8:=f.Sd.cell;unfold gz at c8;have r:=ak f;have Z:=ak t;have V':=ak H;have hx:=ak kr;have hm:=x.2;have Q:=ak I';gi_wp2;refine dJ (zP q sx.2 Bl X cl) ?_;rintro e w'⟨rfl,rfl⟩;by_cases O':q<sx.2
  . have k8:decide (q<sx.2)=ZV:=U4 O';rw[k8];have hz:=zeroCk;have q7:=r.o.ck;gi_wp2_with(first|(refine lG rfl (Z0 5) rfl W.heap.size C rfl q7 ?_)|(refine kJ rfl (Z0 12) (Z0 24) rfl w'.heap.size C ei rfl rfl (aH.new w' ei) ?_));have q8:aH ((w'.alloc (Z4 (a9 ei) 335)).setRow w'.heap.size (a9 C)) w'.heap.size C:=(aH.new w' ei).setRow C;have k6:bW w' ((w'.alloc (Z4 (a9 ei) 335)).setRow w'.heap.size (a9 C)):=(bA _ _).grown (aT _ _ _) ej (λk e=>E3);refine dJ (DH w'.heap.size x.1 C _ q8 hf hm) ?_;rintro e w2(⟨qe,rfl,qm⟩|⟨C',qf,rfl,kj,q9⟩);·subst qm;have HL:=ak qe;have F:=ak k6;gi_wp2;have k9:=g.o;have I':=Q.o;have q4:=r.o.keep (λk k1 k2=>F.out.block k V);refine⟨(bg.RM F.out).keeps (T8 _),Ho.RM V F.out,?_⟩;unfold VI;rw[hx.out,JQ O' HL.o];exact⟨rfl,q4,u _ _ _ Z.o (F.out.mono V),V'.o.trans (bg.RM F.out),by rw[Ua];exact YO y,ia F.out.size⟩
    ·have k5:bW w' w2:=k6.grown q9 k6.size (λk e=>E3);have qj:w'.heap.size<w2.heap.size:=kj.lt;have ki:=ak qf;have kv:=ak k5;have kx:=ak kj;have qd:W.heap.size+6<=w'.heap.size:=(by have:=g.o;have:=Q.o;omega);have qk:VB w2 W.heap.size C of q Bl l:=r.o.keep (λk k1 k2=>k5.block k V);have qa:J' sx w2:=u _ _ _ Z.o (k5.mono V);have L:=ak qk;have ky:=ak qa;gi_wp2;have kg:=(Vo (n:=9)).1 (ke 9 x.1 C' (dI of x.1) q sx w2.drew ki.out (qW _ _ kb) V (u _ _ _ ky.out (TW _ _).drew));have k7:aH w2.drew w'.heap.size C':=kx.out;have c1:=L.out.set.cell;have c2:=L.out.pas.cell;have c3:=L.out.Sd.cell;have c4:=L.out.yld.cell;refine bM (dK _) 7 [(0,ZV),(1,ZV),(2,ZV),(4,ZV),(5,ZV),(6,ZV),(3,ZU),(7,ZU),(8,ZU)] (λj=>j=w2.drew) ee ee rfl ?_;refine cZ rfl rfl ⟨.agg (a9 C'),λj hS=>by subst hS;simp[execOp,Act.eval,ny k7,Result.andThen],?_⟩;simp only[Act.put,TZ,T5,T6];iterate 5(refine cZ rfl rfl ?_;apply YN;refine⟨λj hS=>?_,?_⟩;(subst hS;first|(go_simp;done)|(go_simp;exact rfl));simp only[Act.put,TZ,T5,T6])
     refine fU (dK _) (Fs of x.1 kb hm w2.drew) rfl rfl nofun oB ?_;rintro e j⟨rfl,rfl⟩;refine⟨_,rfl,λ_=>rfl,?_⟩;simp only[Act.put,TZ,T5,T6];refine fU (dK _) kg rfl rfl nofun oB ?_;rintro e j⟨rfl,q1,M⟩;refine⟨_,rfl,xJ,?_⟩;simp only[Act.put,TZ,T5,T6];refine m8 (dK _) (v:=Z1 ZU) (w1:=j) rfl rfl nofun oB (λh=>absurd h ec) (bI ?_);simp only[Act.put,TZ,T5,T6];rename_i hK;refine hK _ _ ?_;have he:bg n0 w2 j:=⟨M.os,M.tape,M.output,M.size,M.block⟩;have hv3:VB j W.heap.size C of q Bl l:=L.out.keep (λk k1 k2=>he.block k V V);have c7:=hv3.pas.cell;have f7:=hv3.pas.frozen;obtain⟨qs,qn⟩:=JR q qg;have q0:=ak hv3;have kz:=ak q1;have kh:=ak he;gi_wp2;have k9:=g.o;have I':=Q.o;have kk:J' (Fb K d C' (dI of x.1) q sx) (j.setCell ⟨W.heap.size+1+1,0,U⟩ (I O ((q+1:Nat):Int))):=u _ _ _ kz.out ((TW _ _).setCell (p:=⟨W.heap.size+1+1,0,U⟩) (by show n0<=W.heap.size+1+1;omega) _);have hc:bg n0 w' j:=(bg.RM kv.out).trans kh.out;have qb:KeepsFrom R.heap.size w' (j.setCell ⟨W.heap.size+1+1,0,U⟩ (I O ((q+1:Nat):Int))):=(hc.keeps V).trans ((V6 _ _ _).from _);refine⟨qb,λ_=>(S _ _ kk).2.2,?_⟩;unfold VI;rw[hx.out,PG O' ki.out];refine⟨rfl,q0.out.passed (q+1),kk,(V'.o.trans hc).setCell (p:=⟨W.heap.size+1+1,0,U⟩) (.inr (TU (XM _) (XM _))) _,by rw[Ua];exact Nat.succ_le_succ y,?_⟩;have:=kh.out.size;simp only[World.setCell,acW];omega
  .have k8:decide (q<sx.2)=ZU:=Vk O';rw[k8];gi_wp2;refine⟨Yi _ _,rfl,?_⟩;unfold VI;rw[hx.out,JP O'];exact⟨rfl,r.o,Z.o,V'.o,by rw[Ua];exact YO y,Q.o⟩
 case done=>rintro D xs X hD qo⟨E,f,t,H,y,I'⟩hK;have h8:=JO (K:=K) (d:=d) (C:=C) (p:=p) (s:=s) qo;rw[h8]at t;have hb:=f.res.cell;have f10:=f.res.frozen;have k9:=g.o;have w:=au f t H;gi_wp2;exact zQ (a:=_) u P V V V w.o.1.res w.o.2.1 w.o.2.2 hK ej adQ ej
 case stop=>rintro D c pre X hD kc⟨rfl,E,f,t,H,y,I'⟩hK;have h8:=Ga (K:=K) (d:=d) (C:=C) (p:=p) (s:=s) kc E;rw[h8]at t;have hb:=f.res.cell;have f10:=f.res.frozen;have k9:=g.o;have w:=au f t H;gi_wp2;exact zQ (a:=_) u P V V V w.o.1.res w.o.2.1 w.o.2.2 hK ej adQ ej
def JS(a:fh C)(h:iX C i=J C'):fh C':=by obtain⟨r,rfl,b,c,_⟩:=gU h;have:=a.Sg;exact⟨oq a.byt,by show C.told<=C.count-1;omega,by show C.count-1<=8;omega⟩
def MT(K:a7)(n0 Bl l:Nat)(J':cW->ZT->Prop)(h:∀s A B,J' s A->ZR n0 A B->J' s B)(j:∀s A,J' s A->A.cell? ⟨Bl,0,U⟩=J (I O (s.2:Int))/\n0<=A.heap.size/\aI A)(k:2<=n0)(n:∀m s C c,J' s c->fh C->YieldAt Fence.wide m ZL l #[.agg (a9 C)] c λe W'=>e=Z3 (Z1 ZV)/\J' (fQ K s C) W'/\bg n0 c W'):∀(d m:Nat)(C:Ck)(of p:Nat)(s:cW)(W:ZT),fh C->C.count<=C.told+d->of<65536->p+16*(d+1)<=100000->J' s W->CallsIn Fence.wide m ZL 232 #[.agg (a9 C),I Z8 of,I O p,gz Bl,.func (.yield l) #[] #[]] W λe W'=>e=Z3 (Z1 ZV)/\J' (iZ K d C of p s) W'/\bg n0 W W':=by intro d;induction d with|zero=>intro m C of p s W b y f z g;refine vC K n0 Bl l J' h j k n 0 m C of p s W b f V g ?_;intro m i C' a o q W' hl;obtain⟨r,_,t,u,_⟩:=gU hl;omega|succ d ih=>intro m C of p s W b y f z g;refine vC K n0 Bl l J' h j k n (d+1) m C of p s W b f V g ?_;intro m i C' a o q W' hl ho D w;have x:=JS b hl;obtain⟨r,v,t,u,_⟩:=gU hl;exact ih m C' a o q W' x (by rw[v];show C.count-1<=C.told+d;omega) ho V w
end
def zR{B':Nat}(h:aH W B C)(a:Bx W B' v):B≠B':=by rintro rfl;obtain⟨t,a⟩:=a;have e:=h.heap.symm.trans a;simp only[UF,UT]at e;have:=Uy Array.size e.1;rw[cK]at this;simp at this
section
def acu(e:Exit):Prop:=e=.normal
attribute [local go_sem] Oper.semAt_some
theorem Bh(C:Ck)(kept Bl:Nat)(w:ZT):ZQ ZL 229 #[.agg (a9 C),I Z8 kept,gz Bl] w λe w'=>e=Z3 (.func (.func 231) #[] #[Z6 (J ⟨w.heap.size,0,U⟩),Z6 (J ⟨w.heap.size+1,0,U⟩),Z6 (J ⟨w.heap.size+1+1,0,U⟩)])/\aH w' w.heap.size C/\Bx w' (w.heap.size+1) (I Z8 (kept:Int))/\Bx w' (w.heap.size+1+1) (gz Bl)/\bW w w'/\w'.heap.size=w.heap.size+3:=by
 unfold gz;go_enter func229,ntmps229;go_wp2;go_ret;refine⟨rfl,?_,?_,?_,?_,ej⟩;.exact(aH.new w C).keep (by rw[VS _ _ _ ek,VS _ _ _ ej])
 .have h:=Bx.new (w.alloc (Z4 (a9 C) 335)) 123 (I Z8 (kept:Int));rw[Um]at h;exact h.alloc _
 .have h:=Bx.new ((w.alloc (Z4 (a9 C) 335)).alloc (Z4 #[I Z8 (kept:Int)] 123)) 205 (.func (.func 228) #[] #[Z6 (J ⟨Bl,0,U⟩)]);simp only[Um]at h;exact h
 .exact((bA w _).alloc ej _).alloc ek _
theorem Bi(K:a7)(n0 Bl l:Nat)(J':cW->ZT->Prop)(j:∀s A B,J' s A->ZR n0 A B->J' s B)(k:∀s A,J' s A->A.cell? ⟨Bl,0,U⟩=J (I O (s.2:Int))/\n0<=A.heap.size/\aI A)(p:2<=n0)(r:∀m s C b,J' s b->fh C->YieldAt Fence.wide m ZL l #[.agg (a9 C)] b λe W'=>e=Z3 (Z1 ZV)/\J' (fQ K s C) W'/\bg n0 b W')(n a Bs c:Nat)(C:Ck)(kept:Nat)(s:cW)(W:ZT)(t:aH W a C)(w:Bx W Bs (I Z8 (kept:Int)))(o:Bx W c (gz Bl))(d:fh C)(u:kept<65536)(q:J' s W):CallsIn Fence.wide n ZL 231 #[.func (.yield l) #[] #[],Z6 (J ⟨a,0,U⟩),Z6 (J ⟨Bs,0,U⟩),Z6 (J ⟨c,0,U⟩)] W λe W'=>(∃v,e=Z3 v)/\J' (iZ K 8 C kept 0 s) W':=by have f:=λm=>MT K n0 Bl l J' j k p r 8 m C kept 0 s W d (ia d.Sg) u ec q;have c1:=w.cell;have g:=o.cell;unfold gz at g f;refine Xl func231 rfl trivial ?_ rfl;simp only[ntmps231,UK,UC,U0,YF,YG,Vf,Vg,Vh,Vi,Ut,U1];gi_wp2_with(refine lG rfl (Z0 1) rfl a C rfl t ?_);refine⟨trivial,λh=>Bf,(f _).mono ?_⟩;rintro e W'⟨rfl,i,_⟩;gi_wp2;go_end0;exact⟨⟨_,rfl⟩,i⟩
structure FI(w:ZT)(kept B5 B6 B7:Nat)(s:cW)(W:ZT):Prop where
 Sx:aH W B5 s.1least:Bx W B6 (I O (s.2:Int))Sd:Bx W B7 (gz B6)set:Bx W (w.heap.size+1) (I Z8 (kept:Int))res:aH W (w.heap.size+1+1) ei
 below:bW w W
def FI.mono{B5 B6 B7:Nat}(h:FI w kept B5 B6 B7 s W)(a:ZR B W W')(b:W.heap.size<=B\/(B5<B/\B6<B/\B7<B/\w.heap.size+3<=B)):FI w kept B5 B6 B7 s W':=by have:=h.Sx.lt;have:=h.least.lt;have:=h.Sd.lt;have:=h.res.lt;exact⟨h.Sx.keep (a.block _ V),h.least.keep (a.block _ V),h.Sd.keep (a.block _ V),h.set.keep (a.block _ V),h.res.keep (a.block _ V),h.below.trans (a.mono V)⟩
def MU{z:Int}(p least Bl:Nat)(w:ZT)(b:z=(p:Int))(a:w.cell? ⟨Bl,0,U⟩=J (I O (least:Int))):ZQ ZL 228 #[I O z,Z6 (J ⟨Bl,0,U⟩)] w λe w'=>e=Z3 (Z1 (decide (p<least)))/\w'=w:=by subst b;exact zP p least Bl w a
def cR(x:Ck)(pre:List Sh):Nat:=((pre.map (·.1)).filter (cY x)).length
theorem PH(x:Ck)(pre:List Sh)(i:Sh):cR x (pre++[i])=cR x pre+(if cY x i.1=ZV then 1 else 0):=by
 unfold cR;rw[Uz,Wv,Ua];congr 1;by_cases h:cY x i.1=ZV;.simp[h]
 .simp[h]
def aaS{x:Ck}(h:pre.map (·.1)=ae kept):cR x pre=iq (ae kept) x:=by unfold cR iq;rw[h]
def PI{x:Ck}(h:pre.map (·.1)<+:ae kept):cR x pre<=iq (ae kept) x:=by unfold cR iq;obtain⟨R,a⟩:=h;rw[<-a,Wv,Ua];omega
def abZ(x:Ck)(pre:List Sh):cR x pre<=pre.length:=by unfold cR;exact TU (WS _ _) (by rw[Uf];exact TV _)
def InI(X:ZT)(s:cW)(x:Ck)(pre:List Sh)(Y:ZT):Prop:=bW X Y/\Bx Y X.heap.size (I O (cR x pre:Int))/\(cR x pre=0\/cR x pre<s.2)
def InI.own{x:Ck}(i:X.heap.size+1<=B):OwnFrom B (λpre Y=>InI X s x pre Y):=by rintro pre A h row⟨c,d,g⟩b a;have f:=d.lt;exact⟨c.grown b (ia c.size) (λk e=>ia ((a k e).1)),d.keep (b.block _ f (λe=>ia ((a _ e.symm).1))),g⟩
structure Q7(w wx:ZT)(b5 b6:Nat):Prop where
 l5:w.heap.size<=b5
 l6:w.heap.size<=b6
 ck:aH wx b5 ei
 nm:wx.heap[b6]?=J (Z4 #[I O 0] 3 (0,0))ne:b6≠b5
 bl:bW w wx
def Q7.new1(w:ZT):Q7 w ((w.alloc (Z4 (a9 ei) 335)).alloc (Z4 #[I O 0] 3)).drew w.heap.size (w.heap.size+1):=⟨TV _,XM _,(aH.new w ei).keep (UE _ _ _ ej),by have:=Ug (w.alloc (Z4 (a9 ei) 335)) (Z4 #[I O 0] 3);rwa[Um]at this,V,((bA w _).alloc ej _).drew⟩
def Q7.new2(w:ZT):Q7 w ((w.alloc (Z4 #[I O 0] 3)).alloc (Z4 (a9 ei) 335)).drew (w.heap.size+1) w.heap.size:=⟨XM _,TV _,by have:=aH.new (w.alloc (Z4 #[I O 0] 3)) ei;rwa[Um]at this,(UE _ _ _ ej).trans (Ug _ _),V,((bA w _).alloc ej _).drew⟩
def Q7.lay{wx:ZT}{b5 b6:Nat}(h:Q7 w wx b5 b6)(C:Ck)(n:Nat):(wx.setRow b5 (a9 C)).cell? ⟨b6,0,U⟩=J (I O 0)/\(wx.setRow b5 (a9 C)).frozen? ⟨b6,0,U⟩=ZU/\w.heap.size<=b5/\w.heap.size<=b6/\aH ((wx.setRow b5 (a9 C)).setCell ⟨b6,0,U⟩ (I O (n:Nat))) b5 C/\Bx ((wx.setRow b5 (a9 C)).setCell ⟨b6,0,U⟩ (I O (n:Nat))) b6 (I O (n:Nat))/\bW w ((wx.setRow b5 (a9 C)).setCell ⟨b6,0,U⟩ (I O (n:Nat))):=by have b:=aT wx b5 (a9 C);have a:(wx.setRow b5 (a9 C)).heap[b6]?=J (Z4 #[I O 0] 3 (0,0)):=(b.block b6 (TX.1 h.nm).1 (λe=>h.ne adT)).trans h.nm;exact⟨Zm,adR,h.l5,h.l6,(h.ck.setRow C).keep (V8 _ _ _ _ h.ne.symm),⟨3,Boxed.set _ a⟩,(h.bl.grown b h.bl.size (λk e=>by cases e;exact h.l5)).setCell (p:=⟨b6,0,U⟩) h.l6 _⟩
theorem Gb(C:Ck)(kept:Nat)(w:ZT)(N:fh C)(T:kept<65536)(hT:aI w)(h2:3<=w.heap.size):ZQ ZL 218 #[.agg (a9 C),I Z8 kept] w λe w'=>e=Z3 (.agg (a9 (aS 8 C kept).1))/\bW w w':=by
 have S:=cK C;have hc:=cK ei;have hz:=zeroCk;obtain⟨n,HN⟩:∃n:Nat,cL (9<=n):=⟨9,TV _⟩;refine(Vo (n:=n)).1 ?_;refine WO func218 rfl trivial ?_ rfl;simp only[ntmps218,UK,UC,U0,YF,YG,Vf,Vg,Vh,Vi,Ut,U1];have b0:bW w (((w.alloc (Z4 (a9 C) 335)).alloc (Z4 #[I Z8 (kept:Int)] 123)).alloc (Z4 (a9 ei) 335)):=((bA w _).alloc ej _).alloc ek _;have c0:aH (((w.alloc (Z4 (a9 C) 335)).alloc (Z4 #[I Z8 (kept:Int)] 123)).alloc (Z4 (a9 ei) 335)) w.heap.size C:=(aH.new w C).keep (by rw[VS _ _ _ ek,VS _ _ _ ej]);have s0:Bx (((w.alloc (Z4 (a9 C) 335)).alloc (Z4 #[I Z8 (kept:Int)] 123)).alloc (Z4 (a9 ei) 335)) (w.heap.size+1) (I Z8 (kept:Int)):=by have h:=Bx.new (w.alloc (Z4 (a9 C) 335)) 123 (I Z8 (kept:Int));rw[Um]at h;exact h.alloc _
 have r0:aH (((w.alloc (Z4 (a9 C) 335)).alloc (Z4 #[I Z8 (kept:Int)] 123)).alloc (Z4 (a9 ei) 335)) (w.heap.size+1+1) ei:=by have h:=aH.new ((w.alloc (Z4 (a9 C) 335)).alloc (Z4 #[I Z8 (kept:Int)] 123)) ei;simp only[Um]at h;exact h
 have z0:(((w.alloc (Z4 (a9 C) 335)).alloc (Z4 #[I Z8 (kept:Int)] 123)).alloc (Z4 (a9 ei) 335)).heap.size=w.heap.size+3:=ej;obtain⟨u,qm⟩:=nM (((w.alloc (Z4 (a9 C) 335)).alloc (Z4 #[I Z8 (kept:Int)] 123)).alloc (Z4 (a9 ei) 335));rw[qm]at b0 c0 s0 r0 z0;have HB:=ak b0;have HC:=ak c0;have HS:=ak s0;have HR:=ak r0;have HZ:=ak z0;clear b0 c0 s0 r0 z0;gi_wp2;refine Ls ?_;gi_wp2;have k6:=TW u.heap.size u;have fV:∀{t:ZT},bW u t->bW u t.drew:=λh=>h.drew;have kg:∀{t:ZT}(o:Obj),bW u t->bW u (t.alloc o):=λo h=>h.alloc h.size o;refine Code.wpIn_mono (Q:=λe O' d=>acu e/\∃f a u2 u3 u4 u5 u6 u7 u8,(u.heap.size<=f/\u.heap.size<=a/\aH d f C/\Bx d a (I O ((ae kept).length:Nat))/\bW u d)/\O'={tmps:=#[.agg (a9 C),I Z8 (kept:Int),Z6 (J ⟨w.heap.size,0,U⟩),Z6 (J ⟨w.heap.size+1,0,U⟩),Z6 (J ⟨w.heap.size+1+1,0,U⟩),Z6 (J ⟨f,0,U⟩),Z6 (J ⟨a,0,U⟩),u2,u3,u4,u5,u6,u7,u8,ZY,ZY,ZY,ZY,ZY,ZY,ZY,ZY,ZY,ZY,ZY,ZY,ZY,ZY,ZY,ZY,ZY,ZY,ZY,ZY,ZY],defers:=[]}) ?_ ?_;rotate_left
 . refine oW iD 5 (wl [(0,ZV),(1,ZV)] (.fk (.on 2 ZU (.fk (wl [(3,ZU),(4,ZU),(5,ZU),(6,ZU)] .en) (wl [(4,ZU),(3,ZU),(5,ZU),(6,ZU)] .en))) (.fk (.on 3 ZU (.fk (wl [(2,ZU),(4,ZU),(5,ZU),(6,ZU)] .en) (wl [(4,ZU),(2,ZU),(5,ZU),(6,ZU)] .en))) (.on 4 ZU (.fk (wl [(2,ZU),(3,ZU),(5,ZU),(6,ZU)] .en) (wl [(3,ZU),(2,ZU),(5,ZU),(6,ZU)] .en)))))) (λt=>bW u t) ee ee (fV k6) ?_;refine cZ rfl rfl ⟨.agg (a9 C),λt L=>by simp[execOp,Act.eval,ny (HC.o.mono L HC.o.lt),Result.andThen],?_⟩;simp only[Act.put,TZ,T5,T6];refine cZ rfl rfl ⟨I Z8 (kept:Int),λt L=>by have cs:=(HS.o.keep (L.block _ HS.o.lt)).cell;go_simp,?_⟩;simp only[Act.put,TZ,T5,T6];have S:∀t,ZQ ZL 226 #[I Z8 (kept:Int)] t λe F=>e=Z3 (I O ((ae kept).length:Nat))/\F=t:=Cy kept T;repeat'(first|(show LW _ _ _ _ _ _ (.fk _ _) _ _;apply And.intro)|(show LW _ _ _ _ _ _ (.on 2 ZU _) _ _;refine fU iD (S _) rfl rfl nofun (by first|(go_simp;done)|(go_simp;exact rfl)) ?_;rintro e t⟨rfl,rfl⟩;refine⟨_,rfl,λ_=>(by repeat(first|exact k6|apply fV|apply kg)),?_⟩;simp only[Act.put,TZ,T5,T6])|(show LW _ _ _ _ _ _ (.on 3 ZU _) _ _;refine m8 iD rfl rfl nofun Lx (λ_=>(by repeat(first|exact k6|apply fV|apply kg))) ?_;simp only[Act.put,TZ,T5,T6])|(show LW _ _ _ _ _ _ (.on 4 ZU _) _ _;refine m8 iD rfl rfl nofun Lx (λ_=>(by repeat(first|exact k6|apply fV|apply kg))) ?_;simp only[Act.put,TZ,T5,T6]))
   all_goals
    first|(have N:=Q7.new1 u;have M:=lF C N.ck;obtain⟨cc,ff,hp⟩:=N.lay C ((ae kept).length:Nat);refine eC iD rfl rfl nofun (by simp[execOp,Act.eval,M,Result.andThen];exact rfl) xJ ?_)|(have N:=Q7.new2 u;have M:=lF C N.ck;obtain⟨cc,ff,hp⟩:=N.lay C ((ae kept).length:Nat);refine eC iD rfl rfl nofun (by simp[execOp,Act.eval,M,Result.andThen];exact rfl) xJ ?_)
    simp only[Act.put];refine eC iD rfl rfl nofun (by first|(go_simp;done)|(go_simp;exact rfl)) (λh=>absurd h ec) (bI ?_);simp only[Act.put];exact⟨rfl,_,_,_,_,_,_,_,_,_,hp,rfl⟩
 rintro e O' d⟨he,f,a,u2,u3,u4,u5,u6,u7,u8,⟨l5,l6,c5,R,y⟩,rfl⟩;obtain rfl:e=.normal:=he;clear qm;have qo:=HZ.o;have cN:=(Bx.new d 205 .nilFunc).cell;have fN:=(Bx.new d 205 .nilFunc).frozen;have v:bW d ((d.alloc (Z4 #[.nilFunc] 205)).setCell ⟨d.heap.size,0,U⟩ (gz a)):=(bA _ _).setCell (p:=⟨d.heap.size,0,U⟩) lR _;have hm:FI w kept f a d.heap.size (C,(ae kept).length) ((d.alloc (Z4 #[.nilFunc] 205)).setCell ⟨d.heap.size,0,U⟩ (gz a)):=⟨c5.keep (v.block _ c5.lt),R.keep (v.block _ R.lt),(Bx.new d 205 .nilFunc).set _,HS.o.keep ((v.block _ (ia y.size)).trans (y.block _ V)),HR.o.keep ((v.block _ (ia y.size)).trans (y.block _ V)),(HB.o.trans (y.mono V)).trans (v.mono (ia y.size))⟩;have kj:aH ((d.alloc (Z4 #[.nilFunc] 205)).setCell ⟨d.heap.size,0,U⟩ (gz a)) w.heap.size C:=HC.o.keep ((v.block _ (ia y.size)).trans (y.block _ V));have k8:((d.alloc (Z4 #[.nilFunc] 205)).setCell ⟨d.heap.size,0,U⟩ (gz a)).heap.size=d.heap.size+1:=oD;have xf:=y.size;have y3:=R.lt;have y0:=c5.lt;obtain⟨w5,kx⟩:=nM ((d.alloc (Z4 #[.nilFunc] 205)).setCell ⟨d.heap.size,0,U⟩ (gz a));rw[kx]at hm kj k8;unfold gz at kx;have c7:=hm.Sd.cell;unfold gz at c7;have c3:=hm.set.cell;have U':=ak hm;have qq:=ak kj;have x2:=ak k8;have k0:=ak qo;clear hm kj k8 v c5 R y HB HC HS HR HZ xf qo hz S hc;have kk:=Bh C kept a w5;unfold gz at kk;gi_wp2;refine wpIn_label ?_;gi_wp2_with(refine lG rfl (Z0 2) rfl w.heap.size C rfl qq.out ?_);refine cM kk ?_;clear kk;rintro e w6⟨rfl,k1,k2,k3,k4,k5⟩;have qs:=ak k1;have qv:=ak k2;have qx:cL (Bx w6 (w5.heap.size+1+1) (gz a)):=ak k3;have qy:=ak k4;have q4:=ak k5;clear k1 k2 k3 k4 k5 kx cN fN c7 c3;gi_wp2;have x3:FI w kept f a d.heap.size (C,(ae kept).length) w6:=U'.o.mono qy.out (.inl lR);have xz:=U'.o.Sx.lt;have y2:=U'.o.least.lt;have y5:=U'.o.Sd.lt;have xy:=U'.o.res.lt;have qf:=q4.out;obtain⟨m,HM⟩:∃m:Nat,cL (9<=m):=⟨9,TV _⟩;refine Lt (P:=ZL) (n:=n) m (w:=w6) (gf:=231) (lb:=#[Z6 (J ⟨w5.heap.size,0,U⟩),Z6 (J ⟨w5.heap.size+1,0,U⟩),Z6 (J ⟨w5.heap.size+1+1,0,U⟩)]) rfl (U9 func231 ee rfl) (encs:=λC:Ck=>#[.agg (a9 C)]) (λ_=>rfl) (fQ (ae kept)) fh (FI w kept f a d.heap.size) (λs A B h hb=>h.mono hb (.inr ⟨V,V,V,V⟩)) (λs=>s=aS 8 C kept) (C,(ae kept).length) ?call x3 (λB x O' A=>∃j,B<=j/\aH A j x/\O'={tmps:=#[.agg (a9 C),I Z8 (kept:Int),Z6 (J ⟨w.heap.size,0,U⟩),Z6 (J ⟨w.heap.size+1,0,U⟩),Z6 (J ⟨w.heap.size+1+1,0,U⟩),Z6 (J ⟨f,0,U⟩),Z6 (J ⟨a,0,U⟩),Z6 (J ⟨d.heap.size,0,U⟩),Z6 (J ⟨j,0,U⟩),u4,u5,u6,u7,u8,.func (.func 228) #[] #[Z6 (J ⟨a,0,U⟩)],.agg (a9 C),I Z8 (kept:Int),.func (.func 228) #[] #[Z6 (J ⟨a,0,U⟩)],.func (.func 231) #[] #[Z6 (J ⟨w5.heap.size,0,U⟩),Z6 (J ⟨w5.heap.size+1,0,U⟩),Z6 (J ⟨w5.heap.size+1+1,0,U⟩)],.agg (a9 x),ZY,ZY,ZY,ZY,ZY,ZY,ZY,ZY,ZY,ZY,ZY,ZY,ZY,ZY,ZY],defers:=[]}) ?ax ?assign ?body ?done;case call=>
  intro l J' W ki xo x7 x6 hY x5;refine(Bi (ae kept) (w6.heap.size+2) a l J' x7 (λs A hj=>?_) V hY (n-1) w5.heap.size (w5.heap.size+1) (w5.heap.size+1+1) C kept _ W (qs.out.keep (ki.block _ V)) (qv.out.keep (ki.block _ V)) (qx.out.keep (ki.block _ V)) N T x5).mono ?_;.obtain⟨fi,hs⟩:=x6 s A hj;exact⟨fi.least.cell,hs,hT.mono V fi.below⟩
  .rintro e W'⟨hv,x4⟩;exact⟨hv,_,rfl,x4⟩
 case ax=>rintro B x O' A A'⟨j,h1,q9,h3⟩x9;exact⟨j,h1,q9.keep (x9.block j h1 q9.lt),h3⟩
 case assign=>intro l s x W K G qc hK;have hz:=zeroCk;have hc:=cK ei;gi_wp2_with(refine kJ rfl (Z0 8) (Z0 19) rfl W.heap.size x ei rfl rfl (aH.new W ei) ?_);exact hK _ _ ((bA _ _).grown (aT _ _ _) ej (λk e=>E3)) ⟨W.heap.size,TV _,(aH.new W ei).setRow x,rfl⟩
 case body=>
  rintro l B s x O' X hl xm xi⟨r,hr⟩G qc⟨j,xh,qn,rfl⟩;have xc:l<X.heap.size:=(TX.1 hr).1;have kh:bW X (X.alloc (Z4 #[I O 0] 3)):=bA _ _;have c3:=(G.mono kh (.inl lR)).set.cell;have hn:bW X ((X.alloc (Z4 #[I O 0] 3)).alloc (Z4 #[I Z8 (kept:Int)] 123)):=kh.alloc ej _;have qa:=(Bx.new X 3 (I O 0)).alloc (Z4 #[I Z8 (kept:Int)] 123);have kr:=(Bx.new (X.alloc (Z4 #[I O 0] 3)) 123 (I Z8 (kept:Int))).cell;have ky:((X.alloc (Z4 #[I O 0] 3)).alloc (Z4 #[I Z8 (kept:Int)] 123)).heap.size=X.heap.size+1+1:=ej;rw[Um]at kr;have ka:=eo kept (X.alloc (Z4 #[I O 0] 3));rw[Um]at ka;have z:=ak G;have hy:=ak qn;have h7:=ak hn;have kz:=ak qa;have q6:=ak kr;have q8:=ak ky;have HR:=ak hr;have q0:=ak ka;clear G qn kh qa kr ky hn hr ka qf;gi_wp2;refine dJ q0.out ?_;rintro e w'⟨rfl,qk⟩;rw[<-qk]at h7 kz q6 q8;clear q0 c3 qk;gi_wp2;have x8:aI w':=hT.mono V ((z.o.mono h7.out (.inl lR)).below);have ky:=q8.out;have xe:w'.heap[l]?=J (.loop r):=(h7.out.block l xc).trans HR.o;have xj:=z.o.least;refine wpIn_rangeFunc_ownN (l₀:=l) (r₀:=r) rfl xe (ia HM.o) (gf:=154) (lb:=#[Z6 (J ⟨X.heap.size+1,0,U⟩)]) rfl trivial (U9 func154 ee rfl) ((fD (m-1) (X.heap.size+1) kept T w' V q6.out V x8).inRound l) (λh k=>yV h k) (yW V) (TW _ _) (λ_=>rfl) (λpre Y=>InI X s x pre Y) (λc pre Y=>c=.exit 1/\bW X Y/\1<=cR x pre/\s.2<=cR x pre) (InI.own V) (λc=>by rintro pre A Bw row⟨q,g,H⟩hg kp;exact⟨q,g.grown hg (ia g.size) (λk e=>ia ((kp k e).1)),H⟩) ⟨h7.out,kz.out,.inl rfl⟩ (λi V' _=>V'={tmps:=#[.agg (a9 C),I Z8 (kept:Int),Z6 (J ⟨w.heap.size,0,U⟩),Z6 (J ⟨w.heap.size+1,0,U⟩),Z6 (J ⟨w.heap.size+1+1,0,U⟩),Z6 (J ⟨f,0,U⟩),Z6 (J ⟨a,0,U⟩),Z6 (J ⟨d.heap.size,0,U⟩),Z6 (J ⟨j,0,U⟩),Z6 (J ⟨X.heap.size,0,U⟩),I O (i.1:Int),u6,u7,u8,.func (.func 228) #[] #[Z6 (J ⟨a,0,U⟩)],.agg (a9 C),I Z8 (kept:Int),.func (.func 228) #[] #[Z6 (J ⟨a,0,U⟩)],.func (.func 231) #[] #[Z6 (J ⟨w5.heap.size,0,U⟩),Z6 (J ⟨w5.heap.size+1,0,U⟩),Z6 (J ⟨w5.heap.size+1+1,0,U⟩)],.agg (a9 x),I Z8 (kept:Int),.func (.func 154) #[] #[Z6 (J ⟨X.heap.size+1,0,U⟩)],I O (i.1:Int),ZY,ZY,ZY,ZY,ZY,ZY,ZY,ZY,ZY,ZY,ZY,ZY],defers:=[]}) (λ_ _ _ _ _ _ hs _ _=>hs) ?assign2 ?body2 ?done2 ?stop2;case assign2=>rintro l2 pre i Y K hi hK;unfold sF;gi_wp2;exact hK _ _ (Yi _ _) (Ho.refl _) hi rfl
  case body2=>rintro l2 pre i V' Y _ _⟨q,g,H⟩rfl xd;have h9:=hy.out.lt;have qd:=hy.out.keep (q.block j h9);have qe:=abZ x pre;have xb:(ae kept).length<=16:=(by rw[<-lH kept];exact rN kept);have qz:=ak q;have x0:=ak g;have x1:=ak H;have c9:=g.cell;have f9:=g.frozen;have qh:=zE j i.1 x Y qd qc i.2;have qj:=PH x pre i;have q7:=ak qj;have v:bW X (Y.setCell ⟨X.heap.size,0,U⟩ (I O ((cR x pre:Int)+1))):=q.setCell (p:=⟨X.heap.size,0,U⟩) lR _;have ke:=z.o.mono v (.inl lR);have c7:=ke.Sd.cell;have R:=ke.least.cell;have kc:=g.set (I O ((cR x pre:Int)+1));have xx:=kc.cell;unfold gz at c7;have k9:=ak v;have qp:=ak kc;clear q g H qj v ke kc qd;gi_wp2;refine dJ qh ?_;clear qh;rintro e F⟨rfl,ks⟩;subst ks;cases k7:cY x i.1 with
   |false=>
    have I':cL (cR x (pre++[i])=cR x pre):=ak (by rw[q7.out,k7];simp);clear k7;gi_wp2;refine⟨Yi _ _,Ho.refl _,qz.out,?_,?_⟩;.rw[I'.out];exact x0.out
    .rw[I'.out];exact x1.out|true=>
    have I':cL (cR x (pre++[i])=cR x pre+1):=ak (by rw[q7.out,k7];simp);clear k7;gi_wp2;refine dJ (MU (cR x pre+1) s.2 a _ V R) ?_;rintro e y6⟨rfl,kv⟩;have qg:KeepsFrom w'.heap.size F (F.setCell ⟨X.heap.size,0,U⟩ (I O ((cR x pre:Int)+1))):=(V6 _ _ _).from _;have q5:=ak qg;clear qg;subst kv;by_cases hq:cR x pre+1<s.2
    . rw[U4 hq];gi_wp2;refine⟨q5.out,λ_=>hT.mono V (z.o.mono k9.out (.inl lR)).below,k9.out,?_,?_⟩;.rw[I'.out];exact qp.out
      .rw[I'.out];exact .inr hq
    . rw[Vk hq];gi_wp2;refine⟨q5.out,rfl,k9.out,?_,?_⟩;.rw[I'.out];omega
      .rw[I'.out];omega
  case done2=>
   rintro ys Y xg⟨q,g,H⟩;have qe:=aaS (x:=x) xg;rw[qe]at g H;have b:=z.o.mono q (.inl lR);have h9:=hy.out.lt;have kf:=hy.out.keep (q.block j h9);have qf:=q4.out;gi_wp2;have k8:=x2.out;have xq:j≠f:=V;have xv:=(zR b.Sx g).symm;have E:=(zR b.Sx b.least).symm;have h8:∀k,k≠f->k<Y.heap.size->(Y.drew.setRow f (a9 x)).heap[k]?=Y.heap[k]?:=λk T hq=>(aT Y.drew f (a9 x)).block k hq (λe=>T adT);have kb:=b.least.keep (h8 a E b.least.lt);have cc:=kb.cell;have ff:=kb.frozen;have hx:=lF x (show aH Y.drew f s.1 from b.Sx);refine bM (dK _) 3 [(0,ZV),(1,ZV),(2,ZU),(3,ZU)] (λw'=>aH w' j x/\w'.cell? ⟨X.heap.size,0,U⟩=J (I O (iq (ae kept) x:Int))) ee ee ⟨kf,g.cell⟩ ?_;refine cZ rfl rfl ⟨.agg (a9 x),λw' L=>by simp[execOp,Act.eval,ny L.1,Result.andThen],?_⟩;simp only[Act.put,TZ,T5,T6];refine cZ rfl rfl ⟨I O (iq (ae kept) x:Int),λw' L=>by have s2:=L.2;go_simp,?_⟩;simp only[Act.put,TZ,T5,T6];refine eC (dK _) (w1:=Y.drew.setRow f (a9 x)) rfl rfl nofun (by simp[execOp,Act.eval,hx,Result.andThen]) (λ_=>⟨kf.keep (h8 j xq kf.lt),(g.keep (h8 _ xv g.lt)).cell⟩) ?_;simp only[Act.put];refine eC (dK _) (w1:=(Y.drew.setRow f (a9 x)).setCell ⟨a,0,U⟩ (I O (iq (ae kept) x:Int))) rfl rfl nofun oB xJ (bI ?_);clear cc ff hx kb h8;have M:fQ (ae kept) s x=(x,iq (ae kept) x):=(by unfold fQ;rw[TT H]);rw[M];have E:=zR b.Sx b.least;have qr:=zR b.Sx b.Sd;have xp:=zR b.Sx b.set;have hd:=zR b.res b.least;have Z:∀k,k≠f->k≠a->k<Y.heap.size->((Y.drew.setRow f (a9 x)).setCell ⟨a,0,U⟩ (I O (iq (ae kept) x:Int))).heap[k]?=Y.heap[k]?:=λk k1 k2 k3=>(V8 _ _ _ _ k2).trans ((aT Y.drew f (a9 x)).block k k3 (λe=>k1 adT));have S:Y.heap.size<=((Y.drew.setRow f (a9 x)).setCell ⟨a,0,U⟩ (I O (iq (ae kept) x:Int))).heap.size:=(by simp[World.setCell,World.setRow]);have xk:=q.size;have y1:w.heap.size<=f:=(ia k0.out);have y4:w.heap.size<=a:=(ia k0.out);refine⟨⟨?_,?_,?_,?_,?_,?_⟩,?_⟩;.exact(((show aH Y.drew f s.1 from b.Sx).setRow x)).keep (V8 _ _ _ _ E)
   .exact((show Bx Y.drew a _ from b.least).keep ((aT Y.drew f (a9 x)).block a b.least.lt (λe=>E adT))).set _
   .exact b.Sd.keep (Z _ (Vc qr) V b.Sd.lt)
   .exact b.set.keep (Z _ (Vc xp) (ia k0.out) b.set.lt)
   .exact b.res.keep (Z _ (ia k0.out) hd b.res.lt)
   .exact b.below.trans ⟨rfl,rfl,rfl,S,λk T=>Z k V V (ia b.below.size)⟩
   .exact(bg.RM q).trans ⟨rfl,rfl,rfl,S,λk k1 k2=>Z k V V k2⟩
  case stop2=>rintro c pre Y km⟨rfl,q,g,H⟩;have xn:=PI (x:=x) km;have M:fQ (ae kept) s x=s:=(by unfold fQ;rw[TS V]);rw[M];gi_wp2;exact⟨z.o.mono q (.inl lR),bg.RM q⟩
 case done=>rintro D s X hD rfl G hK;have hb:=G.Sx;have qi:=G.res;have z:=ak G;have hc:=cK ei;gi_wp2_with(first|(refine lG rfl (Z0 5) rfl f (aS 8 C kept).1 rfl hb ?_)|(refine kJ rfl (Z0 4) (Z0 34) rfl (w.heap.size+1+1) (aS 8 C kept).1 ei rfl rfl qi ?_));have qb:(X.setRow (w.heap.size+1+1) (a9 (aS 8 C kept).1)).heap[D]?=J (.deferred (J [])):=((aT X (w.heap.size+1+1) _).block D (TX.1 hK).1 (λe=>Zj)).trans hK;refine⟨ej,.inl ⟨_,_,rfl,Wo qb,?_⟩⟩;have ko:aH ((X.setRow (w.heap.size+1+1) (a9 (aS 8 C kept).1)).putObj D (.deferred U)) (w.heap.size+1+1) (aS 8 C kept).1:=(qi.setRow (aS 8 C kept).1).keep (UI V);have xa:bW w ((X.setRow (w.heap.size+1+1) (a9 (aS 8 C kept).1)).putObj D (.deferred U)):=Below.RO (z.o.below.grown (aT _ _ _) z.o.below.size (λk e=>Zj)) V (TX.1 qb).1 _;exact⟨.agg (a9 (aS 8 C kept).1),Wl results218 _ _ (w.heap.size+1+1) 335 (a9 (aS 8 C kept).1) (0,0) _ rfl ko.heap XL rfl (eH _),rfl,xa⟩
end
def PJ(m:Nat->Nat->Nat)(q:Nat)(src:a7):Nat->Nat->Nat:=λr j=>if r=q/\j<src.length then src.getD j 0 else m r j
theorem DI(z:o.guard=U)(d s:ZM)(ho:o.op=.call {callee:=.builtin .copy,args:=#[d,s],argTypes:=#[36,36]})(b q:Nat)(v:ZS)(hd:a.eval d=Z5 (J ⟨b,q*16,U⟩) 16 16)(hs:a.eval s=v)(C:Ck)(src:a7)(hC:aH w b C)(hq:q<8)(hS:Bs w v src)(h8:src.length<=16)(h:∀w',aH w' b ⟨PJ C.m q src,C.told,C.count⟩->ZR b w w'->wpList ZL ops Q rest (a.put o.dst (goInt src.length)) w'):wpList ZL ops Q (o::rest) a w:=by
 obtain⟨ao,c,rfl,J',K,L,t⟩:=hS;refine ac8 z d s 36 36 ho 5 Ur ee (J ⟨b,q*16,U⟩) ao 16 16 src.length c hd hs b (q*16) _ 335 hC.heap (src.map (λx=>Value.int .u8 ((x:Nat):Int))) ?_ ?_ ?_ ?_ b w (TW _ _) lR ?_;.rw[Uf];show src.length=min src.length 16;omega
 . intro l;rw[Uf]at l;obtain⟨S,off,rfl,D⟩:=t (by intro e;rw[e]at l;simp at l);refine⟨rfl,_,rfl,λj u k=>?_⟩;have g:j<src.length:=by obtain⟨q,_⟩:=Vd.1 k;simpa using q
   rw[Vp,D j g];simp[g]at k;simp[g,k]
 .simp;omega
 .intro u E;obtain⟨x,_,rfl⟩:=T9.1 E;rfl
 . intro w' A y;have F:=A.out;rw[Uf];refine h w' ⟨_,F,?_,λi r=>?_⟩ y;.rw[UK,length_splice _ _ _ ek];simp
   . unfold splice;rw[XE];have p:∀x,x<130->((YE 130).map (oP C))[x]?=J (oP C x):=λx G=>by rw[UJ,WE G];rfl
     have B:((YE 130).map (oP C)).length=130:=(by rw[Uf,Vj]);by_cases H:i<q*16;.rw[Vz ek,acP,TT H,p i r];congr 1;unfold oP;rw[TT V,TT V];show _=Value.int .u8 ((PJ C.m q src (i/16) (i%16):Nat):Int);unfold PJ;rw[TS V]
     . have n:(((YE 130).map (oP C)).take (q*16)).length=q*16:=(by rw[Uq,B];omega);rw[U8 (by rw[n];omega),n];by_cases M:i<q*16+src.length;.rw[Vz ek];have f:i-q*16<src.length:=V;rw[UJ,Ud f];simp only[X6];congr 1;unfold oP;rw[TT V];show _=Value.int .u8 ((PJ C.m q src (i/16) (i%16):Nat):Int);unfold PJ;rw[TT V,(V:i%16=i-q*16),Ub,Ud f];rfl
       . rw[U8 ek];simp only[Uf];rw[Wm,(V:q*16+src.length+(i-q*16-src.length)=i),p i r];congr 1;unfold oP;by_cases f:i<128;.rw[TT f,TT f];show _=Value.int .u8 ((PJ C.m q src (i/16) (i%16):Nat):Int);unfold PJ;rw[TS V]
         .rw[TS f,TS f]
theorem Gc(h:aH w b C)(q i v:Nat)(d:q<8)(c:i<16):aH (w.setCell ⟨b,q*16+i,U⟩ (I .u8 (v:Int))) b ⟨λr j=>if r=q/\j=i then v else C.m r j,C.told,C.count⟩:=(h.set (q*16+i) (I .u8 (v:Int))).congr (λx f=>by
  unfold oP;by_cases e:x=q*16+i;.rw[TT e,TT V];show _=Value.int .u8 ((if x/16=q/\x%16=i then v else _:Nat):Int);rw[TT V]
  . rw[TS e];by_cases a:x<128;.rw[TT a,TT a];show _=Value.int .u8 ((if x/16=q/\x%16=i then v else C.m (x/16) (x%16):Nat):Int);rw[TS V]
    .rw[TS a,TS a])
def mf(M:List a7)(i j:Nat):Nat:=(M.getD i []).getD j 0
theorem MV(M:Nat->Nat->Nat)(D:Nat):lh M D 0=ei:=by unfold lh ei;congr 1
theorem MW(M:List a7)(D k:Nat)(hl:(M.getD (D+k) []).length=D):(⟨λr j=>if r=k/\j=D+k then 1 else PJ (lh (mf M) D k).m k (M.getD (D+k) []) r j,0,k+1⟩:Ck)=lh (mf M) D (k+1):=by
 unfold lh;congr 1;funext r j;show(if r=k/\j=D+k then 1 else(if r=k/\j<(M.getD (D+k) []).length then(M.getD (D+k) []).getD j 0 else(if r<k then(if j<D then mf M (D+r) j else if j=D+r then 1 else 0)else 0)))=(if r<k+1 then(if j<D then mf M (D+r) j else if j=D+r then 1 else 0)else 0);rw[hl];by_cases e:r=k
 . subst e;by_cases a:j=D+r;.simp[a];intro h;omega
   . by_cases b:j<D;.simp[a,b,mf]
     .simp[a,b]
 . by_cases a:r<k;.simp[e,a,(V:r<k+1)]
   .simp[e,a,(V:¬r<k+1)]
def CoR(w:ZT)(M:List a7)(D:Nat)(i:ZS)(wr:ZT):Prop:=∃k:Nat,D+k<=M.length/\i=I O (k:Int)/\aH wr (w.heap.size+1) (lh (mf M) D k)/\aH wr w.heap.size ei/\bW w wr
theorem Bj(b off c:Nat)(M:List a7)(D:Nat)(w:ZT)(k0:M.length<=c)(L:∀i(hi:i<M.length),∃u,w.cell? ⟨b,off+i,U⟩=J u/\Bs w u M[i])(hD:1<=D)(k9:D<M.length)(k8:M.length<=16)(hP:M.length<=D+8)(F:∀i,i<M.length->(M.getD i []).length=D):ZQ ZL 222 #[Z5 (J ⟨b,off,U⟩) M.length c,I O D] w λe w'=>e=Z3 (.agg (a9 (lh (mf M) D (M.length-D))))/\bW w w':=by
 have hz:=zeroCk;have ka:(D:Int)<=(M.length:Int):=V;have hy:¬c<=D:=V;have N:=ak L;have E:=ak F;clear L F;have K:CoR w M D (I O (0:Nat)) ((w.alloc (Z4 (a9 ei) 335)).alloc (Z4 (a9 ei) 335)):=by refine⟨0,V,rfl,?_,(aH.new w ei).keep (VS _ _ _ ej),(bA _ _).alloc ej _⟩;rw[MV];have h:=aH.new (w.alloc (Z4 (a9 ei) 335)) ei;rw[Um]at h;exact h
 have G:=ak K;clear K;go_enter func222,ntmps222;go_wp2;clear hz;go_loopw[12](λi wr=>CoR w M D i wr)(λi _=>(M.length-D)-(intOf i).toNat);case atStart=>exact G.out
 case round=>
  clear G;rename ZT=>wo;obtain⟨k,hk,rfl,A,B,f⟩:=hrel;by_cases y:D+k<M.length
  . have k5:(k:Int)<((M.length-D:Nat):Int):=V;obtain⟨u,C,J'⟩:=N.o (D+k) y;have kf:wo.cell? ⟨b,off+D+k,U⟩=J u:=(by rw[Vt,f.cell (Ue C)];exact C);have H:=J'.mono f;have n:=E.o (D+k) y;have s:M.getD (D+k) []=M[D+k]:=(by simp[y]);rw[s]at n;have z:=MW M D k (by rw[s];exact n);rw[s]at z;have ke:=λw'=>rp w' (w.heap.size+1) (k*16);have kc:(k:Int)<8:=V;have kb:(D:Int)+(k:Int)<16:=V;have kh:wrap64 ((D:Int)+(k:Int))=((D+k:Nat):Int):=D2;have k7:IntKind.i64.wrap ((D:Int)+(k:Int))=((D+k:Nat):Int):=l7;have kg:wrap64 ((k:Int)+1)=((k+1:Nat):Int):=D2;have k6:IntKind.i64.wrap ((k:Int)+1)=((k+1:Nat):Int):=l7;have V':=ak z;have g:=ak H;have x:=ak A;have l:=ak B;have S:=ak f;have W:=ak n;clear z H A B f J' C E s n;generalize M[D+k]=row at*;go_wp2_with(refine DI rfl (Z0 20) (Z0 21) rfl (w.heap.size+1) k _ rfl rfl _ row x.out V g.o (ia W.out) ?_;intro w2 a d;have c1:=a.at k (D+k) V V;have f1:=a.frozen (k*16+(D+k));have O':(w2.setCell ⟨w.heap.size+1,k*16+(D+k),U⟩ (I .u8 1)).cell? ⟨w.heap.size+1,129,U⟩=J (I O (k:Int)):=(Gc a k (D+k) 1 V V).Sr;have Q:(w2.setCell ⟨w.heap.size+1,k*16+(D+k),U⟩ (I .u8 1)).frozen? ⟨w.heap.size+1,129,U⟩=ZU:=(Gc a k (D+k) 1 V V).frozen 129;have T:=ak a;have R:=ak d;clear a d);have a:=T.out;have d:=R.out;have Y:=Gc a k (D+k) 1 V V;have Z:=zH Y (k+1);have hv:=l.o.keep (d.block w.heap.size V);have P:(⟨(⟨λr j=>if r=k/\j=D+k then 1 else PJ (lh (mf M) D k).m k row r j,(lh (mf M) D k).told,(lh (mf M) D k).count⟩:Ck).m,(lh (mf M) D k).told,k+1⟩:Ck)=lh (mf M) D (k+1):=V'.out;have hs:aH ((w2.setCell ⟨w.heap.size+1,k*16+(D+k),U⟩ (I .u8 1)).setCell ⟨w.heap.size+1,129,U⟩ (I O ((k+1:Nat):Int))) (w.heap.size+1) (lh (mf M) D (k+1)):=(by rw[<-P];exact Z);have hx:aH ((w2.setCell ⟨w.heap.size+1,k*16+(D+k),U⟩ (I .u8 1)).setCell ⟨w.heap.size+1,129,U⟩ (I O ((k+1:Nat):Int))) w.heap.size ei:=hv.keep ((V8 _ _ _ _ (by show w.heap.size≠w.heap.size+1;omega)).trans (V8 _ _ _ _ (by show w.heap.size≠w.heap.size+1;omega)));have X:bW w ((w2.setCell ⟨w.heap.size+1,k*16+(D+k),U⟩ (I .u8 1)).setCell ⟨w.heap.size+1,129,U⟩ (I O ((k+1:Nat):Int))):=((S.out.trans (d.mono V)).setCell (p:=⟨w.heap.size+1,k*16+(D+k),U⟩) eP _).setCell (p:=⟨w.heap.size+1,129,U⟩) eP _;have t:=au hs hx X;go_roundw;case rel=>exact⟨k+1,V,eT,t.o.1,t.o.2.1,t.o.2.2⟩
    case measure=>simp[intOf];omega
  . have k5:¬(k:Int)<((M.length-D:Nat):Int):=V;have I':M.length-D=k:=V;have U':=ak I';have g:=ak f;have x:=ak A;have l:=ak B;clear I';go_wp2_with(first|refine acG rfl 335 (Z0 5) rfl (w.heap.size+1) rfl 335 (a9 (lh (mf M) D k)) (0,0) _ x.out.heap XL rfl (eH _) ?_|refine Wy rfl 335 (Z0 4) (Z0 35) rfl w.heap.size (a9 (lh (mf M) D k)) rfl rfl 335 (a9 ei) l.o.heap (eH _) (by rw[cK,cK]) (nv _) ?_);refine Uv (v:=.agg (a9 (lh (mf M) D k))) (Wl results222 _ _ w.heap.size 335 (a9 (lh (mf M) D k)) (0,0) _ rfl (l.o.setRow (lh (mf M) D k)).heap XL rfl (eH _)) rfl ?_;rw[U'.out];exact⟨rfl,g.o.grown (aT _ _ _) g.o.size (λq e=>E3)⟩
def aA(n lost:Nat):Nat:=lost&&&(2^n-1)
def bG(n lost:Nat):Nat:=(2^n-1)&&&(18446744073709551615-aA n lost)
def gZ(h:n<=16):2^n<=65536:=UY (n:=2) (i:=n) (j:=16) ec h
def zS(n lost i:Nat):(aA n lost).testBit i=(lost.testBit i&&decide (i<n)):=by unfold aA;rw[XA,Xy]
def pO(lost:Nat)(h:n<=16):aA n lost<65536:=by have:=gZ h;have:aA n lost<=2^n-1:=Nat.and_le_right;have:0<2^n:=VL n;omega
def DJ(lost:Nat)(h:n<=16):bG n lost<65536:=by have:=gZ h;have:bG n lost<=2^n-1:=WC;have:0<2^n:=VL n;omega
def rO(lost i:Nat)(h:n<=16):(bG n lost).testBit i=(decide (i<n)&&!lost.testBit i):=by
 have:=pO lost h;unfold bG;rw[XA,Xy,(V:18446744073709551615-aA n lost=2^64-(aA n lost+1)),Xx V,zS];by_cases a:i<n;.simp[a,(V:i<64)]
 .simp[a]
theorem bU(h:n<=16):i∈ae (aA n lost)↔i<n/\lost.testBit i=ZV:=by
 rw[bL,zS];simp only[V9,VM];constructor;.rintro⟨_,a,b⟩;exact⟨b,a⟩
 .rintro⟨a,b⟩;exact⟨V,b,a⟩
theorem pP(h:n<=16):i∈ae (bG n lost)↔i<n/\lost.testBit i=ZU:=by
 rw[bL,rO lost i h];simp only[V9,VM,Yt];constructor;.rintro⟨_,a,b⟩;exact⟨a,b⟩
 .rintro⟨a,b⟩;exact⟨V,a,b⟩
def Gd(s:Nat):(ae s).Nodup:=List.Pairwise.filter _ X8
def MX{M:List a7}(h:eS w B v T)(d:dj T D M)(k:∀r∈M,r.length=D)(m:M≠[]):∃g c,v=Z5 (J ⟨g,0,U⟩) M.length c/\M.length<=c/\∀i(b:i<M.length),∃u,w.cell? ⟨g,0+i,U⟩=J u/\Bs w u M[i]:=by
 have f:T.length=M.length:=ua (Uy YJ d);rcases h.own.2 with⟨_,n⟩|⟨g,c,cur,rfl,_,_,o,_⟩;.exact absurd (U2 V) m
 . refine⟨g,c,by rw[f],V,λi b=>?_⟩;have a:i<T.length:=V;refine⟨fV T[i],by rw[Uj];exact h.So a,?_⟩;have:=h.S7 a;have j:T[i].2=(D,M[i]):=by have:=Uy (λl=>l[i]?) d;simpa[a,b]using this
   rw[j]at this;have e:(M[i]).take D=M[i]:=(by rw[<-k _ (T7 b),VE]);rw[e]at this;exact this
def Ij(D L G i:Nat)(a:i<D):(aQ D L G).getD i []=dB D i:=by unfold aQ;rw[UA,Ub,Vz (ua a)];simp[a]
def kK(D L G:Nat)(c:D<=12)(d:G<=4):Gf.Code (mf (aQ D L G)) D (L+G):=by
 refine⟨λi j=>?_,λi a j=>?_,λi j b=>?_⟩
 . unfold mf;by_cases a:i<(aQ D L G).length;.have e:(aQ D L G).getD i []=(aQ D L G)[i]:=Zl;rw[e];exact dM (mO D L G c d _ (T7 a)) j
   .have e:(aQ D L G).getD i []=[]:=Zl;rw[e];simp
 . unfold mf;rw[Ij D L G i a];unfold dB;rw[Ub,Xn];by_cases e:i=j;.subst e;simp[a]
   . simp only[e,if_false];rw[TS (λh=>e h.symm)];by_cases b:j<D;.simp[b]
     .simp[b]
 . unfold mf;by_cases a:i<(aQ D L G).length;.have e:(aQ D L G).getD i []=(aQ D L G)[i]:=Zl;have:=lE D L G _ (T7 a);rw[e,Ub,Vn V];rfl
   .have e:(aQ D L G).getD i []=[]:=Zl;rw[e];simp
def iT(D L G:Nat):Ck:=lh (mf (aQ D L G)) D (L+G)
def Bk(c:D<=12)(f:L<=4)(d:G<=4){pre:a7}{C:Ck}(h:tells (iT D L G) pre=J C):fh C:=by
 rcases(kK D L G c d).told pre with⟨C',a,b⟩|⟨a,_⟩;.have e:tells (iT D L G) pre=J C':=a;rw[h]at e;obtain rfl:=UN e;exact⟨b.byt,b.le,by have:C.count=L+G:=b.count;omega⟩
 .have e:tells (iT D L G) pre=U:=a;rw[h]at e;cases e
def PB(W:ZT)(n0 Bg:Nat)(regs:Int)(L:List St):Prop:=Bg<n0/\n0<=W.heap.size/\∃v,W.heap[Bg]?=J (Z4 #[I O regs,v] 210 (0,0))/\W.ownsRow n0 304 4 v L.length (eY .u8 L)
def Tryz.Tj:(ZL.info? 304).map (λi=>(i.zero,i.size,i.bytes))=J (J (.agg #[I .u8 0,I O 0,I O 0,I .u8 0]),4,32):=ee
def Bm(t:o.guard=U)(x y:ZM)(ho:o.op=.call {callee:=.builtin .append,args:=#[x,y],argTypes:=#[208,208]})(n0 q:Nat)(L:List St)(s:St)(v:ZS)(hx:a.eval x=v)(hy:a.eval y=Z5 (J ⟨q,0,U⟩) 1 1)(h3:w.ownsRow n0 304 4 v L.length (eY .u8 L))(hc:∀j u,(Ji .u8 s)[j]?=J u->w.cell? ((⟨q,0,U⟩:Addr).add j)=J u)(h6:n0<=w.heap.size)(hL:L.length<=100000)(hK:∀c b w2,n0<=c->w2.ownsRow n0 304 4 (Z5 (J ⟨c,0,U⟩) (L.length+1) b) (L.length+1) (eY .u8 (L++[s]))->w.grownBy w2 v.ownBlock->wpListIn F n ZL ops Q rest (a.put o.dst (Z5 (J ⟨c,0,U⟩) (L.length+1) b)) w2):wpListIn F n ZL ops Q (o::rest) a w:=by
 obtain⟨A,k,l,m,p⟩:=Uw Tryz.Tj;refine wpListIn_append_own w t x y 208 ho n0 304 A (.agg #[I .u8 0,I O 0,I O 0,I .u8 0]) 4 32 underlying208 k l m p rfl ec v L.length (eY .u8 L) hx h3 ⟨q,0,U⟩ 1 1 (Ji .u8 s) hy (by simp[Ji]) hc (λu f=>by simp[Ji]at f;rcases f with rfl|rfl|rfl|rfl<;>rfl) eD V h6 ?_;intro B w2 d h _;obtain⟨c,b,rfl,i⟩:∃c b,B=Z5 (J ⟨c,0,U⟩) (L.length+1) b/\n0<=c:=by
  rcases d.2 with⟨_,C⟩|⟨g,cap,cur,z,r,_⟩;.omega
  .exact⟨g,cap,z,r⟩
 have e:eY .u8 L++Ji .u8 s=eY .u8 (L++[s]):=by rw[sI];simp[eY]
 rw[e]at d;exact hK c b w2 i d h
def kL{xs:List ZS}{t:ZO}(h:w.ownsRow n0 t 4 v k xs){q:Nat}(e:v.ownBlock=J q):n0<=q:=(h.lt q e).1
def PB.next{w2:ZT}{g' cap':Nat}{L:List St}{s:St}{ob:Obj}(h:Bg<n0)(x:n0<=W.heap.size)(n:W.heap[Bg]?=J (Z4 #[I O regs,v] 210 (0,0)))(f:W.ownsRow n0 304 4 v L.length (eY .u8 L))(a:(W.alloc ob).grownBy w2 v.ownBlock)(u:n0<=g')(m:w2.ownsRow n0 304 4 (Z5 (J ⟨g',0,U⟩) (L.length+1) cap') (L.length+1) (eY .u8 (L++[s]))):PB (w2.setCell ⟨Bg,1,U⟩ (Z5 (J ⟨g',0,U⟩) (L.length+1) cap')) n0 Bg regs (L++[s])/\w2.cell? ⟨Bg,1,U⟩=J v/\w2.frozen? ⟨Bg,1,U⟩=ZU/\(∀k,k<n0->k≠Bg->(w2.setCell ⟨Bg,1,U⟩ (Z5 (J ⟨g',0,U⟩) (L.length+1) cap')).heap[k]?=W.heap[k]?)/\KeepsOthers W (w2.setCell ⟨Bg,1,U⟩ (Z5 (J ⟨g',0,U⟩) (L.length+1) cap'))/\(w2.setCell ⟨Bg,1,U⟩ (Z5 (J ⟨g',0,U⟩) (L.length+1) cap')).os=W.os/\(w2.setCell ⟨Bg,1,U⟩ (Z5 (J ⟨g',0,U⟩) (L.length+1) cap')).tape=W.tape/\(w2.setCell ⟨Bg,1,U⟩ (Z5 (J ⟨g',0,U⟩) (L.length+1) cap')).output=W.output:=by
 have hold:∀k,k<n0->w2.heap[k]?=W.heap[k]?:=λk b=>(a.block k ek (λe=>ia (kL f e.symm))).trans (pB W _ k V);have d:=(hold Bg h).trans n;obtain⟨_,c1,l,_⟩:=aB d;have w:W.heap.size<=w2.heap.size:=by have:=a.size;simp at this;omega
 have p:(w2.setCell ⟨Bg,1,U⟩ (Z5 (J ⟨g',0,U⟩) (L.length+1) cap')).heap[Bg]?=J (Z4 #[I O regs,Z5 (J ⟨g',0,U⟩) (L.length+1) cap'] 210 (0,0)):=by obtain⟨r,b⟩:=TX.1 d;show(w2.heap.modify Bg _)[Bg]?=_;rw[V3 (by rw[acW];exact r),adu,b];rfl
 refine⟨⟨h,Zk,_,p,?_⟩,c1,l,λk b t=>(V8 _ _ _ _ t).trans (hold k b),?_,a.os,a.tape,a.output⟩;.have:=m.kept (dN w2 Bg 1 (Z5 (J ⟨g',0,U⟩) (L.length+1) cap')) (.inr (by simp[Value.ownBlock];omega));simpa using this
 . refine((KeepsOthers.alloc W ob).trans (adr a λj o c i=>?_)).trans (V6 _ _ _);rcases(f.alloc ob).2 with⟨rfl,_⟩|⟨g,cap,cur,rfl,_,q,_⟩;.simp[Value.ownBlock]at c
   .obtain rfl:g=j:=(by simpa[Value.ownBlock]using c);rw[q]at i;cases i;rfl
theorem PB.own{row:Option Nat}{L:List St}(h:PB X n0 Bg regs L)(m:n0<=B)(a:X.grownBy Y row)(c:∀r,row=J r->B<=r/\∃o:Obj,X.heap[r]?=J o/\o.isCells=ZU):PB Y n0 Bg regs L:=by
 obtain⟨i,j,v,k,b⟩:=h;refine⟨i,TU j a.size,v,(a.block Bg V (λe=>ia ((c Bg e.symm).1))).trans k,b.kept a ?_⟩;rcases b.2 with⟨rfl,_⟩|⟨g,cap,cur,rfl,_,f,_⟩;.exact .inl rfl
 .refine .inr λd=>?_;obtain⟨_,o,ho,l⟩:=c g (by simpa[Value.ownBlock]using d.symm);rw[f]at ho;cases ho;cases l
def mQ(C:Ck)(i:Nat):List St:=if cY C i=ZV then⟨0,0,i,0⟩::((YE C.told).filter (λr=>decide (C.m r i≠0))).map (λr:Nat=>(⟨1,1+(r:Int),0,C.m r i⟩:St))else[]
def wrTo(C:Ck)(pre:a7):List St:=(pre.map (mQ C)).flatten
def zT(C:Ck)(pre:a7)(i:Nat):wrTo C (pre++[i])=wrTo C pre++mQ C i:=by unfold wrTo;simp
def ig(C:Ck)(i k:Nat):List St:=((YE k).filter (λr=>decide (C.m r i≠0))).map (λr:Nat=>(⟨1,1+(r:Int),0,C.m r i⟩:St))
def vD(C:Ck)(i:Nat):ig C i 0=[]:=rfl
def DK(C:Ck)(i k:Nat)(h:C.m k i≠0):ig C i (k+1)=ig C i k++[⟨1,1+(k:Int),0,C.m k i⟩]:=by unfold ig;rw[Vs];simp[h]
def zU(C:Ck)(i k:Nat)(h:C.m k i=0):ig C i (k+1)=ig C i k:=by unfold ig;rw[Vs];simp[h]
def DL(C:Ck)(i k:Nat):(ig C i k).length<=k:=by unfold ig;rw[Uf];exact TU (WS _ _) ej
def iU(h:cY C i=ZV):mQ C i=⟨0,0,i,0⟩::ig C i C.told:=by unfold mQ ig;rw[TT h]
def mR(h:cY C i=ZU):mQ C i=[]:=by unfold mQ;simp[h]
def MY(C:Ck)(i:Nat):(mQ C i).length<=C.told+1:=by
 cases h:cY C i;.rw[mR h];simp
 .rw[iU h];have:=DL C i C.told;simp;omega
theorem tS(C:Ck):∀pre:a7,(wrTo C pre).length<=pre.length*(C.told+1)
 |[]=>by simp[wrTo]|i::pre=>by
  have:=tS C pre;have:=MY C i;have e:wrTo C (i::pre)=mQ C i++wrTo C pre:=by unfold wrTo;simp
  rw[e,Ua,UC,W4];omega
def gh(pre:a7):List St:=(YE pre.length).map (λk:Nat=>(⟨2,(k:Int)+1,((pre.getD k 0:Nat):Int),0⟩:St))
theorem Ge(pre:a7)(i:Nat):gh (pre++[i])=gh pre++[⟨2,(pre.length:Int)+1,i,0⟩]:=by
 unfold gh;rw[Ua,ada,Vs,Uz];congr 1;.apply Wq;intro k a;have:=Ul.1 a;simp[this,Vz]
 .simp
def gC(C:Ck)(gone kept:Nat):List St:=wrTo C (ae kept)++gh (ae gone)
def Gg{B:Ck}{s:St}(h:s∈gC B gone kept):(∃i∈ae kept,s=⟨0,0,(i:Int),0⟩)\/(∃i∈ae kept,∃r,r<B.told/\s=⟨1,1+(r:Int),0,B.m r i⟩)\/(∃k,∃d:k<(ae gone).length,s=⟨2,(k:Int)+1,((ae gone)[k]:Int),0⟩):=by
 unfold gC wrTo at h;rcases Ui.1 h with h|h
 . obtain⟨l,hl,a⟩:=YL.1 h;obtain⟨i,c,rfl⟩:=T9.1 hl;cases hr:cY B i;.rw[mR hr]at a;cases a
   . rw[iU hr]at a;rcases Uu.1 a with rfl|a;.exact .inl ⟨i,c,rfl⟩
     .unfold ig at a;obtain⟨r,e,rfl⟩:=T9.1 a;exact .inr (.inl ⟨i,c,r,Ul.1 (Vr.1 e).1,rfl⟩)
 .unfold gh at h;obtain⟨k,d,rfl⟩:=T9.1 h;have b:=Ul.1 d;exact .inr (.inr ⟨k,b,adV⟩)
def aaT{B:Ck}(gone kept:Nat)(e:B.told<=8):(gC B gone kept).length<=160:=by have:=tS B (ae kept);have a:∀s,(ae s).length<=16:=λs=>TU (WS _ _) ej;have:(ae kept).length*(B.told+1)<=16*9:=Xm (a kept) V;have:=a gone;unfold gC gh;simp only[Ua,Uf,Vj];omega
def ab0{B:Ck}(h:B.told=(ae gone).length)(b:B.told<=8)(g:∀i∈ae kept,i<n)(d:∀i∈ae gone,i<n):je (1+((ae gone).length:Int)) (gC B gone kept) (n:Int):=by
 have:=aaT gone kept b;refine⟨⟨V,V,V⟩,λi f=>?_⟩;rcases Gg (T7 f)with⟨j,a,e⟩|⟨j,a,r,l,e⟩|⟨k,c,e⟩;.have:=g j a;rw[e];exact .inl ⟨.inl rfl,by show(0:Int)<=0;omega,by show(0:Int)<_;omega,by show(0:Int)<=(j:Int);omega,by show(j:Int)<_;omega⟩
 .rw[e];exact .inr ⟨rfl,by show(0:Int)<=1+(r:Int);omega,by show(1+(r:Int))<_;omega,by show(0:Int)<=0;omega,by show(0:Int)<_;omega,by show(1+(r:Int))≠0;omega⟩
 .have:=d _ (T7 c);rw[e];exact .inl ⟨.inr rfl,by show(0:Int)<=(k:Int)+1;omega,by show((k:Int)+1)<_;omega,by show(0:Int)<=((ae gone)[k]:Int);omega,by show((ae gone)[k]:Int)<_;omega⟩
theorem PK{α:Type}(L:List α)(f:α->a7)(v:Nat->Nat):m7 (L.map f) 0 v↔∃x∈L,v=dP (f x):=by
 unfold m7;constructor;.rintro⟨i,a,_,rfl⟩;have b:i<L.length:=(ua a);exact⟨L[i],T7 b,ej⟩
 .rintro⟨x,c,rfl⟩;obtain⟨i,a,rfl⟩:=UZ c;exact⟨i,ua a,T8 _,ej⟩
def Ik(x i:Nat):x/2^i%2=0↔x.testBit i=ZU:=by rw[Wh];simp
theorem DM(M:List a7)(lost n:Nat)(h:n<=16):m7 (cA M lost n) 0=Lr (mf M) n (λi=>i∉ae (aA n lost)):=by
 funext v;apply propext;unfold cA;rw[PK];unfold Lr;constructor;.rintro⟨i,a,rfl⟩;obtain⟨c,d⟩:=Vr.1 a;refine⟨i,Ul.1 c,λb=>?_,rfl⟩;have:=(bU h).1 b;rw[(Ik lost i).1 (W5 d)]at this;exact absurd this.2 ec
 . rintro⟨i,a,b,rfl⟩;refine⟨i,Vr.2 ⟨Ul.2 a,U4 ((Ik lost i).2 ?_)⟩,rfl⟩;cases hb:lost.testBit i;.rfl
   .exact absurd ((bU h).2 ⟨a,hb⟩) b
theorem Gh(g:D<=12)(k:G<=4)(h:D+L+G<=16):dZ D L G lost↔∃C,tells (iT D L G) (ae (aA (D+L+G) lost))=J C:=by
 have a:=kK D L G g k;have e:D+(L+G)=D+L+G:=V;unfold dZ;rw[DM _ _ _ h];constructor
 . intro j;rcases a.told (ae (aA (D+L+G) lost))with⟨C,b,_⟩|⟨_,c⟩;.exact⟨C,b⟩
   .refine absurd ?_ (a.TN (Gd _) (λi l=>by rw[e];exact((bU h).1 l).1) c);rw[e];exact j
 . rintro⟨C,f⟩;rcases a.told (ae (aA (D+L+G) lost))with⟨C',_,c⟩|⟨b,_⟩;.have:=a.full c;rw[e]at this;exact this
   .have d:tells (iT D L G) (ae (aA (D+L+G) lost))=U:=b;rw[f]at d;cases d
def pQ(f:D<=12)(g:G<=4){C:Ck}(d:tells (iT D L G) (ae (aA (D+L+G) lost))=J C):I4 (mf (aQ D L G)) D (L+G) (ae (aA (D+L+G) lost)) (aS 8 C (bG (D+L+G) lost)).1/\fL (lh (mf (aQ D L G)) D (L+G)) (xP (mf (aQ D L G)) D (D+(L+G))) (ae (aA (D+L+G) lost)) C:=by
 have e:=kK D L G f g;rcases e.told (ae (aA (D+L+G) lost))with⟨C',b,c⟩|⟨b,_⟩;.have a:tells (iT D L G) (ae (aA (D+L+G) lost))=J C':=b;rw[d]at a;obtain rfl:=UN a;exact⟨e.SH c (AF 8 C _).1,c⟩
 .have a:tells (iT D L G) (ae (aA (D+L+G) lost))=U:=b;rw[d]at a;cases a
def cE(D L G lost:Nat)(C:Ck):List St:=gC (aS 8 C (bG (D+L+G) lost)).1 (aA (D+L+G) lost) (bG (D+L+G) lost)
section
def me(D:List a7)(R:List a7)(P:List St):List a7:=P.foldl (λR s=>eA D s R) R
def vF(D R:List a7):me D R []=R:=rfl
def JT(D R:List a7)(s:St)(P:List St):me D R (s::P)=me D (eA D s R) P:=rfl
def mS(D R:List a7)(P Q:List St):me D R (P++Q)=me D (me D R P) Q:=by unfold me;rw[Ws]
def vG(P:List St)(D a:List a7):∀k,k<=P.length->bZ P D a k=me D a (P.take k)|0,_=>by simp[bZ,me]|k+1,h=>by have b:k<P.length:=V;show eA D (bR P k) (bZ P D a k)=_;rw[vG P D a k V,eE P k b,acI b,mS];rfl
def vH(P:List St)(D a:List a7):∀k,k<=P.length->(∀i(h:i<P.length),i<k->P[i].k≠2)->dO P D a k=[]|0,_,_=>rfl|k+1,h,hn=>by have b:k<P.length:=V;show iN (bR P k) _ _=[];rw[vH P D a k V (λi c d=>hn i c V),eE P k b];unfold iN;rw[TS (hn k b V)]
def DO(D R:List a7){s:St}(h:s.k=2):eA D s R=R:=by unfold eA;rw[TS V,TS V]
def vI(A Q:List St)(D c:List a7)(g:∀s∈A,s.k≠2)(j:∀s∈Q,s.k=2):∀k,k<=Q.length->bZ (A++Q) D c (A.length+k)=me D c A/\dO (A++Q) D c (A.length+k)=(Q.take k).map (λs=>(s.b,(me D c A).getD s.a.toNat []))
 |0,_=>by
  refine⟨?_,?_⟩;.rw[VO,vG _ _ _ _ ej];simp
  .rw[VO,vH _ _ _ _ ej (λi l d=>by rw[XS d];exact g _ (T7 d))];simp|k+1,h=>by
  obtain⟨e,o⟩:=vI A Q D c g j k V;have m:k<Q.length:=V;have l:A.length+k<(A++Q).length:=ek;have n:bR (A++Q) (A.length+k)=Q[k]:=by rw[eE _ _ l,XR V];simp
  have f:=j _ (T7 m);refine⟨?_,?_⟩;.show eA D (bR (A++Q) (A.length+k)) (bZ (A++Q) D c (A.length+k))=_;rw[n,e,DO D _ f]
  .show iN (bR (A++Q) (A.length+k)) (bZ (A++Q) D c (A.length+k)) (dO (A++Q) D c (A.length+k))=_;rw[n,e,o];unfold iN;rw[TT f,acI m,Uz];rfl
def xl(f:Nat->Nat)(K:a7):Nat:=K.foldr (λi a=>f i^^^a) 0
def MZ(f:Nat->Nat):xl f []=0:=rfl
def Bn(f:Nat->Nat)(i:Nat)(K:a7):xl f (i::K)=f i^^^xl f K:=rfl
theorem DP(f:Nat->Nat)(p:Nat->Bool):∀n,xl f ((YE n).filter p)=xs (λi=>if p i=ZV then f i else 0) n
 |0=>rfl|n+1=>by
  have b:∀A B:a7,xl f (A++B)=xl f A^^^xl f B:=by intro A B;induction A with|nil=>rw[Ut,MZ,Vq]|cons a A ih=>rw[U1,Bn,Bn,ih,UU]
  rw[Vs,Wv,b,DP f p n];show _=xs _ n^^^(if p n=ZV then f n else 0);congr 1;by_cases h:p n=ZV;.rw[TT h];simp[h,xl]
  .rw[TS h];simp[h,xl]
structure Rg(R:List a7)(T m:Nat)(v:Nat->Nat->Nat):Prop where
 len:R.length=1+T
 row:∀r,r<T->R.getD (1+r) []=(YE m).map (v r)
def pR{R:List a7}{a:Nat}{x:a7}(c:a<R.length):(R.set a x).getD b []=if a=b then x else R.getD b []:=by
 rw[Ub,Xn];by_cases e:a=b;.subst e;simp[c]
 .simp[e]
theorem Gi(m:Nat)(v:Nat->Nat)(y:a7)(c:Nat):jf ((YE m).map v) y c=(YE m).map (λq=>v q^^^gm c (y.getD q 0)):=by unfold jf;rw[Uf,Vj];apply Wq;intro q a;have:=Ul.1 a;simp[this]
theorem DQ(B:Ck)(D:List a7)(i T m:Nat)(y:a7)(v:Nat->Nat->Nat){R:List a7}(h:Rg R T m v)(j:R.getD 0 []=y):∀k,k<=T->(me D R (ig B i k)).getD 0 []=y/\Rg (me D R (ig B i k)) T m (λr q=>if r<k then v r q^^^gm (B.m r i) (y.getD q 0)else v r q)
 |0,_=>by rw[vD,vF];exact⟨j,h.len,λr d=>by rw[h.row r d];simp⟩|k+1,hk=>by
  obtain⟨f,a⟩:=DQ B D i T m y v h j k V;by_cases g:B.m k i=0
  . rw[zU B i k g];refine⟨f,a.len,λr d=>?_⟩;rw[a.row r d];apply Wq;intro q _;by_cases c:r<k;.rw[TT c,TT V]
    . by_cases e:r=k;.subst e;rw[TS c,TT V,g,bO,UX]
      .rw[TS c,TS V]
  . rw[DK B i k g,mS];generalize h5:me D R (ig B i k)=b at f a;have l:me D b [⟨1,1+(k:Int),0,B.m k i⟩]=b.set (1+k) (jf (b.getD (1+k) []) (b.getD 0 []) (B.m k i)):=by show eA D ⟨1,1+(k:Int),0,B.m k i⟩ b=_;unfold eA;have e:(1+(k:Int)).toNat=1+k:=V;simp only[e];rw[TS ec,TT trivial];rfl
    have hl:1+k<b.length:=(by rw[a.len];omega);rw[l];refine⟨by rw[pR hl,TS V];exact f,by rw[VY];exact a.len,λr d=>?_⟩;rw[pR hl,f];by_cases e:r=k;.subst e;rw[TT rfl,a.row r d,Gi];apply Wq;intro q _;rw[TS V,TT V]
    . rw[TS V,a.row r d];apply Wq;intro q _;by_cases c:r<k;.rw[TT c,TT V]
      .rw[TS c,TS V]
theorem PL(B:Ck)(D:List a7)(i m:Nat)(v:Nat->Nat->Nat){R:List a7}(a:Rg R B.told m v):Rg (me D R (mQ B i)) B.told m (λr q=>v r q^^^gm (B.m r i) ((D.getD i []).getD q 0)):=by
 cases hr:cY B i;.rw[mR hr,vF];refine⟨a.len,λr h=>?_⟩;rw[a.row r h];apply Wq;intro q _;rw[iK.1 hr r h,bO,UX]
 . rw[iU hr,JT];have b:0<R.length:=(by rw[a.len];omega);have e:eA D ⟨0,0,(i:Int),0⟩ R=R.set 0 (D.getD i []):=by unfold eA;rw[TT rfl];rfl
   rw[e];have d:Rg (R.set 0 (D.getD i [])) B.told m v:=⟨by rw[VY];exact a.len,λr h=>by rw[pR b,TS V];exact a.row r h⟩;obtain⟨_,c⟩:=DQ B D i B.told m (D.getD i []) v d (by rw[pR b,TT rfl]) B.told lR;refine⟨c.len,λr h=>?_⟩;rw[c.row r h];apply Wq;intro q _;rw[TT h]
theorem M0(B:Ck)(D:List a7)(m:Nat):∀(K:a7)(v:Nat->Nat->Nat)(R:List a7),Rg R B.told m v->Rg (me D R (wrTo B K)) B.told m (λr q=>v r q^^^xl (λi=>gm (B.m r i) ((D.getD i []).getD q 0)) K)
 |[],v,R,h=>by rw[show wrTo B []=[]from rfl,vF];exact⟨h.len,λr a=>by rw[h.row r a];simp[MZ]⟩|i::K,v,R,h=>by
  have e:wrTo B (i::K)=mQ B i++wrTo B K:=by unfold wrTo;simp
  rw[e,mS];have:=M0 B D m K _ _ (PL B D i m v h);refine⟨this.len,λr a=>?_⟩;rw[this.row r a];apply Wq;intro q _;rw[Bn,UU]
def M1(T m:Nat):Rg (fG (1+T) m) T m (λ_ _=>0):=by refine⟨by simp[fG],λr a=>?_⟩;unfold fG;have:1+r<1+T:=V;rw[Ub,WJ,TT this];simp[List.map_const']
def M2{P:List St}{D:List a7}{m:Nat}(h:∀s∈P,s.k=0->(D.getD s.b.toNat []).length=m):∀k,k<=P.length->fl P D k=U\/fl P D k=J m
 |0,_=>.inl rfl|k+1,hk=>by
  rcases M2 h k V with e|e
  . by_cases a:(bR P k).k=0;.rw[AT P D k e a];rw[eE P k V]at a⊢;exact .inr (by rw[h _ (T7 _) a])
    .rw[uO P D k a];exact .inl e
  .exact .inr (pD P D k m e)
def DT{P:List St}{D:List a7}{m:Nat}(h:∀s∈P,s.k=0->(D.getD s.b.toNat []).length=m){k:Nat}(a:k<P.length)(c:P[k].k=0):fl P D (k+1)=J m:=by
 rcases M2 h k V with e|e;.rw[AT P D k e (by rw[eE P k a];exact c),eE P k a,h _ (T7 a) c]
 .exact pD P D k m e
def La(S:List a7)(lost:Nat):List a7:=(YE S.length).map (λi=>if lost.testBit i=ZV then[]else S.getD i [])
def Bo(S:List a7)(lost i:Nat)(a:i<S.length):(La S lost).getD i []=if lost.testBit i=ZV then[]else S.getD i []:=by simp[La,a]
def M3(row:a7)(Dt:List a7)(q:Nat):∀t,Pj row Dt t q=xs (λj=>gm (row.getD j 0) ((Dt.getD j []).getD q 0)) t|0=>rfl|t+1=>by show Pj row Dt t q^^^gm (row.getD t 0) ((Dt.getD t []).getD q 0)=xs (λj=>gm (row.getD j 0) ((Dt.getD j []).getD q 0)) t^^^gm (row.getD t 0) ((Dt.getD t []).getD q 0);rw[M3 row Dt q t]
def aaU{M:List a7}(a:i<M.length)(j:Nat):mf M i j=(M[i]).getD j 0:=by unfold mf;simp[a]
theorem Bp(M Dt:List a7)(m i:Nat)(a:i<M.length):(fP M Dt m).getD i []=(YE m).map (λq=>xs (λj=>gm (mf M i j) ((Dt.getD j []).getD q 0)) Dt.length):=by
 have e:(fP M Dt m).getD i []=dg M[i] Dt m Dt.length:=by simp[fP,a]
 rw[e];unfold dg;apply Wq;intro q _;rw[M3];exact fC _ (λj _=>by rw[aaU a])
def Bq(M Dt:List a7)(m:Nat):(fP M Dt m).length=M.length:=by simp[fP]
def pS{lost:Nat}:pC lost i↔lost.testBit i=ZV:=by unfold pC;rw[Wh];simp
section
variable {D L G lost m:Nat}{C:Ck}{Dt:List a7}
def kM(c:D+L+G<=16){s:St}(e:s∈cE D L G lost C)(a:s.k=0):∃i:Nat,s.b=(i:Int)/\i<D+L+G/\lost.testBit i=ZU:=by
 rcases Gg e with⟨i,d,rfl⟩|⟨_,_,_,_,rfl⟩|⟨_,_,rfl⟩;.exact⟨i,rfl,(pP c).1 d⟩
 .exact absurd a (Nat.one_ne_zero)
 .exact absurd a (Nat.succ_ne_zero 1)
def Br(c:D+L+G<=16):∀s∈cE D L G lost C,s.k=0->((La (fP (aQ D L G) Dt m) lost).getD s.b.toNat []).length=m:=by
 intro s f a;obtain⟨i,d,e,hl⟩:=kM c f a;have:(fP (aQ D L G) Dt m).length=D+L+G:=by rw[Bq,cP]
 rw[d,VF,Bo _ _ _ V,TS (by rw[hl];decide),Bp _ _ _ _ (by rw[cP];exact e)];simp
def PM(c:D+L+G<=16)(h:m<=4096):gY (cE D L G lost C) (La (fP (aQ D L G) Dt m) lost) lost:=by intro i b a;rw[eE _ _ b]at a⊢;have e:=Br (m:=m) (Dt:=Dt) c _ (T7 b) a;obtain⟨j,f,g,hl⟩:=kM c (T7 b) a;refine⟨λd=>?_,by rw[e];exact DT (Br c) b a,V⟩;rw[f,VF]at d;have:=pS.1 d;rw[hl]at this;cases this
theorem Gj(b:D+L+G<=16)(a:0<iq (ae (bG (D+L+G) lost)) (aS 8 C (bG (D+L+G) lost)).1):eZ (cE D L G lost C) (La (fP (aQ D L G) Dt m) lost)=m:=by
 unfold iq at a;obtain⟨i,g⟩:=List.exists_mem_of_length_pos a;obtain⟨c,d⟩:=Vr.1 g;have j:(⟨0,0,(i:Int),0⟩:St)∈cE D L G lost C:=by unfold cE gC wrTo;refine UB _ (YL.2 ⟨mQ _ i,T9.2 ⟨i,c,rfl⟩,?_⟩);rw[iU d];exact UG
 obtain⟨k,h,e⟩:=UZ j;have f:=DT (Br (m:=m) (Dt:=Dt) b) h V2;have:=Hw _ _ _ _ f (cE D L G lost C).length V;unfold eZ;rw[this];rfl
theorem PN(w:D<=12)(y:G<=4)(b:D+L+G<=16)(I':tells (iT D L G) (ae (aA (D+L+G) lost))=J C)(p:Dt.length=D)(U':∀l∈Dt,∀x∈l,x<256):∃O',dO (cE D L G lost C) (La (fP (aQ D L G) Dt m) lost) (fG (1+(ae (aA (D+L+G) lost)).length) (eZ (cE D L G lost C) (La (fP (aQ D L G) Dt m) lost))) (cE D L G lost C).length=O'/\O'.length=(ae (aA (D+L+G) lost)).length/\∀k(S:k<O'.length)(f:k<(ae (aA (D+L+G) lost)).length),O'[k].1=(((ae (aA (D+L+G) lost))[k]:Nat):Int)/\(0<iq (ae (bG (D+L+G) lost)) (aS 8 C (bG (D+L+G) lost)).1->O'[k].2=(fP (aQ D L G) Dt m).getD (ae (aA (D+L+G) lost))[k] []):=by
 obtain⟨o,_⟩:=pQ w y I';have K:=kK D L G w y;have e:D+(L+G)=D+L+G:=V;have J':(cE D L G lost C).length=(wrTo (aS 8 C (bG (D+L+G) lost)).1 (ae (bG (D+L+G) lost))).length+(gh (ae (aA (D+L+G) lost))).length:=by unfold cE gC;rw[Ua]
 have N:(gh (ae (aA (D+L+G) lost))).length=(ae (aA (D+L+G) lost)).length:=by unfold gh;simp
 have R:=λz=>vI (wrTo (aS 8 C (bG (D+L+G) lost)).1 (ae (bG (D+L+G) lost))) (gh (ae (aA (D+L+G) lost))) (La (fP (aQ D L G) Dt m) lost) z (λs a=>by
  unfold wrTo at a;obtain⟨l,hl,a⟩:=YL.1 a;obtain⟨i,c,rfl⟩:=T9.1 hl;cases hr:cY (aS 8 C (bG (D+L+G) lost)).1 i;.rw[mR hr]at a;cases a
  . rw[iU hr]at a;rcases Uu.1 a with rfl|a;.exact(by decide:(0:Nat)≠2)
    .unfold ig at a;obtain⟨r,_,rfl⟩:=T9.1 a;exact(by decide:(1:Nat)≠2)) (λs a=>by unfold gh at a;obtain⟨k,_,rfl⟩:=T9.1 a;rfl) _ lR;refine⟨_,rfl,?_⟩;rw[J'];have g:=(R (fG (1+(ae (aA (D+L+G) lost)).length) (eZ (cE D L G lost C) (La (fP (aQ D L G) Dt m) lost)))).2;rw[VE]at g;rw[show cE D L G lost C=wrTo (aS 8 C (bG (D+L+G) lost)).1 (ae (bG (D+L+G) lost))++gh (ae (aA (D+L+G) lost))from rfl]at g⊢;rw[g];refine⟨by simp[N],λk S f=>?_⟩;have:k<(gh (ae (aA (D+L+G) lost))).length:=V;have H:(gh (ae (aA (D+L+G) lost)))[k]=⟨2,(k:Int)+1,(((ae (aA (D+L+G) lost))[k]:Nat):Int),0⟩:=by simp[gh,f]
 rw[UR,H];refine⟨rfl,λE=>?_⟩;have v:=Gj (m:=m) (Dt:=Dt) b E;rw[show cE D L G lost C=wrTo (aS 8 C (bG (D+L+G) lost)).1 (ae (bG (D+L+G) lost))++gh (ae (aA (D+L+G) lost))from rfl]at v;rw[v];have Q:=M0 (aS 8 C (bG (D+L+G) lost)).1 (La (fP (aQ D L G) Dt m) lost) m (ae (bG (D+L+G) lost)) (λ_ _=>0) (fG (1+(ae (aA (D+L+G) lost)).length) m) (by rw[o.told];exact M1 _ _);have F:=Q.row k (by rw[o.told];exact f);have B:((k:Int)+1).toNat=1+k:=V;show(me _ _ _).getD ((k:Int)+1).toNat []=_;rw[B,F,Bp _ _ _ _ (by rw[cP];exact((bU b).1 (T7 f)).1)];apply Wq;intro q T;have P:=Ul.1 T;have u:=o.sum K (λi c=>by rw[e];exact((bU b).1 c).1) (λj=>(Dt.getD j []).getD q 0) (λj=>by
  show(Dt.getD j []).getD q 0<256;by_cases n:j<Dt.length;.have A:Dt.getD j []=Dt[j]:=(by simp[n]);rw[A];exact dM (U' _ (T7 n)) q
  .simp[n]) k f;rw[e]at u;rw[p,<-u,Vq];rw[show ae (bG (D+L+G) lost)=(YE 16).filter (λi=>(bG (D+L+G) lost).testBit i)from rfl,DP];obtain⟨d,M⟩:=Nat.exists_eq_add_of_le b;rw[M,AG];have V':xs (λi=>if(bG (D+L+G) lost).testBit (D+L+G+i)=ZV then gm ((aS 8 C (bG (D+L+G) lost)).1.m k (D+L+G+i)) (((La (fP (aQ D L G) Dt m) lost).getD (D+L+G+i) []).getD q 0)else 0) d=0:=eL d (λi _=>by rw[TS];rw[rO _ _ b,show decide (D+L+G+i<D+L+G)=ZU from Vk V];simp);rw[V',UX];apply fC;intro i c;have:(fP (aQ D L G) Dt m).length=D+L+G:=by rw[Bq,cP]
 rw[rO _ _ b];have t:i∈ae (aA (D+L+G) lost)↔lost.testBit i=ZV:=by rw[bU b];exact⟨λh=>h.2,λh=>⟨c,h⟩⟩
 cases hb:lost.testBit i;.rw[TT (ZA:(decide (i<D+L+G)&&!false)=ZV),TS (λh=>by rw[t,hb]at h;cases h),Bo _ _ _ V,TS (by rw[hb];decide),Bp _ _ _ _ (by rw[cP];exact c),p];congr 1;simp[P]
 .rw[TS (ej:¬(decide (i<D+L+G)&&!true)=ZV),TT (t.2 hb)]
end
theorem DU{D L G lost:Nat}{C:Ck}(d:D<=12)(e:G<=4)(b:D+L+G<=16)(c:tells (iT D L G) (ae (aA (D+L+G) lost))=J C):∀s∈cE D L G lost C,AR s:=by
 intro s k;have a:=(pQ d e c).1;have:=a.le;have:=a.Sg;rcases Gg k with⟨i,g,rfl⟩|⟨i,_,r,o,rfl⟩|⟨j,h,rfl⟩;.have:=((pP b).1 g).1;exact⟨Zb,by show-9223372036854775808<=(0:Int);omega,by show(0:Int)<=9223372036854775807;omega,by show-9223372036854775808<=(i:Int);omega,by show(i:Int)<=9223372036854775807;omega,Zb⟩
 .exact⟨by show 1<256;decide,by show-9223372036854775808<=(1:Int)+(r:Int);omega,by show(1:Int)+(r:Int)<=9223372036854775807;omega,by show-9223372036854775808<=(0:Int);omega,by show(0:Int)<=9223372036854775807;omega,a.byt r i⟩
 .have:(ae (aA (D+L+G) lost)).length<=16:=TU (WS _ _) ej;have f:=((bU b).1 (T7 h)).1;generalize(ae (aA (D+L+G) lost))[j]=y at f;exact⟨by show 2<256;decide,by show-9223372036854775808<=(j:Int)+1;omega,by show(j:Int)+1<=9223372036854775807;omega,by show-9223372036854775808<=(y:Int);omega,by show(y:Int)<=9223372036854775807;omega,Zb⟩
def M4{D L G lost:Nat}{C:Ck}(e:D<=12)(j:L<=4)(f:G<=4)(c:D+L+G<=16)(d:tells (iT D L G) (ae (aA (D+L+G) lost))=J C):je (1+((ae (aA (D+L+G) lost)).length:Int)) (cE D L G lost C) ((D+L+G:Nat):Int):=by have b:=(pQ e f d).1;have:=b.le;have:=b.Sg;exact ab0 b.told V (λi a=>((pP c).1 a).1) (λi a=>((bU c).1 a).1)
end
def mfl(a:g<L)(j:Nat)(b:j<D):mf (aQ D L G) (D+g) j=if g*(D/L)<=j/\j<(g+1)*(D/L)then 1 else 0:=by
 unfold mf aQ;have e:((YE D).map (dB D)++(YE L).map (dh D L)++(YE G).map (bQ D)).getD (D+g) []=dh D L g:=by rw[UA,Ub,U8 ej];simp only[Uf,Vj,WB];rw[Vz (ua a)];simp[a]
 rw[e];unfold dh;simp[b]
def mfg(a:i<G)(j:Nat)(b:j<D):mf (aQ D L G) (D+L+i) j=gi ((D+i)^^^j):=by
 unfold mf aQ;have e:((YE D).map (dB D)++(YE L).map (dh D L)++(YE G).map (bQ D)).getD (D+L+i) []=bQ D i:=by rw[Ub,U8 ej];simp only[Ua,Uf,Vj,WB];simp[a]
 rw[e];unfold bQ;simp[b]
def aaV(o:1<=D)(p:D<=12)(q:G<=4)(k:D%L=0)(r:d<D+L+G):∃j,j<D/\mf (aQ D L G) d j≠0:=by
 by_cases a:d<D;.refine⟨d,a,?_⟩;unfold mf;rw[Ij D L G d a];unfold dB;simp[a]
 . by_cases n:d<D+L
   . obtain⟨g,rfl⟩:∃g,d=D+g:=⟨d-D,V⟩;have h:g<L:=V;have c:D/L*L=D:=Nat.div_mul_cancel (adh k);have m:0<D/L:=adv λe=>by rw[e]at c;omega
     have f:g*(D/L)<D:=by have b:=adC h m;rw[Wf L,c]at b;exact b
     refine⟨g*(D/L),f,?_⟩;rw[mfl h _ f,TT ⟨TV _,by rw[Xt];omega⟩];decide
   .obtain⟨i,rfl⟩:∃i,d=D+L+i:=⟨d-(D+L),V⟩;have l:i<G:=V;refine⟨0,V,?_⟩;rw[mfg l 0 V,UX];exact Lk V V
theorem PO(w:1<=D)(g:D<=12)(h:G<=4)(v:D%L=0)(b:D+L+G<=16)(B:tells (iT D L G) (ae (aA (D+L+G) lost))=J C)(p:d<D+L+G)(hl:lost.testBit d=ZV):0<iq (ae (bG (D+L+G) lost)) (aS 8 C (bG (D+L+G) lost)).1:=by
 apply adv;intro n;obtain⟨t,_⟩:=pQ g h B;have o:=kK D L G g h;have e:D+(L+G)=D+L+G:=V;obtain⟨k,r,y⟩:=UZ ((bU b).2 ⟨p,hl⟩);obtain⟨j,E,z⟩:=aaV w g h v p;have A:∀i,i∈ae (bG (D+L+G) lost)->cY (aS 8 C (bG (D+L+G) lost)).1 i=ZU:=λi a=>by
  cases hr:cY (aS 8 C (bG (D+L+G) lost)).1 i;.rfl
  .unfold iq at n;have:=U2 n;have s:i∈(ae (bG (D+L+G) lost)).filter (cY (aS 8 C (bG (D+L+G) lost)).1):=Vr.2 ⟨a,hr⟩;rw[this]at s;cases s
 have c:=t.sum o (λi a=>by rw[e];exact((bU b).1 a).1) (λq=>if q=j then 1 else 0) (λq=>by show(if q=j then 1 else 0)<256;split<;>decide) k r;rw[e,y]at c;have H:=eL (f:=λi=>if i∈ae (aA (D+L+G) lost)then 0 else gm ((aS 8 C (bG (D+L+G) lost)).1.m k i) (xs (λq=>gm (mf (aQ D L G) i q) (if q=j then 1 else 0)) D)) (D+L+G) (λi a=>by
  by_cases l:i∈ae (aA (D+L+G) lost);.rw[TT l]
  . have x:lost.testBit i=ZU:=by
     cases hb:lost.testBit i;.rfl
     .exact absurd ((bU b).2 ⟨a,hb⟩) l
    have:=iK.1 (A i ((pP b).2 ⟨a,x⟩)) k (by rw[t.told];exact r);rw[TS l,this,bO]);rw[H]at c;have u:=jL (f:=λq=>gm (mf (aQ D L G) d q) (if q=j then 1 else 0)) (k:=j) D E (λq _ F=>by rw[TS F,bm]);rw[u,TT rfl,cT _ (o.byt d j)]at c;exact z c.symm
section
section
variable {P:List St}{A B:List a7}(h:∀k,k<P.length->(bR P k).k=0->A.getD (bR P k).b.toNat []=B.getD (bR P k).b.toNat [])
include h
def Bt:∀k,k<=P.length->fl P A k=fl P B k|0,_=>rfl|k+1,hk=>by have ih:=Bt k V;unfold fl;rw[ih];cases fl P B k with|some n=>rfl|none=>
   show(if(bR P k).k=0 then _ else _)=if(bR P k).k=0 then _ else _;by_cases a:(bR P k).k=0;.rw[TT a,TT a,h k V a]
   .rw[TS a,TS a]
def vJ(b:List a7):∀k,k<=P.length->bZ P A b k=bZ P B b k
 |0,_=>rfl|k+1,hk=>by
  unfold bZ;rw[vJ b k V];unfold eA;by_cases a:(bR P k).k=0;.rw[TT a,TT a,h k V a]
  .rw[TS a,TS a]
def vL(a:List a7):∀k,k<=P.length->dO P A a k=dO P B a k|0,_=>rfl|k+1,hk=>by unfold dO;rw[vL a k V,vJ h a k V]
def DV:eZ P A=eZ P B:=by unfold eZ;rw[Bt h _ lR]
def M6{x y:Nat}(f:gY P B y)(g:∀k,k<P.length->(bR P k).k=0->¬pC x (bR P k).b.toNat):gY P A x:=λk c a=>by obtain⟨_,d,e⟩:=f k c a;rw[<-Bt h (k+1) V,<-h k c a]at d;rw[<-h k c a]at e;exact⟨g k c a,d,e⟩
end
def PP{s x:Nat}{dl Dl:List a7}(y:1<=D)(n:D<=12)(o:G<=4)(t:D%L=0)(f:D+L+G<=16)(j:tells (iT D L G) (ae (aA (D+L+G) s))=J C)(B:d<D+L+G)(J':s.testBit d=ZV)(u:dl.length=D)(K:∀l∈dl,∀x∈l,x<256)(e:∀i,(AU (cE D L G s C)).testBit i=ZV->Dl.getD i []=(fP (aQ D L G) dl 44).getD i []/\x.testBit i=ZU):gY (cE D L G s C) Dl x/\dO (cE D L G s C) Dl (fG (1+(ae (aA (D+L+G) s)).length) (eZ (cE D L G s C) Dl)) (cE D L G s C).length=(ae (aA (D+L+G) s)).map (λd:Nat=>((d:Int),(fP (aQ D L G) dl 44).getD d [])):=by
 have h:∀k,k<(cE D L G s C).length->(bR (cE D L G s C) k).k=0->(AU (cE D L G s C)).testBit (bR (cE D L G s C) k).b.toNat=ZV:=λk e a=>by rw[eE _ _ e]at a⊢;exact(pE _ _).2 ⟨_,T7 e,a,rfl⟩
 have g:∀k,k<(cE D L G s C).length->(bR (cE D L G s C) k).k=0->Dl.getD (bR (cE D L G s C) k).b.toNat []=(La (fP (aQ D L G) dl 44) s).getD (bR (cE D L G s C) k).b.toNat []:=λk c a=>by rw[(e _ (h k c a)).1];rw[eE _ _ c]at a⊢;obtain⟨i,z,S,hl⟩:=kM f (T7 c) a;rw[z,VF,Bo _ _ _ (by rw[Bq,cP];exact S),TS (by rw[hl];decide)]
 refine⟨M6 g (PM f ec) λk c a H=>?_,?_⟩;.have:=(e _ (h k c a)).2;rw[pS.1 H]at this;cases this
 .obtain⟨O',w,E,A⟩:=PN (m:=44) (Dt:=dl) n o f j u K;have F:=PO y n o t f j B J';rw[vL g _ _ lR,DV g,w];refine Ve (by simp[E]) λk r M=>?_;have v:k<(ae (aA (D+L+G) s)).length:=V;obtain⟨p,q⟩:=A k r v;rw[UR,<-p,<-q F]
end
section
attribute [local go_sem] Oper.semAt_some
structure CF(w:ZT)(D L G:Nat)(X:ZT):Prop where
 par:X.heap[w.heap.size]?=J (Z4 #[I O (D:Int),I O (L:Int),I O (G:Int)] 28 (0,0))res:aH X (w.heap.size+1) ei
 err:ZN X (w.heap.size+1+1) 51 .nilIface
 below:bW w X
def CF.mono(h:CF w D L G X)(a:ZR B X Y)(b:w.heap.size+3<=B):CF w D L G Y:=⟨(a.block _ V).trans h.par,h.res.keep (a.block _ V),(a.block _ V).trans h.err,h.below.trans (a.mono V)⟩
def CF.own{row:Option Nat}(h:CF w D L G X)(c:w.heap.size+3<=B)(a:X.grownBy Y row)(b:∀r,row=J r->B<=r):CF w D L G Y:=h.mono (B:=w.heap.size+3) ⟨a.os,a.tape,a.output,a.size,λk d=>a.block k (ia h.err.lt) (λe=>ia (b k e.symm))⟩ lR
def fT{z:ZS}{t:ZO}(h:X.heap[b]?=J (Z4 #[x,y,z] t (0,0))):X.cell? ⟨b,0,U⟩=J x/\X.cell? ⟨b,1,U⟩=J y/\X.cell? ⟨b,2,U⟩=J z:=by simp[World.cell?,h]
def aaW(D L G S:Nat)(w:ZT)(e:Ending)(w':ZT):Prop:=bW w w'/\((tells (iT D L G) (ae S)=U/\e=Z3 (ZZ #[.agg (a9 ei),.iface 58 (I O 3)]))\/(∃C,tells (iT D L G) (ae S)=J C/\e=Z3 (ZZ #[.agg (a9 C),.nilIface])))
def Gk(pre:List Sh):a7:=pre.map (·.1)
def JU(pre:List Sh)(x:Sh):Gk (pre++[x])=Gk pre++[x.1]:=by unfold Gk;simp
def CfI(w:ZT)(D L G Bc B:Nat)(pre:List Sh)(X:ZT):Prop:=CF w D L G X/\(∃C,tells (iT D L G) (Gk pre)=J C/\aH X Bc C)/\B<=X.heap.size
def CfX(w:ZT)(D L G B:Nat)(c:Code)(pre:List Sh)(X:ZT):Prop:=c=.ret/\tells (iT D L G) (Gk pre)=U/\bW w X/\B<=X.heap.size/\aH X (w.heap.size+1) ei/\ZN X (w.heap.size+1+1) 51 (.iface 58 (I O 3))
def CfI.own{Bc:Nat}(h:w.heap.size+3<=B)(i:Bc<B):OwnFrom B (CfI w D L G Bc B):=by rintro pre X Y row⟨d,⟨C,f,b⟩,g⟩a c;exact⟨d.own h a (λr e=>(c r e).1),⟨C,f,b.keep (a.block _ b.lt (λe=>ia ((c _ e.symm).1)))⟩,TU g a.size⟩
def CfX.own(m:w.heap.size+3<=B)(c:Code):OwnFrom B (CfX w D L G B c):=by rintro pre X Y row⟨g,h,d,i,j,l⟩a f;have b:∀k,k<w.heap.size+3->Y.heap[k]?=X.heap[k]?:=λk b=>a.block k V (λe=>ia ((f k e.symm).1));exact⟨g,h,d.grown a d.size (λk e=>ia ((f k e).1)),TU i a.size,j.keep (b _ V),(b _ V).trans l⟩
def sO(h:aH X b C)(cs:Array ZS):KeepsOthers X (X.setRow b cs):=adr (aT _ _ _) (λj o e ho=>by cases e;rw[h.heap]at ho;cases ho;rfl)
def Gl(h:aH w b C):(loadVar 335 ⟨b,0,U⟩).run ZL w=.ok (.agg (a9 C)) w:=Xk w b 335 335 (a9 C) (0,0) _ h.heap XL rfl (eH C)
theorem M7{ev:ZS}(c:a.defers=[{target:=.collected D',args:=#[]}])(h4:a.tmps.getD 4 ZY=Z6 (J ⟨w.heap.size+1,0,U⟩))(h5:a.tmps.getD 5 ZY=Z6 (J ⟨w.heap.size+1+1,0,U⟩))(h1:aH Z (w.heap.size+1) C)(h0:ZN Z (w.heap.size+1+1) 51 ev)(hK:Z.heap[D']?=J (.deferred (J [])))(hD:w.heap.size+3<=D')(hR:R (Z3 (ZZ #[.agg (a9 C),ev])) (Z.putObj D' (.deferred U))):bodyPostM Fence.wide n ZL Tryz.f214 R .ret a Z:=by
 obtain⟨d,h⟩:=a;simp only at c h4 h5;subst c;refine⟨ej,.inl ⟨_,_,rfl,Wo hK,?_⟩⟩;have c0:=Gl (show aH (Z.putObj D' (.deferred U)) (w.heap.size+1) C from h1.keep (UI V));have e:=(show ZN (Z.putObj D' (.deferred U)) (w.heap.size+1+1) 51 ev from(UI V).trans h0).cell;have b:(loadVar 51 ⟨w.heap.size+1+1,0,U⟩).run ZL (Z.putObj D' (.deferred U))=.ok ev (Z.putObj D' (.deferred U)):=by simp[go_sem,e]
 refine⟨ZZ #[.agg (a9 C),ev],?_,hR⟩;have f:d[4]?.getD ZY=Z6 (J ⟨w.heap.size+1,0,U⟩):=ua h4;have g:d[5]?.getD ZY=Z6 (J ⟨w.heap.size+1+1,0,U⟩):=ua h5;simp[results,results214,asAddr,f,g,c0,b]
theorem lY(D L G S:Nat)(hr:dA D L G=ZV)(qb:1<=D)(hD:D<=12)(hL:1<=L)(k9:L<=4)(hG:G<=4)(hv:D%L=0)(qf:D+L+G<=16)(hS:S<65536)(w:ZT)(hT:aI w)(h2:3<=w.heap.size):ZQ ZL 214 #[.agg #[I O D,I O L,I O G],I Z8 S] w λe w'=>aaW D L G S w e w':=by
 obtain⟨n,HN⟩:∃n:Nat,cL (9<=n):=⟨9,TV _⟩;refine(Vo (n:=n)).1 ?_;refine WO func214 rfl trivial ?_ rfl;simp only[ntmps214,UK,UC,U0,YF,YG,Vf,Vg,Vh,Vi,Ut,U1];have hz:=zeroCk;gi_wp2;refine cM (lx D L G hr hD hL k9 hG hv _) ?_;rintro e w1⟨v,T,rfl,ka,hH,E⟩;have W:(((w.alloc (Z4 #[I O (D:Int),I O (L:Int),I O (G:Int)] 28)).alloc (Z4 (a9 ei) 335)).alloc (Z4 #[.nilIface] 51)).heap.size=w.heap.size+3:=ej;have kg:CF w D L G (((w.alloc (Z4 #[I O (D:Int),I O (L:Int),I O (G:Int)] 28)).alloc (Z4 (a9 ei) 335)).alloc (Z4 #[.nilIface] 51)):=by obtain⟨a1,a2,a3,a4⟩:=L8 w (Z4 #[I O (D:Int),I O (L:Int),I O (G:Int)] 28) (Z4 (a9 ei) 335) (Z4 #[.nilIface] 51);exact⟨a2,aH.of_heap a3,a4,((bA w _).alloc ej _).alloc ek _⟩
 try change ZR _ _ _ at E
 rw[W]at E;have P:=kg.mono E lR;have K:=E.size;try change ZR _ _ _ at K
 rw[W]at K;clear kg E W;have hM:aQ D L G≠[]:=λe=>by have:=cP D L G;rw[e]at this;simp at this;omega
 obtain⟨g,c,rfl,hs,kf⟩:=MX ka hH (lE D L G) hM;obtain⟨p0,p1,p2⟩:=fT P.par;have kh:ZQ ZL 222 #[Z5 (J ⟨g,0,U⟩) (aQ D L G).length c,I O D] w1 λe w'=>e=Z3 (.agg (a9 (iT D L G)))/\bW w1 w':=by
  have ha:=cP D L G;have h:=Bj g 0 c (aQ D L G) D w1 hs (λi a=>kf i a) qb V V V (λi a=>by have e:(aQ D L G).getD i []=(aQ D L G)[i]:=Zl;rw[e];exact lE D L G _ (T7 a));try change ZR _ _ _ at h
  rw[(V:(aQ D L G).length-D=L+G)]at h;exact h
 have k5:=ak P;clear ka hH P kf;gi_wp2;refine cM kh ?_;clear kh;rintro e b⟨rfl,V'⟩;have kp:=V'.size;have h6:=k5.out.mono V' V;have kb:bW b ((b.alloc (Z4 (a9 ei) 335)).setRow b.heap.size (a9 (iT D L G))):=(bA _ _).grown (aT _ _ _) ej (λk e=>E3);have kc:aH ((b.alloc (Z4 (a9 ei) 335)).setRow b.heap.size (a9 (iT D L G))) b.heap.size (iT D L G):=(aH.new b ei).setRow (iT D L G);have h7:=h6.mono kb V;have ky:((b.alloc (Z4 (a9 ei) 335)).setRow b.heap.size (a9 (iT D L G))).heap.size=b.heap.size+1:=Ze;have F:=au kc h7 ky;clear k5 V' h6 kb kc h7 ky;gi_wp2_with(refine kJ rfl (Z0 8) (Z0 22) rfl b.heap.size (iT D L G) ei rfl rfl (aH.new b ei) ?_);obtain⟨w5,ks⟩:=nM ((b.alloc (Z4 (a9 ei) 335)).setRow b.heap.size (a9 (iT D L G)));rw[ks]at F⊢;clear ks;refine cM (eo S w5) ?_;rintro e w'⟨rfl,rfl⟩;have kz:(w5.alloc (Z4 #[I Z8 (S:Int)] 123)).heap.size=w5.heap.size+1:=ej;have ke:(w5.alloc (Z4 #[I Z8 (S:Int)] 123)).cell? ⟨w5.heap.size,0,U⟩=J (I Z8 (S:Int)):=(Bx.new w5 123 (I Z8 (S:Int))).cell;have kj:CfI w D L G b.heap.size (w5.heap.size+1) [] (w5.alloc (Z4 #[I Z8 (S:Int)] 123)):=by have A:bW w5 (w5.alloc (Z4 #[I Z8 (S:Int)] 123)):=bA _ _;obtain⟨t,u,l⟩:=F.o;exact⟨u.mono A V,⟨iT D L G,rfl,t.keep (A.block _ V)⟩,V⟩
 obtain⟨z,kv⟩:=nM (w5.alloc (Z4 #[I Z8 (S:Int)] 123));have hf:=F.o.2.2;have J':=aE kz hf K kp;have I':=ak ke;have m:=ak kj;clear kz ke kj F hf K kp p0 p1 p2;gi_wp2;try change ZR _ _ _ at J'
 try change ZR _ _ _ at I'
 try change ZR _ _ _ at m
 rw[kv]at J' I' m;clear kv;have q9:w.heap.size+3<=z.heap.size/\b.heap.size<z.heap.size/\z.heap.size=w5.heap.size+1:=by obtain⟨t,u,l,M⟩:=J'.out;omega
 obtain⟨k6,q8,Q⟩:=q9;try change ZR _ _ _ at m
 rw[<-Q]at m;have q0:=ak Q;clear Q;refine WQ rfl (ia HN.o) (gf:=154) (lb:=#[Z6 (J ⟨w5.heap.size,0,U⟩)]) rfl trivial (U9 func154 ee rfl) (fD (n-1) w5.heap.size S hS z (ia q0.out) I'.out V (hT.mono V m.out.1.below)) (λh k=>yV h k) (yW V) (TW _ _) (λ_=>rfl) (CfI w D L G b.heap.size z.heap.size) (CfX w D L G z.heap.size) (CfI.own k6 q8) (CfX.own k6) m.out (λx=>{tmps:=#[.agg #[I O (D:Int),I O (L:Int),I O (G:Int)],I Z8 (S:Int),Z6 (J ⟨w.heap.size,0,U⟩),ZY,Z6 (J ⟨w.heap.size+1,0,U⟩),Z6 (J ⟨w.heap.size+1+1,0,U⟩),Z5 (J ⟨g,0,U⟩) (aQ D L G).length c,.nilIface,Z6 (J ⟨b.heap.size,0,U⟩),I O (x.1:Int),ZZ #[Z5 (J ⟨g,0,U⟩) (aQ D L G).length c,.nilIface],.agg #[I O (D:Int),I O (L:Int),I O (G:Int)],ZZ #[Z5 (J ⟨g,0,U⟩) (aQ D L G).length c,.nilIface],Z5 (J ⟨g,0,U⟩) (aQ D L G).length c,.nilIface,.nilIface,Z1 ZU,ZY,ZY,Z5 (J ⟨g,0,U⟩) (aQ D L G).length c,Z6 (J ⟨w.heap.size,0,U⟩),I O (D:Int),.agg (a9 (iT D L G)),I Z8 (S:Int),.func (.func 154) #[] #[Z6 (J ⟨w5.heap.size,0,U⟩)],I O (x.1:Int),ZY,ZY,ZY,ZY,ZY,ZY],defers:=[]}) ?assign ?body ?done ?stop;case assign=>intro l2 x X Kk hK;unfold sF;gi_wp2;exact hK
 case body=>
  rintro l2 pre x X⟨a,⟨C,j,y⟩,s⟩ha;have h9:=Bk hD k9 hG j;have kr:=vA b.heap.size x.1 C X y h9 x.2;have H:tells (iT D L G) (Gk (pre++[x]))=oh C x.1:=by rw[JU,lg,j];rfl
  have f:=ak a;have Y:=ak s;clear s ha j y h9;have ce:=a.err.cell;have fe:=a.err.frozen;clear a;gi_wp2;refine dJ kr ?_;clear kr;rintro e w2(⟨kk,rfl,qe⟩|⟨C',km,rfl,k7,ki⟩)
  . subst qe;have q7:=ak (H.trans kk);clear H kk;have d:ZN (w2.setRow (w.heap.size+1) (a9 ei)) (w.heap.size+1+1) 51 .nilIface:=((aT _ _ _).block _ f.o.err.lt (λe=>ia (UN e))).trans f.o.err;have N:=d.cell;have O':=d.frozen;have q6:=ak d;clear d;gi_wp2_with(refine kJ rfl (Z0 4) (Z0 29) rfl (w.heap.size+1) ei ei rfl rfl f.o.res ?_);have a:=f.o;have U':bW w (w2.setRow (w.heap.size+1) (a9 ei)):=a.below.grown (aT _ _ _) a.below.size (λq e=>Zj);refine⟨?_,rfl,q7.out,?_,?_,?_,?_⟩;.exact((sO f.o.res _).trans (V6 _ _ _)).from _
    .exact U'.setCell (p:=⟨w.heap.size+1+1,0,U⟩) Wb _
    .have:=Y.o;simpa[World.setCell,World.setRow]using this
    .exact(a.res.setRow ei).keep (V8 _ _ _ _ (by show w.heap.size+1≠w.heap.size+1+1;omega))
    .exact q6.out.set _
  .have H2:=au (H.trans km) k7 ki;clear H km k7 ki;gi_wp2;obtain⟨t,u,l⟩:=H2.o;have Z:=f.o.own (B:=w.heap.size+3) lR l (λr e=>by cases e;obtain⟨t,u,l,M⟩:=J'.out;omega);exact⟨⟨l.size,λk o hk ho _=>(l.block k (TX.1 ho).1 (λe=>Zj)).trans ho⟩,λ_=>hT.mono V Z.below,Z,⟨C',t,u⟩,TU Y.o l.size⟩
 case done=>
  rintro D' xs X qa kx⟨a,⟨C,j,y⟩,s⟩hK;try change ZR _ _ _ at j
  rw[show Gk xs=ae S from kx]at j;have d:ZN (X.setRow (w.heap.size+1) (a9 C)) (w.heap.size+1+1) 51 .nilIface:=((aT _ _ _).block _ a.err.lt (λe=>ia (UN e))).trans a.err;have N:=d.cell;have O':=d.frozen;have f:=a6 a y s hK j d;clear a y s hK j kx xs m I' d;gi_wp2_with(first|refine lG rfl (Z0 8) rfl b.heap.size C rfl f.o.2.1 ?_|refine kJ rfl (Z0 4) (Z0 31) rfl (w.heap.size+1) C ei rfl rfl f.o.1.res ?_);obtain⟨a,y,s,hK,j,d⟩:=f.o;have U':bW w (X.setRow (w.heap.size+1) (a9 C)):=a.below.grown (aT _ _ _) a.below.size (λq e=>Zj);have qc:=U'.setCell (p:=⟨w.heap.size+1+1,0,U⟩) Wb .nilIface;have qd:=(sO a.res (a9 C)).trans (V6 _ ⟨w.heap.size+1+1,0,U⟩ .nilIface);have k8:=qd.same D' _ hK rfl;exact M7 (w:=w) rfl rfl rfl ((a.res.setRow C).keep (V8 _ _ _ _ (by show w.heap.size+1≠w.heap.size+1+1;omega))) (d.set _) k8 V ⟨Below.RO qc V (TX.1 k8).1 _,.inr ⟨C,j,rfl⟩⟩
 case stop=>
  rintro D' cc pre X qa hy⟨rfl,ko,A,s,he,h8⟩hK;have hc:tells (iT D L G) (ae S)=U:=by obtain⟨R,hR⟩:=hy;rw[<-hR];exact jx _ _ _ ko
  have HH:=a5 A he h8 hK hc;clear A he h8 hK hc ko;gi_wp2;obtain⟨t,u,l,M,q5⟩:=HH.o;exact M7 (w:=w) rfl rfl rfl u l M V ⟨Below.RO t V (TX.1 M).1 _,.inl ⟨q5,rfl⟩⟩
end
def rP(n nb:Nat):eR:=⟨n,nb,λ_=>ZU,λ_ _=>ZU,λ_ _=>zb⟩
def rQ(n nb S:Nat):an:=⟨n,nb,λ_ _=>ZU,λ_=>ZU,λ_ _=>ZU,λ_ _=>ZU,λ_ _=>.blank,S⟩
def Bu(n nb S:Nat):gA (rP n nb) (rQ n nb S):=⟨rfl,rfl,λ_ _=>rfl,λ_ _ _ _=>AM (r:=.blank) trivial,λ_ _ _ _ h=>Bf⟩
def Gm(w:ZT)(b nb:Nat):Prop:=w.rowIs b 119 (64*nb) (λ_=>I .u8 0)
def JV(w:ZT)(b nb:Nat):Prop:=w.rowIs b 4 nb (λ_=>Z1 ZU)
def eB(nb:Nat)(q:Nat×Nat):List ZS:=[Z1 ZU,Z5 (J ⟨q.1,0,U⟩) nb nb,Z5 (J ⟨q.2,0,U⟩) nb nb,I O 0]
def oI(nb:Nat)(l:List (Nat×Nat)):List ZS:=l.flatMap (eB nb)
def Tryz.infoDrive:(ZL.info? 113).map (λi=>(i.zero,i.size,i.bytes))=J (J (.agg #[Z1 ZU,Z5 U 0 0,Z5 U 0 0,I O 0]),4,64):=ee
def Tryz.Tr:(ZL.info? 4).map (λi=>(i.zero,i.size,i.bytes))=J (J (Z1 ZU),1,1):=ee
def M8(w:ZT)(nb:Nat):Gm (w.alloc (Z4 (madeCells (aK zb) (nb*64)) 119)) w.heap.size nb:=by
 refine⟨_,Ug _ _,by rw[size_madeCells];omega,λi c=>?_⟩;have b:(aK zb).size=64:=by rw[iR,dW]
 have:i%64<64:=VT _ ec;have a:(aK zb)[i%64]! =I .u8 0:=by
  have e:aK zb=YI 64 (I .u8 0):=by simp only[aK,aL,zb,List.map_replicate,List.toArray_replicate];rfl
  rw[getElem!_pos (aK zb) (i%64) V];simp only[e,Array.getElem_replicate]
 simp[madeCells,b,a,(V:i<nb*64)]
def NaS(w:ZT)(p nb k:Nat)(L:List (Nat×Nat))(v:ZS)(wr:ZT):Prop:=L.length=k/\wr.heap[p]?=J (Z4 #[v,I O (-1)] 109 (0,0))/\wr.ownsRow (p+1) 113 4 v k (oI nb L)/\(∀q∈L,(p<q.1/\p<q.2)/\Gm wr q.1 nb/\JV wr q.2 nb)/\(L.map (λq=>q.1)).Nodup/\(L.map (λq=>q.2)).Nodup/\ZR p w wr
def NaR(w:ZT)(p nb n:Nat)(i:ZS)(wr:ZT):Prop:=∃k L v,k<=n/\i=I O (k:Nat)/\NaS w p nb k L v wr
def Il{xs:List ZS}{f:Nat->ZS}(h:w.ownsRow base 113 4 v n xs)(j:w.rowIs b t m f)(l:t≠113):v.ownBlock≠J b:=by
 intro e;rcases h.2 with⟨i,_⟩|⟨g,cap,cur,d,o,a,p⟩;.rw[i]at e;simp[Value.ownBlock]at e
 .rw[d]at e;simp[Value.ownBlock]at e;subst e;obtain⟨c,k,_⟩:=j;rw[k]at a;simp at a;exact l a.2
def vM(h:l.Nodup)(a:∀x∈l,x<b)(c:Nat)(g:b<=c):(l++[c]).Nodup:=by rw[U3];refine⟨h,ej,λx d y f e=>?_⟩;simp at f;have:=a x d;omega
def NaS.next{L:List (Nat×Nat)}{v':ZS}{q:Nat×Nat}(h:NaS w p nb k L v wr)(z:wr.heap.size<=q.1)(A:wr.heap.size<=q.2)(ho:w'.ownsRow (p+1) 113 4 v' (k+1) (oI nb L++eB nb q))(B:Gm w' q.1 nb)(C:JV w' q.2 nb)(u:w'.heap[p]?=J (Z4 #[v',I O (-1)] 109 (0,0)))(b:aa (λj=>j=p\/v.ownBlock=J j) wr w'):NaS w p nb (k+1) (L++[q]) v' w':=by
 obtain⟨n,o,i,d,r,s,c⟩:=h;have:p<wr.heap.size:=(TX.1 o).1;have m:∀x∈L,Gm w' x.1 nb/\JV w' x.2 nb:=λx a=>by
  obtain⟨⟨D,E⟩,f,g⟩:=d x a;refine⟨Wc f (b.block _ f.lt ?_),Wc g (b.block _ g.lt ?_)⟩
  . rintro(e|e);.omega
    .exact Il i f ec e
  . rintro(e|e);.omega
    .exact Il i g ec e
 refine⟨by simp[n],u,?_,λx a=>?_,?_,?_,⟨b.os.trans c.os,b.tape.trans c.tape,b.output.trans c.output,TU c.size b.size,λj t=>(b.block j V (λe=>?_)).trans (c.block j t)⟩⟩;.have e:oI nb (L++[q])=oI nb L++eB nb q:=(by simp[oI]);rw[e];exact ho
 . rcases Ui.1 a with a|a;.exact⟨(d x a).1,m x a⟩
   .simp at a;subst a;exact⟨⟨V,V⟩,B,C⟩
 .rw[Uz];exact vM r (λx a=>by obtain⟨y,l,rfl⟩:=T9.1 a;exact(d y l).2.1.lt) _ z
 .rw[Uz];exact vM s (λx a=>by obtain⟨y,l,rfl⟩:=T9.1 a;exact(d y l).2.2.lt) _ A
 . rcases e with e|e;.omega
   .have:=(i.lt j e).1;omega
def M9(n nb:Nat)(w:ZT)(e:Ending)(w':ZT):Prop:=e=Z3 (Z6 (J ⟨w.heap.size,0,U⟩))/\bW w w'/\∃F:aC,F.pw=ZV/\aj w' w.heap.size (rP n nb) F/\∀k,F.S k->w.heap.size<=k
def DW(nb:Nat):∀(L:List (Nat×Nat))(i:Nat),i<L.length->(oI nb L)[i*4]?=J (Z1 ZU)/\(oI nb L)[i*4+1]?=J (Z5 (J ⟨(L.getD i (0,0)).1,0,U⟩) nb nb)/\(oI nb L)[i*4+2]?=J (Z5 (J ⟨(L.getD i (0,0)).2,0,U⟩) nb nb)/\(oI nb L)[i*4+3]?=J (I O 0)
 |[],i,h=>absurd h ej|q::L,0,_=>⟨rfl,rfl,rfl,rfl⟩|q::L,i+1,h=>by
  have e:oI nb (q::L)=eB nb q++oI nb L:=by simp[oI]
  have ih:=DW nb L i (ua h);have a:∀j,(eB nb q++oI nb L)[(i+1)*4+j]?=(oI nb L)[i*4+j]?:=λj=>by rw[U8 (by simp[eB];omega),show(i+1)*4+j-(eB nb q).length=i*4+j by simp[eB];omega]
  rw[e];exact⟨(a 0).trans ih.1,(a 1).trans ih.2.1,(a 2).trans ih.2.2.1,(a 3).trans ih.2.2.2⟩
def DX(h:l.Nodup){i j:Nat}(a:i<l.length)(b:j<l.length)(e:l[i]=l[j]):i=j:=(List.getElem_inj h).1 e
theorem NaS.post{L:List (Nat×Nat)}(h:NaS w w.heap.size nb n L v wr)(K:0<n)(B:n<=1000)(C:nb<=1000000):M9 n nb w (Z3 (Z6 (J ⟨w.heap.size,0,U⟩))) wr:=by
 obtain⟨b,t,u,f,y,z,A⟩:=h;refine⟨rfl,A,?_⟩;rcases u.2 with⟨rfl,S⟩|⟨g,cap,cur,rfl,c,r,F,G,H,s⟩;.omega
 . have l:∀i,i<n->(L.getD i (0,0))∈L:=λi a=>by rw[Ub,Ud (V:i<L.length)];exact T7 _
   refine⟨⟨g,cap,λi=>(L.getD i (0,0)).1,λi=>(L.getD i (0,0)).2,λk=>k=w.heap.size\/k=g\/∃i,i<n/\(k=(L.getD i (0,0)).1\/k=(L.getD i (0,0)).2),ZV⟩,rfl,⟨⟨-1,t,ec,ec,λ_=>rfl⟩,⟨cur,r,λi a=>?_⟩,λi a=>?_,λi a=>?_,λi j a d=>⟨λe=>?_,λe=>?_⟩,λk=>Yd,B,C,λ_ _=>⟨dW,λx D=>ia (VG D)⟩⟩,?_⟩;.have q:=DW nb L i (by rw[b];exact a);have:i<n:=a;rw[<-s]at q;simp only[VK (V:i*4<n*4),VK (V:i*4+1<n*4),VK (V:i*4+2<n*4),VK (V:i*4+3<n*4),adw]at q;exact⟨q.1,q.2.1,q.2.2.1,_,q.2.2.2⟩
   . refine World.rowIs.congr (f _ (l i a)).2.1 λj d=>?_;show Value.int .u8 0=Value.int .u8 ((zb.getD (j%64) 0:Nat):Int);have E:zb.getD (j%64) 0=0:=by unfold zb;rw[Ub,WJ];split<;>rfl
     rw[E];rfl
   .exact(f _ (l i a)).2.2
   .have p:i<(L.map (λq=>q.1)).length:=(by rw[Uf,b];exact a);have c:j<(L.map (λq=>q.1)).length:=(by rw[Uf,b];exact d);refine DX y p c ?_;have m:i<L.length:=(by rw[b];exact a);have o:j<L.length:=(by rw[b];exact d);simpa[m,o]using e
   .have p:i<(L.map (λq=>q.2)).length:=(by rw[Uf,b];exact a);have c:j<(L.map (λq=>q.2)).length:=(by rw[Uf,b];exact d);refine DX z p c ?_;have m:i<L.length:=(by rw[b];exact a);have o:j<L.length:=(by rw[b];exact d);simpa[m,o]using e
   . rintro k(rfl|rfl|⟨i,a,rfl|rfl⟩);.exact TV _
     .exact Nat.le_of_succ_le c
     .exact Nat.le_of_lt (f _ (l i a)).1.1
     .exact Nat.le_of_lt (f _ (l i a)).1.2
def FkN(w w2:ZT)(nb b1 b2:Nat):Prop:=Gm w2 b1 nb/\JV w2 b2 nb/\w.heap.size<=b1/\w.heap.size<=b2/\bW w w2
theorem lI(n nb:Nat)(w:ZT)(km:0<n)(hn:n<=1000)(ko:nb<=1000000):ZQ ZL 19 #[I O n,I O nb] w λe w'=>M9 n nb w e w':=by
 go_enter func19,ntmps19;have h0:NaS w w.heap.size nb 0 [] (Z5 U 0 0) (w.alloc (Z4 #[Z5 U 0 0,I O (-1)] 109)):=⟨rfl,Ug _ _,UQ _ _ _ _,λq hq=>(by simp at hq),ej,ej,bA w _⟩;go_wp2_with fail;go_loopw[9](λi wr=>NaR w w.heap.size nb n i wr)(λi _=>n-(intOf i).toNat);case atStart=>exact⟨0,[],_,T8 _,rfl,h0⟩
 case round=>
  clear h0;obtain⟨k,L,v,hk,rfl,d⟩:=hrel;by_cases kp:k<n
  . have c:=ak d;clear d;go_wp2_with fail;obtain⟨p,hp⟩:=nM (w.heap.size);have d:=c.o;rw[hp]at d⊢;have I':=d.2.1;have he:=d.2.2.1;have ke:p<wr.heap.size:=(TX.1 I').1;have c0:wr.drew.cell? ⟨p,0,U⟩=J v:=show wr.cell? _=_ by simp[World.cell?,I']
    have n1:¬(nb:Int)<0:=V;obtain⟨ib,kb,k7,k6,k5⟩:=Uw Tryz.zeroBlk;obtain⟨ic,kc,ka,k9,k8⟩:=Uw Tryz.Tr;obtain⟨id,S,kj,ki,kh⟩:=Uw Tryz.infoDrive;have N:∀w',(Instr.makeSlice 110 (I O nb) (I O nb)).run ZL w'=.ok (Z5 (J ⟨w'.heap.size,0,U⟩) nb nb) (w'.alloc (Z4 (madeCells (aK zb) (nb*64)) 119)):=λw'=>by have E:=run_make (P:=ZL) w' 110 119 ib (.agg (aK zb)) underlying110 kb k7 .i64 .i64 nb nb V (Int.le_refl _) (by rw[k5];omega) V;rw[k6,VF]at E;exact E
    have H:∀w',(Instr.makeSlice 111 (I O nb) (I O nb)).run ZL w'=.ok (Z5 (J ⟨w'.heap.size,0,U⟩) nb nb) (w'.alloc (Z4 (madeCells #[Z1 ZU] nb) 4)):=λw'=>by have E:=run_make (P:=ZL) w' 111 4 ic (Z1 ZU) ads kc ka .i64 .i64 nb nb V (Int.le_refl _) (by rw[k8];omega) V;rw[k9,VF,Wd]at E;exact E
    refine mq 16 (wl [(0,ZV),(1,ZV),(2,ZV),(3,ZV),(4,ZV),(5,ZV),(6,ZV),(8,ZV),(9,ZV)] (.fk (wl [(7,ZU),(10,ZU),(11,ZV),(12,ZU),(13,ZU),(14,ZV),(15,ZV),(16,ZU)] .en) (wl [(10,ZU),(7,ZU),(11,ZV),(12,ZU),(13,ZU),(14,ZV),(15,ZV),(16,ZU)] .en))) (λw'=>w'.cell? ⟨p,0,U⟩=J v) ee ee c0 ?_;iterate 9 refine bE ?_
    have C:∀w1:ZT,bW wr w1->w1.cell? ⟨p,0,U⟩=J v:=λw1 hb=>(hb.cell (p:=⟨p,0,U⟩) ke).trans c0;have x:bW wr wr.drew:=(TW _ wr).drew;have a:∀{w1:ZT}(o:Obj),bW wr w1->bW wr (w1.alloc o):=λo h=>h.alloc h.size o;clear c;have c:=au d he I';clear d he I' c0;obtain⟨f,U'⟩:∃o,Obj.cells (madeCells (aK zb) (nb*64)) 119=o:=⟨_,rfl⟩;obtain⟨l,V'⟩:∃o,Obj.cells (madeCells #[Z1 ZU] nb) 4=o:=⟨_,rfl⟩;have X:∀w':ZT,Gm (w'.alloc f) w'.heap.size nb:=λw'=>U'▸M8 w' nb;have Y:∀w':ZT,JV (w'.alloc l) w'.heap.size nb:=λw'=>V'▸Xv w' (Z1 ZU) nb _;rw[U']at N;rw[V']at H;refine⟨?fa,?fb⟩;case' fa=>obtain⟨b1,A⟩:∃b,wr.heap.size=b:=⟨_,rfl⟩;obtain⟨b2,B⟩:∃b,wr.heap.size+1=b:=⟨_,rfl⟩;refine dV (v:=Z5 (J ⟨b1,0,U⟩) nb nb) (w1:=wr.drew.alloc f) rfl rfl (by simp[execOp,Act.eval,N,A]) (λ_=>C _ (a _ x)) ?_;simp only[Act.put,TZ,T5,T6];refine dV (v:=Z5 (J ⟨b2,0,U⟩) nb nb) (w1:=(wr.drew.alloc f).alloc l) rfl rfl (by simp[execOp,Act.eval,H,B]) (λ_=>C _ (a _ (a _ x))) ?_;have z:FkN wr ((wr.drew.alloc f).alloc l) nb b1 b2:=⟨by rw[<-A];exact(X _).alloc _,by have:=Y (wr.drew.alloc f);rw[Um]at this;rw[<-B];exact this,V,V,a _ (a _ x)⟩;obtain⟨w2,W⟩:=nM ((wr.drew.alloc f).alloc l)
    case' fb=>obtain⟨b2,B⟩:∃b,wr.heap.size=b:=⟨_,rfl⟩;obtain⟨b1,A⟩:∃b,wr.heap.size+1=b:=⟨_,rfl⟩;refine dV (v:=Z5 (J ⟨b2,0,U⟩) nb nb) (w1:=wr.drew.alloc l) rfl rfl (by simp[execOp,Act.eval,H,B]) (λ_=>C _ (a _ x)) ?_;simp only[Act.put,TZ,T5,T6];refine dV (v:=Z5 (J ⟨b1,0,U⟩) nb nb) (w1:=(wr.drew.alloc l).alloc f) rfl rfl (by simp[execOp,Act.eval,N,A]) (λ_=>C _ (a _ (a _ x))) ?_;have z:FkN wr ((wr.drew.alloc l).alloc f) nb b1 b2:=⟨by have:=X (wr.drew.alloc l);rw[Um]at this;rw[<-A];exact this,by rw[<-B];exact(Y _).alloc _,V,V,a _ (a _ x)⟩;obtain⟨w2,W⟩:=nM ((wr.drew.alloc l).alloc f)
    all_goals
     simp only[Act.put,TZ,T5,T6];rw[W]at z⊢;clear A B W X Y N H kb k7 k6 k5 kc ka k9 k8 x U' V';obtain⟨z1,z2,q1,q2,z⟩:=z;refine cZ rfl rfl ⟨.agg (eB nb (b1,b2)).toArray,λw' _=>by simp only[eB];go_simp,?_⟩;simp only[Act.put,TZ,T5,T6];refine dV (v:=Z5 (J ⟨w2.heap.size,0,U⟩) 1 1) (w1:=w2.alloc (Z4 (eB nb (b1,b2)).toArray 113)) rfl rfl (by simp only[eB];go_simp) (λ_=>C _ (a _ z)) ?_;simp only[Act.put,TZ,T5,T6];have y:=a (Z4 (eB nb (b1,b2)).toArray 113) z;have R:=Ug w2 (Z4 (eB nb (b1,b2)).toArray 113);have r:=z1.alloc (Z4 (eB nb (b1,b2)).toArray 113);have s:=z2.alloc (Z4 (eB nb (b1,b2)).toArray 113);obtain⟨Z,kf⟩:=nM (w2.alloc (Z4 (eB nb (b1,b2)).toArray 113));rw[kf]at y R r s⊢;refine uy rfl rfl λK hK=>?_;refine wp_append_own Z (Z0 15) (Z0 23) 107 rfl (p+1) 113 id _ 4 64 underlying107 S kj ki kh rfl ec v k (oI nb L) rfl (az c.o.2.1 y) ⟨w2.heap.size,0,U⟩ 1 1 (eB nb (b1,b2)) rfl rfl (λj u T=>?_) (λu hu=>?_) (by simp[maxLen];omega) V (ia y.size) ?_;.rw[kl];simp only[World.cell?,R];simpa using T
     .simp[eB]at hu;rcases hu with rfl|rfl|rfl|rfl<;>rfl
     intro v' m J' t kk;have D:∀b,wr.heap.size<=b->b<Z.heap.size->m.heap[b]?=Z.heap[b]?:=λb hb kg=>t.block b kg (λe=>ia ((c.o.2.1.lt b e.symm).2));have M:m.heap[p]?=J (Z4 #[v,I O (-1)] 109 (0,0)):=(t.block p (ia y.size) (λe=>ia ((c.o.2.1.lt p e.symm).1))).trans ((y.block p ke).trans c.o.2.2);have c4:m.cell? ⟨p,0,U⟩=J v:=(by simp[World.cell?,M]);have f4:m.frozen? ⟨p,0,U⟩=ZU:=(by simp[World.frozen?,M]);have F:Gm m b1 nb:=Wc r (D _ q1 r.lt);have G:JV m b2 nb:=Wc s (D _ q2 s.lt);have k0:aa (λj=>j=p\/v.ownBlock=J j) wr m:=(aa.RK y _).trans ⟨t.os,t.tape,t.output,t.size,λj T hs=>t.block j T (λe=>hs (.inr e.symm))⟩;refine hK _ _ (λ_=>c4) ?_;clear hK kk t D R y r s z z1 z2 kf;obtain⟨Q,sl,O',rfl⟩:∃Q sl O',v'=.slice Q sl O':=by
      rcases J'.2 with⟨e,_⟩|⟨g,cap,cur,e,_⟩;.exact⟨_,_,_,e⟩
      .exact⟨_,_,_,e⟩
     simp only[Act.put,TZ,T5,T6];iterate 2 refine bE ?_
     refine lj (w1:=m.setCell ⟨p,0,U⟩ (.slice Q sl O')) rfl rfl oB xJ (bI ?_);have hN:=c.o.1.next (w':=m.setCell ⟨p,0,U⟩ (.slice Q sl O')) (q:=(b1,b2)) q1 q2 (J'.kept (row:=J p) ⟨rfl,rfl,rfl,oD,λi _ hi=>Uc _ _ _ _ (λe=>hi V2)⟩ (.inr λe=>ia ((J'.lt p e).1))) (Wc F (Uc _ _ _ _ (by show b1≠p;omega))) (Wc G (Uc _ _ _ _ (by show b2≠p;omega))) (by simp[World.setCell,Vb,M]) (k0.trans (aa.setCell _ _ _ (.inl rfl)));have HN:=ak hN;clear hN c J' F G k0 M c4 f4;rename_i hK;refine hK _ _ ?_;clear hK;simp only[Act.put];go_wp2;exact⟨⟨k+1,_,_,V,eT,HN.o⟩,iE⟩
  .have D:k=n:=V;subst D;have c:=ak d;clear d;go_wp2;go_ret;exact c.o.post km hn ko
def aaX(n nb S:Nat)(w:ZT)(e:Ending)(w':ZT):Prop:=e=Z3 (Z6 (J ⟨w.heap.size,0,U⟩))/\bW w w'/\∃F:aC,F.pw=ZV/\ay w' w.heap.size (rQ n nb S) F/\∀k,F.S k->w.heap.size<=k
def Bv(n nb S:Nat)(w:ZT)(a:0<n)(f:n<=1000)(d:nb<=1000000):ZQ ZL 19 #[I O n,I O nb] w λe w'=>aaX n nb S w e w':=by refine(lI n nb w a f d).mono ?_;rintro e w'⟨b,c,F,g,h,i⟩;exact⟨b,c,F,g,⟨_,h,Bu n nb S⟩,i⟩
def rR(X:ZT)(p:Nat)(A:an)(F:aC)(M:List (Nat×Nat)):Prop:=ay X p A F/\∀i b,A.tn i b=ZV->(i,b)∈M
def rR.keep{A:an}{F:aC}(h:rR X p A F M)(a:∀k,F.S k->Y.heap[k]?=X.heap[k]?):rR Y p A F M:=⟨h.1.keep a,h.2⟩
def an.SN(A:an)(d b:Nat):an:={A with bad:=λi m=>if i=d/\m=b then ZV else A.bad i m}
def an.Sm(A:an)(d:Nat):an:={A with lost:=λi=>if i=d then ZV else A.lost i}
def an.renew(A:an)(d:Nat):an:={A with lost:=λi=>if i=d then ZU else A.lost i,bad:=λi m=>if i=d then ZU else A.bad i m,bl:=λi m=>if i=d then ZV else A.bl i m}
def an.turn(A:an)(d b:Nat):an:={A with bad:=λi m=>if i=d/\m=b then ZV else A.bad i m,tn:=λi m=>if i=d/\m=b then ZV else A.tn i m}
theorem aj.setByte{R:eR}{F:aC}(h:aj X p R F){d b j z:Nat}(c:d<R.n)(f:j<64)(l:z<256):aj (X.setCell ⟨F.bb d,b*64+j,U⟩ (I .u8 (z:Nat))) p (R.RT d λm=>if m=b then(R.blk d b).set j z else R.blk d m) F:=by
 refine h.RT c (((h.blk d c).set (b*64+j) (I .u8 (z:Nat))).congr λm _=>?_) (λk g=>Uc _ _ _ _ g) λm=>?_
 . unfold Pa;show _=Value.int .u8 (((if m/64=b then(R.blk d b).set j z else R.blk d (m/64)).getD (m%64) 0:Nat):Int);by_cases e:m/64=b
   . rw[TT e,e];simp only[Ub,Xn,(h.len d b).1];by_cases a:m=b*64+j;.rw[TT a,TT V,TT f];rfl
     .rw[TS a,TS V]
   .rw[TS V,TS e]
 . split
   . refine⟨by rw[VY];exact(h.len d b).1,λx i=>?_⟩;rcases X7 i with q|q;.exact(h.len d b).2 x q
     .rw[q];exact l
   .exact h.len d m
theorem gA.turn{A:an}{R:eR}(a:gA R A)(hl:∀i j,(R.blk i j).length=64/\∀x∈R.blk i j,x<256){d b j z:Nat}(s:j<64)(v:z<256)(o:z≠(R.blk d b).getD j 0)(u:A.tn d b=ZU):gA (R.RT d λm=>if m=b then(R.blk d b).set j z else R.blk d m) (A.turn d b):=by
 refine⟨a.n,a.nb,a.lost,λi m h f=>?_,λi m h f c p=>?_⟩
 . have q:=a.rd i m h f;unfold eR.rd an.rd at q⊢;show(if R.bad i m=ZV then U else K8 ((if i=d thenλm=>if m=b then(R.blk d b).set j z else R.blk d m else R.blk i) m))=if(if i=d/\m=b then ZV else A.bad i m)=ZV then U else J (if A.bl i m=ZV then .blank else A.rc i m);by_cases e:i=d/\m=b
   . obtain⟨rfl,rfl⟩:=e;rw[TT (show i=i/\m=m from⟨rfl,rfl⟩),TT rfl,TT rfl];by_cases c:R.bad i m=ZV;.rw[TT c];rfl
     . rw[TS c]at q⊢;have r:¬A.bad i m=ZV:=λe=>c (a.tn i m h f e u);rw[TS r]at q;unfold K8 at q⊢;simp only[if_true];split at q;. rename_i t;rw[TS (Me (hl i m).1 (hl i m).2 s v o t)]
       .cases q
   . rw[TS e];by_cases k:i=d;.subst k;rw[TT rfl];simp only[TS (show¬m=b fromλq=>e ⟨rfl,q⟩)];exact q
     .rw[TS k];exact q
 . have l:(if i=d/\m=b then ZV else A.bad i m)=ZV:=c;have g:(if i=d/\m=b then ZV else A.tn i m)=ZU:=p;by_cases e:i=d/\m=b;.rw[TT e]at g;cases g
   .rw[TS e]at l g;exact a.tn i m h f l g
def DY(R:eR)(d b i m:Nat)(t:Bool):(R.RU d λm=>if m=b then t else R.bad d m).bad i m=if i=d/\m=b then t else R.bad i m:=by
 show(if i=d thenλm=>if m=b then t else R.bad d m else R.bad i) m=_;by_cases e:i=d;.subst e;rw[TT rfl];by_cases a:m=b<;>simp[a]
 .rw[TS e,TS (λq=>e q.1)]
theorem Na{A:an}{F:aC}(k:rR w p A F M)(d:Nat)(j:d<A.n):ZQ ZL 34 #[Z6 (J ⟨p,0,U⟩),I O d] w λe w'=>e=Z3 (ZZ #[])/\rR w' p (A.Sm d) F M/\aa F.S w w':=by
 obtain⟨⟨R,h,a⟩,g⟩:=k;rw[<-a.n]at j;obtain⟨c0,c1⟩:=h.RN;obtain⟨l,d1,m,q⟩:=h.R4 d j;have t:=h.R6 (d*4);have r:(0:Int)<=(d:Int):=V;have s:(d:Int)<(R.n:Int):=V;have H:=au h a g;clear h a g;go_enter func34,ntmps34;go_wp2;first|go_end0|skip
 obtain⟨h,a,g⟩:=H.o;refine⟨rfl,⟨⟨_,h.SJ d ZV,⟨a.n,a.nb,λi f=>?_,λi b f hl=>?_,λi b f hl=>?_⟩⟩,g⟩,aa.setCell _ _ _ h.sg⟩;.show(if i=d then ZV else R.lost i)=if i=d then ZV else A.lost i;rw[a.lost i f]
 all_goals
  have c:(if i=d then ZV else A.lost i)=ZU:=hl;by_cases e:i=d;.rw[TT e]at c;cases c
  .rw[TS e]at c;first|exact a.rd i b f c|exact a.tn i b f c
theorem JW{A:an}{F:aC}(s:rR w p A F M)(d b:Nat)(c:d<A.n)(g:b<A.nb):ZQ ZL 36 #[Z6 (J ⟨p,0,U⟩),I O d,I O b,I O (-1)] w λe w'=>e=Z3 (ZZ #[])/\rR w' p (A.SN d b) F M/\aa F.S w w':=by
 obtain⟨⟨R,h,a⟩,f⟩:=s;rw[<-a.n]at c;rw[<-a.nb]at g;obtain⟨c0,c1⟩:=h.RN;obtain⟨u,d1,x,y⟩:=h.R4 d c;have j:=h.bad d c;have cb:=ac4 j (i:=b) g;have J':=World.rowIs.frozen j b;have r:=jg h V;have z:¬(d:Int)<0:=V;have B:¬(R.n:Int)<=(d:Int):=V;have C:¬(b:Int)<0:=V;have D:(d:Int)<(R.n:Int):=V;have E:(b:Int)<(R.nb:Int):=V;have G:(0:Int)<=(d:Int):=V;have S:(0:Int)<=(b:Int):=V;have H:=aE h r a f;clear h r j a f;go_enter func36,ntmps36;go_wp2_with fail;refine H.o.2.1.mono ?_;rintro e w'⟨rfl,rfl⟩;go_wp2;refine Uv (v:=ZZ #[]) (by simp[results,results36,go_sem]) rfl ?_;obtain⟨h,_,a,f⟩:=H.o;refine⟨rfl,⟨⟨_,h.Ta c b ZV,⟨a.n,a.nb,a.lost,λi m k hl=>?_,λi m k hl g t=>?_⟩⟩,f⟩,aa.setCell _ _ _ (h.sd c)⟩
 . have q:=a.rd i m k hl;unfold eR.rd an.rd at q⊢;rw[DY];show(if(if i=d/\m=b then ZV else R.bad i m)=ZV then U else K8 (R.blk i m))=if(if i=d/\m=b then ZV else A.bad i m)=ZV then U else J (if A.bl i m=ZV then .blank else A.rc i m);by_cases e:i=d/\m=b;.simp only[TT e];rfl
   .simp only[TS e];exact q
 . rw[DY];have l:(if i=d/\m=b then ZV else A.bad i m)=ZV:=g;by_cases e:i=d/\m=b;.exact TT e
   .rw[TS e]at l⊢;exact a.tn i m k hl l t
theorem Nb{A:an}{F:aC}(N:rR w p A F M)(d b k:Nat)(f:d<A.n)(O':b<A.nb)(hk:k<512)(x:(d,b)∉M):ZQ ZL 36 #[Z6 (J ⟨p,0,U⟩),I O d,I O b,I O k] w λe w'=>e=Z3 (ZZ #[])/\rR w' p (A.turn d b) F (M++[(d,b)])/\aa F.S w w':=by
 obtain⟨⟨R,h,c⟩,g⟩:=N;rw[<-c.n]at f;rw[<-c.nb]at O';obtain⟨c0,c1⟩:=h.RN;obtain⟨V',d1,W,J'⟩:=h.R4 d f;have G:=jg h V;have X:¬(d:Int)<0:=V;have Y:¬(R.n:Int)<=(d:Int):=V;have Z:¬(b:Int)<0:=V;have e5:(d:Int)<(R.n:Int):=V;have e6:(b:Int)<(R.nb:Int):=V;have e7:(0:Int)<=(d:Int):=V;have e8:(0:Int)<=(b:Int):=V;have hh:(k:Int).tmod 512=(k:Nat):=by rw[acX V];omega
 obtain⟨j,Q⟩:=nM (k/8);obtain⟨t,U'⟩:=nM (k%8);have hf:(k:Int).tdiv 8=(j:Nat):=by rw[XK V];omega
 have hg:(k:Int).tmod 8=(t:Nat):=by rw[acX V];omega
 have E:j<64:=V;have P:t<8:=V;have cb:=(h.blk d f).cell (i:=b*64+j) V;have fb:=(h.blk d f).frozen (b*64+j);have S:Pa (R.blk d) (b*64+j)=I .u8 (((R.blk d b).getD j 0:Nat):Int):=by unfold Pa;rw[(V:(b*64+j)/64=b),(V:(b*64+j)%64=j)]
 rw[S]at cb;have B:(R.blk d b).getD j 0<256:=by have hl:=h.len d b;rw[Ub,Ud V];exact hl.2 _ (T7 _)
 obtain⟨y,r⟩:=nM ((R.blk d b).getD j 0);rw[r]at cb B;have v:2^t<256:=VC (n:=8) ec P;have a:y^^^2^t<256:=V7 (n:=8) B v;have l:y^^^2^t≠y:=λe=>by have K:y^^^(y^^^2^t)=y^^^y:=V2;rw[<-UU,UL,Vq]at K;have:=VL t;omega
 obtain⟨z,C⟩:=nM (y^^^2^t);have s:bits .xor .u8 (y:Int) ((2:Int)^t%256)=(z:Nat):=by
  have T:(2:Int)^t=((2^t:Nat):Int):=by rw[WW];rfl
  have L:∀u:Nat,u<256->(u:Int)%256=(u:Int):=λu hu=>V;rw[T,L _ v,u8_xor_nat y (2^t) B v,C]
 rw[C]at a l;have H:=hide9 h G c g r x a l s;clear h G c g r x S C Q U' a l v J' s;go_enter func36,ntmps36;go_wp2_with fail;refine H.o.2.1.mono ?_;rintro e w'⟨rfl,rfl⟩;go_wp2;go_region;all_goals(
  go_end0;obtain⟨h,_,c,g,r,x,a,l,s⟩:=H.o;rw[s];refine⟨rfl,⟨⟨_,(h.setByte f E a).keep λ_ _=>rfl,c.turn h.len E a (by rw[r];exact l) (W9.2 λe=>x (g d b e))⟩,λi m e=>?_⟩,(aa.setCell _ _ _ (h.sb f)).trans (aa.drew _)⟩;have D:(if i=d/\m=b then ZV else A.tn i m)=ZV:=e;by_cases q:i=d/\m=b;.rw[q.1,q.2];simp
  .rw[TS q]at D;exact UB _ (g i m D))
def aC.renew(F F1:aC)(n d p:Nat):aC:=⟨F.g,F.cap,λi=>if i=d then F1.bb 0 else F.bb i,λi=>if i=d then F1.bd 0 else F.bd i,λk=>k=p\/k=F.g\/∃i,i<n/\(k=(if i=d then F1.bb 0 else F.bb i)\/k=(if i=d then F1.bd 0 else F.bd i)),F.pw⟩
def eR.renew(R:eR)(d:Nat):eR:={R with lost:=λi=>if i=d then ZU else R.lost i,bad:=λi=>if i=d thenλ_=>ZU else R.bad i,blk:=λi=>if i=d thenλ_=>zb else R.blk i}
def By(F1:aC)(nb:Nat)(r:Int):List ZS:=[Z1 ZU,Z5 (J ⟨F1.bb 0,0,U⟩) nb nb,Z5 (J ⟨F1.bd 0,0,U⟩) nb nb,I O r]
def nz{T:ZO}{z:Nat×Nat}(h:X.heap[b]?=J (Z4 cs T z))(v:ZS):(X.setCell ⟨b,k,U⟩ v).heap[b]?=J (Z4 (cs.setIfInBounds k v) T z):=by simp[World.setCell,Vb,h]
theorem aj.renew{R:eR}{F F1:aC}{r:Int}(h:aj X p R F)(f:aj X q (rP 1 R.nb) F1)(o:∀k,F1.S k->¬F.S k)(K:d<R.n):aj (X.setCells F.g (d*4) (By F1 R.nb r)) p (R.renew d) (F.renew F1 R.n d p):=by
 obtain⟨B,y,J'⟩:=h.apart;have m:∀j,j≠F.g->(X.setCells F.g (d*4) (By F1 R.nb r)).heap[j]?=X.heap[j]?:=λj l=>aU _ _ _ _ _ l;obtain⟨cs,c1,C⟩:=h.drv;have z:F1.S (F1.bb 0):=f.sb (ec:0<1);have A:F1.S (F1.bd 0):=f.sd (ec:0<1);have s:∀i,i<R.n->F1.bb 0≠F.bb i/\F1.bd 0≠F.bd i:=λi a=>⟨λe=>o _ z (e▸h.sb a),λe=>o _ A (e▸h.sd a)⟩;refine⟨h.top.keep (m _ B),⟨_,nz (nz (nz (nz c1 _) _) _) _,λi a=>?_⟩,λi a=>?_,λi a=>?_,λi j a l=>?_,λk=>Yd,h.n,h.nb,λi j=>?_⟩
 . obtain⟨D,E,G,S,H⟩:=C i a;have t:=bP (bP (bP (bP D (Z1 ZU) (k:=d*4)) (Z5 (J ⟨F1.bb 0,0,U⟩) R.nb R.nb) (k:=d*4+1)) (Z5 (J ⟨F1.bd 0,0,U⟩) R.nb R.nb) (k:=d*4+1+1)) (I O r) (k:=d*4+1+1+1);have u:=bP (bP (bP (bP E (Z1 ZU) (k:=d*4)) (Z5 (J ⟨F1.bb 0,0,U⟩) R.nb R.nb) (k:=d*4+1)) (Z5 (J ⟨F1.bd 0,0,U⟩) R.nb R.nb) (k:=d*4+1+1)) (I O r) (k:=d*4+1+1+1);have v:=bP (bP (bP (bP G (Z1 ZU) (k:=d*4)) (Z5 (J ⟨F1.bb 0,0,U⟩) R.nb R.nb) (k:=d*4+1)) (Z5 (J ⟨F1.bd 0,0,U⟩) R.nb R.nb) (k:=d*4+1+1)) (I O r) (k:=d*4+1+1+1);have w:=bP (bP (bP (bP H (Z1 ZU) (k:=d*4)) (Z5 (J ⟨F1.bb 0,0,U⟩) R.nb R.nb) (k:=d*4+1)) (Z5 (J ⟨F1.bd 0,0,U⟩) R.nb R.nb) (k:=d*4+1+1)) (I O r) (k:=d*4+1+1+1);by_cases e:i=d;.subst e;rw[TS V,TS V,TS V,TT rfl]at t;rw[TS V,TS V,TT rfl]at u;rw[TS V,TT V]at v;rw[TT V]at w;exact⟨t.trans (by simp[eR.renew]),u.trans (by simp[eR.renew,aC.renew]),v.trans (by simp[eR.renew,aC.renew]),r,w⟩
   .rw[TS V,TS V,TS V,TS V]at t;rw[TS V,TS V,TS V,TS V]at u;rw[TS V,TS V,TS V,TS V]at v;rw[TS V,TS V,TS V,TS V]at w;exact⟨t.trans (by simp[eR.renew,e]),u.trans (by simp[eR.renew,aC.renew,e]),v.trans (by simp[eR.renew,aC.renew,e]),S,w⟩
 . show World.rowIs _ (if i=d then F1.bb 0 else F.bb i) _ _ (Pa (if i=d thenλ_=>zb else R.blk i));by_cases e:i=d;.rw[TT e,TT e];exact(f.blk 0 (ec:0<1)).of_block (m _ λq=>o _ z (q▸h.sg))
   .rw[TS e,TS e];exact(h.blk i a).of_block (m _ (y i a).2.1)
 . show World.rowIs _ (if i=d then F1.bd 0 else F.bd i) _ _ (λj=>Z1 ((if i=d thenλ_=>ZU else R.bad i) j));by_cases e:i=d;.rw[TT e,TT e];exact(f.bad 0 (ec:0<1)).of_block (m _ λq=>o _ A (q▸h.sg))
   .rw[TS e,TS e];exact(h.bad i a).of_block (m _ (y i a).2.2.2)
 . show((if i=d then F1.bb 0 else F.bb i)=(if j=d then F1.bb 0 else F.bb j)->i=j)/\((if i=d then F1.bd 0 else F.bd i)=(if j=d then F1.bd 0 else F.bd j)->i=j);by_cases c:i=d
   . by_cases b:j=d;.exact⟨λ_=>c.trans b.symm,λ_=>c.trans b.symm⟩
     .rw[TT c,TS b,TT c,TS b];exact⟨λq=>absurd q (s j l).1,λq=>absurd q (s j l).2⟩
   . by_cases b:j=d;.rw[TS c,TT b,TS c,TT b];exact⟨λq=>absurd q.symm (s i a).1,λq=>absurd q.symm (s i a).2⟩
     .rw[TS c,TS b,TS c,TS b];exact h.inj i j a l
 . show((if i=d thenλ_=>zb else R.blk i) j).length=64/\∀x∈(if i=d thenλ_=>zb else R.blk i) j,x<256;split;.exact f.len 0 0
   .exact h.len i j
def gA.renew{R:eR}{A:an}(h:gA R A)(d:Nat):gA (R.renew d) (A.renew d):=by
 refine⟨h.n,h.nb,λi c=>?_,λi b c hl=>?_,λi b c hl=>?_⟩;.show(if i=d then ZU else R.lost i)=if i=d then ZU else A.lost i;rw[h.lost i c]
 . have a:(if i=d then ZU else A.lost i)=ZU:=hl;show(if(if i=d thenλ_=>ZU else R.bad i) b=ZV then U else K8 ((if i=d thenλ_=>zb else R.blk i) b))=if(if i=d then ZU else A.bad i b)=ZV then U else J (if(if i=d then ZV else A.bl i b)=ZV then .blank else A.rc i b);by_cases e:i=d;.simp only[TT e];exact AM (r:=.blank) trivial
   .simp only[TS e]at a⊢;exact h.rd i b c a
 . have a:(if i=d then ZU else A.lost i)=ZU:=hl;show(if i=d then ZU else A.bad i b)=ZV->A.tn i b=ZU->(if i=d thenλ_=>ZU else R.bad i) b=ZV;by_cases e:i=d;.simp only[TT e];exactλq=>absurd q ec
   .simp only[TS e]at a⊢;exact h.tn i b c a
def yw(w:ZT)(F F':aC):Prop:=F'.pw=F.pw/\∀j,F'.S j->F.S j\/w.heap.size<=j
def yw.refl(w:ZT)(F:aC):yw w F F:=⟨rfl,λ_=>.inl⟩
def infoDrive:(ZL.info? 113).map (·.size)=J 4:=ee
theorem JX{A:an}{F:aC}(W:rR w p A F M)(d:Nat)(y:d<A.n):ZQ ZL 35 #[Z6 (J ⟨p,0,U⟩),I O d] w λe w'=>e=Z3 (ZZ #[])/\aa F.S w w'/\∃z,rR w' p (A.renew d) z M/\yw w F z:=by
 obtain⟨⟨R,h,s⟩,u⟩:=W;rw[<-s.n]at y;obtain⟨c0,c1⟩:=h.RN;have hn:=h.n;have e2:(0:Int)<=(d:Int):=V;have e3:(d:Int)<(R.n:Int):=V;have hf:=lI 1 R.nb w.drew ec ec h.nb;have Z:=jg (h.keep (Y:=w.drew) λ_ _=>rfl) V;have H:=a5 h s u hf Z;go_enter func35,ntmps35;go_wp2_with fail;refine bw 14 [(0,ZV),(1,ZV),(2,ZV),(3,ZV),(4,ZV),(5,ZV),(6,ZU),(7,ZU),(8,ZV),(9,ZV),(10,ZU),(11,ZV),(12,ZU),(13,ZV),(14,ZU)] (λw'=>w'.cell? ⟨p,0,U⟩=J (Z5 (J ⟨F.g,0,U⟩) R.n F.cap)) ee ee c0 ?_;iterate 6 refine bE ?_
 refine db H.o.2.2.2.2 rfl rfl oB ?_;rintro e w1⟨rfl,rfl⟩;refine⟨_,rfl,λ_=>c0,?_⟩;simp only[Act.put,TZ,T5,T6];refine db H.o.2.2.2.1 rfl rfl oB ?_;rintro e w1⟨rfl,m,b,-,j,x⟩;have hg:p<w.drew.heap.size:=H.o.1.RL H.o.1.sp;have f:w1.cell? ⟨p,0,U⟩=J (Z5 (J ⟨F.g,0,U⟩) R.n F.cap):=(m.cell (p:=⟨p,0,U⟩) hg).trans c0;refine⟨_,rfl,λ_=>f,?_⟩;simp only[Act.put,TZ,T5,T6];obtain⟨n0,_⟩:=j.RN;obtain⟨J',d1,L,r,N⟩:=j.R4 0 (ec:0<1);have hh:w1.rangeAt b.g 0 (By b R.nb r):=by intro k v a;unfold By at a;match k,a with|0,a=>simp at a;subst a;exact J'|1,a=>simp at a;subst a;exact d1|2,a=>simp at a;subst a;exact L|3,a=>simp at a;subst a;exact N|k+4,a=>simp at a
 have l:aj w1 p R F:=H.o.1.keep λk c=>m.block k (H.o.1.RL c);have hj:w1.there F.g (d*4) 4:=λk c=>by obtain⟨Q,T,U',r',V'⟩:=l.R4 d y;refine⟨?_,l.R6 _⟩;match k,c with|0,_=>exact Q▸rfl|1,_=>exact T▸rfl|2,_=>exact U'▸rfl|3,_=>exact V'▸rfl
 have B:(By b R.nb r).toArray.size=4:=rfl;have E:=adq (P:=ZL) w1 F.g (d*4) 113 (By b R.nb r).toArray (by rw[B];exact hj) infoDrive (by unfold By;simp[Value.oneCell']);have D:=acT (P:=ZL) w1 b.g 0 113 (By b R.nb r) _ hh underlying113 rfl infoDrive;have S:=aE j l x m;have hb:w1.cell? ⟨w.heap.size,0,U⟩=J (Z5 (J ⟨b.g,0,U⟩) 1 b.cap):=n0;obtain⟨O',C⟩:=nM ((By b R.nb r).toArray);rw[C]at E D B;iterate 2 refine bE ?_
 refine dV (w1:=w1) (v:=Z5 (J ⟨b.g,0,U⟩) 1 b.cap) rfl rfl oB (λ_=>f) ?_;simp only[Act.put,TZ,T5,T6];iterate 1 refine bE ?_
 refine dV (w1:=w1) (v:=.agg O') rfl rfl (by simp[execOp,Act.eval,D]) (λ_=>f) ?_;simp only[Act.put,TZ,T5,T6];iterate 1 refine bE ?_
 refine uy rfl rfl λK hK=>?_;simp[Oper.wp,execOp,Act.eval,E];refine hK _ _ xJ (bI ?_);go_end0;obtain⟨j,l,x,m⟩:=S.o;obtain⟨h,s,u,_,_⟩:=H.o;have X:∀k,F.S k->k<w.heap.size:=λk c=>h.RL c;have t:∀k,b.S k->w.heap.size<=k:=x;rw[<-C];refine⟨rfl,((aa.drew w).trans (aa.RK m _)).trans (aa.setCells _ _ _ _ h.sg),F.renew b R.n d p,⟨⟨_,l.renew (r:=r) j (λk c q=>by have:=X k q;have:=t k c;omega) y,s.renew d⟩,u⟩,rfl,λk c=>?_⟩;rcases c with q|q|⟨i,G,q|q⟩;.exact .inl (q▸h.sp)
 .exact .inl (q▸h.sg)
 . by_cases e:i=d;.rw[TT e]at q;exact .inr (q▸t _ (j.sb (ec:0<1)))
   .rw[TS e]at q;exact .inl (q▸h.sb G)
 . by_cases e:i=d;.rw[TT e]at q;exact .inr (q▸t _ (j.sd (ec:0<1)))
   .rw[TS e]at q;exact .inl (q▸h.sd G)
