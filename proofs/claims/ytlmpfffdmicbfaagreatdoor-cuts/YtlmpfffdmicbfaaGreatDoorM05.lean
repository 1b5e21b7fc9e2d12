import Derived.Test.YtlmpfffdmicbfaaGreatDoorM04
import Derived.OwnWalk
import Derived.Lib.BufferWrite
import Derived.RangeFuncRecord
import Derived.Laws.BytesString
import Derived.Laws.CopyRow
import Derived.Laws.IdiomStrings
set_option maxRecDepth 100000
set_option linter.all false
set_option maxHeartbeats 8000000
open Go.IntKind renaming i64 -> O, u64 -> Z8
open Go.Value renaming int -> I, pointer -> Z6, slice -> Z5, bool -> Z1, string -> ZZ, tuple -> ZY
open Go.Obj renaming cells -> Z4
open Go.Ending renaming returned -> Z3
open Go.Operand renaming tmp -> Z0
open Go renaming undef -> U, World -> ZS, Value -> ZR, Calls -> ZQ, Ending -> ZP, TypeId -> ZO, Boxed -> ZN
open Option renaming none -> J, some -> ZV
open Bool renaming true -> ZU, false -> ZT
open List renaming range -> YE, replicate -> YF, takeWhile_cons -> YG, length -> YH, drop_sublist -> YK, map_singleton -> YN, map_replicate -> YO
open ByteArray renaming empty -> YI
open List.Pairwise renaming sublist -> YJ
open List.Sublist renaming append -> YL, refl -> YM
open Nat renaming lt_succ_self -> YP, succ_lt_succ -> YQ
open Array renaming getElem?_setIfInBounds_self_of_lt -> YR
open Go.Proofs.Tryz renaming prog -> ZM
open Go.Proofs.Tryz
namespace Go.Proofs.YtlmpfffdmicbfaaGreatDoor
def Wr:=@Nat.zero_testBit
def Yj:=@List.length_pos_iff
def acY:=@Go.Addr.mk.injEq
def Yk:=@Go.ByteArray.toList_eq
def WR:=@Array.length_toList
def XN:=@Nat.eq_or_lt_of_le
def Yl:=@List.getElem_drop
def XO:=@List.mem_flatMap
def Ym:=@Nat.div_le_div_right
def adx:=@Go.World.grownBy_alloc
def ady:=@Go.Proofs.Tryz.underlying236
def Yn:=@Go.Proofs.Tryz.underlying275
def acZ:=@Go.Proofs.Tryz.underlying9
end Go.Proofs.YtlmpfffdmicbfaaGreatDoor
namespace Go.Proofs.YtlmpfffdmicbfaaGreatDoor
open Go.RowKit Go.Shelf Go.Deep Gf
variable {a:Act}{ops:Array Oper}{C:Ck}{Q:Exit->Act->ZS->Prop}{F:aC}{fn:Func}{lost regs:Int}{es:List (Nat×Nat×Nat)}{ns:List ByteArray}{dl l ds P P':a7}{rest:List Oper}{pre:List Sh}{D L G base b i m B p ps ho n size ar D' L' G' t nn t' f' n' nb c x k g N gone sp B0 bl g' cap' kept base' sb:Nat}{M R:Nat->a7}{ol nw:Nat->Nat}{S K T:Nat->Prop}{f:Nat->bF}{f0:Nat->ZR}{o:Oper}{ao:Option Addr}{row:Option Nat}{r:bF}{e:ZO}{u v pg ob y steps ne:ZR}{w w' X Y w2:ZS}
def dE(D L G:Nat)(dl:a7):List a7:=fP (aQ D L G) (eG D dl) 44
def mT(D L G:Nat)(dl:a7):(dE D L G dl).length=D+L+G:=by unfold dE fP;rw[Uf,cP]
def JY(hl:dl.length<=D*44)(d:1<=D):Fit (eG D dl)/\((eG D dl).getD 0 []).length=44:=by
 have a:((eG D dl).getD 0 []).length=44:=by
  have e:(eG D dl).getD 0 []=(eG D dl)[0]'(by rw[eM];omega):=by simp[eM,(V:0<D)]
  rw[e,pM];exact nu hl V
 refine⟨λi c=>?_,a⟩;have b:=c;rw[eM]at b;unfold CK;rw[a,pM c,nu hl b];exact⟨rfl,ec⟩
def Nc(w:ZS)(base:Nat)(M:List a7)(u:ZR):Prop:=∃T,eS w base u T/\dj T 44 M
def sP(c:D<=12)(d:G<=4)(dl:a7)(i:Nat)(a:i<(dE D L G dl).length):((dE D L G dl)[i]).length=44/\∀x∈(dE D L G dl)[i],x<256:=by
 have b:i<(aQ D L G).length:=by rw[cP];rw[mT]at a;exact a
 have e:(dE D L G dl)[i]=dg (aQ D L G)[i] (eG D dl) 44 (eG D dl).length:=by simp[dE,fP]
 rw[e];exact⟨gE _ _ _ _,rh _ _ (mO D L G c d _ (T7 b)) _ _⟩
def Nc.rows{M:List a7}(h:Nc w base M u)(v:M≠[])(r:∀i(d:i<M.length),M[i].length=44/\∀x∈M[i],x<256):∃g c,u=Z5 (ZV ⟨g,0,J⟩) M.length c/\O0 w base g M:=by
 obtain⟨T,l,k⟩:=h;have f:T.length=M.length:=ua (Uy YH k);rcases l.shape with⟨_,q⟩|⟨g,cap,m,n,D,E,o,p,_,_⟩;.exact absurd (U2 (by rw[<-f,q];rfl)) v
 .refine⟨g,cap,by rw[m,f],n,o,λi d=>?_⟩;have a:i<T.length:=V;have s:=k.at a d;obtain⟨A,e,F,G,H⟩:=l.row T[i] (T7 a);have b:=p i a;unfold fV at b;rw[s]at b e;obtain⟨B,C⟩:=r i d;refine⟨T[i].1,0,M[i].length,b,A,e.lt,λj u z=>?_,B,C⟩;have y:=e.SW;have t:(aL M[i]).toArray[j]?=ZV u:=(ua z);simp[World.cell?,y,t]
def pT{lost l:Nat}(b:dZ D L G lost)(c:∀i,l.testBit i=ZU->lost.testBit i=ZU):dZ D L G l:=zl _ lost l _ D (λi _ d=>by have a:=c i;rw[Wh,Wh,VM,VM]at a;have:=Vv (l/2^i);omega) b
def an.fine(A:an)(D L G:Nat):Prop:=dZ D L G A.sv/\∀i,i<A.n->A.lost i=ZU->A.sv.testBit i=ZU
def vN{A:an}(h:gnB (A.putAt ds b f) m i=ZU):gnB A m i=ZU:=by
 unfold gnB an.putAt at h;unfold gnB;by_cases e:m=b/\i∈ds;.simp only[TT e,Bool.or_false]at h;rw[h];rfl
 .simp only[TS e]at h;exact h
def sQ{A:an}(a:i∈ds)(h:gnB (A.putAt ds b f) b i=ZU):A.lost i=ZU:=by simpa[gnB,an.putAt,a]using h
structure eI(A B:an):Prop where
 n:B.n=A.n
 nb:B.nb=A.nb
 tn:B.tn=A.tn
 lost:B.lost=A.lost
 sv:B.sv=A.sv
 gn:∀b i,gnB B b i=ZU->gnB A b i=ZU
def eI.refl(A:an):eI A A:=⟨rfl,rfl,rfl,rfl,rfl,λ_ _=>id⟩
def eI.trans{A B C:an}(h:eI A B)(a:eI B C):eI A C:=⟨a.n.trans h.n,a.nb.trans h.nb,a.tn.trans h.tn,a.lost.trans h.lost,a.sv.trans h.sv,λi b c=>h.gn i b (a.gn i b c)⟩
def eI.put(A:an)(ds:a7)(b:Nat)(f:Nat->bF):eI A (A.putAt ds b f):=⟨rfl,rfl,rfl,rfl,rfl,λ_ _=>vN⟩
def eI.fine{A B:an}(h:eI A B):A.fine D L G->B.fine D L G:=λq=>⟨h.sv▸q.1,λi a e=>by rw[h.sv];exact q.2 i (h.n▸a) (by rw[<-h.lost];exact e)⟩
structure Alw(A B:an):Prop where
 n:B.n=A.n
 nb:B.nb=A.nb
 sv:B.sv=A.sv
 gn:∀b i,gnB B b i=ZU->gnB A b i=ZU\/A.sv.testBit i=ZU
def eI.Tt{A B:an}(h:eI A B):Alw A B:=⟨h.n,h.nb,h.sv,λb i q=>.inl (h.gn b i q)⟩
theorem lJ(q:Nat->Bool)(i:Nat):∀(l:a7),(jZ q l).testBit i=ZU↔i∈l/\q i=ZU:=by
 intro l;suffices∀(l:a7)(s:Nat),(l.foldl (λs d=>if q d=ZU then s|||2^d else s) s).testBit i=ZU↔s.testBit i=ZU\/(i∈l/\q i=ZU)by have h:=this l 0;rw[Wr]at h;unfold jZ;rw[h];simp
 intro l;induction l with|nil=>intro s;simp|cons d l ih=>
  intro s;rw[Xc,ih];by_cases b:q d=ZU
  . rw[TT b,V4,Xf,XB,decide_eq_true_iff,Uu];constructor
    . rintro((h|h)|h);.exact .inl h
      .subst h;exact .inr ⟨.inl rfl,b⟩
      .exact .inr ⟨.inr h.1,h.2⟩
    . rintro(h|⟨h|h,a⟩);.exact .inl (.inl h)
      .exact .inl (.inr h.symm)
      .exact .inr ⟨h,a⟩
  . rw[TS b,Uu];constructor
    . rintro(h|h);.exact .inl h
      .exact .inr ⟨.inr h.1,h.2⟩
    . rintro(h|⟨h|h,a⟩);.exact .inl h
      .subst h;exact absurd a b
      .exact .inr ⟨h,a⟩
def xL(D L G:Nat)(dl:a7)(i:Nat):a7:=(dE D L G dl).getD i []
def PQ(D L G:Nat)(dl:a7)(i:Nat):bF:=.shard (xL D L G dl i)
def rS(b:xX D L G)(dl:a7){i:Nat}(c:i<D+L+G):(xL D L G dl i).length=44/\∀x∈xL D L G dl i,x<256:=by
 have a:i<(dE D L G dl).length:=by rw[mT];exact c
 have e:xL D L G dl i=(dE D L G dl)[i]:=by unfold xL;simp[a]
 rw[e];exact sP b.d b.g _ i a
def an.Tm(A:an)(D L G b:Nat)(dl:a7):an:=A.putAt (YE A.n) b (PQ D L G dl)
def aaY(w:ZS)(p:Nat)(B:an)(F:aC)(e:ZP)(w':ZS):Prop:=e=Z3 .nilIface/\ay w' p B F/\aa F.S w w'
theorem lZ{v:Nat}{A:an}(f:qP w v p D L G ps ho A F)(k6:A.fine D L G)(b:Nat)(l:b<A.nb)(Z:ZR)(dl:a7)(U':Bs w Z dl)(k5:dl.length<=D*44):ZQ ZM 143 #[Z6 (ZV ⟨v,0,J⟩),I O b,Z] w λe w'=>aaY w p (A.Tm D L G b dl) F e w'\/bC w p F (Do A (·=b)) e w':=by obtain⟨hr,hj,E,hL,hm,O',h4,hg⟩:=f.par;have hn:=f.n;have HD:=ak U';have r:=mT D L G dl;have h1:=sP (L:=L) E O' dl;obtain⟨M,P⟩:=nM (dE D L G dl);rw[P]at r h1;have z:=al P r;clear P r;have hz:=aaL (f.vol.keep (w':=w.drew) rfl) E Z dl (HD.o.mono (TW _ w).drew) k5;obtain⟨h5,hh⟩:=JY k5 hj;have V':=λu X h=>FT D L G hr hj E hL hm O' h4 u (eG D dl) X h (eM D dl) h5;rw[hh]at V';obtain⟨_,c1,c2,c3,_⟩:=f.vol.cells;have HE:=al hz V';clear hz V' h5 hh;go_enter func143,ntmps143;go_wp2_with fail;go_region_with(first|(go_at_call 167;refine HE.o.1.mono ?_;rintro e w1⟨u,rfl,hR,l⟩;obtain⟨_,d1,d2,d3,_⟩:=(f.vol.keep (l.block _ f.vol.lt)).cells;have a:=al hR l;clear hR l)|(go_at_call 166;refine(HE.o.2 _ _ a.o.1).mono ?_;rintro e w2⟨x,T,rfl,hT,hH,l⟩;have j:=al (show Nc w2 w.heap.size (dE D L G dl) x from⟨T,hT.weaken a.o.2.size,hH⟩) (show bW w w2 from((TW _ w).drew).trans (a.o.2.trans (l.mono a.o.2.size)));clear hT hH l));all_goals(
  rename ZS=>w1;obtain⟨K,R⟩:=j.o;rw[z.o.1]at K;have r:=z.o.2;obtain⟨g,c,rfl,hq⟩:=K.rows (λe=>by rw[e]at r;simp at r;omega) h1;have hs:=f.below R lR;have a:=au hs hq R;clear K hq hs R r;go_wp2_with fail;refine(lC a.o.1.vol f.par).mono ?_;rintro e w2⟨rfl,s⟩;obtain⟨S,H⟩:=nM (2^(D+L+G)-1);rw[H];have C:ae S=YE A.n:=by rw[<-H,hn];exact pj hg
  have k9:S<65536:=by have:2^(D+L+G)<=2^16:=UY ec hg;omega
  have Q:=a.o.1.below s lR;have hp:O0 w2 w.heap.size g M:=a.o.2.1.keep s.size (λk _ Y=>s.block k Y);have W:=lV Q b S l k9 (λi t=>by rw[C]at t;simpa using t) (m:=M.length) (c:=c) hp (λi t=>by have:=z.o.2;rw[C]at t;simp at t;omega) lR (λk Y=>f.arr.RL Y);rw[C]at W;have hll:=A4 A.lost (YE A.n) (λd U'=>by simp at U';omega);have k7:dZ D L G (jZ A.lost (YE A.n)):=pT k6.1 λi e=>k6.2 i (Ul.1 ((lJ _ i _).1 e).1) ((lJ _ i _).1 e).2;generalize jZ A.lost (YE A.n)=I' at*;have j:=a5 W s H Q k7;clear Q hp W s C H k7;go_wp2_with fail;refine j.o.1.mono ?_;rintro e w3(⟨rfl,J',N⟩|hcut);rotate_left;.obtain⟨ch,rfl⟩:=hcut.pan;exact⟨rfl,.inr ((hcut.start (aa.RK (a.o.2.2.trans (j.o.2.1.mono a.o.2.2.size)) _)).mono λB q=>q.off)⟩
  have hO:aa F.S w w3:=(aa.RK (a.o.2.2.trans (j.o.2.1.mono a.o.2.2.size)) _).trans N;have hv:=j.o.2.2.2.1.vol.keep (N.block _ j.o.2.2.2.1.vol.lt f.v);rw[<-z.o.1]at J';obtain⟨_,g1,g2,g3,_⟩:=hv.cells;have y:=al (show ay w3 p (A.Tm D L G b dl) F from J') hO;clear J' N hO hv;by_cases h0:I'=0;.subst h0;clear g1 g2 g3;go_wp2;go_ret;exact .inl ⟨rfl,y.o.1,y.o.2⟩
  .have k8:¬(I':Int)=0:=V;have ka:((I':Int)!=0)=ZU:=(ua k8);have k0:=lX D L G I' hr E hL hm O' h4 V w3;clear h0;go_wp2_with fail;refine k0.mono ?_;rintro e w4⟨bb,rfl,hy,hx⟩;obtain rfl:bb=ZU:=hy.2 j.o.2.2.2.2;have H4:=ak hx;clear hx k0 g1 g2 g3 hy;go_wp2;go_ret;exact .inl ⟨rfl,y.o.1.below H4.o lR,y.o.2.trans (aa.RK H4.o _)⟩)
def cd(D:Nat)(P l:a7)(k:Nat):a7:=be (P.getD (k+1) 0) 4++(l.drop (k*(D*44-4))).take (D*44-4)
def an.wrTo(A:an)(D L G:Nat)(S:a7)(c:Nat->a7):Nat->an|0=>A|k+1=>(A.wrTo D L G S c k).Tm D L G (S.getD k 0) (c k)
def iz(A:an)(D L G:Nat)(S:a7)(c:Nat->a7):∀k,(A.wrTo D L G S c k).n=A.n/\(A.wrTo D L G S c k).nb=A.nb/\eI A (A.wrTo D L G S c k)|0=>⟨rfl,rfl,eI.refl A⟩|k+1=>have h:=iz A D L G S c k;⟨h.1,h.2.1,h.2.2.trans (eI.put _ _ _ _)⟩
def Nd(A:an)(D L G b:Nat)(l:a7):Do A (·=b) (A.Tm D L G b l):=⟨rfl,rfl,rfl,rfl,λm a i=>by simp[an.Tm,an.putAt,show¬m=b from a]⟩
def pU(A:an)(D L G:Nat)(S:a7)(c:Nat->a7):∀k,k<=S.length->Do A (·∈S) (A.wrTo D L G S c k)|0,_=>⟨rfl,rfl,rfl,rfl,λ_ _ _=>⟨rfl,rfl,rfl,rfl⟩⟩|k+1,h=>(pU A D L G S c k V).trans ((Nd _ D L G _ _).mono λm e=>by rw[e];simp[(V:k<S.length)])
def Gn(w:ZS)(p D L G:Nat)(S:a7)(c:Nat->a7)(A:an)(F:aC)(e:ZP)(w':ZS):Prop:=(e=Z3 .nilIface/\ay w' p (A.wrTo D L G S c S.length) F/\aa F.S w w')\/bC w p F (Do A (·∈S)) e w'
def rT(a:1<=D)(P l:a7)(k:Nat):(cd D P l k).length<=D*44:=by unfold cd;rw[Ua,aG,Uq];omega
def vP(hl:∀x∈l,x<256)(P:a7)(k:Nat):∀x∈cd D P l k,x<256:=by
 intro x a;unfold cd at a;rw[Ui]at a;rcases a with a|a;.exact sE _ _ x a
 .exact hl x (UW (US a))
def DZ{xs:List ZR}(h:w.ownsRow base e size v n xs)(f:aa S w w')(i:∀k,S k->k<base):w'.ownsRow base e size v n xs:=by
 refine⟨h.1,?_⟩;rcases h.2 with d|⟨g,cap,cur,b,c,a,r⟩;.exact .inl d
 .exact .inr ⟨g,cap,cur,b,c,(f.block g (TX.1 a).1 (λq=>ia (i g q))).trans a,r⟩
def eW.Sb(h:aa S w w'):eW (λk=>¬S k) w w':=⟨h.size,λk a b=>h.block k a b⟩
def tT(h:bt K w v l)(hl:l≠[]):∃b off c,v=Z5 (ZV ⟨b,off,J⟩) l.length c/\∀i(e:i<l.length),w.cell? ⟨b,off+i,J⟩=ZV (I O ((l[i]:Nat):Int)):=by obtain⟨ao,c,rfl,_,a⟩:=h;obtain⟨b,off,rfl,_,_,d⟩:=a hl;exact⟨b,off,c,rfl,d⟩
def Tryz.SB:(ZM.info? 5).map (λi=>(i.zero,i.size,i.bytes))=ZV (ZV (I .u8 0),1,1):=ee
theorem vQ{v f:Nat}{off:Bool}{A:an}(C:bh w ar v D' L' G' t f nn pg ob off)(s:qP w v p D L G ps ho A F)(qa:A.fine D L G)(q0:¬F.S ar)(g cap base:Nat)(l:a7)(N:w.ownsRow base 5 1 (Z5 (ZV ⟨g,0,J⟩) l.length cap) l.length (aL l))(qe:∀x∈l,x<256)(hll:l.length<=1000000)(hn:∀k,F.S k->k<base)(vp:ZR)(P:a7)(I':bt (λk=>¬F.S k) w vp P)(kh:∀x∈P,x<A.nb)(kz:∀k,k<P.length->k*(D*44-4)<=l.length):ZQ ZM 140 #[Z6 (ZV ⟨ar,0,J⟩),Z5 (ZV ⟨g,0,J⟩) l.length cap,vp] w (Gn w p D L G P (cd D P l) A F):=by
 have hz:=s.par.d1;have hD:=s.par.d;obtain⟨i0,qb,qn,qo,qp⟩:=Uw Tryz.SB;obtain⟨pa,pc,rfl,kg,_⟩:=id I';have k8:=lz C s.vol hz V;obtain⟨sz,k9⟩:=nM (D*44-4);have qm:40<=sz/\sz<=524:=V;rw[k9]at k8;have qv:=s.arr.Sy.2;have H0:=aE C s N I';clear C s N I';go_enter func140,ntmps140;go_wp2_with fail;refine k8.mono ?_;rintro e w1⟨rfl,rfl⟩;clear k8;go_wp2;go_loopw[17](λi wr=>∃k:Nat,i=I O (k:Nat)/\k<=P.length/\ay wr p (A.wrTo D L G P (cd D P l) k) F/\aa (F.S) w1 wr)(λi _=>P.length-(intOf i).toNat);case atStart=>exact⟨0,rfl,T8 _,H0.o.2.1.arr,aa.refl _ _⟩
 case round=>
  obtain⟨k,rfl,hk,Q,z⟩:=hrel;by_cases E:k<P.length
  . obtain⟨C,s,N,I'⟩:=H0.o;have ki:=I'.keep (eW.Sb z);obtain⟨b,bo,c',e1,k0⟩:=tT ki (λe=>by rw[e]at E;simp at E);simp only[Vy]at e1;obtain⟨rfl,_,rfl⟩:=e1;have c1:=k0 k E;obtain⟨y,Z⟩:=nM (P[k]);rw[Z]at c1;have kb:y<A.nb:=(by rw[<-Z];exact kh _ (T7 E));obtain⟨nx,K⟩:=nM (P.getD (k+1) 0);have hp:(k+1<P.length/\wr.cell? ⟨b,bo+(k+1),J⟩=ZV (I O (nx:Nat)))\/(¬k+1<P.length/\nx=0):=by
     by_cases h:k+1<P.length;.have:=k0 (k+1) h;have e:P.getD (k+1) 0=P[k+1]:=(by simp[h]);rw[<-e,K]at this;exact .inl ⟨h,this⟩
     .exact .inr ⟨h,by rw[<-K];simp[(V:P.length<=k+1)]⟩
    have qj:nx<1000001:=by
     rcases Ys (k+1) P.length with h|h;.have e:P.getD (k+1) 0=P[k+1]:=(by simp[h]);rw[<-K,e];have:=kh _ (T7 h);omega
     .rw[<-K];simp[h]
    have k7:=iz A D L G P (cd D P l) k;have kj:=s.turn z Q k7.1;have h7:=DZ N z hn;have hx:=C.keep (z.block _ C.lt q0);obtain⟨ca,_⟩:=hx.cells;have n:=hide8 Q z kj h7 k7 hx K Z;clear Q z kj h7 k7 hx K Z k0 ki C s N I';have k6:=kz k E;rw[k9]at k6;have q9:l.length<=cap:=by
     rcases n.o.2.2.2.1.2 with⟨e,_⟩|⟨g',cap',cur,e,_,_,hc,_⟩;.cases e
     .simp only[Vy]at e;omega
    have U':(k+1)*sz=k*sz+sz:=W4 k sz;have qf:(k:Int)*(sz:Int)=((k*sz:Nat):Int):=(by rw[XF]);have qg:((k:Int)+1)*(sz:Int)=(((k+1)*sz:Nat):Int):=(by rw[XF];rfl);obtain⟨a,Y⟩:=nM (k*sz);obtain⟨r,ha⟩:=nM ((k+1)*sz);rw[Y]at qf U' k6;rw[ha]at qg U';obtain⟨bb,kk⟩:=nM (min r l.length);have qq:a<=bb:=V;have qs:bb<=cap:=V;have V':bb-a<=524:=V;have h9:((l.drop a).take sz).length=bb-a:=(by rw[Uq,Un];omega);have qh:∀M ty w,(Builtin.min_ M ty #[I O (r:Nat),I O (l.length:Nat)]).run ZM w=.ok (I O (bb:Nat)) w:=λM ty w=>by
     rw[jz];by_cases h:((l.length:Nat):Int)<((r:Nat):Int);.rw[TT h,(V:bb=l.length)]
     .rw[TS h,(V:bb=r)]
    have hq:∀W:ZS,W.ownsRow base 5 1 (Z5 (ZV ⟨g,0,J⟩) l.length cap) l.length (aL l)->Src ZM 1 36 (.slice (if cap=a then ZV ⟨g,0,J⟩else ZV ⟨g,a,J⟩) (bb-a) (cap-a)) (bb-a) (aL ((l.drop a).take sz)) W:=λW O'=>by
     have qk:W.rangeAt g 0 (aL l):=λj u c=>by have:=O'.cells (g:=g) rfl j u c;rw[kl]at this;rw[Uj];exact this
     by_cases X:cap=a;.have h0:(l.drop a).take sz=[]:=U2 V;rw[TT X,h0,(V:bb-a=0)];exact Vm W Ur ⟨g,0,J⟩ 0 (cap-a) (aL []) rfl (λj u c=>by simp[aL]at c) (λu c=>by simp[aL]at c)
     .rw[TS X];have kr:=oE sz (gH a qk);rw[Uj]at kr;exact Vm W Ur ⟨g,a,J⟩ (bb-a) (cap-a) _ (by rw[aY,h9,Wd]) (λj u c=>by rw[Vp];exact kr j u c) (λu c=>by unfold aL at c;rw[T9]at c;obtain⟨x,_,rfl⟩:=c;rfl)
    have h8:∀(W:ZS)(u:ZR),W.ownsRow wr.heap.size 5 1 u (0+4+(bb-a)) ([]++aL (be nx 4)++aL ((l.drop a).take sz))->Bs W u (cd D P l k):=λW u c=>by
     have e:[]++aL (be nx 4)++aL ((l.drop a).take sz)=aL (cd D P l k):=by unfold cd;rw[k9,Y,n.o.2.2.2.2.2.2.1,bT,Ut]
     rw[e]at c;exact Bs.Se c (vP qe P k) (TU (rT hz P l k) V)
    have h2:∀(W:ZS)(u:ZR),bW wr W->Bs W u (cd D P l k)->ZQ ZM 143 #[Z6 (ZV ⟨v,0,J⟩),I O (y:Nat),u] W λe w'=>(e=Z3 .nilIface/\ay w' p (A.wrTo D L G P (cd D P l) (k+1)) F/\aa F.S w1 w')\/bC w1 p F (Do A (·∈P)) e w':=λW u O' c=>by
     obtain⟨q1,q2,q3,q4,q5,q6,q7,q8⟩:=n.o;refine(lZ (q3.below O' lR) (q5.2.2.fine qa) y (by rw[q5.2.1];exact kb) u (cd D P l k) c (rT hz P l k)).mono ?_;rintro e w'(⟨rfl,kx,ky⟩|hcut);rotate_left;.exact .inr ((hcut.start (q2.trans (aa.RK O' _))).mono λB q=>(pU A D L G P (cd D P l) k hk).trans (q.mono λm e=>by rw[e,<-q8];exact T7 E))
     have ey:P.getD k 0=y:=(by rw[<-q8];simp[E]);refine .inl ⟨rfl,?_,q2.trans ((aa.RK O' _).trans ky)⟩;show ay w' p ((A.wrTo D L G P (cd D P l) k).Tm D L G (P.getD k 0) (cd D P l k)) F;rw[ey];exact kx
    have kc:=al h8 h2;clear h8 h2;have HK:=a6 Y ha kk h9 k6 U';have qx:IntKind.u64.wrap (nx:Int)=(nx:Int):=K1;have qd:a<=1000000/\r<=1000524/\bb<=1000000:=V;clear Y ha kk h9 U';go_upto_if 26 with fail;go_cut[10]from 27 to 31(λu wc=>u=I O (nx:Nat)/\wc=wr);case first=>
     rcases hp with⟨h,c2⟩|⟨h,qi⟩;. have kv:(k:Int)+1<((P.length:Nat):Int):=V;go_wp2;go_meet;case rel=>exact⟨rfl,rfl⟩
     . have kv:¬(k:Int)+1<((P.length:Nat):Int):=V;subst qi;go_wp2;go_meet;case rel=>exact⟨rfl,rfl⟩
    case rest=>obtain⟨rfl,ka⟩:=hcut;have ka:=ka.symm;subst ka;clear hp c1;go_wp2_with fail;refine(gD wr.heap.size (Z5 J 0 0) 0 [] nx 4 wr (UQ _ _ _ _) lR ec ec).mono ?_;rintro e w2⟨v2,rfl,ko,J',hm⟩;have T:bW wr w2:=⟨J'.os,J'.tape,J'.output,J'.size,λk hk=>J'.block k hk (λe=>by simp[Value.ownBlock]at e)⟩;have h4:=az n.o.2.2.2.1 T;have hh:=n.o.2.2.2.2.2.1.keep (T.block _ n.o.2.2.2.2.2.1.lt);obtain⟨cb,_⟩:=hh.cells;have H:=a5 ko T (hq w2 h4) h4 hm;clear ko J' T h4 hm hh;go_wp2_with(at_builtin;refine af _ rfl (Z0 35) (Z0 47) 36 36 rfl wr.heap.size 5 i0 (I .u8 0) 1 1 Ur qb qn qo qp rfl v2 (0+4) ([]++aL (be nx 4)) um ZE _ um (bb-a) (aL ((l.drop a).take sz)) (by exact H.o.2.2.1) eD V (by exact H.o.2.1.size) ?_;intro v3 w3 kp km k5;have V':bW wr w3:=H.o.2.1.grown km H.o.2.1.size (λk e=>(H.o.1.lt k e).1);have hi:=n.o.2.2.2.2.2.1.keep (V'.block _ n.o.2.2.2.2.2.1.lt);obtain⟨cc,_⟩:=hi.cells;have H3:=al kp V';clear kp V' km k5 hi);all_goals
     refine(kc.out.2 w3 v3 H3.o.2 (kc.out.1 w3 v3 H3.o.1)).mono ?_;rintro e w4(⟨rfl,ke,kf⟩|hcut);rotate_left;.obtain⟨ch,rfl⟩:=hcut.pan;exact⟨rfl,.inr hcut⟩
     .have R:=al ke kf;clear ke kf;go_wp2;first
        |exact⟨⟨k+1,eT,V,R.o.1,R.o.2⟩,by simp only[intOf];omega⟩
        | (have X:cap=a:=by assumption
           subst X;go_roundw;case rel=>exact⟨k+1,eT,V,R.o.1,R.o.2⟩
           case measure=>show P.length-((k:Int)+1).toNat<P.length-((k:Nat):Int).toNat;omega)
  .have qc:k=P.length:=V;subst qc;have n:=al Q z;clear Q z;go_wp2;go_ret;exact .inl ⟨rfl,n.o.1,n.o.2⟩
def nx(t:Nat):Nat:=(t+1)%18446744073709551616
def ab1(t:Nat):nx t<18446744073709551616:=VT _ ec
def rU(w:ZS):(zeroValue 132).run ZM w=.ok (.agg (aq 0 0 0 0 0 0)) w:=by
 obtain⟨a,b,c⟩:∃a,ZM.info? 132=ZV a/\a.zero=ZV (.agg (aq 0 0 0 0 0 0)):=by have:(ZM.info? 132).map (λi=>i.zero)=ZV (ZV (.agg (aq 0 0 0 0 0 0))):=ee;rw[Wu]at this;exact this
 simp[zeroValue,typeInfo,UH,b,c]
def lK(D L G t f n:Nat):(ZM.info? 132).map (λi=>i.size)=ZV (aq D L G t f n).size:=ee
def rV(D L G t f n:Nat):(aq D L G t f n).all (λv=>v.oneCell')=ZU:=by simp[aq,Value.oneCell']
def vR{f:Nat}{cs:Array ZR}(h:w.heap[b]?=ZV (Z4 cs 132 (0,0)))(a:cs.size=6):(Instr.storeAt 132 (Z6 (ZV ⟨b,0,J⟩)) (.agg (aq D L G t f n))).run ZM w=.ok () (w.setRow b (aq D L G t f n)):=by simp only[Instr.storeAt,Instr.sureAddr,UH,VN,UV,XY w b 132 132 cs (aq D L G t f n) h (lK D L G t f n) T2 (rV D L G t f n)]
def Gp{q f:Nat}(h:w.heap[q]?=ZV (Z4 (aq D L G t f n) 132 (0,0))):(Instr.loadAt 132 (Z6 (ZV ⟨q,0,J⟩))).run ZM w=.ok (.agg (aq D L G t f n)) w:=by simp only[Instr.loadAt,Instr.sureAddr,UH,VN,UV,Xk w q 132 132 (aq D L G t f n) (0,0) _ h XI rfl ee]
def lL(e:o.guard=J)(x:Operand)(ho:o.op=.load 132 x){b D L G t f n:Nat}{ra:Array ZR}(c:ra=aq D L G t f n)(g:a.eval x=Z6 (ZV ⟨b,0,J⟩))(d:w.heap[b]?=ZV (Z4 (aq D L G t f n) 132 (0,0)))(h:wpList ZM ops Q rest (a.put o.dst (.agg ra)) w):wpList ZM ops Q (o::rest) a w:=by refine VZ e λK hK=>?_;subst c;unfold Oper.wp;simp[execOp,ho,g,Gp d,Result.andThen];exact hK _ _ h
def D3{v f:Nat}{off:Bool}(h:bh w ar v D' L' G' t' f' n' pg ob off):bh (w.setCells ar 1 (aq D L G t f n).toList) ar v D L G t f n pg ob off:=by have a:w.heap[ar]?=ZV (Z4 (kF v D' L' G' t' f' n' pg ob off) 136 (0,0)):=h;have:=ai (j:=6) (ai (j:=5) (ai (j:=4) (ai (j:=3) (ai (j:=2) (ai (j:=1) a (I O (D:Int))) (I O (L:Int))) (I O (G:Int))) (I Z8 (t:Int))) (I O (f:Int))) (I O (n:Int));exact this
def bh.there{v:Nat}{off:Bool}(h:bh w ar v D' L' G' t' f' n' pg ob off):w.there ar 1 6:=by have a:w.heap[ar]?=ZV (Z4 (kF v D' L' G' t' f' n' pg ob off) 136 (0,0)):=h;intro j b;match j,b with|0,_|1,_|2,_|3,_|4,_|5,_=>simp[World.cell?,World.frozen?,a,kF]|n+6,hn=>exact absurd hn V
def bh.late{v:Nat}{off:Bool}(h:bh w ar v D' L' G' t' f' n' pg ob off)(b a:ZR):bh ((w.setCell ⟨ar,7,J⟩ b).setCell ⟨ar,8,J⟩ a) ar v D' L' G' t' f' n' b a off:=by have c:w.heap[ar]?=ZV (Z4 (kF v D' L' G' t' f' n' pg ob off) 136 (0,0)):=h;exact ai (j:=8) (ai (j:=7) c b) a
def bh.tail{v:Nat}{off:Bool}(h:bh w ar v D' L' G' t' f' n' pg ob off):w.cell? ⟨ar,7,J⟩=ZV pg/\w.frozen? ⟨ar,7,J⟩=ZT/\w.cell? ⟨ar,8,J⟩=ZV ob/\w.frozen? ⟨ar,8,J⟩=ZT:=by have a:w.heap[ar]?=ZV (Z4 (kF v D' L' G' t' f' n' pg ob off) 136 (0,0)):=h;simp[World.cell?,World.frozen?,a,kF]
def Gq(w:ZS)(vo:ZR)(l:a7):Prop:=∀W,bW w W->ZQ ZM 139 #[vo] W λe w'=>∃g cap,e=Z3 (Z5 (ZV ⟨g,0,J⟩) l.length cap)/\w'.ownsRow W.heap.size 5 1 (Z5 (ZV ⟨g,0,J⟩) l.length cap) l.length (aL l)/\bW W w'
def an.cmt(A:an)(D L G t:Nat)(P l:a7):an:=(A.wrTo D L G P (cd D P l) P.length).putAt (YE A.n) 0 (λ_=>.root D L G t (P.getD 0 0) l.length)
def Q8(A:an)(D L G t:Nat)(P l:a7)(B:an):Prop:=Do A (·∈P) B\/iG (A.wrTo D L G P (cd D P l) P.length) (YE A.n) 0 (λ_=>.root D L G t (P.getD 0 0) l.length) B
def Bz(w:ZS)(ar v p D L G t:Nat)(A:an)(F:aC)(P l:a7)(vp vo:ZR)(off:Bool)(e:ZP)(w':ZS):Prop:=(aa (λk=>k=ar\/F.S k) w w'/\e=Z3 .nilIface/\ay w' p (A.cmt D L G (nx t) P l) F/\bh w' ar v D L G (nx t) (P.getD 0 0) l.length vp vo off)\/bC w p F (Q8 A D L G (nx t) P l) e w'
theorem oJ{v f:Nat}{off:Bool}{A:an}(ha:bh w ar v D' L' G' t f nn pg ob off)(K:qP w v p D L G ps ho A F)(qh:A.fine D L G)(V':¬F.S ar)(oo:Option Addr)(on oc:Nat)(l:a7)(qi:∀x∈l,x<256)(hll:l.length<=1000000)(qk:Gq w (.slice oo on oc) l)(pb U' pc:Nat)(P:a7)(hP:bt (λk=>¬F.S k) w (Z5 (ZV ⟨pb,U',J⟩) P.length pc) P)(q0:P≠[])(q2:∀x∈P,x<A.nb)(qc:∀k,k<P.length->k*(D*44-4)<=l.length):ZQ ZM 98 #[Z6 (ZV ⟨ar,0,J⟩),.slice oo on oc,Z5 (ZV ⟨pb,U',J⟩) P.length pc] w (Bz w ar v p D L G t A F P l (Z5 (ZV ⟨pb,U',J⟩) P.length pc) (.slice oo on oc) off):=by
 obtain⟨hr,qo,hD,hL,qp,hG,qf,ks⟩:=K.par;have hn:=K.n;have hf:0<P.length:=Yj.2 q0;obtain⟨f0,kf⟩:=nM (P.getD 0 0);have hp:P[0]=f0:=by rw[<-kf];simp[hf]
 have qq:=K.arr.Sy.2;have qg:f0<A.nb:=by rw[<-hp];exact q2 _ (T7 _)
 have qj:(bF.root D L G (nx t) f0 l.length).ok:=by have:=ab1 t;exact⟨V,V,V,V,V,V⟩
 unfold Bz Q8 an.cmt;rw[kf];have HA:=al kf hp;have HP:=ak hP;clear kf hp hP;go_enter func98,ntmps98;go_wp2_with fail;refine(qk w (TW _ w)).mono ?_;rintro e w1⟨g,cap,rfl,ka,E⟩;have M:=ha.keep (E.block _ ha.lt);have R:=K.below E lR;have hg:=HP.o.keep (eW.RM E);have qa:=vQ M R qh V' g cap w.heap.size l ka qi hll (λk O'=>K.arr.RL O') _ P hg q2 qc;have H1:=a5 E qa hg M R;clear E qa hg ka M R;go_wp2_with fail;refine H1.o.2.1.mono ?_;rintro e w2(⟨rfl,kv,Q⟩|hcut);rotate_left;.obtain⟨ch,rfl⟩:=hcut.pan;exact⟨rfl,.inr ((hcut.start (aa.RK H1.o.1 _)).mono λB q=>.inl q)⟩
 obtain⟨E,_,k7,M,R⟩:=H1.o;have C:=M.keep (Q.block _ M.lt V');have I':aa F.S w w2:=(aa.RK E _).trans Q;have q6:=iz A D L G P (cd D P l) P.length;have u:=R.turn Q kv q6.1;have q1:=k7.keep (eW.Sb Q);obtain⟨b',qv,c',e1,q4⟩:=tT q1 q0;simp only[Vy,UF,acY]at e1;obtain⟨⟨rfl,rfl,_⟩,_,rfl⟩:=e1;have ko:=q4 0 hf;rw[VO,HA.o.2]at ko;have I':aa (F.S) w w2:=(aa.RK E _).trans Q;have H2:=aE C u I' ko;clear E k7 M R kv Q C u q1 q4 ko I';go_wp2_with fail;go_cut[9]from 19 to 35(λv9 a=>∃c,v9=Z6 (ZV ⟨c,0,J⟩)/\w2.heap.size<=c/\a.heap[c]?=ZV (Z4 (aq D L G (nx t) f0 l.length) 132 (0,0))/\bW w2 a);case first=>
  obtain⟨C,u,I',Z⟩:=H2.o;have W:∀a,bW w2 a->a.cell? ⟨ar,0,J⟩=ZV (Z6 (ZV ⟨v,0,J⟩))/\a.cell? ⟨ar,4,J⟩=ZV (I Z8 t)/\a.cell? ⟨pb,U',J⟩=ZV (I O f0):=λa d=>by have hq:a.heap[ar]?=ZV (Z4 (kF v D' L' G' t f nn pg ob off) 136 (0,0)):=(d.block _ C.lt).trans C;exact⟨by simp[World.cell?,hq,kF],by simp[World.cell?,hq,kF],(d.cell (p:=⟨pb,U',J⟩) (Ue Z)).trans Z⟩
  have T:bW w2 w2.drew:=(TW _ w2).drew;have n1:IntKind.u64.wrap ((t:Int)+1)=((nx t:Nat):Int):=by rw[U7];unfold nx;omega
  have qs:=rU;refine mq 18 (wl [(0,ZU),(1,ZU),(2,ZU),(3,ZU),(5,ZU),(6,ZU),(7,ZU),(8,ZU),(9,ZU),(10,ZU),(11,ZU),(12,ZU),(13,ZU),(14,ZU),(15,ZU)] (.fk (wl [(4,ZT),(16,ZU),(17,ZT),(18,ZT)] .en) (wl [(17,ZT),(4,ZT),(16,ZU),(18,ZT)] .en))) (λa=>a.cell? ⟨ar,0,J⟩=ZV (Z6 (ZV ⟨v,0,J⟩))/\a.cell? ⟨ar,4,J⟩=ZV (I Z8 t)/\a.cell? ⟨pb,U',J⟩=ZV (I O f0)) ee ee (W _ T) ?_;iterate 15 refine bE ?_
  have q7:∀{a:ZS}{b:Nat},bW w2 a->w2.heap.size<=b->a.heap[b]?=ZV (Z4 (aq 0 0 0 0 0 0) 132 (0,0))->(Instr.storeAt 132 (Z6 (ZV ⟨b,0,J⟩)) (.agg (aq D L G (nx t) f0 l.length))).run ZM a=.ok () (a.setRow b (aq D L G (nx t) f0 l.length))/\∃c,Value.pointer (ZV ⟨b,0,J⟩)=Z6 (ZV ⟨c,0,J⟩)/\w2.heap.size<=c/\(a.setRow b (aq D L G (nx t) f0 l.length)).heap[c]?=ZV (Z4 (aq D L G (nx t) f0 l.length) 132 (0,0))/\bW w2 (a.setRow b (aq D L G (nx t) f0 l.length)):=λd qe hr=>⟨vR hr rfl,_,rfl,qe,Vw _ _ _ _ _ _ hr,d.trans ⟨rfl,rfl,rfl,by rw[jy];exact TV _,λk O'=>(aZ _ _ _).block k (ia d.size) (λq=>by cases q;omega)⟩⟩;refine⟨?fa,?fb⟩;case' fa=>refine db (ga (w:=w2.drew) (u.vol.keep rfl)) rfl rfl oB ?_;rintro e w5⟨rfl,N,-⟩;have s:=T.trans N;refine⟨_,rfl,λ_=>W _ s,?_⟩;simp only[Act.put,TZ,T5,T6];refine cZ rfl rfl ⟨.agg (aq D L G (nx t) f0 l.length),λw' _=>by go_simp;rfl,?_⟩;simp only[Act.put,TZ,T5,T6];refine dV (v:=Z6 (ZV ⟨w5.heap.size,0,J⟩)) (w1:=w5.alloc (Z4 (aq 0 0 0 0 0 0) 132)) rfl rfl oB (λ_=>W _ (s.alloc s.size _)) ?_;have hs:=q7 (s.alloc s.size _) s.size (Ug w5 (Z4 (aq 0 0 0 0 0 0) 132))
  case' fb=>refine dV (v:=Z6 (ZV ⟨w2.heap.size,0,J⟩)) (w1:=w2.drew.alloc (Z4 (aq 0 0 0 0 0 0) 132)) rfl rfl oB (λ_=>W _ (T.alloc T.size _)) ?_;simp only[Act.put,TZ,T5,T6];have qn:=Ug w2.drew (Z4 (aq 0 0 0 0 0 0) 132);refine db (ga (w:=w2.drew.alloc (Z4 (aq 0 0 0 0 0 0) 132)) (u.vol.keep (UE w2.drew _ _ u.vol.lt))) rfl rfl oB ?_;rintro e w5⟨rfl,N,-⟩;have s:=(T.alloc T.size (Z4 (aq 0 0 0 0 0 0) 132)).trans (N.mono ej);refine⟨_,rfl,λ_=>W _ s,?_⟩;simp only[Act.put,TZ,T5,T6];refine cZ rfl rfl ⟨.agg (aq D L G (nx t) f0 l.length),λw' _=>by go_simp;rfl,?_⟩;have hs:=q7 s lR ((N.block _ ej).trans qn)
  all_goals simp only[Act.put,TZ,T5,T6];refine lj rfl rfl (by simp[execOp,Act.eval,hs.1];rfl) xJ (bI ?_);have HM:=ak hs.2;rename_i hK;refine hK _ _ ?_;clear hK;simp only[Act.put];go_meet;case rel=>exact HM.o
 case rest=>
 obtain⟨c,rfl,kp,j,ke⟩:=hcut;rename ZS=>w3;obtain⟨C,u,I',Z⟩:=H2.o;clear Z;have m:=C.keep (ke.block _ C.lt);have y:=u.below ke lR;have r:aa (F.S) w w3:=I'.trans (aa.RK ke _);have J':¬F.S c:=λq=>by have:=K.arr.RL q;have:=I'.size;omega
 have H3:=a6 m y r j J' kp;clear C u I' m y r j J' kp ke;go_wp2_with fail;obtain⟨m,y,r,j,J',kp⟩:=H3.o;obtain⟨hd,qr,qx,qy⟩:=q6;obtain⟨S,hS⟩:=nM (2^(D+L+G)-1);have ki:ae S=YE A.n:=by rw[<-hS,hn];exact pj ks
 have q3:S<65536:=by have:2^(D+L+G)<=2^16:=UY ec ks;omega
 have q9:∀X,bW w3 X->ZQ ZM 127 #[Z6 (ZV ⟨v,0,J⟩),I O (0:Nat),ef (.root D L G (nx t) f0 l.length),I Z8 S] X λe w'=>((∃z:Nat,e=Z3 (I Z8 z))/\ay w' p ((A.wrTo D L G P (cd D P l) P.length).putAt (YE A.n) 0 (λ_=>.root D L G (nx t) f0 l.length)) F/\aa (F.S) w3 w')\/bC w p F (iG (A.wrTo D L G P (cd D P l) P.length) (YE A.n) 0 (λ_=>.root D L G (nx t) f0 l.length)) e w':=λX d=>by have qd:=y.below d lR;have h:=fJ qd 0 S (by rw[qr];omega) q3 (λi hi=>by rw[hd];rw[ki]at hi;simpa using hi) (.root D L G (nx t) f0 l.length) qj;rw[ki]at h;exact h.mono λe w' q=>q.imp (λq=>⟨⟨_,q.1⟩,q.2.1,(aa.RK d _).trans q.2.2⟩) λq=>q.start (r.trans (aa.RK d _))
 have kk:=lC (y.vol.keep (w':=w3.drew) rfl) K.par;rw[hS]at kk;have km:∀X,bW w3 X->X.cell? ⟨ar,0,J⟩=ZV (Z6 (ZV ⟨v,0,J⟩))/\X.cell? ⟨c,0,J⟩=ZV (I O D)/\X.cell? ⟨c,1,J⟩=ZV (I O L)/\X.cell? ⟨c,2,J⟩=ZV (I O G)/\X.cell? ⟨c,3,J⟩=ZV (I Z8 (nx t))/\X.cell? ⟨c,4,J⟩=ZV (I O f0)/\X.cell? ⟨c,5,J⟩=ZV (I O l.length):=λX d=>by have qm:X.heap[c]?=ZV (Z4 (aq D L G (nx t) f0 l.length) 132 (0,0)):=(d.block c (TX.1 j).1).trans j;refine⟨(m.keep (d.block _ m.lt)).cells.1,?_,?_,?_,?_,?_,?_⟩<;>simp[World.cell?,qm,aq]
 obtain⟨k0,k1,k2,k3,k4,k5,k6⟩:=km w3 (TW _ _);have Y:=au q9 kk km;have qb:=a5 m y r j J';clear q9 kk km m y r j J' hS ki q3;go_cut[47]from 36 to 46(λ_ a=>ay a p ((A.wrTo D L G P (cd D P l) P.length).putAt (YE A.n) 0 (λ_=>.root D L G (nx t) f0 l.length)) F/\aa (F.S) w3 a);case first=>go_region_with(first|(go_at_call 121;refine Y.o.2.1.mono ?_;rintro e w5⟨rfl,N⟩;have hj:bW w3 w5:=((TW _ w3).drew).trans N;obtain⟨j0,j1,j2,j3,j4,j5,j6⟩:=Y.o.2.2 w5 hj;have H5:=ak hj;clear N hj)|(go_at_call 127;refine(Y.o.1 w5 H5.o).mono ?_;rintro e w6(⟨⟨z,rfl⟩,ky,kz⟩|hcut);rotate_left;(obtain⟨ch,rfl⟩:=hcut.pan;exact⟨rfl,.inr (hcut.mono λB q=>.inr q)⟩);have H6:=al ky kz;clear ky kz));all_goals(go_wp2_with fail;go_meet;case rel=>exact H6.o)
 case rest=>rename ZS=>w4;obtain⟨kx,kb⟩:=hcut;obtain⟨m,y,r,j,J'⟩:=qb.out;clear k0 k1 k2 k3 k4 k5 k6 Y;have kj:=m.keep (kb.block _ m.lt V');have h6:=(kb.block c (TX.1 j).1 J').trans j;have hz:aa (λk=>k=ar\/F.S k) w w4:=(r.trans kb).mono λ_ _ q=>.inr q;have q8:=kj.there;have kc:=D3 (D:=D) (L:=L) (G:=G) (t:=nx t) (f:=f0) (n:=l.length) kj;have kh:=hz.trans (aa.setCells (S:=λk=>k=ar\/F.S k) _ ar 1 (aq D L G (nx t) f0 l.length).toList (.inl rfl));have kg:=kx.outside (aa.setCells (S:=λk=>k=ar) w4 ar 1 (aq D L G (nx t) f0 l.length).toList rfl) (λk O' e=>V' (e▸O'));obtain⟨w8,kr⟩:=nM (w4.setCells ar 1 (aq D L G (nx t) f0 l.length).toList);rw[kr]at kc kh kg;obtain⟨c7,f7,c8,f8⟩:=kc.tail;have H:=a6 kg kh kc q8 h6 kr;clear kx kb kj hz q8 kc kh kg kr h6 m y r j;go_wp2_with(first|(refine lL rfl (Z0 9) rfl rfl um (by exact H.o.2.2.2.2.1) ?_)|(refine wpList_store_mid rfl 132 (Z0 55) (Z0 51) rfl ar 1 (aq D L G (nx t) f0 l.length) um um (by exact H.o.2.2.2.1) (lK _ _ _ _ _ _) (rV _ _ _ _ _ _) ?_;rw[H.o.2.2.2.2.2]));go_ret;refine .inl ⟨(H.o.2.1.trans (aa.setCell _ _ _ (.inl rfl))).trans (aa.setCell _ _ _ (.inl rfl)),rfl,?_,H.o.2.2.1.late _ _⟩;exact H.o.1.keep λk O'=>by have q5:k≠ar:=λe=>V' (e▸O');exact(Uc _ _ _ _ q5).trans (Uc _ _ _ _ q5)
def gj(s:ByteArray):a7:=s.toList.map (λ(b:UInt8)=>b.toNat)++YF (16-s.size) 0
def bV(o:Ob):a7:=be o.name.size 1++gj o.name++be o.size 2++o.RI.flatMap (λs=>be s 4)
def aw(os:List Ob):a7:=os.flatMap bV
structure Ob.fit(o:Ob):Prop where name:1<=o.name.size/\o.name.size<=16size:o.size<=1500st:∀s∈o.RI,s<4294967296len:o.RI.length<=1000
def zV(l:a7):(l.flatMap (λs=>be s 4)).length=4*l.length:=by induction l with|nil=>rfl|cons x l ih=>rw[VJ,Ua,ih,aG,UC];omega
def nA{s:ByteArray}(h:s.size<=16):(gj s).length=16:=by
 unfold gj;rw[Ua,Uf,XW,Yk];have:s.data.toList.length=s.size:=by rw[WR];rfl
 omega
def dC{o:Ob}(h:o.fit):(bV o).length=19+4*o.RI.length:=by unfold bV;rw[Ua,Ua,Ua,aG,aG,nA h.name.2,zV]
def lM(os:List Ob)(k:Nat)(a:k<os.length):aw (os.take (k+1))=aw (os.take k)++bV os[k]:=by unfold aw;rw[Vl,Ud a,WD];simp
theorem gM(k:Nat)(b:k<=1000000)(w:ZS):ZQ ZM 100 #[I O k] w λe w'=>e=Z3 (I O ((19+4*k:Nat):Int))/\w'=w:=by have a:((19+4*k:Nat):Int)=19+4*(k:Int):=V;rw[a];go_enter func100,ntmps100;go_wp2;go_ret;exact⟨rfl,rfl⟩
def LnR(w:ZS)(os:List Ob)(s i:ZR)(wr:ZS):Prop:=∃k:Nat,k<=os.length/\i=I O k/\s=I O (((aw (os.take k)).length:Nat):Int)/\bW w wr
theorem vS{os:List Ob}(I':fA K w v os)(n:∀o∈os,o.fit)(O':os.length<=10000):ZQ ZM 97 #[v] w λe w'=>e=Z3 (I O (((aw os).length:Nat):Int))/\bW w w':=by
 obtain⟨ao,c,rfl,_,p⟩:=I';have l:∀k,k<=os.length->(aw (os.take k)).length<=k*5000:=by intro k z;induction k with|zero=>simp[aw]|succ k ih=>have d:k<os.length:=V;have:=ih V;have x:=n _ (T7 d);rw[lM os k d,Ua,dC x];have:=x.len;omega
 obtain⟨N,t⟩:=nM (os.length);have h:=aE p n l t;rw[t]at O'⊢;go_enter func97,ntmps97;go_wp2_with fail;go_loopw[3,8](λs i wr=>LnR w os s i wr)(λ_ i _=>N-(intOf i).toNat);case atStart=>exact⟨0,T8 _,rfl,rfl,TW _ _⟩
 case round=>
  obtain⟨k,z,rfl,rfl,f⟩:=hrel;rw[h.o.2.2.2]at z;by_cases X:k<N;.obtain⟨p,n,l,t⟩:=h.o;have d:k<os.length:=V;obtain⟨b,off,rfl,V',r,E⟩:=p (λe=>by rw[e]at d;cases d);obtain⟨sv,c0,c1,B,J'⟩:=E k d;obtain⟨T,Z,P,Q,_⟩:=J';have C:wr.cell? ⟨b,off+k*3,J⟩=ZV (ZZ os[k].name):=(Uk (f.block b r.lt)).trans c0;have d1:wr.cell? ⟨b,off+k*3+1,J⟩=ZV (I O (os[k].size:Nat)):=(Uk (f.block b r.lt)).trans c1;have D:wr.cell? ⟨b,off+k*3+2,J⟩=ZV sv:=(Uk (f.block b r.lt)).trans B;subst P;have G:=l k V;have L:=l (k+1) V;have j:(aw (os.take (k+1))).length=(aw (os.take k)).length+(19+4*os[k].RI.length):=(by rw[lM os k d,Ua,dC (n _ (T7 d))]);obtain⟨a,y⟩:=nM ((aw (os.take k)).length);obtain⟨U',g⟩:=nM ((aw (os.take (k+1))).length);obtain⟨m,u⟩:=nM (os[k].RI.length);obtain⟨nm,M⟩:=nM (os[k].name);obtain⟨sz,R⟩:=nM (os[k].size);rw[y,g,u]at j;rw[y]at G⊢;rw[g]at L;rw[u]at D;rw[M]at C;rw[R]at d1;rw[u]at Q;have S:=f.size;have H:=au f g j;have W:((k:Nat):Int).toNat=k:=V;go_wp2_with fail;refine(gM m V _).mono ?_;obtain⟨q,A⟩:=nM (19+4*m);rw[A];rintro e w2⟨rfl,rfl⟩;have Y:a+q<=100000000:=(ia H.o.2.2);go_wp2;obtain⟨f,g,j⟩:=H.o;refine⟨⟨k+1,by rw[h.o.2.2.2];omega,eT,?_,f.alloc S _⟩,iE⟩;rw[g,j,A];first|rfl|(congr 1)
  .have F:k=N:=V;subst F;have H:=ak f;go_wp2;go_ret;refine⟨?_,H.o⟩;rw[UM (by rw[h.o.2.2.2];exact TV _)];rfl
theorem D4(s:ByteArray):(List.take 0 (aL (YF 16 0))++Lib.byteCells s.data.toList++List.drop (0+s.size) (aL (YF 16 0))).toArray=(aL (gj s)).toArray:=by congr 1;unfold gj aL Lib.byteCells;rw[Yk,YO,WN,Ut,Uj,XZ,Uz,YO,List.map_map];rfl
structure Pk(w:ZS)(l:a7)(v:ZR)(wr:ZS):Prop where
 own:wr.ownsRow w.heap.size 5 1 v l.length (aL l)some_:v.ownBlock≠J
 below:bW w wr
def D5{xs:List ZR}(h:w.ownsRow base e size v n xs)(c:0<n):v.ownBlock≠J:=by
 rcases h.2 with⟨_,b⟩|⟨g,cap,cur,a,_⟩;.omega
 .rw[a];simp[Value.ownBlock]
def Pk.out{wr:ZS}(h:Pk w l v wr){S:Nat->Prop}(a:aa S wr w')(b:∀k,S k->w.heap.size<=k)(d:∀k,v.ownBlock=ZV k->¬S k):Pk w l v w':=⟨cD h.own a d,h.some_,⟨a.os.trans h.below.os,a.tape.trans h.below.tape,a.output.trans h.below.output,TU h.below.size a.size,λk c=>(a.block k (ia h.below.size) (λq=>ia (b k q))).trans (h.below.block k c)⟩⟩
def Pk.num{wr:ZS}(h:Pk w l v wr)(n s:Nat)(d:s<=8)(g:0<s)(hl:l.length<=1000000000):ZQ ZM 165 #[v,I Z8 n,I O s] wr λe w'=>∃b,e=Z3 b/\Pk w (l++be n s) b w'/\aa (λj=>v.ownBlock=ZV j) wr w':=by
 refine(gD w.heap.size v l.length (aL l) n s wr h.own h.below.size d hl).mono ?_;rintro e w'⟨b,rfl,ho,a,f⟩;refine⟨b,rfl,⟨?_,D5 ho V,?_⟩,a⟩;.rw[bT,Ua,aG];exact ho
 .exact⟨a.os.trans h.below.os,a.tape.trans h.below.tape,a.output.trans h.below.output,TU h.below.size a.size,λk c=>(a.block k (ia h.below.size) (λq=>ia (eO h.own q))).trans (h.below.block k c)⟩
def PR{wr:ZS}(h:Pk w l v wr):w.heap.size<=wr.heap.size:=h.below.size
def PsR(w:ZS)(pre:a7)(st:a7)(v i:ZR)(wr:ZS):Prop:=∃j:Nat,j<=st.length/\i=I O j/\Pk w (pre++(st.take j).flatMap (λs=>be s 4)) v wr
def acv(w:ZS)(os:List Ob)(v i:ZR)(wr:ZS):Prop:=∃k:Nat,k<=os.length/\i=I O k/\Pk w (aw (os.take k)) v wr
def aaZ(w:ZS)(os:List Ob)(e:ZP)(w':ZS):Prop:=∃g cap,e=Z3 (Z5 (ZV ⟨g,0,J⟩) (aw os).length cap)/\w'.ownsRow w.heap.size 5 1 (Z5 (ZV ⟨g,0,J⟩) (aw os).length cap) (aw os).length (aL (aw os))/\bW w w'
theorem zW{os:List Ob}(hC:fA K w v os)(z:∀o∈os,o.fit)(qj:os.length<=10000):ZQ ZM 139 #[v] w λe w'=>aaZ w os e w':=by
 obtain⟨ib,qg,hz,k0,k5⟩:=Uw Tryz.R8;have F:∀k,k<=os.length->(aw (os.take k)).length<=k*5000:=by intro k C;induction k with|zero=>simp[aw]|succ k ih=>have y:k<os.length:=V;have:=ih V;have l:=z _ (T7 y);rw[lM os k y,Ua,dC l];have:=l.len;omega
 have kj:=vS hC z qj;have hr:=F os.length lR;rw[UM lR]at hr;obtain⟨ao,c,rfl,_,R⟩:=hC;obtain⟨N,I'⟩:=nM (os.length);obtain⟨M,G⟩:=nM ((aw os).length);rw[G]at kj hr;have Y:=a5 R z F I' G;rw[I']at qj kj hr⊢;clear R z F I' G;go_enter func139,ntmps139;go_wp2_with fail;refine kj.mono ?_;rintro e w1⟨rfl,kv⟩;have x7:=kv.size;have H1:=ak kv;clear kv kj;go_wp2_with(at_make;refine adi w1 rfl (.const (I O 0)) (Z0 10) 36 rfl w.heap.size 5 ib (I .u8 0) 1 Ur qg hz k0 .i64 .i64 _ M um um rfl (by rw[k5];omega) eD x7 ?_;intro w2 qi qf);have qa:Pk w [] (Z5 (ZV ⟨w1.heap.size,0,J⟩) 0 M) w2:=⟨qi,vE,H1.o.grown qf H1.o.size (λk e=>W8)⟩;have H2:=ak qa;clear qa qi qf;go_loopw[3,14](λv i wr=>acv w os v i wr)(λ_ i _=>N-(intOf i).toNat);case atStart=>exact⟨0,T8 _,rfl,H2.o⟩
 case round=>
  clear H2;obtain⟨k,C,rfl,a⟩:=hrel;rw[Y.o.2.2.2.1]at C;by_cases xc:k<N
  . obtain⟨R,z,F,I',G⟩:=Y.o;have y:k<os.length:=V;obtain⟨b,off,rfl,x8,ky,qd⟩:=R (λe=>by rw[e]at y;cases y);obtain⟨sv,c0,c1,c2,hI⟩:=qd k y;have l:=z _ (T7 y);have d0:wr.cell? ⟨b,off+k*3,J⟩=ZV (ZZ os[k].name):=(Uk (a.below.block b ky.lt)).trans c0;have d1:wr.cell? ⟨b,off+k*3+1,J⟩=ZV (I O (os[k].size:Nat)):=(Uk (a.below.block b ky.lt)).trans c1;have d2:wr.cell? ⟨b,off+k*3+2,J⟩=ZV sv:=(Uk (a.below.block b ky.lt)).trans c2;have qy:=F k V;have t:=lM os k y;obtain⟨pre,k8⟩:=nM (aw (os.take k));obtain⟨o,ho⟩:=nM (os[k]);rw[k8]at qy a t;rw[ho]at d0 d1 l hI t;obtain⟨d,E,x1,x3,S⟩:=hI;subst x1;obtain⟨m,J'⟩:=nM (o.RI.length);obtain⟨nm,V'⟩:=nM (o.name);obtain⟨sz,W⟩:=nM (o.size);have kg:=l.name;have qs:=l.size;have qq:=l.len;rw[V']at d0 kg;rw[W]at d1 qs;rw[J']at d2 x3 qq;have x6:=a.below.size;have xa:((k:Nat):Int).toNat=k:=V;have kx:bW wr (wr.alloc (Z4 #[ZZ nm,I O (sz:Int),.slice d m E] 150)):=bA wr _;have qo:(wr.alloc (Z4 #[ZZ nm,I O (sz:Int),.slice d m E] 150)).heap.size=wr.heap.size+1:=ej;have q5:(wr.alloc (Z4 #[ZZ nm,I O (sz:Int),.slice d m E] 150)).heap[wr.heap.size]?=ZV (Z4 #[ZZ nm,I O (sz:Int),.slice d m E] 150 (0,0)):=Ug _ _;obtain⟨p,x4⟩:=nM (wr.alloc (Z4 #[ZZ nm,I O (sz:Int),.slice d m E] 150));rw[x4]at kx qo q5;have n:(p.alloc (Z4 (aL (YF 16 0)).toArray 265)).heap[p.heap.size]?=ZV (Z4 (aL (YF 16 0)).toArray 265 (0,0)):=Ug _ _;have kf:bW p (p.alloc (Z4 (aL (YF 16 0)).toArray 265)):=bA p _;have qp:(p.alloc (Z4 (aL (YF 16 0)).toArray 265)).heap.size=p.heap.size+1:=ej;obtain⟨wb,q7⟩:=nM (p.alloc (Z4 (aL (YF 16 0)).toArray 265));rw[q7]at n kf qp;have D:=(kf.block _ V).trans q5;have x5:p.alloc (Z4 #[I .u8 0,I .u8 0,I .u8 0,I .u8 0,I .u8 0,I .u8 0,I .u8 0,I .u8 0,I .u8 0,I .u8 0,I .u8 0,I .u8 0,I .u8 0,I .u8 0,I .u8 0,I .u8 0] 265)=wb:=q7;have L:Pk w pre u3 wb:=(a.out (aa.RK kx (λ_=>False)) (λ_ h=>h.elim) (λ_ _ h=>h)).out (aa.RK kf (λ_=>False)) (λ_ h=>h.elim) (λ_ _ h=>h);have Z:=hide7 S l t ho J' V' W;have HB:=aE L D n qp;clear a R z F I' G qd c0 c1 c2 S l t ho J' V' W L D n q7 q5 kx kf k8;go_wp2_with fail;obtain⟨L,D,n,kb⟩:=HB.o;rw[qo]at n kb;obtain⟨q,hq⟩:=nM (wr.heap.size);rw[hq]at D n kb x6;rw[hq];have hp:=Lib.run_copy_row_string (P:=ZM) wb.drew 36 9 3 5 (q+1) 0 16 16 nm (aL (YF 16 0)).toArray 265 Ur ee n kg.2 (by rw[UK,aY];simpa using kg.2);rw[show(aL (YF 16 0)).toArray.toList=aL (YF 16 0)from rfl,D4 nm]at hp;refine bw 3 [(0,ZU),(1,ZU),(2,ZU),(3,ZT)] (λw'=>w'.cell? ⟨q,0,J⟩=ZV (ZZ nm)) ee ee (show wb.cell? _=_ by simp[World.cell?,D]) ?_;iterate 3 refine bE ?_
    refine dV (v:=I O (nm.size:Nat)) (w1:=wb.drew.setRow (q+1) (aL (gj nm)).toArray) rfl rfl (by simp[execOp,Act.eval,resolve,invoke,builtin,hp];rfl) xJ (bI ?_);obtain⟨Q,km⟩:∃Q,Q=wb.drew.setRow (q+1) (aL (gj nm)).toArray:=⟨_,rfl⟩;rw[<-km];clear hp;have kc:aa (λk=>k=q+1) wb Q:=by rw[km];have T:=aZ wb.drew (q+1) (aL (gj nm)).toArray;exact⟨T.os,T.tape,T.output,T.size,λk C qz=>T.block k C (λe=>qz (UN e))⟩
    have A:Pk w pre u3 Q:=L.out kc (λk C=>V) (λk C e=>bN L.own n ec (by rw[C,e]));have B:=(kc.block q V V).trans D;have O':Q.heap[q+1]?=ZV (Z4 (aL (gj nm)).toArray 265 (0,0)):=(by rw[km];exact Vw _ _ _ _ _ _ n);have xd:=kc.size;have q0:Q.cell? ⟨q,0,J⟩=ZV (ZZ nm):=(by simp[World.cell?,B]);have qe:=A.num nm.size 1 V V V;have H6:=aE A B O' qe;have x0:nm.size<=16:=kg.2;clear L D n kc A B O' qe km d0 d1 d2;rename_i q8;refine q8 _ _ ?_;clear q8;simp only[Act.put,TZ,T5,T6];go_wp2_with fail;refine H6.o.2.2.2.mono ?_;rintro e w7⟨v7,rfl,ko,ke⟩;obtain⟨A,B,O',hx⟩:=H6.o;clear hx;have qk:=(ke.block q V (λe=>bN A.own B ec e)).trans B;have kz:=(ke.block (q+1) V (λe=>bN A.own O' ec e)).trans O';have xe:=ke.size;have ki:(pre++be nm.size 1).length=pre.length+1:=(by rw[Ua,aG]);have kk:(gj nm).length=16:=nA x0;have he:Src ZM 1 36 (Z5 (ZV ⟨q+1,0,J⟩) 16 16) 16 (aL (gj nm)) w7:=Vm w7 Ur ⟨q+1,0,J⟩ 16 16 (aL (gj nm)) (by rw[aY,kk]) (λi u hu=>by
     have h9:w7.cell? ⟨q+1,i,J⟩=ZV u:=(by simp[World.cell?,kz];simpa using hu);unfold Addr.add;split;.rename_i h0;subst h0;exact h9
     .rw[Uj];exact h9) (λu hu=>by obtain⟨x,_,rfl⟩:=T9.1 hu;rfl);have h7:=ko.own;rw[ki]at h7;have r:=a5 ko qk kz he h7;clear A B O' ko ke qk kz he h7 q0;have qn:=PR r.o.1;go_wp2_with(show wpList _ _ _ ({dst:=ZV 30,op:=_,type:=_,pos:=_,after:=_,guard:=_}::_) _ _;refine af _ rfl (Z0 28) (Z0 29) 36 36 rfl w.heap.size 5 ib (I .u8 0) 1 1 Ur qg hz k0 k5 rfl v7 (pre.length+1) (aL (pre++be nm.size 1)) um (by exact r.o.2.2.2.2) _ um 16 (aL (gj nm)) (by exact r.o.2.2.2.1) eD V (by exact qn) ?_;intro v8 w8 q3 kh ks;have q4:w8.heap[q]?=ZV (Z4 #[ZZ nm,I O (sz:Int),.slice d m E] 150 (0,0)):=(kh.block q V (λe=>bN r.o.1.own r.o.2.1 ec e.symm)).trans r.o.2.1;have q1:w8.cell? ⟨q,1,J⟩=ZV (I O (sz:Int)):=(by simp[World.cell?,q4]);have qb:Pk w ((pre++be nm.size 1)++gj nm) v8 w8:=⟨(by rw[bT,Ua,ki,kk];exact q3),D5 q3 V,r.o.1.below.grown kh qn (λj e=>eO r.o.1.own e)⟩;have xf:=kh.size;have X:=al qb q4;clear q3 kh ks q4 qb);refine(X.o.1.num sz 2 V V (by rw[Ua,ki,kk];omega)).mono ?_;rintro e w9⟨v9,rfl,kp,q9⟩;have qm:=(q9.block q V (λe=>bN X.o.1.own X.o.2 ec e)).trans X.o.2;have q2:w9.cell? ⟨q,2,J⟩=ZV (.slice d m E):=(by simp[World.cell?,qm]);obtain⟨f,h4⟩:=nM (pre++be nm.size 1++gj nm++be sz 2);have xb:f.length=pre.length+19:=(by rw[<-h4,Ua,Ua,ki,kk,aG]);rw[h4]at kp;have H9:=al kp h4;clear kp q9 qm q1 h4;go_wp2_with fail;go_loopw[3,39](λv i hb=>PsR w f o.RI v i hb)(λ_ i _=>m-(intOf i).toNat);case atStart=>exact⟨0,T8 _,rfl,by rw[WN,List.flatMap_nil,Wj];exact H9.o.1⟩
    case round=>
     obtain⟨j,hj,rfl,a⟩:=hrel;rw[Z.o.2.2.2.2.1]at hj;by_cases x9:j<m
     . obtain⟨S,l,t,ho,J',_,_⟩:=Z.o;have U':j<o.RI.length:=V;obtain⟨sb,so,rfl,_,q6,k9⟩:=S (λe=>by rw[e]at U';cases U');have cs:=(Uk (a.below.block sb q6.lt)).trans (k9 j U');have x2:=l.st _ (T7 U');have hy:((o.RI.take j).flatMap (λs=>be s 4)).length=4*j:=(by rw[zV,Uq];omega);have qh:f++(o.RI.take (j+1)).flatMap (λs=>be s 4)=(f++(o.RI.take j).flatMap (λs=>be s 4))++be o.RI[j] 4:=by rw[Vl,Ud U',WD,UA];simp
       have hc:=a.num o.RI[j] 4 V V (by rw[Ua,hy];omega);rw[<-qh]at hc;obtain⟨x,hx⟩:=nM (o.RI[j]);rw[hx]at cs x2 hc;have HP:=ak hc;clear a S l t ho J' k9 hc qh hx hy;go_wp2_with fail;refine HP.o.mono ?_;rintro e wj⟨vj,rfl,qc,_⟩;have Hj:=ak qc;clear qc;go_wp2;go_roundw;case rel=>exact⟨j+1,ia Z.o.2.2.2.2.1,eT,Hj.o⟩
       case measure=>simp[intOf];omega
     . have qv:j=m:=V;have Hq:=ak a;clear a;go_wp2;go_roundw;case rel=>refine⟨k+1,ia Y.o.2.2.2.1,eT,?_⟩;obtain⟨_,_,t,_,J',V',W⟩:=Z.o;have kr:=Hq.o;rw[UM V,<-H9.o.2]at kr;rw[t];unfold bV;rw[V',W];simp only[UA]at kr⊢;exact kr
       case measure=>simp[intOf];omega
  . have qx:k=N:=V;subst qx;have H:=ak a;clear a;go_wp2;go_ret;have a:=H.o;obtain⟨_,_,_,I',G⟩:=Y.o;rw[UM V]at a;rcases a.own.2 with⟨h0,_⟩|⟨g,cap,cur,e1,_⟩;.exact absurd (by rw[h0];rfl) a.some_
    .have ho:=a.own;rw[e1]at ho;exact⟨g,cap,by rw[<-e1];rfl,ho,a.below⟩
def vT{vo:ZR}{os:List Ob}(c:fA (λk=>k<w.heap.size) w vo os)(d:∀o∈os,o.fit)(b:os.length<=10000):Gq w vo (aw os):=λ_ a=>zW (c.keep ⟨a.size,λk e _=>a.block k e⟩) d b
theorem Gr(w:ZS):Gq w (Z5 J 0 0) []:=by intro W _;go_enter func139,ntmps139;go_wp2_with fail;refine(length_nil W).mono ?_;rintro e w'⟨rfl,rfl⟩;go_wp2_with(at_make;refine dq _ rfl (.const (I O 0)) (Z0 10) rfl _ 0 rfl rfl rfl V ?_;intro w2 b a c);have H:=al b a;refine VD 1 ?_;rw[Vx];go_wp2;go_ret;obtain⟨b,a⟩:=H.o;exact⟨_,0,rfl,⟨rfl,.inr ⟨_,0,_,rfl,TV _,b.SW,TV _,eD,rfl,rfl⟩⟩,a⟩
def bt.weaken{K':Nat->Prop}(h:bt K w v l)(f:∀k,K k->K' k):bt K' w v l:=by obtain⟨ao,c,a,d,e⟩:=h;refine⟨ao,c,a,d,λhl=>?_⟩;obtain⟨b,off,g,i,j⟩:=e hl;exact⟨b,off,g,f b i,j⟩
def JZ(h:3<=nb):(bf (tk nb ([]++ah [])).1 nb).take 1=[2]/\1<=(bf (tk nb ([]++ah [])).1 nb).length:=by
 have e:(tk nb ([]++ah [])).1=λ_=>ZT:=rfl;rw[e];have b:bf (λ_=>ZT) 3=[2]:=by simp[bf,Vs]
 obtain⟨r,a⟩:=lB (λ_=>ZT) h;rw[b]at a;rw[<-a];exact⟨rfl,ej⟩
def oK(A:an)(D L G:Nat):an:=(A.putAt (YE A.n) 1 (λ_=>.filled)).cmt D L G 1 [2] []
def D6(h:w.ownsRow base 3 1 u n (kY l))(hl:l≠[])(hll:l.length<=1000000){K:Nat->Prop}(hK:∀k,base<=k->K k):∃g c,u=Z5 (ZV ⟨g,0,J⟩) l.length c/\bt K w u l:=by
 have b:n=l.length:=by have:=h.1;unfold kY at this;rw[Uf,Wd]at this;omega
 rcases h.2 with⟨_,j⟩|⟨g,cap,cur,a,d,e,_⟩;.exact absurd (U2 V) hl
 .refine⟨g,cap,by rw[a,b],ZV ⟨g,0,J⟩,cap,by rw[a,b],hll,λ_=>⟨g,0,rfl,hK g d,⟨_,_,_,e,ec⟩,λi f=>?_⟩⟩;have:=h.cells (g:=g) T2 i (I O ((l[i]:Nat):Int)) (by unfold kY;simp[f]);rw[kl]at this;rw[Uj];exact this
theorem J1{v:Nat}{off:Bool}{A:an}(C:bh w ar v 0 0 0 0 0 0 (Z5 J 0 0) (Z5 J 0 0) off)(j:qP w v p D L G ps ho A F)(hz:¬F.S ar)(kj:3<=A.nb)(ki:A.fine D L G)(k8:F.pw=ZU):ZQ ZM 114 #[Z6 (ZV ⟨ar,0,J⟩)] w λe w'=>e=Z3 .nilIface/\ay w' p (oK A D L G) F/\(∃u,bh w' ar v D L G 1 2 0 u (Z5 J 0 0) off/\bt (λk=>w.heap.size<=k) w' u [2])/\aa (λk=>k=ar\/F.S k) w w':=by
 obtain⟨hr,ka,hD,hL,ko,hG,kh,hj⟩:=j.par;have hn:=j.n;go_enter func114,ntmps114;go_wp2_with fail;obtain⟨S,hS⟩:=nM (2^(D+L+G)-1);have hv:ae S=YE A.n:=by rw[<-hS,hn];exact pj hj
 have kb:S<65536:=by have:2^(D+L+G)<=2^16:=UY ec hj;omega
 have km:∀X,bW w X->ZQ ZM 127 #[Z6 (ZV ⟨v,0,J⟩),I O (1:Nat),ef .filled,I Z8 S] X λe w'=>(∃z:Nat,e=Z3 (I Z8 z))/\ay w' p (A.putAt (YE A.n) 1 (λ_=>.filled)) F/\aa (F.S) w w':=λX hb=>by have h:=fJ (j.below hb lR) 1 S V kb (λi E=>by rw[hv]at E;simpa using E) .filled trivial;rw[hv]at h;exact h.mono λe w' q=>q.elim (λq=>⟨⟨_,q.1⟩,q.2.1,(aa.RK hb _).trans q.2.2⟩) λq=>(q.no k8).elim
 have hy:=lC (j.vol.keep (w':=w.drew) rfl) j.par;rw[hS]at hy;have k0:=C.cells.1;have B:=au km hy C;go_cut[16]from 5 to 15(λ_ wx=>ay wx p (A.putAt (YE A.n) 1 (λ_=>.filled)) F/\aa (F.S) w wx);case first=>go_region_with(first|(go_at_call 121;refine B.o.2.1.mono ?_;rintro e w5⟨rfl,k5⟩;have T:bW w w5:=((TW _ w).drew).trans k5;have j0:=(B.o.2.2.keep (T.block _ B.o.2.2.lt)).cells.1;have H5:=ak T;clear k5 T)|(go_at_call 127;refine(B.o.1 w5 H5.o).mono ?_;rintro e w6⟨⟨z,rfl⟩,hp,hs⟩;have H6:=al hp hs;clear hp hs));all_goals(go_wp2_with fail;go_meet;case rel=>exact H6.o)
 case rest=>
 rename ZS=>w1;obtain⟨hm,f⟩:=hcut;obtain⟨y,r⟩:=nM (A.putAt (YE A.n) 1 (λ_=>.filled));obtain⟨l,m,M⟩:y.n=A.n/\y.nb=A.nb/\y.fine D L G:=by rw[<-r];exact⟨rfl,rfl,(eI.put _ _ _ _).fine ki⟩
 rw[r]at hm;have d:=C.keep (f.block _ C.lt hz);have a:=j.turn f hm l;have k7:=jB d a.vol ka V 0 ec;have hg:pgs D 0=1:=by unfold pgs;rw[Xu V];rfl
 rw[hg]at k7;have k9:=mL d a.vol a.arr (by rw[l];omega) [] [] (bt.nil _ _) (fA.nil _ _) 1 ec;obtain⟨P,Q⟩:=JZ (nb:=y.nb) (by rw[m];exact kj);rw[P,U4 Q]at k9;have J':=a6 d a f k7 k9 r;go_wp2_with fail;refine J'.o.2.2.2.1.mono ?_;rintro e w2⟨rfl,kk⟩;subst kk;go_wp2_with fail;refine J'.o.2.2.2.2.1.mono ?_;rintro e w3⟨u,rfl,hf,Y⟩;obtain⟨d,a,f,_,_,r⟩:=J'.o;have ke:=d.keep (Y.block _ d.lt);have kc:=a.below Y lR;obtain⟨g,c,hu,hq⟩:=D6 (K:=λk=>w2.heap.size<=k) hf ej ec (λk H=>H);subst hu;have V':bt (λk=>¬F.S k) w3 (Z5 (ZV ⟨g,0,J⟩) [2].length c) [2]:=by obtain⟨ao,O',Z,q2,q3⟩:=hq;refine⟨ao,O',Z,q2,λhl=>?_⟩;obtain⟨b,N,r1,r2,t⟩:=q3 hl;exact⟨b,N,r1,λq=>ia (a.arr.RL q),t⟩
 have kg:=oJ ke kc M hz J 0 0 [] (λx I'=>by cases I') ec (Gr w3) g 0 c [2] V' ej (λx I'=>by simp at I';subst I';rw[m];omega) (λk H=>by simp at H;subst H;simp);have R:aa (F.S) w w3:=f.trans (aa.RK Y _);have H3:=a6 kg R hq a d.lt f.size;go_wp2_with fail;refine H3.o.1.mono ?_;rintro e w4(⟨s,rfl,U',W⟩|hcut);rotate_left;.exact(hcut.no k8).elim
 have H4:=au U' W s;go_wp2;go_ret;obtain⟨U',W,s⟩:=H4.o;obtain⟨_,R,V',a,kf,hh⟩:=H3.o;refine⟨rfl,?_,⟨_,W,?_⟩,(R.mono λ_ _ q=>.inr q).trans s⟩;.unfold oK;rw[r];exact U'
 . obtain⟨ao,O',Z,q2,q3⟩:=V';refine⟨ao,O',Z,q2,λhl=>?_⟩;obtain⟨b,N,r1,r2,t,r4⟩:=q3 hl;have h7:b≠ar:=λe=>by omega
   have k6:¬F.S b:=λq=>by have:=a.arr.RL (k:=b) q;omega
   refine⟨b,N,r1,TU hh r2,t.keep (s.block b t.lt (λq=>q.elim h7 k6)),λi E=>?_⟩;exact(Uk (s.block b t.lt (λq=>q.elim h7 k6))).trans (r4 i E)
def Im:Ob:=⟨YI,0,[]⟩
def Q9(a b:ByteArray):Bool:=Op.bytesLess a.toList b.toList||a.toList==b.toList
def BA(os:List Ob):Prop:=∀i(_:i+1<os.length),Q9 (os.getD (i+1) Im).name (os.getD i Im).name=ZT
def Tryz.RV:(ZM.info? 150).map (λi=>(i.zero,i.size,i.bytes))=ZV (ZV (.agg #[ZZ YI,I O 0,Z5 J 0 0]),3,48):=ee
def bt.ltS(h:bt K w v l):bt (λk=>k<w.heap.size) w v l:=by obtain⟨ao,c,d,e,f⟩:=h;refine⟨ao,c,d,e,λhl=>?_⟩;obtain⟨b,off,g,_,a,i⟩:=f hl;exact⟨b,off,g,a.lt,a,i⟩
def fA.ltS{os:List Ob}(h:fA K w v os):fA (λk=>k<w.heap.size) w v os:=by obtain⟨ao,c,d,e,f⟩:=h;refine⟨ao,c,d,e,λhl=>?_⟩;obtain⟨b,off,j,_,a,l⟩:=f hl;refine⟨b,off,j,a.lt,a,λi g=>?_⟩;obtain⟨sv,m,n,o,p⟩:=l i g;exact⟨sv,m,n,o,p.ltS⟩
def Nf:∀(x y:List UInt8),Op.bytesLess x y=decide (x<y)|[],[]=>by simp[Op.bytesLess]|_::_,[]=>by simp[Op.bytesLess]|[],_::_=>by simp[Op.bytesLess]|a::x,b::y=>by rw[Op.bytesLess,Nf x y];simp only[List.cons_lt_cons_iff];by_cases c:a<b<;>by_cases d:a=b<;>by_cases e:x<y<;>simp[c,d,e]
def jW(a b:ByteArray):Bool:=Op.bytesLess a.toList b.toList
def BB{a b:ByteArray}:jW a b=ZU↔a.toList<b.toList:=by unfold jW;rw[Nf];simp
def BC{a b:ByteArray}:jW a b=ZT↔¬a.toList<b.toList:=by unfold jW;rw[Nf];simp
def jm(a:ByteArray):jW a a=ZT:=BC.2 (List.lt_irrefl _)
def kN{a b c:ByteArray}(h:jW a b=ZU)(k:jW b c=ZU):jW a c=ZU:=BB.2 (List.lt_trans (BB.1 h) (BB.1 k))
def toList_inj{a b:ByteArray}(h:a.toList=b.toList):a=b:=by
 have c:a.data.toList=b.data.toList:=by rw[<-Lib.toList_data,<-Lib.toList_data];exact h
 have d:a.data=b.data:=Array.toList_inj.1 c;cases a;cases b;simpa using d
def tU{a b:ByteArray}(h:jW a b=ZT)(k:jW b a=ZT):a=b:=toList_inj (List.le_antisymm (BC.1 k) (BC.1 h))
def J2{a b:ByteArray}(h:Q9 a b=ZT):jW b a=ZU:=by
 unfold Q9 at h;rw[XJ]at h;cases hb:jW b a;.have e:=tU (a:=a) (b:=b) h.1 hb;rw[e]at h;simp at h
 .rfl
theorem J3{a b:ByteArray}(h:jW b a=ZU):Q9 a b=ZT:=by
 unfold Q9;rw[XJ];constructor
 . cases hb:Op.bytesLess a.toList b.toList;.rfl
   .have:=kN (a:=b) (b:=a) (c:=b) h hb;rw[jm]at this;cases this
 . cases hb:(a.toList==b.toList);.rfl
   .have e:=toList_inj (eq_of_beq hb);rw[e,jm]at h;cases h
def Up(ns:List ByteArray):Prop:=ns.Pairwise (λa b=>jW a b=ZU)
def aW(os:List Ob):List ByteArray:=os.map (·.name)
def bB(os:List Ob):(aW os).length=os.length:=by unfold aW;rw[Uf]
def tV{os:List Ob}(a:i<os.length):os.getD i Im=os[i]:=by rw[Ub,Ud a];rfl
def J4(ns:List ByteArray)(h:∀i(c:i+1<ns.length),jW ns[i] ns[i+1]=ZU):Up ns:=by unfold Up;rw[V0];intro i j c a b;obtain⟨d,rfl⟩:∃d,j=i+1+d:=⟨j-(i+1),V⟩;clear b;induction d with|zero=>exact h i a|succ d ih=>exact kN (ih V) (h (i+1+d) a)
def PS{os:List Ob}(h:BA os):Up (aW os):=by
 refine J4 _ λi a=>?_;rw[bB]at a;have:=J2 (h i a);rw[tV a,tV (by omega:i<os.length)]at this;have e:∀j(b:j<os.length),(aW os)[j]'(by rw[bB];exact b)=os[j].name:=λj b=>by unfold aW;rw[UR]
 rw[e i V,e (i+1) a];exact this
def BD{os:List Ob}(h:Up (aW os)):BA os:=by intro i a;unfold Up at h;rw[V0]at h;have:=h i (i+1) ZH ZH (YP i);refine J3 ?_;rw[tV a,tV (by omega:i<os.length)];unfold aW at this;simpa using this
def aJ(ns:List ByteArray)(x:ByteArray):Nat:=(ns.takeWhile (λn=>jW n x)).length
def zX(ns:List ByteArray)(x:ByteArray):aJ ns x<=ns.length:=by unfold aJ;exact(List.takeWhile_prefix _).length_le
def ij:∀(ns:List ByteArray)(x:ByteArray)(i:Nat),i<=ns.length->(∀j(e:j<ns.length),j<i->jW ns[j] x=ZU)->(∀a:i<ns.length,jW ns[i] x=ZT)->aJ ns x=i|[],x,i,a,_,_=>by simp at a;subst a;rfl|n::ns,x,0,a,b,c=>by have:=c ej;unfold aJ;rw[YG];simp at this;simp[this]|n::ns,x,i+1,a,b,c=>by have d:=b 0 ej V;simp at d;have:=ij ns x i (ua a) (λj e g=>b (j+1) (YQ e) V) (λf=>c (YQ f));unfold aJ at this⊢;rw[YG];simp[d,this]
def nY:∀(ns:List ByteArray)(x:ByteArray)(j:Nat)(a:j<ns.length),j<aJ ns x->jW ns[j] x=ZU
 |[],_,j,a,_=>Zu|n::ns,x,j,a,h=>by
  unfold aJ at h;rw[YG]at h;cases b:jW n x;.simp[b]at h
  .simp[b]at h;cases j with|zero=>simpa using b|succ j=>simpa using nY ns x j (ua a) (by unfold aJ;omega)
def zY:∀(ns:List ByteArray)(x:ByteArray)(a:aJ ns x<ns.length),jW ns[aJ ns x] x=ZT
 |[],x,a=>Zu|n::ns,x,a=>by
  by_cases b:jW n x=ZU;.have e:aJ (n::ns) x=aJ ns x+1:=(by unfold aJ;rw[YG];simp[b]);have c:=zY ns x (by rw[e]at a;simpa using a);simp only[e,Yc];exact c
  .have e:aJ (n::ns) x=0:=(by unfold aJ;rw[YG];simp[b]);simp only[e,adk];simpa using b
def yA(b:Up ns)(x:ByteArray)(j:Nat)(f:j<ns.length)(h:aJ ns x<=j):jW ns[j] x=ZT:=by
 have a:=zY ns x V;rcases XN h with e|d;.subst e;exact a
 . unfold Up at b;rw[V0]at b;have c:=b _ _ V f d;cases hb:jW ns[j] x;.rfl
   .rw[kN c hb]at a;cases a
def iO(a:Up ns){x:ByteArray}{k:Nat}(b:k<ns.length)(e:ns[k]=x):aJ ns x=k:=by refine ij ns x k (Nat.le_of_lt b) (λj d c=>?_) (λf=>by rw[e];exact jm x);unfold Up at a;rw[V0]at a;have:=a j k d b c;rwa[e]at this
def vU(b:Up ns){x:ByteArray}(c:x∈ns):∃h:aJ ns x<ns.length,ns[aJ ns x]=x:=by obtain⟨k,a,e⟩:=UZ c;have:=iO b a e;exact⟨V,by simp only[this];exact e⟩
def J5(c:Up ns){x:ByteArray}(m:x∉ns):Up (ns.take (aJ ns x)++x::ns.drop (aJ ns x)):=by
 have n:=zX ns x;unfold Up;rw[ac3,List.pairwise_cons];refine⟨YJ (List.take_sublist _ _) c,⟨λa g=>?_,YJ (YK _ _) c⟩,λa g b f=>?_⟩
 . obtain⟨j,h,e⟩:=UZ g;rw[Un]at h;rw[Yl]at e;have d:=yA c x (aJ ns x+j) V V;rw[e]at d;cases f:jW x a;.exact absurd (UW g) (by rw[tU d f];exact m)
   .rfl
 . obtain⟨j,h,e⟩:=UZ g;rw[Uq]at h;rw[List.getElem_take]at e;have d:=nY ns x j V V;rw[e]at d;rcases Uu.1 f with rfl|f;.exact d
   .obtain⟨i,l,k⟩:=UZ f;rw[Un]at l;rw[Yl]at k;unfold Up at c;rw[V0]at c;have:=c j (aJ ns x+i) V V V;rwa[e,k]at this
def Ng(b:Up ns)(k:Nat):Up (ns.take k++ns.drop (k+1)):=by refine YJ ?_ b;have a:(ns.take k++ns.drop (k+1)).Sublist (ns.take k++ns.drop k):=YL (YM _) (by rw[<-VH];exact YK _ _);rwa[Wk]at a
def PT(a:x<256):gm 1 x=x:=by rw[cB ec a,cT x a]
theorem Nh(D i t:Nat)(a:i<D):(dB D i).getD t 0=if t=i then 1 else 0:=by
 unfold dB;rw[Ub,Xn];by_cases e:t=i;.subst e;simp[a]
 .rw[TS (λq=>e q.symm),TS e,WJ];split<;>rfl
def D7(D i q:Nat)(c:i<D)(Dt:List a7)(b:(Dt.getD i []).getD q 0<256):∀t,Pj (dB D i) Dt t q=if i<t then(Dt.getD i []).getD q 0 else 0
 |0=>by rw[TS V];rfl|t+1=>by
  show Pj (dB D i) Dt t q^^^gm ((dB D i).getD t 0) ((Dt.getD t []).getD q 0)=_;rw[D7 D i q c Dt b t,Nh D i t c];by_cases e:t=i;.subst e;rw[TS V,TT rfl,PT b,TT V,Vq]
  . rw[TS e,bO,UX];by_cases a:i<t;.rw[TT a,TT V]
    .rw[TS a,TS V]
def J6(D L G i:Nat)(b:i<D):∃h:i<(aQ D L G).length,(aQ D L G)[i]=dB D i:=by
 have hl:i<(aQ D L G).length:=Zc;refine⟨hl,?_⟩;have a:(aQ D L G)[i]?=ZV (dB D i):=by unfold aQ;rw[Vz ek,Vz ek];simp[b]
 rw[Ud hl]at a;exact UN a
def D8(a:∀x∈dl,x<256):∀x∈jh D dl,x<256:=by
 intro x h;unfold jh at h;rcases Ui.1 h with q|q;.exact a x q
 .rw[VG q];decide
theorem D9(a:i<D)(hl:dl.length<=D*44)(k:∀x∈dl,x<256):(dE D L G dl).getD i []=((jh D dl).drop (i*44)).take 44:=by
 obtain⟨h,g⟩:=J6 D L G i a;have e:(dE D L G dl).getD i []=dg (aQ D L G)[i] (eG D dl) 44 (eG D dl).length:=by simp[dE,fP,h]
 rw[e,g,eM];have j:(eG D dl).getD i []=((jh D dl).drop (i*44)).take 44:=by simp[eG,a]
 have d:=nu hl a;unfold dg;apply Ve;.simp[d]
 .intro q l b;have c:((eG D dl).getD i []).getD q 0=(((jh D dl).drop (i*44)).take 44)[q]:=(by rw[j,Ub,Ud b];rfl);have f:((eG D dl).getD i []).getD q 0<256:=(by rw[c];exact D8 k _ (UW (US (T7 b))));rw[UR,List.getElem_range,D7 D i q a _ f,TT a,c]
def zZ:∀m,((YE m).map λi=>((jh D dl).drop (i*44)).take 44).flatten=(jh D dl).take (44*m)|0=>ej|m+1=>by rw[Vs,Uz,adt,zZ m,(V:44*(m+1)=44*m+44),List.take_add];simp[Wf]
def Ni(h:size<=dl.length):(jh D dl).take size=dl.take size:=by unfold jh;rw[VV h]
theorem J7(f:m=(size+43)/44)(d:m<=D)(hl:dl.length<=D*44)(c:∀x∈dl,x<256)(b:size<=dl.length):((YE m).map λi=>(dE D L G dl).getD i []).flatten.take size=dl.take size:=by
 have e:((YE m).map λi=>(dE D L G dl).getD i [])=(YE m).map λi=>((jh D dl).drop (i*44)).take 44:=by apply Wq;intro i a;exact D9 (ia (Ul.1 a)) hl c
 rw[e,zZ,List.take_take,(V:min size (44*m)=size),Ni b]
def Ea(c:∀x∈dl,x<256):(eG D dl).length=D/\∀l∈eG D dl,∀x∈l,x<256:=by refine⟨eM D dl,λl hl x a=>?_⟩;obtain⟨i,b,rfl⟩:=UZ hl;rw[pM b]at a;exact D8 c x (UW (US a))
def di(D:Nat)(d:a7)(k:Nat):a7:=(d.drop (k*(D*44))).take (D*44)
def iP(h:k<l.length):l.getD k 0=l[k]:=by rw[Ub,Ud h];rfl
def ik(h:k<l.length):l.getD k 0∈l:=by rw[iP h];exact T7 h
def an.at(A:an)(b:Nat)(f:Nat->bF):Prop:=∀i,i<A.n->A.rc i b=f i/\(gnB A b i=ZU->A.sv.testBit i=ZU)
def an.holds(A:an)(D L G:Nat)(S:a7)(c:Nat->a7):Prop:=∀k,k<S.length->A.at (S.getD k 0) (PQ D L G (c k))
def kO(A:an)(ds:a7){b m:Nat}(f:Nat->bF)(i:Nat)(h:m≠b):(A.putAt ds b f).rc i m=A.rc i m:=TS λq=>h q.1
def Nj(A:an)(b:Nat)(f:Nat->bF){i n:Nat}(h:i<n):(A.putAt (YE n) b f).rc i b=f i:=TT ⟨rfl,Ul.2 h⟩
def mV{A:an}{S:a7}{c:Nat->a7}(i:Nat){m:Nat}(h:m∉S):∀k,k<=S.length->(A.wrTo D L G S c k).rc i m=A.rc i m|0,_=>rfl|k+1,hk=>(kO _ _ (b:=S.getD k 0) _ _ (λe:m=S.getD k 0=>h (e▸ik hk))).trans (mV i h k V)
def vV{A:an}(b:Nat)(f:Nat->bF)(hl:∀i,i<A.n->A.lost i=ZU->A.sv.testBit i=ZU):(A.putAt (YE A.n) b f).at b f:=λi a=>⟨Nj _ _ _ a,λq=>hl i a (sQ (Ul.2 a) q)⟩
def an.at.off{A B:an}(h:A.at b f)(k:Alw A B)(c:∀i,B.rc i b=A.rc i b):B.at b f:=λi a=>⟨(c i).trans (h i (k.n▸a)).1,λq=>by rw[k.sv];exact(k.gn b i q).elim (h i (k.n▸a)).2 id⟩
def an.holds.off{A B:an}{S:a7}{c:Nat->a7}(h:A.holds D L G S c)(k:Alw A B)(d:∀b∈S,∀i,B.rc i b=A.rc i b):B.holds D L G S c:=λj a=>(h j a).off k (d _ (ik a))
def Io{A:an}{S:a7}{c:Nat->a7}(a:A.fine D L G)(b:S.Nodup):∀k j,j<k->k<=S.length->(A.wrTo D L G S c k).at (S.getD j 0) (PQ D L G (c j))
 |0,_,hj,_=>V|k+1,j,hj,hk=>by
  rcases XN (Nat.le_of_lt_succ hj)with rfl|d;.exact vV _ _ ((iz A D L G S c j).2.2.fine a).2
  .refine(Io a b k j d V).off (eI.put _ _ _ _).Tt λi=>kO _ _ _ _ (λe=>?_);rw[iP V,iP V]at e;have:=(List.getElem_inj b).1 e;omega
def vW{A:an}{S:a7}(a:A.fine D L G)(c:Nat->a7)(d:S.Nodup):(A.wrTo D L G S c S.length).holds D L G S c:=λk b=>Io a d _ k b lR
abbrev aF:=List (Ob×a7)
def aF.os(xs:aF):List Ob:=xs.map (·.1)
def aF.names(xs:aF):List ByteArray:=aW xs.os
structure l8(D:Nat)(x:Ob×a7):Prop where
 fit:x.1.fit
 st:x.1.RI.length=max 1 ((x.1.size+D*44-1)/(D*44))len:x.2.length=x.1.size
 byt:∀b∈x.2,b<256
def vX{xs:aF}{x:Ob×a7}(a:x∈xs){b:Nat}(h:b∈x.1.RI):b∈ah xs.os:=XO.2 ⟨x.1,List.mem_map_of_mem a,h⟩
structure aX(A:an)(D L G t:Nat)(P:a7)(xs:aF):Prop where
 turn:0<t
 root:A.at 0 (λ_=>.root D L G t (P.getD 0 0) (aw xs.os).length)fill:A.at 1 (λ_=>.filled)pl:P.length=pgs D (aw xs.os).length
 page:A.holds D L G P (cd D P (aw xs.os))nod:(P++ah xs.os).Nodup
 SZ:∀x∈P++ah xs.os,2<=x/\x<A.nb
 fits:∀x∈xs,l8 D x
 up:Up xs.names
 held:∀x∈xs,A.holds D L G x.1.RI (di D x.2)room:(ah xs.os).length+2*P.length+2<=A.nb
def Kp(A B:an)(b:Nat):Prop:=∀i,i<A.n->B.rc i b=A.rc i b/\(gnB B b i=ZU->(gnB A b i=ZU->A.sv.testBit i=ZU)->B.sv.testBit i=ZU)
def Kp.at{A B:an}(k:Kp A B b)(c:B.n=A.n)(h:A.at b f):B.at b f:=λi a=>⟨(k i (c▸a)).1.trans (h i (c▸a)).1,λq=>(k i (c▸a)).2 q (h i (c▸a)).2⟩
def aX.to{A B:an}{xs:aF}(h:aX A D L G t P xs)(c:B.n=A.n)(d:B.nb=A.nb)(k:∀b,b∈0::1::(P++ah xs.os)->Kp A B b):aX B D L G t P xs:=⟨h.turn,(k 0 ej).at c h.root,(k 1 ej).at c h.fill,h.pl,λj a=>(k _ (.tail _ (.tail _ (UB _ (ik a))))).at c (h.page j a),h.nod,d▸h.SZ,h.fits,h.up,λx e j a=>(k _ (.tail _ (.tail _ (VQ _ (vX e (ik a)))))).at c (h.held x e j a),d▸h.room⟩
def aX.off{A B:an}{xs:aF}(h:aX A D L G t P xs)(k:Alw A B)(c:∀b,(b<2\/b∈P++ah xs.os)->∀i,B.rc i b=A.rc i b):aX B D L G t P xs:=h.to k.n k.nb λb a i _=>⟨c b (by
  rcases Uu.1 a with e|a;.exact .inl V
  . rcases Uu.1 a with e|a;.exact .inl V
    .exact .inr a) i,λq d=>by rw[k.sv];exact(k.gn b i q).elim d id⟩
def aX.wr{A:an}{xs:aF}(h:aX A D L G t P xs){S:a7}(c:Nat->a7)(a:∀b∈S,2<=b/\b∉P++ah xs.os){k:Nat}(f:k<=S.length):aX (A.wrTo D L G S c k) D L G t P xs:=h.off (iz A D L G S c k).2.2.Tt λb d i=>mV i (λq=>d.elim (λe=>ia ((a b q).1)) (a b q).2) k f
def Ra(A:an)(D L G t:Nat)(P l:a7):(A.cmt D L G t P l).n=A.n/\(A.cmt D L G t P l).nb=A.nb/\eI A (A.cmt D L G t P l):=have h:=iz A D L G P (cd D P l) P.length;⟨h.1,h.2.1,h.2.2.trans (eI.put _ _ _ _)⟩
def rW{B:an}{xs':aF}(j:B.fine D L G)(p:B.at 1 (λ_=>.filled))(r:P'.length=pgs D (aw xs'.os).length)(f:(P'++ah xs'.os).Nodup)(d:∀x∈P'++ah xs'.os,2<=x/\x<B.nb)(o:∀x∈xs',l8 D x)(s:Up xs'.names)(m:∀x∈xs',B.holds D L G x.1.RI (di D x.2))(n:(ah xs'.os).length+2*P'.length+2<=B.nb){t':Nat}(t:0<t'):aX (B.cmt D L G t' P' (aw xs'.os)) D L G t' P' xs':=by have c:=Ra B D L G t' P' (aw xs'.os);have h:=iz B D L G P' (cd D P' (aw xs'.os)) P'.length;have g:∀b∈P'++ah xs'.os,b≠0:=λb a e=>ia ((d b a).1);refine⟨t,(by have:=vV (A:=B.wrTo D L G P' (cd D P' (aw xs'.os)) P'.length) 0 (λ_=>.root D L G t' (P'.getD 0 0) (aw xs'.os).length) (h.2.2.fine j).2;rwa[h.1]at this),p.off c.2.2.Tt λi=>(kO _ _ _ _ ec).trans (mV i (λq=>ia ((d 1 (UB _ q)).1)) _ lR),r,(vW (A:=B) j (cd D P' (aw xs'.os)) (U3.1 f).1).off (eI.put _ _ _ _).Tt λb a i=>kO _ _ _ _ (g b (UB _ a)),f,by rw[c.2.1];exact d,o,s,λx l=>(m x l).off c.2.2.Tt λb a i=>?_,by rw[c.2.1];exact n⟩;have k:=vX l a;exact(kO _ _ _ _ (g b (VQ _ k))).trans (mV i (λq=>(U3.1 f).2.2 b q b k rfl) _ lR)
def aF.ins(xs:aF)(x:Ob×a7):aF:=xs.take (aJ xs.names x.1.name)++x::xs.drop (aJ xs.names x.1.name)
def aF.del(xs:aF)(k:Nat):aF:=xs.take k++xs.drop (k+1)
def kQ(xs:aF)(x:Ob×a7):(xs.ins x).Perm (x::xs):=by unfold aF.ins;refine List.perm_middle.trans ?_;rw[Wk]
def Nk(xs:aF)(x:Ob×a7):(xs.ins x).os=xs.os.take (aJ xs.names x.1.name)++x.1::xs.os.drop (aJ xs.names x.1.name):=by unfold aF.ins aF.os;rw[Uz,U5,WL,WM]
def J8(xs:aF)(x:Ob×a7):(xs.ins x).names=xs.names.take (aJ xs.names x.1.name)++x.1.name::xs.names.drop (aJ xs.names x.1.name):=by unfold aF.names;rw[Nk];unfold aW aF.names aW;rw[Uz,U5,WL,WM]
def Nl(xs:aF)(k:Nat):(xs.del k).os=xs.os.take k++xs.os.drop (k+1):=by unfold aF.del aF.os;rw[Uz,WL,WM]
def J9(xs:aF)(k:Nat):(xs.del k).names=xs.names.take k++xs.names.drop (k+1):=by unfold aF.names;rw[Nl];unfold aW;rw[Uz,WL,WM]
def lN(xs:aF)(k:Nat):(xs.del k).Sublist xs:=by have a:(xs.take k++xs.drop (k+1)).Sublist (xs.take k++xs.drop k):=YL (YM _) (by rw[<-VH];exact YK _ _);rwa[Wk]at a
def Gs(o:Ob)(os:List Ob):ah (o::os)=o.RI++ah os:=by unfold ah;rw[VJ]
def rX(xs:aF)(x:Ob×a7):(ah (xs.ins x).os).Perm (x.1.RI++ah xs.os):=by have h:=(kQ xs x).map (·.1);have:=h.flatMap_right (·.RI);rw[U5,VJ]at this;exact this
def Ka(xs:aF)(x:Ob×a7):(aw (xs.ins x).os).length=(aw xs.os).length+(bV x.1).length:=by have h:=((kQ xs x).map (·.1)).flatMap_right bV;rw[U5,VJ]at h;have:=h.length_eq;rw[Ua]at this;unfold aw aF.os;omega
def pV{α β:Type}(f:α->List β):∀{l m:List α},l.Sublist m->(l.flatMap f).Sublist (m.flatMap f)|_,_,.slnil=>ej|_,_,.cons a h=>by rw[VJ];exact(pV f h).trans (adF _ _)|_,_,.cons_cons a h=>by rw[VJ,VJ];exact YL (YM _) (pV f h)
def Kb(xs:aF)(k:Nat):(ah (xs.del k).os).Sublist (ah xs.os):=pV _ ((lN xs k).map _)
def rY(xs:aF)(k:Nat):(aw (xs.del k).os).length<=(aw xs.os).length:=(pV bV ((lN xs k).map (Prod.fst:Ob×a7->Ob))).length_le
def vY(h:m<=n):pgs D m<=pgs D n:=by unfold pgs;have:(m+(D*44-4)-1)/(D*44-4)<=(n+(D*44-4)-1)/(D*44-4):=Ym V;omega
def Nn{A:an}{xs:aF}(h:aX A D L G t P xs)(o:A.fine D L G)(x:Ob×a7)(v:l8 D x)(r:x.1.name∉xs.names)(s:P'.length=pgs D (aw (xs.ins x).os).length)(m:((x.1.RI++P')++(P++ah xs.os)).Nodup)(k:∀b∈(x.1.RI++P')++(P++ah xs.os),2<=b/\b<A.nb)(H:(ah xs.os).length+x.1.RI.length+2*P'.length+2<=A.nb):aX ((A.wrTo D L G x.1.RI (di D x.2) x.1.RI.length).cmt D L G (t+1) P' (aw (xs.ins x).os)) D L G (t+1) P' (xs.ins x):=by
 obtain⟨F,l,g⟩:=iz A D L G x.1.RI (di D x.2) x.1.RI.length;rw[U3]at m;obtain⟨w,z,j⟩:=m;obtain⟨p,B,C⟩:=U3.1 w;obtain⟨W,E,Z⟩:=U3.1 z;have n:∀b,b∉x.1.RI->∀i,(A.wrTo D L G x.1.RI (di D x.2) x.1.RI.length).rc i b=A.rc i b:=λb c i=>mV i c _ lR;refine rW (g.fine o) (h.fill.off g.Tt (n 1 λe=>by have:=(k 1 (by simp[e])).1;omega)) s ?_ ?_ ?_ ?_ ?_ ?_ V
 . have u:(P'++ah (xs.ins x).os).Perm (P'++(x.1.RI++ah xs.os)):=(rX xs x).append_left P';rw[u.nodup_iff,U3];refine⟨B,?_,?_⟩;.rw[U3];exact⟨p,E,λa f b c=>j a (by simp[f]) b ZA⟩
   . intro a f b c;rcases Ui.1 c with c|c;.exactλe=>C b c a f e.symm
     .exact j a (by simp[f]) b ZA
 . intro b c;rw[l];refine k b ?_;rcases Ui.1 c with c|c;.simp[c]
   .have:=(rX xs x).mem_iff.1 c;rcases Ui.1 this with q|q<;>simp[q]
 . intro y d;rcases Uu.1 ((kQ xs x).mem_iff.1 d)with rfl|d;.exact v
   .exact h.fits y d
 .rw[J8];exact J5 h.up r
 . intro y d;rcases Uu.1 ((kQ xs x).mem_iff.1 d)with rfl|d;.exact vW o _ p
   .exact(h.held y d).off g.Tt λb c=>n b λe=>j _ (UB _ e) _ (VQ _ (vX d c)) rfl
 .rw[(rX xs x).length_eq,Ua,l];omega
def No{A:an}{xs:aF}(h:aX A D L G t P xs)(m:A.fine D L G)(k:Nat)(f:P'.length=pgs D (aw (xs.del k).os).length)(j:(P'++(P++ah xs.os)).Nodup)(i:∀b∈P'++(P++ah xs.os),2<=b/\b<A.nb):aX (A.cmt D L G (t+1) P' (aw (xs.del k).os)) D L G (t+1) P' (xs.del k):=by
 have d:=Kb xs k;obtain⟨n,o,p⟩:=U3.1 j;obtain⟨u,q,v⟩:=U3.1 o;refine rW m h.fill f ?_ ?_ (λx e=>h.fits x ((lN xs k).subset e)) ?_ (λx e=>h.held x ((lN xs k).subset e)) ?_ V;.rw[U3];exact⟨n,q.sublist d,λa l b c=>p a l b (VQ _ (d.subset c))⟩
 . intro b c;refine i b ?_;rcases Ui.1 c with c|c;.simp[c]
   .simp[d.subset c]
 .rw[J9];exact Ng h.up k
 .have:=d.length_le;have:=h.room;have g:=vY (D:=D) (rY xs k);rw[<-f,<-h.pl]at g;omega
theorem Iq(q s:Nat)(d:1<=q):max 1 ((s+q-1)/q)<=s/q+1:=by have c:(s+q-1)/q<=(s+q)/q:=Ym V;rw[Nat.add_div_right _ V]at c;generalize s/q=a at c⊢;generalize(s+q-1)/q=b at c⊢;omega
def sR(D:Nat)(xs:aF):Nat:=(xs.map λx=>x.2.length/(D*44)+1).sum
def Ir(c:1<=D):∀{xs:aF},(∀x∈xs,l8 D x)->(ah xs.os).length<=sR D xs
 |[],_=>by simp[sR,ah,aF.os]|x::xs,h=>by
  have ih:=Ir c (xs:=xs) (λy d=>h y (by simp[d]));have a:=h x ej;have b:=Iq (D*44) x.1.size V;rw[<-a.st]at b;have e:ah (aF.os (x::xs))=x.1.RI++ah (aF.os xs):=by unfold aF.os;rw[U5,Gs]
  rw[e,Ua];unfold sR at ih⊢;rw[U5,XC,a.len];omega
def jE(c:1<=D):∀{xs:aF},(∀x∈xs,l8 D x)->(aw xs.os).length<=xs.length*(19+4*(1500/(D*44)+1))
 |[],_=>by simp[aw,aF.os]|x::xs,h=>by
  have:=jE c (xs:=xs) (λy d=>h y (by simp[d]));have a:=h x ej;have b:=Iq (D*44) x.1.size V;rw[<-a.st]at b;have:x.1.size/(D*44)<=1500/(D*44):=Ym a.fit.size;have e:aw (aF.os (x::xs))=bV x.1++aw (aF.os xs):=by unfold aF.os aw;rw[U5,VJ]
  rw[e,Ua,dC a.fit,UC,Xt];omega
def Gt(b:1<=D)(o:D<=6){xs:aF}(h:∀x∈xs,l8 D x){n nb count pages:Nat}(j:n<=1500)(c:count=max 1 ((n+D*44-1)/(D*44)))(d:pages=pgs D ((aw xs.os).length+(19+4*count)))(e:nb<(ah xs.os).length+count+2*pages+2):nb<sR D xs+(n/(D*44)+1)+2*((xs.length+1)*200/(D*44)+1)+8:=by
 have f:=Ir b h;have g:=jE b h;have i:=Iq (D*44) n V;rw[<-c]at i;have k:n/(D*44)<=1500/(D*44):=Ym j;suffices hs:pages<=(xs.length+1)*200/(D*44)+4 by omega
 obtain⟨m,a⟩:=nM (xs.length);obtain⟨l,hl⟩:=nM ((aw xs.os).length);rw[a,hl]at g;rw[hl]at d;rw[a];clear f c a hl e h;subst d;unfold pgs;have:D=1\/D=2\/D=3\/D=4\/D=5\/D=6:=V;rcases this with rfl|rfl|rfl|rfl|rfl|rfl<;>omega
def Gu{A:an}{xs:aF}(h:aX A D L G t P xs){count pages l:Nat}(c:pages=pgs D ((aw xs.os).length+l))(d:(ah xs.os).length+count+2*pages+2<=A.nb):count+pages<=(bf (tk A.nb (P++ah xs.os)).1 A.nb).length:=by have a:=mP h.nod h.SZ;have b:=vY (D:=D) (V:(aw xs.os).length<=(aw xs.os).length+l);rw[<-c,<-h.pl]at b;rw[Ua]at a;omega
def Gv{A:an}{xs:aF}(h:aX A D L G t P xs)(k:Nat):pgs D (aw (xs.del k).os).length<=(bf (tk A.nb (P++ah xs.os)).1 A.nb).length:=by have a:=mP h.nod h.SZ;have b:=vY (D:=D) (rY xs k);rw[<-h.pl]at b;rw[Ua]at a;have:=h.room;omega
theorem nZ(n m:Nat)(h:n<=1000000)(f:1<=m/\m<=1000000)(w:ZS):ZQ ZM 99 #[I O n,I O m] w λe w'=>e=Z3 (I O ((max 1 ((n+m-1)/m):Nat):Int))/\w'=w:=by
 have a:=vk n m V f w;obtain⟨q,b⟩:=nM ((n+m-1)/m);rw[b]at a;rw[b];have g:∀(d:ZO)(w:ZS),(Builtin.max_ #[3,3] d #[I O 1,I O (q:Int)]).run ZM w=.ok (I O ((max 1 q:Nat):Int)) w:=λd w=>by rw[mx];congr 2;split<;>omega
 clear b;go_enter func99,ntmps99;go_wp2_with fail;refine a.mono ?_;rintro e w'⟨rfl,c⟩;obtain rfl:w=w':=c.symm;clear a c;go_wp2;go_ret;exact⟨rfl,rfl⟩
section
attribute [local go_sem] Oper.semAt_some
def Np(v:ZR)(w:ZS):(Instr.typeAssert (.iface 217 v) 219 217 ZU).run ZM w=.ok (ZY #[v,Z1 ZU]) w:=by simp[Instr.typeAssert,UP underlying217]
def Kc:(ZM.info? 217).map (·.size)=ZV 44:=ee
def Eb(w:ZS)(z:Array ZR)(c:z.size=44)(l:a7)(hl:l.length=44):(Instr.storeAt 217 (Z6 (ZV ⟨w.heap.size,0,J⟩)) (.agg (aL l).toArray)).run ZM (w.alloc (Z4 z 217))=.ok () (w.alloc (Z4 (aL l).toArray 217)):=by
 have a:(aL l).toArray.size=44:=by rw[UK,aY,hl]
 have:=run_storeVar_new (P:=ZM) w 217 z (aL l).toArray (by rw[a];exact Kc) (by rw[a,c]) (by rw[List.all_toArray,XU];intro u b;obtain⟨x,_,rfl⟩:=T9.1 b;rfl);simp only[Instr.storeAt,Instr.sureAddr,UH,VN,UV,this]
def BE{F:Fence}(d:o.guard=J)(x y:Operand)(ho:o.op=.store 217 x y){z:Array ZR}{l:a7}(e:a.eval x=Z6 (ZV ⟨w.heap.size,0,J⟩))(f:a.eval y=.agg (aL l).toArray)(g:z.size=44)(hl:l.length=44)(h:wpListIn F n ZM ops Q rest (a.put o.dst U) (w.alloc (Z4 (aL l).toArray 217))):wpListIn F n ZM ops Q (o::rest) a (w.alloc (Z4 z 217)):=by refine Yg d λK b=>?_;unfold Oper.wpIn;refine⟨ZC,?_⟩;rw[Wg F _ _ (by rw[ho];intro c h;cases h)];simp[execOp,ho,e,f,Eb w z g l hl,Result.andThen];exact b _ _ h
def Ec(X:ZS)(a:Addr):(Instr.storeAt 246 (Z6 (ZV a)) (.agg #[])).run ZM X=.ok () X:=ee
def BF{F:Fence}(d:o.guard=J)(x y:Operand)(ho:o.op=.store 246 x y){ad:Addr}(e:a.eval x=Z6 (ZV ad))(f:a.eval y=.agg #[])(h:wpListIn F n ZM ops Q rest (a.put o.dst U) w):wpListIn F n ZM ops Q (o::rest) a w:=by refine Yg d λK b=>?_;unfold Oper.wpIn;refine⟨ZC,?_⟩;rw[Wg F _ _ (by rw[ho];intro c h;cases h)];simp[execOp,ho,e,f,Ec,Result.andThen];exact b _ _ h
def Nq{Z:ZS}{R:ZP->ZS->Prop}(c:fn.results=#[])(b:a.defers=[{target:=.collected D',args:=#[]}])(hK:Z.heap[D']?=ZV (.deferred (ZV [])))(hR:R (Z3 (ZY #[])) (Z.putObj D' (.deferred J))):bodyPostM Fence.wide n ZM fn R .normal a Z:=by obtain⟨e,d⟩:=a;simp only at b;subst b;refine⟨ej,.inl ⟨_,_,rfl,Wo hK,?_⟩⟩;refine⟨ZY #[],?_,hR⟩;simp[results,c]
def Kn(w:ZS)(base:Nat)(f0 f:Nat->ZR)(R:Nat->a7)(ds:a7):Prop:=(∀i,i∉ds->f i=f0 i)/\∀i,i∈ds->∃bl,f i=Z5 (ZV ⟨bl,0,J⟩) 44 44/\base<=bl/\bl<w.heap.size/\w.heap[bl]?=ZV (Z4 (aL (R i)).toArray 217 (0,0))
def Kn.keep{f:Nat->ZR}(h:Kn w base f0 f R ds)(d:w.heap.size<=w'.heap.size)(c:∀k o,base<=k->w.heap[k]?=ZV o->o.isCells=ZU->w'.heap[k]?=ZV o):Kn w' base f0 f R ds:=by refine⟨h.1,λi b=>?_⟩;obtain⟨bl,e,a,g,j⟩:=h.2 i b;exact⟨bl,e,a,TY g d,c bl _ a j rfl⟩
def Kn.nil(w:ZS)(base:Nat)(f0:Nat->ZR)(R:Nat->a7):Kn w base f0 f0 R []:=⟨λ_ _=>rfl,λ_ h=>Bf⟩
def Aa(S x:Nat):Nat:=S&&&(18446744073709551615-x)
def Is(S x:Nat)(a:S<65536)(b:x<65536):bits .andNot .u64 (S:Int) (x:Int)=(Aa S x:Int):=X2 S x V V
def Gw{S:Nat}(x:Nat)(a:S<65536):Aa S x<65536:=WV WC a
theorem tW{S:Nat}(d:x<65536):i∈ae (Aa S x)↔i∈ae S/\x.testBit i=ZT:=by
 rw[bL,bL];unfold Aa;have e:(18446744073709551615-x).testBit i=(decide (i<64)&&!x.testBit i):=by have:=Xx (x:=x) (n:=64) V i;rwa[(V:2^64-(x+1)=18446744073709551615-x)]at this
 rw[XA,e];constructor;.rintro⟨b,a⟩;simp at a;exact⟨⟨b,a.1⟩,a.2.2⟩
 .rintro⟨⟨b,a⟩,c⟩;refine⟨b,?_⟩;simp[a,c];omega
def yB:Nat->ZR:=λ_=>Z5 J 0 0
def Cg(ds l:a7):a7:=l.filter λi=>decide (i∉ds)
def aa0(h:i∈ds):Cg ds (l++[i])=Cg ds l:=by unfold Cg;rw[Wv];simp[h]
def pW(h:i∉ds):Cg ds (l++[i])=Cg ds l++[i]:=by unfold Cg;rw[Wv];simp[h]
def It:i∈Cg ds l↔i∈l/\i∉ds:=by unfold Cg;rw[Vr];simp
def Ed:∃z,∀w:ZS,(Instr.typeAssert .nilIface 219 217 ZU).run ZM w=.ok (ZY #[z,Z1 ZT]) w:=by exact⟨.agg (YF 44 (I .u8 0)).toArray,λw=>ee⟩
def Ee:∃z,∀w:ZS,(Instr.typeAssert .nilIface 219 246 ZU).run ZM w=.ok (ZY #[z,Z1 ZT]) w:=by exact⟨.agg #[],λw=>ee⟩
def Ef(A:an)(b:Nat)(ds:a7):a7:=ds.filter λi=>!gnB A b i
def aa1{A:an}(ds:a7){d:Nat}(h:gnB A b d=ZU):Ef A b (ds++[d])=Ef A b ds:=by unfold Ef;rw[Wv];simp[h]
def Iu{A:an}(ds:a7){d:Nat}(h:gnB A b d=ZT):Ef A b (ds++[d])=Ef A b ds++[d]:=by unfold Ef;rw[Wv];simp[h]
def nB{A:an}{d:Nat}:d∈Ef A b ds↔d∈ds/\gnB A b d=ZT:=by unfold Ef;rw[Vr];simp
def Ke:∃z,∀w:ZS,(Instr.typeAssert (ef .blank) 219 217 ZU).run ZM w=.ok (ZY #[z,Z1 ZT]) w:=by exact⟨.agg (YF 44 (I .u8 0)).toArray,λw=>ee⟩
def Kf(w:ZS):(Instr.typeAssert (ef .blank) 219 246 ZU).run ZM w=.ok (ZY #[.agg #[],Z1 ZU]) w:=ee
def VrK(p d b:Nat)(A:an)(F:aC)(w:ZS)(Y:ZR)(w':ZS):Prop:=ay w' p A F/\aa F.S w w'/\(ZQ ZM 81 #[Y,.iface 58 (I O 11)] w' λe w''=>e=Z3 (Z1 (A.lost d))/\w''=w')/\(A.RR d b≠J->Y=.nilIface)
def Kg{v:Nat}{A:an}(j:bz w v p D L G ps ho)(h:ay w p A F)(d b:Nat)(l:d<A.n)(k:b<A.nb)(o:cJ w)(m:¬F.S 2):ZQ ZM 146 #[Z6 (ZV ⟨v,0,J⟩),I O d,I O b] w λe w'=>∃Y,e=Z3 (ZY #[gy (A.RR d b),Y])/\VrK p d b A F w Y w':=by
 refine(sL j h d b l k o m).mono ?_;rintro e w'⟨c,f,⟨r,a,rfl⟩|⟨a,q,rfl,s,i⟩⟩;.refine⟨.nilIface,T2,c,f,?_⟩;have hl:A.lost d=ZT:=(by cases h:A.lost d;rfl;unfold an.RR at a;rw[TT h]at a;cases a);rw[hl];exact⟨AX 11 w',λ_=>rfl⟩
 .refine⟨jQ q,T2,c,f,?_⟩;have g:=pF i 11;cases hl:A.lost d<;>(rw[hl]at g;exact⟨g,λq=>absurd a q⟩)
structure FgI(w:ZS)(r v b g N p D L G ps ho gone sp B0:Nat)(ds:a7)(A:an)(F:aC)(M:Nat->a7)(B S:Nat)(pre:List (Mb S))(X:ZS):Prop where
 b2:ZN X w.heap.size 155 (Z6 (ZV ⟨r,0,J⟩))rd:eQ X r v b g N (gone|||jZ (gnB A b) (Cg ds (dF pre))) sp
 vol:∃h,h<2^N/\bz X v p D L G ps h
 row:∃f,X.rowIs g 36 N f/\Kn X B0 yB f M (ds++Ef A b (Cg ds (dF pre)))arr:ay X p A F
 out:aa (λk=>k=g\/k=r\/k=v\/F.S k) w X
 size:B<=X.heap.size
def FgI.own{r v:Nat}{A:an}{S:Nat}(Z:w.heap.size+1<=B)(K:g<w.heap.size)(O':r<w.heap.size)(P:v<w.heap.size)(u:∀k,F.S k->k<w.heap.size):OwnFrom B (FgI w r v b g N p D L G ps ho gone sp B0 ds A F M B S):=by rintro pre X Y row⟨l,m,⟨j,E,W⟩,⟨f,n,x⟩,q,s,t⟩a i;have c:∀k,k<w.heap.size+1->Y.heap[k]?=X.heap[k]?:=λk c=>a.block k V (λe=>ia ((i k e.symm).1));refine⟨(c _ V).trans l,m.keep (c _ V),⟨j,E,W.keep (c _ V)⟩,⟨f,n.of_block (c _ V),x.keep a.size λk o _ ho y=>?_⟩,q.keep λk z=>c k (ia (u k z)),s.later (T:=λk=>w.heap.size<=k) ⟨a.os,a.tape,a.output,a.size,λk C H=>c k V⟩ (λk C H=>V),TU t a.size⟩;refine(a.block k (TX.1 ho).1 (λe=>?_)).trans ho;obtain⟨_,Q,h,d⟩:=i k e.symm;rw[ho]at h;cases h;rw[y]at d;cases d
structure aa2(w:ZS)(r v b g N p D L G ps ho gone sp B0:Nat)(ds:a7)(A:an)(F:aC)(M:Nat->a7)(nw:a7)(e:ZP)(w':ZS):Prop where
 ret:e=Z3 (ZY #[])rd:eQ w' r v b g N (gone|||jZ (gnB A b) nw) sp
 vol:∃h,h<2^N/\bz w' v p D L G ps h
 row:∃f,w'.rowIs g 36 N f/\Kn w' B0 yB f M (ds++Ef A b nw)arr:ay w' p A F
 out:aa (λk=>k=g\/k=r\/k=v\/F.S k) w w'
theorem Kh{r v:Nat}{A:an}(u:qP w v p D L G ps ho A F)(hb:b<A.nb)(hM:∀i,i<A.n->A.rc i b=.shard (M i)/\(M i).length=44)(hr:eQ w r v b g N gone sp)(kh:w.rowIs g 36 N f0)(x8:Kn w B0 yB f0 M ds)(T:Nat)(hT:T<65536)(x5:gone<65536)(y1:sp<65536)(y7:∀i,i∈ae T->i<N/\i<A.n)(ye:ho<2^N)(qz:N<=16)(qa:v≠r)(z0:3<=r)(z5:3<=v)(x3:¬F.S g)(ks:¬F.S r)(x6:r≠g)(xp:v≠g)(yx:3<=g)(qv:B0<=w.heap.size)(yv:g<B0)(yz:r<B0)(z4:v<B0)(qh:∀k,F.S k->k<B0):ZQ ZM 120 #[Z6 (ZV ⟨r,0,J⟩),I Z8 T] w (aa2 w r v b g N p D L G ps ho gone sp B0 ds A F M (Cg ds (ae (Aa (Aa T gone) sp)))):=by
 obtain⟨S1,q0⟩:=nM (Aa T gone);obtain⟨S,qi⟩:=nM (Aa S1 sp);have qm:=Is T gone hT x5;have qn:=Is S1 sp (by rw[<-q0];exact Gw _ hT) y1;have hS:S<65536:=by rw[<-qi,<-q0];exact Gw _ (Gw _ hT)
 rw[q0]at qm⊢;rw[qi]at qn⊢;have y6:∀i,i∈ae S->i∈ae T:=λi a=>by rw[<-qi]at a;have:=((tW y1).1 a).1;rw[<-q0]at this;exact((tW x5).1 this).1
 clear q0 qi;obtain⟨n,HN⟩:∃n:Nat,cL (9<=n):=⟨9,TV _⟩;have kx:∀k,F.S k->k<w.heap.size:=λk m=>TY (qh k m) qv;have yd:=kh.lt;have yk:=hr.lt;have yn:=u.vol.lt;refine(Vo (n:=n)).1 ?_;refine WO func120 rfl trivial ?_ rfl;simp only[ntmps120,UK,UC,U0,Nat.reduceAdd,Nat.reduceSub,Vf,Vg,Vh,Vi,Ut,U1];gi_wp2;obtain⟨w1,qb⟩:=nM (w.alloc (Z4 #[Z6 (ZV ⟨r,0,J⟩)] 155));have h2:ZN w1 w.heap.size 155 (Z6 (ZV ⟨r,0,J⟩)):=by rw[<-qb];exact Us w _ _
 have xf:w1.heap.size=w.heap.size+1:=by rw[<-qb];simp
 have qj:bW w w1:=by rw[<-qb];exact bA w _
 rw[qb];clear qb;have q9:=hr.keep (qj.block _ hr.lt);have c3:=q9.cells.2.2.2.1;have c4:=q9.cells.2.2.2.2;refine bM iD 99 [(0,ZU),(1,ZU),(2,ZU),(3,ZU),(4,ZU),(5,ZU),(6,ZU),(7,ZU),(8,ZU),(9,ZU),(10,ZU),(11,ZT)] (λw'=>w'.cell? ⟨w.heap.size,0,J⟩=ZV (Z6 (ZV ⟨r,0,J⟩))/\w'.cell? ⟨r,3,J⟩=ZV (I Z8 gone)/\w'.cell? ⟨r,4,J⟩=ZV (I Z8 sp)) ee ee ⟨h2.cell,c3,c4⟩ ?_;iterate 11 refine bE ?_
 refine fU iD (eo S w1.drew) rfl rfl nofun oB ?_;rintro e W⟨rfl,qc⟩;have he:bW w1 W:=by rw[qc];exact(TW _ w1).drew.alloc lR _
 have c5:=(q9.keep (he.block _ q9.lt)).cells.2.2.2;refine⟨_,rfl,λ_=>⟨We ((he.block _ h2.lt).trans h2),c5.1,c5.2⟩,bI ?_⟩;clear qm qn c3 c4 c5 he;have xh:W.heap.size=w1.heap.size+1:=by rw[qc];simp
 have xn:W.cell? ⟨w1.heap.size,0,J⟩=ZV (I Z8 (S:Int)):=by rw[qc];exact(Us w1.drew 123 (I Z8 (S:Int))).cell
 have he:bW w1 W:=by rw[qc];exact(TW _ w1).drew.alloc lR _
 have k5:bW w W:=qj.trans (he.mono qj.size);have xy:Cg ds (dF ([]:List (Mb S)))=[]:=rfl;have xq:FgI w r v b g N p D L G ps ho gone sp B0 ds A F M (w1.heap.size+1) S [] W:=⟨(he.block _ h2.lt).trans h2,by rw[xy,show jZ (gnB A b) []=0 from rfl,Nat.or_zero];exact hr.keep (k5.block _ hr.lt),⟨ho,ye,u.vol.keep (k5.block _ u.vol.lt)⟩,⟨f0,kh.of_block (k5.block _ kh.lt),by rw[xy,show Ef A b []=[]from rfl,Wj];exact x8.keep k5.size λk o _ ho _=>(k5.block k (TX.1 ho).1).trans ho⟩,u.arr.below k5 lR,aa.RK k5 _,V⟩;have y3:=ak xn;have qq:=al xq k5;have HZ:=al xf xh;clear xn xq h2 qj k5 he q9 qc xf;rename_i hK;refine hK _ _ ?_;clear hK;simp only[Act.put,TZ,T5,T6];gi_wp2;obtain⟨xf,yq,xh⟩:w.heap.size+1<=w1.heap.size/\w1.heap.size<=w.heap.size+1/\W.heap.size=w1.heap.size+1:=ia HZ.o;rw[<-xh]at qq;refine WQ rfl (ia HN.o) (gf:=154) (lb:=#[Z6 (ZV ⟨w1.heap.size,0,J⟩)]) rfl trivial (U9 func154 ee rfl) (Fv (n-1) w1.heap.size S hS W V y3.out (ia u.room) (u.tab.mono (by exact u.tab.lt) qq.out.2)) (λh k=>yV h k) (yW (ia u.room)) (TW _ _) (λ_=>rfl) (FgI w r v b g N p D L G ps ho gone sp B0 ds A F M W.heap.size S) (λ_ _ _=>False) (FgI.own V yd yk yn kx) (λ_ _ _ _ _ h _ _=>h.elim) qq.out.1 (λx=>{tmps:=#[Z6 (ZV ⟨r,0,J⟩),I Z8 (T:Int),Z6 (ZV ⟨w.heap.size,0,J⟩),U,I O (x.1:Int),U,U,U,U,I Z8 (T:Int),Z6 (ZV ⟨r,0,J⟩),Z6 (ZV ⟨r,0,J⟩),Z6 (ZV ⟨r,3,J⟩),I Z8 (gone:Int),I Z8 (S1:Int),Z6 (ZV ⟨r,0,J⟩),Z6 (ZV ⟨r,0,J⟩),Z6 (ZV ⟨r,4,J⟩),I Z8 (sp:Int),I Z8 (S:Int),.func (.func 154) #[] #[Z6 (ZV ⟨w1.heap.size,0,J⟩)],I O (x.1:Int),U,U,U,U,U,U,U,U,U,U,U,U,U,U,U,U,U,U,U,U,U,U,U,U,U,U,U,U,U,U,U,U,U,U,U,U,U,U,U,U,U,U,U,U,U,U,U,U,U,U,U,U,U,U,U,U,U,U,U,U,U,U,U,U,U,U,U,U,U,U,U,U,U,U,U,U,U,U],defers:=[]}) ?assign ?body ?done ?stop;case assign=>intro l2 x X Kk hK;unfold ph;gi_wp2;exact hK
 case body=>
  rintro l2 pre x X a x9;clear x9;have yo:x.1∈ae S:=bL.2 x.2;obtain⟨qp,y2⟩:=y7 _ (y6 _ yo);have qs:=a.b2.lt;have c2:=a.b2.cell;obtain⟨c0,c1,cs,c3,c4⟩:=a.rd.cells;obtain⟨f,B,C⟩:=a.row;have cg:=B.cell (i:=x.1) qp;have xz:¬F.S w.heap.size:=λq=>ia (kx _ q);have U':=a.arr;have yi:∀d∈Cg ds (dF pre),d<16:=λd hd=>by replace hd:=(It.1 hd).1;unfold dF at hd;obtain⟨y,_,rfl⟩:=T9.1 hd;exact y.2.1
  have xx:=A4 (gnB A b) _ yi;obtain⟨gn,x4⟩:=nM (jZ (gnB A b) (Cg ds (dF pre)));have E:=a.rd;obtain⟨hl,q7,H⟩:=a.vol;have yf:hl<65536:=TY q7 (UY (n:=2) ec qz);rw[x4]at xx E;by_cases hy:x.1∈ds++Ef A b (Cg ds (dF pre))
  . obtain⟨bl,y8,y9,ya,yb⟩:=C.2 _ hy;rw[y8]at cg;have HI:=ak a;have HK:=ak C;have HR:=ak B;clear a C B U' E H;gi_wp2;rename_i ky;refine ky _ _ ?_;clear ky;simp only[Act.put,TZ,T5,T6,Bool.not_false];gi_wp2;have a:=HI.o;refine⟨⟨TV _,λk o _ ho _=>ho⟩,λ_=>u.tab.keep (a.out.block _ u.tab.lt (λq=>by rcases q with q|q|q|q;omega;omega;omega;exact u.t q)),?_⟩;by_cases kb:x.1∈ds
    . refine⟨a.b2,?_,a.vol,⟨f,HR.o,?_⟩,a.arr,a.out,a.size⟩<;>rw[fR,aa0 kb];.exact a.rd
      .exact HK.o
    . have k8:=(nB.1 ((Ui.1 hy).resolve_left kb)).2;refine⟨a.b2,?_,a.vol,⟨f,HR.o,?_⟩,a.arr,a.out,a.size⟩<;>rw[fR,pW kb];.rw[A2 _ k8];exact a.rd
      . rw[Iu _ k8,<-UA];refine⟨λi k9=>HK.o.1 i (λq=>k9 (UB _ q)),λi k9=>HK.o.2 i ?_⟩;rcases Ui.1 k9 with q|q;.exact q
        .rw[Va.1 q];exact hy
  . have yc:f x.1=Z5 J 0 0:=C.1 _ hy;rw[yc]at cg;have kb:x.1∉ds:=λq=>hy (UB _ q);have Z:cJ X:=u.laid.keep (a.out.block _ u.laid.lt (λq=>by rcases q with q|q|q|q;omega;omega;omega;exact u.g q));have HI:=hide7 a C B U' E H Z;clear a C B U' E H Z;gi_wp2;rename_i ky;refine ky _ _ ?_;clear ky;simp only[Act.put,TZ,T5,T6];gi_wp2;obtain⟨a,C,B,U',E,H,Z⟩:=HI.o;have yy:gone|||gn<65536:=V5 (n:=16) x5 xx;have qk:bW X X.drew:=(TW _ X).drew;have xd:∀w',aa F.S X w'->w'.cell? ⟨w.heap.size,0,J⟩=ZV (Z6 (ZV ⟨r,0,J⟩))/\w'.cell? ⟨r,0,J⟩=ZV (Z6 (ZV ⟨v,0,J⟩))/\w'.cell? ⟨r,1,J⟩=ZV (I O b):=λw' hO=>⟨We ((hO.block _ qs xz).trans a.b2),(a.rd.keep (hO.block _ a.rd.lt ks)).cells.1,(a.rd.keep (hO.block _ a.rd.lt ks)).cells.2.1⟩;refine bM (dK _) 99 [(0,ZU),(1,ZU),(2,ZU),(3,ZU),(4,ZU),(5,ZU),(6,ZU),(7,ZU),(8,ZU),(9,ZT),(10,ZU),(11,ZU),(12,ZU),(13,ZU),(14,ZU)] (λw'=>w'.cell? ⟨w.heap.size,0,J⟩=ZV (Z6 (ZV ⟨r,0,J⟩))/\w'.cell? ⟨r,0,J⟩=ZV (Z6 (ZV ⟨v,0,J⟩))/\w'.cell? ⟨r,1,J⟩=ZV (I O b)) ee ee (xd _ (aa.drew X)) ?_;iterate 9 refine bE ?_
    refine fU (dK _) (Kg (H.keep (qk.block _ H.lt)) (U'.below qk lR) x.1 b y2 hb (Z.below qk Z.lt) u.g) rfl rfl nofun oB ?_;rintro e w2⟨Y,rfl,xj,kc,qx,q5⟩;refine⟨_,rfl,λ_=>xd _ ((aa.drew X).trans kc),?_⟩;simp only[Act.put,TZ,T5,T6];iterate 5 refine bE ?_
    refine bI ?_;have O':aa (F.S) X w2:=(aa.drew X).trans kc;have qo:∀k,B0<=k->k<X.heap.size->w2.heap[k]?=X.heap[k]?:=λk m V'=>O'.block k V' (λq=>ia (qh k q));have qe:=ak xj;have qf:=al O' qo;clear a C B U' E H Z xj O' kc qo c0 c1 cs c3 c4 cg c2 qk xd;rename_i hK;refine hK _ _ ?_;clear hK;have q6:∀w5,gnB A b x.1=ZU->eQ w5 r v b g N (gone|||gn|||2^x.1) sp->(∃h,h<2^N/\bz w5 v p D L G ps h)->aa (λk=>k=r\/k=v) w2 w5->(X.heap.size<=w5.heap.size/\∀k,w.heap.size<=k->k<X.heap.size->w5.heap[k]?=X.heap[k]?)/\aI w5/\FgI w r v b g N p D L G ps ho gone sp B0 ds A F M W.heap.size S (pre++[x]) w5:=λw5 xo xc ym kz=>by
     obtain⟨a,C,B,_⟩:=HI.o;have yg:∀k,F.S k->¬(k=r\/k=v):=λk m e=>by rcases e with e|e;exact ks (by rw[<-e];exact m);exact u.v (by rw[<-e];exact m)
     have y4:=qe.out.keep λk m=>kz.block k (qe.out.RL m) (yg k m);have ke:aa (λk=>k=r\/k=v\/F.S k) X w5:=(qf.out.1.mono λ_ _ q=>.inr (.inr q)).trans (kz.mono λ_ _ q=>q.elim .inl λq=>.inr (.inl q));have xk:aa (λk=>k=g\/k=r\/k=v\/F.S k) w w5:=a.out.trans (ke.mono λ_ _ q=>.inr q);have xm:∀k,w.heap.size<=k->k<X.heap.size->w5.heap[k]?=X.heap[k]?:=λk m V'=>ke.block k V' (λq=>by rcases q with q|q|q;omega;omega;have:=kx k q;omega);refine⟨⟨ke.size,xm⟩,u.tab.keep (xk.block _ u.tab.lt (λq=>by rcases q with q|q|q|q;omega;omega;omega;exact u.t q)),?_⟩;have V':∀k,B0<=k->k<X.heap.size->w5.heap[k]?=X.heap[k]?:=λk m V'=>ke.block k V' (λq=>by rcases q with q|q|q;omega;omega;have:=qh k q;omega);exact⟨(xm _ lR qs).trans a.b2,by rw[fR,pW kb,A3 _ xo,x4,<-Nat.or_assoc];exact xc,ym,⟨f,B.of_block (ke.block _ B.lt (λq=>by rcases q with q|q|q;exact x6 q.symm;exact xp q.symm;exact x3 q)),by rw[fR,pW kb,aa1 _ xo];exact C.keep ke.size λk o m ho _=>(V' k m (TX.1 ho).1).trans ho⟩,y4,xk,TU a.size ke.size⟩
    have HF:=ak q6;clear q6;obtain⟨qy,kf⟩:=hM _ y2;cases k8:gnB A b x.1 with|false=>
     rw[Ia k8,qy];obtain⟨l,y0⟩:=nM (M x.1);rw[y0]at kf⊢;clear qy qx HF q5;have z3:=Np;simp only[gy,ef];gi_wp2_with(show wpListIn _ _ _ _ _ ({dst:=J,op:=Op.store 217 (Z0 7) (Z0 46),type:=_,pos:=_,after:=_,guard:=_}::_) _ _;refine BE (w:=w2) (l:=l) rfl (Z0 7) (Z0 46) rfl um um um kf ?_);obtain⟨O',qo⟩:=qf.out;obtain⟨a,C,B,U',E,H,Z⟩:=HI.o;have ys:X.heap.size<=w2.heap.size:=O'.size;have hs:bW w2 (w2.alloc (Z4 (aL (l)).toArray 217)):=bA w2 _;have xa:(w2.alloc (Z4 (aL (l)).toArray 217)).heap[w2.heap.size]?=ZV (Z4 (aL (l)).toArray 217 (0,0)):=Ug _ _;have yr:(w2.alloc (Z4 (aL (l)).toArray 217)).heap.size=w2.heap.size+1:=ej;obtain⟨c,k7⟩:=nM (w2.alloc (Z4 (aL (l)).toArray 217));rw[k7]at hs xa yr⊢;have ko:∀k,k<X.heap.size->¬F.S k->c.heap[k]?=X.heap[k]?:=λk m yh=>(hs.block k V).trans (O'.block k m yh);have x2:∀k,B0<=k->k<X.heap.size->c.heap[k]?=X.heap[k]?:=λk m V'=>ko k V' (λq=>ia (qh k q));have hf:c.rowIs g 36 N f:=B.of_block (ko g B.lt x3);have h7:c.cell? ⟨w.heap.size,0,J⟩=ZV (Z6 (ZV ⟨r,0,J⟩)):=We ((x2 _ qv V).trans a.b2);have hz:=(E.keep (ko r E.lt ks)).cells.2.2.1;have qr:=hf.cell (i:=x.1) qp;have z8:=hf.frozen x.1;refine bM (dK _) 99 [(0,ZU),(1,ZU),(2,ZU),(3,ZU),(4,ZU),(5,ZU),(6,ZU),(7,ZU),(8,ZT)] (λw'=>w'.cell? ⟨w.heap.size,0,J⟩=ZV (Z6 (ZV ⟨r,0,J⟩))/\w'.cell? ⟨r,2,J⟩=ZV (Z5 (ZV ⟨g,0,J⟩) N N)) ee ee ⟨h7,hz⟩ ?_;iterate 8 refine bE ?_
     refine eC (dK _) (w1:=c.drew.setCell ⟨g,x.1,J⟩ (Z5 (ZV ⟨w2.heap.size,0,J⟩) 44 44)) rfl rfl nofun oB (λ_=>⟨(Uk (Uc _ _ _ _ (by show w.heap.size≠g;omega))).trans h7,(Uk (Uc _ _ _ _ x6)).trans hz⟩) (bI ?_);obtain⟨s,P⟩:∃s,s=c.drew.setCell ⟨g,x.1,J⟩ (Z5 (ZV ⟨w2.heap.size,0,J⟩) 44 44):=⟨_,rfl⟩;rw[<-P];clear h7 hz qr z8;have hj:∀k,k≠g->s.heap[k]?=c.heap[k]?:=λk m=>by rw[P];exact Uc _ _ _ _ m
     have z6:s.heap.size=c.heap.size:=(by rw[P];simp[World.setCell]);have hg:=hf.set x.1 (Z5 (ZV ⟨w2.heap.size,0,J⟩) 44 44);have k0:s.rowIs g 36 N (λi=>if i=x.1 then Z5 (ZV ⟨w2.heap.size,0,J⟩) 44 44 else f i):=(by rw[P];exact hg);have kp:∀k,B0<=k->k<X.heap.size->s.heap[k]?=X.heap[k]?:=λk m V'=>(hj k V).trans (x2 k m V');have z:aa (λk=>k=g\/k=r\/k=v\/F.S k) w s:=by have h3:aa (λk=>k=g\/k=r\/k=v\/F.S k) w c:=(a.out.trans (O'.mono λ_ _ q=>.inr (.inr (.inr q)))).trans (aa.RK hs _);rw[P];exact(h3.trans (aa.drew c)).trans (aa.setCell _ _ _ (.inl rfl))
     have qg:=qe.out.keep λk m=>by have:=kx k m;exact(hj k (λe=>x3 (by rw[<-e];exact m))).trans (hs.block k V)
     have k6:Kn s B0 yB (λi=>if i=x.1 then Z5 (ZV ⟨w2.heap.size,0,J⟩) 44 44 else f i) M (ds++Ef A b (Cg ds (dF pre))++[x.1]):=by
      have xv:=C.keep (w':=s) V λk o m ho _=>(kp k m (TX.1 ho).1).trans ho;refine⟨λi k9=>?_,λi k9=>?_⟩;.have h1:i≠x.1:=λe=>k9 (by rw[e];simp);show(if i=x.1 then _ else f i)=_;rw[TS h1];exact xv.1 i (λq=>k9 (UB _ q))
      . show∃bl,(if i=x.1 then _ else f i)=_/\_;by_cases e:i=x.1;.rw[TT e,e,y0];exact⟨w2.heap.size,rfl,V,V,(hj _ V).trans xa⟩
        . rw[TS e];rcases Ui.1 k9 with q|q;.exact xv.2 i q
          .exact absurd (Va.1 q) e
     have H4:=a5 k0 kp z qg k6;have xb:=ak (E.keep ((hj r x6).trans (ko r E.lt ks)));have xe:=ak (H.keep ((hj v xp).trans (ko v H.lt u.v)));have xg:X.heap.size<=s.heap.size:=V;clear hg k0 kp z qg k6 hj P hf ko x2 hs xa a C B U' E H Z O' qo k7 qf qe;rename_i hK;refine hK _ _ ?_;clear hK;simp only[Act.put,TZ,T5,T6];gi_wp2;obtain⟨hg,kp,z,qg,k6⟩:=H4.o;have a:=HI.o.1;have z7:=a.size;refine⟨⟨xg,λk o m ho _=>(kp k V (TX.1 ho).1).trans ho⟩,λ_=>u.tab.keep (z.block _ u.tab.lt (λq=>by rcases q with q|q|q|q;omega;omega;omega;exact u.t q)),?_⟩;exact⟨(kp _ qv V).trans a.b2,by rw[fR,pW kb,A2 _ k8,x4];exact xb.out,⟨_,q7,xe.out⟩,⟨_,hg,by rw[fR,pW kb,Iu _ k8,<-UA];exact k6⟩,qg,z,V⟩|true=>
     have HS:=ak qx;have Q:cL (eQ w2 r v b g N (gone|||gn) sp/\bz w2 v p D L G ps hl/\ZN w2 w.heap.size 155 (Z6 (ZV ⟨r,0,J⟩))):=by have O':=qf.out.1;obtain⟨a,C,B,U',E,H,Z⟩:=HI.o;exact ak ⟨E.keep (O'.block _ E.lt ks),H.keep (O'.block _ H.lt u.v),(O'.block _ qs xz).trans a.b2⟩
     clear qx qy kf;rcases AY k8 with⟨kg,ka⟩|⟨kg,ka⟩|⟨kg,ka⟩<;>(
      rw[ka];rw[kg]at HS;(first
       | (have q:A.lost x.1=ZU:=kg;clear q ka kg q5;obtain⟨z1,kk⟩:=Ed;obtain⟨z2,km⟩:=Ee;simp only[gy];gi_wp2;refine dJ HS.o ?_;rintro e c⟨rfl,k7⟩;subst k7;gi_wp2;obtain⟨I',J',K⟩:=Q.o;have cb:=K.cell;have R:=I'.cells.1;have c5:=J'.cells.2.2.2.2.2;have f5:c.frozen? ⟨v,5,J⟩=ZT:=by have h':c.heap[v]?=_:=J';simp[World.frozen?,h']
          refine bM (dK _) 99 [(0,ZU),(1,ZU),(2,ZU),(3,ZU),(4,ZU),(5,ZU),(6,ZU),(7,ZU),(8,ZU),(9,ZU),(11,ZU),(10,ZT),(12,ZT),(13,ZU),(14,ZU),(15,ZT)] (λw'=>w'.cell? ⟨w.heap.size,0,J⟩=ZV (Z6 (ZV ⟨r,0,J⟩))/\w'.cell? ⟨r,0,J⟩=ZV (Z6 (ZV ⟨v,0,J⟩))) ee ee ⟨cb,R⟩ ?_;iterate 11 refine bE ?_
          refine m8 (dK _) (w1:=c.drew) (v:=I Z8 (hl:Int)) rfl rfl nofun oB (λ_=>⟨cb,R⟩) ?_;simp only[Act.put,TZ,T5,T6];refine fU (dK _) (fE hl x.1 V V c.drew) rfl rfl nofun oB ?_;rintro e w5⟨rfl,rfl⟩;refine⟨_,rfl,λ_=>⟨cb,R⟩,?_⟩;simp only[Act.put,TZ,T5,T6];iterate 2 refine bE ?_
          refine eC (dK _) (w1:=c.drew.setCell ⟨v,5,J⟩ (I Z8 ((hl|||2^x.1:Nat):Int))) rfl rfl nofun oB (λ_=>⟨(Uk (Uc _ _ _ _ (by show w.heap.size≠v;omega))).trans cb,(Uk (Uc _ _ _ _ (λe=>qa e.symm))).trans R⟩) (bI ?_);clear cb R c5 f5;have ki:bz (c.drew.setCell ⟨v,5,J⟩ (I Z8 ((hl|||2^x.1:Nat):Int))) v p D L G ps (hl|||2^x.1):=ai (j:=5) J' _;have z:aa (λk=>k=v) c (c.drew.setCell ⟨v,5,J⟩ (I Z8 ((hl|||2^x.1:Nat):Int))):=(aa.drew c).trans (aa.setCell _ _ _ rfl);obtain⟨s,P⟩:=nM (c.drew.setCell ⟨v,5,J⟩ (I Z8 ((hl|||2^x.1:Nat):Int)));rw[P]at ki z⊢;have kv:ZN s w.heap.size 155 (Z6 (ZV ⟨r,0,J⟩)):=(z.block _ K.lt V).trans K;have H4:=a5 (I'.keep (z.block r I'.lt (λe=>qa e.symm))) ki kv (z.mono (T:=λk=>k=r\/k=v) λ_ _ q=>.inr q) (V5 q7 (VC ec qp):hl|||2^x.1<2^N);clear I' J' K P ki z kv;rename_i hK;refine hK _ _ ?_;clear hK;simp only[Act.put,TZ,T5,T6])| (have q:A.RR x.1 b=J:=ka;clear q ka kg q5;obtain⟨z1,kk⟩:=Ed;obtain⟨z2,km⟩:=Ee;simp only[gy];gi_wp2;refine dJ HS.o ?_;rintro e s⟨rfl,k7⟩;subst k7;have H4:=a5 Q.o.1 Q.o.2.1 Q.o.2.2 (aa.refl (λk=>k=r\/k=v) s) q7)
       | (have hY:=q5 (by rw[ka];nofun);subst hY;clear ka kg q5;obtain⟨z1,kk⟩:=Ke;have km:=Kf;simp only[gy,ef]at kk km⊢;gi_wp2_with(show wpListIn _ _ _ _ _ ({dst:=J,op:=Op.store 246 (Z0 8) (Z0 57),type:=_,pos:=_,after:=_,guard:=_}::_) _ _;refine BF rfl (Z0 8) (Z0 57) rfl um um ?_);have kr:bW w2 (w2.alloc (Z4 #[] 246)):=bA w2 _;obtain⟨c,k7⟩:=nM (w2.alloc (Z4 #[] 246));rw[k7]at kr⊢;have xi:ZN c w.heap.size 155 (Z6 (ZV ⟨r,0,J⟩)):=(kr.block _ Q.o.2.2.lt).trans Q.o.2.2;have H3:=au (Q.o.1.keep (kr.block _ Q.o.1.lt)) (Q.o.2.1.keep (kr.block _ Q.o.2.1.lt)) xi;clear k7 xi;obtain⟨I',J',K⟩:=H3.o;have cb:=K.cell;have R:=I'.cells.1;have c5:=J'.cells.2.2.2.2.2;have f5:c.frozen? ⟨v,5,J⟩=ZT:=by have h':c.heap[v]?=_:=J';simp[World.frozen?,h']
          refine bM (dK _) 99 [(0,ZU),(1,ZU),(2,ZU),(3,ZU),(4,ZU),(5,ZU),(6,ZU),(7,ZU),(8,ZU),(9,ZU),(11,ZU),(10,ZT),(12,ZT),(13,ZU),(14,ZU),(15,ZT)] (λw'=>w'.cell? ⟨w.heap.size,0,J⟩=ZV (Z6 (ZV ⟨r,0,J⟩))/\w'.cell? ⟨r,0,J⟩=ZV (Z6 (ZV ⟨v,0,J⟩))) ee ee ⟨cb,R⟩ ?_;iterate 11 refine bE ?_
          refine m8 (dK _) (w1:=c.drew) (v:=I Z8 (hl:Int)) rfl rfl nofun oB (λ_=>⟨cb,R⟩) ?_;simp only[Act.put,TZ,T5,T6];refine fU (dK _) (fE hl x.1 V V c.drew) rfl rfl nofun oB ?_;rintro e w5⟨rfl,rfl⟩;refine⟨_,rfl,λ_=>⟨cb,R⟩,?_⟩;simp only[Act.put,TZ,T5,T6];iterate 2 refine bE ?_
          refine eC (dK _) (w1:=c.drew.setCell ⟨v,5,J⟩ (I Z8 ((hl|||2^x.1:Nat):Int))) rfl rfl nofun oB (λ_=>⟨(Uk (Uc _ _ _ _ (by show w.heap.size≠v;omega))).trans cb,(Uk (Uc _ _ _ _ (λe=>qa e.symm))).trans R⟩) (bI ?_);clear cb R c5 f5;have ki:bz (c.drew.setCell ⟨v,5,J⟩ (I Z8 ((hl|||2^x.1:Nat):Int))) v p D L G ps (hl|||2^x.1):=ai (j:=5) J' _;have z:aa (λk=>k=v) c (c.drew.setCell ⟨v,5,J⟩ (I Z8 ((hl|||2^x.1:Nat):Int))):=(aa.drew c).trans (aa.setCell _ _ _ rfl);obtain⟨s,P⟩:=nM (c.drew.setCell ⟨v,5,J⟩ (I Z8 ((hl|||2^x.1:Nat):Int)));rw[P]at ki z⊢;have kv:ZN s w.heap.size 155 (Z6 (ZV ⟨r,0,J⟩)):=(z.block _ K.lt V).trans K;have H4:=a5 (I'.keep (z.block r I'.lt (λe=>qa e.symm))) ki kv ((aa.RK kr (λk=>k=r\/k=v)).trans (z.mono λ_ _ q=>.inr q)) (V5 q7 (VC ec qp):hl|||2^x.1<2^N);clear I' J' K P ki z kv;rename_i hK;refine hK _ _ ?_;clear hK;simp only[Act.put,TZ,T5,T6];gi_wp2;refine dJ (AX 11 s) ?_;rintro e w5⟨rfl,kj⟩;obtain rfl:s=w5:=kj.symm;clear Q H3 kr kj));gi_wp2;obtain⟨I',J',K,x0,x7⟩:=H4.o;have h7:=K.cell;have hz:=I'.cells.2.2.2.1;have z9:s.frozen? ⟨r,3,J⟩=ZT:=by have h':s.heap[r]?=_:=I';simp[World.frozen?,h']
      refine bM (dK _) 99 [(0,ZU),(1,ZU),(2,ZU),(3,ZU),(5,ZU),(4,ZT),(6,ZT),(7,ZU),(8,ZU),(9,ZT)] (λw'=>w'.cell? ⟨w.heap.size,0,J⟩=ZV (Z6 (ZV ⟨r,0,J⟩))) ee ee h7 ?_;iterate 5 refine bE ?_
      refine m8 (dK _) (w1:=s.drew) (v:=I Z8 ((gone|||gn:Nat):Int)) rfl rfl nofun oB (λ_=>h7) ?_;simp only[Act.put,TZ,T5,T6];refine fU (dK _) (fE (gone|||gn) x.1 V V s.drew) rfl rfl nofun oB ?_;rintro e w5⟨rfl,rfl⟩;refine⟨_,rfl,λ_=>h7,?_⟩;simp only[Act.put,TZ,T5,T6];iterate 2 refine bE ?_
      refine eC (dK _) (w1:=s.drew.setCell ⟨r,3,J⟩ (I Z8 ((gone|||gn|||2^x.1:Nat):Int))) rfl rfl nofun oB (λ_=>(Uk (Uc _ _ _ _ (by show w.heap.size≠r;omega))).trans h7) (bI ?_);obtain⟨w5,kj⟩:∃w5,w5=s.drew.setCell ⟨r,3,J⟩ (I Z8 ((gone|||gn|||2^x.1:Nat):Int)):=⟨_,rfl⟩;rw[<-kj];clear h7 hz z9;have x1:aa (λk=>k=r) s w5:=by rw[kj];exact(aa.drew s).trans (aa.setCell _ _ _ rfl)
      have H5:=ak (HF.o w5 k8 (by rw[kj];exact ai (j:=3) I' _) ⟨_,x7,J'.keep (x1.block _ J'.lt qa)⟩ (x0.trans (x1.mono λ_ _ q=>.inl q)));clear I' J' K kj x1;simp only[Act.put,TZ,T5,T6];gi_wp2;obtain⟨⟨q1,q2⟩,q3,q4⟩:=H5.o;exact⟨⟨q1,λk o m ho _=>(q2 k V (TX.1 ho).1).trans ho⟩,λ_=>q3,q4⟩)
 case done=>
  rintro D' xs X y5 yp a hK;have qd:dF xs=ae S:=yp;obtain⟨f,B,C⟩:=a.row;have q8:∀k,k<w.heap.size+1->(X.putObj D' (.deferred J)).heap[k]?=X.heap[k]?:=λk m=>UI V;have U':=a.arr;refine Nq results120 rfl hK ⟨rfl,by rw[<-qd];exact a.rd.keep (q8 _ V),a.vol.imp λ_ q=>⟨q.1,q.2.keep (q8 _ V)⟩,⟨f,B.of_block (q8 _ V),?_⟩,?_,?_⟩;.rw[<-qd];refine C.keep L0 λk o m ho hc=>(UI (λe=>?_)).trans ho;rw[e,hK]at ho;cases ho;cases hc
  .exact U'.keep λk m=>q8 k (ia (kx k m))
  .exact a.out.later (T:=λk=>w.heap.size<=k) ⟨rfl,rfl,rfl,L0,λk qm qn=>q8 k V⟩ (λk qm qn=>V)
 case stop=>rintro D' cc pre X y5 yj hx hK;exact hx.elim
end
def BG(N:Nat)(ds:a7)(R:Nat->a7):List a7:=(YE N).map λi=>if i∈ds then R i else[]
def PU(N:Nat)(ds:a7):Nat:=AU (((YE N).filter λi=>decide (i∉ds)).map λi:Nat=>⟨0,0,(i:Int),0⟩)
theorem vZ(N:Nat)(ds:a7)(i:Nat):(PU N ds).testBit i=ZU↔i<N/\i∉ds:=by
 unfold PU;rw[pE];constructor;.rintro⟨s,f,_,a⟩;obtain⟨j,e,rfl⟩:=T9.1 f;obtain⟨c,d⟩:=Vr.1 e;have:j=i:=a;subst this;exact⟨Ul.1 c,W5 d⟩
 .rintro⟨b,a⟩;exact⟨_,T9.2 ⟨i,Vr.2 ⟨Ul.2 b,U4 a⟩,rfl⟩,rfl,rfl⟩
def Eg(N:Nat)(ds:a7)(R:Nat->a7):(BG N ds R).length=N:=by simp[BG]
def Eh(a:i<N):(BG N ds R).getD i []=if i∈ds then R i else[]:=by simp[BG,a]
def Nr(h:w.heap[bl]?=ZV (Z4 (aL l).toArray 217 (0,0)))(hl:l.length=44)(c:∀x∈l,x<256):Bs w (Z5 (ZV ⟨bl,0,J⟩) 44 44) l:=by
 refine⟨ZV ⟨bl,0,J⟩,44,by rw[hl],V,V,c,λ_=>⟨bl,0,rfl,λk a=>?_⟩⟩;have e:(aL l)[k]?=ZV (I .u8 ((l.getD k 0:Nat):Int)):=by unfold aL;rw[UJ,Ud a];simp[a]
 have b:(aL l).toArray[k]?=ZV (I .u8 ((l.getD k 0:Nat):Int)):=ua e;simp[World.cell?,h,b]
def ab2{f:Nat->ZR}(n:w.rowIs g 36 N f)(o:∀i∈ds,(R i).length=44/\∀x∈R i,x<256)(j:Kn w base yB f R ds):In w g (BG N ds R) (PU N ds):=by
 intro i c;have b:i<N:=by rw[Eg]at c;exact c
 have p:(BG N ds R)[i]=if i∈ds then R i else[]:=by rw[<-Eh b];simp[c]
 have h:=n.cell b;refine⟨λa=>?_,λa=>?_⟩;.rw[h,j.1 i ((vZ N ds i).1 (pS.1 a)).2];rfl
 . have d:i∈ds:=by
    by_cases q:i∈ds;.exact q
    .exact absurd (pS.2 ((vZ N ds i).2 ⟨b,q⟩)) a
   obtain⟨bl,k,_,_,l⟩:=j.2 i d;obtain⟨e,m⟩:=o i d;rw[p,TT d,e];exact⟨⟨bl,0,J⟩,44,by rw[h,k],Nr l e m⟩
theorem Ki(a:∀i∈ds,(R i).length=44/\∀x∈R i,x<256):∀l∈BG N ds R,l.length<=100000:=by
 intro l hl;unfold BG at hl;obtain⟨i,_,rfl⟩:=T9.1 hl;split;.rename_i h;rw[(a i h).1];omega
 .simp
def Ab{row:a7}(h:aM w bl l)(g:m<=l.length)(e:l.take m=row):w.rangeAt bl 0 (aL row)/\row.length=m:=by
 have c:row.length=m:=by rw[<-e,Uq];omega
 refine⟨λj u a=>?_,c⟩;unfold aL at a;rw[UJ,Wu]at a;obtain⟨x,b,rfl⟩:=a;have f:j<row.length:=(Vd.1 b).1;have d:=ac4 h (i:=j) V;rw[Uj];rw[d];unfold vb;have:l.getD j 0=x:=by rw[<-e,acP,TT V]at b;rw[Ub,b];rfl
 rw[this]
def jF(h:w.heap[bl]?=ZV (Z4 (aL l).toArray 217 (0,0))):w.rangeAt bl 0 (aL l):=λj u a=>by simp[World.cell?,h];simpa using a
theorem pX{S:Nat}(e:gone<65536)(f:sp<65536){i:Nat}:i∈Cg ds (ae (Aa (Aa S gone) sp))↔i∈ae S/\gone.testBit i=ZT/\sp.testBit i=ZT/\i∉ds:=by
 rw[It,tW f,tW e];constructor;.rintro⟨⟨⟨a,b⟩,c⟩,d⟩;exact⟨a,b,c,d⟩
 .rintro⟨a,b,c,d⟩;exact⟨⟨⟨a,b⟩,c⟩,d⟩
def feN(T gone sp:Nat)(ds:a7):a7:=Cg ds (ae (Aa (Aa T gone) sp))
def we(h:¬x.testBit i=ZU):x.testBit i=ZT:=by cases q:x.testBit i;rfl;exact absurd q h
section
attribute [local go_sem] Oper.semAt_some
structure WI(w:ZS)(C:Ck)(regs:Int)(L:List St)(X:ZS):Prop where
 ck:aH X w.heap.size C
 res:X.heap[w.heap.size+1]?=ZV (Z4 #[I O 0,Z5 J 0 0] 210 (0,0))pb:PB X (w.heap.size+3) (w.heap.size+1+1) regs L
 below:bW w X
theorem WI.own{L:List St}(h:WI w C regs L X)(d:w.heap.size+3<=B)(a:X.grownBy Y row)(c:∀r,row=ZV r->B<=r/\∃o:Obj,X.heap[r]?=ZV o/\o.isCells=ZT):WI w C regs L Y:=by have:=h.pb.2.1;have b:∀k,k<w.heap.size+3->Y.heap[k]?=X.heap[k]?:=λk b=>a.block k V (λe=>ia ((c k e.symm).1));exact⟨h.ck.keep (b _ V),(b _ V).trans h.res,h.pb.own d a c,h.below.grown a h.below.size (λk e=>ia ((c k e).1))⟩
def WI.next{L:List St}{s:St}{ob:Obj}(h:WI w C regs L X)(d:X.heap[w.heap.size+1+1]?=ZV (Z4 #[I O regs,v] 210 (0,0)))(e:X.ownsRow (w.heap.size+3) 304 4 v L.length (eY .u8 L))(g:(X.alloc ob).grownBy w2 v.ownBlock)(f:w.heap.size+3<=g')(c:w2.ownsRow (w.heap.size+3) 304 4 (Z5 (ZV ⟨g',0,J⟩) (L.length+1) cap') (L.length+1) (eY .u8 (L++[s]))):w2.cell? ⟨w.heap.size+1+1,1,J⟩=ZV v/\w2.frozen? ⟨w.heap.size+1+1,1,J⟩=ZT/\(WI w C regs (L++[s]) (w2.setCell ⟨w.heap.size+1+1,1,J⟩ (Z5 (ZV ⟨g',0,J⟩) (L.length+1) cap'))/\KeepsOthers X (w2.setCell ⟨w.heap.size+1+1,1,J⟩ (Z5 (ZV ⟨g',0,J⟩) (L.length+1) cap'))):=by obtain⟨i,j,l,a,b,m,n,o⟩:=PB.next (n0:=w.heap.size+3) (Bg:=w.heap.size+1+1) V h.pb.2.1 d e g f c;refine⟨j,l,⟨h.ck.keep (a _ V V),(a _ V V).trans h.res,i,h.below.trans ⟨m,n,o,?_,λk p=>a k V V⟩⟩,b⟩;exact b.size
def WI.told{L:List St}(h:WI w C regs L X):X.cell? ⟨w.heap.size,128,J⟩=ZV (I O (C.told:Int)):=h.ck.R9
def Ei(X:ZS)(s:St):∀j v,(Ji .u8 s)[j]?=ZV v->(X.alloc (Z4 #[I .u8 (s.k:Int),I O s.a,I O s.b,I .u8 (s.c:Int)] 304)).cell? ((⟨X.heap.size,0,J⟩:Addr).add j)=ZV v:=CY X X.heap.size rfl _ _ _ _ _
def Kj(C:Ck)(pre:List Sh):List St:=wrTo C (pre.map (·.1))
def Iv(C:Ck)(pre:List Sh)(i k:Nat):List St:=Kj C pre++[⟨0,0,(i:Int),0⟩]++ig C i k
theorem PV(C:Ck)(a:fh C)(pre:List Sh)(s:Nat)(h:pre.length<(ae s).length)(i k:Nat)(l:k<=C.told):(Kj C pre).length<=200/\(Iv C pre i k).length<=300:=by
 have b:=tS C (pre.map (·.1));have:=DL C i k;have:(ae s).length<=16:=by rw[<-lH s];exact rN s
 have:=a.le;have:=a.Sg;have c:(pre.map (·.1)).length*(C.told+1)<=16*9:=Xm (by rw[Uf];omega) V;have:(Kj C pre).length<=144:=TU b c;refine⟨V,?_⟩;unfold Iv;simp only[Ua,ada];omega
def Ns(C:Ck)(pre:List Sh)(i:Nat):Iv C pre i 0=Kj C pre++[⟨0,0,(i:Int),0⟩]:=by unfold Iv;rw[vD,Wj]
def aa3(pre:List Sh){i k:Nat}(h:C.m k i≠0):Iv C pre i (k+1)=Iv C pre i k++[⟨1,1+(k:Int),0,C.m k i⟩]:=by unfold Iv;rw[DK C i k h,<-UA]
def PW(pre:List Sh){i k:Nat}(h:C.m k i=0):Iv C pre i (k+1)=Iv C pre i k:=by unfold Iv;rw[zU C i k h]
def PX{x:Sh}(h:cY C x.1=ZU):Iv C pre x.1 C.told=Kj C (pre++[x]):=by unfold Iv Kj;rw[Uz,YN,zT,iU h];simp
def aa4{x:Sh}(h:cY C x.1=ZT):Kj C pre=Kj C (pre++[x]):=by unfold Kj;rw[Uz,YN,zT,mR h];simp
def Kl(X:ZS)(n:Nat)(d:n=X.heap.size)(s:St):∀j v,(Ji .u8 s)[j]?=ZV v->(X.alloc (Z4 #[I .u8 (s.k:Int),I O s.a,I O s.b,I .u8 (s.c:Int)] 304)).cell? ((⟨n,0,J⟩:Addr).add j)=ZV v:=CY X n d _ _ _ _ _
def PY{s:Nat}(h:pre.map (·.1)=ae s):Kj C pre=wrTo C (ae s):=by unfold Kj;rw[h]
def Ac(C:Ck)(kept:Nat)(pre:List Sh):List St:=wrTo C (ae kept)++gh (pre.map (·.1))
def PZ(C:Ck)(kept:Nat):Ac C kept []=wrTo C (ae kept):=by unfold Ac gh;simp
def Nt(C:Ck)(kept:Nat)(pre:List Sh)(x:Sh):Ac C kept (pre++[x])=Ac C kept pre++[⟨2,(pre.length:Int)+1,(x.1:Int),0⟩]:=by unfold Ac;rw[Uz,YN,Ge,Uf,<-UA]
def P0(h:pre.map (·.1)=ae gone):Ac C kept pre=gC C gone kept:=by unfold Ac gC;rw[h]
theorem aa5(C:Ck)(a:fh C)(kept:Nat)(pre:List Sh)(s:Nat)(h:pre.length<(ae s).length):(Ac C kept pre).length<=300:=by
 have c:=tS C (ae kept);have:(ae s).length<=16:=by rw[<-lH s];exact rN s
 have b:(ae kept).length<=16:=by rw[<-lH kept];exact rN kept
 have:=a.le;have:=a.Sg;have d:(ae kept).length*(C.told+1)<=16*9:=Xm b V;have:(wrTo C (ae kept)).length<=144:=TU c d;unfold Ac gh;simp only[Ua,Uf,Vj];omega
def Nu{n0 R:Nat}{xs:List ZR}(h:X.ownsRow n0 304 4 v k xs)(b:ZN X R 3 u):v.ownBlock≠ZV R:=by
 rcases h.2 with⟨rfl,_⟩|⟨g,cap,cur,rfl,_,a,_⟩;.intro e;cases e
 .intro e;obtain rfl:g=R:=Wa;rw[show X.heap[g]?=_ from b]at a;have:=UN a;cases this
theorem WI.set{L:List St}{R:Nat}{u':ZR}(h:WI w C regs L X)(g:w.heap.size+3<=R)(c:ZN X R 3 u):WI w C regs L (X.setCell ⟨R,0,J⟩ u'):=by have a:∀k,k≠R->(X.setCell ⟨R,0,J⟩ u').heap[k]?=X.heap[k]?:=λk a=>V8 _ _ _ _ a;obtain⟨d,e,v,f,b⟩:=h.pb;exact⟨h.ck.keep (a _ V),(a _ V).trans h.res,⟨d,by simpa[World.setCell]using e,v,(a _ V).trans f,b.kept (dN X R 0 u') (.inr (Nu b c))⟩,h.below.setCell (p:=⟨R,0,J⟩) (by show w.heap.size<=R;omega) _⟩
structure WP(w:ZS)(C:Ck)(regs:Int)(kept R D:Nat)(pre:List Sh)(Y:ZS):Prop where
 wi:WI w C regs (Ac C kept pre) Y
 box:ZN Y R 3 (I O (pre.length:Int))mark:Y.heap[D]?=ZV (.deferred (ZV []))
theorem WP.own{R:Nat}(h:WP w C regs kept R D pre X)(d:w.heap.size+3<=B)(g:R<B)(f:D<B)(b:X.grownBy Y row)(c:∀r,row=ZV r->B<=r/\∃o:Obj,X.heap[r]?=ZV o/\o.isCells=ZT):WP w C regs kept R D pre Y:=by have a:∀k,k<B->k<X.heap.size->Y.heap[k]?=X.heap[k]?:=λk a i=>b.block k i (λe=>ia ((c k e.symm).1));exact⟨h.wi.own d b c,(a R g h.box.lt).trans h.box,(a D f (TX.1 h.mark).1).trans h.mark⟩
def WP.next{R:Nat}{x:Sh}{ob:Obj}(h:WP w C regs kept R D pre X)(j:w.heap.size+3<=R)(g:(X.setCell ⟨R,0,J⟩ (I O ((pre.length:Int)+1))).heap[w.heap.size+1+1]?=ZV (Z4 #[I O regs,v] 210 (0,0)))(a:(X.setCell ⟨R,0,J⟩ (I O ((pre.length:Int)+1))).ownsRow (w.heap.size+3) 304 4 v (Ac C kept pre).length (eY .u8 (Ac C kept pre)))(d:((X.setCell ⟨R,0,J⟩ (I O ((pre.length:Int)+1))).alloc ob).grownBy w2 v.ownBlock)(i:w.heap.size+3<=g')(f:w2.ownsRow (w.heap.size+3) 304 4 (Z5 (ZV ⟨g',0,J⟩) ((Ac C kept pre).length+1) cap') ((Ac C kept pre).length+1) (eY .u8 (Ac C kept pre++[⟨2,(pre.length:Int)+1,(x.1:Int),0⟩]))):w2.cell? ⟨w.heap.size+1+1,1,J⟩=ZV v/\w2.frozen? ⟨w.heap.size+1+1,1,J⟩=ZT/\(WP w C regs kept R D (pre++[x]) (w2.setCell ⟨w.heap.size+1+1,1,J⟩ (Z5 (ZV ⟨g',0,J⟩) ((Ac C kept pre).length+1) cap'))/\KeepsOthers X (w2.setCell ⟨w.heap.size+1+1,1,J⟩ (Z5 (ZV ⟨g',0,J⟩) ((Ac C kept pre).length+1) cap'))):=by have k:WI w C regs (Ac C kept pre) (X.setCell ⟨R,0,J⟩ (I O ((pre.length:Int)+1))):=h.wi.set j h.box;have c:ZN (X.setCell ⟨R,0,J⟩ (I O ((pre.length:Int)+1))) R 3 (I O ((pre.length:Int)+1)):=h.box.set _;obtain⟨l,m,n,o⟩:=k.next g a d i f;have b:=(V6 X ⟨R,0,J⟩ (I O ((pre.length:Int)+1))).trans o;refine⟨l,m,⟨by rw[Nt];exact n,?_,b.same D _ h.mark rfl⟩,b⟩;have b2:ZN w2 R 3 (I O ((pre.length:Int)+1)):=(c.alloc ob).kept d (λe=>Nu a c e.symm);have b3:=(V8 w2 ⟨w.heap.size+1+1,1,J⟩ (Z5 (ZV ⟨g',0,J⟩) ((Ac C kept pre).length+1) cap') R (by show R≠w.heap.size+1+1;omega)).trans b2;rw[Ua];exact b3
def jn{x x':ZR}{t:ZO}(h:Y.heap[b]?=ZV (Z4 #[x,y] t (0,0))):(Y.setCell ⟨b,0,J⟩ x').heap[b]?=ZV (Z4 #[x',y] t (0,0)):=by obtain⟨a,c⟩:=TX.1 h;show(Y.heap.modify b _)[b]?=_;rw[V3 (by rw[acW];exact a),adu,c];rfl
def jo{x y':ZR}{t:ZO}(h:Y.heap[b]?=ZV (Z4 #[x,y] t (0,0))):(Y.setCell ⟨b,1,J⟩ y').heap[b]?=ZV (Z4 #[x,y'] t (0,0)):=by obtain⟨a,c⟩:=TX.1 h;show(Y.heap.modify b _)[b]?=_;rw[V3 (by rw[acW];exact a),adu,c];rfl
def gN{xs:List ZR}(h:w.ownsRow base e size v n xs)(f:base'<=base):w.ownsRow base' e size v n xs:=by
 refine⟨h.1,?_⟩;rcases h.2 with b|⟨g,cap,cur,a,c,d⟩;.exact .inl b
 .exact .inr ⟨g,cap,cur,a,TU f c,d⟩
def Km:(ZM.info? 210).map (·.size)=ZV 2:=ee
theorem Ko(C:Ck)(gone kept:Nat)(w:ZS)(G:fh C)(hg:gone<65536)(hk:kept<65536)(W:aI w)(h2:3<=w.heap.size):ZQ ZM 217 #[.agg (a9 C),I Z8 gone,I Z8 kept] w λe w'=>∃v,e=Z3 (.agg #[I O (1+((ae gone).length:Int)),v])/\bW w w'/\w'.ownsRow w.heap.size 304 4 v (gC C gone kept).length (eY .u8 (gC C gone kept)):=by
 have qe:(ae gone).length<=16:=by rw[<-lH gone];exact rN gone
 obtain⟨n,HN⟩:∃n:Nat,cL (9<=n):=⟨9,TV _⟩;refine(Vo (n:=n)).1 ?_;refine WO func217 rfl trivial ?_ rfl;simp only[ntmps217,UK,UC,U0,Nat.reduceAdd,Nat.reduceSub,Vf,Vg,Vh,Vi,Ut,U1];have q6:(((w.alloc (Z4 (a9 C) 335)).alloc (Z4 #[I O 0,Z5 J 0 0] 210)).alloc (Z4 #[I O (1+((ae gone).length:Int)),Z5 J 0 0] 210)).heap.size=w.heap.size+3:=ej;have ky:WI w C (1+((ae gone).length:Int)) [] (((w.alloc (Z4 (a9 C) 335)).alloc (Z4 #[I O 0,Z5 J 0 0] 210)).alloc (Z4 #[I O (1+((ae gone).length:Int)),Z5 J 0 0] 210)):=by obtain⟨a1,a2,a3,a4⟩:=L8 w (Z4 (a9 C) 335) (Z4 #[I O 0,Z5 J 0 0] 210) (Z4 #[I O (1+((ae gone).length:Int)),Z5 J 0 0] 210);refine⟨(aH.new w C).keep (by rw[VS _ _ _ ek,VS _ _ _ ej]),a3,⟨V,V,_,a4,UQ _ _ _ _⟩,((bA w _).alloc ej _).alloc ek _⟩
 have N:=ak q6;have i:=ak ky;clear q6 ky;gi_wp2;refine cM (Cy gone hg _) ?_;rintro e w'⟨rfl,F⟩;gi_wp2;obtain⟨l,km⟩:=nM ((((w.alloc (Z4 (a9 C) 335)).alloc (Z4 #[I O 0,Z5 J 0 0] 210)).alloc (Z4 #[I O (1+((ae gone).length:Int)),Z5 J 0 0] 210)));rw[km]at N i;rw[km];clear km F w';refine cM (eo kept l) ?_;rintro e w'⟨rfl,rfl⟩;have q7:(l.alloc (Z4 #[I Z8 (kept:Int)] 123)).heap.size=l.heap.size+1:=ej;have ks:(l.alloc (Z4 #[I Z8 (kept:Int)] 123)).cell? ⟨l.heap.size,0,J⟩=ZV (I Z8 (kept:Int)):=(Bx.new l 123 (I Z8 (kept:Int))).cell;have kz:WI w C (1+((ae gone).length:Int)) [] (l.alloc (Z4 #[I Z8 (kept:Int)] 123)):=i.o.own (B:=l.heap.size) (row:=J) (ia N.o) (adx _ _ _) (λr e=>W8);obtain⟨w4,q4⟩:=nM (l.alloc (Z4 #[I Z8 (kept:Int)] 123));have P:=ak q7;have ka:=ak ks;have k6:=ak kz;clear q7 ks kz i;gi_wp2;rw[q4]at P ka k6;clear q4;refine WQ rfl (ia HN.o) (gf:=154) (lb:=#[Z6 (ZV ⟨l.heap.size,0,J⟩)]) rfl trivial (U9 func154 ee rfl) (fD (n-1) l.heap.size kept hk w4 (ia P.out) ka.out Zf (W.mono V k6.out.below)) (λh k=>yV h k) (yW Zf) (TW _ _) (λ_=>rfl) (λpre X=>WI w C (1+((ae gone).length:Int)) (Kj C pre) X/\w4.heap.size<=X.heap.size) (λ_ _ _=>False) (λpre X Y row H V' hr=>⟨H.1.own Zf V' hr,TU H.2 V'.size⟩) (λc pre X Y row H _ _=>H.elim) ⟨k6.out,TV _⟩ (λx=>{tmps:=#[.agg (a9 C),I Z8 (gone:Int),I Z8 (kept:Int),Z6 (ZV ⟨w.heap.size,0,J⟩),U,U,Z6 (ZV ⟨w.heap.size+1,0,J⟩),Z6 (ZV ⟨w.heap.size+1+1,0,J⟩),I O (x.1:Int),U,U,U,U,I Z8 (gone:Int),I O ((ae gone).length:Int),I O (1+((ae gone).length:Int)),.agg #[I O (1+((ae gone).length:Int)),Z5 J 0 0],I Z8 (kept:Int),.func (.func 154) #[] #[Z6 (ZV ⟨l.heap.size,0,J⟩)],I O (x.1:Int),U,U,U,U,U,U,U,U,U,U,U,U,U,U,U,U,U,U,U,U,U,U,U,U,U,U,U,U,U,U,U,U,U,U,U,U,U,U,U,U,U,U,U,U,U,U,U],defers:=[]}) ?assign ?body ?done ?stop;case assign=>intro l2 x X Kk hK;unfold sF;gi_wp2;exact hK
 case body=>rintro l2 pre x X⟨a,hX⟩R;have q3:=zE w.heap.size x.1 C X a.ck G x.2;obtain⟨_,_,v,f,b⟩:=a.pb;have K:w.heap.size+3<=X.heap.size:=a.pb.2.1;obtain⟨c0,c1,O',_⟩:=aB f;have ko:=x.2;have hL:=λk hk=>PV C G pre kept R x.1 k hk;have HH:=ak a;have Q:=ak f;have t:=ak b;have HL:=ak hL;have HX:=ak hX;have S:=ak K;clear a f b hL hX R K;gi_wp2;refine dJ q3 ?_;clear q3;rintro e w'⟨rfl,F⟩;subst F;cases k9:cY C x.1 with|false=>have HE:=ak (aa4 (pre:=pre) k9);clear k9;gi_wp2;refine⟨Yi _ _,Ho.refl _,?_,HX.o⟩;rw[<-HE.o];exact HH.o|true=>
   have HE:=ak (PX (pre:=pre) k9);clear k9;gi_wp2_with(refine Bm rfl (Z0 24) (Z0 27) rfl (w.heap.size+3) w'.heap.size (Kj C pre) ⟨0,0,(x.1:Int),0⟩ v rfl rfl (t.o.alloc _) (Ei w' ⟨0,0,(x.1:Int),0⟩) (by have:=S.out;simp;omega) (ia ((HL.o 0 (T8 _)).1)) ?_;rintro g' cap' w2 T I' J';obtain⟨c1,O',E⟩:=HH.o.next Q.o t.o J' T I';have ct:=E.1.told;have q:=ak E;clear E J' I');rw[<-Ns]at q;gi_loopw[32](λp wr=>∃k:Nat,p=I O (k:Int)/\k<=C.told/\WI w C (1+((ae gone).length:Int)) (Iv C pre x.1 k) wr/\KeepsOthers w' wr)(λp _=>C.told-(intOf p).toNat);case atStart=>exact⟨0,rfl,T8 _,q.out.1,q.out.2⟩
   case round=>
    obtain⟨k,rfl,qc,a,z⟩:=hrel;have qi:=G.le;have qj:=G.Sg;by_cases qq:k<C.told
    . have cm:=a.ck.at k x.1 V ko;have ki:(k:Int)<C.told:=V;have qn:(k:Int)<8:=V;have qv:(x.1:Int)<16:=V;by_cases h0:C.m k x.1=0
      . rw[h0]at cm;have i:=ak a;have u:=ak z;clear a z;gi_wp2;go_roundw;case rel=>exact⟨k+1,eT,V,by rw[PW pre h0];exact i.o,u.o⟩
        case measure=>simp[intOf];omega
      . have qs:((C.m k x.1:Nat):Int)≠0:=V;obtain⟨_,_,v,f,b⟩:=a.pb;have K:w.heap.size+3<=wr.heap.size:=a.pb.2.1;obtain⟨c0,c1,O',_⟩:=aB f;have qm:=(HL.o k qc).2;have i:=ak a;have u:=ak z;have Q:=ak f;have t:=ak b;have S:=ak K;clear a z f b K;gi_wp2_with(refine Bm rfl (Z0 44) (Z0 49) rfl (w.heap.size+3) wr.heap.size (Iv C pre x.1 k) ⟨1,1+(k:Int),0,C.m k x.1⟩ v rfl rfl (t.o.alloc _) (Ei wr ⟨1,1+(k:Int),0,C.m k x.1⟩) (by have:=S.out;simp;omega) V ?_;rintro g' cap' w2 T I' J';obtain⟨c1,O',E⟩:=i.o.next Q.o t.o J' T I';have q:=ak E;clear E J' I');go_roundw;case rel=>exact⟨k+1,eT,V,by rw[aa3 pre h0];exact q.out.1,u.o.trans q.out.2⟩
        case measure=>simp[intOf];omega
    .have ki:¬(k:Int)<C.told:=V;obtain rfl:k=C.told:=V;have i:=ak a;have u:=ak z;clear a z;gi_wp2;refine⟨u.o.from _,λ_=>W.mono V i.o.below,?_,TU HX.o u.o.size⟩;rw[<-HE.o];exact i.o
 case done=>
  rintro D xs X hD q5⟨a,hX⟩hK;rw[PY q5]at a;have qo:w.heap.size+3<=D:=Zf;have qb:D<X.heap.size:=(TX.1 hK).1;clear q5 xs ka k6 hX;have i:=ak a;have u:=ak hK;clear a hK;gi_wp2;refine cM (eo gone _) ?_;rintro e w'⟨rfl,F⟩;have q8:w'.heap.size=X.heap.size+1+1:=by rw[F];simp
  have kv:w'.cell? ⟨X.heap.size+1,0,J⟩=ZV (I Z8 (gone:Int)):=by have:=(Bx.new (X.alloc (Z4 #[I O 0] 3)) 123 (I Z8 (gone:Int))).cell;rw[Um]at this;rw[F];exact this
  have kf:X.grownBy w' J:=by rw[F];exact CZ (adx X _ J) _
  have q2:WP w C (1+((ae gone).length:Int)) kept X.heap.size D [] w':=by refine⟨by rw[PZ];exact i.o.own (B:=w.heap.size+3) lR kf (λr e=>W8),?_,(kf.block D qb (λe=>W8)).trans u.o⟩;rw[F];exact(Us X 3 (I O 0)).alloc _
  have y:=ak q8;have q9:=ak kv;have kp:=ak q2;clear q8 kv q2 kf F i u;gi_wp2;refine WQ rfl (ia HN.o) (gf:=154) (lb:=#[Z6 (ZV ⟨X.heap.size+1,0,J⟩)]) rfl trivial (U9 func154 ee rfl) (fD (n-1) (X.heap.size+1) gone hg w' (ia y.out) q9.out (ia y.out) (W.mono V kp.out.wi.below)) (λh k=>yV h k) (yW (ia y.out)) (TW _ _) (λ_=>rfl) (λpre Y=>WP w C (1+((ae gone).length:Int)) kept X.heap.size D pre Y/\w'.heap.size<=Y.heap.size) (λ_ _ _=>False) (λpre A Y row H V' hr=>⟨H.1.own (B:=w'.heap.size) (ia y.out) (ia y.out) (ia y.out) V' hr,TU H.2 V'.size⟩) (λc pre X Y row H _ _=>H.elim) ⟨kp.out,TV _⟩ (λx=>{tmps:=#[.agg (a9 C),I Z8 (gone:Int),I Z8 (kept:Int),Z6 (ZV ⟨w.heap.size,0,J⟩),U,U,Z6 (ZV ⟨w.heap.size+1,0,J⟩),Z6 (ZV ⟨w.heap.size+1+1,0,J⟩),U,U,U,Z6 (ZV ⟨X.heap.size,0,J⟩),I O (x.1:Int),I Z8 (gone:Int),I O ((ae gone).length:Int),I O (1+((ae gone).length:Int)),.agg #[I O (1+((ae gone).length:Int)),Z5 J 0 0],I Z8 (kept:Int),.func (.func 154) #[] #[Z6 (ZV ⟨l.heap.size,0,J⟩)],U,U,U,U,U,U,U,U,U,U,U,U,U,U,U,U,U,U,U,U,U,U,U,U,U,U,U,U,U,U,U,U,U,U,I Z8 (gone:Int),.func (.func 154) #[] #[Z6 (ZV ⟨X.heap.size+1,0,J⟩)],I O (x.1:Int),U,U,U,U,U,U,U,U,U,U,U],defers:=[]}) ?assign2 ?body2 ?done2 ?stop2;case assign2=>intro l2 x Y Kk hK;unfold sF;gi_wp2;exact hK
  case body2=>rintro l2 pre x Y⟨s,hY⟩R;have qp:=aa5 C G kept pre gone R;have qf:pre.length<16:=V;have kc:w.heap.size+3<=X.heap.size:=V;have hs:=s.wi.set (u':=I O ((pre.length:Int)+1)) kc s.box;obtain⟨_,_,v,f,b⟩:=hs.pb;have K:w.heap.size+3<=(Y.setCell ⟨X.heap.size,0,J⟩ (I O ((pre.length:Int)+1))).heap.size:=hs.pb.2.1;obtain⟨c0,c1,O',_⟩:=aB f;have cb:=s.box.cell;have fb:=s.box.frozen;have hb:=(s.box.set (I O ((pre.length:Int)+1))).cell;have HP:=ak s;have Q:=ak f;have t:=ak b;have S:=ak K;have HY:=ak hY;have qa:=ak kc;clear s f b K hY hs R kc;gi_wp2_with(refine Bm rfl (Z0 59) (Z0 63) rfl (w.heap.size+3) Y.heap.size (Ac C kept pre) ⟨2,(pre.length:Int)+1,(x.1:Int),0⟩ v rfl rfl (t.o.alloc _) (Kl _ Y.heap.size ej ⟨2,(pre.length:Int)+1,(x.1:Int),0⟩) (by have:=S.out;simp at this⊢;omega) V ?_;rintro g' cap' w2 T I' J';obtain⟨c1,O',E⟩:=HP.o.next qa.out Q.o t.o J' T I';have q:=ak E;clear E J' I');refine⟨q.out.2.from _,λ_=>W.mono V q.out.1.wi.below,q.out.1,TU HY.o q.out.2.size⟩
  case done2=>
   rintro M ys Y qk qh⟨s,hY⟩k7;have L:=s.wi;rw[P0 qh]at L;have hm:=s.mark;obtain⟨_,_,v,f,b⟩:=L.pb;obtain⟨c0,c1,O',f0⟩:=aB f;obtain⟨r0,r1,g1,g0⟩:=aB L.res;obtain⟨ao,m,j,rfl⟩:∃ao m j,v=.slice ao m j:=by
    rcases b.2 with⟨rfl,_⟩|⟨g,cap,cur,rfl,_⟩;.exact⟨_,_,_,rfl⟩
    .exact⟨_,_,_,rfl⟩
   have t:=aE L hm b k7;clear L hm b k7 s hY f;gi_wp2;obtain⟨L,hm,b,k7⟩:=t.o;have k5:((Y.setCell ⟨w.heap.size+1,0,J⟩ (I O (1+((ae gone).length:Int)))).setCell ⟨w.heap.size+1,1,J⟩ (.slice ao m j)).heap[w.heap.size+1]?=ZV (Z4 #[I O (1+((ae gone).length:Int)),.slice ao m j] 210 (0,0)):=jo (jn L.res);have z:=(V6 Y ⟨w.heap.size+1,0,J⟩ (I O (1+((ae gone).length:Int)))).trans (V6 _ ⟨w.heap.size+1,1,J⟩ (.slice ao m j));have kr:bW w ((Y.setCell ⟨w.heap.size+1,0,J⟩ (I O (1+((ae gone).length:Int)))).setCell ⟨w.heap.size+1,1,J⟩ (.slice ao m j)):=(L.below.setCell (p:=⟨w.heap.size+1,0,J⟩) (XM _) _).setCell (p:=⟨w.heap.size+1,1,J⟩) (XM _) _;have hq:((Y.setCell ⟨w.heap.size+1,0,J⟩ (I O (1+((ae gone).length:Int)))).setCell ⟨w.heap.size+1,1,J⟩ (.slice ao m j)).ownsRow (w.heap.size+3) 304 4 (.slice ao m j) (gC C gone kept).length (eY .u8 (gC C gone kept)):=(b.kept (dN Y (w.heap.size+1) 0 _) (.inr λe=>ia (kL b e))).kept (dN _ (w.heap.size+1) 1 _) (.inr λe=>ia (kL b e));have k8:=z.same M _ k7 rfl;have ke:=z.same D _ hm rfl;have kb:D≠M:=(ia y.out);have q0:=(TX.1 k8).1;have qd:=(TX.1 ke).1;have kj:M≠w.heap.size+1:=(ia y.out);generalize((Y.setCell ⟨w.heap.size+1,0,J⟩ (I O (1+((ae gone).length:Int)))).setCell ⟨w.heap.size+1,1,J⟩ (.slice ao m j))=Z at k5 kr hq k8 ke q0 qd⊢;have hn:(Z.putObj M (.deferred J)).heap[D]?=ZV (.deferred (ZV [])):=(UI kb).trans ke;refine⟨ej,.inl ⟨_,_,rfl,Wo k8,ej,.inl ⟨_,_,rfl,Wo hn,?_⟩⟩⟩;have qg:((Z.putObj M (.deferred J)).putObj D (.deferred J)).heap[w.heap.size+1]?=ZV (Z4 #[I O (1+((ae gone).length:Int)),.slice ao m j] 210 (0,0)):=((UI V).trans (UI (Vc kj))).trans k5;have kg:=Xd Z M (.deferred J);have kh:=Xd (Z.putObj M (.deferred J)) D (.deferred J);have q1:∀(U':ZS)(d:Nat),U'.heap[d]?=ZV (.deferred (ZV []))->U'.ownsRow (w.heap.size+3) 304 4 (.slice ao m j) (gC C gone kept).length (eY .u8 (gC C gone kept))->(Value.slice ao m j).ownBlock≠ZV d:=by
    intro U' d hd hU e;rcases hU.2 with⟨e1,_⟩|⟨g,cap,cur,e1,_,kx,_⟩;.cases e1;cases e
    .cases e1;obtain rfl:g=d:=Wa;rw[hd]at kx;cases kx
   have k0:=hq.kept kg (.inr (q1 _ _ k8 hq));have kk:=k0.kept kh (.inr (q1 _ _ hn k0));exact⟨_,Wl results217 _ _ (w.heap.size+1) 210 #[I O (1+((ae gone).length:Int)),.slice ao m j] (0,0) _ rfl qg underlying210 rfl Km,_,rfl,Below.RO (Below.RO kr (ia y.out) q0 _) V (TX.1 hn).1 _,gN kk V⟩
  case stop2=>rintro D c pre X _ _ G;exact G.elim
 case stop=>rintro D c pre X _ _ G;exact G.elim
end
structure CI(w:ZS)(D L G:Int)(X:ZS):Prop where par:X.heap[w.heap.size]?=ZV (Z4 #[I O D,I O L,I O G] 28 (0,0))res:X.heap[w.heap.size+1]?=ZV (Z4 #[I O 0,Z5 J 0 0] 210 (0,0))below:bW w X
def CI.mono{D L G:Int}(h:CI w D L G X)(a:Below B X Y)(b:w.heap.size+2<=B):CI w D L G Y:=⟨(a.block _ V).trans h.par,(a.block _ V).trans h.res,h.below.trans (a.mono V)⟩
def CI.new(w:ZS)(D L G:Int):CI w D L G ((w.alloc (Z4 #[I O D,I O L,I O G] 28)).alloc (Z4 #[I O 0,Z5 J 0 0] 210)):=by
 refine⟨?_,?_,(bA w _).alloc ej _⟩;.rw[VS _ _ _ ej];exact Xe _ _
 .have:=Xe (w.alloc (Z4 #[I O D,I O L,I O G] 28)) (Z4 #[I O 0,Z5 J 0 0] 210);rwa[Um]at this
def aa6(n:Nat):Nat:=2^n-1
def Nv(lost n:Nat)(hl:lost<18446744073709551616)(a:n<=16):bits .and .u64 (lost:Int) (aa6 n:Int)=((aA n lost:Nat):Int):=by have:=gZ a;have:0<2^n:=VL n;exact fY lost (2^n-1) hl V
def Nw(lost n:Nat)(a:n<=16):bits .andNot .u64 (aa6 n:Int) ((aA n lost:Nat):Int)=((bG n lost:Nat):Int):=by have:=gZ a;have:=pO lost a;exact X2 (2^n-1) (aA n lost) V V
def aa7(D L G lost:Nat)(w:ZS)(e:ZP)(w':ZS):Prop:=bW w w'/\((tells (iT D L G) (ae (aA (D+L+G) lost))=J/\e=Z3 (ZY #[.agg #[I O 0,Z5 J 0 0],.iface 58 (I O 3)]))\/(∃C v,tells (iT D L G) (ae (aA (D+L+G) lost))=ZV C/\e=Z3 (ZY #[.agg #[I O (1+((ae (aA (D+L+G) lost)).length:Int)),v],.nilIface])/\w'.ownsRow w.heap.size 304 4 v (gC (aS 8 C (bG (D+L+G) lost)).1 (aA (D+L+G) lost) (bG (D+L+G) lost)).length (eY .u8 (gC (aS 8 C (bG (D+L+G) lost)).1 (aA (D+L+G) lost) (bG (D+L+G) lost)))))
def Nx{z:Int}(k:Nat)(a:k<=16)(b:z=(k:Int))(w:ZS):ZQ ZM 132 #[I O z] w λe w'=>e=Z3 (I Z8 (aa6 k:Int))/\w'=w:=by subst b;exact ni k a w
theorem yC(D L G lost:Nat)(hr:dA D L G=ZU)(k5:1<=D)(t:D<=12)(hL:1<=L)(O':L<=4)(u:G<=4)(hj:D%L=0)(c:D+L+G<=16)(hl:lost<18446744073709551616)(w:ZS)(x:aI w)(h2:3<=w.heap.size):ZQ ZM 204 #[.agg #[I O D,I O L,I O G],I Z8 lost] w λe w'=>aa7 D L G lost w e w':=by
 have j:=CI.new w D L G;have l:((w.alloc (Z4 #[I O (D:Int),I O (L:Int),I O (G:Int)] 28)).alloc (Z4 #[I O 0,Z5 J 0 0] 210)).heap.size=w.heap.size+2:=ej;obtain⟨T,U',V'⟩:=fT j.par;have X:=al j l;go_enter func204,ntmps204;go_wp2_with fail;refine(qX D L G _).mono ?_;rintro e w1⟨rfl,n⟩;obtain⟨j,l⟩:=X.o;try change Below _ _ _ at n
 rw[l]at n;have S:=n.size;try change Below _ _ _ at S
 rw[l]at S;have I':=j.mono n lR;obtain⟨T,U',V'⟩:=fT I'.par;have Y:=ak I';go_wp2_with fail;refine(cU D L G _ V V V).mono ?_;rintro e w2⟨rfl,P⟩;have kh:=P.size;have J':=Y.o.mono P V;obtain⟨T,U',V'⟩:=fT J'.par;have E:=ak J';go_wp2_with fail;refine(Nx (D+L+G) c V w2).mono ?_;rintro e B⟨rfl,hq⟩;subst hq;have kf:=Nv lost (D+L+G) hl c;go_wp2_with fail;refine(lY D L G (aA (D+L+G) lost) hr k5 t hL O' u hj c (pO lost c) B (x.mono V E.o.below) V).mono ?_;rintro e a⟨Q,h6⟩;have ki:=Q.size;have K:=E.o.mono Q V;have hz:=zeroCk;rcases h6 with⟨z,rfl⟩|⟨C,s,rfl⟩;.have hp:=cK ei;have y:bW a ((a.alloc (Z4 (a9 ei) 335)).setRow a.heap.size (a9 ei)):=(bA _ _).grown (aT _ _ _) ej (λk e=>E3);have f:=K.mono y V;obtain⟨r0,r1,g1,g0⟩:=aB f.res;have b:=al f z;go_wp2_with(refine Wy rfl 335 (Z0 8) (Z0 25) rfl a.heap.size (a9 ei) rfl rfl 335 (a9 ei) (aH.new a ei).heap (eH _) rfl (nv _) ?_);obtain⟨M,z⟩:=b.o;have q:=jo (y':=Z5 J 0 0) (jn (x':=I O 0) M.res);obtain⟨n0,A,_⟩:=aB q;refine Uv (v:=ZY #[.agg #[I O 0,Z5 J 0 0],.iface 58 (I O 3)]) (by simp[results,results204,go_sem,n0,A]) rfl ?_;exact⟨(M.below.setCell (p:=⟨w.heap.size+1,0,J⟩) eP _).setCell (p:=⟨w.heap.size+1,1,J⟩) eP _,.inl ⟨z,rfl⟩⟩
 . have r:=(pQ t u s).1;have hk:=Bk t O' u s;have ha:fh (aS 8 C (bG (D+L+G) lost)).1:=⟨r.byt,r.le,ia r.Sg⟩;have kg:=Nw lost (D+L+G) c;have hp:=cK C;have y:bW a ((a.alloc (Z4 (a9 ei) 335)).setRow a.heap.size (a9 C)):=(bA _ _).grown (aT _ _ _) ej (λk e=>E3);have k8:aH ((a.alloc (Z4 (a9 ei) 335)).setRow a.heap.size (a9 C)) a.heap.size C:=(aH.new a ei).setRow C;have f:=K.mono y V;have kc:((a.alloc (Z4 (a9 ei) 335)).setRow a.heap.size (a9 C)).heap.size=a.heap.size+1:=Ze;have k6:=x.mono V f.below;have b:=a5 f k8 kc k6 s;have F:=al hk ha;go_wp2_with(first|refine Wy rfl 335 (Z0 8) (Z0 25) rfl a.heap.size (a9 C) rfl rfl 335 (a9 ei) (aH.new a ei).heap (eH _) (by rw[cK,cK]) (nv _) ?_|refine acG rfl 335 (Z0 8) rfl a.heap.size rfl 335 (a9 C) (0,0) _ b.o.2.1.heap XL rfl (eH _) ?_);obtain⟨w5,kb⟩:=nM ((a.alloc (Z4 (a9 ei) 335)).setRow a.heap.size (a9 C));rw[kb]at b⊢;refine(Gb C (bG (D+L+G) lost) w5 F.o.1 (DJ lost c) b.o.2.2.2.1 (ia b.o.2.2.1)).mono ?_;rintro e W⟨rfl,R⟩;have kj:=R.size;have k9:=b.o.1.mono R (ia b.o.2.2.1);have ke:a.heap.size+1<=W.heap.size:=(ia b.o.2.2.1);have N:=ak k9;go_wp2_with fail;refine(Ko (aS 8 C (bG (D+L+G) lost)).1 (aA (D+L+G) lost) (bG (D+L+G) lost) W F.o.2 (pO lost c) (DJ lost c) (x.mono V N.out.below) V).mono ?_;rintro e w8⟨v,rfl,k7,i⟩;obtain⟨ao,m,d,rfl⟩:∃ao m d,v=.slice ao m d:=by
    rcases i.2 with⟨rfl,_⟩|⟨g,cap,cur,rfl,_⟩;.exact⟨_,_,_,rfl⟩
    .exact⟨_,_,_,rfl⟩
   have h:=N.out.mono k7 V;obtain⟨r0,r1,g1,g0⟩:=aB h.res;have Z:=al h i;go_wp2;obtain⟨h,i⟩:=Z.o;have q:=jo (y':=.slice ao m d) (jn (x':=I O (1+((ae (aA (D+L+G) lost)).length:Int))) h.res);obtain⟨n0,A,_⟩:=aB q;have H:(Value.slice ao m d).ownBlock≠ZV (w.heap.size+1):=λe=>ia (kL i e);have hn:=(i.kept (dN w8 (w.heap.size+1) 0 (I O (1+((ae (aA (D+L+G) lost)).length:Int)))) (.inr H)).kept (dN _ (w.heap.size+1) 1 (.slice ao m d)) (.inr H);refine Uv (v:=ZY #[.agg #[I O (1+((ae (aA (D+L+G) lost)).length:Int)),.slice ao m d],.nilIface]) (by simp[results,results204,go_sem,n0,A]) rfl ?_;exact⟨(h.below.setCell (p:=⟨w.heap.size+1,0,J⟩) eP _).setCell (p:=⟨w.heap.size+1,1,J⟩) eP _,.inr ⟨C,_,b.o.2.2.2.2,rfl,gN hn V⟩⟩
def bS(D L G lost:Int)(rd:Bool):ZR:=.agg #[I O D,I O L,I O G,I Z8 lost,Z1 rd]
def pY(e:Bool)(D L G lost:Int)(rd:Bool)(w:ZS):(Instr.checkKey e 10000 236 (bS D L G lost rd)).run ZM w=.ok () w:=ee
theorem P2(D L G lost:Int)(rd:Bool)(w:ZS):(Op.equal 236 (bS D L G lost rd) (bS D L G lost rd)).run ZM w=.ok ZU w:=by unfold bS Op.equal Op.maxDepth;go_simp
def wg{es:Array MapEntry}(h:w.heap[m]?=ZV (.map es n)):(getObj m).run ZM w=.ok (.map es n) w:=by simp[getObj,Sem.run,h]
def Ny{es:Array MapEntry}(h:w.heap[m]?=ZV (.map es n))(o:Obj):(setObj m o).run ZM w=.ok () (w.putObj m o):=by simp[setObj,Sem.run,h,World.putObj]
def jX(w:ZS)(n:Nat)(D L G lost:Int)(rd:Bool)(regs:Int)(steps:ZR)(ne ol:ZR):Prop:=w.heap[n]?=ZV (Z4 (nV D L G lost rd regs steps ne ol) 274 (0,0))
def jX.lt{D L G:Int}{rd:Bool}{ol:ZR}(h:jX w n D L G lost rd regs steps ne ol):n<w.heap.size:=(TX.1 h).1
def jX.cells{D L G:Int}{rd:Bool}{ol:ZR}(h:jX w n D L G lost rd regs steps ne ol):w.cell? ⟨n,7,J⟩=ZV ne/\w.cell? ⟨n,8,J⟩=ZV ol/\w.frozen? ⟨n,7,J⟩=ZT/\w.frozen? ⟨n,8,J⟩=ZT:=by have a:w.heap[n]?=ZV (Z4 (nV D L G lost rd regs steps ne ol) 274 (0,0)):=h;simp[World.cell?,World.frozen?,a,nV]
def jX.S8{D L G:Int}{rd:Bool}{ol:ZR}(h:jX w n D L G lost rd regs steps ne ol)(x:ZR):jX (w.setCell ⟨n,7,J⟩ x) n D L G lost rd regs steps x ol:=ai (j:=7) h x
def jX.SV{D L G:Int}{rd:Bool}{ol:ZR}(h:jX w n D L G lost rd regs steps ne ol)(x:ZR):jX (w.setCell ⟨n,8,J⟩ x) n D L G lost rd regs steps ne x:=ai (j:=8) h x
def jX.keep{D L G:Int}{rd:Bool}{ol:ZR}(h:jX w n D L G lost rd regs steps ne ol)(e:w'.heap[n]?=w.heap[n]?):jX w' n D L G lost rd regs steps ne ol:=e.trans h
def gk(w:ZS)(b i j:Nat)(x y:ZR):aa (λk=>k=b) w ((w.setCell ⟨b,i,J⟩ x).setCell ⟨b,j,J⟩ y):=by have a:aa (λk=>k=b) w (w.setCell ⟨b,i,J⟩ x):=aa.setCell _ _ _ rfl;have c:aa (λk=>k=b) (w.setCell ⟨b,i,J⟩ x) ((w.setCell ⟨b,i,J⟩ x).setCell ⟨b,j,J⟩ y):=aa.setCell _ _ _ rfl;exact a.trans c
def ab3(w:ZS)(sb n:Nat):Prop:=jX w sb 0 0 0 0 ZT 0 (Z5 J 0 0) (Z6 (ZV ⟨n,0,J⟩)) (Z6 (ZV ⟨n,0,J⟩))
def gq(w:ZS)(sb:Nat)(room:Int):Prop:=w.heap[sb+1+1]?=ZV (Z4 #[I O room,.map (ZV (sb+1)),Z6 (ZV ⟨sb,0,J⟩)] 277 (0,0))
def jX.value{D L G:Int}{rd:Bool}{ol:ZR}(h:jX w n D L G lost rd regs steps ne ol):w.cell? ⟨n,5,J⟩=ZV (I O regs)/\w.cell? ⟨n,6,J⟩=ZV steps:=by have a:w.heap[n]?=ZV (Z4 (nV D L G lost rd regs steps ne ol) 274 (0,0)):=h;simp[World.cell?,a,nV]
def gO{room:Int}(hl:gq w sb room):w.cell? ⟨sb+1+1,0,J⟩=ZV (I O room)/\w.cell? ⟨sb+1+1,1,J⟩=ZV (.map (ZV (sb+1)))/\w.cell? ⟨sb+1+1,2,J⟩=ZV (Z6 (ZV ⟨sb,0,J⟩)):=by have a:w.heap[sb+1+1]?=_:=hl;simp[World.cell?,a]
def aa.putObj(w:ZS)(m:Nat)(o:Obj)(h:S m):aa S w (w.putObj m o):=⟨rfl,rfl,rfl,L0,λk _ a=>UI (λe=>a (e▸h))⟩
def Nz(P:List St)(D c:List a7)(k:Nat)(h:(bR P k).k=0):bZ P D c (k+1)=(bZ P D c k).set (bR P k).a.toNat (D.getD (bR P k).b.toNat [])/\dO P D c (k+1)=dO P D c k:=by simp[bZ,dO,eA,iN,h]
def P4(P:List St)(D d:List a7)(k:Nat)(h:(bR P k).k=1):bZ P D d (k+1)=(bZ P D d k).set (bR P k).a.toNat (jf ((bZ P D d k).getD (bR P k).a.toNat []) ((bZ P D d k).getD (bR P k).b.toNat []) (bR P k).c)/\dO P D d (k+1)=dO P D d k:=by simp[bZ,dO,eA,iN,h]
def P7(P:List St)(D c:List a7)(k:Nat)(h:(bR P k).k=2):bZ P D c (k+1)=bZ P D c k/\dO P D c (k+1)=dO P D c k++[((bR P k).b,(bZ P D c k).getD (bR P k).a.toNat [])]:=by simp[bZ,dO,eA,iN,h]
def RnR(w0:ZS)(B:Nat)(P:List St)(D R0:List a7)(n r gR:Nat)(vO iv:ZR)(wr:ZS):Prop:=∃k T h,k<=P.length/\iv=I O (k:Nat)/\Rn w0 B P D R0 n r gR k vO T h wr
def aa8(regs:Int)(P:List St)(D:List a7)(gone:Nat)(w:ZS)(e:ZP)(w':ZS):Prop:=(je regs P D.length->gY P D gone->∃v h,e=Z3 (ZY #[v,.nilIface])/\nJ 256 w' w.heap.size v h/\h.map (λq=>(q.1,q.2.2.2.take q.2.2.1))=dO P D (fG regs.toNat (eZ P D)) P.length)/\(je regs P D.length->¬gY P D gone->e=Z3 (ZY #[Z5 J 0 0,.iface 58 (I O 2)]))/\(¬je regs P D.length->e=Z3 (ZY #[Z5 J 0 0,.iface 58 (I O 4)]))/\bW w w'
def nJ.weaken{t:ZO}{j:List (Int×Nat×Nat×a7)}(h:nJ t w base v j)(c:base'<=base):nJ t w base' v j:=⟨dz h.own c,λq d=>by obtain⟨a,b⟩:=h.row q d;exact⟨V,b⟩,h.nodup⟩
def Tryz.S2:(ZM.info? 256).map (λi=>(i.zero,i.size,i.bytes))=ZV (ZV (.agg #[I O 0,Z5 J 0 0]),2,32):=ee
def P8(w:ZS)(n:Nat)(b:n=w.heap.size)(x y:ZR)(t:ZO):∀j v,[x,y][j]?=ZV v->(w.alloc (Z4 #[x,y] t)).cell? ((⟨n,0,J⟩:Addr).add j)=ZV v:=by
 subst b;intro j v a;rw[kl];rcases j with _|_|j;all_goals simp at a
 all_goals subst a;simp
def acw(w:ZS)(k a b c:ZR)(t:ZO):∃wb,w.alloc (Z4 #[k,a,b,c] t)=wb/\bW w wb/\wb.heap.size=w.heap.size+1/\wb.cell? ⟨w.heap.size,1,J⟩=ZV a/\wb.cell? ⟨w.heap.size,2,J⟩=ZV b/\wb.cell? ⟨w.heap.size,3,J⟩=ZV c:=⟨_,rfl,bA _ _,Uh _ _,ej,ej,ej⟩
theorem P9(regs:Int)(v:ZR)(P:List St)(S ci:Nat)(D:List a7)(gone:Nat)(w:ZS)(h:Ps .u8 w v P)(hP:∀s∈P,AR s)(V':In w S D gone)(xd:S<w.heap.size)(q2:∀l∈D,l.length<=100000)(hl:P.length<=5000):ZQ ZM 153 #[.agg #[I O regs,v],Z5 (ZV ⟨S,0,J⟩) D.length ci] w λe w'=>aa8 regs P D gone w e w':=by
 obtain⟨i0,x2,x9,xa,xb⟩:=Uw Tryz.S2;have kf:bW w (w.alloc (Z4 #[I O regs,v] 210)):=bA _ _;have h0:=h.mono kf;obtain⟨ao,c,rfl⟩:=h.slice;go_enter func153,ntmps153;go_wp2_with fail;refine(Jk regs D.length _ P _ h0).mono ?_;rintro e w1⟨kr,ks,K⟩;try change Below _ _ _ at K
 rw[Uh]at K;obtain⟨p0,p1⟩:=abX K rfl;have x7:=K.size;try change Below _ _ _ at x7
 rw[Uh]at x7;have h5:=kf.trans (K.mono V);by_cases J':je regs P D.length
 . have G:=kr J';subst G;obtain⟨⟨g0,g1,g2⟩,hy⟩:=id J';obtain⟨r,rfl⟩:∃r:Nat,regs=(r:Int):=⟨regs.toNat,V⟩;have q8:=ak J';have qp:=ak hy;have hr:∀i,i<P.length->(bR P i).k=0->0<=(bR P i).b/\(bR P i).b<(D.length:Int):=by
    intro i hi hk;rw[eE P i hi]at*;rcases hy i hi with h|h;.exact⟨h.2.2.2.1,h.2.2.2.2⟩
    .omega
   have q4:r<=32:=V;have h1:=h.mono h5;have qc:=V'.mono h5;clear J' hy kr ks h0 K kf g0 g1;go_wp2_with fail;refine(rk _ P S ci D gone w1 h1 qc q2 hr hl).mono ?_;rintro e w2⟨kx,ky,k6⟩;have q0:=(k6.cell (Ue p0)).trans p0;have q1:=(k6.cell (Ue p1)).trans p1;have k7:=h5.trans (k6.mono V);have xf:=k6.size;clear hr h1 qc p0 p1 h5 k6;by_cases C:gY P D gone
   . have G:=kx C;subst G;have qi:=Jl C;have ka:=ak C;have q6:=ak (aau C);clear C kx ky;obtain⟨n,E⟩:=nM (eZ P D);have HN:=ak E;rw[E]at qi q6;rw[E];clear E;go_wp2_with fail;refine(A6 r n w2 q4 qi).mono ?_;rintro e w3⟨y,T0,rfl,qe,qb,ko⟩;have x8:=ko.size;have hd:=(ko.cell (Ue q1)).trans q1;have qd:Rn w2 w2.heap.size P D (fG r n) n r y 0 (Z5 J 0 0) T0 [] w3:=⟨qe,qb,λl hl=>by have:=VG (show l∈YF r (YF n 0)from hl);rw[this];simp,nJ.nil _ _ _,rfl,λp _ q hq=>by simp at hq,ko,x8⟩;have qa:=ak qd;clear qd qe qb q0 q1;go_wp2;clear hd;go_loopw[10,37](λvO iv wr=>RnR w2 w2.heap.size P D (fG r n) n r y vO iv wr)(λ_ iv _=>P.length-(intOf iv).toNat);case atStart=>exact⟨0,T0,[],T8 _,rfl,qa.out⟩
     case round=>
      clear qa;rename ZS=>wo;obtain⟨k,T,O',hk,rfl,W⟩:=hrel;have xh:=W.size;have kp:=k7.trans (W.below.mono V);by_cases I':k<P.length
      . rcases(h.mono kp).cases with⟨rfl,_⟩|⟨b,off,cc,e,_,hc⟩;.simp at I'
        simp at e;obtain⟨rfl,rfl⟩:=e;obtain⟨d0,d1,d2,d3⟩:=hc k I';have hy:=qp.out k I';unfold jd at hy;have qh:=hP _ (T7 I');have k9:=eE P k I';have B:=ak (Nz P D (fG r n) k);have Y:=ak (P4 P D (fG r n) k);have Z:=ak (P7 P D (fG r n) k);have kb:=ak (ka.out k I');have k0:=ak (q6.out k I');have h4:cL (Pr P D gone k↔((bR P k).k=0->¬pC gone (bR P k).b.toNat/\fl P D (k+1)=ZV (D.getD (bR P k).b.toNat []).length/\(D.getD (bR P k).b.toNat []).length<=4096)):=Yd;rw[k9]at B Y Z k0 h4;have qn:=ak (V'.mono kp);have HC:=ak hc;have t:=ak W;have HI:=ak V';have HH:=ak h;have xc:=ak hP;clear hc W V' h hP k9;have qj:=qh.2.2.2.2.2;clear qh;generalize P[k].k=sk at*;generalize P[k].a=sa at*;generalize P[k].b=sb at*;generalize P[k].c=L at*;obtain⟨wb,hz,z,xg,b1,b2,b3⟩:=acw wo (I .u8 (sk:Int)) (I O sa) (I O sb) (I .u8 (L:Int)) 304;have ki:=ak (t.o.next z);rcases hy with⟨kz,a0,a1,x0,x1⟩|⟨x3,a0,a1,x0,x1,xe⟩
        . obtain⟨A,rfl⟩:∃A:Nat,sa=(A:Int):=⟨sa.toNat,V⟩;obtain⟨X,rfl⟩:∃X:Nat,sb=(X:Int):=⟨sb.toNat,V⟩;have hA:A<r:=V;have hX:X<D.length:=V;obtain⟨g,H,t1,u,f,F,t5,t6,t7,t8,t9⟩:=t.o.reg A hA;replace t1:=(z.cell (Ue t1)).trans t1;replace u:=u.below z;rw[VF,VF]at B;rw[VF]at Z;rcases kz with rfl|rfl
          . have h6:cL (wo.alloc (Z4 #[I .u8 0,I O (A:Int),I O (X:Int),I .u8 (L:Int)] 304)=wb):=hz;have qg:D.getD X []=D[X]:=(by simp[hX]);have q3:=h4.out.1 kb.out rfl;have kg:=k0.out rfl;rw[VF,qg]at q3 kg;rw[qg]at B;obtain⟨ax,cx,u1,u2⟩:=(qn.out X hX).2 q3.1;have M:=(z.cell (Ue u1)).trans u1;have hb:=u2.mono z;have qk:∀x∈D[X],x<256:=by obtain⟨_,_,_,_,_,h,_⟩:=u2;exact h
            obtain⟨wc,hh,ke,d⟩:=My wb.drew 3 g n n _ D[X] (ZV ax) cx u hb kg f;have HW:=ak ((ki.out.next (show bW wb wb.drew from⟨rfl,rfl,rfl,TV _,λ_ _=>rfl⟩)).write H f d ke kg qk (B.out rfl).1 (B.out rfl).2);rw[kg]at M hh;have kj:=ak hh;have z1:=d.cell (show wb.drew.cell? ⟨wo.heap.size,1,J⟩=_ from b1) ek;have z2:=d.cell (show wb.drew.cell? ⟨wo.heap.size,2,J⟩=_ from b2) ek;have z3:=d.cell (show wb.drew.cell? ⟨y,A,J⟩=_ from t1) ek;have z4:=d.cell (show wb.drew.cell? ⟨S,X,J⟩=_ from M) ek;clear hh ke d u1 u2 hb H u f F B Y Z kb k0 h4 q3 qk hz;go_wp2;rw[h6.out];go_region_held3(λw'=>w'.cell? ⟨wo.heap.size,1,J⟩=ZV (I O (A:Int))/\w'.cell? ⟨wo.heap.size,2,J⟩=ZV (I O (X:Int))/\w'.cell? ⟨y,A,J⟩=ZV (Z5 (ZV ⟨g,0,J⟩) n n)/\w'.cell? ⟨S,X,J⟩=ZV (Z5 (ZV ax) n cx))(first|exact⟨b1,b2,t1,M⟩|exact⟨z1,z2,z3,z4⟩)(refine JE rfl (Z0 49) (Z0 54) rfl _ _ _ rfl rfl kj.out ?_);go_wp2;go_roundw;case rel=>obtain⟨T',km⟩:=HW.o;exact⟨k+1,T',O',V,eT,km⟩
            case measure=>simp[intOf];omega
          . have h6:cL (wo.alloc (Z4 #[I .u8 2,I O (A:Int),I O (X:Int),I .u8 (L:Int)] 304)=wb):=hz;have hv:=ki.out.next (show bW wb wb.drew from⟨rfl,rfl,rfl,TV _,λ_ _=>rfl⟩);have hol:=hv.olen;have kv:=FH ⟨g,0,J⟩ n _ wb.drew (by have:=Bs.Sq (n:=n) (show aM wb.drew g _ from u) V V F;rw[UM V,f]at this;rw[f];exact this) V;rw[f]at kv;have qm:=ak kv;have k5:=ak hv;have q9:=ak (Z.out rfl);have kc:=ak f;have kk:=ak F;have q7:=ak (λj hj=>(t.o.outs.own.lt j hj).2);have qo:=ak (uY t.o.tab.own t.o.outs.own);have z1:wb.drew.cell? ⟨wo.heap.size,1,J⟩=ZV (I O (A:Int)):=b1;have z2:wb.drew.cell? ⟨wo.heap.size,2,J⟩=ZV (I O (X:Int)):=b2;have z3:wb.drew.cell? ⟨y,A,J⟩=ZV (Z5 (ZV ⟨g,0,J⟩) n n):=t1;clear kv hv H u f F B Y Z kb k0 h4 hz;go_wp2;rw[h6.out];go_region_held3(λw'=>w'.cell? ⟨wo.heap.size,1,J⟩=ZV (I O (A:Int))/\w'.cell? ⟨wo.heap.size,2,J⟩=ZV (I O (X:Int))/\w'.cell? ⟨y,A,J⟩=ZV (Z5 (ZV ⟨g,0,J⟩) n n))(first|exact⟨b1,b2,t1⟩|exact⟨N,Q,R⟩|exact⟨((bA _ _).cell (Ue N)).trans N,((bA _ _).cell (Ue Q)).trans Q,((bA _ _).cell (Ue R)).trans R⟩|exact⟨qr,xi,xj⟩)(first| (go_at_call 187;refine qm.out.mono ?_;rintro e wd⟨bd,m,rfl,qy,qv,x6,U'⟩;have N:=(U'.cell (Ue z1)).trans z1;have Q:=(U'.cell (Ue z2)).trans z2;have R:=(U'.cell (Ue z3)).trans z3)| (refine step_append_lies _ rfl (Z0 73) (Z0 83) 252 rfl w2.heap.size 256 i0 (.agg #[I O 0,Z5 J 0 0]) 2 32 underlying252 x2 x9 xa xb rfl ec u10 O'.length (ri O') rfl ((k5.out.next U').next (bA _ _)).outs.own ⟨wd.heap.size,0,J⟩ 1 1 [I O (X:Int),Z5 (ZV ⟨bd,0,J⟩) n (n+m)] rfl rfl (P8 _ _ rfl _ _ _) (by intro q hq;simp at hq;rcases hq with rfl|rfl<;>rfl) V eD V (by have:=((k5.out.next U').next ((TW _ _).alloc lR (Z4 #[I O (X:Int),Z5 (ZV ⟨bd,0,J⟩) n (n+m)] 256))).size;exact this) _ rfl ?_;intro g5 xk w5 k8 h8 qx x5;have qr:=h8.cell (((bA _ _).cell (Ue N)).trans N) (λe=>by have:=q7.out _ e.symm;simp at this);have xi:=h8.cell (((bA _ _).cell (Ue Q)).trans Q) (λe=>by have:=q7.out _ e.symm;simp at this);have xj:=h8.cell (((bA _ _).cell (Ue R)).trans R) (λe=>qo.out e.symm)));go_wp2;go_roundw;case rel=>exact⟨k+1,T,_,V,eT,k5.out.put U' qy qv kc.out V x6 kk.out h8 k8 q9.out.1 q9.out.2⟩
            case measure=>simp[intOf];omega
        . obtain⟨A,rfl⟩:∃A:Nat,sa=(A:Int):=⟨sa.toNat,V⟩;obtain⟨X,rfl⟩:∃X:Nat,sb=(X:Int):=⟨sb.toNat,V⟩;have hA:A<r:=V;have hX:X<r:=V;have qs:A≠X:=V;obtain⟨g,H,t1,u,f,F,t5,t6,t7,t8,t9⟩:=t.o.reg A hA;obtain⟨g',qf,s1,s2,s3,s4,s5,s6,s7,s8,s9⟩:=t.o.reg X hX;have qz:=t.o.reg_ne H qf qs;replace t1:=(z.cell (Ue t1)).trans t1;replace u:=u.below z;replace s1:=(z.cell (Ue s1)).trans s1;replace s2:=s2.below z;rw[VF,VF]at Y;subst x3;have h6:cL (wo.alloc (Z4 #[I .u8 1,I O (A:Int),I O (X:Int),I .u8 (L:Int)] 304)=wb):=hz;have hv:=ki.out.next (show bW wb wb.drew from⟨rfl,rfl,rfl,TV _,λ_ _=>rfl⟩);have kh:=ak (A8 g g' n L _ _ wb.drew qj u s2 f s3 qz F s4 V);have k5:=ak hv;have q5:=ak (Y.out rfl);have qq:=ak H;have kc:=ak f;have kk:=ak F;have z1:wb.drew.cell? ⟨wo.heap.size,1,J⟩=ZV (I O (A:Int)):=b1;have z2:wb.drew.cell? ⟨wo.heap.size,2,J⟩=ZV (I O (X:Int)):=b2;have z3:wb.drew.cell? ⟨wo.heap.size,3,J⟩=ZV (I .u8 (L:Int)):=b3;have z4:wb.drew.cell? ⟨y,A,J⟩=ZV (Z5 (ZV ⟨g,0,J⟩) n n):=t1;have z5:wb.drew.cell? ⟨y,X,J⟩=ZV (Z5 (ZV ⟨g',0,J⟩) n n):=s1;clear hv H qf u f F s2 s3 s4 B Y Z kb k0 h4 hz;go_wp2;rw[h6.out];go_region_held3(λw'=>w'.cell? ⟨wo.heap.size,1,J⟩=ZV (I O (A:Int))/\w'.cell? ⟨wo.heap.size,2,J⟩=ZV (I O (X:Int))/\w'.cell? ⟨wo.heap.size,3,J⟩=ZV (I .u8 (L:Int))/\w'.cell? ⟨y,A,J⟩=ZV (Z5 (ZV ⟨g,0,J⟩) n n)/\w'.cell? ⟨y,X,J⟩=ZV (Z5 (ZV ⟨g',0,J⟩) n n))(first|exact⟨b1,b2,b3,t1,s1⟩|exact⟨N,Q,R,y4,y5⟩)(first| (go_at_call 186;refine kh.out.mono ?_;rintro e wc⟨rfl,ke,d⟩;have N:=d.cell z1 ek;have Q:=d.cell z2 ek;have R:=d.cell z3 ek;have y4:=d.cell z4 ek;have y5:=d.cell z5 ek));go_wp2;go_roundw;case rel=>obtain⟨T',km⟩:=k5.out.write qq.out kc.out d ke (by rw[uX];exact kc.out) (JG kk.out qj) q5.out.1 q5.out.2;exact⟨k+1,T',O',V,eT,km⟩
          case measure=>simp[intOf];omega
      .have x4:k=P.length:=V;subst x4;have t:=ak W;clear W h hP V';go_wp2;go_ret2;refine⟨λ_ _=>⟨_,O',rfl,t.o.outs.weaken V,?_⟩,λ_ hl=>absurd ka.out hl,λE=>absurd q8.out E,kp⟩;rw[HN.o,VF];exact t.o.vals
   .have G:=ky C;subst G;have ka:=ak C;clear C kx ky;go_wp2;go_ret2;exact⟨λ_ hl=>absurd hl ka.out,λ_ _=>rfl,λE=>absurd q8.out E,k7⟩
 .have G:=ks J';subst G;have HN:=ak J';clear J' kr ks h0 h hP V' K kf;go_wp2;go_ret2;exact⟨λhp=>absurd hp HN.o,λhp=>absurd hp HN.o,λ_=>rfl,h5⟩
def fw(x:Nat):Nat:=x/2
def gu(x:Nat):Bool:=decide (x%2=1)
theorem Iw(D L G:Int){x y:Nat}(h:x≠y)(w:ZS):(Op.equal 236 (bS D L G (fw x:Nat) (gu x)) (bS D L G (fw y:Nat) (gu y))).run ZM w=.ok ZT w:=by
 by_cases a:fw x=fw y
 . have b:gu x≠gu y:=λe=>h (by
    unfold fw at a;unfold gu at e;have:(x%2=1)↔(y%2=1):=by
     constructor;.intro q;exact W5 (by rw[<-e];exact U4 q)
     .intro q;exact W5 (by rw[e];exact U4 q)
    omega);have d:(gu x==gu y)=ZT:=adV;rw[a];unfold bS Op.equal Op.maxDepth;go_simp
 . have c:(((fw x:Nat):Int)==((fw y:Nat):Int))=ZT:=by rw[beq_eq_false_iff_ne];omega
   unfold bS Op.equal Op.maxDepth;go_simp
def eJ(D L G:Int)(es:List (Nat×Nat×Nat)):List MapEntry:=es.map λe=>{key:=bS D L G (fw e.1:Nat) (gu e.1),val:=Z6 (ZV ⟨e.2.1,0,J⟩),born:=e.2.2}
def dm(es:List (Nat×Nat×Nat)):a7:=es.map (·.1)
def Ej(D L G:Int)(lost:Nat)(w:ZS):∀(es:List (Nat×Nat×Nat))(i:Nat),lost∉dm es->(Instr.findAsking 236 (bS D L G (fw lost:Nat) (gu lost)) (eJ D L G es) i).run ZM w=.ok J w
 |[],_,_=>by simp[eJ,Instr.findAsking]|e::es,i,h=>by
  have b:lost≠e.1:=λq=>by subst q;exact h (UG ..)
  have a:=Ej D L G lost w es (i+1) (λq=>h (Uo _ q));have c:=Iw D L G b w;unfold eJ at a⊢;simp only[U5,Instr.findAsking,UH,c,UV];simpa using a
def NA(D L G:Int)(w:ZS):∀(es:List (Nat×Nat×Nat))(i k:Nat)(a:k<es.length),(dm es).Nodup->(Instr.findAsking 236 (bS D L G (fw es[k].1:Nat) (gu es[k].1)) (eJ D L G es) i).run ZM w=.ok (ZV (i+k,Z6 (ZV ⟨es[k].2.1,0,J⟩))) w|[],_,_,a,_=>absurd a ej|e::es,i,0,_,_=>by have b:=P2 D L G (fw e.1:Nat) (gu e.1) w;unfold eJ;simp only[U5,Instr.findAsking,UH,adk,b,UV];simp|e::es,i,k+1,a,f=>by have c:k<es.length:=ua a;have g:es[k].1≠e.1:=λq=>(UO.1 f).1 (T9.2 ⟨es[k],T7 c,q⟩);have d:=NA D L G w es (i+1) k c (UO.1 f).2;have b:=Iw D L G g w;unfold eJ at d⊢;simp only[U5,Instr.findAsking,UH,Yc,b,UV];rw[(V:i+(k+1)=i+1+k)];simpa using d
def Ek(k:ZR)(x:MapEntry)(es:List MapEntry)(f:Array Field)(i:Nat):Instr.findNow (.struct f) k (x::es) i=J:=by simp[Instr.findNow,Instr.sameNow]
def Ad(D L G:Int){lost:Nat}{es:List (Nat×Nat×Nat)}(h:lost∉dm es)(w:ZS):(Instr.findKey 236 (bS D L G (fw lost:Nat) (gu lost)) (eJ D L G es)).run ZM w=.ok J w:=by have a:=Ej D L G lost w es 0 h;cases es with|nil=>simp[eJ,Instr.findKey,Instr.findNow,UP ady]|cons e es=>unfold eJ at a⊢;simp only[U5]at a⊢;simp only[Instr.findKey,UH,UP ady,UV,Ek];exact a
def Ix(D L G:Int){es:List (Nat×Nat×Nat)}{k:Nat}(b:k<es.length)(c:(dm es).Nodup)(w:ZS):(Instr.findKey 236 (bS D L G (fw es[k].1:Nat) (gu es[k].1)) (eJ D L G es)).run ZM w=.ok (ZV (k,Z6 (ZV ⟨es[k].2.1,0,J⟩))) w:=by have a:=NA D L G w es 0 k b c;rw[Uj]at a;cases es with|nil=>exact absurd b ej|cons e es=>unfold eJ at a⊢;simp only[U5]at a⊢;simp only[Instr.findKey,UH,UP ady,UV,Ek];exact a
def NC{D L G:Int}(h:w.heap[m]?=ZV (.map (eJ D L G es).toArray n)){lost:Nat}(hl:lost∉dm es):(Instr.lookup 275 (.map (ZV m)) (bS D L G (fw lost:Nat) (gu lost)) ZU).run ZM w=.ok (ZY #[.pointer J,Z1 ZT]) w:=by have a:=wg h;have b:=λe=>pY e D L G (fw lost:Nat) (gu lost) w;have c:=Ad D L G hl w;simp[Instr.lookup,UP Yn,a,b,c]
def Qa{D L G:Int}(h:w.heap[m]?=ZV (.map (eJ D L G es).toArray n)){k:Nat}(d:k<es.length)(f:(dm es).Nodup):(Instr.lookup 275 (.map (ZV m)) (bS D L G (fw es[k].1:Nat) (gu es[k].1)) ZU).run ZM w=.ok (ZY #[Z6 (ZV ⟨es[k].2.1,0,J⟩),Z1 ZU]) w:=by have a:=wg h;have b:=λe=>pY e D L G (fw es[k].1:Nat) (gu es[k].1) w;have c:=Ix D L G d f w;simp[Instr.lookup,UP Yn,a,b,c]
def Qb{D L G:Int}(h:w.heap[m]?=ZV (.map (eJ D L G es).toArray n)){lost:Nat}(hl:lost∉dm es)(nb:Nat):(Instr.mapUpdate 275 (.map (ZV m)) (bS D L G (fw lost:Nat) (gu lost)) (Z6 (ZV ⟨nb,0,J⟩))).run ZM w=.ok () (w.putObj m (.map (eJ D L G (es++[(lost,nb,n)])).toArray (n+1))):=by
 have a:=wg h;have b:=pY ZT D L G (fw lost:Nat) (gu lost) w;have c:=Ad D L G hl w;have d:(eJ D L G es).toArray.push {key:=bS D L G (fw lost:Nat) (gu lost),val:=Z6 (ZV ⟨nb,0,J⟩),born:=n}=(eJ D L G (es++[(lost,nb,n)])).toArray:=by simp[eJ]
 simp[Instr.mapUpdate,UP Yn,a,b,c,Ny h,d]
def Ae(D L G:Int):∀(es:List (Nat×Nat×Nat))(k:Nat),(eJ D L G es).eraseIdx k=eJ D L G (es.eraseIdx k)|[],_=>rfl|_::_,0=>rfl|e::es,k+1=>by have h:=Ae D L G es k;unfold eJ at h⊢;simp only[U5,List.eraseIdx_cons_succ,h]
def aa9{D L G:Int}(h:w.heap[m]?=ZV (.map (eJ D L G es).toArray n)){k:Nat}(d:k<es.length)(f:(dm es).Nodup)(t:ZO):(Builtin.delete_ #[275,236] t #[.map (ZV m),bS D L G (fw es[k].1:Nat) (gu es[k].1)]).run ZM w=.ok (ZY #[]) (w.putObj m (.map (eJ D L G (es.eraseIdx k)).toArray n)):=by have a:=wg h;have b:=λe=>pY e D L G (fw es[k].1:Nat) (gu es[k].1) w;have c:=Ix D L G d f w;simp[Builtin.delete_,UP Yn,a,b,c,Ny h,Ae]
def Qc{D L G:Int}(h:w.heap[m]?=ZV (.map (eJ D L G es).toArray n))(t:ZO):(Builtin.len_ #[275] t #[.map (ZV m)]).run ZM w=.ok (I O (es.length:Nat)) w:=by have a:=wg h;simp[Builtin.len_,UP Yn,a,eJ,goInt]
structure Gx where
 D:Int
 L:Int
 G:Int
 lost:Int
 rd:Bool
 regs:Int
 steps:ZR
def qQ(w:ZS)(S:Nat->Prop)(cn:Nat->Gx)(nw ol:Nat->Nat):Prop:=∀a,S a->jX w a (cn a).D (cn a).L (cn a).G (cn a).lost (cn a).rd (cn a).regs (cn a).steps (Z6 (ZV ⟨nw a,0,J⟩)) (Z6 (ZV ⟨ol a,0,J⟩))
def iQ(f:Nat->Nat)(a x:Nat):Nat->Nat:=λb=>if b=a then x else f b
def fj(f:Nat->Nat)(a x:Nat):iQ f a x a=x:=TT rfl
def fx{f:Nat->Nat}{a:Nat}(x:Nat)(h:b≠a):iQ f a x b=f b:=TS h
def qQ.S8{cn:Nat->Gx}(h:qQ w S cn nw ol)(a x:Nat):qQ (w.setCell ⟨a,7,J⟩ (Z6 (ZV ⟨x,0,J⟩))) S cn (iQ nw a x) ol:=λb c=>by
 by_cases e:b=a;.subst e;rw[fj];exact(h b c).S8 _
 .rw[fx x e];exact(h b c).keep (Uc _ _ _ _ e)
def qQ.SV{cn:Nat->Gx}(h:qQ w S cn nw ol)(a x:Nat):qQ (w.setCell ⟨a,8,J⟩ (Z6 (ZV ⟨x,0,J⟩))) S cn nw (iQ ol a x):=λb c=>by
 by_cases e:b=a;.subst e;rw[fj];exact(h b c).SV _
 .rw[fx x e];exact(h b c).keep (Uc _ _ _ _ e)
def qQ.keep{cn:Nat->Gx}(h:qQ w S cn nw ol)(d:aa T w w')(e:∀a,S a->¬T a):qQ w' S cn nw ol:=λb c=>(h b c).keep (d.block b (h b c).lt (e b c))
theorem sS{cn:Nat->Gx}(h:qQ w S cn nw ol){n:Nat}(c:S n)(a:S (nw n))(b:S (ol n)):ZQ ZM 201 #[Z6 (ZV ⟨n,0,J⟩)] w λe w'=>e=Z3 (ZY #[])/\qQ w' S cn (iQ nw (ol n) (nw n)) (iQ ol (nw n) (ol n))/\aa S w w':=by obtain⟨d,f,_,_⟩:=(h n c).cells;obtain⟨_,g,_,j⟩:=(h _ a).cells;obtain⟨i,_,k,_⟩:=((h.SV (nw n) (ol n)) _ b).cells;have H:=au ((h.SV (nw n) (ol n)).S8 (ol n) (nw n)) a b;generalize nw n=x at*;generalize ol n=y at*;generalize ol x=z at*;generalize nw y=l at*;go_enter func201,ntmps201;go_region;go_end0;exact⟨rfl,H.o.1,((aa.setCell _ _ _ H.o.2.1).trans (aa.setCell _ _ _ H.o.2.2)).trans (aa.drew _)⟩
theorem BH{cn:Nat->Gx}{room:Int}(hl:gq w sb room)(h:qQ w S cn nw ol){n:Nat}(a:S n)(c:S sb)(ho:S (ol sb)):ZQ ZM 202 #[Z6 (ZV ⟨sb+1+1,0,J⟩),Z6 (ZV ⟨n,0,J⟩)] w λe w'=>e=Z3 (ZY #[])/\qQ w' S cn (iQ (iQ nw n sb) (ol sb) n) (iQ (iQ ol n (ol sb)) sb n)/\aa S w w':=by
 have s:=(gO hl).2.2;obtain⟨m,_,b7,_⟩:=(h n a).cells;obtain⟨_,r,_,_⟩:=(h sb c).cells;have d:=h.S8 n sb;obtain⟨_,p,_,q⟩:=(d n a).cells;have i:=d.SV n (ol sb);obtain⟨w2,g⟩:=nM (((w.setCell ⟨n,7,J⟩ (Z6 (ZV ⟨sb,0,J⟩))).setCell ⟨n,8,J⟩ (Z6 (ZV ⟨ol sb,0,J⟩))).drew);have b:qQ w2 S cn (iQ nw n sb) (iQ ol n (ol sb)):=by rw[<-g];exact i
 have j:aa S w w2:=by rw[<-g];exact((aa.setCell _ _ _ a).trans (aa.setCell _ _ _ a)).trans (aa.drew _)
 obtain⟨k,l,_,_⟩:=(b n a).cells;rw[fj]at k l;have f:=b.SV sb n;obtain⟨_,t,_,t8⟩:=(b sb c).cells;obtain⟨u,_,v,_⟩:=(f (ol sb) ho).cells;have H:=aE (f.S8 (ol sb) n) j c ho;generalize ol sb=y at*;generalize iQ ol n y sb=z at*;generalize iQ nw n sb y=x at*;generalize nw n=A at*;generalize ol n=B at*;go_enter func202,ntmps202;go_wp2;go_region;go_wp2;go_region;go_end0;exact⟨rfl,H.o.1,H.o.2.1.trans (((aa.setCell _ _ _ H.o.2.2.1).trans (aa.setCell _ _ _ H.o.2.2.2)).trans (aa.drew _))⟩
def xM(nw ol:Nat->Nat):Nat->a7->Nat->Prop|a,[],b=>ol a=b/\nw b=a|a,n::ns,b=>(ol a=n/\nw n=a)/\xM nw ol n ns b
theorem xM.congr{nw' ol':Nat->Nat}:∀{ns:a7}{a b:Nat},xM nw ol a ns b->(∀x∈a::ns,ol' x=ol x)->(∀x∈ns++[b],nw' x=nw x)->xM nw' ol' a ns b|[],a,b,h,c,d=>⟨(c a (UG ..)).trans h.1,(d b ej).trans h.2⟩|n::ns,a,b,h,c,d=>⟨⟨(c a (UG ..)).trans h.1.1,(d n ej).trans h.1.2⟩,xM.congr h.2 (λx e=>c x (Uo _ e)) (λx e=>d x (by rw[U1];exact Uo _ e))⟩
def xM.Si{ns:a7}{a:Nat}(h:xM nw ol a ns b):ol a=b/\ns=[]\/ol a∈ns:=by cases ns with|nil=>exact .inl ⟨h.1,rfl⟩|cons n ns=>exact .inr (by rw[h.1.1];exact UG ..)
def xM.last:∀{ns:a7}{a b:Nat},xM nw ol a ns b->(c:ns≠[])->nw b=ns.getLast c|[],_,_,_,c=>absurd rfl c|[_],_,_,h,_=>h.2.2|_::m::ns,_,_,h,_=>by rw[List.getLast_cons ej];exact xM.last h.2 ej
theorem xM.put{ns:a7}(h:xM nw ol sb ns sb)(d:(sb::ns).Nodup)(c:n∉sb::ns):xM (iQ (iQ nw n sb) (ol sb) n) (iQ (iQ ol n (ol sb)) sb n) sb (n::ns) sb:=by
 have b:n≠sb:=λe=>c (e▸UG ..);have j:n≠ol sb:=λe=>by
  rcases h.Si with q|q;.exact b (e.trans q.1)
  .exact c (Uo _ (e▸q))
 refine⟨⟨fj _ _ _,by rw[fx _ j,fj]⟩,?_⟩;cases ns with|nil=>exact⟨by rw[fx _ b,fj];exact h.1,by rw[h.1,fj]⟩|cons m o=>
  have f:=h.1.1;refine⟨⟨by rw[fx _ b,fj];exact f,by rw[f,fj]⟩,h.2.congr (λx a=>?_) (λx a=>?_)⟩;.have g:x≠sb:=λe=>(UO.1 d).1 (e▸a);have i:x≠n:=λe=>c (Uo _ (e▸a));rw[fx _ g,fx _ i]
  . have k:x≠m:=λe=>by
     subst e;rcases Ui.1 a with q|q;.exact(UO.1 (UO.1 d).2).1 q
     .rw[Va]at q;subst q;exact(UO.1 d).1 (UG ..)
    have l:x≠n:=λe=>by
     subst e;rcases Ui.1 a with q|q;.exact c (Uo _ (Uo _ q))
     .rw[Va]at q;exact b q
    rw[f,fx _ k,fx _ l]
theorem xM.take{r:a7}:∀{l:a7}{a b:Nat},xM nw ol a (l++n::r) b->(a::(l++n::r)).Nodup->b∉l++n::r->xM (iQ nw (ol n) (nw n)) (iQ ol (nw n) (ol n)) a (l++r) b/\nw n∈a::l/\(ol n∈r\/ol n=b)
 |[],a,b,h,j,i=>by have d:(ol a=n/\nw n=a)/\xM nw ol n r b:=h;obtain⟨⟨_,t⟩,g⟩:=d;rw[t];refine⟨?_,UG ..,g.Si.elim (λq=>.inr q.1) .inl⟩;cases r with|nil=>exact⟨by rw[fj];exact g.1,by rw[g.1,fj]⟩|cons m rs=>
   have k:=g.1.1;have f:=(UO.1 (UO.1 j).2).2;refine⟨⟨by rw[fj];exact k,by rw[k,fj]⟩,g.2.congr (λx o=>?_) (λx o=>?_)⟩;.exact fx _ λe=>(UO.1 j).1 (by rw[<-e];exact Uo _ o)
   . rw[k];refine fx _ λe=>?_;subst e;rcases Ui.1 o with q|q;.exact(UO.1 f).1 q
     .rw[Va]at q;subst q;exact i ej
 |c::l,a,b,h,j,i=>by
  have d:(ol a=c/\nw c=a)/\xM nw ol c (l++n::r) b:=h;have f:=UO.1 j;obtain⟨u,p,s⟩:=xM.take d.2 f.2 (λq=>i (Uo _ q));refine⟨⟨⟨?_,?_⟩,u⟩,Uo _ p,s⟩
  . rw[fx _ λe=>f.1 (by
     rw[e];rcases Uu.1 p with q|q;.rw[q];exact UG ..
     .exact Uo _ (UB _ q))];exact d.1.1
  . rw[fx _ λe=>by
     rcases s with q|q;.exact(UO.1 f.2).1 (by rw[e];exact VQ _ (Uo _ q))
     .exact i (by rw[<-q,<-e];exact UG ..)];exact d.1.2
theorem Gy{room:Int}(hl:gq w sb room){D L G:Int}{es:List (Nat×Nat×Nat)}(i:w.heap[sb+1]?=ZV (.map (eJ D L G es).toArray n)){x:Nat}(y:x∉dm es):ZQ ZM 180 #[Z6 (ZV ⟨sb+1+1,0,J⟩),bS D L G (fw x:Nat) (gu x)] w λe w'=>e=Z3 (ZY #[.agg #[I O 0,Z5 J 0 0],Z1 ZT])/\bW w w':=by
 have l1:w.cell? ⟨sb+1+1,1,J⟩=ZV (.map (ZV (sb+1))):=by have u:w.heap[sb+1+1]?=_:=hl;simp[World.cell?,u]
 have k:∀w',bW w w'->(Instr.lookup 275 (.map (ZV (sb+1))) (bS D L G (fw x:Nat) (gu x)) ZU).run ZM w'=.ok (ZY #[.pointer J,Z1 ZT]) w':=λw' z=>NC ((z.block _ (TX.1 i).1).trans i) y;obtain⟨w2,f⟩:=nM ((w.alloc (Z4 #[I O D,I O L,I O G,I Z8 (fw x:Nat),Z1 (gu x)] 236)).alloc (Z4 #[I O 0,Z5 J 0 0] 210));have a:bW w w2:=by rw[<-f];exact(bA w _).alloc ej _
 have d:w2.heap[w.heap.size]?=ZV (Z4 #[I O D,I O L,I O G,I Z8 (fw x:Nat),Z1 (gu x)] 236 (0,0)):=by rw[<-f];exact(UE _ _ _ ej).trans (Ug _ _)
 have c0:w2.cell? ⟨w.heap.size,0,J⟩=ZV (I O D):=B8;have c1:w2.cell? ⟨w.heap.size,1,J⟩=ZV (I O L):=B8;have r:w2.cell? ⟨w.heap.size,2,J⟩=ZV (I O G):=B8;have s:w2.cell? ⟨w.heap.size,3,J⟩=ZV (I Z8 (fw x:Nat)):=B8;have t:w2.cell? ⟨w.heap.size,4,J⟩=ZV (Z1 (gu x)):=B8;have h:w2.heap[w.heap.size+1]?=ZV (Z4 #[I O 0,Z5 J 0 0] 210 (0,0)):=by have:=Ug (w.alloc (Z4 #[I O D,I O L,I O G,I Z8 (fw x:Nat),Z1 (gu x)] 236)) (Z4 #[I O 0,Z5 J 0 0] 210);rw[Um]at this;rw[<-f];exact this
 have A:=(a.cell (p:=⟨sb+1+1,1,J⟩) (Ue l1)).trans l1;have j:=k w2.drew a.drew;unfold bS at j⊢;have c:w2.heap.size=w.heap.size+2:=by rw[<-f];simp
 have H:=au a h c;clear hl i k a d h c;go_enter func180,ntmps180;go_wp2;go_region;obtain⟨a,h,c⟩:=H.o;have b:bW w2 (w2.drew.alloc (Z4 #[I O 0,Z5 J 0 0] 210)):=((TW _ w2).drew).alloc lR _;obtain⟨C,m⟩:=nM (w2.drew.alloc (Z4 #[I O 0,Z5 J 0 0] 210));rw[m]at b;have g:=(b.block (w.heap.size+1) V).trans h;obtain⟨W,Z,F,E⟩:=aB g;have l:C.heap[w2.heap.size]?=ZV (Z4 #[I O 0,Z5 J 0 0] 210 (0,0)):=by rw[<-m];exact Ug w2.drew _
 obtain⟨K,M,_,_⟩:=aB l;have q:=aE g b a c;clear a h c b g l c0 c1 r s t l1 A j f;go_wp2;obtain⟨g,b,a,c⟩:=q.o;obtain⟨n0,B,_⟩:=aB (jo (y':=Z5 J 0 0) (jn (x':=I O 0) g));refine Uv (v:=ZY #[.agg #[I O 0,Z5 J 0 0],Z1 ZT]) (by simp[results,results180,go_sem,n0,B]) rfl ?_;exact⟨rfl,((a.trans (b.mono a.size)).setCell (p:=⟨w.heap.size+1,0,J⟩) eP _).setCell (p:=⟨w.heap.size+1,1,J⟩) eP _⟩
theorem Kq{room:Int}{D L G:Int}{cn:Nat->Gx}(hl:gq w sb room)(M:w.heap[sb+1]?=ZV (.map (eJ D L G es).toArray n))(K:k<es.length)(U':(dm es).Nodup)(k6:es[k].1=x)(V':es[k].2.1=nb)(h:qQ w S cn nw ol)(s:∀a,S a->a≠sb+1/\a≠sb+1+1)(f:S nb)(R:S (nw nb))(I':S (ol nb))(y:S sb)(T:S (ol sb))(t:cn nb=⟨D,L,G,(fw x:Nat),gu x,regs,.slice ao m c⟩):ZQ ZM 180 #[Z6 (ZV ⟨sb+1+1,0,J⟩),bS D L G (fw x:Nat) (gu x)] w λe w'=>e=Z3 (ZY #[.agg #[I O regs,.slice ao m c],Z1 ZU])/\qQ w' S cn (iQ (iQ (iQ nw (ol nb) (nw nb)) nb sb) (iQ ol (nw nb) (ol nb) sb) nb) (iQ (iQ (iQ ol (nw nb) (ol nb)) nb (iQ ol (nw nb) (ol nb) sb)) sb nb)/\aa S w w':=by
 obtain⟨w2,z⟩:=nM ((w.alloc (Z4 #[I O D,I O L,I O G,I Z8 (fw x:Nat),Z1 (gu x)] 236)).alloc (Z4 #[I O 0,Z5 J 0 0] 210));have b:bW w w2:=by rw[<-z];exact(bA w _).alloc ej _
 have j:w2.heap.size=w.heap.size+2:=by rw[<-z];simp
 have l:w2.heap[w.heap.size]?=ZV (Z4 #[I O D,I O L,I O G,I Z8 (fw x:Nat),Z1 (gu x)] 236 (0,0)):=by rw[<-z];exact(UE _ _ _ ej).trans (Ug _ _)
 have c0:w2.cell? ⟨w.heap.size,0,J⟩=ZV (I O D):=Zn;have c1:w2.cell? ⟨w.heap.size,1,J⟩=ZV (I O L):=Zn;have c2:w2.cell? ⟨w.heap.size,2,J⟩=ZV (I O G):=Zn;have c3:w2.cell? ⟨w.heap.size,3,J⟩=ZV (I Z8 (fw x:Nat)):=Zn;have c4:w2.cell? ⟨w.heap.size,4,J⟩=ZV (Z1 (gu x)):=Zn;have B:w2.heap[w.heap.size+1]?=ZV (Z4 #[I O 0,Z5 J 0 0] 210 (0,0)):=by have:=Ug (w.alloc (Z4 #[I O D,I O L,I O G,I Z8 (fw x:Nat),Z1 (gu x)] 236)) (Z4 #[I O 0,Z5 J 0 0] 210);rw[Um]at this;rw[<-z];exact this
 have hll:sb+1+1<w.heap.size:=(TX.1 hl).1;have i:gq w2 sb room:=(b.block _ hll).trans hl;have l1:=(gO i).2.1;have W:qQ w2 S cn nw ol:=λa g=>(h a g).keep (b.block _ (h a g).lt);have d:∀a,S a->a<w.heap.size:=λa g=>(h a g).lt;have O':=Qa (w:=w2.drew) ((b.block _ (TX.1 M).1).trans M) K U';rw[k6,V']at O';have k5:=sS (w:=w2.drew) (show qQ w2.drew S cn nw ol from W) f R I';have r:S (iQ ol (nw nb) (ol nb) sb):=by
  by_cases e:sb=nw nb;.rw[e,fj];exact I'
  .rw[fx _ e];exact T
 unfold bS at O'⊢;have H:=hide12 b B j i d s f y r t hll k5;go_enter func180,ntmps180;go_wp2;go_region;go_wp2_with fail;refine H.o.2.2.2.2.2.2.2.2.2.2.2.mono ?_;rintro e E⟨rfl,X,Y⟩;obtain⟨b,B,j,i,d,s,f,y,r,t,hll,_⟩:=H.o;have J':aa S w2 E:=(aa.drew w2).trans Y;have k0:=BH (w:=E) (n:=nb) (show gq E sb room from(J'.block _ V (λq=>(s _ q).2 rfl)).trans i) X f y r;have F:=al J' k0;go_wp2_with fail;refine F.o.2.mono ?_;rintro e C⟨rfl,u,Z⟩;obtain⟨b,B,j,i,d,s,f,y,r,t,hll,_⟩:=H.o;have p:aa S w2 C:=F.o.1.trans Z;have A:=(p.block (w.heap.size+1) V (λq=>ia (d _ q))).trans B;have P:=(u nb f).value;rw[t]at P;obtain⟨v5,v6⟩:=P;obtain⟨r0,r1,g1,g0⟩:=aB A;have Q:=a6 u p A b j d;go_wp2;obtain⟨u,p,A,b,j,d⟩:=Q.o;obtain⟨n0,n1,_⟩:=aB (jo (y':=.slice ao m c) (jn (x':=I O regs) A));refine Uv (v:=ZY #[.agg #[I O regs,.slice ao m c],Z1 ZU]) (by simp[results,results180,go_sem,n0,n1]) rfl ?_;have N:aa (λk=>k=w.heap.size+1) C ((C.setCell ⟨w.heap.size+1,0,J⟩ (I O regs)).setCell ⟨w.heap.size+1,1,J⟩ (.slice ao m c)):=gk C (w.heap.size+1) 0 1 _ _;exact⟨rfl,u.keep N (λa g e=>ia (d a g)),((aa.RK b _).trans p).later N (λk K q=>V)⟩
theorem BI{cn:Nat->Gx}{room:Int}(hl:gq w sb room){n:Nat}{ne0 f:ZR}(k:jX w n (cn n).D (cn n).L (cn n).G (cn n).lost (cn n).rd (cn n).regs (cn n).steps ne0 f)(h:qQ w (λa=>S a/\a≠n) cn nw ol)(c:S n)(d:S sb)(p:sb≠n)(ho:S (ol sb)):ZQ ZM 202 #[Z6 (ZV ⟨sb+1+1,0,J⟩),Z6 (ZV ⟨n,0,J⟩)] w λe w'=>e=Z3 (ZY #[])/\qQ w' S cn (iQ (iQ nw n sb) (ol sb) n) (iQ (iQ ol n (ol sb)) sb n)/\aa S w w':=by
 have A:=(gO hl).2.2;obtain⟨t,_,b7,_⟩:=k.cells;obtain⟨_,x,_,_⟩:=(h sb ⟨d,p⟩).cells;have i:=k.S8 (Z6 (ZV ⟨sb,0,J⟩));obtain⟨_,u,_,v⟩:=i.cells;have l:qQ ((w.setCell ⟨n,7,J⟩ (Z6 (ZV ⟨sb,0,J⟩))).setCell ⟨n,8,J⟩ (Z6 (ZV ⟨ol sb,0,J⟩))) S cn (iQ nw n sb) (iQ ol n (ol sb)):=λa q=>by
  by_cases e:a=n;.subst e;rw[fj,fj];exact i.SV _
  .rw[fx _ e,fx _ e];exact((h a ⟨q,e⟩).keep (Uc _ _ _ _ e)).keep (Uc _ _ _ _ e)
 obtain⟨w2,j⟩:=nM (((w.setCell ⟨n,7,J⟩ (Z6 (ZV ⟨sb,0,J⟩))).setCell ⟨n,8,J⟩ (Z6 (ZV ⟨ol sb,0,J⟩))).drew);have b:qQ w2 S cn (iQ nw n sb) (iQ ol n (ol sb)):=by rw[<-j];exact l
 have m:aa S w w2:=by rw[<-j];exact((aa.setCell _ _ _ c).trans (aa.setCell _ _ _ c)).trans (aa.drew _)
 obtain⟨r,s,_,_⟩:=(b n c).cells;rw[fj]at r s;have g:=b.SV sb n;obtain⟨_,B,_,t8⟩:=(b sb d).cells;obtain⟨C,_,E,_⟩:=(g (ol sb) ho).cells;have H:=aE (g.S8 (ol sb) n) m d ho;generalize ol sb=y at*;generalize iQ ol n y sb=z at*;generalize iQ nw n sb y=F at*;go_enter func202,ntmps202;go_wp2;go_region;go_wp2;go_region;go_end0;exact⟨rfl,H.o.1,H.o.2.1.trans (((aa.setCell _ _ _ H.o.2.2.1).trans (aa.setCell _ _ _ H.o.2.2.2)).trans (aa.drew _))⟩
def cnN(cn:Nat->Gx)(N:Nat)(c:Gx):Nat->Gx:=λa=>if a=N then c else cn a
def jX.key{D L G:Int}{rd:Bool}{ol:ZR}(h:jX w n D L G lost rd regs steps ne ol):w.cell? ⟨n,0,J⟩=ZV (I O D)/\w.cell? ⟨n,1,J⟩=ZV (I O L)/\w.cell? ⟨n,2,J⟩=ZV (I O G)/\w.cell? ⟨n,3,J⟩=ZV (I Z8 lost)/\w.cell? ⟨n,4,J⟩=ZV (Z1 rd):=by have a:w.heap[n]?=ZV (Z4 (nV D L G lost rd regs steps ne ol) 274 (0,0)):=h;simp[World.cell?,a,nV]
def Rb(w':ZS)(sb:Nat)(room:Int)(D L G:Int)(es:List (Nat×Nat×Nat))(S:Nat->Prop)(cn:Nat->Gx)(nw ol:Nat->Nat):Prop:=(((es.length:Nat):Int)<=room->(∃n,w'.heap[sb+1]?=ZV (.map (eJ D L G es).toArray n))/\qQ w' S cn nw ol)/\(room<((es.length:Nat):Int)->∃j,∃hj:j<es.length,es[j].2.1=nw sb/\(∃n,w'.heap[sb+1]?=ZV (.map (eJ D L G (es.eraseIdx j)).toArray n))/\qQ w' S cn (iQ nw (ol (nw sb)) (nw (nw sb))) (iQ ol (nw (nw sb)) (ol (nw sb))))
theorem Gz{room:Int}{D L G:Int}{cn:Nat->Gx}(hl:gq w sb room)(hm:w.heap[sb+1]?=ZV (.map (eJ D L G es).toArray n))(q2:x∉dm es)(h:qQ w S cn nw ol)(i:∀a,S a->a≠sb+1/\a≠sb+1+1)(z:S sb)(E:S (ol sb)){N:Nat}(hN:N=w.heap.size+1+1){cn':Nat->Gx}(k5:cn'=cnN cn N ⟨D,L,G,(fw x:Nat),gu x,regs,.slice ao m c⟩){nw' p:Nat->Nat}(k8:nw'=iQ (iQ nw N sb) (ol sb) N)(k9:p=iQ (iQ ol N (ol sb)) sb N){b:List (Nat×Nat×Nat)}(k6:b=es++[(x,N,n)])(hB:room<((b.length:Nat):Int)->(dm b).Nodup/\∃j,∃hj:j<b.length,b[j].2.1=nw' sb/\(∃rg st,cn' (nw' sb)=⟨D,L,G,(fw b[j].1:Nat),gu b[j].1,rg,st⟩)/\(nw' sb=N\/S (nw' sb))/\(nw' (nw' sb)=N\/S (nw' (nw' sb)))/\(p (nw' sb)=N\/S (p (nw' sb)))):ZQ ZM 182 #[Z6 (ZV ⟨sb+1+1,0,J⟩),bS D L G (fw x:Nat) (gu x),.agg #[I O regs,.slice ao m c]] w λe w'=>e=Z3 (ZY #[])/\Rb w' sb room D L G b (λa=>a=N\/S a) cn' nw' p/\aa (λk=>S k\/k=sb+1) w w':=by
 subst hN;obtain⟨d,ki⟩:=nM (((w.alloc (Z4 #[I O D,I O L,I O G,I Z8 (fw x:Nat),Z1 (gu x)] 236)).alloc (Z4 #[I O regs,.slice ao m c] 210)).alloc (Z4 #[I O D,I O L,I O G,I Z8 (fw x:Nat),Z1 (gu x),I O regs,.slice ao m c,.pointer J,.pointer J] 274));have f:bW w d:=by rw[<-ki];exact((bA w _).alloc ej _).alloc ek _
 obtain⟨O',_,hn⟩:=nW w (Z4 #[I O D,I O L,I O G,I Z8 (fw x:Nat),Z1 (gu x)] 236) (Z4 #[I O regs,.slice ao m c] 210) (Z4 #[I O D,I O L,I O G,I Z8 (fw x:Nat),Z1 (gu x),I O regs,.slice ao m c,.pointer J,.pointer J] 274);rw[ki]at O' hn;have J':jX d (w.heap.size+1+1) D L G (fw x:Nat) (gu x) regs (.slice ao m c) (.pointer J) (.pointer J):=hn;have hll:sb+1+1<w.heap.size:=(TX.1 hl).1;have r:gq d sb room:=(f.block _ hll).trans hl;have kx:=(f.block _ V).trans hm;have Q:qQ d S cn nw ol:=λa g=>(h a g).keep (f.block _ (h a g).lt);have u:∀a,S a->a<w.heap.size:=λa g=>(h a g).lt;have c0:d.cell? ⟨w.heap.size,0,J⟩=ZV (I O D):=(by simp[World.cell?,O']);have c1:d.cell? ⟨w.heap.size,1,J⟩=ZV (I O L):=(by simp[World.cell?,O']);have c2:d.cell? ⟨w.heap.size,2,J⟩=ZV (I O G):=(by simp[World.cell?,O']);have c3:d.cell? ⟨w.heap.size,3,J⟩=ZV (I Z8 (fw x:Nat)):=(by simp[World.cell?,O']);have c4:d.cell? ⟨w.heap.size,4,J⟩=ZV (Z1 (gu x)):=(by simp[World.cell?,O']);obtain⟨_,l1,_⟩:=gO r;have kg:=Qb (w:=d.drew) kx q2 (w.heap.size+1+1);have l:aa (λk=>k=sb+1) d (d.drew.putObj (sb+1) (.map (eJ D L G (es++[(x,w.heap.size+1+1,n)])).toArray (n+1))):=(aa.drew d).trans (aa.putObj _ _ _ rfl);have v:(d.drew.putObj (sb+1) (.map (eJ D L G (es++[(x,w.heap.size+1+1,n)])).toArray (n+1))).heap[sb+1]?=ZV (.map (eJ D L G (es++[(x,w.heap.size+1+1,n)])).toArray (n+1)):=by have hz:=f.size;unfold World.putObj;exact YR (by show sb+1<d.heap.size;omega)
 obtain⟨w4,q1⟩:=nM (d.drew.putObj (sb+1) (.map (eJ D L G (es++[(x,w.heap.size+1+1,n)])).toArray (n+1)));rw[q1]at kg l v;unfold bS at kg⊢;have P:=a5 k5 k8 k9 k6 hB;clear k5 k8 k9 k6 hB;have H:=hide11 f J' r Q l v hll u i z E;clear hl hm h f J' r kx Q l v O' hn q1 u i z E q2;go_enter func182,ntmps182;go_wp2;go_region;clear c0 c1 c2 c3 c4 l1 kg ki;obtain⟨f,J',r,Q,l,v,hll,u,i,z,E⟩:=H.o;have kz:=J'.lt;have kj:∀a,S a->a≠w.heap.size+1+1:=λa g=>ia (u a g);have ko:cn' (w.heap.size+1+1)=⟨D,L,G,(fw x:Nat),gu x,regs,.slice ao m c⟩:=by rw[P.o.1];exact TT rfl
 have kp:∀a,S a->cn' a=cn a:=λa g=>by rw[P.o.1];exact TS (kj a g)
 have q0:=BI (w:=w4) (S:=λa=>a=w.heap.size+1+1\/S a) (cn:=cn') (nw:=nw) (ol:=ol) (n:=w.heap.size+1+1) (show gq w4 sb room from(l.block _ V V).trans r) (by rw[ko];exact J'.keep (l.block _ J'.lt V)) (λa g=>by have Z:=g.1.resolve_left g.2;rw[kp a Z];exact(Q a Z).keep (l.block _ (Q a Z).lt (i a Z).1)) (.inl rfl) (.inr z) (kj sb z) (.inr E);have H4:=hide7 v l r f kz hll q0;clear f J' r Q l v q0 ko kp;go_wp2_with fail;refine H4.o.2.2.2.2.2.2.mono ?_;rintro e w5⟨rfl,B,C⟩;obtain⟨v,l,r,f,kz,hll,_⟩:=H4.o;obtain⟨_,_,_,_,_,_,_,u,i,z,E⟩:=H.o;have X:aa (λk=>k=sb+1\/k=w.heap.size+1+1\/S k) d w5:=(l.mono λ_ _ q=>.inl q).trans (C.mono λ_ _ q=>.inr q);have I':gq w5 sb room:=(X.block _ V (λq=>by
  rcases q with q|q|q;.omega
  .omega
  .exact(i _ q).2 rfl)).trans r;have q5:=l.size;have s:=(C.block (sb+1) V (λq=>by
  rcases q with q|q;.omega
  .exact(i _ q).1 rfl)).trans v;obtain⟨l0,l1,l2⟩:=gO I';have kf:=λt=>Qc (w:=w5.drew) s t;have Y:aa (λk=>S k\/k=sb+1) w w5:=(aa.RK f _).later X (λk hk q=>by
  rcases q with q|q|q;.exact .inr q
  .omega
  .exact .inl q);rw[<-P.o.2.1,<-P.o.2.2.1]at B;rw[<-P.o.2.2.2.1]at s kf;obtain⟨K,hK⟩:=nM (b.length);rw[hK]at kf;by_cases hr:(K:Int)<=room;. have q3:¬(room<(K:Int)):=V;have U':decide (room<(K:Int))=ZT:=Vk q3;have W:=aE B s Y hK;clear v l r X I' s B C Y i z E u f hK;go_wp2;go_region;go_wp2;go_end0;obtain⟨B,s,hO,hK⟩:=W.o;exact⟨rfl,⟨λ_=>⟨⟨_,s⟩,B⟩,λq=>by rw[hK]at q;omega⟩,hO.trans (aa.drew _)⟩
 . have q4:room<(K:Int):=V;obtain⟨U',j,hj,R,⟨rg,st,T⟩,F,kc,ke⟩:=P.o.2.2.2.2 (by rw[hK];exact q4);obtain⟨e7,_,_,_⟩:=(B sb (.inr z)).cells;have kh:=sS (w:=w5.drew) (show qQ w5.drew (λa=>a=w.heap.size+1+1\/S a) cn' nw' p from B) F kc ke;obtain⟨q,M⟩:=nM (nw' sb);rw[M]at R T F kc ke e7 kh;have W:=hide13 I' s Y hK U' R T F kh M i u f;clear v l r X I' s B C Y i z E u f hK U' R T F kc ke kh M;go_wp2;go_region;go_wp2_with fail;refine W.o.2.2.2.2.2.2.2.2.1.mono ?_;rintro e A⟨rfl,kb,kk⟩;clear l0 l1 l2 e7 kf;obtain⟨I',s,C,hK,U',R,T,F,_,M,i,u,f⟩:=W.o;have V':aa (λa=>a=w.heap.size+1+1\/S a) w5 A:=(aa.drew w5).trans kk;have q6:=C.size;have kv:gq A sb room:=(V'.block _ V (λe=>by
    rcases e with e|e;.omega
    .exact(i _ e).2 rfl)).trans I';have ky:=(V'.block (sb+1) V (λe=>by
    rcases e with e|e;.omega
    .exact(i _ e).1 rfl)).trans s;obtain⟨_,l1,_⟩:=gO kv;have ks:=(kb q F).key;rw[T]at ks;obtain⟨c0,c1,c2,c3,c4⟩:=ks;have kr:=λt=>aa9 (w:=A.drew) ky hj U' t;obtain⟨y,hy⟩:=nM (b[j].1);rw[hy]at kr c3 c4;unfold bS at kr;have k7:Rb (A.drew.putObj (sb+1) (.map (eJ D L G (b.eraseIdx j)).toArray (n+1))) sb room D L G b (λa=>a=w.heap.size+1+1\/S a) cn' nw' p/\aa (λk=>S k\/k=sb+1) w (A.drew.putObj (sb+1) (.map (eJ D L G (b.eraseIdx j)).toArray (n+1))):=by
    have km:aa (λk=>k=sb+1) A (A.drew.putObj (sb+1) (.map (eJ D L G (b.eraseIdx j)).toArray (n+1))):=(aa.drew A).trans (aa.putObj _ _ _ rfl);have q7:=V'.size;refine⟨⟨λe=>by rw[hK]at e;omega,λ_=>⟨j,hj,R.trans M.symm,⟨n+1,?_⟩,?_⟩⟩,?_⟩;.unfold World.putObj;exact YR (by show sb+1<A.heap.size;omega)
    .rw[M];exact kb.keep km (λa g e=>by
       rcases g with g|g;.omega
       .exact(i a g).1 e)
    .exact(C.later V' (λk hk e=>by
       rcases e with e|e;.omega
       .exact .inl e)).later km (λk hk e=>.inr e)
   have H6:=ak k7;clear k7 I' s C hK U' R T F M i u f V' kv ky kb kk hy;go_wp2;go_region;go_end0;exact⟨rfl,H6.o⟩
def BJ(ao:Option Addr)(a:Nat)(w:ZS):(convert 36 9 (.slice ao 0 a)).run ZM w=.ok (ZZ YI) w:=by rw[run_convert_bytes_string w 36 9 5 ao 0 a Ur Xq acZ];cases ao<;>simp[Conv.bytesToString,loadCells,loadCellsFrom]
theorem Bs.sub{off:Nat}(h:Bs w (Z5 (ZV ⟨b,off,J⟩) bl c) l)(i n d:Nat)(f:i+n<=l.length)(p:n<=d):Bs w (Z5 (ZV ⟨b,off+i,J⟩) n d) ((l.drop i).take n):=by
 obtain⟨ao,c0,e,t,u,m,o⟩:=h;injection e with e1 e2 e3;have hl:((l.drop i).take n).length=n:=by rw[Uq,Un];omega
 refine⟨ZV ⟨b,off+i,J⟩,d,by rw[hl],by rw[hl];exact p,by rw[hl];omega,λx r=>m x (UW (US r)),λv=>⟨b,off+i,rfl,λk g=>?_⟩⟩;rw[hl]at g;obtain⟨s,y,a,j⟩:=o (λq=>by rw[q]at f;simp at f;omega);rw[<-e1]at a;injection a with a;injection a with e5 e6;subst e5 e6;have:=j (i+k) V;rw[Vt,this];congr 3;rw[Ub,Ub,VK g,Wm]
def El(a b:a7)(n k:Nat)(h:a.length=n):(a++b).drop (n+k)=b.drop k:=by subst h;rw[<-VH,List.drop_left]
def ND{o:Ob}(ho:o.fit)(rest:a7):(bV o++rest).getD 0 0=o.name.size:=by
 unfold bV;have:be o.name.size 1=[o.name.size]:=by have:=ho.name.2;simp[be];omega
 rw[this];rfl
def Kr(o:Ob)(rest:a7):((bV o++rest).drop 1).take o.name.size=o.name.toList.map (λ(b:UInt8)=>b.toNat):=by
 have:(be o.name.size 1).length=1:=aG _ _;have:(o.name.toList.map (λ(b:UInt8)=>b.toNat)).length=o.name.size:=by rw[Uf,Yk,WR];rfl
 unfold bV gj;simp only[UA];rw[Xj V,WT V,Ut,VV V,UM V]
def Ks{o:Ob}(ho:o.fit)(rest:a7):((bV o++rest).drop 17).take 2=be o.size 2:=by
 have:(be o.name.size 1++gj o.name).length=17:=by rw[Ua,aG,nA ho.name.2]
 unfold bV;rw[UA,UA,Xj V,WT V,Ut,VV D0,UM D0]
def NF(l:a7)(j:Nat)(a:j<l.length)(r:a7):((l.flatMap (λs=>be s 4)++r).drop (4*j)).take 4=be l[j] 4:=by induction l generalizing j with|nil=>cases a|cons x l ih=>cases j with|zero=>rw[VJ,Nat.mul_zero,Yv,UA,VV D0,UM D0];rfl|succ j=>rw[VJ,(V:4*(j+1)=4+4*j),UA,El _ _ 4 (4*j) (aG _ _)];exact ih j (ua a)
def NG{o:Ob}(ho:o.fit):(be o.name.size 1++gj o.name++be o.size 2).length=19:=by rw[Ua,Ua,aG,aG,nA ho.name.2]
def Em{o:Ob}(ho:o.fit)(rest:a7)(j:Nat)(b:j<o.RI.length):((bV o++rest).drop (19+4*j)).take 4=be o.RI[j] 4:=by have a:=NG ho;unfold bV;rw[UA,El _ _ 19 (4*j) a,NF _ _ b]
def Kt{o:Ob}(ho:o.fit)(rest:a7):(bV o++rest).drop (19+4*o.RI.length)=rest:=by rw[<-dC ho,Xj lR,WT lR,Ut]
def zOb:Array ZR:=#[.string ⟨#[]⟩,I O 0,Z5 J 0 0]
def NH(j:o.guard=J)(x y:Operand)(ho:o.op=.store 150 x y){b:Nat}{cs cs':Array ZR}(k:a.eval x=Z6 (ZV ⟨b,0,J⟩))(l:a.eval y=.agg cs')(g:w.heap[b]?=ZV (Z4 cs 150 (0,0)))(i:cs.size=3)(c:cs'.size=3)(e:cs'.all (·.oneCell')=ZU)(h:wpList ZM ops Q rest (a.put o.dst U) (w.setRow b cs')):wpList ZM ops Q (o::rest) a w:=by
 have d:(ZM.info? 150).map (·.size)=ZV 3:=ee;have f:(Instr.storeAt 150 (Z6 (ZV ⟨b,0,J⟩)) (.agg cs')).run ZM w=.ok () (w.setRow b cs'):=by simp only[Instr.storeAt,Instr.sureAddr,UH,VN,UV,XY w b 150 150 cs cs' g (by rw[c];exact d) (by rw[i,c]) e]
 refine VZ j λK hK=>?_;unfold Oper.wp;simp[execOp,ho,k,l,f,Result.andThen];exact hK _ _ h
def En{P:Program}{p t u:Tmp}{ty:ZO}(h:fn.results=#[.cell p ty,.tmp t,.tmp u])(tmps:Array ZR)(w:ZS)(g:Nat)(a:ZO)(cs:Array ZR)(fr:Nat×Nat)(d:TypeDesc)(x y:ZR)(k:tmps.getD p U=Z6 (ZV ⟨g,0,J⟩))(m:tmps.getD t U=x)(n:tmps.getD u U=y)(i:w.heap[g]?=ZV (Z4 cs a fr))(l:P.underlying ty=ZV d)(f:(match d with|.struct _|.array _ _=>ZU|_=>ZT)=ZU)(j:(P.info? ty).map (·.size)=ZV cs.size):(results fn tmps).run P w=.ok (ZY #[.agg cs,x,y]) w:=by have b:tmps[p]?.getD U=Z6 (ZV ⟨g,0,J⟩):=ua k;have c:tmps[t]?.getD U=x:=ua m;have e:tmps[u]?.getD U=y:=ua n;simp[results,h,b,c,e,asAddr,Xk w g a ty cs fr d i l f j]
def UoR(w:ZS)(nm:ByteArray)(sz:Nat)(st:a7)(i:ZR)(wr:ZS):Prop:=∃(j:Nat)(sv:ZR),j<=st.length/\i=I O j/\wr.heap[w.heap.size]?=ZV (Z4 #[ZZ nm,I O (sz:Int),sv] 150 (0,0))/\wr.ownsRow w.heap.size 3 1 sv j (kY (st.take j))/\bW w wr
structure aba(w:ZS)(b off bl c:Nat)(o:Ob)(rest:a7)(e:ZP)(w':ZS):Prop where
 out:∃sa sc bv,e=Z3 (ZY #[.agg #[ZZ o.name,I O (o.size:Nat),.slice sa o.RI.length sc],bv,Z1 ZU])/\bt (λk=>w.heap.size<=k) w' (.slice sa o.RI.length sc) o.RI/\∀w0,Bs w0 (Z5 (ZV ⟨b,off,J⟩) bl c) (bV o++rest)->Bs w0 bv rest
 below:bW w w'
theorem tw{off:Nat}{o:Ob}{rest:a7}(ss:Nat)(r:Bs w (Z5 (ZV ⟨b,off,J⟩) bl c) (bV o++rest))(l:bl=(bV o++rest).length)(ho:o.fit)(xa:1<=ss/\ss<=1000000)(n:o.RI.length=max 1 ((o.size+ss-1)/ss))(hr:rest.length<=100000000):ZQ ZM 197 #[Z5 (ZV ⟨b,off,J⟩) bl c,I O ss] w λe w'=>aba w b off bl c o rest e w':=by
 have M:bl=19+4*o.RI.length+rest.length:=by rw[l,Ua,dC ho]
 have Y:=ho.len;have x2:=ho.name;have kr:=ho.size;obtain⟨ao,c0,e0,kx,_,hx,hn⟩:=id r;injection e0 with S e2 e3;subst e3;rw[<-l]at kx hn;obtain⟨b',o',y,qh⟩:=hn (λq=>by rw[q]at l;simp at l;omega);rw[<-S]at y;injection y with y;injection y with e5 e6;subst e5 e6;clear S e2;have d0:=qh 0 V;rw[VO,ND ho]at d0;have kk:(w.alloc (Z4 zOb 150)).heap[w.heap.size]?=ZV (Z4 zOb 150 (0,0)):=Ug _ _;have O':bW w (w.alloc (Z4 zOb 150)):=bA w _;have km:(w.alloc (Z4 zOb 150)).heap.size=w.heap.size+1:=ej;obtain⟨w1,qd⟩:=nM (w.alloc (Z4 zOb 150));rw[qd]at kk O' km;have xc:w.alloc (Z4 #[.string ⟨#[]⟩,I O 0,Z5 J 0 0] 150)=w1:=qd;have x0:b<w.heap.size:=Ue d0;have c1:w1.cell? ⟨b,off,J⟩=ZV (I .u8 (o.name.size:Nat)):=(Uk (O'.block b x0)).trans d0;have X:=r.mono O';obtain⟨m,B⟩:=nM (o.RI.length);obtain⟨sz,x⟩:=nM (o.size);obtain⟨nn,t⟩:=nM (o.name.size);have q9:=AO (Z5 (ZV ⟨b,off+17,J⟩) 2 (c-17)) (be o.size 2) w1 (by rw[<-Ks ho rest];exact X.sub 17 2 _ V V);rw[mr o.size 2 V V,x]at q9;have q0:=nZ sz ss V xa w1;rw[<-x,<-n,B]at q0;rw[x]at q0;rw[B]at M Y;rw[t]at c1 x2;have qa:=gM m V w1;obtain⟨lo,Z⟩:=nM (19+4*m);rw[Z]at M qa;have xd:¬((bl:Nat):Int)<19:=V;have qv:¬c=17:=V;have xf:¬((nn:Nat):Int)<1:=V;have xg:¬((nn:Nat):Int)>16:=V;have xi:¬((sz:Nat):Int)>1500:=V;have hll:¬((bl:Nat):Int)<(lo:Int):=V;have xk:IntKind.i64.wrap (nn:Int)=nn:=l7;have H:=hide13 q9 q0 qa X kk O' km B x t r l n;have HL:=a5 M Z Y kr kx;have qy:19<=bl:=V;have qz:19<=c:=V;clear M Z Y kr kx;clear q9 q0 qa X kk O' km B x t r l n hn qh qd d0 hx;go_enter func197,ntmps197;go_wp2_with fail;refine H.o.1.mono ?_;rintro e w2⟨rfl,J'⟩;obtain rfl:w1=w2:=J'.symm;clear J';have xj:IntKind.i64.wrap (sz:Int)=sz:=by have:=HL.o.2.2.2.1;have:=H.o.2.2.2.2.2.2.2.2.1;rw[Ux];omega
 go_wp2_with fail;refine H.o.2.1.mono ?_;rintro e w2⟨rfl,J'⟩;obtain rfl:w1=w2:=J'.symm;clear J';go_wp2_with fail;refine H.o.2.2.1.mono ?_;rintro e w2⟨rfl,J'⟩;obtain rfl:w1=w2:=J'.symm;clear J';obtain⟨_,_,_,X,kk,O',km,B,x,t,r,l,n⟩:=H.o;have qi:(convert 36 9 (Z5 (ZV ⟨b,off+1,J⟩) nn (c-1))).run ZM w1=.ok (ZZ o.name) w1:=by
  have qm:o.name.toList.length=nn:=by rw[Yk,WR,<-t];rfl
  have kv:=X.sub 1 nn (c-1) (by rw[<-l];omega) V;rw[<-t,Kr o rest]at kv;obtain⟨ao,cc,S,_,_,_,T⟩:=kv;injection S with S e2 e3;have ky:o.name.toList.map (λ(b:UInt8)=>b.toNat)≠[]:=λe=>by have:=Uy YH e;rw[Uf,qm]at this;simp at this;omega
  obtain⟨b',o',y,x1⟩:=T ky;rw[<-S]at y;injection y with y;injection y with e5 e6;subst e5 e6;have:=run_convert_bytes_back (P:=ZM) w1 36 9 5 ⟨b,off+1,J⟩ (c-1) o.name.toList Ur Xq acZ (λj hj=>by
   have U':=x1 j (by rw[Uf];exact hj);have h8:(o.name.toList.map (λ(b:UInt8)=>b.toNat)).getD j 0=(o.name.toList[j]).toNat:=by rw[Ub,UJ,Ud hj];rfl
   rw[h8]at U';unfold Addr.add;split;.rename_i h0;subst h0;exact U'
   .exact U');rw[qm]at this;rw[this];congr 2;rw[Yk]
 clear X r l n B x t O';have x7:¬c=1:=V;have HQ:=al kk km;clear kk km;obtain⟨nm,q8⟩:=nM (o.name);rw[q8]at qi;have xh:1+nn<=c:=V;go_wp2_with(show wpList _ _ _ ({dst:=J,op:=Op.store 150 (Z0 4) (Z0 50),type:=_,pos:=_,after:=_,guard:=_}::_) _ _;refine NH (b:=w.heap.size) (cs:=zOb) (cs':=#[ZZ nm,I O (sz:Int),Z5 J 0 0]) rfl (Z0 4) (Z0 50) rfl um um (by exact HQ.o.1) rfl rfl HU ?_);have qn:(w1.setRow w.heap.size #[ZZ nm,I O (sz:Int),Z5 J 0 0]).heap[w.heap.size]?=ZV (Z4 #[ZZ nm,I O (sz:Int),Z5 J 0 0] 150 (0,0)):=Vw _ _ _ _ _ _ HQ.o.1;have qg:bW w (w1.setRow w.heap.size #[ZZ nm,I O (sz:Int),Z5 J 0 0]):=H.o.2.2.2.2.2.1.grown (aZ _ _ _) H.o.2.2.2.2.2.1.size (λk e=>ia (UN e));have H8:=al qn qg;have qs:=ak q8;clear qn qg qi q8;go_loopw[52](λi wr=>UoR w nm sz o.RI i wr)(λi _=>m-(intOf i).toNat);case atStart=>exact⟨0,_,T8 _,rfl,H8.o.1,UQ _ _ _ _,H8.o.2⟩
 case round=>
  clear H8;obtain⟨j,sv,hj,rfl,f,W,A⟩:=hrel;obtain⟨_,_,_,_,_,_,_,B,x,t,r,l,n⟩:=H.o;obtain⟨M,Z,Y,kr,kx⟩:=HL.o;have q1:=r.mono (w':=wr) A;have qe:=A.size;have kg:w.heap.size<wr.heap.size:=(TX.1 f).1;by_cases xe:j<m
  . have q6:j<o.RI.length:=V;obtain⟨ii,x5,q3,q4,q5⟩:=Uw Tryz.Su;have x9:=ho.st _ (T7 q6);have Q:=q1.sub (19+4*j) 4 (c-(19+4*j)) (by rw[<-l];omega) V;rw[Em ho rest j q6]at Q;obtain⟨s,hs⟩:=nM (o.RI[j]);rw[hs]at x9 Q;have qq:kY (o.RI.take (j+1))=kY (o.RI.take j)++[I O (s:Int)]:=by rw[Vl,Ud q6,hs];unfold kY;rw[Uz];rfl
    obtain⟨d,a,hq,F,ke,_,_⟩:=run_append_own_at (P:=ZM) (wr.drew.alloc (Z4 #[I O (s:Int)] 3)) w.heap.size 45 0 3 ii (I O 0) 1 8 Yh x5 q3 q4 q5 rfl ec sv j (kY (o.RI.take j)) ((show wr.drew.ownsRow w.heap.size 3 1 sv j (kY (o.RI.take j))from W).alloc _) ⟨wr.heap.size,0,J⟩ 1 1 [I O (s:Int)] rfl (oZ wr.drew _ _) (by intro u hu;simp at hu;subst hu;rfl) eD V ek;have qb:(wr.drew.alloc (Z4 #[I O (s:Int)] 3)).heap[w.heap.size]?=ZV (Z4 #[ZZ nm,I O (sz:Int),sv] 150 (0,0)):=(UE _ _ _ kg).trans f;have hp:(wr.drew.alloc (Z4 #[I O (s:Int)] 3)).ownsRow w.heap.size 3 1 sv j (kY (o.RI.take j)):=(show wr.drew.ownsRow w.heap.size 3 1 sv j (kY (o.RI.take j))from W).alloc _;have G:=(ke.block w.heap.size ek (λe=>bN hp qb ec e.symm)).trans qb;have hv:=bu F;have q2:bW w (wr.drew.alloc (Z4 #[I O (s:Int)] 3)):=A.drew.alloc qe _;have p:bW w a:=q2.grown ke q2.size (λk e=>eO hp e);rw[<-qq]at F;have qf:=hide7 f Q hq F G hv p;have x6:j<=100000:=V;have x4:19+4*j+4<=bl:=V;clear f W A B x t r l n M Z Y kr q1 Q hq F ke qb hp G hv q2 p qq hs qe kg;go_wp2_with fail;obtain⟨f,Q,hq,F,G,⟨va,vc,hv⟩,p⟩:=qf.out;obtain⟨C,ks⟩:=nM (19+4*j);obtain⟨T,x3⟩:=nM (C+4);have R:=gM j V wr.drew;have p2:=gM (j+1) V wr.drew;have p3:=AO _ (be s 4) wr.drew Q;rw[ks]at R p3 x4;rw[(V:19+4*(j+1)=T)]at p2;rw[mr s 4 V V]at p3;have L:wr.cell? ⟨w.heap.size,2,J⟩=ZV sv:=Zw;have hd:(wr.drew.alloc (Z4 #[I O (s:Int)] 3)).cell? ⟨w.heap.size,2,J⟩=ZV sv:=(World.cell?_alloc_some wr.drew _ _ (by rw[show wr.drew.cell? ⟨w.heap.size,2,J⟩=ZV sv from L];rfl)).trans L;have qr:a.cell? ⟨w.heap.size,2,J⟩=ZV sv:=(by simp[World.cell?,G]);have xm:a.frozen? ⟨w.heap.size,2,J⟩=ZT:=(by simp[World.frozen?,G]);have k1:C<=T:=V;have k3:T<=c:=V;have k4:T-C=4:=V;have k5:¬c=C:=V;have k6:IntKind.i64.wrap (s:Int)=s:=l7;have k7:IntKind.i64.wrap ((j:Int)+1)=(j:Int)+1:=l7;have qo:∀ty,(Builtin.append_ #[45,45] ty #[sv,Z5 (ZV ⟨wr.heap.size,0,J⟩) 1 1]).run ZM (wr.drew.alloc (Z4 #[I O (s:Int)] 3))=.ok d a:=λ_=>hq;refine bw 14 [(0,ZU),(1,ZU),(2,ZU),(3,ZU),(5,ZU),(6,ZU),(4,ZT),(7,ZT),(8,ZU),(9,ZT),(10,ZU),(11,ZT),(12,ZT),(13,ZU),(14,ZT)] (λw'=>w'.cell? ⟨w.heap.size,2,J⟩=ZV sv) ee ee L ?_;iterate 6 refine bE ?_
    refine db R rfl rfl oB ?_;rintro e g⟨rfl,rfl⟩;refine⟨_,rfl,λ_=>L,?_⟩;simp only[Act.put,TZ,T5,T6];refine db p2 rfl rfl oB ?_;rintro e g⟨rfl,rfl⟩;refine⟨_,rfl,λ_=>L,?_⟩;simp only[Act.put,TZ,T5,T6];refine lT ?_;simp only[Act.put,TZ,T5,T6];refine db p3 rfl rfl oB ?_;rintro e g⟨rfl,rfl⟩;refine⟨_,rfl,λ_=>L,?_⟩;simp only[Act.put,TZ,T5,T6];refine lT ?_;simp only[Act.put,TZ,T5,T6];refine dV (v:=Z5 (ZV ⟨wr.heap.size,0,J⟩) 1 1) (w1:=wr.drew.alloc (Z4 #[I O (s:Int)] 3)) rfl rfl oB (λ_=>hd) ?_;simp only[Act.put,TZ,T5,T6];refine dV (v:=d) (w1:=a) rfl rfl (by simp[execOp,Act.eval,resolve,invoke,builtin,qo]) (λ_=>qr) ?_;simp only[Act.put,TZ,T5,T6];refine lT ?_;simp only[Act.put,TZ,T5,T6];refine lj (w1:=a.setCell ⟨w.heap.size,2,J⟩ d) rfl rfl (by subst hv;go_simp) xJ (bI ?_);obtain⟨g,I'⟩:∃g,g=a.setCell ⟨w.heap.size,2,J⟩ d:=⟨_,rfl⟩;rw[<-I'];clear R p2 p3 L hd qr xm k1 k3 k4 k5 k6 k7 qo ks x3;have kz:g.heap[w.heap.size]?=ZV (Z4 #[ZZ nm,I O (sz:Int),d] 150 (0,0)):=(by rw[I'];exact acV a w.heap.size 2 _ _ d G);have N:aa (λk=>k=w.heap.size) a g:=(by rw[I'];exact aa.setCell _ _ _ rfl);have k0:g.ownsRow w.heap.size 3 1 d (j+1) (kY (o.RI.take (j+1))):=cD F N (λk hk e=>bN F G ec (by rw[hk,e]));have kp:bW w g:=⟨N.os.trans p.os,N.tape.trans p.tape,N.output.trans p.output,TU p.size N.size,λk hk=>(N.block k (ia p.size) V).trans (p.block k hk)⟩;have H3:=au kz k0 kp;clear f Q hq F G hv p kz N k0 kp I' qf;rename_i ko;refine ko _ _ ?_;clear ko;simp only[Act.put];go_wp2;go_roundw;case rel=>exact⟨j+1,d,ia H.o.2.2.2.2.2.2.2.1,eT,H3.o.1,H3.o.2.1,H3.o.2.2⟩
    case measure=>simp[intOf];omega
  . have q7:j=m:=V;subst q7;obtain⟨D,E,xb⟩:=bu W;subst xb;have ky:o.RI≠[]:=λe=>by have z:=Uy YH e;have h2:1<=o.RI.length:=(by rw[n];exact Nat.le_max_left _ _);rw[z]at h2;simp at h2
    have V':=D6 (K:=λk=>w.heap.size<=k) (show wr.ownsRow w.heap.size 3 1 (.slice D j E) j (kY o.RI)by have z:=W;rw[UM V]at z;exact z) ky V (λk hk=>hk);have V':=V'.choose_spec.choose_spec.2;obtain⟨ra,qp⟩:∃ra:Option Addr,(c=lo/\ra=ZV ⟨b,off,J⟩)\/(c≠lo/\ra=ZV ⟨b,off+lo,J⟩):=by
     by_cases U':c=lo;.exact⟨_,.inl ⟨U',rfl⟩⟩
     .exact⟨_,.inr ⟨U',rfl⟩⟩
    have hf:∀w0,Bs w0 (Z5 (ZV ⟨b,off,J⟩) bl c) (bV o++rest)->Bs w0 (.slice ra (bl-lo) (c-lo)) rest:=by
     intro w0 qx;have z:=qx.sub lo (bl-lo) (c-lo) (by rw[<-l];omega) V;have h2:((bV o++rest).drop lo).take (bl-lo)=rest:=by rw[(V:lo=19+4*o.RI.length),Kt ho,UM V]
     rw[h2]at z;rcases qp with⟨h3,rfl⟩|⟨h3,rfl⟩;.have x8:rest=[]:=Yf.1 V;subst x8;refine⟨ZV ⟨b,off,J⟩,c-lo,?_,ej,ec,λ_ h=>Bf,λh=>absurd rfl h⟩;simp only[U0];congr 1;omega
     .exact z
    have Hr:=aE f V' hf A;have x6:j<=100000:=V;clear f W A B x t r l n M Y kr q1 V' hf qe kg ky;go_wp2_with fail;have f:=Hr.o.1;have kf:(ZM.info? 150).map (·.size)=ZV 3:=ee;have qj:(Instr.loadAt 150 (Z6 (ZV ⟨w.heap.size,0,J⟩))).run ZM wr.drew=.ok (.agg #[ZZ nm,I O (sz:Int),.slice D j E]) wr.drew:=(by simp only[Instr.loadAt,Instr.sureAddr,UH,VN,UV,Xk wr.drew w.heap.size 150 150 #[ZZ nm,I O (sz:Int),.slice D j E] (0,0) _ f underlying150 rfl kf]);have n:(Instr.storeAt 150 (Z6 (ZV ⟨w.heap.size,0,J⟩)) (.agg #[ZZ nm,I O (sz:Int),.slice D j E])).run ZM wr.drew=.ok () wr.drew:=by simp only[Instr.storeAt,Instr.sureAddr,UH,VN,UV,XY wr.drew w.heap.size 150 150 #[ZZ nm,I O (sz:Int),.slice D j E] #[ZZ nm,I O (sz:Int),.slice D j E] f kf rfl HU];rw[setRow_self wr.drew w.heap.size _ 150 (0,0) f]
    have R:=gM j V wr.drew;rw[Z]at R;refine bw 99 [(0,ZU),(1,ZU),(2,ZU),(3,ZT),(4,ZU),(5,ZT),(6,ZU),(7,ZU)] (λw'=>w'=wr.drew) ee ee rfl ?_;refine cZ rfl rfl ⟨_,λw' hS=>by subst hS;simp[execOp,Act.eval,qj];rfl,?_⟩;simp only[Act.put,TZ,T5,T6];iterate 2 refine bE ?_
    refine db R rfl rfl oB ?_;rintro e g⟨rfl,rfl⟩;refine⟨_,rfl,λ_=>rfl,?_⟩;simp only[Act.put,TZ,T5,T6];refine cZ rfl rfl ⟨.slice ra (bl-lo) (c-lo),λw' hS=>by rcases qp with⟨z,rfl⟩|⟨z,rfl⟩<;>go_simp,?_⟩;simp only[Act.put,TZ,T5,T6];refine lj (w1:=wr.drew) rfl rfl (by simp[execOp,Act.eval,n]) (λ_=>rfl) ?_;simp only[Act.put,TZ,T5,T6];iterate 2 refine bE ?_
    refine bI ?_;clear qj n R f kf;obtain⟨g,I'⟩:∃g,g=wr.drew:=⟨_,rfl⟩;rw[<-I'];rename_i ko;refine ko _ _ ?_;clear ko;go_wp2;obtain⟨f,V',hf,A⟩:=Hr.o;have kz:g.heap[w.heap.size]?=ZV (Z4 #[ZZ nm,I O (sz:Int),.slice D j E] 150 (0,0)):=(by rw[I'];exact f);refine Uv (v:=ZY #[.agg #[ZZ nm,I O (sz:Int),.slice D j E],.slice ra (bl-lo) (c-lo),Z1 ZU]) (En results197 _ g w.heap.size 150 _ (0,0) _ _ _ rfl rfl rfl kz underlying150 rfl ee) rfl ?_;have qk:=H.o.2.2.2.2.2.2.2.1;have qc:=H.o.2.2.2.2.2.2.2.2.1;have kp:bW wr g:=(by rw[I'];exact(TW _ wr).drew);refine⟨⟨D,E,_,by rw[qs.out,qc,qk],?_,hf⟩,A.trans (kp.mono A.size)⟩;rw[qk];exact V'.keep (eW.RM kp)
section
def O1(o:Option bF)(r:bF):Prop:=o=J\/o=ZV .blank\/o=ZV r\/∃D L G t f n t' f' n',t'<t/\r=.root D L G t f n/\o=ZV (.root D L G t' f' n')
def an.RQ(A:an)(S:Nat):an:={A with sv:=S}
def ay.RQ{S:Nat}{A:an}(h:ay X p A F):ay X p (A.RQ S) F:=by obtain⟨R,b,a⟩:=h;exact⟨R,b,a.n,a.nb,a.lost,a.rd,a.tn⟩
def bC.RQ{C C':an->Prop}{e:ZP}(h:bC w p F C e w')(i:∀B,C B->∃S,C' (B.RQ S)):bC w p F C' e w':=by obtain⟨b,c,⟨B,d,R,f,a⟩,g⟩:=h;obtain⟨S,j⟩:=i B d;exact⟨b,c,⟨_,j,R,f,a.n,a.nb,a.lost,a.rd,a.tn⟩,g⟩
def wh{A:an}(h:A.at b (λ_=>r)){i:Nat}(a:i<A.n):O1 (A.RR i b) r:=by
 cases hg:gnB A b i;.exact .inr (.inr (.inl (by rw[Ia hg,(h i a).1])))
 .exact(AY hg).elim (λq=>.inl q.2) λq=>q.elim (λq=>.inl q.2) λq=>.inr (.inl q.2)
def GA{A:an}(h:A.at b λ_=>r){i:Nat}(a:i<A.n)(c:A.sv.testBit i=ZT):A.RR i b=ZV r:=by
 cases hg:gnB A b i;.rw[Ia hg,(h i a).1]
 .rw[(h i a).2 hg]at c;cases c
def kR(D L G t:Nat)(P:a7)(xs:aF):bF:=.root D L G t (P.getD 0 0) (aw xs.os).length
structure eu(A:an)(D L G t:Nat)(P:a7)(xs:aF):Prop where
 disk:aX (A.putAt (YE A.n) 0 λ_=>kR D L G t P xs) D L G t P xs
 root:∀i,i<A.n->O1 (A.RR i 0) (kR D L G t P xs)ex:∃i,i<A.n/\A.RR i 0=ZV (kR D L G t P xs)
structure Qd(A B:an):Prop where
 n:B.n=A.n
 nb:B.nb=A.nb
 lost:B.lost=A.lost
def eI.shp{A B:an}(h:eI A B):Qd A B:=⟨h.n,h.nb,h.lost⟩
section
variable {A B:an}{D L G t:Nat}{P:a7}{xs:aF}{ds:a7}{d S:Nat}
def tX(m:Nat):gnB (A.putAt ds b f) m i=if m=b/\i∈ds then A.lost i else gnB A m i:=by unfold gnB an.putAt;by_cases h:m=b/\i∈ds<;>simp[h]
def BK(m:Nat):(A.putAt ds b f).rc i m=if m=b/\i∈ds then f i else A.rc i m:=rfl
def eu.SZ(h:eu A D L G t P xs):∀x∈P++ah xs.os,2<=x/\x<A.nb:=h.disk.SZ
def eu.room(h:eu A D L G t P xs):(ah xs.os).length+2*P.length+2<=A.nb:=h.disk.room
def eu.put(h:eu A D L G t P xs)(k:∀i,i<A.n->i∉ds->A.RR i 0=ZV (kR D L G t P xs)):aX (A.putAt ds 0 λ_=>kR D L G t P xs) D L G t P xs:=by
 refine h.disk.to rfl rfl λb _ i c=>?_;have c:i<A.n:=c;simp only[tX,BK,Ul,c,and_true];by_cases e:b=0
 . subst e;by_cases q:i∈ds;.simp only[q,and_self,if_true,true_and];exactλa f=>f a
   . have d:=k i c q;have j:gnB A 0 i=ZT:=W9.2 λg=>by rcases AY g with⟨_,q⟩|⟨_,q⟩|⟨_,q⟩<;>(rw[d]at q;cases q)
     rw[Ia j]at d;simp only[q,and_false,if_false,if_true];exact⟨UN d,λa=>by rw[j]at a;cases a⟩
 .simp only[e,false_and,if_false,true_and];exactλa f=>f a
def aX.cut(h:aX A D L G t P xs)(a:∃i,i<A.n/\A.sv.testBit i=ZT):eu A D L G t P xs:=by
 refine⟨h.to rfl rfl λb _ i a=>?_,λi a=>wh h.root a,a.elim λi q=>⟨i,q.1,GA h.root q.1 q.2⟩⟩;simp only[tX,BK,Ul,a,and_true];by_cases e:b=0;.subst e;simp only[if_true];refine⟨(h.root i a).1.symm,λc d=>d ?_⟩;unfold gnB;rw[c];rfl
 .simp only[e,if_false,true_and];exactλc d=>d c
def NI:(A.RY d b).RR i b=if i=d then J else A.RR i b:=by unfold an.RR an.rd an.RY;by_cases e:i=d<;>simp[e]
def Qe(h:i∈ds):(A.putAt ds 0 λ_=>r).RR i 0=if A.lost i=ZU then J else ZV r:=by unfold an.RR an.rd an.putAt;simp[h]
def Qf(h:i∉ds):(A.putAt ds 0 λ_=>r).RR i 0=A.RR i 0:=by unfold an.RR an.rd an.putAt;simp[h]
def O1.elder{o:Option bF}{xs':aF}(h:O1 o (kR D L G t P xs))(a:t<t'):O1 o (kR D L G t' P' xs'):=by
 rcases h with h|h|h|⟨e,g,f,k,f0,n0,t1,i,j,c,b,d⟩;.exact .inl h
 .exact .inr (.inl h)
 .exact .inr (.inr (.inr ⟨_,_,_,_,_,_,_,_,_,a,rfl,h⟩))
 .unfold kR at b;cases b;exact .inr (.inr (.inr ⟨_,_,_,_,_,_,_,_,_,WU c a,rfl,d⟩))
def Low(S:Nat)(A B:an):Prop:=(B.n=A.n/\B.nb=A.nb/\B.lost=A.lost/\B.sv=S/\∀i,A.sv.testBit i=ZU->S.testBit i=ZU)/\∀i b,b≠0->B.rc i b=A.rc i b/\gnB B b i=gnB A b i
def Low.put(k:Low S A B){X:an}(j:∀i b,b≠0->X.rc i b=A.rc i b/\gnB X b i=gnB A b i)(a:X.n=A.n/\X.nb=A.nb/\X.sv=A.sv)(l:∀i,i<A.n->X.rc i 0=kR D L G t P xs/\(A.lost i=ZU->gnB X 0 i=ZU))(h:aX X D L G t P xs):aX (B.putAt (YE B.n) 0 λ_=>kR D L G t P xs) D L G t P xs:=by
 obtain⟨⟨k1,k2,k3,k4,m⟩,o⟩:=k;refine h.to (k1.trans a.1.symm) (k2.trans a.2.1.symm) λb _ i c=>?_;rw[a.1]at c;have g:i<B.n:=by rw[k1];exact c
 rw[tX,BK];by_cases e:b=0;.subst e;rw[TT ⟨rfl,Ul.2 g⟩,TT ⟨rfl,Ul.2 g⟩,(l i c).1,a.2.2,k3];refine⟨rfl,λd f=>?_⟩;show B.sv.testBit i=ZU;rw[k4];exact m i (f ((l i c).2 d))
 .rw[TS (λq=>e q.1),TS (λq=>e q.1),(j i b e).1,(j i b e).2,(o i b e).1,(o i b e).2,a.2.2];refine⟨rfl,λd f=>?_⟩;show B.sv.testBit i=ZU;rw[k4];exact m i (f d)
def Eo{pre:a7}(a:∀i,A.sv.testBit i=ZU->S.testBit i=ZU):Low S A (((A.putAt pre 0 f).RY d 0).RQ S):=⟨⟨rfl,rfl,rfl,rfl,a⟩,λi b e=>⟨by simp[an.putAt,an.RY,an.RQ,e],by simp[gnB,an.putAt,an.RY,an.RQ,e]⟩⟩
def BL(i b:Nat)(e:b≠0):(A.putAt ds 0 f).rc i b=A.rc i b/\gnB (A.putAt ds 0 f) b i=gnB A b i:=⟨by simp[an.putAt,e],by simp[gnB,an.putAt,e]⟩
def eu.page(h:eu A D L G t P xs):A.holds D L G P (cd D P (aw xs.os)):=λk a=>Kp.at (A:=A.putAt (YE A.n) 0 λ_=>kR D L G t P xs) (λi _=>by have e:P.getD k 0≠0:=λq=>ia ((h.SZ _ (UB _ (ik a))).1);rw[(BL i _ e).1,(BL i _ e).2];exact⟨rfl,λb c=>c b⟩) rfl (h.disk.page k a)
def tY{pre:a7}(i:Nat):(((A.putAt pre 0 λ_=>r).RY d 0).RQ S).RR i 0=if i=d\/(i∈pre/\A.lost i=ZU)then J else if i∈pre then ZV r else A.RR i 0:=by
 have a:(((A.putAt pre 0 λ_=>r).RY d 0).RQ S).RR i 0=if i=d then J else(A.putAt pre 0 λ_=>r).RR i 0:=NI (A:=A.putAt pre 0 λ_=>r) (b:=0);rw[a];by_cases e:i=d;.rw[TT e,TT (.inl e)]
 . rw[TS e];by_cases q:i∈pre
   . rw[Qe q];by_cases l:A.lost i=ZU;.rw[TT l,TT (.inr ⟨q,l⟩)]
     .rw[TS l,TS (λh=>h.elim e λh=>l h.2),TT q]
   .rw[Qf q,TS (λh=>h.elim e λh=>q h.1),TS q]
theorem Ep{pre:a7}{i0:Nat}(c:∀i,A.sv.testBit i=ZU->S.testBit i=ZU)(h:aX (A.putAt (YE A.n) 0 λ_=>kR D L G t P xs) D L G t P xs)(f:∀i,i<A.n->O1 (A.RR i 0) (kR D L G t P xs))(b:i0<A.n)(e:i0≠d)(hl:A.lost i0=ZT)(a:i0∈pre\/A.RR i0 0=ZV (kR D L G t P xs)):eu (((A.putAt pre 0 λ_=>kR D L G t P xs).RY d 0).RQ S) D L G t P xs:=by
 refine⟨(Eo c).put BL ⟨rfl,rfl,rfl⟩ (λi a=>?_) h,λi a=>?_,i0,b,?_⟩;.rw[tX,BK,TT ⟨rfl,Ul.2 a⟩,TT ⟨rfl,Ul.2 a⟩];exact⟨rfl,id⟩
 . rw[tY];split;.exact .inl rfl
   . split;.exact .inr (.inr (.inl rfl))
     .exact f i a
 . rw[tY,TS (λq=>q.elim e λq=>by rw[hl]at q;cases q.2)];split;.rfl
   .exact a.resolve_left ‹_›
def NJ(q:A.RR i 0=ZV r):A.lost i=ZT:=by
 cases e:A.lost i;.rfl
 .unfold an.RR at q;rw[e]at q;cases q
def eu.RY(h:eu A D L G t P xs)(f:∀i∈ds,A.RR i 0≠ZV (kR D L G t P xs))(c:iG A ds 0 (λ_=>kR D L G t P xs) B):eu B D L G t P xs/\Qd A B/\B.sv=A.sv:=by obtain⟨pre,d,j,b,_,rfl⟩:=c;obtain⟨k,g,a⟩:=h.ex;exact⟨Ep (S:=A.sv) (λ_ q=>q) h.disk h.root g (λe=>f d b (e▸a)) (NJ a) (.inr a),⟨rfl,rfl,rfl⟩,rfl⟩
def tZ(a:1<=D)(h:dZ D L G S):∃i,i<D+L+G/\S.testBit i=ZT:=by
 by_cases q:∃i,i<D+L+G/\S.testBit i=ZT;.exact q
 . refine absurd h (Jf _ _ _ _ a λi b=>?_);cases hb:S.testBit i;.exact absurd ⟨i,b,hb⟩ q
   .rw[Wh]at hb;exact W5 hb
def an.two(A:an):Prop:=∀d,∃i,i<A.n/\i≠d/\A.sv.testBit i=ZT
def wA(A:an)(D L G t:Nat)(xs:aF)(N:aF->Prop)(B:an):Prop:=Qd A B/\(∃d,d<A.n/\B.sv=A.sv|||2^d)/\∃t' P' xs',eu B D L G t' P' xs'/\((t'=t/\xs'=xs)\/(t'=t+1/\N xs'))
def fy{a:Nat}:(a|||2^d).testBit i=ZU↔a.testBit i=ZU\/i=d:=by rw[V4,XB,Xf,decide_eq_true_iff,eq_comm (a:=d)]
def abb{a:Nat}(h:a.testBit i=ZT)(b:i≠d):(a|||2^d).testBit i=ZT:=W9.2 λq=>(fy.1 q).elim (λq=>by rw[h]at q;cases q) b
def Af{N:aF->Prop}(h:aX A D L G t P xs)(k:A.two)(a:Qd A B)(l:d<A.n)(j:∀b,b∈0::1::(P++ah xs.os)->∀i,i<A.n->B.rc i b=A.rc i b/\(gnB B b i=ZU->gnB A b i=ZU\/i=d)):wA A D L G t xs N (B.RQ (A.sv|||2^d)):=by obtain⟨i,c,e,m⟩:=k d;refine⟨⟨a.n,a.nb,a.lost⟩,⟨d,l,rfl⟩,t,P,xs,aX.cut (h.to (B:=B.RQ (A.sv|||2^d)) a.n a.nb λb f i g=>⟨(j b f i g).1,λc e=>fy.2 (((j b f i g).2 c).imp e id)⟩) ⟨i,by show i<B.n;rw[a.n];exact c,abb m e⟩,.inl ⟨rfl,rfl⟩⟩
def wB{N:aF->Prop}(h:aX A D L G t P xs)(c:A.two)(ho:Do A T B)(k:∀b,T b->2<=b/\b∉P++ah xs.os):∃S,wA A D L G t xs N (B.RQ S):=by
 obtain⟨m,l,_⟩:=c 0;refine⟨_,Af (d:=0) h c ⟨ho.n,ho.nb,ho.lost⟩ V λb a i _=>?_⟩;obtain⟨f,g,j,_⟩:=ho.at_ b (λq=>by
  have:=k b q;rcases Uu.1 a with e|a;.omega
  . rcases Uu.1 a with e|a;.omega
    .exact this.2 a) i;refine⟨j,λq=>.inl ?_⟩;unfold gnB at q⊢;rw[<-f,<-g,<-ho.lost];exact q
theorem Ah{N:aF->Prop}{A':an}{xs':aF}(C:m=A'.n)(a:eI A A')(h:aX A' D L G t P xs)(v:aX (A'.putAt (YE m) 0 λ_=>kR D L G (t+1) P' xs') D L G (t+1) P' xs')(x:A.two)(hl:∀i,i<A.n->A.lost i=ZU->A.sv.testBit i=ZU)(y:N xs')(z:iG A' (YE m) 0 (λ_=>kR D L G (t+1) P' xs') B):∃S,wA A D L G t xs N (B.RQ S):=by
 subst C;obtain⟨pre,d,w,r,_,rfl⟩:=z;rw[Ul]at r;have p:∀i,A'.sv.testBit i=ZU->(A.sv|||2^d).testBit i=ZU:=λi q=>fy.2 (.inl (a.sv▸q));refine⟨A.sv|||2^d,⟨a.n,a.nb,a.lost⟩,⟨d,a.n▸r,rfl⟩,?_⟩;by_cases s:∃i,i∈pre/\i≠d/\A'.lost i=ZT;.obtain⟨i,c,k,b⟩:=s;exact⟨t+1,P',xs',Ep p v (λi f=>(wh h.root f).elder (YP t)) (Ul.1 (w i c)) k b (.inl c),.inr ⟨rfl,y⟩⟩
 . have o:∀i,i∈pre->i=d\/A'.lost i=ZU:=λi q=>by
    by_cases e:i=d;.exact .inl e
    . refine .inr ?_;cases e2:A'.lost i;.exact absurd ⟨i,q,e,e2⟩ s
      .rfl
   obtain⟨g,c,k,b⟩:=x d;have j:g<A'.n:=(by rw[a.n];exact c);refine⟨t,P,xs,⟨(Eo p).put (λ_ _ _=>⟨rfl,rfl⟩) ⟨rfl,rfl,rfl⟩ (λi f=>⟨(h.root i f).1,λq=>by unfold gnB;rw[q];rfl⟩) h,λi f=>?_,g,j,?_⟩,.inl ⟨rfl,rfl⟩⟩
   . rw[tY];split;.exact .inl rfl
     . rename_i q;rw[TS (λu=>q ((o i u).imp id λl=>⟨u,l⟩))];exact wh h.root f
   .rw[tY,TS (λq=>q.elim k λq=>by rw[hl g c (a.lost▸q.2)]at b;cases b),TS (λq=>(o g q).elim k λl=>by rw[hl g c (a.lost▸l)]at b;cases b)];exact GA h.root j (by rw[a.sv];exact b)
end
end
structure Rt where
 D:Nat
 L:Nat
 G:Nat
 t:Nat
 f:Nat
 n:Nat
def Ku(x:Rt):Array ZR:=aq x.D x.L x.G x.t x.f x.n
def mW(x:Rt):Option bF->Rt|some (.root D L G t f n)=>if x.t<t then⟨D,L,G,t,f,n⟩else x|_=>x
def bx(R:Nat->Option bF):Nat->Rt|0=>⟨0,0,0,0,0,0⟩|k+1=>mW (bx R k) (R k)
def GB(x k:Nat):Option bF->Nat|some .blank=>x|||2^k|_=>x
def cQ(R:Nat->Option bF):Nat->Nat|0=>0|k+1=>GB (cQ R k) k (R k)
theorem jq(R:Nat->Option bF):∀k,k<=60->cQ R k<2^k
 |0,_=>by simp[cQ]|k+1,h=>by
  have:=jq R k V;have a:2^k<2^(k+1):=VC ec V;show GB (cQ R k) k (R k)<2^(k+1);unfold GB;split;.exact V5 V a
  .omega
def wC(e:o.guard=J)(x y:Operand)(ho:o.op=.store 132 x y){b D L G t f n:Nat}{cs:Array ZR}(g:a.eval x=Z6 (ZV ⟨b,0,J⟩))(i:a.eval y=.agg (aq D L G t f n))(c:w.heap[b]?=ZV (Z4 cs 132 (0,0)))(d:cs.size=6)(h:wpList ZM ops Q rest (a.put o.dst U) (w.setRow b (aq D L G t f n))):wpList ZM ops Q (o::rest) a w:=by refine VZ e λK hK=>?_;unfold Oper.wp;simp[execOp,ho,g,i,vR c d,Result.andThen];exact hK _ _ h
def Qg(v:ZR)(w:ZS):(Instr.typeAssert (.iface 132 v) 219 132 ZU).run ZM w=.ok (ZY #[v,Z1 ZU]) w:=by simp[Instr.typeAssert,UP XI]
def GC:Option bF->Bool|some (.root ..)=>ZU|_=>ZT
def GD{o:Option bF}(h:GC o=ZT)(w:ZS):(Instr.typeAssert (gy o) 219 132 ZU).run ZM w=.ok (ZY #[.agg (aq 0 0 0 0 0 0),Z1 ZT]) w:=by match o,h with|none,_|some .blank,_|some .filled,_|some (.shard _),_=>simp[gy,ef,Instr.typeAssert,UP XI];rfl
def GE(w:ZS):(zeroValue 246).run ZM w=.ok (.agg #[]) w:=by
 obtain⟨a,b,c⟩:∃a,ZM.info? 246=ZV a/\a.zero=ZV (.agg #[]):=by have:(ZM.info? 246).map (λi=>i.zero)=ZV (ZV (.agg #[])):=ee;rw[Wu]at this;exact this
 simp[zeroValue,typeInfo,UH,b,c]
def NK(v:ZR)(w:ZS):(Instr.typeAssert (.iface 246 v) 219 246 ZU).run ZM w=.ok (ZY #[v,Z1 ZU]) w:=by simp[Instr.typeAssert,UP underlying246]
def ub:Option bF->Bool|some .blank=>ZU|_=>ZT
def Es{o:Option bF}(h:ub o=ZT)(w:ZS):(Instr.typeAssert (gy o) 219 246 ZU).run ZM w=.ok (ZY #[.agg #[],Z1 ZT]) w:=by match o,h with|none,_|some (.root ..),_|some .filled,_|some (.shard _),_=>simp[gy,ef,Instr.typeAssert,UP underlying246]
def Iy{o:Option bF}(h:ub o=ZT):GB x k o=x:=by match o,h with|none,_|some (.root ..),_|some .filled,_|some (.shard _),_=>rfl
def Kv{x:Rt}{o:Option bF}(h:GC o=ZT):mW x o=x:=by match o,h with|none,_|some .blank,_|some .filled,_|some (.shard _),_=>rfl
def gv(w:ZS)(D L G t f n:Nat):ZS:=(w.alloc (Z4 (aq 0 0 0 0 0 0) 132)).setRow w.heap.size (aq D L G t f n)
def wD(w:ZS)(D L G t f n:Nat):(gv w D L G t f n).heap[w.heap.size]?=ZV (Z4 (aq D L G t f n) 132 (0,0)):=Vw _ _ _ _ _ _ (Ug w (Z4 (aq 0 0 0 0 0 0) 132))
def fH(w:ZS)(D L G t f n:Nat):bW w (gv w D L G t f n):=(bA w _).trans ⟨rfl,rfl,rfl,by unfold gv;rw[jy];exact TV _,λk a=>(aZ _ _ _).block k ek (λq=>ia (UN q))⟩
def BM(b:o.guard=J)(x y:Operand)(ho:o.op=.store 132 x y){D L G t f n:Nat}(c:a.eval x=Z6 (ZV ⟨w.heap.size,0,J⟩))(d:a.eval y=.agg (aq D L G t f n))(h:wpList ZM ops Q rest (a.put o.dst U) (gv w D L G t f n)):wpList ZM ops Q (o::rest) a (w.alloc (Z4 (aq 0 0 0 0 0 0) 132)):=wC b x y ho c d (Ug _ _) rfl h
def BkR(w:ZS)(R:Nat->Option bF)(N:Nat)(s i:ZR)(wr:ZS):Prop:=∃k:Nat,k<=N/\i=I O k/\s=I Z8 (cQ R k:Nat)/\bW w wr
theorem wE(R:Nat->Option bF)(v:N<=60)(f:w.rowIs g 219 N (λi=>gy (R i))):ZQ ZM 113 #[Z5 (ZV ⟨g,0,J⟩) N N] w λe w'=>e=Z3 (I Z8 (cQ R N:Nat))/\bW w w':=by
 have n:=f.lt;have y:=GE;go_enter func113,ntmps113;go_wp2_with fail;go_loopw[2,9](λs i wr=>BkR w R N s i wr)(λ_ i _=>N-(intOf i).toNat);case atStart=>exact⟨0,T8 _,rfl,rfl,TW _ _⟩
 case round=>
  obtain⟨k,x,rfl,rfl,b⟩:=hrel;by_cases q:k<N;.have r:wr.rowIs g 219 N (λi=>gy (R i)):=f.of_block (b.block g n);have c:=r.cell (i:=k) q;have d:cQ R (k+1)=GB (cQ R k) k (R k):=rfl;have m:=jq R k V;have l:cQ R k<18446744073709551616:=WU m (CD V);have h:=b.size;cases a:ub (R k)with|false=>have j:=Es a;rw[Iy a]at d;obtain⟨u,t⟩:=nM (gy (R k));simp only[t]at c j;have H:=al b d;go_wp2;refine⟨⟨k+1,V,eT,by rw[H.o.2],H.o.1.alloc h _⟩,iE⟩|true=>
     have a:R k=ZV .blank:=by match R k,a with|some .blank,_=>rfl
     have j:=NK;rw[a]at c d;simp only[gy,ef]at c;have H:=al b d;go_wp2_with fail;refine(fE _ k l V _).mono ?_;rintro e w2⟨rfl,rfl⟩;go_wp2;refine⟨⟨k+1,V,eT,by rw[H.o.2];rfl,H.o.1.alloc h _⟩,iE⟩
  .have p:k=N:=V;subst p;have H:=ak b;go_wp2;go_ret;exact⟨rfl,H.o⟩
def LrR(w:ZS)(R:Nat->Option bF)(N:Nat)(i:ZR)(wr:ZS):Prop:=∃k:Nat,k<=N/\i=I O k/\wr.heap[w.heap.size]?=ZV (Z4 (Ku (bx R k)) 132 (0,0))/\bW w wr
theorem BN(R:Nat->Option bF)(W:N<=60)(y:w.rowIs g 219 N (λi=>gy (R i))):ZQ ZM 110 #[Z5 (ZV ⟨g,0,J⟩) N N] w λe w'=>e=Z3 (.agg (Ku (bx R N)))/\bW w w':=by
 have O':=y.lt;have F:(w.alloc (Z4 (aq 0 0 0 0 0 0) 132)).heap[w.heap.size]?=ZV (Z4 (Ku (bx R 0)) 132 (0,0)):=Ug _ _;have M:bW w (w.alloc (Z4 (aq 0 0 0 0 0 0) 132)):=bA w _;have X:=rU;go_enter func110,ntmps110;go_wp2_with fail;go_loopw[9](λi wr=>LrR w R N i wr)(λi _=>N-(intOf i).toNat);case atStart=>exact⟨0,T8 _,rfl,F,M⟩
 case round=>
  obtain⟨k,j,rfl,h,d⟩:=hrel;by_cases Q:k<N;.have S:wr.rowIs g 219 N (λi=>gy (R i)):=y.of_block (d.block g O');have c:=S.cell (i:=k) Q;have hl:bx R (k+1)=mW (bx R k) (R k):=rfl;have C:=d.size;have x:w.heap.size<wr.heap.size:=(TX.1 h).1;have K:(gv wr 0 0 0 0 0 0).heap[w.heap.size]?=ZV (Z4 (Ku (bx R k)) 132 (0,0)):=((fH wr 0 0 0 0 0 0).block _ x).trans h;have J':bW w (gv wr 0 0 0 0 0 0):=d.trans ((fH wr 0 0 0 0 0 0).mono C);cases a:GC (R k)with|false=>have t1:=GD a;rw[Kv a]at hl;obtain⟨u,T⟩:=nM (gy (R k));simp only[T]at c t1;have H:=au K J' hl;go_wp2_with(show wpList _ _ _ ({dst:=J,op:=Op.store 132 (Z0 5) (Z0 16),type:=_,pos:=_,after:=_,guard:=_}::_) _ _;refine BM (w:=wr) (D:=0) (L:=0) (G:=0) (t:=0) (f:=0) (n:=0) rfl (Z0 5) (Z0 16) rfl um um ?_);refine⟨⟨k+1,V,eT,by rw[H.o.2.2];exact H.o.1,H.o.2.1⟩,iE⟩|true=>
     obtain⟨D,L,G,t,f,n,a⟩:∃D L G t f n,R k=ZV (.root D L G t f n):=by match R k,a with|some (.root ..),_=>exact⟨_,_,_,_,_,_,rfl⟩
     have t1:=Qg;rw[a]at c hl;simp only[gy,ef]at c;have p:=wD wr D L G t f n;have m:(gv wr D L G t f n).heap[w.heap.size]?=ZV (Z4 (Ku (bx R k)) 132 (0,0)):=((fH wr D L G t f n).block _ x).trans h;have z:bW w (gv wr D L G t f n):=d.trans ((fH wr D L G t f n).mono C);obtain⟨E,B⟩:=nM (gv wr D L G t f n);rw[B]at p m z;have V':E.cell? ⟨wr.heap.size,3,J⟩=ZV (I Z8 t):=(by simp[World.cell?,p,aq]);have c0:E.cell? ⟨w.heap.size,3,J⟩=ZV (I Z8 (bx R k).t):=(by simp[World.cell?,m,Ku,aq]);have H:=a5 B p m z hl;by_cases A:(bx R k).t<t;.go_wp2_with(first|(show wpList _ _ _ ({dst:=J,op:=Op.store 132 (Z0 5) (Z0 16),type:=_,pos:=_,after:=_,guard:=_}::_) _ _;refine BM (w:=wr) (D:=D) (L:=L) (G:=G) (t:=t) (f:=f) (n:=n) rfl (Z0 5) (Z0 16) rfl um um ?_;rw[H.o.1])|(show wpList _ _ _ ({dst:=ZV 26,op:=_,type:=_,pos:=_,after:=_,guard:=_}::_) _ _;refine lL (D:=D) (L:=L) (G:=G) (t:=t) (f:=f) (n:=n) (b:=wr.heap.size) rfl (Z0 5) rfl rfl um (by exact H.o.2.1) ?_)|(show wpList _ _ _ ({dst:=J,op:=Op.store 132 (Z0 2) (Z0 26),type:=_,pos:=_,after:=_,guard:=_}::_) _ _;refine wC (D:=D) (L:=L) (G:=G) (t:=t) (f:=f) (n:=n) (b:=w.heap.size) (cs:=Ku (bx R k)) rfl (Z0 2) (Z0 26) rfl um um (by exact H.o.2.2.1) rfl ?_));obtain⟨_,U',r,l,s⟩:=H.o;refine⟨⟨k+1,V,eT,?_,l.trans ⟨rfl,rfl,rfl,by rw[jy];exact TV _,λk j=>(aZ _ _ _).block k (TY j l.size) (λq=>ia (UN q))⟩⟩,iE⟩;rw[s];rw[show mW (bx R k) (ZV (.root D L G t f n))=⟨D,L,G,t,f,n⟩from TT A];exact Vw _ _ _ _ _ _ r
     .go_wp2_with(show wpList _ _ _ ({dst:=J,op:=Op.store 132 (Z0 5) (Z0 16),type:=_,pos:=_,after:=_,guard:=_}::_) _ _;refine BM (w:=wr) (D:=D) (L:=L) (G:=G) (t:=t) (f:=f) (n:=n) rfl (Z0 5) (Z0 16) rfl um um ?_;rw[H.o.1]);obtain⟨_,U',r,l,s⟩:=H.o;refine⟨⟨k+1,V,eT,?_,l⟩,iE⟩;rw[s];rw[show mW (bx R k) (ZV (.root D L G t f n))=bx R k from TS A];exact r
  .have P:k=N:=V;subst P;have H:=al h d;go_wp2_with(first|(show wpList _ _ _ ({dst:=ZV 28,op:=_,type:=_,pos:=_,after:=_,guard:=_}::_) _ _;refine lL (b:=w.heap.size) (ra:=Ku (bx R k)) rfl (Z0 2) rfl rfl um ZE ?_)|(show wpList _ _ _ ({dst:=J,op:=Op.store 132 (Z0 2) (Z0 28),type:=_,pos:=_,after:=_,guard:=_}::_) _ _;refine wC (b:=w.heap.size) (cs:=Ku (bx R k)) (D:=(bx R k).D) (L:=(bx R k).L) (G:=(bx R k).G) (t:=(bx R k).t) (f:=(bx R k).f) (n:=(bx R k).n) rfl (Z0 2) (Z0 28) rfl um um ZE rfl ?_));have Z:=Vw _ _ _ (Ku (bx R k)) _ _ H.o.1;refine Uv (v:=.agg (Ku (bx R k))) (Wl results110 _ _ w.heap.size 132 (Ku (bx R k)) (0,0) _ rfl Z XI rfl (lK _ _ _ _ _ _)) rfl ?_;exact⟨rfl,H.o.2.trans ⟨rfl,rfl,rfl,by rw[jy];exact TV _,λk j=>(aZ _ _ _).block k (TY j H.o.2.size) (λq=>ia (UN q))⟩⟩
