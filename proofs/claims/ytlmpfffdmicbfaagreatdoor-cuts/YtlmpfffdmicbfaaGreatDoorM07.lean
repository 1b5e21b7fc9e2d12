import Derived.Test.YtlmpfffdmicbfaaGreatDoorM06
import Derived.BigRegionIn
set_option maxRecDepth 100000
set_option linter.all false
set_option maxHeartbeats 8000000
open Go.IntKind renaming i64 -> O, u64 -> Z8
open Go.Value renaming int -> I, pointer -> Z6, slice -> Z5, string -> Z0, tuple -> ZZ
open Go.Obj renaming cells -> Z4
open Go.Ending renaming returned -> Z3
open Go.Operand renaming tmp -> Z1
open Go renaming undef -> ZY, World -> ZT, Value -> ZS, Calls -> ZR, Ending -> ZQ, Boxed -> ZP
open Option renaming none -> U, some -> J
open Bool renaming true -> ZV, false -> ZU
open List renaming range -> YE, take_add -> YI
open Nat renaming pow_pos -> YF, left_le_or -> YG, le_max_right -> YH, min_eq_right -> YJ
open Go.Proofs.YtlmpfffdmicbfaaGreatDoor renaming pgs -> YK
open Go.Proofs.Tryz renaming prog -> ZO
open Go.Proofs.Tryz
namespace Go.Proofs.YtlmpfffdmicbfaaGreatDoor
open Go.RowKit Go.Deep Gf Go.Shelf
variable {a:Act}{A B:an}{C:an->Prop}{cp:Array ZS}{off:Bool}{e:ZQ}{R:ZQ->ZT->Prop}{F:aC}{cf:FuncId}{room z:Int}{dl ds l P d page:a7}{cs:List ZS}{k base v p D L G ps ho sb x q b l1 m c r g N sp gone f b0 ar t n sz y po sk n1 f1 D1 L1 G1 t1 D' L' G' nn sa ls:Nat}{sg:Nat->Nat}{M S:Nat->Prop}{f0:Nat->ZS}{ao:Option Addr}{u er pg ob v7 up uq:ZS}{w w' w3 w1 w0 wr w6 w7 w5 Z X:ZT}{J':ZT->Prop}
def xA(h:k<=16):ae (2^k-1)=YE k:=pj h
def EK(R:Nat->a7):∀m,(∀i,i<m->(R i).length=44)->((YE m).map R).flatten.length=44*m|0,_=>rfl|m+1,h=>by rw[Vs,Uz,adt,Ua,EK R m λi a=>h i V];simp[h m V];omega
def abj{M size:Nat}{fl:a7}(h:w.ownsRow base 5 1 u M (aL fl))(y:fl.length=M)(v:∀x∈fl,x<256)(hs:size<=M)(z:M<=1000000):∃ao cp,u=.slice ao M cp/\M<=cp/\cp<=9223372036854775807/\(ao=U->M=0/\cp=0)/\(∀a,ao=J a->base<=a.block)/\Bs w (.slice ao size size) (fl.take size):=by
 have hl:(fl.take size).length=size:=K0;rcases h.2 with⟨d,e⟩|⟨b,cp,cur,d,m,n,o,p,A,r⟩;.have s:size=0:=V;subst s;exact⟨U,0,by rw[d,e],V,V,λ_=>⟨e,rfl⟩,λa h=>Bf,by rw[WN];exact⟨U,0,rfl,TV _,ec,λ_ h=>Bf,λh=>absurd rfl h⟩⟩
 . have j:cp<=9223372036854775807:=(by unfold maxLen at p;omega);refine⟨J ⟨b,0,U⟩,cp,d,o,j,λh=>Bf,λa h=>(by cases h;exact m),J ⟨b,0,U⟩,size,by rw[hl],by rw[hl];exact TV _,?_,λx t=>v x (US t),λ_=>⟨b,0,rfl,λk g=>?_⟩⟩;.rw[hl];omega
   . rw[hl]at g;have f:k<fl.length:=V;have q:cur[k]?=J (I .u8 ((fl[k]:Nat):Int)):=by have c:=Uy (λl=>l[k]?) r;simp only[Wd,aL]at c;rw[VK V,adw,UJ,Ud f]at c;exact c
     have i:(fl.take size).getD k 0=fl[k]:=(by simp[Ub,g,f]);rw[i];simp[World.cell?,n,q]
theorem se(D L G:Int)(w:ZT)(a:0<=D/\D<=100)(b:0<=L/\L<=100)(c:0<=G/\G<=100):ZR ZO 10 #[.agg #[I O D,I O L,I O G]] w λe w'=>e=Z3 (I O (D+L+G))/\w'=w.alloc (Z4 #[I O D,I O L,I O G] 28):=by obtain⟨d,f⟩:=a;obtain⟨b1,b2⟩:=b;obtain⟨c1,g⟩:=c;go_enter func10,ntmps10;go_wp2;go_ret;exact⟨rfl,rfl⟩
theorem sf(h:bz w v p D L G ps ho)(hD:D<=12)(hL:L<=4)(hG:G<=4){N:Nat}(l:N=D+L+G):ZR ZO 82 #[Z6 (J ⟨v,0,U⟩)] w λe w'=>e=Z3 (Z6 (J ⟨w.heap.size+2,0,U⟩))/\eQ w' (w.heap.size+2) v 0 (w.heap.size+1) N 0 0/\w'.rowIs (w.heap.size+1) 36 N (λ_=>Z5 U 0 0)/\bW w w':=by
 obtain⟨_,c1,g,i,_⟩:=h.cells;go_enter func82,ntmps82;go_wp2_with fail;refine(se (D:Int) (L:Int) (G:Int) w ⟨V,V⟩ ⟨V,V⟩ ⟨V,V⟩).mono ?_;rintro e w5⟨rfl,c⟩;rw[(V:((D:Int)+(L:Int)+(G:Int))=(N:Int))];have m:N<=20:=V;have a:bW w w5:=by rw[c];exact bA w _
 have b:w5.heap.size=w.heap.size+1:=by rw[c];simp
 have f:=al a b;clear a c1 g i h l c b;go_wp2_with(at_make;refine yu _ rfl (Z1 8) (Z1 8) rfl _ N rfl rfl rfl V ?_;intro w6 d k n);go_ret;obtain⟨a,b⟩:=f.o;have j:w6.heap.size=w.heap.size+2:=V;rw[b]at d⊢;refine⟨rfl,?_,?_,?_⟩;.have:=Ug w6 (Z4 (rdA v 0 (w.heap.size+1) N 0 0) 204);rw[j]at this;exact this
 .exact d.of_block (UE _ _ _ V)
 .exact(a.trans (k.mono a.size)).alloc V _
section
section
variable (D L G lost:Nat)(hr:dA D L G=ZV)(hD1:1<=D)(hD:D<=12)(hL:1<=L)(hL4:L<=4)(hG:G<=4)(hdiv:D%L=0)(h16:D+L+G<=16)(hl:lost<2^(D+L+G))
include hr hD1 hD hL hL4 hG hdiv h16 hl
theorem KM(rd:Bool)(w:ZT)(j:aI w)(h:3<=w.heap.size):ZR ZO 181 #[bS D L G lost rd] w (GrP D L G lost w):=by have a:=yD.new w D L G lost rd;obtain⟨w2,u⟩:=nM ((w.alloc (Z4 #[I O (D:Int),I O (L:Int),I O (G:Int),I Z8 (lost:Int),.bool rd] 236)).alloc (Z4 #[I O 0,Z5 U 0 0] 210));rw[u]at a;obtain⟨c0,c1,E,F,o⟩:=a.cells;have t:=EC D L G lost hr hD1 hD hL hL4 hG hdiv h16 hl w2 (j.mono V a.below) (TU h a.below.size);have r:=sU D L G lost hr hD1 hD hL hL4 hG hdiv h16 hl w2 (j.mono V a.below) (TU h a.below.size);have H:=au a t r;unfold bS;cases rd;all_goals(
  go_enter func181,ntmps181;go_wp2_with fail;first|refine H.o.2.1.mono ?_|refine H.o.2.2.mono ?_
  rintro e w3⟨z,ao,m,c,er,rfl,b,f⟩;have a:=H.o.1;have hs:=a.size;have d:=(b.block (w.heap.size+1) V).trans a.res;obtain⟨M,N,K,J'⟩:=aB d;have k:=aE f b d hs;go_wp2;obtain⟨f,b,d,hs⟩:=k.o;obtain⟨n0,n1,_⟩:=aB (jo (y':=.slice ao m c) (jn (x':=I O z) d));refine Uv (v:=ZZ #[.agg #[I O z,.slice ao m c],er]) (by simp[results,results181,go_sem,n0,n1]) rfl ?_;have l:bW w w3:=H.o.1.below.trans (b.mono H.o.1.below.size);refine⟨z,ao,m,c,er,rfl,(l.setCell (p:=⟨w.heap.size+1,0,U⟩) eP _).setCell (p:=⟨w.heap.size+1,1,U⟩) eP _,?_⟩;rcases f with q|⟨x,s,C,y,A,B,i⟩;.exact .inl q
  . have g:(Value.slice ao m c).ownBlock≠J (w.heap.size+1):=λe=>by have:=kL i e;omega
    have n:=(i.kept (dN w3 (w.heap.size+1) 0 (I O z)) (.inr g)).kept (dN _ (w.heap.size+1) 1 (.slice ao m c)) (.inr g);exact .inr ⟨x,s,C,y,A,B,gN n V⟩)
end
def PlA(sb:Nat)(room:Int)(D L G x:Nat)(qs:List Pq)(w w':ZT)(z:Int)(ao:Option Addr)(m c:Nat)(er:ZS):Prop:=(er=.iface 58 (I O 3)/\z=0/\ao=U/\m=0/\c=0/\¬dZ D L G (fw x)/\bW w w')\/(er=.nilIface/\∃s C es' qs',(∀i,(fw x).testBit i=ZV->s.testBit i=ZV)/\tells (iT D L G) (ae (aA (D+L+G) s))=J C/\z=1+((ae (aA (D+L+G) s)).length:Int)/\w'.ownsRow w.heap.size 304 4 (.slice ao m c) (cE D L G s C).length (eY .u8 (cE D L G s C))/\il w' sb room D L G es' qs'/\(∀q∈qs',q∈qs\/(w.heap.size<=q.nb/\∀k,(Value.slice q.ao q.m q.c).ownBlock=J k->w.heap.size<=k))/\aa (λk=>qA sb qs k\/k=sb+1) w w')
section
variable (D L G x:Nat)(hr:dA D L G=ZV)(hD1:1<=D)(hD:D<=12)(hL:1<=L)(hL4:L<=4)(hG:G<=4)(hdiv:D%L=0)(h16:D+L+G<=16)(hl:fw x<2^(D+L+G))
include hr hD1 hD hL hL4 hG hdiv h16 hl
theorem Oc{es:List (Nat×Nat×Nat)}{qs:List Pq}(V':il w sb room D L G es qs)(hx:x∉dm es)(hT:aI w)(h2:3<=w.heap.size):ZR ZO 152 #[Z6 (J ⟨sb+1+1+1,0,U⟩),bS D L G (fw x:Nat) (gu x)] w λe w'=>∃z ao m c er,e=Z3 (ZZ #[.agg #[I O z,.slice ao m c],er])/\PlA sb room D L G x qs w w' z ao m c er:=by
 have j:=yD.new w D L G (fw x:Nat) (gu x);obtain⟨w2,q4⟩:=nM ((w.alloc (Z4 #[I O (D:Int),I O (L:Int),I O (G:Int),I Z8 ((fw x:Nat):Int),.bool (gu x)] 236)).alloc (Z4 #[I O 0,Z5 U 0 0] 210));rw[q4]at j;obtain⟨c0,c1,R,S,U'⟩:=j.cells;have g:=V'.keep λk a=>j.below.block k (V'.blt k a);have k7:=g.list;obtain⟨n,k8⟩:=g.map;have q2:=g.cell;have hy:∀w',bW w2 w'->ZR ZO 180 #[Z6 (J ⟨sb+1+1,0,U⟩),bS D L G (fw x:Nat) (gu x)] w' λe hd=>e=Z3 (ZZ #[.agg #[I O 0,Z5 U 0 0],.bool ZU])/\bW w' hd:=λw' hb=>Gy ((hb.block _ (TX.1 k7).1).trans k7) ((hb.block _ (TX.1 k8).1).trans k8) hx;have ka:bW w2 (w2.alloc (Z4 #[I O 0,Z5 U 0 0] 210)):=bA w2 _;obtain⟨d0,d1,d2,d3,d4⟩:=(j.mono ka).cells;have dp:=(g.keep λk a=>ka.block k (g.blt k a)).cell;have ke:=au (TX.1 V'.R3).1 (λk(a:qA sb qs k)=>V'.blt k (ED a)) hx;have q6:=j.size;have H:=au j g hy;clear j g hy k7 k8 V' ka hx;unfold bS at H⊢;go_enter func152,ntmps152;go_upto_region 1 with fail;go_cut[6,7]from 10 to 18(λv6 v7 wx=>v7=.bool ZU/\bW w2 wx);case first=>go_region_with(go_at_call 180;refine(H.o.2.2 _ ?_).mono ?_;(first|exact(TW _ _).drew|exact((TW _ _).drew).alloc lR _);rintro e w3⟨rfl,A⟩;(try(have q3:w3.heap[w2.heap.size]?=J (Z4 #[I O 0,Z5 U 0 0] 210 (0,0)):=(A.block w2.heap.size ej).trans (Ug w2.drew _);obtain⟨r0,r1,g1,g0⟩:=aB q3;clear q3));have hv:bW w2 w3:=(by first|exact((TW _ w2).drew).trans A|exact((bA w2 _).drew).trans (A.mono ej));have O':=ak hv;clear A hv);all_goals(go_wp2_with fail;go_meet;case rel=>(refine⟨rfl,?_⟩;first|exact O'.o.alloc O'.o.size _|exact(O'.o.setCell (p:=⟨w2.heap.size,0,U⟩) lR _).setCell (p:=⟨w2.heap.size,1,U⟩) lR _))
 case rest=>
  clear c0 c1 R S U' d0 d1 d2 d3 d4 dp q2;rename ZT=>w3;obtain⟨rfl,A⟩:=hcut;obtain⟨j,g,_⟩:=H.o;have f:=j.mono A;have J':=g.keep λk a=>A.block k (g.blt k a);obtain⟨c0,c1,R,S,U'⟩:=f.cells;have kb:=KM D L G (fw x) hr hD1 hD hL hL4 hG hdiv h16 hl (gu x) w3 (hT.mono V f.below) (TU h2 f.below.size);unfold bS at kb;have O':=au f J' kb;clear j g f J' kb A hT;go_wp2_with fail;refine O'.o.2.2.mono ?_;rintro e d⟨z,ao,m,c,er,rfl,K,kv⟩;clear c0 c1 R S U';obtain⟨f,J',_⟩:=O'.o;have q5:=f.size;rcases kv with⟨rfl,rfl,rfl,rfl,rfl,ki⟩|⟨rfl,s,C,M,o,N,kj⟩;.have kr:=ak ki;clear ki;have F:bW d (d.alloc (Z4 #[I O 0,Z5 U 0 0] 210)):=bA d _;have t:=K.trans (F.mono K.size);have W:=(t.block (w.heap.size+1) V).trans f.res;have h:(d.alloc (Z4 #[I O 0,Z5 U 0 0] 210)).heap[d.heap.size]?=J (Z4 #[I O 0,Z5 U 0 0] 210 (0,0)):=Ug _ _;obtain⟨q0,q1,g1,g0⟩:=aB W;obtain⟨r0,r1,_,_⟩:=aB h;have Z:bW w (d.alloc (Z4 #[I O 0,Z5 U 0 0] 210)):=f.below.trans (t.mono f.below.size);have Q:=al W Z;clear K F t W h Z f J';go_wp2;obtain⟨W,Z⟩:=Q.o;obtain⟨n0,n1,_⟩:=aB (jo (y':=Z5 U 0 0) (jn (x':=I O 0) W));refine Uv (v:=ZZ #[.agg #[I O 0,Z5 U 0 0],.iface 58 (I O 3)]) Za rfl ⟨0,U,0,0,_,rfl,.inl ⟨rfl,rfl,rfl,rfl,rfl,kr.out,?_⟩⟩;exact(Z.setCell (p:=⟨w.heap.size+1,0,U⟩) eP _).setCell (p:=⟨w.heap.size+1,1,U⟩) eP _
  have kp:=ak (show w.heap.size+2<=w3.heap.size/\w3.heap.size<=d.heap.size from⟨f.size,K.size⟩);have F:bW d (d.alloc (Z4 #[I O z,.slice ao m c] 210)):=bA d _;have t:=K.trans (F.mono K.size);have i:=f.mono t;have y:=J'.keep λk a=>t.block k (J'.blt k a);have kk:=y.cell;have h:(d.alloc (Z4 #[I O z,.slice ao m c] 210)).heap[d.heap.size]?=J (Z4 #[I O z,.slice ao m c] 210 (0,0)):=Ug _ _;have u:=az kj F;obtain⟨w5,kc⟩:=nM (d.alloc (Z4 #[I O z,.slice ao m c] 210));rw[kc]at F t i y kk h u;obtain⟨c0,c1,R,S,U'⟩:=i.cells;obtain⟨r0,r1,_,_⟩:=aB h;have Y:=abf (w:=w5.drew) (y.keep λ_ _=>rfl) ke.out.2.2 (show w5.drew.ownsRow 0 304 4 (.slice ao m c) (cE D L G s C).length (eY .u8 (cE D L G s C))from gN (az u (TW _ w5).drew) (T8 _)) M o;rw[<-N]at Y;unfold bS at Y;have Q:=hide8 i y h u Y M o N;clear kj K F t i y h u Y f J' M o N;go_upto_region 6 with fail;go_cut[34]from 28 to 33(λ_v wx=>(∃l b,il wx sb room D L G l b/\∀q∈b,q∈qs\/q=⟨x,w5.drew.heap.size+1+1,s,C,ao,m,c⟩)/\aa (λk=>qA sb qs k\/k=sb+1) w5.drew wx);case first=>go_region_with(go_at_call 182;refine Q.o.2.2.2.2.1.mono ?_;rintro e w6⟨rfl,r,hs⟩;have H6:=al r hs;clear r hs);all_goals(go_wp2_with fail;go_meet;case rel=>exact H6.o)
  case rest=>
   rename ZT=>w6;clear c0 c1 R S U' r0 r1 kk;obtain⟨⟨l,b,r,k5⟩,hs⟩:=hcut;obtain⟨i,y,h,u,_,M,o,N⟩:=Q.o;have E:aa (λk=>qA sb qs k\/k=sb+1) w5 w6:=(aa.drew w5).trans hs;obtain⟨ko,kg,_⟩:=ke.out;have km:=i.size;have kz:d.heap.size<w5.heap.size:=(TX.1 h).1;have kf:=kp.out;have k6:∀k,w.heap.size<=k->¬(qA sb qs k\/k=sb+1):=λk h1 q=>by
    rcases q with q|q;.have:=kg k q;omega
    .omega
   have B:=(E.block (w.heap.size+1) V (k6 _ V)).trans i.res;have kh:=(E.block d.heap.size kz (k6 _ V)).trans h;have P:w6.ownsRow w3.heap.size 304 4 (.slice ao m c) (cE D L G s C).length (eY .u8 (cE D L G s C)):=cD u E (λk a q=>k6 k (ia (eO u a)) q);obtain⟨q0,q1,g1,g0⟩:=aB B;obtain⟨r0,r1,_,_⟩:=aB kh;have q7:w5.drew.heap.size=w5.heap.size:=rfl;have X:∀q∈b,q∈qs\/(w.heap.size<=q.nb/\∀k,(Value.slice q.ao q.m q.c).ownBlock=J k->w.heap.size<=k):=λq hq=>(k5 q hq).imp id λe=>by subst e;exact⟨by show w.heap.size<=w5.drew.heap.size+1+1;omega,λk a=>ia (eO P a)⟩
   have H6:=hide9 B r P E X km ko kf y.blt;clear r k5 X hs i y h u E B kh P M o N kg k6;go_wp2;obtain⟨B,r,P,E,X,km,ko,kf,ks⟩:=H6.o;obtain⟨n0,n1,_⟩:=aB (jo (y':=.slice ao m c) (jn (x':=I O z) B));have k9:aa (λk=>k=w.heap.size+1) w6 ((w6.setCell ⟨w.heap.size+1,0,U⟩ (I O z)).setCell ⟨w.heap.size+1,1,U⟩ (.slice ao m c)):=gk w6 (w.heap.size+1) 0 1 _ _;refine Uv (v:=ZZ #[.agg #[I O z,.slice ao m c],.nilIface]) Za rfl ?_;obtain⟨i,_,_,_,_,M,o,N⟩:=Q.o;have kx:∀k,Qm sb b k->k≠w.heap.size+1:=λk a e=>by obtain⟨cs,T,zz,ky⟩:∃cs T zz,w6.heap[k]?=J (Z4 cs T zz):=⟨_,_,_,by rw[e];exact B⟩;rw[e,B]at ky;have:=(kU sb room D L G l b 0).kd w6 r k a _ _ _ (by rw[e];exact B);exact absurd this vm
   exact⟨z,ao,m,c,_,rfl,.inr ⟨rfl,s,C,l,b,M,o,N,gN (cD P k9 (λk a q=>ia (eO P a))) V,r.keep λk a=>k9.block k (r.blt k a) (kx k a),X,(aa.after i.below E).later k9 (λk a q=>V)⟩⟩
end
end
section
def PnA(D L G:Nat)(Kind:aN->Prop)(ps:aN)(lost:Nat)(w:ZT)(e:ZQ)(w':ZT):Prop:=(e=wP/\¬dZ D L G lost/\bW w w')\/∃(ps':aN)(s:Nat)(C:Ck)(ao:Option Addr)(m c:Nat),oL D L G s ao m c e/\E5 D L G Kind ps ps' lost s C ao m c w.heap.size w'/\aa ps.bl w w'
section
variable (D L G:Nat)(hr:dA D L G=ZV)(hD1:1<=D)(hD:D<=12)(hL:1<=L)(hL4:L<=4)(hG:G<=4)(hdiv:D%L=0)(h16:D+L+G<=16)
include hr hD1 hD hL hL4 hG hdiv h16
def Od(hl:fw x<2^(D+L+G)){w:ZT}{sb:Nat}{room:Int}{ps:aN}(hK:mZ sb room D L G ps)(F:ps.S w)(H:aI w)(b:3<=w.heap.size):ZR ZO 152 #[Z6 (J ⟨ps.ps,0,U⟩),bS D L G (fw x:Nat) (gu x)] w (PnA D L G (mZ sb room D L G) ps (fw x) w):=by
 obtain⟨h,T,ho,rfl⟩:=hK;have u:il w sb room D L G h T:=F;by_cases v:x∈dm h;.obtain⟨q,a,i,M,o,K⟩:=NW u v;refine K.mono ?_;rintro e w'⟨A,b,j⟩;have l:=(o q).2 i;exact .inr ⟨kU sb room D L G h a ho,q.s,q.C,q.ao,q.m,q.c,A,⟨⟨h,a,ho,rfl⟩,rfl,rfl,b,λk d=>.inl (EE o d),λk d=>.inl (.inr (.inr ⟨q,i,d⟩)),b.own q l,M▸b.Tu q l,b.told q l⟩,j.mono λk _ e=>ED e⟩
 . refine(Oc D L G x hr hD1 hD hL hL4 hG hdiv h16 hl u v H b).mono ?_;rintro e w'⟨z,ao,m,c,er,rfl,⟨rfl,rfl,rfl,rfl,rfl,Q,J'⟩|⟨rfl,s,C,g,a,b,j,rfl,r,B,t,E⟩⟩;.exact .inl ⟨rfl,Q,J'⟩
   refine .inr ⟨kU sb room D L G g a ho,s,C,ao,m,c,rfl,⟨⟨g,a,ho,rfl⟩,rfl,rfl,B,λk d=>?_,λk d=>.inr (eO r d),gN r (T8 _),b,j⟩,E.mono λk _ e=>?_⟩
   . rcases d with q|q|⟨q,i,y⟩;.exact .inl (.inl q)
     . obtain⟨p,N,n⟩:=T9.1 q;rcases t p N with f|f;.exact .inl (.inr (.inl (T9.2 ⟨p,f,n⟩)))
       .exact .inr (n▸f.1)
     . rcases t q i with f|f;.exact .inl (.inr (.inr ⟨q,f,y⟩))
       .exact .inr (f.2 k y)
   . rcases e with e|e;.exact ED e
     .exact .inl V
theorem Au{ps:aN}(hK:mZ sb room D L G ps){w:ZT}(N:ps.S w)(Y:aI w)(i:3<=w.heap.size){l:Nat}(hp:l<2^(D+L+G)){f:FuncId}{b:Bool}(Z:(f=160/\b=ZV)\/(f=122/\b=ZU)):ZR ZO f #[Z6 (J ⟨ps.ps,0,U⟩),.agg #[I O D,I O L,I O G],I Z8 l] w (PnA D L G (mZ sb room D L G) ps l w):=by
 have a:=CI.new w D L G;have n:((w.alloc (Z4 #[I O (D:Int),I O (L:Int),I O (G:Int)] 28)).alloc (Z4 #[I O 0,Z5 U 0 0] 210)).heap.size=w.heap.size+2:=ej;obtain⟨w2,hv⟩:=nM ((w.alloc (Z4 #[I O (D:Int),I O (L:Int),I O (G:Int)] 28)).alloc (Z4 #[I O 0,Z5 U 0 0] 210));rw[hv]at a n;obtain⟨c0,c1,c2⟩:=fT a.par;have Q:fw (2*l+b.toNat)=l:=by cases b<;>simp[fw]<;>omega
 have U':gu (2*l+b.toNat)=b:=by cases b<;>simp[gu]<;>omega
 have P:=Od D L G hr hD1 hD hL hL4 hG hdiv h16 (x:=2*l+b.toNat) (by rw[Q];exact hp) hK (ps.keep _ _ N λk d=>a.below.block k (ps.lt _ N k d)) (Y.mono V a.below) (TU i a.below.size);rw[Q,U']at P;unfold bS at P;have H:=aE a n P (ps.lt _ N);rcases Z with⟨rfl,rfl⟩|⟨rfl,rfl⟩;go_enter func160,ntmps160;rotate_left;go_enter func122,ntmps122;all_goals(
  go_wp2_with fail;refine H.o.2.2.1.mono ?_;rintro e w3(⟨rfl,hs,A⟩|⟨ps',s,C,ao,m,c,R,X,y⟩);.unfold wP;have hm:=ak hs;obtain⟨a,n,_,j⟩:=H.o;have g:=(A.block (w.heap.size+1) V).trans a.res;obtain⟨r0,r1,W,V'⟩:=aB g;have E:=al g (a.below.trans (A.mono a.below.size));go_wp2;obtain⟨g,A⟩:=E.o;obtain⟨n0,n1,_⟩:=aB (jo (y':=Z5 U 0 0) (jn (x':=I O 0) g));refine Uv (v:=ZZ #[.agg #[I O 0,Z5 U 0 0],.iface 58 (I O 3)]) (by simp[results,results160,results122,go_sem,n0,n1]) rfl (.inl ⟨rfl,hm.out,?_⟩);exact(A.setCell (p:=⟨w.heap.size+1,0,U⟩) eP _).setCell (p:=⟨w.heap.size+1,1,U⟩) eP _
  . obtain⟨F,i,o,r,t,u,J',K,M⟩:=X;unfold oL at R;subst R;obtain⟨z,B⟩:∃z:Int,1+((ae (aA (D+L+G) s)).length:Int)=z:=⟨_,rfl⟩;rw[B];obtain⟨a,n,_,j⟩:=H.o;have g:=(y.block (w.heap.size+1) V (λq=>ia (j _ q))).trans a.res;obtain⟨r0,r1,W,V'⟩:=aB g;have E:=hide12 F i o r t u J' K M y g B;go_wp2;obtain⟨F,i,o,r,t,u,J',K,M,y,g,B⟩:=E.o;obtain⟨a,n,_,j⟩:=H.o;obtain⟨n0,n1,_⟩:=aB (jo (y':=.slice ao m c) (jn (x':=I O z) g));have O':aa (λk=>k=w.heap.size+1) w3 ((w3.setCell ⟨w.heap.size+1,0,U⟩ (I O z)).setCell ⟨w.heap.size+1,1,U⟩ (.slice ao m c)):=gk w3 (w.heap.size+1) 0 1 _ _;have hq:∀k,ps'.bl k->k≠w.heap.size+1:=λk d=>by rcases t k d with q|q;have:=j k q;omega;omega
    refine Uv (v:=ZZ #[.agg #[I O z,.slice ao m c],.nilIface]) (by simp[results,results160,results122,go_sem,n0,n1]) rfl ?_;have h:=(y.mono λ_ _ q=>(.inl q:_\/_)).trans (O'.mono λk _ q=>(.inr q:ps.bl k\/_));refine .inr ⟨ps',s,C,ao,m,c,by unfold oL;rw[B],⟨F,i,o,ps'.keep _ _ r λk d=>O'.block k (ps'.lt _ r k d) (hq k d),λk d=>?_,λk d=>?_,cD J' O' λk d q=>?_,K,M⟩,⟨h.os.trans a.below.os,h.tape.trans a.below.tape,h.output.trans a.below.output,TU a.below.size h.size,λk d hn=>(h.block k (ia a.below.size) (λq=>q.elim hn V)).trans (a.below.block k d)⟩⟩
    . rcases t k d with q|q;.exact .inl q
      .exact .inr V
    . rcases u k d with q|q;.exact .inl q
      .exact .inr V
    . rcases u k d with T|T;.have:=j k T;omega
      .omega)
end
end
section
structure si(w:ZT)(r v b g N p D L G:Nat)(Kind:aN->Prop)(ps:aN)(A:an)(F:aC)(dl:a7):Prop where
 vol:qP w v p D L G ps.ps ps.ho A F
 nN:N=D+L+G
 hol:ps.ho<2^N
 kit:ps.S w
 kind:Kind ps
 apt:∀k,ps.bl k->3<=k/\k≠v/\¬F.S k
 vr:v≠r
 vg:v≠g
 rg:r≠g
 gF:¬F.S g
 rF:¬F.S r
 rK:3<=r
 vK:3<=v
 gK:3<=g
 nb:b<A.nb
 cw:A.at b (PQ D L G dl)len:dl.length<=D*44byt:∀x∈dl,x<256fine:A.fine D L G
structure sm(w0:ZT)(r v b g N p D L G:Nat)(A:an)(F:aC)(Kind:aN->Prop)(ps ps1:aN)(dl:a7)(sp gone hl:Nat)(ds:a7)(f:Nat->ZS)(w:ZT):Prop where
 rd:eQ w r v b g N gone sp
 vol:qP w v p D L G ps.ps hl A F
 row:w.rowIs g 36 N f
 kn:Kn w w0.heap.size yB f (xL D L G dl) ds
 kit:ps1.S w
 kind:Kind ps1
 psE:ps1.ps=ps.ps
 bl:∀k,ps1.bl k->ps.bl k\/w0.heap.size<=k
 out:aa (λk=>k=g\/k=r\/k=v\/F.S k\/ps.bl k) w0 w
 okd:∀i∈ds,gnB A b i=ZU/\i<N
 gol:gone<2^N
 hll:hl<2^N
 spl:sp<2^N
 gb:∀i,gone.testBit i=ZV->gnB A b i=ZV
section
variable {w0 w w':ZT}{r v b g N p D L G:Nat}{Kind:aN->Prop}{ps ps1:aN}{A:an}{F:aC}{dl:a7}{sp gone hl:Nat}{ds:a7}{f:Nat->ZS}
def sm.apart(h:sm w0 r v b g N p D L G A F Kind ps ps1 dl sp gone hl ds f w)(hs:si w0 r v b g N p D L G Kind ps A F dl)(hr:r<w0.heap.size)(i:g<w0.heap.size)(c:¬ps.bl r)(a:¬ps.bl g)(k:Nat)(d:ps1.bl k):3<=k/\k≠v/\k≠r/\k≠g/\¬F.S k:=by
 rcases h.bl k d with q|q;.exact⟨(hs.apt k q).1,(hs.apt k q).2.1,λe=>c (e▸q),λe=>a (e▸q),(hs.apt k q).2.2⟩
 .have:=hs.vol.vol.lt;have:=hs.vol.room;exact⟨V,V,V,V,λe=>ia (hs.vol.arr.RL e)⟩
def qP.TF(h:qP w v p D L G q ho A F){T:Nat->Prop}(a:aa T w w')(b:∀k,T k->3<=k/\k≠v/\¬F.S k):qP w' v p D L G q ho A F:=by exact{h with vol:=h.vol.keep (a.block _ h.vol.lt λq=>(b _ q).2.1 rfl),arr:=h.arr.keep (λk c=>a.block k (h.arr.RL c) λq=>(b k q).2.2 c),laid:=h.laid.keep (a.block _ h.laid.lt λq=>ia ((b _ q).1)),tab:=h.tab.keep (a.block _ h.tab.lt λq=>ia ((b _ q).1)),room:=TU h.room a.size}
def sm.SH(h:sm w0 r v b g N p D L G A F Kind ps ps1 dl sp gone hl ds f w)(c:∀k,ps1.bl k->3<=k/\k≠v/\k≠r/\k≠g/\¬F.S k){ps2:aN}(a:aa ps1.bl w w')(l:ps2.S w')(hK:Kind ps2)(o:ps2.ps=ps1.ps)(s:∀k,ps2.bl k->ps1.bl k\/w.heap.size<=k):sm w0 r v b g N p D L G A F Kind ps ps2 dl sp gone hl ds f w':=by
 have u:=h.out.size;refine{h with rd:=h.rd.keep (a.block _ h.rd.lt λq=>(c _ q).2.2.1 rfl),vol:=h.vol.TF a λk q=>⟨(c k q).1,(c k q).2.1,(c k q).2.2.2.2⟩,row:=h.row.of_block (a.block _ h.row.lt λq=>(c _ q).2.2.2.1 rfl),kn:=⟨h.kn.1,λi t=>?_⟩,kit:=l,kind:=hK,psE:=o.trans h.psE,bl:=λk q=>(s k q).elim (h.bl k) λe=>.inr (TU u e),out:=h.out.later (a.mono λk _ q=>h.bl k q) ?_};.obtain⟨bl,m,n,d,j⟩:=h.kn.2 i t;exact⟨bl,m,n,TY d a.size,(a.block bl d (cI h.kit j NX)).trans j⟩
 . intro k l q;rcases q with q|q;.exact .inr (.inr (.inr (.inr q)))
   .omega
def oN(h:sm w0 r v b g N p D L G A F Kind ps ps1 dl sp gone hl ds f w)(hs:si w0 r v b g N p D L G Kind ps A F dl)(hr:r<w0.heap.size)(o:g<w0.heap.size)(Q:¬ps.bl r)(J':¬ps.bl g)(T:Nat)(O':T<65536)(j:∀i,i∈ae T->i<N):ZR ZO 120 #[Z6 (J ⟨r,0,U⟩),I Z8 T] w λe w'=>e=Z3 (ZZ #[])/\∃f' R,sm w0 r v b g N p D L G A F Kind ps ps1 dl sp (gone|||jZ (gnB A b) (feN T gone sp ds)) R (ds++Ef A b (feN T gone sp ds)) f' w'/\aa (λk=>k=g\/k=r\/k=v\/F.S k) w w':=by
 have P:=h.apart hs hr o Q J';have:=hs.vol.n;have K:=hs.nN;have l:N<=16:=by rw[K];exact hs.vol.par.s
 have:2^N<=65536:=gZ l;have E:=h.gol;have:=h.spl;have:=hs.gK;have:=hs.rK;have:=hs.vK;have m:∀i∈feN T gone sp ds,i<N:=λi a=>j i ((pX V V).1 a).1;refine(Kh (ds:=ds) (M:=xL D L G dl) h.vol hs.nb (λi a=>⟨(hs.cw i a).1,(rS hs.vol.par dl V).1⟩) h.rd h.row h.kn T O' V V (λi a=>⟨j i a,ia (j i a)⟩) h.hll l hs.vr hs.rK hs.vK hs.gF hs.rF hs.rg hs.vg hs.gK h.out.size o hr hs.vol.vol.lt (λk d=>hs.vol.arr.RL d)).mono ?_;rintro e w'⟨rfl,V',⟨U',s,W⟩,⟨f1,C,H⟩,B,c⟩;refine⟨rfl,f1,U',{h with rd:=V',hll:=s,vol:={h.vol with vol:=W,arr:=B,laid:=h.vol.laid.keep (c.block _ h.vol.laid.lt λq=>?_),tab:=h.vol.tab.keep (c.block _ h.vol.tab.lt λq=>?_),room:=TU h.vol.room c.size},row:=C,kn:=H,kit:=ps1.keep _ _ h.kit λk d=>c.block k (ps1.lt _ h.kit k d) (λq=>?_),out:=h.out.trans (c.mono λk _ q=>q.imp_right λq=>q.imp_right λq=>q.imp_right .inl),okd:=λi a=>?_,gol:=V5 E (nt _ _ m),gb:=λi q=>?_},c⟩
 . rcases q with q|q|q|q;.omega
   .omega
   .omega
   .exact hs.vol.g q
 . rcases q with q|q|q|q;.omega
   .omega
   .omega
   .exact hs.vol.t q
 . obtain⟨_,u,x,y,z⟩:=P k d;rcases q with q|q|q|q;.exact y q
   .exact x q
   .exact u q
   .exact z q
 . rcases Ui.1 a with q|q;.exact h.okd i q
   .exact⟨(nB.1 q).2,m i (nB.1 q).1⟩
 .rw[V4,Xf]at q;exact q.elim (h.gb i) λq=>((lJ _ i _).1 q).2
end
end
section
def GW(N sp gone:Nat):Nat:=(if sp=0 then 0 else 1)+(2^N-gone)
def Qr{a b:Nat}(h:a|||b≠a):a<a|||b:=Nat.lt_of_le_of_ne YG (Vc h)
def acd(f:FuncId)(D L G:Nat)(Kind:aN->Prop):Prop:=∀(ps:aN),Kind ps->∀(w:ZT),ps.S w->aI w->3<=w.heap.size->∀lost:Nat,lost<2^(D+L+G)->ZR ZO f #[Z6 (J ⟨ps.ps,0,U⟩),.agg #[I O D,I O L,I O G],I Z8 lost] w (PnA D L G Kind ps lost w)
def qI(D L G:Nat)(Kind:aN->Prop):Prop:=acd 160 D L G Kind/\acd 122 D L G Kind
structure Qs(w:ZT)(r v b g N p D L G:Nat)(Kind:aN->Prop)(ps:aN)(A:an)(F:aC)(dl M:a7)(e:ZQ)(w':ZT):Prop where
 rd:∃gone sp,eQ w' r v b g N gone sp
 row:∃f,w'.rowIs g 36 N f/\e=Z3 .nilIface/\∀i∈M,∃bl c,f i=Z5 (J ⟨bl,0,U⟩) 44 c/\bl<w'.heap.size/\w'.rangeAt bl 0 (aL (xL D L G dl i))kit:∃(ps1:aN)(hl:Nat),Kind ps1/\ps1.ps=ps.ps/\ps1.S w'/\bz w' v p D L G ps.ps hl/\hl<2^N/\∀k,ps1.bl k->ps.bl k\/w.heap.size<=k
 arr:ay w' p A F
 out:aa (λk=>k=g\/k=r\/k=v\/F.S k\/ps.bl k) w w'
def Qt(D L G:Nat)(Kind:aN->Prop)(ps:aN)(l1:Nat)(w1:ZT)(v6 v7:ZS)(wx:ZT):Prop:=(v7=.iface 58 (I O 3)/\¬dZ D L G l1/\bW w1 wx)\/abg D L G Kind ps l1 w1 v6 v7 wx
def C2A(D L G:Nat)(Kind:aN->Prop)(ps1:aN)(l1:Nat)(w' w3:ZT)(z:Int)(ao:Option Addr)(m c:Nat)(er:ZS):Prop:=(er=.iface 58 (I O 3)/\¬dZ D L G l1/\bW w' w3)\/(er=.nilIface/\∃ps' s C,z=1+((ae (aA (D+L+G) s)).length:Int)/\E5 D L G Kind ps1 ps' l1 s C ao m c w'.heap.size w3/\aa ps1.bl w' w3)
def xB{D L G:Nat}{Kind:aN->Prop}{ps1:aN}(h:(e=wP/\¬dZ D L G l1/\bW w' w3)\/∃ps' s C ao m c,oL D L G s ao m c e/\E5 D L G Kind ps1 ps' l1 s C ao m c w'.heap.size w3/\aa ps1.bl w' w3):∃z ao m c er,e=Z3 (ZZ #[.agg #[I O z,.slice ao m c],er])/\aa ps1.bl w' w3/\cL (C2A D L G Kind ps1 l1 w' w3 z ao m c er):=by
 rcases h with⟨b,f,a⟩|⟨ps',s,C,ao,m,c,b,a,d⟩;.exact⟨0,U,0,0,_,b,aa.RK a _,ak (.inl ⟨rfl,f,a⟩)⟩
 .exact⟨_,ao,m,c,_,b,d,ak (.inr ⟨rfl,ps',s,C,rfl,a,d⟩)⟩
def Av{D L G:Nat}{Kind:aN->Prop}{ps1:aN}(h:C2A D L G Kind ps1 l1 w' w3 z ao m c er)(a:bW w1 w')(f:w'.heap.size=w1.heap.size):Qt D L G Kind ps1 l1 w1 (Z6 (J ⟨w3.heap.size,0,U⟩)) er (w3.alloc (Z4 #[I O z,.slice ao m c] 210)):=by
 rcases h with⟨rfl,b,h⟩|⟨rfl,ps',s,C,rfl,d,e⟩;.exact .inl ⟨rfl,b,(a.trans (h.mono a.size)).alloc (ia h.size) _⟩
 .exact .inr (KA (d.mono V) a e)
def xC{D L G:Nat}{Kind:aN->Prop}{ps1:aN}{w2:ZT}(h:C2A D L G Kind ps1 l1 (w2.alloc (Z4 #[I O 0,Z5 U 0 0] 210)) w3 z ao m c er)(hl:∀k,ps1.bl k->k<w1.heap.size)(g:w2.heap.size=w1.heap.size)(b:bW w1 w2):Qt D L G Kind ps1 l1 w1 (Z6 (J ⟨w1.heap.size,0,U⟩)) er ((w3.setCell ⟨w1.heap.size,0,U⟩ (I O z)).setCell ⟨w1.heap.size,1,U⟩ (.slice ao m c)):=by
 have a:bW w1 (w2.alloc (Z4 #[I O 0,Z5 U 0 0] 210)):=b.alloc V _;rcases h with⟨rfl,e,h⟩|⟨rfl,ps',s,C,rfl,d,f⟩;.exact .inl ⟨rfl,e,((a.trans (h.mono a.size)).setCell (p:=⟨w1.heap.size,0,U⟩) lR _).setCell (p:=⟨w1.heap.size,1,U⟩) lR _⟩
 .exact .inr (GO (d.mono (by rw[Um];omega)) hl g b f)
def KnG(w0:ZT)(r v b g N p D L G:Nat)(A:an)(F:aC)(Kind:aN->Prop)(ps:aN)(dl:a7)(wr:ZT):Prop:=∃sp gone hl ds f ps1,sm w0 r v b g N p D L G A F Kind ps ps1 dl sp gone hl ds f wr
def sm.SF{w:ZT}{r v b g N p D L G:Nat}{Kind:aN->Prop}{ps ps1:aN}{A:an}{F:aC}{dl:a7}{hl:Nat}{f:Nat->ZS}(h:sm w0 r v b g N p D L G A F Kind ps ps1 dl sp gone hl ds f w)(hs:si w0 r v b g N p D L G Kind ps A F dl)(hr:r<w0.heap.size)(u:g<w0.heap.size)(s:¬ps.bl r)(o:¬ps.bl g):sm w0 r v b g N p D L G A F Kind ps ps1 dl 0 gone hl ds f (w.setCell ⟨r,4,U⟩ (I Z8 0)):=by have t:=h.apart hs hr u s o;have a:aa (λk=>k=r) w (w.setCell ⟨r,4,U⟩ (I Z8 0)):=aa.setCell _ _ _ rfl;refine{h with rd:=ai (j:=4) h.rd _,vol:=h.vol.TF a λk e=>e▸⟨hs.rK,hs.vr.symm,hs.rF⟩,row:=h.row.of_block (a.block _ h.row.lt λq=>hs.rg q.symm),kn:=⟨h.kn.1,λi x=>?_⟩,kit:=ps1.keep _ _ h.kit λk d=>a.block k (ps1.lt _ h.kit k d) λq=>(t k d).2.2.1 q,out:=h.out.trans (a.mono λk _ q=>.inr (.inl q)),spl:=YF ec};obtain⟨bl,l,m,c,n⟩:=h.kn.2 i x;exact⟨bl,l,m,TY c a.size,(a.block bl c V).trans n⟩
theorem EL{w:ZT}{r v b g N p D L G:Nat}{Kind:aN->Prop}{ps ps1 ps2:aN}{A:an}{F:aC}{dl:a7}{hl:Nat}{f:Nat->ZS}{s B:Nat}{C:Ck}(hs:si w0 r v b g N p D L G Kind ps A F dl)(j:sm w0 r v b g N p D L G A F Kind ps ps2 dl sp gone hl ds f w)(h:E5 D L G Kind ps1 ps2 l1 s C ao m c B w)(S:l1≠0)(O':l1<2^N)(T:∀i,(AU (cE D L G s C)).testBit i=ZV->i<N/\i∈ds)(E:1+((ae (aA (D+L+G) s)).length:Int)=z):ZR ZO 123 #[Z6 (J ⟨r,0,U⟩),.agg #[I O z,.slice ao m c]] w λe w'=>e=Z3 .nilIface/\NS w r v b g N gone sp f (ae (aA (D+L+G) s)) (xL D L G dl) w':=by
 have a:=hs.vol.par;have n:=M4 a.d a.l4 a.g a.s h.told;have K:=DU a.d a.g a.s h.told;have W:(cE D L G s C).length<=2000:=n.1.2.2;rw[E]at n;obtain⟨l,o⟩:∃i,l1.testBit i=ZV:=Nat.exists_testBit_of_ne_zero S;have u:l<N:=by
  by_cases q:l<N;.exact q
  .rw[Ww (TY O' (UY ec V))]at o;cases o
 have y:∀i∈ds,(xL D L G dl i).length=44/\∀x∈xL D L G dl i,x<256:=λi t=>rS a dl (by have:=(j.okd i t).2;have:=hs.nN;omega);obtain⟨I',J'⟩:=PP (x:=PU N ds) (Dl:=BG N ds (xL D L G dl)) (dl:=eG D dl) a.d1 a.d a.g a.div a.s h.told (by rw[<-hs.nN];exact u) (h.Tu l o) (Ea hs.byt).1 (Ea hs.byt).2 (λi t=>by obtain⟨V',k⟩:=T i t;rw[Eh V',TT k];exact⟨rfl,we λe=>((vZ N ds i).1 e).2 k⟩);have P:(ae (aA (D+L+G) s)).length<=16:=TU (WS _ _) ej;have H:ae (aA (D+L+G) s)≠[]:=λq=>by have:l∈ae (aA (D+L+G) s):=(bU a.s).2 ⟨by rw[<-hs.nN];exact u,h.Tu l o⟩;rw[q]at this;cases this
 have U':z.toNat=1+(ae (aA (D+L+G) s)).length:=by rw[<-E];omega
 exact NT (M:=ae (aA (D+L+G) s)) (R:=xL D L G dl) j.rd j.row hs.rg (IH h.own V) K (ab2 j.row y j.kn) (Eg N ds (xL D L G dl)) (Ki y) V (by rw[<-hs.nN]at n;exact n) I' (by rw[U'];exact J') H (λd Q=>by rw[hs.nN];exact((bU a.s).1 Q).1) P
section
variable {w:ZT}{r v b g N p D L G:Nat}{Kind:aN->Prop}{ps:aN}{A:an}{F:aC}{dl:a7}(hs:si w r v b g N p D L G Kind ps A F dl)(hSh:qI D L G Kind)
include hs hSh
theorem Oe(hr:eQ w r v b g N 0 ps.ho)(kb:w.rowIs g 36 N yB)(S:Nat)(hS:S<65536)(qj:∀i,i∈ae S->i<D):ZR ZO 131 #[Z6 (J ⟨r,0,U⟩),I Z8 S] w λe w'=>Qs w r v b g N p D L G Kind ps A F dl (ae S) e w':=by
 have kz:N<=16:=Zy;have y0:2^N<=65536:=gZ kz;have x7:∀i,i∈ae S->i<N:=λi u=>by have:=qj i u;rw[hs.nN];omega
 have E:=cI hs.kit hr rZ;have B:¬ps.bl g:=by obtain⟨cs,h1,_⟩:=kb;exact cI hs.kit h1 qw
 have h0:KnG w r v b g N p D L G A F Kind ps dl w:=⟨ps.ho,0,ps.ho,[],yB,ps,⟨hr,hs.vol,kb,Kn.nil _ _ _ _,hs.kit,hs.kind,rfl,λk q=>.inl q,aa.refl _ _,λi q=>adY,YF ec,hs.hol,hs.hol,λi q=>(by rw[Wr]at q;cases q)⟩⟩;have O':=hide7 hs hSh hr.lt kb.lt E B h0;go_enter func131,ntmps131;go_wp2_with fail;go_loopw[5](λ_ wr=>KnG w r v b g N p D L G A F Kind ps dl wr)(λ_ wr=>GW N (intOf ((wr.cell? ⟨r,4,U⟩).getD ZY)).toNat (intOf ((wr.cell? ⟨r,3,U⟩).getD ZY)).toNat);case atStart=>exact O'.o.2.2.2.2.2.2
 case round=>
  obtain⟨sp,gone,hl,ds,f0,ps1,hM⟩:=hrel;obtain⟨hs,hSh,H,I',E,B,_⟩:=O'.o;have qo:=oN hM hs H I' E B S hS x7;have qa:GW N (intOf ((wr.cell? ⟨r,4,U⟩).getD ZY)).toNat (intOf ((wr.cell? ⟨r,3,U⟩).getD ZY)).toNat=GW N sp gone:=by obtain⟨_,_,_,d3,d4⟩:=hM.rd.cells;rw[d3,d4];simp[intOf]
  have xe:=hM.gol;have qe:=hM.spl;have HM:=ak qa;obtain⟨nw,qv⟩:=nM (feN S gone sp ds);rw[qv]at qo;have HN:=ak qv;go_wp2_with fail;refine qo.mono ?_;rintro e w1⟨rfl,f1,h1,a,_⟩;obtain⟨d1,qn⟩:=nM (ds++Ef A b nw);obtain⟨R,hy⟩:=nM (gone|||jZ (gnB A b) nw);rw[qn,hy]at a;have h9:∀i,i∈ae S->(R|||sp).testBit i=ZU->i∈d1:=λi u V'=>by
   rw[V4,XJ,<-hy,V4,XJ]at V';rw[<-qn];by_cases q:i∈ds;.exact UB _ q
   . have qq:i∈nw:=(by rw[<-HN.o];exact(pX V V).2 ⟨u,V'.1.1,V'.2,q⟩);refine VQ _ (nB.2 ⟨qq,?_⟩);cases hq:gnB A b i;.rfl
     .rw[(lJ _ i nw).2 ⟨qq,hq⟩]at V';cases V'.1.2
  have kh:=a.gol;have hf:gone<=R:=by rw[<-hy];exact YG
  have xm:=Ql R sp V V;have ka:R|||sp<2^N:=V5 kh qe;obtain⟨e0,_,_,e3,e4⟩:=a.rd.cells;obtain⟨l1,hp⟩:=nM (R|||sp);rw[hp]at xm ka h9;have q0:=fY S l1 V V;have Q:=a5 a h9 hf hp hy;by_cases hz:S&&&l1=0;.have qy:bits .and .u64 (S:Int) (l1:Int)=0:=(by rw[q0,hz];rfl);go_wp2_with fail;go_region;go_wp2;go_ret;obtain⟨a,h9,_⟩:=Q.o;refine⟨⟨_,_,a.rd⟩,⟨f1,a.row,rfl,λi u=>?_⟩,⟨ps1,h1,a.kind,a.psE,ps1.keep _ _ a.kit (λ_ _=>rfl),a.vol.vol,a.hll,a.bl⟩,a.vol.arr.keep λ_ _=>rfl,a.out.trans (aa.drew _)⟩;obtain⟨bl,Y,M,K,q4⟩:=a.kn.2 i (h9 i u (Kz hz (bL.1 u).2));exact⟨bl,44,Y,K,jF q4⟩
  . have qy:(bits .and .u64 (S:Int) (l1:Int)==0)=ZU:=by rw[q0];generalize S&&&l1=q at hz;simp;omega
    have xf:l1≠0:=λe=>hz (by rw[e,Nat.and_zero]);have xp:∀w',bW w1 w'->ZR ZO 160 #[Z6 (J ⟨ps.ps,0,U⟩),.agg #[I O D,I O L,I O G],I Z8 l1] w' λe hd=>(e=wP/\¬dZ D L G l1/\bW w' hd)\/∃ps' s C ao m c,oL D L G s ao m c e/\E5 D L G Kind ps1 ps' l1 s C ao m c w'.heap.size hd/\aa ps1.bl w' hd:=λw' V'=>by obtain⟨a,_⟩:=Q.o;obtain⟨hs,hSh,H,I',E,B,_⟩:=O'.o;have hv:=a.vol;have h:=hSh.1 ps1 a.kind w' (ps1.keep _ _ a.kit λk P=>V'.block k (ps1.lt _ a.kit k P)) (hv.tab.keep (V'.block _ hv.tab.lt)) (TU hv.room V'.size) l1 (by rw[<-hs.nN];exact ka);rw[a.psE]at h;exact h
    have HB:=al xp (λk(P:ps1.bl k)=>ps1.lt _ Q.o.1.kit k P);have qf:=Q.o.1.vol;obtain⟨_,y1,y2,y3,y4,_⟩:=qf.vol.cells;have qm:bW w1 (w1.alloc (Z4 #[I O 0,Z5 U 0 0] 210)):=bA w1 _;obtain⟨_,x1,x2,x3,x4,_⟩:=(qf.vol.keep (qm.block _ qf.vol.lt)).cells;obtain⟨x0,_,_,_,_⟩:=(Q.o.1.rd.keep (qm.block _ Q.o.1.rd.lt)).cells;have HY:cL (∀(w' w3:ZT),bW w1 w'->aa ps1.bl w' w3->C5 r v ps.ps D L G w3/\(∀o:Obj,C5 r v ps.ps D L G (w3.alloc o))/\(∀k x y,w1.heap.size<=k->C5 r v ps.ps D L G ((w3.setCell ⟨k,0,U⟩ x).setCell ⟨k,1,U⟩ y))):=ak λw' w3 V' hO=>by have qh:=aa.after V' hO;have hM:=Q.o.1;obtain⟨hs,_,H,I',E,B,_⟩:=O'.o;have ha:=hM.apart hs H I' E B;have hv:=hM.vol;have km:=hM.rd.keep (qh.block _ hM.rd.lt λq=>(ha _ q).2.2.1 rfl);have hv3:=hv.vol.keep (qh.block _ hv.vol.lt λq=>(ha _ q).2.1 rfl);have H:=hM.rd.lt;have y8:=hv.vol.lt;exact⟨NU km hv3,λo=>NU (km.keep (UE _ _ _ km.lt)) (hv3.keep (UE _ _ _ hv3.lt)),λk x y P=>NU (km.keep ((gk w3 k 0 1 x y).block _ km.lt V)) (hv3.keep ((gk w3 k 0 1 x y).block _ hv3.lt V))⟩
    go_wp2_with fail;go_region;go_upto_region 5 with fail;have xz:(((S&&&l1:Nat):Int)==0)=ZU:=by rw[<-q0];exact qy
    simp only[xz];go_cut[6,7]from 24 to 42(λv6 v7 wx=>Qt D L G Kind ps1 l1 w1 v6 v7 wx);case first=>go_region_held3(λw'=>w'.cell? ⟨r,0,U⟩=J (Z6 (J ⟨v,0,U⟩))/\w'.cell? ⟨v,1,U⟩=J (I O (D:Int))/\w'.cell? ⟨v,2,U⟩=J (I O (L:Int))/\w'.cell? ⟨v,3,U⟩=J (I O (G:Int))/\w'.cell? ⟨v,4,U⟩=J (Z6 (J ⟨ps.ps,0,U⟩)))(first|exact⟨e0,y1,y2,y3,y4⟩|exact⟨x0,x1,x2,x3,x4⟩|exact Y0.out|exact Y1.out _|exact Y2.out _ _ _ lR|go_keep)(first|(go_at_call 160;refine(HB.o.1 _ ?_).mono ?_;(first|exact((TW _ _).drew).drew|exact(((TW _ _).drew).drew).alloc lR _);rintro e w3 kk;obtain⟨z,ao,m,c,er,he,hx,Z⟩:=xB kk;subst he;clear kk;(try(have K:w3.heap[w1.heap.size]?=J (Z4 #[I O 0,Z5 U 0 0] 210 (0,0)):=(hx.block w1.heap.size ej (λq=>ia (HB.o.2 _ q))).trans (Ug w1.drew.drew _);obtain⟨r0,r1,R,g0⟩:=aB K;clear K));obtain⟨Y0,Y1,Y2⟩:cL (C5 r v ps.ps D L G w3)/\cL (∀o:Obj,C5 r v ps.ps D L G (w3.alloc o))/\cL (∀k x y,w1.heap.size<=k->C5 r v ps.ps D L G ((w3.setCell ⟨k,0,U⟩ x).setCell ⟨k,1,U⟩ y)):=HY.o _ w3 (by first|exact((TW _ w1).drew).drew|exact(((TW _ w1).drew).drew).alloc lR _) hx;clear hx));all_goals(go_wp2_with fail;go_meet;case rel=>first|(refine Av (w':=w1.drew.drew) Z.o ?_ rfl;exact((TW _ _).drew).drew)|(refine xC (w2:=w1.drew.drew) Z.o HB.o.2 rfl ?_;exact((TW _ _).drew).drew))
    case rest=>
     rename ZT=>w3;rcases hcut with⟨rfl,xk,qk⟩|hcut
     . have qz:=ak xk;obtain⟨a,h9,hf,hp,hy⟩:=Q.o;obtain⟨hs,hSh,H,I',E,B,_⟩:=O'.o;have U':=a.SH (a.apart hs H I' E B) (aa.RK qk _) (ps1.keep _ _ a.kit λk P=>qk.block k (ps1.lt _ a.kit k P)) a.kind rfl (λk q=>.inl q);obtain⟨_,_,_,e3,e4⟩:=U'.rd.cells;have f4:w3.frozen? ⟨r,4,U⟩=ZU:=by have h':w3.heap[r]?=_:=U'.rd;simp[World.frozen?,h']
       have Z:=ak U';by_cases qx:sp=0
       . refine absurd (pT O'.o.1.fine.1 λi q=>?_) qz.out;have M:R.testBit i=ZV:=(by rw[<-Q.o.2.2.2.1,qx,Nat.or_zero]at q;exact q);refine(O'.o.1.cw i ?_).2 (Z.o.gb i M);rw[O'.o.1.vol.n,<-O'.o.1.nN];by_cases e:i<N;.exact e
         .rw[Ww (TY kh (UY ec V))]at M;cases M
       . have y7:((sp:Int)==0)=ZU:=ek;have HQ:=al qx hf;go_wp2;go_roundw;case rel=>obtain⟨hs,_,H,I',E,B,_⟩:=O'.o;exact⟨0,R,h1,d1,f1,ps1,Z.o.SF hs H I' E B⟩
         case measure=>obtain⟨hs,_,H,I',E,B,_⟩:=O'.o;obtain⟨_,_,_,K,q4⟩:=(Z.o.SF hs H I' E B).rd.cells;rw[HM.o,K,q4];have q:=HQ.o.2;unfold GW;rw[TS HQ.o.1];simp[intOf];omega
     . obtain⟨rfl,gb,J',s,C,ao,m,c,rfl,k8,k6,W,hx⟩:=hcut;obtain⟨a,h9,hf,hp,hy⟩:=Q.o;obtain⟨hs,hSh,H,I',E,B,_⟩:=O'.o;have U':=a.SH (a.apart hs H I' E B) hx W.kit W.kind W.psE W.bl;have hn:=hs.vol.par;have hm:=M4 hn.d hn.l4 hn.g hn.s W.told;have k9:=DU hn.d hn.g hn.s W.told;have hj:(cE D L G s C).length<=2000:=hm.1.2.2;have ki:∀t∈cE D L G s C,t.k=0->0<=t.b/\t.b<16:=λt ht h0=>by obtain⟨i,Y,M,_⟩:=kM hn.s ht h0;have:=hn.s;omega
       have qs:=Jm (1+((ae (aA (D+L+G) s)).length:Int)) (IH W.own V) ki V;obtain⟨z,kp⟩:∃z:Int,1+((ae (aA (D+L+G) s)).length:Int)=z:=⟨_,rfl⟩;rw[kp]at k6 hm qs;obtain⟨k0,k1,_,_⟩:=aB k6;have Z:=hide11 U' W k6 hm k9 hj ki qs kp hx k8;go_wp2_with fail;refine Z.o.2.2.2.2.2.2.2.1.mono ?_;rintro e w4⟨rfl,k7⟩;obtain⟨U',W,k6,hm,k9,hj,ki,_,kp,hx,k8⟩:=Z.o;obtain⟨hs,hSh,H,I',E,B,_⟩:=O'.o;have x5:=U'.SH (U'.apart hs H I' E B) (aa.RK k7 _) (J'.keep _ _ U'.kit λk P=>k7.block k (J'.lt _ U'.kit k P)) U'.kind rfl (λk q=>.inl q);obtain⟨T,hT⟩:=nM (AU (cE D L G s C));have ke:T<65536:=by rw[<-hT];exact Ma λt ht h0=>ia (ki t ht h0)
       have x8:∀i,T.testBit i=ZV->i<N/\s.testBit i=ZU:=λi u=>by
        rw[<-hT]at u;obtain⟨t,ht,h0,xq⟩:=(pE _ _).1 u;obtain⟨j,Y,M,K⟩:=kM hs.vol.par.s ht h0;have:j=i:=by rw[<-xq,Y];rfl
        subst this;exact⟨by rw[hs.nN];exact M,K⟩
       have kr:∀i,i∈ae T->i<N/\s.testBit i=ZU:=λi u=>x8 i (bL.1 u).2;have q7:=oN x5 hs H I' E B T ke (λi u=>(kr i u).1);have qg:=(k7.block gb (TX.1 k6).1).trans k6;have H4:=aE kr hT qg k7;rw[hT];go_wp2_with fail;refine q7.mono ?_;rintro e w5⟨rfl,f5,h2,f,qi⟩;obtain⟨kr,hT,qg,k7⟩:=H4.o;obtain⟨U',W,k6,hm,k9,hj,ki,_,kp,hx,k8⟩:=Z.o;obtain⟨a,h9,hf,hp,hy⟩:=Q.o;obtain⟨hs,hSh,H,I',E,B,_⟩:=O'.o;have kx:=hs.vol;obtain⟨X,kj⟩:=nM (feN T R sp d1);rw[kj]at f;have k5:∀i,i∈X↔i∈ae T/\R.testBit i=ZU/\sp.testBit i=ZU/\i∉d1:=λi=>by rw[<-kj];exact pX V V
       obtain⟨d2,kf⟩:=nM (d1++Ef A b X);obtain⟨g2,kv⟩:=nM (R|||jZ (gnB A b) X);rw[kf,kv]at f;have q8:=f.gol;have xn:=Ql g2 sp V V;have xy:=k7.size;have xx:=a.out.size;have xv:=(qi.block gb (TY (TX.1 k6).1 xy) (λq=>by
        rcases q with q|q|q|q;.omega
        .omega
        .have:=kx.vol.lt;omega
        .have:=kx.arr.RL q;omega)).trans qg;obtain⟨_,_,_,e3,e4⟩:=f.rd.cells;obtain⟨k0,k1,_,_⟩:=aB xv;by_cases kg:g2|||sp=l1
       . have qc:∀i∈X,gnB A b i=ZU:=λi u=>by
          cases hq:gnB A b i;.rfl
          .have q:=(lJ (gnB A b) i X).2 ⟨u,hq⟩;have M:(g2|||sp).testBit i=ZV:=(by rw[V4,<-kv,V4,q,Bool.or_true,Bool.true_or]);obtain⟨_,K,q4,_⟩:=(k5 i).1 u;rw[kg,<-hp,V4,K,q4]at M;cases M
         have ks:=a.apart hs H I' E B;have kc:E5 D L G Kind ps1 J' l1 s C ao m c w1.heap.size w5:=(W.keep (T:=λ_=>False) (aa.RK k7 _) (λ_ q=>q.elim)).keep qi (λk q=>by
          rcases q with q|q|q|q;.subst q;exact⟨V,λe=>(ks _ e).2.2.2.1 rfl⟩
          .subst q;exact⟨V,λe=>(ks _ e).2.2.1 rfl⟩
          .subst q;exact⟨ia kx.vol.lt,λe=>(ks _ e).2.1 rfl⟩
          .exact⟨ia (kx.arr.RL q),λe=>(ks _ e).2.2.2.2 q⟩);have xc:=EL hs (f.SH (f.apart hs H I' E B) (aa.drew _) (J'.keep _ _ f.kit λ_ _=>rfl) f.kind rfl (λk q=>.inl q)) (kc.keep (T:=λ_=>False) (aa.drew w5) (λ_ q=>q.elim)) xf ka (λi u=>by
          rw[hT]at u;have q9:i<16:=by
           by_cases q:i<16;.exact q
           .rw[Ww (TY ke (UY (n:=2) (i:=16) ec V))]at u;cases u
          have qp:i∈ae T:=bL.2 ⟨q9,u⟩;obtain⟨Y,M⟩:=kr i qp;refine⟨Y,?_⟩;rw[<-kf];by_cases q:i∈d1;.exact UB _ q
          . have qb:l1.testBit i=ZU:=we λe=>by rw[kc.Tu i e]at M;cases M
            rw[<-hp,V4,XJ]at qb;have K:=(k5 i).2 ⟨qp,qb.1,qb.2,q⟩;exact VQ _ (nB.2 ⟨K,qc i K⟩)) kp;have H5:=aE xc f kc kf;go_wp2_with fail;go_region;go_wp2_with fail;refine H5.o.1.mono ?_;rintro e w6⟨rfl,hF⟩;have H6:=ak hF;go_wp2;go_ret;obtain⟨xo,⟨f6,ko,xb,xd⟩,x6⟩:=H6.o;obtain⟨_,f,kc,kf⟩:=H5.o;obtain⟨hs,hSh,H,I',E,B,_⟩:=O'.o;obtain⟨a,h9,_,hp,hy⟩:=Q.o;have hc:aa (λk=>k=g) w5 w6:=(aa.drew w5).trans x6;have x9:=f.apart hs H I' E B;have ky:=f.vol;refine⟨⟨_,_,xo⟩,⟨f6,ko,rfl,λi u=>?_⟩,⟨J',h2,f.kind,f.psE,J'.keep _ _ f.kit (λk P=>hc.block k (J'.lt _ f.kit k P) (λq=>(x9 k P).2.2.2.1 q)),ky.vol.keep (hc.block _ ky.vol.lt hs.vg),f.hll,f.bl⟩,ky.arr.keep (λk P=>hc.block k (ky.arr.RL P) λq=>hs.gF (q▸P)),f.out.trans (hc.mono λk _ q=>.inl q)⟩;have y5:=qj i u;by_cases qd:s.testBit i=ZV;.obtain⟨bl,mm,l,Y,M,K,q4,q5,q6⟩:=xd i ((bU hs.vol.par.s).2 ⟨ia hs.nN,qd⟩);obtain⟨h1,h2⟩:=Ab q4 K q5;rw[(rS hs.vol.par dl (ia hs.nN)).1]at h2;subst h2;exact⟨bl,l.length,Y,aM.lt q4,h1⟩
         . have xj:i∉ae (aA (D+L+G) s):=λq=>qd ((bU hs.vol.par.s).1 q).2;have qr:i∈d2:=by rw[<-kf];exact UB _ (h9 i u (we λe=>qd (kc.Tu i e)))
           obtain⟨bl,Y,M,K,q4⟩:=f.kn.2 i qr;have xa:bl≠g:=V;exact⟨bl,44,by rw[xb i xj];exact Y,TY K hc.size,jF ((hc.block bl K xa).trans q4)⟩
       . have xg:R<g2:=(by rw[<-kv];exact Qr λe=>kg (by rw[<-kv,e,hp]));have hR:KnG w r v b g N p D L G A F Kind ps dl w5.drew:=⟨sp,g2,h2,d2,f5,J',f.SH (f.apart hs H I' E B) (aa.drew _) (J'.keep _ _ f.kit λ_ _=>rfl) f.kind rfl (λk q=>.inl q)⟩;have xh:GW N (intOf ((w5.drew.cell? ⟨r,4,U⟩).getD ZY)).toNat (intOf ((w5.drew.cell? ⟨r,3,U⟩).getD ZY)).toNat=GW N sp g2:=by rw[show w5.drew.cell? ⟨r,3,U⟩=w5.cell? ⟨r,3,U⟩from rfl,show w5.drew.cell? ⟨r,4,U⟩=w5.cell? ⟨r,4,U⟩from rfl,e3,e4];simp[intOf]
         have y6:((g2|||sp:Nat):Int)≠(l1:Int):=V;have xi:((((g2|||sp:Nat):Int))==(l1:Int))=ZU:=ek;have H5:=a5 hR xg xh hf q8;go_wp2_with fail;go_region;go_wp2;go_roundw;case rel=>exact H5.o.1
         case measure=>rw[H5.o.2.2.1,HM.o];have Y:=H5.o.2.1;have M:=H5.o.2.2.2;unfold GW;omega
end
def BZ{D L G:Nat}(ps:aN)(w:ZT)(c:mZ sb room D L G ps)(b:ps.S w):ps.ps<w.heap.size:=by obtain⟨a,d,ho,rfl⟩:=c;exact(kU sb room D L G a d ho).lt w b _ (.inl ⟨by show sb<=sb+1+1+1;omega,TV _⟩)
def sn{D L G:Nat}(a:xX D L G){sb:Nat}{room:Int}:qI D L G (mZ sb room D L G):=⟨λ_ hK _ c e b _ hl=>Au D L G a.r a.d1 a.d a.l1 a.l4 a.g a.div a.s hK c e b hl (.inl ⟨rfl,rfl⟩),λ_ hK _ c e b _ hl=>Au D L G a.r a.d1 a.d a.l1 a.l4 a.g a.div a.s hK c e b hl (.inr ⟨rfl,rfl⟩)⟩
end
structure nF(w:ZT)(r v b g N p D L G:Nat)(Kind:aN->Prop)(ps:aN)(A:an)(F:aC)(l:a7)(e:ZQ)(w':ZT):Prop where
 rd:∃gone sp,eQ w' r v b g N gone sp
 row:∃f,w'.rowIs g 36 N f
 kit:∃(ps1:aN)(hl:Nat),Kind ps1/\ps1.ps=ps.ps/\ps1.S w'/\bz w' v p D L G ps.ps hl/\hl<2^N/\∀k,ps1.bl k->ps.bl k\/w.heap.size<=k
 arr:ay w' p A F
 out:aa (λk=>k=g\/k=r\/k=v\/F.S k\/ps.bl k) w w'
 ans:∃u,e=Z3 (ZZ #[u,.nilIface])/\Bs w' u l/\(∀k,u.ownBlock=J k->w.heap.size<=k)/\∃ao n,u=.slice ao n n
def si.turn{Kind:aN->Prop}{ps:aN}(h:si w r v b g N p D L G Kind ps A F dl)(hr:¬ps.bl r)(d:¬ps.bl g)(c:aa (λk=>k=r\/k=g) w w'):si w' r v b g N p D L G Kind ps A F dl:={h with
  vol:=h.vol.TF c λk q=>q.elim (λe=>e▸⟨h.rK,h.vr.symm,h.rF⟩) λe=>e▸⟨h.gK,h.vg.symm,h.gF⟩
  kit:=ps.keep _ _ h.kit λk a=>c.block k (ps.lt _ h.kit k a) (λq=>q.elim (λe=>hr (e▸a)) (λe=>d (e▸a)))}
theorem EM{Kind:aN->Prop}{ps:aN}(hs:si w r v b g N p D L G Kind ps A F dl)(kf:qI D L G Kind)(hr:eQ w r v b0 g N gone sp)(W:w.rowIs g 36 N f0){size:Nat}(km:size=dl.length){m:Nat}(X:m=(size+43)/44)(ki:m<=D):ZR ZO 92 #[Z6 (J ⟨r,0,U⟩),I O b,I O size] w (nF w r v b g N p D L G Kind ps A F dl):=by
 have ka:=ak km;clear km;have kr:N<=16:=Zy;have q2:D<=N:=by rw[hs.nN];omega
 have V':m<=16:=V;have q5:size<=704:=V;have o:ae (2^m-1)=YE m:=xA V';have U':2^m-1<65536:=by have:2^m<=2^16:=UY ec V';omega
 obtain⟨S,Z⟩:=nM (2^m-1);rw[Z]at o U';have ko:=Ii hr hs.vol.vol W (ia hs.vol.par.d1) (λe=>hs.rg e.symm) hs.vg b;have kc:=cI hs.kit hr rZ;have kb:¬ps.bl g:=by obtain⟨cs,h1,_⟩:=W;exact cI hs.kit h1 qw
 have j:=aE hs kf kc kb;have e1:((size:Nat):Int)+44-1=((size+43:Nat):Int):=V;clear hr W hs kf kc kb;go_enter func92,ntmps92;go_wp2_with fail;refine ko.mono ?_;rintro e w1⟨rfl,kj,ha,Y⟩;have kk:=j.o.1.turn j.o.2.2.1 j.o.2.2.2 Y;have kh:=Oe kk j.o.2.1 kj ha S U' (λi d=>by rw[o,Ul]at d;omega);have E:=al kh Y;clear ko kj ha Y kk kh;go_wp2_with fail;rw[(V:((size:Int)+43)/44=(m:Int))];refine(ni m V' w1).mono ?_;rw[Z];rintro e w2⟨rfl,rfl⟩;clear e1;go_wp2_with fail;refine E.o.1.mono ?_;rintro e w3⟨⟨T,hb,t⟩,⟨f,n,rfl,P⟩,h9,h8,ke⟩;have Q:=E.o.2.size;have B:aa (λk=>k=g\/k=r\/k=v\/F.S k\/ps.bl k) w w3:=(E.o.2.mono λ_ _ q=>q.elim (λe=>.inr (.inl e)) .inl).trans ke;rw[o]at P;obtain⟨R,K⟩:=nM (xL D L G dl);rw[K]at P;have J':∀i,i<m->(R i).length=44/\∀x∈R i,x<256:=λi d=>by rw[<-K];exact rS j.o.1.vol.par dl V
 have s:((YE m).map R).flatten.take size=dl:=by rw[<-K,show xL D L G dl=λi=>(dE D L G dl).getD i []from rfl,J7 X ki j.o.1.len j.o.1.byt (Nat.le_of_eq ka.out),ka.out,VE]
 obtain⟨_,_,d2,_,_⟩:=t.cells;have z:((YE m).map R).length=m:=ej;have hn:O0 w3 0 g ((YE m).map R):=by refine⟨T8 _,n.lt,λi d=>?_⟩;rw[z]at d;obtain⟨bl,c,q1,q3,q4⟩:=P i (Ul.2 d);have cg:=n.cell (i:=i) V;rw[q1]at cg;have e:((YE m).map R)[i]'(by rw[z];exact d)=R i:=ej;rw[e];exact⟨bl,0,c,cg,T8 _,q3,q4,(J' i d).1,(J' i d).2⟩
 have k7:=JM (c:=N) hn (by rw[z];omega);rw[z]at k7;have H3:=hide8 t n h9 h8 B k7 Q s;clear t n P h9 h8 ke k7 B hn z Q s K;go_wp2_with fail;rw[show(size+43)/44=m from X.symm];refine H3.o.2.2.2.2.2.1.mono ?_;rintro e w4⟨u,rfl,hj,h⟩;have k8:((YE m).map R).flatten.length=44*m:=EK R m (λi d=>(J' i d).1);have kg:∀x∈((YE m).map R).flatten,x<256:=λx hx=>by obtain⟨l,ky,kz⟩:=List.mem_flatten.1 hx;obtain⟨i,kx,rfl⟩:=T9.1 ky;exact(J' i (Ul.1 kx)).2 x kz
 have k9:size<=44*m:=V;have kp:=ak k8;obtain⟨ao,cp,rfl,hh,ks,kv,H,C⟩:=abj hj k8 kg k9 V;have H4:=au h C H;clear k8 kg;obtain⟨M,hM⟩:=nM (44*m);rw[hM]at kp k9 hh⊢;have q0:size<=cp:=TU k9 hh;clear h C H hj hM X d2 j o Z U' E ki;go_wp2;go_ret2;obtain⟨t,n,⟨ps',hl,k1,k2,k3,k4,k5,k6⟩,a3,B,_,Q,s⟩:=H3.o;obtain⟨h,C,H⟩:=H4.o;rw[s]at C;refine⟨⟨_,_,t.keep (h.block _ t.lt)⟩,⟨_,n.of_block (h.block _ n.lt)⟩,⟨ps',hl,k1,k2,ps'.keep _ _ k3 (λk y=>h.block k (ps'.lt _ k3 k y)),k4.keep (h.block _ k4.lt),k5,λk y=>(k6 k y).imp id λq=>TU Q q⟩,a3.below h lR,B.trans (aa.RK h _),⟨_,rfl,C,λk y=>?_,⟨_,_,rfl⟩⟩⟩;cases ao with|none=>simp[Value.ownBlock]at y|some a=>simp[Value.ownBlock]at y;have h1:=H a rfl;have h2:=B.size;omega
def KN{v:ZS}(h:Bs w v l):Src ZO 1 36 v l.length (aL l) w:=by
 obtain⟨ao,c,rfl,m,n,o,g⟩:=h;have i:∀u∈aL l,u.oneCell'=ZV:=λu a=>by unfold aL at a;rw[T9]at a;obtain⟨x,_,rfl⟩:=a;rfl
 by_cases hl:l=[];.subst hl;cases ao with|none=>exact XP w Ur c|some f=>exact Vm w Ur f 0 c [] rfl (λj u d=>by simp at d) (λu a=>Zu)
 .obtain⟨b,off,rfl,k⟩:=g hl;refine Vm w Ur ⟨b,off,U⟩ l.length c (aL l) (by rw[aY,Wd]) (λj u d=>?_) i;rw[Vp];have e:j<l.length:=(by obtain⟨q,_⟩:=Vd.1 d;rwa[aY]at q);rw[k j e,<-d];unfold aL;rw[UJ,Ud e,Ub,Ud e];rfl
def B1(w:ZT)(n:Int)(e:ZQ)(w':ZT):Prop:=e=Z3 (ZZ #[Z5 U 0 0,eh n])/\bW w w'
theorem Of{ps:aN}{xs:aF}(h:aP w ar v p ps D L G t pg ob P xs A F)(x:ByteArray)(f:cF x=ZU):ZR ZO 68 #[Z6 (J ⟨ar,0,U⟩),Z0 x] w (B1 w 6):=by obtain⟨_,_,_,_,g⟩:=h.arc.cells;have a:=h.find x;obtain⟨k,d⟩:=nM (aJ xs.names x);obtain⟨i,c⟩:=nM (nK xs.os x);rw[d,c]at a;go_enter func68,ntmps68;go_wp2_with fail;refine a.mono ?_;rintro e w1⟨rfl,b⟩;have H:=ak b;go_wp2_with fail;refine(kS x w1).mono ?_;rintro e w2⟨rfl,rfl⟩;rw[f];dsimp only;go_wp2;go_ret2;exact⟨rfl,H.o⟩
theorem EN{ps:aN}{xs:aF}(h:aP w ar v p ps D L G t pg ob P xs A F)(x:ByteArray)(f:cF x=ZV)(d:x∉xs.names):ZR ZO 68 #[Z6 (J ⟨ar,0,U⟩),Z0 x] w (B1 w 9):=by obtain⟨_,_,_,_,g⟩:=h.arc.cells;have a:=h.find x;obtain⟨k,c⟩:=nM (aJ xs.names x);rw[c,h.Sp d]at a;go_enter func68,ntmps68;go_wp2_with fail;refine a.mono ?_;rintro e w1⟨rfl,b⟩;have H:=ak b;go_wp2_with fail;refine(kS x w1).mono ?_;rintro e w2⟨rfl,rfl⟩;rw[f];dsimp only;go_wp2;go_ret2;exact⟨rfl,H.o⟩
structure nO(w:ZT)(v p D L G:Nat)(Kind:aN->Prop)(ps:aN)(A:an)(ps':aN)(wr:ZT):Prop where
 kind:Kind ps'
 psE:ps'.ps=ps.ps
 kit:ps'.S wr
 vol:bz wr v p D L G ps.ps ps'.ho
 hol:ps'.ho<2^(D+L+G)bl:∀k,ps'.bl k->ps.bl k\/w.heap.size<=k
def nO.early{Kind:aN->Prop}{ps ps':aN}(h:nO w v p D L G Kind ps A ps' wr)(b:w0.heap.size<=w.heap.size):nO w0 v p D L G Kind ps A ps' wr:={h with bl:=λk a=>(h.bl k a).imp_right (TU b)}
def aN.SK(ps:aN)(h:Nat):aN:={ps with ho:=h}
structure xD(D L G:Nat)(Kind:aN->Prop)(ps:aN):Prop where
 sh:qI D L G Kind
 re:∀ps h,Kind ps->Kind (ps.SK h)pk:∀ps w,Kind ps->ps.S w->ps.ps<w.heap.size
 kind:Kind ps
structure GtG(w:ZT)(q v p r g N sz D L G:Nat)(Kind:aN->Prop)(ps:aN)(A:an)(F:aC)(cs:List ZS)(d:a7)(k:Nat)(u:ZS)(wr:ZT):Prop where
 pk:wr.ownsRow w.heap.size 5 1 u (min (k*sz) d.length) (aL (d.take (k*sz)))rd:∃b gone sp,eQ wr r v b g N gone sp
 row:∃f,wr.rowIs g 36 N f
 kit:∃ps',nO w v p D L G Kind ps A ps' wr
 arr:ay wr p A F
 out:aa (λj=>F.S j\/j=v\/ps.bl j) w wr
 box:ag wr q 150 cs
def acA(w:ZT)(q v p r g N sz D L G:Nat)(Kind:aN->Prop)(ps:aN)(A:an)(F:aC)(cs:List ZS)(d:a7)(K:Nat)(u i:ZS)(wr:ZT):Prop:=∃k:Nat,k<=K/\i=I O (k:Nat)/\GtG w q v p r g N sz D L G Kind ps A F cs d k u wr
def Qu(hD:1<=D):n<=nL D n*(D*44):=by
 unfold nL;obtain⟨q,d⟩:=nM (D*44);rw[d];have a:0<q:=V;have h:=Nat.lt_mul_div_succ (n+q-1) a;obtain⟨c,b⟩:=nM ((n+q-1)/q);rw[b]at h⊢;have:q*(c+1)=c*q+q:=by rw[Nat.mul_add,Wd,Wf]
 have:c*q<=max 1 c*q:=WY _ (YH _ _);omega
def qJ:¬kT 5:=vm
def KO:¬kT 150:=vm
def Qv{ks:Nat}{ps:aN}(a:w.ownsRow base 5 1 u ks (aL l))(f:eQ w r v b0 g N gone sp)(c:w.rowIs g 36 N f0)(n:bz w v p D L G ps.ps ps.ho)(j:ps.S w)(i:aa (λk=>k=g\/k=r\/k=v\/F.S k\/ps.bl k) w w6)(d:∀k,F.S k->k<base):w6.ownsRow base 5 1 u ks (aL l):=cD a i λq b h=>by
 rcases h with h|h|h|h|h;.subst h;obtain⟨cs,e,_⟩:=c;exact bN a e ec b
 .subst h;exact bN a f ec b
 .subst h;exact bN a n ec b
 .have:=d q h;have:=eO a b;omega
 .obtain⟨cur,m⟩:=bJ a b;exact cI j m qJ h
def abk{Kind:aN->Prop}{ps ps':aN}(b:GtG w q v p r g N sz D L G Kind ps A F cs d k u wr)(hK:nO w v p D L G Kind ps A ps' wr)(hD:nF wr.drew r v y g N p D L G Kind ps' A F l e w6)(f:N=D+L+G)(re:∀ps h,Kind ps->Kind (ps.SK h))(hr:w.heap.size<=r)(s:w.heap.size<=g):aa (λj=>F.S j\/j=v\/ps.bl j) w w6/\∃a,nO w v p D L G Kind ps A a w6:=by
 have:w.heap.size<=wr.heap.size:=b.out.size;have:wr.drew.heap.size=wr.heap.size:=rfl;refine⟨(b.out.trans (aa.drew _)).later hD.out λj c h=>?_,?_⟩
 . rcases h with h|h|h|h|h;.omega
   .omega
   .exact .inr (.inl h)
   .exact .inl h
   . rcases hK.bl j h with q|q;.exact .inr (.inr q)
     .omega
 . obtain⟨ps1,hl,k1,k2,k3,k4,i,m⟩:=hD.kit;refine⟨ps1.SK hl,re _ _ k1,k2.trans hK.psE,k3,by rw[<-hK.psE];exact k4,f▸i,λj c=>?_⟩;rcases m j c with q|q;.exact hK.bl j q
   .exact .inr V
def Og{Kind:aN->Prop}{ps ps':aN}{l2:a7}(t:GtG w q v p r g N sz D L G Kind ps A F cs d k u wr)(hK:nO w v p D L G Kind ps A ps' wr)(hD:nF wr.drew r v y g N p D L G Kind ps' A F l2 e w6)(W:N=D+L+G)(re:∀ps h,Kind ps->Kind (ps.SK h))(K:w7.ownsRow w.heap.size 5 1 v7 (min ((k+1)*sz) d.length) (aL (d.take ((k+1)*sz))))(b:w6.grownBy w7 u.ownBlock)(x:w6.ownsRow w.heap.size 5 1 u m (aL l))(E:∀k,F.S k->k<w.heap.size)(R:v<w.heap.size)(U':w.heap.size<=q)(P:q≠r)(M:q≠g)(hr:w.heap.size<=r)(O':w.heap.size<=g):GtG w q v p r g N sz D L G Kind ps A F cs d (k+1) v7 w7:=by
 obtain⟨H,c,i⟩:=abk t hK hD W re hr O';have s:∀{j:Nat}{cs:Array ZS}{T:TypeId},w6.heap[j]?=J (Z4 cs T (0,0))->5≠T->w7.heap[j]?=w6.heap[j]?:=by intro j cs T a o;exact b.block j (TX.1 a).1 (λe=>bN x a o e.symm)
 have B:∀j,j<w.heap.size->w7.heap[j]?=w6.heap[j]?:=λj a=>b.block j (TY a H.size) (λe=>ia (eO x e.symm));have z:ag w6 q 150 cs:=t.box.keep (hD.out.block _ t.box.lt (λh=>by
  rcases h with h|h|h|h|h;.exact M h
  .exact P h
  .omega
  .have n:=E _ h;omega
  .exact cI hK.kit t.box KO h));obtain⟨gone,sp,C⟩:=hD.rd;refine⟨K,⟨y,gone,sp,C.keep (s C ec)⟩,?_,⟨c,{i with kit:=c.keep _ _ i.kit (λj a=>b.block j (c.lt _ i.kit j a) (λe=>by obtain⟨cur,J'⟩:=bJ x e.symm;exact cI i.kit J' qJ a)),vol:=i.vol.keep (s i.vol ec)}⟩,hD.arr.keep λj a=>B j (E j a),?_,z.keep (s z ec)⟩;.obtain⟨f,cs,n,o⟩:=hD.row;exact⟨f,cs,(s n ec).trans n,o⟩
 .exact H.later (T:=λj=>w.heap.size<=j) ⟨b.os,b.tape,b.output,b.size,λj _ Q=>B j V⟩ (λj n o=>V)
def aP.got{Kind:aN->Prop}{ps ps':aN}{xs:aF}(h:aP w ar v p ps D L G t pg ob P xs A F)(a:aa (λj=>F.S j\/j=v\/ps.bl j) w w')(x:ay w' p A F)(hK:nO w v p D L G Kind ps A ps' w'):aP w' ar v p ps' D L G t pg ob P xs A F:=by
 have o:=hK.bl;have r:2<3:=ec;have s:1<3:=ec;have:=h.vlt;have d:∀k,k<3->¬F.S k->k<w.heap.size->w'.heap[k]?=w.heap[k]?:=λk f i l=>a.block k l (λq=>by
  rcases q with q|q|q;.exact i q
  .omega
  .have:=(h.apt k q).1;omega);have m:eW (λk=>ar<k/\¬F.S k/\¬ps.bl k/\¬ps'.bl k) w w':=⟨a.size,λk c b=>a.block k c (λq=>by
  rcases q with q|q|q;.exact b.2.1 q
  .have:=b.1;omega
  .exact b.2.2.1 q)⟩;have n:∀k,(ar<k/\¬F.S k/\¬ps.bl k)->k<w.heap.size->(ar<k/\¬F.S k/\¬ps.bl k/\¬ps'.bl k):=λk q f=>⟨q.1,q.2.1,q.2.2,λe=>(o k e).elim q.2.2 V⟩;have u:∀k,ps'.bl k->3<=k/\k≠ar/\k≠v/\¬F.S k:=λk c=>by
  rcases o k c with q|q;.exact h.apt k q
  .have:=h.arc.lt;have:=h.vol.vol.lt;have:=h.vlt;exact⟨V,V,V,λe=>ia (h.vol.arr.RL e)⟩
 exact{h with
  arc:=h.arc.keep (a.block _ h.arc.lt λq=>by
   rcases q with q|q|q;.exact h.nar q
   .omega
   .exact(h.apt _ q).2.1 rfl)
  vol:={h.vol with vol:=adJ,arr:=x,laid:=h.vol.laid.keep (d _ r h.vol.g h.vol.laid.lt),tab:=h.vol.tab.keep (d _ s h.vol.t h.vol.tab.lt),room:=TU h.vol.room a.size}
  pgs:=((h.pgs.wk n).keep m).wk λk q _=>⟨q.1,q.2.1,q.2.2.2⟩
  cat:=((h.cat.wk n).keep m).wk λk q _=>⟨q.1,q.2.1,q.2.2.2⟩
  kit:=hK.kit
  apt:=u
  hl:=hK.hol}
def xE(xs:aF)(x:ByteArray)(base:Nat)(u r:ZS)(w:ZT):Prop:=(u=Z5 U 0 0/\((r=eh 6/\cF x=ZU)\/(r=eh 9/\cF x=ZV/\x∉xs.names)))\/(r=.nilIface/\cF x=ZV/\∃X∈xs,X.1.name=x/\w.ownsRow base 5 1 u X.2.length (aL X.2))
def abl(w:ZT)(ar v p:Nat)(Kind:aN->Prop)(ps:aN)(D L G t:Nat)(pg ob:ZS)(P:a7)(xs:aF)(A:an)(F:aC)(ps':aN)(w':ZT):Prop:=aP w' ar v p ps' D L G t pg ob P xs A F/\Kind ps'/\∀k,ps'.bl k->ps.bl k\/w.heap.size<=k
def nG(w:ZT)(ar v p:Nat)(Kind:aN->Prop)(ps:aN)(D L G t:Nat)(pg ob:ZS)(P:a7)(xs:aF)(A:an)(F:aC)(x:ByteArray)(e:ZQ)(w':ZT):Prop:=∃u r ps',e=Z3 (ZZ #[u,r])/\abl w ar v p Kind ps D L G t pg ob P xs A F ps' w'/\aa (λj=>F.S j\/j=v\/ps.bl j) w w'/\xE xs x w.heap.size u r w'
theorem Qw{Kind:aN->Prop}{ps:aN}{xs:aF}(h:aP w ar v p ps D L G t pg ob P xs A F)(hv:xD D L G Kind ps)(x:ByteArray)(hx:cF x=ZV)(J':Nat)(x8:J'<xs.length)(hm:xs[J'].1.name=x):ZR ZO 68 #[Z6 (J ⟨ar,0,U⟩),Z0 x] w (nG w ar v p Kind ps D L G t pg ob P xs A F x):=by
 obtain⟨_,_,_,_,c8⟩:=h.arc.cells;have q1:=h.find x;have xf:xs.names.length=xs.length:=by rw[<-fm,bB];simp[aF.os]
 have qe:xs.names[J']' V=x:=by simp[aF.names,hm,aW,aF.os]
 have k9:x∈xs.names:=by rw[<-qe];exact T7 _
 have x1:aJ xs.names x=J':=iO h.disk.up V qe;rw[x1,h.there k9]at q1;have k7:=h.disk.fits _ (T7 x8);obtain⟨oo,oc,rfl,hol,_⟩:=id h.cat;have qf:xs.os.length=xs.length:=Jx;have ka:∀hh:J'<xs.os.length,xs.os[J']=xs[J'].1:=λhh=>Jx;obtain⟨X,hX⟩:=nM (xs[J']);rw[hX]at k7 hm ka;obtain⟨nn,qy⟩:=nM (xs.os.length);have qn:X∈xs:=by rw[<-hX];exact T7 _
 have s:=a6 h k7 k9 ka qy qn;have HV:=ak hv;have qb:J'<nn:=V;have x9:(J':Int)<(nn:Int):=V;rw[qy]at q1 c8;clear h hv xf qe k9 x1 k7 ka qf hol hX qn;go_enter func68,ntmps68;go_wp2_with fail;refine q1.mono ?_;rintro e w1⟨rfl,hb⟩;have H:=ak hb;clear hb q1 c8;go_wp2_with fail;refine(kS x w1).mono ?_;rintro e w2⟨rfl,rfl⟩;rw[hx];dsimp only;have a:=s.o.1.below H.o;obtain⟨d0,_,_,_,d8⟩:=a.arc.cells;rw[s.o.2.2.2.2.1]at d8;obtain⟨Im,off,sv,rfl,xg,xh,r1,r2,r3,r4⟩:=a.cat.at' (k:=J') (by rw[s.o.2.2.2.2.1];exact qb);rw[s.o.2.2.2.1 _]at r1 r2 r4;rw[hm]at r1;obtain⟨n,hn⟩:=nM (X.1.size);rw[hn]at r2;obtain⟨sa,O',rfl,x6,_⟩:=id r4;obtain⟨S,hS⟩:=nM (X.1.RI);rw[hS]at r3 r4 x6;have Q:=aE a r4 hn hS;clear a r4 hn hS;have q8:bW w2 (w2.alloc (Z4 #[Z0 x,I O (n:Nat),.slice sa S.length O'] 150)):=bA w2 _;have ky:ag (w2.alloc (Z4 #[Z0 x,I O (n:Nat),.slice sa S.length O'] 150)) w2.heap.size 150 [Z0 x,I O (n:Nat),.slice sa S.length O']:=UD w2 _;have qj:(w2.alloc (Z4 #[Z0 x,I O (n:Nat),.slice sa S.length O'] 150)).heap.size=w2.heap.size+1:=ej;have C:X.2.length=n:=s.o.2.1.len.trans Q.o.2.2.1;have xd:n<=1500:=by rw[<-Q.o.2.2.1];exact s.o.2.1.fit.size
 obtain⟨w3,xk⟩:=nM (w2.alloc (Z4 #[Z0 x,I O (n:Nat),.slice sa S.length O'] 150));rw[xk]at q8 ky qj;have y1:=ky.cell (j:=1) (u:=I O (n:Nat)) rfl;obtain⟨ib,qs,kk,km,ko⟩:=Uw Tryz.SB;have H3:=au q8 ky qj;clear q8 ky qj;go_wp2_with(at_make;refine adi w3 rfl (.const (I O 0)) (Z1 41) 36 rfl w2.heap.size 5 ib (I .u8 0) 1 Ur qs kk km .i64 .i64 _ n um um rfl (by rw[ko];omega) eD (by exact H3.o.1.size) ?_;intro w4 qz q9;have q7:bW w2 w4:=H3.o.1.grown q9 H3.o.1.size (λk e=>W8);have e0:=(q7.cell (p:=⟨ar,0,U⟩) Q.o.1.arc.lt).trans d0;have Z:=au qz q9 q7;clear qz q9 q7);have Y:=Q.o.1.below Z.o.2.2;have N:=sf Y.vol.vol Y.vol.par.d Y.vol.par.l4 Y.vol.par.g Y.vol.n;have kx:=ak Y;clear Y d8 r1 r2 r3 y1;refine N.mono ?_;rintro e w5⟨rfl,q4,hf,kg⟩;have kp:=kx.out.below kg;have q3:ag w4 w2.heap.size 150 _:=H3.o.2.1.keep (Z.o.2.1.block _ H3.o.2.1.lt ej);have hc:ag w5 w2.heap.size 150 _:=q3.keep (kg.block _ q3.lt);have x2:=hc.cell (j:=2) (u:=.slice sa S.length O') rfl;have kf:bW w2 w5:=Z.o.2.2.trans (kg.mono Z.o.2.2.size);obtain⟨sz,o⟩:=nM (D*44);have W:S.length=nL D n:=by rw[<-Q.o.2.2.2,s.o.2.1.st,Q.o.2.2.1];rfl
 obtain⟨r,hr⟩:=nM (w4.heap.size+2);obtain⟨g,hg⟩:=nM (w4.heap.size+1);have xv:=Z.o.2.2.size;rw[hr,hg]at q4;rw[hg]at hf;obtain⟨d,E⟩:=nM (X.2);rw[E]at C;have x3:GtG w2 w2.heap.size v p r g A.n sz D L G Kind ps A F [Z0 x,I O (n:Nat),.slice sa S.length O'] d 0 (Z5 (J ⟨w3.heap.size,0,U⟩) 0 n) w5:=⟨by rw[acK,Nat.zero_min];exact az Z.o.1 kg,⟨_,_,_,q4⟩,⟨_,hf⟩,⟨ps,HV.o.kind,rfl,kp.kit,kp.vol.vol,kp.hl,λ_ q=>.inl q⟩,kp.vol.arr,aa.RK kf _,hc⟩;have H5:=a5 x3 o W E C;have xi:r≠g:=V;have xm:w2.heap.size<g:=V;have xq:w2.heap.size<r:=V;rw[hr];clear x3 o W E C q4 hf hc q3 kp kf N kg hr hg;have xj:44<=sz/\sz<=528:=by rw[<-H5.o.2.1];have:=kx.out.vol.par.d1;have:=kx.out.vol.par.d;omega
 go_wp2_with fail;go_loopw[9,51](λu i wr=>acA w2 w2.heap.size v p r g A.n sz D L G Kind ps A F [Z0 x,I O (n:Nat),.slice sa S.length O'] d S.length u i wr)(λ_ i _=>S.length-(intOf i).toNat);case atStart=>exact⟨0,T8 _,rfl,H5.o.1⟩
 case round=>
  clear x2 e0;obtain⟨k,xn,rfl,R⟩:=hrel;by_cases ke:k<S.length
  . obtain⟨f,⟨b0,gone,sp,N⟩,⟨f0,he⟩,⟨ps',b⟩,ha,T,kh⟩:=id R;obtain⟨_,o,W,E,C⟩:=H5.o;obtain⟨a,qm,xe,kz⟩:=Q.o;have hr:=a.vol.par;have qv:k*sz<=n:=(by rw[<-o];exact EB hr.d1 V);have M:∀j,F.S j->j<w2.heap.size:=λj U'=>a.vol.arr.RL U';rw[C,Wn qv]at f;obtain⟨l,hl⟩:=nM (d.take (k*sz));rw[hl]at f;obtain⟨pa,pc,rfl⟩:=bu f;obtain⟨c,B⟩:=nM (k*sz);have qh:=a.vlt;have qk:eW (λk=>ar<k/\¬F.S k/\¬ps.bl k) w2 wr:=⟨T.size,λj U' hK=>T.block j U' (λq=>by rcases q with q|q|q;exact hK.2.1 q;omega;exact hK.2.2 q)⟩;obtain⟨sb,so,xx,e1,qo⟩:=tT (qm.keep qk) (λe=>by rw[e]at ke;simp at ke);simp only[Vy]at e1;obtain⟨rfl,_,rfl⟩:=e1;have g1:=qo k ke;obtain⟨y,hy⟩:=nM (S[k]);rw[hy]at g1;have kv:X.1.RI.getD k 0=y:=(by rw[kz,iP ke,hy]);have x5:y<A.nb:=by refine(a.disk.SZ y (VQ _ (vX s.o.2.2.2.2.2 ?_))).2;rw[kz,<-hy];exact T7 ke
    have qi:=a.disk.held X s.o.2.2.2.2.2 k (by rw[kz];exact ke);rw[kv,E]at qi;have kc:=a.got T ha b;have q5:qP wr.drew v p D L G ps'.ps ps'.ho A F:=kc.vol.below ((TW _ wr).drew) lR;obtain⟨ca,_⟩:=kc.arc.cells;have cz:=kh.cell (j:=1) (u:=I O (n:Nat)) rfl;have qg:=dY q5.vol (ia hr.d);rw[o]at qg;obtain⟨K,qc⟩:=nM (min (n-c) sz);have xc:∀qr ty w,(Builtin.min_ qr ty #[I O ((n:Int)-(c:Int)),I O (sz:Nat)]).run ZO w=.ok (I O (K:Nat)) w:=λqr ty w=>by
     rw[jz];by_cases h1:((sz:Nat):Int)<(n:Int)-(c:Int);.rw[TT h1,(V:K=sz)]
     .rw[TS h1,(V:(K:Int)=(n:Int)-(c:Int))]
    have kb:=a.vol.n;have qx:(K+43)/44<=D:=V;have kj:(di D d k).length=K:=(by unfold di;rw[Uq,Un,o,B,C];omega);have kr:si wr.drew r v y g A.n p D L G Kind ps' A F (di D d k):={vol:=q5,nN:=kb,hol:=by rw[kb];exact b.hol,kit:=ps'.keep _ _ b.kit (λ_ _=>rfl),kind:=b.kind,apt:=λj U'=>⟨(kc.apt j U').1,(kc.apt j U').2.2.1,(kc.apt j U').2.2.2⟩,vr:=λe=>ia a.vol.vol.lt,vg:=λe=>ia a.vol.vol.lt,rg:=xi,gF:=λe=>ia (M _ e),rF:=λe=>ia (M _ e),rK:=ia a.vol.room,vK:=a.vlt.1,gK:=ia a.vol.room,nb:=x5,cw:=qi,len:=by rw[kj];omega,fine:=a.fine,byt:=λz hz=>s.o.2.1.byt z (by rw[E];exact UW (US hz))};have qp:=EM kr HV.o.sh (N.keep rfl) (he.of_block rfl) kj.symm (m:=(K+43)/44) rfl qx;have q0:di D d k=(d.drop c).take sz:=(by unfold di;rw[o,B]);have HR:=hide15 R N he f qp qg M B b kb a.vol.vol.lt hl kj qc q0;rw[B]at qv f⊢;have xb:K<=528:=V;have xo:IntKind.i64.wrap ((k:Int)+1)=(k:Int)+1:=l7;have xp:IntKind.i64.wrap ((n:Int)-(c:Int))=(n:Int)-(c:Int):=l7;clear R b kc kr qh N he f qp qg M B q5 qk qo hy T kh ha o W a qm xe kz hr qc qx kb hl x5 qi kv kj q0 E C;go_wp2;go_region_with(first|(go_at_call 93;refine HR.o.2.2.2.2.2.1.mono ?_;rintro e wq⟨rfl,rfl⟩)|(go_at_call 92;refine HR.o.2.2.2.2.1.mono ?_;rintro e w6 V';obtain⟨u2,x7,x4,_⟩:=V'.ans;have H6:=al V' x4;subst x7;clear V' x4));all_goals(
     obtain⟨V',ki⟩:=H6.o;have hp:w6.ownsRow w2.heap.size 5 1 (.slice pa c pc) c (aL l):=by obtain⟨_,N,he,f,_,_,M,B,b,_⟩:=HR.o;rw[B]at f;exact Qv (az f ((TW _ wr).drew)) (N.keep rfl) (he.of_block rfl) (by rw[b.psE];exact b.vol) (ps'.keep _ _ b.kit (λ_ _=>rfl)) V'.out M
     obtain⟨l2,a⟩:=nM (di D d k);have hs:Src ZO 1 36 u2 K (aL l2) w6:=by have:=KN ki;rw[HR.o.2.2.2.2.2.2.2.2.2.2.2.2.1,a]at this;exact this
     have HO:=aE hp hs (TU HR.o.1.out.size V'.out.size) a;clear hp hs V' a ki;go_wp2_with(at_builtin;refine af _ rfl (Z1 75) (Z1 76) 36 36 rfl w2.heap.size 5 ib (I .u8 0) 1 1 Ur qs kk km ko rfl (.slice pa c pc) c (aL l) um (by exact HO.o.1) _ um K (aL l2) (by exact HO.o.2.1) eD V (by exact HO.o.2.2.1) ?_;intro v7 w7 x0 qq q6;have H7:=al x0 qq;clear x0 qq q6);go_roundw;case rel=>obtain⟨R,_,_,_,_,_,M,B,b,kb,qh,hl,kj,qc,q0⟩:=HR.o;have qd:(k+1)*sz=c+sz:=(by rw[<-B];exact W4 k sz);have C:=H5.o.2.2.2.2;rw[B]at R;refine⟨k+1,V,eT,Og R b H6.o.1 kb HV.o.re ?_ H7.o.2 HO.o.1 M qh lR V V V V⟩;have h7:=H7.o.1;rw[qd,C,(V:min (c+sz) n=c+K),YI,<-q0,HO.o.2.2.2,<-B,hl,bT];rw[B];exact h7
     case measure=>simp only[intOf];omega)
  .have xa:k=S.length:=V;subst xa;obtain⟨f,_,_,⟨ps',b⟩,ha,T,_⟩:=R;obtain⟨_,o,W,E,C⟩:=H5.o;have qa:d.length<=S.length*sz:=(by rw[C,W,<-o];exact Qu kx.out.vol.par.d1);rw[YJ qa,UM qa]at f;have q2:aa (λj=>F.S j\/j=v\/ps.bl j) w wr:=(aa.RK H.o _).trans T;have HF:=aE (And.intro (dz f H.o.size) q2) (s.o.1.got q2 ha (b.early H.o.size)) (b.early H.o.size) E;clear f ha T q2 b qa o W E C;go_wp2;go_ret2;obtain⟨⟨h1,h2⟩,h3,h6,E⟩:=HF.o;subst E;exact⟨_,_,ps',rfl,⟨h3,h6.kind,h6.bl⟩,h2,.inr ⟨rfl,hx,X,s.o.2.2.2.2.2,hm,h1⟩⟩
def Qx{Kind:aN->Prop}{ps:aN}{xs:aF}(h:aP w ar v p ps D L G t pg ob P xs A F)(d:xD D L G Kind ps)(x:ByteArray):ZR ZO 68 #[Z6 (J ⟨ar,0,U⟩),Z0 x] w (nG w ar v p Kind ps D L G t pg ob P xs A F x):=by
 have c:∀n:Int,(∀w',xE xs x w.heap.size (Z5 U 0 0) (eh n) w')->∀e w',B1 w n e w'->nG w ar v p Kind ps D L G t pg ob P xs A F x e w':=by rintro n f e w'⟨rfl,b⟩;exact⟨_,_,ps,rfl,⟨h.below b,d.kind,λ_ q=>.inl q⟩,aa.RK b _,f w'⟩
 cases hx:cF x with|false=>exact(Of h x hx).mono (c 6 λ_=>.inl ⟨rfl,.inl ⟨rfl,hx⟩⟩)|true=>
  by_cases a:x∈xs.names;.obtain⟨g,j,e⟩:=UZ a;have:xs.names.length=xs.length:=(by rw[<-fm,bB];simp[aF.os]);exact Qw h d x hx g V (by rw[<-e];simp[aF.names,aW,aF.os])
  .exact(EN h x hx a).mono (c 9 λ_=>.inl ⟨rfl,.inr ⟨rfl,hx,a⟩⟩)
section
structure nP(w:ZT)(ar v p:Nat)(ps:aN)(D L G:Nat)(A:an)(F:aC):Prop where
 vol:qP w v p D L G ps.ps ps.ho A F
 nar:¬F.S ar
 vlt:3<=v/\v<ar
 arl:ar<w.heap.size
 kit:ps.S w
 apt:∀k,ps.bl k->3<=k/\k≠ar/\k≠v/\¬F.S k
 hl:ps.ho<2^(D+L+G)fine:A.fine D L G
section
variable {w w':ZT}{ar v p D L G:Nat}{ps ps':aN}{A:an}{F:aC}
def nP.below(h:nP w ar v p ps D L G A F)(a:bW w w'):nP w' ar v p ps D L G A F:={h with vol:=h.vol.below a lR,arl:=TY h.arl a.size,kit:=ps.keep _ _ h.kit λk b=>a.block k (ps.lt _ h.kit k b)}
def nP.got(h:nP w ar v p ps D L G A F){Kind:aN->Prop}(a:aa (λj=>F.S j\/j=v\/ps.bl j) w w')(m:ay w' p A F)(hK:nO w v p D L G Kind ps A ps' w'):nP w' ar v p ps' D L G A F:=by
 have i:2<3:=ec;have l:1<3:=ec;have:=h.vlt;have b:∀k,k<3->¬F.S k->k<w.heap.size->w'.heap[k]?=w.heap[k]?:=λk d f c=>a.block k c (λq=>by
  rcases q with q|q|q;.exact f q
  .omega
  .have:=(h.apt k q).1;omega);exact{h with
  vol:={h.vol with vol:=adJ,arr:=m,laid:=h.vol.laid.keep (b _ i h.vol.g h.vol.laid.lt),tab:=h.vol.tab.keep (b _ l h.vol.t h.vol.tab.lt),room:=TU h.vol.room a.size}
  arl:=TY h.arl a.size
  kit:=hK.kit
  apt:=λk n=>by
   rcases hK.bl k n with q|q;.exact h.apt k q
   .have:=h.arl;have:=h.vol.room;exact⟨V,V,V,λe=>ia (h.vol.arr.RL e)⟩
  hl:=hK.hol}
def nP.arc(h:nP w ar v p ps D L G A F)(a:aa (λj=>F.S j\/j=v\/ps.bl j) w w'){D' L' G' t f n:Nat}{pg ob:ZS}{off:Bool}(b:bh w ar v D' L' G' t f n pg ob off):bh w' ar v D' L' G' t f n pg ob off:=b.keep (a.block _ h.arl λq=>by
  rcases q with q|q|q;.exact h.nar q
  .have:=h.vlt;omega
  .exact(h.apt _ q).2.1 rfl)
end
structure Rk(A:an)(D L G:Nat)(P l:a7):Prop where
 on:A.holds D L G P (cd D P l)pl:P.length=YK D l.length
 nb:∀x∈P,x<A.nb
 le:P.length<=A.nb
 byt:∀x∈l,x<256
def Qy{D:Nat}(e:1<=D){k:Nat}(d:k<pgs D n):k*(D*44-4)<=n:=by
 unfold pgs at d;by_cases a:k=0;.subst a;omega
 .have b:k<(n+(D*44-4)-1)/(D*44-4):=V;have hs:0<D*44-4:=V;have c:=(adz hs).1 (Nat.succ_le_of_lt b);rw[W4]at c;omega
def Qz{D:Nat}(c:1<=D):n<=pgs D n*(D*44-4):=by have hs:0<D*44-4:=V;have a:(n+(D*44-4)-1)/(D*44-4)<=pgs D n:=YH _ _;have:=WY (D*44-4) a;have b:=Nat.div_add_mod (n+(D*44-4)-1) (D*44-4);have:=VT (n+(D*44-4)-1) hs;rw[Wf]at b;omega
def GX{D:Nat}(P l:a7)(k:Nat):(cd D P l k).length=4+min (l.length-k*(D*44-4)) (D*44-4):=by unfold cd;rw[Ua,aG,Uq,Un,Nat.min_comm]
def KQ(w:ZT)(pb po n:Nat)(page:a7):Prop:=∀q,q<n->w.cell? ⟨pb,po+q,U⟩=J (I .u8 ((page.getD q 0:Nat):Int))
def KQ.grown{w w':ZT}{pb:Nat}{row:Option Nat}(h:KQ w pb po n page)(b:w.grownBy w' row)(a:row≠J pb):KQ w' pb po n page:=λq c=>b.cell (h q c) (λe=>a e.symm)
def KQ.alloc{w:ZT}{pb:Nat}(h:KQ w pb po n page)(o:Obj):KQ (w.alloc o) pb po n page:=h.grown (adx w o U) (λe=>W8)
theorem KQ.src{w:ZT}{pb:Nat}(h:KQ w pb po (4+sk) page)(hl:page.length=4+sk):Src ZO 1 36 (Z5 (J ⟨pb,po+4,U⟩) sk sk) sk (aL (page.drop 4)) w:=by
 refine Vm w Ur ⟨pb,po+4,U⟩ sk sk (aL (page.drop 4)) (by rw[aY,Un,hl];omega) (λq u a=>?_) (λu f=>by obtain⟨x,_,rfl⟩:=T9.1 f;rfl);have g:q<sk:=by have:=(Vd.1 a).1;rw[aY,Un,hl]at this;omega
 have d:=h (4+q) V;have e:(Value.int .u8 ((page.getD (4+q) 0:Nat):Int))=u:=by unfold aL at a;rw[UJ,Wm,Ud V]at a;simp at a;rw[<-a];simp[Ub,(V:4+q<page.length)]
 have b:w.cell? ⟨pb,po+4+q,U⟩=J u:=by rw[<-e,Vt];exact d
 unfold Addr.add;split;.rename_i c;subst c;exact b
 .exact b
def KQ.src0{w:ZT}{pb:Nat}:Src ZO 1 36 (Z5 (J ⟨pb,po,U⟩) 0 0) 0 [] w:=Vm w Ur ⟨pb,po,U⟩ 0 0 [] rfl (λq u a=>Zu) (λu b=>by cases b)
def KQ.head{w:ZT}{pb:Nat}(h:KQ w pb po n page)(e:4<=n)(b:4<=c)(d:page.take 4=be x 4):Bs w (Z5 (J ⟨pb,po,U⟩) 4 c) (be x 4):=by
 refine⟨J ⟨pb,po,U⟩,c,by rw[aG],by rw[aG];exact b,adW,sE _ _,λ_=>⟨pb,po,rfl,λq a=>?_⟩⟩;rw[aG]at a;rw[h q V,<-d];have:(page.take 4).getD q 0=page.getD q 0:=by rw[Ub,Ub,VK a]
 rw[this]
structure RpG(w:ZT)(v p r g N sz n1 f1 D L G:Nat)(Kind:aN->Prop)(ps:aN)(A:an)(F:aC)(P l:a7)(D1 L1 G1 t1 k:Nat)(up uq:ZS)(wr:ZT):Prop where
 pk:wr.ownsRow w.heap.size 5 1 up (min (k*sz) n1) (aL (l.take (k*sz)))pg:wr.ownsRow w.heap.size 3 1 uq k (kY (P.take k))rd:∃b gone sp,eQ wr r v b g N gone sp
 row:∃f,wr.rowIs g 36 N f
 kit:∃ps',nO w v p D L G Kind ps A ps' wr
 arr:ay wr p A F
 out:aa (λj=>F.S j\/j=v\/ps.bl j) w wr
 box:wr.heap[w.heap.size]?=J (Z4 (aq D1 L1 G1 t1 f1 n1) 132 (0,0))
def acB(w:ZT)(v p r g N sz n1 f1 D L G:Nat)(Kind:aN->Prop)(ps:aN)(A:an)(F:aC)(P l:a7)(D1 L1 G1 t1 K:Nat)(up uq nx i:ZS)(wr:ZT):Prop:=∃k:Nat,k<=K/\i=I O k/\nx=I O ((P.getD k 0:Nat):Int)/\RpG w v p r g N sz n1 f1 D L G Kind ps A F P l D1 L1 G1 t1 k up uq wr
def GY:¬kT 3:=vm
def QA:¬kT 132:=vm
def Oh{w:ZT}{v p D L G:Nat}{Kind:aN->Prop}{ps ps':aN}{A:an}{F:aC}(a:RpG w v p r g N sz n1 f1 D L G Kind ps A F P l D1 L1 G1 t1 k up uq wr)(hK:nO w v p D L G Kind ps A ps' wr)(hD:nF wr.drew r v y g N p D L G Kind ps' A F dl e w5)(B:N=D+L+G)(re:∀ps h,Kind ps->Kind (ps.SK h))(i:∀k,F.S k->k<w.heap.size)(K:v<w.heap.size)(hr:w.heap.size<r)(M:w.heap.size<g):aa (λj=>F.S j\/j=v\/ps.bl j) w w5/\(∃b,nO w v p D L G Kind ps A b w5)/\w5.heap[w.heap.size]?=J (Z4 (aq D1 L1 G1 t1 f1 n1) 132 (0,0))/\(∀{T:TypeId}{s n:Nat}{u:ZS}{xs:List ZS},wr.ownsRow w.heap.size T s u n xs->¬kT T->T≠204->T≠36->w5.ownsRow w.heap.size T s u n xs):=by
 have:w.heap.size<=wr.heap.size:=a.out.size;have:wr.drew.heap.size=wr.heap.size:=rfl;obtain⟨_,_,_,z⟩:=a.rd;obtain⟨f0,o⟩:=a.row;refine⟨(a.out.trans (aa.drew _)).later hD.out λj m h=>?_,?_,?_,?_⟩
 . rcases h with h|h|h|h|h;.omega
   .omega
   .exact .inr (.inl h)
   .exact .inl h
   . rcases hK.bl j h with q|q;.exact .inr (.inr q)
     .omega
 . obtain⟨b,hl,k1,k2,k3,k4,E,H⟩:=hD.kit;refine⟨b.SK hl,re _ _ k1,k2.trans hK.psE,k3,by rw[<-hK.psE];exact k4,by rw[<-B];exact E,λj m=>?_⟩;rcases H j m with q|q;.exact hK.bl j q
   .exact .inr V
 . refine(hD.out.block _ (TX.1 a.box).1 (λh=>?_)).trans a.box;rcases h with h|h|h|h|h;.omega
   .omega
   .omega
   .have:=i _ h;omega
   .exact cI hK.kit a.box QA h
 . intro T s n u xs ho d f t;refine cD (show wr.drew.ownsRow w.heap.size T s u n xs from ho) hD.out λq c h=>?_;rcases h with h|h|h|h|h;.subst h;obtain⟨cs,x,_⟩:=o;exact bN ho x t c
   .subst h;exact bN ho z f c
   .subst h;have:=eO ho c;omega
   .have d:=i q h;have:=eO ho c;omega
   .obtain⟨cur,C⟩:=bJ ho c;exact cI hK.kit C d h
theorem Oi{w:ZT}{v p D L G pl:Nat}{Kind:aN->Prop}{ps ps':aN}{A:an}{F:aC}{v6:ZS}{o:Obj}(W:RpG w v p r g N sz n1 f1 D L G Kind ps A F P l D1 L1 G1 t1 k up uq wr)(hK:nO w v p D L G Kind ps A ps' wr)(hD:nF wr.drew r v y g N p D L G Kind ps' A F dl e w5)(X:N=D+L+G)(re:∀ps h,Kind ps->Kind (ps.SK h))(Q:∀k,F.S k->k<w.heap.size)(k0:v<w.heap.size)(hr:w.heap.size<r)(E:w.heap.size<g)(U':k<P.length)(hx:P.getD k 0=x)(K:w5.ownsRow w.heap.size 3 1 uq k (kY (P.take k)))(V':w6.ownsRow w.heap.size 3 1 v6 (k+1) (kY (P.take k)++[I O (x:Int)]))(m:(w5.alloc o).grownBy w6 uq.ownBlock)(C:w6.ownsRow w.heap.size 5 1 up pl (aL (l.take pl)))(hv:w7.ownsRow w.heap.size 5 1 v7 (pl+sk) (aL (l.take pl)++aL ((l.drop pl).take sz)))(c:w6.grownBy w7 up.ownBlock)(hy:k*sz=pl)(k7:min (n1-pl) sz=sk)(k5:pl<=n1):RpG w v p r g N sz n1 f1 D L G Kind ps A F P l D1 L1 G1 t1 (k+1) v7 v6 w7:=by
 obtain⟨R,⟨n,i⟩,I',_⟩:=Oh W hK hD X re Q k0 hr E;have k8:w.heap.size<=w5.heap.size:=R.size;have k9:w5.heap.size+1<=w6.heap.size:=by have:=m.size;simp at this;omega
 have M:=K.alloc o;have u:∀{q:Nat}{cs:Array ZS}{T:TypeId}{z:Nat×Nat},w5.heap[q]?=J (Z4 cs T z)->3≠T->5≠T->w7.heap[q]?=w5.heap[q]?:=by intro q cs T z s t B;have hz:q<w5.heap.size:=(TX.1 s).1;have b:(w5.alloc o).heap[q]?=w5.heap[q]?:=UE _ _ _ hz;have d:w6.heap[q]?=(w5.alloc o).heap[q]?:=m.block q ek (λe=>by obtain⟨cur,a⟩:=bJ M e.symm;rw[b.trans s]at a;simp only[UF,UT]at a;exact t a.2.1.symm);refine(c.block q V (λe=>?_)).trans (d.trans b);obtain⟨cur,a⟩:=bJ C e.symm;rw[(d.trans b).trans s]at a;simp only[UF,UT]at a;exact B a.2.1.symm
 have J':∀q,q<w.heap.size->w7.heap[q]?=w5.heap[q]?:=λq s=>by have b:(w5.alloc o).heap[q]?=w5.heap[q]?:=UE _ _ _ V;have d:w6.heap[q]?=(w5.alloc o).heap[q]?:=m.block q ek (λe=>ia (eO M e.symm));exact(c.block q V (λe=>ia (eO C e.symm))).trans (d.trans b)
 have Z:(k+1)*sz=pl+sz:=by rw[W4,hy]
 obtain⟨gone,sp,O'⟩:=hD.rd;refine⟨?_,?_,⟨y,gone,sp,O'.keep (u O' ec ec)⟩,?_,⟨n,{i with kit:=n.keep _ _ i.kit (λj H=>?_),vol:=i.vol.keep (u i.vol ec ec)}⟩,hD.arr.keep λq s=>J' q (Q q s),?_,(u I' ec ec).trans I'⟩;.rw[Z,YI,bT,(V:min (pl+sz) n1=pl+sk)];exact hv
 . have e:kY (P.take (k+1))=kY (P.take k)++[I O (x:Int)]:=by have E:P.getD k 0=P[k]:=(by simp[Ub,U']);rw[Vl,Ud U',<-hx,E];unfold kY;rw[Uz];rfl
   rw[e];refine V'.kept c ?_;cases h8:v6.ownBlock with|none=>exact .inl rfl|some q=>refine .inr λe=>?_;obtain⟨cur,Y⟩:=bJ V' h8;exact bN C Y ec e.symm
 .obtain⟨f,cs,t,B⟩:=hD.row;exact⟨f,cs,(u t ec ec).trans t,B⟩
 . have hs:=n.lt _ i.kit j H;have b:(w5.alloc o).heap[j]?=w5.heap[j]?:=UE _ _ _ hs;have d:w6.heap[j]?=(w5.alloc o).heap[j]?:=m.block j ek (λe=>by obtain⟨cur,a⟩:=bJ K e.symm;exact cI i.kit a GY H);refine(c.block j V (λe=>?_)).trans (d.trans b);obtain⟨cur,a⟩:=bJ C e.symm;rw[d.trans b]at a;exact cI i.kit a qJ H
 .exact R.later (T:=λq=>w.heap.size<=q) ⟨c.os.trans (m.os.trans rfl),c.tape.trans (m.tape.trans rfl),c.output.trans (m.output.trans rfl),ia c.size,λq _ k6=>J' q V⟩ (λq t B=>V)
structure QB(w:ZT)(v p D L G:Nat)(Kind:aN->Prop)(ps:aN)(A:an)(F:aC)(P l:a7)(e:ZQ)(w':ZT):Prop where
 kit:∃ps',nO w v p D L G Kind ps A ps' w'
 arr:ay w' p A F
 out:aa (λj=>F.S j\/j=v\/ps.bl j) w w'
 ans:∃up uq,e=Z3 (ZZ #[up,uq,.nilIface])/\Bs w' up l/\w'.ownsRow w.heap.size 3 1 uq P.length (kY P)
structure RpD(w w4 w5:ZT)(r v y g N p D L G:Nat)(Kind:aN->Prop)(ps':aN)(A:an)(F:aC)(sk pl k sz nx' pb po pc:Nat)(pa:Option Addr)(u5:ZS)(page l P:a7)(e:ZQ):Prop where
 dt:nF w4 r v y g N p D L G Kind ps' A F page e w5
 pk5:w5.ownsRow w.heap.size 5 1 (.slice pa pl pc) pl (aL (l.take pl))pg5:w5.ownsRow w.heap.size 3 1 u5 k (kY (P.take k))cell:KQ w5 pb po (4+sk) page
 len:page.length=4+sk
 pg1:page.take 4=be nx' 4pg2:page.drop 4=(l.drop pl).take sz
 bq:(Value.slice pa pl pc).ownBlock=U\/(Value.slice pa pl pc).ownBlock≠u5.ownBlock
 pq:u5.ownBlock≠J pb
 pp:(Value.slice pa pl pc).ownBlock≠J pb
 mul:k*sz=pl
theorem yE{w:ZT}{ar v p D L G:Nat}{Kind:aN->Prop}{ps:aN}{A:an}{F:aC}(ho:nP w ar v p ps D L G A F)(y:bh w ar v D' L' G' t f nn pg ob off)(hv:xD D L G Kind ps)(x8:A.nb<=1000)(hP:Rk A D L G P l):ZR ZO 172 #[Z6 (J ⟨ar,0,U⟩),.agg (aq D1 L1 G1 t1 (P.getD 0 0) l.length)] w (QB w v p D L G Kind ps A F P l):=by
 obtain⟨ib,x6,ki,kj,kk⟩:=Uw Tryz.R8;obtain⟨ii,xn,qf,qg,qh⟩:=Uw Tryz.Su;have q1:=ho.vol.par.d1;have qb:=ho.vol.par.d;have ky:=ho.vol.vol.lt;have xd:=ho.vol.room;have Y:=ho.vol.n;have c:∀k,F.S k->k<w.heap.size:=λk hk=>ho.vol.arr.RL hk;have h:=Qz (n:=l.length) q1;have x0:P.length<=1000:=TU hP.le x8;have qn:l.length<=524000:=by rw[<-hP.pl]at h;exact TU h (TU (Xm x0 (V:D*44-4<=524)) ec)
 obtain⟨n1,q2⟩:=nM (l.length);obtain⟨f1,qc⟩:=nM (P.getD 0 0);obtain⟨K,kc⟩:=nM (P.length);have hK:pgs D n1=K:=by rw[<-kc,hP.pl,q2]
 rw[q2]at h qn⊢;rw[qc];rw[kc]at x0;have a:=aE hP q2 qc kc;clear hP q2;have H:(w.alloc (Z4 (aq D1 L1 G1 t1 f1 n1) 132)).heap[w.heap.size]?=J (Z4 (aq D1 L1 G1 t1 f1 n1) 132 (0,0)):=Ug _ _;have E:bW w (w.alloc (Z4 (aq D1 L1 G1 t1 f1 n1) 132)):=bA w _;have q4:(w.alloc (Z4 (aq D1 L1 G1 t1 f1 n1) 132)).heap.size=w.heap.size+1:=ej;obtain⟨w1,qy⟩:=nM (w.alloc (Z4 (aq D1 L1 G1 t1 f1 n1) 132));rw[qy]at H E q4;have cl:w1.cell? ⟨w.heap.size,5,U⟩=J (I O n1):=by simp[World.cell?,H,aq]
 have cf:w1.cell? ⟨w.heap.size,4,U⟩=J (I O f1):=by simp[World.cell?,H,aq]
 have W:=y.keep (E.block _ y.lt);have o:=ho.below E;obtain⟨d0,_⟩:=W.cells;have qq:=jB W o.vol.vol q1 V n1 V;have q9:=jU o.vol.vol o.vol.arr V;obtain⟨NB,z⟩:=nM (A.nb);rw[z]at x8;have xj:K<=NB:=by rw[<-z,<-kc];exact a.o.1.le
 rw[hK]at qq;rw[z]at q9;have Q:=hide9 W o H E q4 qq q9 hK z;have y0:w.alloc (Z4 #[I O D1,I O L1,I O G1,I Z8 t1,I O f1,I O n1] 132)=w1:=qy;have HV:=aE ho y c ky;clear ho y H E W o qq q9 q4 qy hK z c kc qc;unfold aq;go_enter func172,ntmps172;go_wp2_with fail;refine Q.o.2.2.2.2.2.1.mono ?_;rintro e w2⟨rfl,M⟩;obtain rfl:w1=w2:=M.symm;clear M;go_wp2_with fail;refine Q.o.2.2.2.2.2.2.1.mono ?_;rintro e w2⟨rfl,M⟩;obtain rfl:w1=w2:=M.symm;clear M;have y3:¬NB<K:=V;have y4:¬(K:Int)>(NB:Int):=V;have ks:=sf (Q.o.2.1.vol.vol.keep (w':=w1.drew) rfl) qb Q.o.2.1.vol.par.l4 Q.o.2.1.vol.par.g Y;go_upto_region 4 with fail;go_cut[8,9]from 25 to 31(λv8 v9 wx=>v8=I O (f1:Int)/\v9=Z6 (J ⟨w1.heap.size+2,0,U⟩)/\eQ wx (w1.heap.size+2) v 0 (w1.heap.size+1) A.n 0 0/\wx.rowIs (w1.heap.size+1) 36 A.n yB/\bW w1 wx);case first=>go_region_with(go_at_call 82;refine ks.mono ?_;rintro e w3⟨rfl,xb,U',O'⟩;have R:=au xb U' O';clear xb U' O';have hd:w3.cell? ⟨w.heap.size,4,U⟩=J (I O f1):=(R.o.2.2.cell (p:=⟨w.heap.size,4,U⟩) (Ue cf)).trans cf);all_goals(go_wp2_with fail;go_meet;case rel=>exact⟨rfl,rfl,R.o.1,R.o.2.1,(TW _ w1).drew.trans R.o.2.2⟩)
 case rest=>
  obtain⟨rfl,rfl,k9,U',O'⟩:=hcut;rename ZT=>w3;obtain⟨W,o,H,E,q4,y1,y2,hK,z⟩:=Q.o;clear y1 y2 ks;have kf:=(O'.block _ V).trans H;obtain⟨ho,y,c,_⟩:=HV.o;have x1:aa (λj=>F.S j\/j=v\/ps.bl j) w w3:=aa.RK (E.trans (O'.mono V)) _;have kp:=o.below O';obtain⟨r,qv⟩:=nM (w1.heap.size+2);obtain⟨g,qe⟩:=nM (w1.heap.size+1);rw[qv,qe]at k9;rw[qe]at U';rw[qv];have xk:r≠g:=V;have y5:w.heap.size+1<g:=V;have y7:w.heap.size+1<r:=V;obtain⟨sz,kx⟩:=nM (D*44-4);have qz:RpG w v p r g A.n sz n1 f1 D L G Kind ps A F P l D1 L1 G1 t1 0 (Z5 U 0 0) (Z5 U 0 0) w3:=⟨by rw[acK,Nat.zero_min,WN];exact UQ _ _ _ _,UQ _ _ _ _,⟨0,0,0,k9⟩,⟨_,U'⟩,⟨ps,hv.kind,rfl,kp.kit,kp.vol.vol,kp.hl,λ_ q=>.inl q⟩,kp.vol.arr,x1,kf⟩;have R:=ak qz;have xz:40<=sz/\sz<=524:=V;rw[hK,kx]at h;have km:∀k,k<K->k*sz<=n1:=λk hk=>by have:=Qy (n:=n1) q1 (k:=k) V;rw[kx]at this;exact this
  have HK:=aE hK z h km;clear W o H E k9 U' kp kf x1 O' qz cl cf d0 qv qe hK z h km ho y c;go_wp2_with fail;go_loopw[4,5,8,33](λup uq nx i wr=>acB w v p r g A.n sz n1 f1 D L G Kind ps A F P l D1 L1 G1 t1 K up uq nx i wr)(λ_ _ _ i _=>K-(intOf i).toNat);case atStart=>exact⟨0,T8 _,rfl,by rw[a.o.2.2.1],R.o⟩
  case round=>
   obtain⟨k,y6,rfl,rfl,C⟩:=hrel;by_cases qk:k<K
   . have qj:=HK.o.2.2.2 k qk;obtain⟨B,kr,⟨b0,gone,sp,xc⟩,⟨f0,kv⟩,⟨ps',kz⟩,hh,Z,ke⟩:=id C;rw[Wn qj]at B;have x7:k<P.length:=(by rw[a.o.2.2.2];exact qk);obtain⟨x,J'⟩:=nM (P.getD k 0);have xh:x<A.nb:=(by rw[<-J'];exact a.o.1.nb _ (ik x7));rw[J'];obtain⟨pa,pc,rfl⟩:=bu B;obtain⟨pl,hs⟩:=nM (k*sz);obtain⟨ho,y,c,_⟩:=HV.o;have qp:=ho.got Z hh kz;have q5:=ho.arc Z y;obtain⟨ca,_⟩:=q5.cells;have cn:wr.cell? ⟨w.heap.size,5,U⟩=J (I O n1):=(by simp[World.cell?,ke,aq]);have qs:=lz (w:=wr.drew) (q5.keep rfl) (qp.vol.vol.keep rfl) q1 V;rw[kx]at qs;obtain⟨sk,xe⟩:=nM (min (n1-pl) sz);rw[hs]at qj B⊢;have qm:∀X ty w,(Builtin.min_ X ty #[I O ((n1:Int)-(pl:Int)),I O (sz:Nat)]).run ZO w=.ok (I O (sk:Nat)) w:=λX ty w=>by
      rw[jz];by_cases h1:((sz:Nat):Int)<(n1:Int)-(pl:Int);.rw[TT h1,(V:sk=sz)]
      .rw[TS h1,(V:(sk:Int)=(n1:Int)-(pl:Int))]
     have xq:IntKind.i64.wrap ((n1:Int)-(pl:Int))=(n1:Int)-(pl:Int):=l7;have hm:(cd D P l k).length=4+sk:=(by rw[GX,kx,hs,a.o.2.1,<-xe]);have s:=qp.below ((TW _ wr).drew);have xf:si wr.drew r v x g A.n p D L G Kind ps' A F (cd D P l k):={vol:=s.vol,nN:=Y,hol:=by rw[Y];exact s.hl,kit:=s.kit,kind:=kz.kind,apt:=λj hj=>⟨(s.apt j hj).1,(s.apt j hj).2.2.1,(s.apt j hj).2.2.2⟩,vr:=V,vg:=V,rg:=xk,gF:=λe=>ia (c _ e),rF:=λe=>ia (c _ e),rK:=V,vK:=s.vlt.1,gK:=V,nb:=xh,cw:=by rw[<-J'];exact a.o.1.on k x7,len:=by rw[hm];omega,fine:=s.fine,byt:=vP a.o.1.byt P k};have x4:=EM xf hv.sh (xc.keep rfl) (kv.of_block rfl) hm.symm (m:=(4+sk+43)/44) rfl V;have T:=aE C kz c ky;have HR:=hide7 x4 B kr hs hm J' qs;clear C kz c x4 B kr hs qs xf qp s q5 ho y xc kv hh Z ke hm J' xh;go_upto_region 7 with fail;go_cut[10]from 35 to 42(λv10 wx=>v10=I O (sk:Int)/\wx=wr.drew);case first=>go_region_with(go_at_call 138;refine HR.o.2.2.2.2.2.2.mono ?_;rintro e wq⟨rfl,rfl⟩);all_goals(go_wp2_with fail;go_meet;case rel=>exact⟨rfl,rfl⟩)
     case rest=>
      obtain⟨rfl,rfl⟩:=hcut;clear ca cn qm xq;have y8:IntKind.i64.wrap ((4:Int)+(sk:Int))=(4:Int)+(sk:Int):=l7;go_wp2_with fail;rw[(V:(4:Int)+(sk:Int)=((4+sk:Nat):Int))];refine HR.o.1.mono ?_;intro e w5 kb;have ko:=Oh T.o.1 T.o.2.1 kb Y hv.re T.o.2.2.1 ky V V;obtain⟨u,rfl,x3,x5,kg⟩:=kb.ans;obtain⟨_,k7,k5,hs,V',J',_⟩:=HR.o;obtain⟨ao,uc,hu,xg,_,qa,h7⟩:=id x3;rw[V']at hu xg h7;obtain⟨pb,po,rfl,he⟩:=h7 (λe=>by rw[e]at V';have h0:(0:Nat)=4+sk:=V';omega);subst hu;have qx:uc=4+sk:=by obtain⟨hb,n',xp⟩:=kg;injection xp with h1 h2 h3;omega
      subst qx;obtain⟨x2,_,_,k0⟩:=ko;have xv:wr.heap.size<=pb:=x5 pb rfl;have k8:=k0 k7 qJ ec ec;have k6:=k0 k5 GY ec ec;have yb:=x2.size;have q0:(cd D P l k).take 4=be (P.getD (k+1) 0) 4:=(by unfold cd;rw[VV D0,UM D0]);have q6:(cd D P l k).drop 4=(l.drop pl).take sz:=by unfold cd;rw[Xj D0,WT D0,kx,hs];rfl
      obtain⟨x',q3⟩:=nM (P.getD (k+1) 0);rw[q3]at q0;have y9:x'<4294967296:=by
       rw[<-q3];by_cases h9:k+1<P.length;.have:=a.o.1.nb _ (ik h9);have h8:=HK.o.2.1;omega
       .simp[Ub,Vn (by omega:P.length<=k+1)]
      have qo:gx (be x' 4)=x':=mr x' 4 V V;obtain⟨page,hr⟩:=nM (cd D P l k);rw[hr]at kb q0 q6 V' he;have b:cL (RpD w wr.drew w5 r v x g A.n p D L G Kind ps' A F sk pl k sz x' pb po pc pa u5 page l P _):=ak ⟨kb,k8,k6,he,V',q0,q6,by cases h8:(Value.slice pa pl pc).ownBlock with|none=>exact .inl rfl|some q=>refine .inr λe=>?_;obtain⟨cur,hf⟩:=bJ k8 h8;exact bN k6 hf ec e.symm,λe=>by obtain⟨cur,hf⟩:=bJ k5 e;have:=(TX.1 hf).1;omega,λe=>by obtain⟨cur,hf⟩:=bJ k7 e;have:=(TX.1 hf).1;omega,hs⟩;have HX:=al J' q3;clear kb k8 k6 he V' qa q3 J' x2 k0 k7 k5 hs x3 h7 x5 kg xg HR q0 q6 hr;have ya:IntKind.i64.wrap (x':Int)=(x':Int):=l7;have xy:sk<=1000000:=V;by_cases xx:sk=0;subst xx;rotate_left;all_goals(
       go_wp2_with(first|(show wpList _ _ _ ({dst:=J 57,op:=_,type:=_,pos:=_,after:=_,guard:=_}::_) _ _;refine Yy _ rfl (Z1 54) (Z1 56) 45 rfl w.heap.size 3 ii (I O 0) 1 8 Yh xn qf qg qh rfl ec u5 k (kY (P.take k)) rfl (by exact b.o.pg5.alloc _) ⟨w5.heap.size,0,U⟩ 1 1 _ rfl rfl (oZ w5 _ _) (by intro u hu;simp at hu;subst hu;rfl) eD V ek ?_;intro v6 w6 x9 kh xm q7;have N:=aE x9 kh ((b.o.pk5.alloc _).kept kh b.o.bq) ((b.o.cell.alloc _).grown kh b.o.pq);have xi:=kh.size;clear x9 kh xm q7)|(show wpList _ _ _ ({dst:=J 61,op:=_,type:=_,pos:=_,after:=_,guard:=_}::_) _ _;(first|(refine af _ rfl (Z1 58) (Z1 60) 36 36 rfl w.heap.size 5 ib (I .u8 0) 1 1 Ur x6 ki kj kk rfl (.slice pa pl pc) pl (aL (l.take pl)) um (by exact N.o.2.2.1) _ um 0 ([]) (by exact KQ.src0) eD V (by simp at xi;omega) ?_)|(refine af _ rfl (Z1 58) (Z1 60) 36 36 rfl w.heap.size 5 ib (I .u8 0) 1 1 Ur x6 ki kj kk rfl (.slice pa pl pc) pl (aL (l.take pl)) um (by exact N.o.2.2.1) _ um sk (aL (page.drop 4)) (by exact N.o.2.2.2.src b.o.len) eD V (by simp at xi;omega) ?_));intro v7 w7 xa qd q8;have H7:=au xa qd (N.o.2.2.2.grown qd b.o.pp);clear xa qd q8));refine(AO _ (be x' 4) w7 (H7.o.2.2.head V V b.o.pg1)).mono ?_;rintro e w8⟨rfl,M⟩;obtain rfl:w7=w8:=M.symm;clear M;rw[qo];go_wp2;go_roundw;case rel=>obtain⟨C,hK,c,ky⟩:=T.o;rw[b.o.mul]at C;exact⟨k+1,V,eT,by rw[HX.o.2],Oi C hK b.o.dt Y hv.re c ky V V (by rw[a.o.2.2.2];exact qk) HX.o.1 b.o.pg5 N.o.1 N.o.2.1 N.o.2.2.1 (by have h9:=H7.o.1;rw[<-b.o.pg2];first|exact h9|(rw[show page.drop 4=[]from Yf.1 (by rw[Un,b.o.len])];exact h9)) H7.o.2.1 b.o.mul xe qj⟩
       case measure=>simp[intOf];omega)
   . have xo:k=K:=V;subst xo;have T:=ak C;clear C;go_wp2;go_ret3;obtain⟨B,kr,_,_,qi,hh,Z,_⟩:=T.o;obtain⟨hK,z,h,_⟩:=HK.o;rw[YJ h,UM (by rw[a.o.2.1];exact h)]at B;rw[UM (by rw[a.o.2.2.2];exact TV _)]at kr;refine⟨qi,hh,Z,_,_,rfl,?_,by rw[a.o.2.2.2];exact kr⟩;rw[<-a.o.2.1]at B;exact Bs.Se B a.o.1.byt (by rw[a.o.2.1];omega)
end
def KR(h:w.ownsRow base 3 1 u n (kY l))(hll:l.length<=1000000){K:Nat->Prop}(hK:∀k,u.ownBlock=J k->K k):bt K w u l:=by
 have e:n=l.length:=by have:=h.1;unfold kY at this;rw[Uf,Wd]at this;omega
 rcases h.2 with⟨c,j⟩|⟨g,cap,cur,a,f,b,_⟩;.have:l=[]:=U2 V;subst this;rw[c];exact⟨U,0,rfl,T8 _,λh=>absurd rfl h⟩
 .refine⟨J ⟨g,0,U⟩,cap,by rw[a,e],hll,λ_=>⟨g,0,rfl,hK g T2,⟨_,_,_,b,ec⟩,λi d=>?_⟩⟩;have:=h.cells (g:=g) T2 i (I O ((l[i]:Nat):Int)) (by unfold kY;simp[d]);rw[kl]at this;rw[Uj];exact this
structure QC(w:ZT)(ar v p D L G t:Nat)(Kind:aN->Prop)(ps:aN)(P:a7)(xs:aF)(A:an)(F:aC)(e:ZQ)(w':ZT):Prop where
 out:aa (λj=>F.S j\/j=v\/ps.bl j\/j=ar) w w'
 ans:∃ps' pg ob,e=Z3 .nilIface/\(Kind ps'/\∀k,ps'.bl k->ps.bl k\/w.heap.size<=k)/\(bh w' ar v D L G t (P.getD 0 0) (aw xs.os).length pg ob ZU/\qP w' v p D L G ps'.ps ps'.ho A F)/\∀B w'',ay w'' p B F->aa F.S w' w''->eI A B->aX B D L G t P xs->aP w'' ar v p ps' D L G t pg ob P xs B F
def ace{xs:aF}(h:eu A D L G t P xs):Rk A D L G P (aw xs.os):=⟨h.page,h.disk.pl,λx a=>(h.SZ x (UB _ a)).2,ia h.room,qC _⟩
theorem tD{Kind:aN->Prop}{ps:aN}{xs:aF}(ho:nP w ar v p ps D L G A F)(O':bh w ar v D' L' G' t f nn pg ob ZU)(hv:xD D L G Kind ps)(ks:A.nb<=1000)(qh:t1<=1000000)(h:eu A D L G t1 P xs):ZR ZO 147 #[Z6 (J ⟨ar,0,U⟩),.agg (aq D L G t1 (P.getD 0 0) (aw xs.os).length)] w (QC w ar v p D L G t1 Kind ps P xs A F):=by
 have hs:∀k,F.S k->k<w.heap.size:=λk a=>ho.vol.arr.RL a;have q8:=ho.arl;have qa:=ho.vol.par.d1;have qb:=ho.vol.par.d;have hP:=ace h;have qf:=wM h.disk.fits;have kx:=h.room;have hU:EF D (aw xs.os) xs.os:=BW D ⟨qa,V⟩ (λo ho=>by obtain⟨x,hx,rfl⟩:=T9.1 ho;exact(h.disk.fits x hx).fit) (λo ho=>by obtain⟨x,hx,rfl⟩:=T9.1 ho;exact(h.disk.fits x hx).st) (BD Zq) V;have kj:(tk A.nb (P++ah xs.os)).2=ZV:=(MQ h.disk.nod h.SZ).1;obtain⟨f1,kb⟩:=nM (P.getD 0 0);obtain⟨n1,kc⟩:=nM ((aw xs.os).length);have ka:(w.alloc (Z4 (aq D L G t1 f1 n1) 132)).heap[w.heap.size]?=J (Z4 (aq D L G t1 f1 n1) 132 (0,0)):=Ug _ _;have H:bW w (w.alloc (Z4 (aq D L G t1 f1 n1) 132)):=bA w _;have km:(w.alloc (Z4 (aq D L G t1 f1 n1) 132)).heap.size=w.heap.size+1:=ej;obtain⟨w1,q3⟩:=nM (w.alloc (Z4 (aq D L G t1 f1 n1) 132));rw[q3]at ka H km;have k8:=O'.keep (H.block _ O'.lt);have T:=ho.below H;have ky:=yE (D1:=D) (L1:=L) (G1:=G) (t1:=t1) T k8 hv ks hP;rw[kb,kc]at ky⊢;have V':=a6 k8 T ka H km ky;have qj:w.alloc (Z4 #[I O D,I O L,I O G,I Z8 t1,I O f1,I O n1] 132)=w1:=q3;have y:=hide8 ho O' hs h hU kj kb kc;show ZR ZO 147 #[Z6 (J ⟨ar,0,U⟩),.agg #[I O D,I O L,I O G,I Z8 t1,I O f1,I O n1]] w _;go_enter func147,ntmps147;go_wp2_with(show wpList _ _ _ ({dst:=J 14,op:=_,type:=_,pos:=_,after:=_,guard:=_}::_) _ _;refine lL (D:=D) (L:=L) (G:=G) (t:=t1) (f:=f1) (n:=n1) (b:=w.heap.size) rfl (Z1 3) rfl rfl um (by exact V'.o.2.2.1) ?_);refine V'.o.2.2.2.2.2.mono ?_;intro e w2 r;obtain⟨k8,T,ka,H,km,hx⟩:=V'.o;have kg:=r.arr;obtain⟨ps',E⟩:=r.kit;have u:=T.got r.out kg E;have I':=T.arc r.out k8;have q7:aa (λj=>F.S j\/j=v\/ps.bl j) w w2:=(aa.RK H _).trans r.out;have Z:aa (λj=>F.S j\/j=v\/ps.bl j\/j=ar) w w2:=q7.mono λj _ q=>by
  rcases q with q|q|q;.exact .inl q
  .exact .inr (.inl q)
  .exact .inr (.inr (.inl q))
 obtain⟨up,uq,rfl,kr,C⟩:=r.ans;have N:w2.heap[w.heap.size]?=J (Z4 (aq D L G t1 f1 n1) 132 (0,0)):=(r.out.block _ V (λq=>by
  rcases q with q|q|q;.have:=y.o.2.2.1 _ q;omega
  .have:=y.o.1.vol.vol.lt;omega
  .have:=ps.lt _ y.o.1.kit _ q;omega)).trans ka;obtain⟨d0,_⟩:=I'.cells;have kz:=dY u.vol.vol V;have q0:=y.o.2.2.2.2.1 w2 up kr;obtain⟨qy,Y⟩:=nM (D*44);rw[Y]at kz q0;have qx:=r.out.size;obtain⟨qz,uc,k6,_⟩:=id kr;rw[y.o.2.2.2.2.2.2.2]at k6;obtain⟨l,U',k7⟩:=bu C;obtain⟨M,k9⟩:=nM (P.length);rw[k9]at k7;have K:=hide10 I' u N kz q0 C Z E k9 Y;subst k6;subst k7;go_wp2_with fail;refine K.o.2.2.2.1.mono ?_;rintro e w3⟨rfl,qm⟩;obtain rfl:w2=w3:=qm.symm;go_wp2_with fail;refine K.o.2.2.2.2.1.mono ?_;rintro e w3⟨o,rfl,hf,s⟩;obtain⟨I',u,N,qn,qo,C,Z,E,k9,Y⟩:=K.o;have ko:=I'.keep (s.block _ I'.lt);have c:=u.below s;have ke:aa (λj=>F.S j\/j=v\/ps.bl j\/j=ar) w w3:=Z.trans (aa.RK s _);obtain⟨m,oc,kv,_⟩:=id hf;have kh:=(s.block _ (TX.1 N).1).trans N;have qi:=ko.there;have R:=D3 (D:=D) (L:=L) (G:=G) (t:=t1) (f:=f1) (n:=n1) ko;have ha:aa (λk=>k=ar) w3 (w3.setCells ar 1 (aq D L G t1 f1 n1).toList):=aa.setCells _ ar 1 _ rfl;obtain⟨w8,q4⟩:=nM (w3.setCells ar 1 (aq D L G t1 f1 n1).toList);rw[q4]at R ha;obtain⟨c7,f7,c8,f8⟩:=R.tail;have qp:=s.size;have W:=hide9 R ha qi kh q4 ke hf c s;obtain⟨no,qe⟩:=nM (xs.os.length);rw[qe]at kv;subst kv;go_wp2_with(first|(show wpList _ _ _ ({dst:=J 38,op:=_,type:=_,pos:=_,after:=_,guard:=_}::_) _ _;refine lL (D:=D) (L:=L) (G:=G) (t:=t1) (f:=f1) (n:=n1) (b:=w.heap.size) rfl (Z1 3) rfl rfl um (by exact W.o.2.2.2.1) ?_)|(show wpList _ _ _ ({dst:=U,op:=Op.store 132 (Z1 42) (Z1 38),type:=_,pos:=_,after:=_,guard:=_}::_) _ _;refine wpList_store_mid rfl 132 (Z1 42) (Z1 38) rfl ar 1 (aq D L G t1 f1 n1) um um (by exact W.o.2.2.1) (lK _ _ _ _ _ _) (rV _ _ _ _ _ _) ?_;rw[W.o.2.2.2.2.1]));obtain⟨R,ha,qn,qo,qv,ke,hf,c,s⟩:=W.o;obtain⟨I',u,N,_,_,C,Z,E,k9,Y⟩:=K.o;obtain⟨ho,O',hs,h,_,kj,_⟩:=y.o;have J':=R.late (.slice l M U') (.slice m no oc);have g:aa (λk=>k=ar) w3 ((w8.setCell ⟨ar,7,U⟩ (.slice l M U')).setCell ⟨ar,8,U⟩ (.slice m no oc)):=(ha.trans (aa.setCell _ _ _ rfl)).trans (aa.setCell _ _ _ rfl);obtain⟨w9,qk⟩:=nM ((w8.setCell ⟨ar,7,U⟩ (.slice l M U')).setCell ⟨ar,8,U⟩ (.slice m no oc));rw[qk]at J' g⊢;have kk:v≠ar:=ia ho.vlt;have hr:nP w9 ar v p ps' D L G A F:=by have qs:=c.vlt;exact{c with vol:={c.vol with vol:=c.vol.vol.keep (g.block _ c.vol.vol.lt kk),arr:=c.vol.arr.keep λk a=>g.block k (c.vol.arr.RL a) (λe=>c.nar (e▸a)),laid:=c.vol.laid.keep (g.block _ c.vol.laid.lt V),tab:=c.vol.tab.keep (g.block _ c.vol.tab.lt V),room:=TU c.vol.room g.size},arl:=TY c.arl g.size,kit:=ps'.keep _ _ c.kit λk a=>g.block k (ps'.lt _ c.kit k a) (c.apt k a).2.1}
 have ki:bt (λk=>w.heap.size<k/\¬ps'.bl k) w2 (.slice l M U') P:=KR C (ia h.room) (λk a=>⟨ia (eO C a),by obtain⟨cur,hc⟩:=bJ C a;exact cI u.kit hc GY⟩);have hg:bt (λk=>w.heap.size<k/\¬ps'.bl k) w9 (.slice l M U') P:=ki.keep ⟨TU qp g.size,λk a qd=>(g.block k V (λe=>V)).trans (s.block k a)⟩;have X:fA (λk=>w2.heap.size<=k) w9 (.slice m no oc) xs.os:=hf.keep ⟨g.size,λk a qd=>g.block k a (λe=>V)⟩;have kf:aa (λj=>F.S j\/j=v\/ps.bl j\/j=ar) w w9:=ke.trans (g.mono λ_ _ q=>.inr (.inr (.inr q)));have k5:=zL J' hr.vol.vol hr.vol.arr (ia hr.vol.n) P xs.os hg.ltS X.ltS;rw[kj]at k5;have H9:=a6 k5 J' hr hg X kf;refine H9.o.1.mono ?_;rintro e qr⟨gt,rfl,qq,qg,z⟩;have q5:=ak z;obtain⟨NB,q6⟩:=nM (A.nb);rw[q6];go_wp2;go_ret;obtain⟨_,J',hr,hg,X,kf⟩:=H9.o;obtain⟨_,u,_,_,_,_,_,E,_⟩:=K.o;obtain⟨ho,O',hs,h,_,_,kb,kc⟩:=y.o;have z:=q5.out;have i:=hr.below z;have H:=V'.o.2.2.2.2.1;have he:=J'.keep (z.block _ J'.lt);rw[<-kb,<-kc]at he;have k0:=(hg.keep (eW.RM z)).wk (K':=λk=>ar<k/\¬F.S k/\¬ps'.bl k) λk a _=>⟨V,λe=>ia (hs k e),a.2⟩;have hn:=(X.keep (eW.RM z)).wk (K':=λk=>ar<k/\¬F.S k/\¬ps'.bl k) λk a _=>⟨V,λe=>ia (hs k e),λe=>ia (ps'.lt _ u.kit _ e)⟩;refine⟨kf.trans (aa.RK z _),ps',_,_,rfl,⟨E.kind,λk a=>(E.bl k a).imp id λq=>V⟩,⟨he,i.vol⟩,λB hb hB Q a q9=>?_⟩;have kp:eW (λk=>ar<k/\¬F.S k/\¬ps'.bl k) qr hb:=⟨Q.size,λk q1 q2=>Q.block k q1 q2.2.1⟩;exact{arc:=he.keep (Q.block _ he.lt i.nar),vol:=i.vol.turn Q hB a.n,nar:=i.nar,vlt:=i.vlt,disk:=q9,pgs:=k0.keep kp,cat:=hn.keep kp,nb:=a.nb▸ks,turn:=qh,kit:=ps'.keep _ _ i.kit λk q=>Q.block k (ps'.lt _ i.kit k q) (i.apt k q).2.2.2,apt:=i.apt,hl:=i.hl,fine:=a.fine i.fine}
structure acf(w:ZT)(ar v p D L G t:Nat)(Kind:aN->Prop)(ps:aN)(xs:aF)(A:an)(F:aC)(e:ZQ)(w':ZT):Prop where
 out:aa (λj=>F.S j\/j=v\/ps.bl j\/j=ar) w w'
 ans:∃ps' pg ob P B,e=Z3 .nilIface/\(Kind ps'/\∀k,ps'.bl k->ps.bl k\/w.heap.size<=k)/\eI A B/\aP w' ar v p ps' D L G t pg ob P xs B F
def Aw(D L G t:Nat)(xs:aF)(A B:an):Prop:=(∃P,eu B D L G t P xs)/\Qd A B/\B.sv=A.sv
def Oj(w:ZT)(ar v p D L G t:Nat)(Kind:aN->Prop)(ps:aN)(xs:aF)(A:an)(F:aC)(e:ZQ)(w':ZT):Prop:=acf w ar v p D L G t Kind ps xs A F e w'\/jY (λj=>F.S j\/j=v\/ps.bl j\/j=ar) w ar p F (Aw D L G t xs A) e w'
def jY.pan(h:jY S w ar p F C e w'):∃a,e=.panicked a:=h.2.1.elim λ_ q=>q.elim λ_ q=>q.elim λ_ q=>⟨_,q.1⟩
def jY.start(h:jY S w ar p F C e w')(a:aa S w0 w):jY S w0 ar p F C e w':=⟨h.1,h.2.1,h.2.2.1,a.trans h.2.2.2.1,h.2.2.2.2⟩
def nH(h:bh w ar v D L G t f n pg ob off):w.cell? ⟨ar,0,U⟩=J (Z6 (J ⟨v,0,U⟩)):=h.cells.1
def B3(h:bz w v p D L G ps ho):w.cell? ⟨v,5,U⟩=J (I Z8 ho)/\w.frozen? ⟨v,5,U⟩=ZU:=by have a:w.heap[v]?=J (Z4 #[Z6 (J ⟨p,0,U⟩),I O D,I O L,I O G,Z6 (J ⟨ps,0,U⟩),I Z8 ho] 129 (0,0)):=h;simp[World.cell?,World.frozen?,a]
def acg(h:bz w v p D L G ps ho)(x:Nat):bz (w.setCell ⟨v,5,U⟩ (I Z8 x)) v p D L G ps x:=ai (j:=5) h (I Z8 x)
def nP.SK{ps:aN}(h:nP w ar v p ps D L G A F){b:Nat}(d:b<2^(D+L+G)):nP (w.setCell ⟨v,5,U⟩ (I Z8 (b:Nat))) ar v p (ps.SK b) D L G A F:=by have:=h.vlt;have a:aa (λk=>k=v) w (w.setCell ⟨v,5,U⟩ (I Z8 (b:Nat))):=aa.setCell _ _ _ rfl;exact{h with vol:={h.vol with vol:=acg h.vol.vol b,arr:=h.vol.arr.keep λk c=>a.block k (h.vol.arr.RL c) (λe=>h.vol.v (e▸c)),laid:=h.vol.laid.keep (a.block _ h.vol.laid.lt V),tab:=h.vol.tab.keep (a.block _ h.vol.tab.lt V),room:=TU h.vol.room a.size},arl:=TY h.arl a.size,kit:=ps.keep _ _ h.kit λk c=>a.block k (ps.lt _ h.kit k c) (h.apt k c).2.2.1,hl:=d}
def nP.same{ps:aN}(h:nP w ar v p ps D L G A F)(a:aa F.S w w')(c:ay w' p A F):nP w' ar v p ps D L G A F:={h with vol:=h.vol.turn a c rfl,arl:=TY h.arl a.size,kit:=ps.keep _ _ h.kit λk b=>a.block k (ps.lt _ h.kit k b) (h.apt k b).2.2.2}
def lS{S:Nat}(h:S<2^N){i:Nat}(b:i∈ae S):i<N:=by
 by_cases q:i<N;.exact q
 .have a:=(bL.1 b).2;rw[Ww (TY h (UY ec V))]at a;cases a
theorem GZ{Kind:aN->Prop}{ps:aN}{xs:aF}(ho:nP w ar v p ps D L G A F)(s:bh w ar v D' L' G' t f nn pg ob ZU)(W:xD D L G Kind ps)(kv:A.nb<=1000)(qg:t1<=1000000)(u:eu A D L G t1 P xs)(m:w.rowIs g 219 A.n (λi=>gy (A.RR i 0)))(k7:¬F.S g):ZR ZO 111 #[Z6 (J ⟨ar,0,U⟩),.agg (aq D L G t1 (P.getD 0 0) (aw xs.os).length),Z5 (J ⟨g,0,U⟩) A.n A.n] w (Oj w ar v p D L G t1 Kind ps xs A F):=by
 have Z:∀k,F.S k->k<w.heap.size:=λk hk=>ho.vol.arr.RL hk;have q4:=ho.arl;have q7:=ho.vol.par.d;have kh:A.n<=16:=by rw[ho.vol.n];exact ho.vol.par.s
 have qc:2<=A.nb:=ia u.room;obtain⟨f1,z⟩:=nM (P.getD 0 0);obtain⟨n1,J'⟩:=nM ((aw xs.os).length);rw[z,J'];have k6:(w.alloc (Z4 (aq D L G t1 f1 n1) 132)).heap[w.heap.size]?=J (Z4 (aq D L G t1 f1 n1) 132 (0,0)):=Ug _ _;have x:bW w (w.alloc (Z4 (aq D L G t1 f1 n1) 132)):=bA w _;have ka:(w.alloc (Z4 (aq D L G t1 f1 n1) 132)).heap.size=w.heap.size+1:=ej;obtain⟨w1,ky⟩:=nM (w.alloc (Z4 (aq D L G t1 f1 n1) 132));rw[ky]at k6 x ka;have hs:=s.keep (x.block _ s.lt);have hr:=ho.below x;have ki:=hr.below ((TW _ w1).drew);have qf:=jj ki.vol 1 V;obtain⟨H,kp⟩:=nM (cQ (λi=>A.RR i 1) A.n);have q5:H<2^(D+L+G):=by rw[<-kp,<-ho.vol.n];exact jq _ _ V
 have ca:=nH hs;have qi:w.alloc (Z4 #[I O D,I O L,I O G,I Z8 t1,I O f1,I O n1] 132)=w1:=ky;have h:=a6 hs hr k6 x ka qf;have HV:=hide8 ho s Z m k7 u z J';show ZR ZO 111 #[Z6 (J ⟨ar,0,U⟩),.agg #[I O D,I O L,I O G,I Z8 t1,I O f1,I O n1],Z5 (J ⟨g,0,U⟩) A.n A.n] w _;go_enter func111,ntmps111;go_upto_region 1 with fail;go_cut[19]from 8 to 18(λ_v c=>∃X,c=X.setCell ⟨v,5,U⟩ (I Z8 (H:Nat))/\ay X p A F/\aa F.S w1 X);case first=>go_region_with(first|(go_at_call 109;refine h.o.2.2.2.2.2.mono ?_;rintro e w2⟨g2,rfl,q9,hm,hg,kb⟩;have H2:=au hm hg kb;have qk:=nH (h.o.1.keep (kb.block _ h.o.1.lt h.o.2.1.nar));clear hm hg kb q9)|(go_at_call 113;refine(wE (λi=>A.RR i 1) V H2.o.1).mono ?_;rw[kp];rintro e w3⟨rfl,kf⟩;have k8:aa (F.S) w1.drew w3:=H2.o.2.2.trans (aa.RK kf _);have qm:=nH (h.o.1.keep (k8.block _ h.o.1.lt h.o.2.1.nar));obtain⟨qo,qp⟩:=B3 (h.o.2.1.vol.vol.keep (k8.block _ h.o.2.1.vol.vol.lt h.o.2.1.vol.v));have H3:=al kf k8;clear kf k8));all_goals(go_wp2_with fail;go_meet;case rel=>(exact⟨w3,rfl,H2.o.2.1.below H3.o.1 lR,(aa.drew w1).trans H3.o.2⟩))
 case rest=>
  obtain⟨X,rfl,k5,Q⟩:=hcut;obtain⟨hs,hr,k6,x,ka,_⟩:=h.o;obtain⟨ho,s,Z,m,k7,u,z,J'⟩:=HV.o;have k0:aa (λj=>F.S j\/j=v\/ps.bl j) w1 X:=Q.mono λ_ _ q=>.inl q;have qd:=hr.same Q k5;have kx:=qd.SK q5;have k9:aa (λk=>k=v) X (X.setCell ⟨v,5,U⟩ (I Z8 (H:Nat))):=aa.setCell _ _ _ rfl;have kj:v≠ar:=ia ho.vlt;have kk:=hr.arc k0 hs;have km:=kk.keep (k9.block _ kk.lt (λe=>kj e.symm));have V':(X.setCell ⟨v,5,U⟩ (I Z8 (H:Nat))).heap[w.heap.size]?=J (Z4 (aq D L G t1 f1 n1) 132 (0,0)):=(k9.block _ (ia Q.size) (ia ho.vol.vol.lt)).trans ((Q.block _ V (λe=>ia (Z _ e))).trans k6);have U':aa (λj=>F.S j\/j=v\/ps.bl j) w1 (X.setCell ⟨v,5,U⟩ (I Z8 (H:Nat))):=k0.trans (k9.mono λ_ _ q=>.inr (.inl q));have T:(X.setCell ⟨v,5,U⟩ (I Z8 (H:Nat))).rowIs g 219 A.n (λi=>gy (A.RR i 0)):=((m.of_block (x.block _ m.lt)).of_block (Q.block _ (ia m.lt) k7)).of_block (k9.block _ (by have:=m.lt;have:=Q.size;omega) (λe=>by obtain⟨cs,K,_⟩:=m;have h2:=ho.vol.vol;rw[<-e]at h2;have l:w.heap[g]?=J (Z4 #[Z6 (J ⟨p,0,U⟩),I O D,I O L,I O G,Z6 (J ⟨ps.ps,0,U⟩),I Z8 ps.ho] 129 (0,0)):=h2;rw[K]at l;simp only[UF,UT]at l;exact absurd l.2.1 ec));obtain⟨Y,hY⟩:=nM (X.setCell ⟨v,5,U⟩ (I Z8 (H:Nat)));rw[hY]at kx km V' U' T⊢;have ks:=tD (t1:=t1) kx km (⟨W.sh,W.re,W.pk,W.re _ _ W.kind⟩:xD D L G Kind (ps.SK H)) kv qg u;rw[z,J']at ks;have HL:=aE ks V' U' T;go_wp2_with(show wpList _ _ _ ({dst:=J 21,op:=_,type:=_,pos:=_,after:=_,guard:=_}::_) _ _;refine lL (D:=D) (L:=L) (G:=G) (t:=t1) (f:=f1) (n:=n1) (b:=w.heap.size) rfl (Z1 4) rfl rfl um (by exact HL.o.2.1) ?_);refine HL.o.1.mono ?_;rintro e a⟨kc,ke⟩;obtain⟨_,V',U',T⟩:=HL.o;obtain⟨ho,s,Z,m,k7,u,z,J'⟩:=HV.o;obtain⟨hs,hr,k6,x,ka,_⟩:=h.o;have hz:aa (λj=>F.S j\/j=v\/ps.bl j\/j=ar) w a:=((aa.RK x _).trans (U'.mono λj _ q=>by
   rcases q with q|q|q;.exact .inl q
   .exact .inr (.inl q)
   .exact .inr (.inr (.inl q)))).trans kc;obtain⟨E,qj,hb,rfl,kr,⟨hf,q3⟩,kg⟩:=ke;have kz:cL (∀k,E.bl k->ps.bl k\/w.heap.size<=k):=ak λk hk=>(kr.2 k hk).imp id λq=>TU (TU x.size U'.size) q;have qa:a.rowIs g 219 A.n (λi=>gy (A.RR i 0)):=T.of_block (kc.block _ T.lt (λq=>by
   rcases q with q|q|q|q;.exact k7 q
   .obtain⟨cs,K,_⟩:=m;have l:w.heap[v]?=J (Z4 #[Z6 (J ⟨p,0,U⟩),I O D,I O L,I O G,Z6 (J ⟨ps.ps,0,U⟩),I Z8 ps.ho] 129 (0,0)):=ho.vol.vol;rw[<-q,K]at l;simp only[UF,UT]at l;exact absurd l.2.1 ec
   .obtain⟨cs,K,_⟩:=m;exact cI ho.kit K vm q
   .obtain⟨cs,K,_⟩:=m;have l:w.heap[ar]?=J (Z4 _ 136 (0,0)):=s;rw[<-q,K]at l;simp only[UF,UT]at l;exact absurd l.2.1 ec));have N:a.heap[w.heap.size]?=J (Z4 (aq D L G t1 f1 n1) 132 (0,0)):=(kc.block _ (TX.1 V').1 (λq=>by
   rcases q with q|q|q|q;.have:=Z _ q;omega
   .have:=ho.vol.vol.lt;omega
   .have q':ps.bl w.heap.size:=q;have:=ps.lt _ ho.kit _ q';omega
   .omega)).trans V';have qh:=wU (w:=a.drew) (R:=λi=>A.RR i 0) (r:=.root D L G t1 f1 n1) V trivial (λi o=>by rw[<-z,<-J'];exact u.root i o) (qa.of_block rfl);have qe:(bF.root D L G t1 f1 n1).ok:=by
   have h1:=ho.vol.par.d;have h2:=ho.vol.par.l4;have l:=ho.vol.par.g;have h4:=u.disk.packL_le ho.vol.par.d1 kv;have h5:f1<A.nb:=by rw[<-z];exact(u.SZ _ (UB _ (ik (by rw[u.disk.pl];unfold pgs;omega)))).2
   exact⟨V,V,V,V,V,V⟩
  have q8:∀y,Lb A.n (λi=>A.RR i 0) (.root D L G t1 f1 n1) y->∀c,ay c p (A.putAt (ae y) 0 (λ_=>.root D L G t1 f1 n1)) F->aa F.S a c->∃B,eI A B/\aP c ar v p E D L G t1 qj hb P xs B F:=λy C c hB hO=>by
   rw[<-z,<-J']at hB C;refine⟨_,eI.put _ _ _ _,kg _ c hB hO (eI.put _ _ _ _) (u.put λi o hn=>?_)⟩;by_cases q:A.RR i 0=J (kR D L G t1 P xs);.exact q
   .exact absurd (bL.2 ⟨V,(C.2 i o).2 q⟩) hn
  have q6:∀y,Lb A.n (λi=>A.RR i 0) (.root D L G t1 f1 n1) y->∀e c,bC a.drew p F (iG A (ae y) 0 λ_=>.root D L G t1 f1 n1) e c->jY (λj=>F.S j\/j=v\/ps.bl j\/j=ar) w ar p F (Aw D L G t1 xs A) e c:=λy C e c hc=>by rw[<-z,<-J']at hc C;refine(hc.mono λB q=>?_).into (hz.trans (aa.drew a)) (λ_=>.inl) (hf.keep (w':=a.drew) rfl) ho.nar;obtain⟨q1,q2⟩:=u.RY (λi o=>(C.2 i (lS C.1 o)).1 (bL.1 o).2) q;exact⟨⟨P,q1⟩,q2⟩
  have z0:a.cell? ⟨w.heap.size,0,U⟩=J (I O D):=T3;have z1:a.cell? ⟨w.heap.size,1,U⟩=J (I O L):=T3;have z2:a.cell? ⟨w.heap.size,2,U⟩=J (I O G):=T3;have z3:a.cell? ⟨w.heap.size,3,U⟩=J (I Z8 t1):=T3;have z4:a.cell? ⟨w.heap.size,4,U⟩=J (I O f1):=T3;have z5:a.cell? ⟨w.heap.size,5,U⟩=J (I O n1):=T3;have qn:=nH hf;have M:=a6 q3 qh qe hz q8 q6;go_upto_region 5 with fail;go_cut[36]from 26 to 35(λ_v c=>(∃B,eI A B/\aP c ar v p E D L G t1 qj hb P xs B F)/\aa F.S a c);case first=>go_region_with(first|(go_at_call 126;refine M.o.2.1.mono ?_;rintro e w5⟨y,rfl,C,rfl⟩;have HY:=ak C;clear C)|(go_at_call 127;refine(fJ (M.o.1.below ((TW _ a).drew) lR) 0 y V (TY HY.o.1 (gZ kh)) (λi o=>lS HY.o.1 o) (.root D L G t1 f1 n1) M.o.2.2.1).mono ?_;rintro e w6(⟨rfl,hh,ko⟩|hcut);rotate_left;(obtain⟨ch,rfl⟩:=hcut.pan;exact⟨rfl,.inr (M.o.2.2.2.2.2 y HY.o _ _ hcut)⟩);have H6:=al hh ko;clear hh ko));all_goals(go_wp2_with fail;go_meet;case rel=>exact⟨M.o.2.2.2.2.1 y HY.o _ H6.o.1 ((aa.drew a).trans H6.o.2),(aa.drew a).trans H6.o.2⟩)
  case rest=>have HF:=ak hcut;go_wp2;go_ret;obtain⟨⟨B,hB,qb⟩,q0⟩:=HF.o;exact .inl ⟨M.o.2.2.2.1.trans (q0.mono λ_ _ q=>.inl q),⟨E,_,_,_,B,rfl,⟨kr.1,kz.out⟩,hB,qb⟩⟩
theorem IP(h:ay w p A F)(k:Nat)(i:k<200):ZR ZO 37 #[Z6 (J ⟨p,0,U⟩),I O k] w λe w'=>e=Z3 (ZZ #[])/\ay w' p A {F with pw:=ZU}/\aa F.S w w':=by
 obtain⟨R,b,d⟩:=h;obtain⟨_,j,c1,_⟩:=b.RN;have f1:w.frozen? ⟨p,1,U⟩=ZU:=by obtain⟨_,f,_⟩:=b.top;simp[World.frozen?,f]
 have g:∀a c w,(Builtin.max_ a c #[I O k,I O 0]).run ZO w=.ok (I O k) w:=λa c w=>by rw[mx,TS V]
 have H:=au (b.wait (x:=(k:Int)+1) (t:=ZU) V V nofun) d b.sp;go_enter func37,ntmps37;go_wp2;first|go_end0|skip
 exact⟨rfl,⟨R,H.o.1,H.o.2.1⟩,aa.setCell _ _ _ H.o.2.2⟩
theorem qK{wt:Int}(c1:w.cell? ⟨p,1,U⟩=J (I O wt))(f1:w.frozen? ⟨p,1,U⟩=ZU):ZR ZO 41 #[Z6 (J ⟨p,0,U⟩)] w λe w'=>e=Z3 (ZZ #[])/\w'=w.setCell ⟨p,1,U⟩ (I O (-1)):=by
 go_enter func41,ntmps41;go_wp2;first|go_end0|skip
 exact⟨rfl,rfl⟩
def Ay(w:ZT)(p:Nat)(A:an)(F:aC):Prop:=ay w p A F\/ix w p A F
def jH(h:Ay w p A F):ZR ZO 41 #[Z6 (J ⟨p,0,U⟩)] w λe w'=>e=Z3 (ZZ #[])/\ay w' p A {F with pw:=ZV}/\aa F.S w w':=by
 rcases h with⟨R,a,c⟩|⟨R,⟨c1,a⟩,c⟩;.obtain⟨_,d,c1,_⟩:=a.RN;refine(qK c1 (by obtain⟨_,b,_⟩:=a.top;simp[World.frozen?,b])).mono ?_;rintro e w'⟨rfl,rfl⟩;exact⟨rfl,⟨R,a.wait ec ec λ_=>rfl,c⟩,aa.setCell _ _ _ a.sp⟩
 . have f1:w.frozen? ⟨p,1,U⟩=ZU:=by obtain⟨_,b,_⟩:=a.top;simp only[World.setCell,Vb,if_true]at b;cases hp:w.heap[p]? with|none=>simp[hp]at b|some o=>cases o with|cells cs T z=>simp[hp]at b;simp[World.frozen?,hp,b.2.2]|_=>simp[hp]at b
   refine(qK c1 f1).mono ?_;rintro e w'⟨rfl,rfl⟩;exact⟨rfl,⟨R,a,c⟩,aa.setCell _ _ _ a.sp⟩
def aP.repw{ps:aN}{xs:aF}{pw:Bool}(h:aP w ar v p ps D L G t pg ob P xs A F)(b:ay w' p A {F with pw:=pw})(hO:aa F.S w w'):aP w' ar v p ps D L G t pg ob P xs A {F with pw:=pw}:=by have a:eW (λk=>ar<k/\¬F.S k/\¬ps.bl k) w w':=⟨hO.size,λk c d=>hO.block k c d.2.1⟩;exact{arc:=h.arc.keep (hO.block _ h.arc.lt h.nar),vol:={vol:=h.vol.vol.keep (hO.block _ h.vol.vol.lt h.vol.v),arr:=b,laid:=h.vol.laid.keep (hO.block _ h.vol.laid.lt h.vol.g),tab:=h.vol.tab.keep (hO.block _ h.vol.tab.lt h.vol.t),room:=TU h.vol.room hO.size,v:=h.vol.v,g:=h.vol.g,t:=h.vol.t,n:=h.vol.n,par:=h.vol.par},nar:=h.nar,vlt:=h.vlt,disk:=h.disk,pgs:=h.pgs.keep a,cat:=h.cat.keep a,nb:=h.nb,turn:=h.turn,kit:=ps.keep _ _ h.kit λk q=>hO.block k (ps.lt _ h.kit k q) (h.apt k q).2.2.2,apt:=h.apt,hl:=h.hl,fine:=h.fine}
def qu.below(h:qu w ar)(a:bW w w'):qu w' ar:=h.imp λ_ q=>⟨(a.block _ (TX.1 q.1).1).trans q.1,q.2⟩
theorem sZ(h:qu w ar)(c:ZS)(g:∃k a b,c=.func k a b):ZR ZO 59 #[Z6 (J ⟨ar,0,U⟩),c] w λe w'=>e=Z3 (eh 13)/\w'=w:=by
 obtain⟨cs,d,f⟩:=h;obtain⟨k,a,b,rfl⟩:=g;have i:w.cell? ⟨ar,9,U⟩=J (.bool ZV):=by simp[World.cell?,d,f]
 go_enter func59,ntmps59;go_wp2;go_ret;exact⟨rfl,rfl⟩
theorem QD(h:qu w ar)(hs:ZP w sa 104 (Z6 (J ⟨ar,0,U⟩)))(x:ByteArray):ZR ZO 39 #[Z6 (J ⟨sa,0,U⟩),Z0 x,Z5 U 0 0] w λe w'=>e=Z3 (eh 13)/\bW w w':=by
 have f:ZR ZO 56 #[Z6 (J ⟨ar,0,U⟩),Z0 x,Z5 U 0 0] w λe w'=>e=Z3 (eh 13)/\bW w w':=by
  obtain⟨w3,b⟩:=nM (((w.alloc (Z4 #[Z6 (J ⟨ar,0,U⟩)] 102)).alloc (Z4 #[Z0 x] 9)).alloc (Z4 #[Z5 U 0 0] 36));have d:ZP w3 w.heap.size 102 (Z6 (J ⟨ar,0,U⟩)):=by rw[<-b];exact((Us w _ _).alloc _).alloc _
  have a:bW w w3:=by rw[<-b];exact((bA w _).alloc ej _).alloc ek _
  have c1:=d.cell;have j:=λc i=>sZ (h.below a) c i;have H:=al j a;go_enter func56,ntmps56;go_wp2_with fail;refine(H.o.1 _ ⟨_,_,_,rfl⟩).mono ?_;rintro e w'⟨rfl,rfl⟩;unfold eh;go_wp2;go_ret;exact⟨rfl,H.o.2⟩
 have cs:=hs.cell;go_enter func39,ntmps39;go_wp2_with fail;refine f.mono ?_;rintro e w'⟨rfl,g⟩;have H:=ak g;unfold eh;go_wp2;go_ret;exact⟨rfl,H.o⟩
theorem QE(h:qu w ar)(hs:ZP w sa 104 (Z6 (J ⟨ar,0,U⟩)))(x:ByteArray):ZR ZO 22 #[Z6 (J ⟨sa,0,U⟩),Z0 x] w λe w'=>e=Z3 (ZZ #[Z5 U 0 0,eh 13])/\bW w w':=by
 have i:ZR ZO 48 #[Z6 (J ⟨ar,0,U⟩),Z0 x] w λe w'=>e=Z3 (ZZ #[Z5 U 0 0,eh 13])/\bW w w':=by
  obtain⟨w3,a⟩:=nM (((w.alloc (Z4 #[Z6 (J ⟨ar,0,U⟩)] 102)).alloc (Z4 #[Z0 x] 9)).alloc (Z4 #[Z5 U 0 0] 36));have g:ZP w3 w.heap.size 102 (Z6 (J ⟨ar,0,U⟩)):=by rw[<-a];exact((Us w _ _).alloc _).alloc _
  have b:ZP w3 (w.heap.size+1+1) 36 (Z5 U 0 0):=by have:=Us ((w.alloc (Z4 #[Z6 (J ⟨ar,0,U⟩)] 102)).alloc (Z4 #[Z0 x] 9)) 36 (Z5 U 0 0);simp only[Um]at this;rw[<-a];exact this
  have c:bW w w3:=by rw[<-a];exact((bA w _).alloc ej _).alloc ek _
  have c1:=g.cell;have m:=b.cell;have n:=b.frozen;have l:=λf k=>sZ (h.below c) f k;have H:=au l c b;go_enter func48,ntmps48;go_wp2_with fail;refine(H.o.1 _ ⟨_,_,_,rfl⟩).mono ?_;rintro e w'⟨rfl,rfl⟩;unfold eh;go_wp2;have d:=(H.o.2.2.set (Z5 U 0 0)).cell;refine Uv (v:=ZZ #[Z5 U 0 0,eh 13]) (by simp[results,results48,go_sem,d,eh]) rfl ⟨rfl,H.o.2.1.setCell (p:=⟨w.heap.size+1+1,0,U⟩) Wb _⟩
 have cs:=hs.cell;go_enter func22,ntmps22;go_wp2_with fail;refine i.mono ?_;rintro e w'⟨rfl,j⟩;have H:=ak j;unfold eh;go_wp2;go_ret2;exact⟨rfl,H.o⟩
def nQ(cf:FuncId)(cp:Array ZS):ZS:=.func (.func cf) #[] cp
def Cho(cf:FuncId)(cp:Array ZS)(sg:Nat->Nat)(X:ZT):Prop:=∀bd:Nat,ZR ZO cf (#[I Z8 bd]++cp) X λe X'=>e=Z3 (I Z8 (sg bd:Nat))/\X'=X
def Ent(cf:FuncId):Prop:=∀(args:Array ZS)(w:ZT),(callFunc cf args).run ZO w=.ok (.enter cf args) w
theorem Ol{f:Nat->bF}(h:A.at b f){ds:a7}(a:∀i∈ds,i<A.n):(A.putAt ds b f).rc=A.rc:=funext λi=>funext λm=>by
 show(if m=b/\i∈ds then f i else A.rc i m)=_;split;. rename_i q;rw[q.1];exact(h i (a i q.2)).1.symm
 .rfl
def Sld(sg:Nat->Nat)(n i:Nat):Prop:=∀x,x<2^n->x.testBit i=ZV->(sg x).testBit i=ZV
def Hld(sg:Nat->Nat)(B:an)(b:Nat):Prop:=∀i,i<B.n->Sld sg B.n i->B.lost i=ZU->gnB B b i=ZU
def Hld.alk(h:Hld sg A b)(k:eI A B):Hld sg B b:=λi c hs hl=>W9.2 λe=>by have a:=k.gn b i e;rw[h i (k.n▸c) (k.n▸hs) (by rw[<-k.lost];exact hl)]at a;cases a
def IQ{f:Nat->bF}(g:A.n<=16)(h:x<2^A.n)(c:∀i,i<A.n->gnB A b i=ZV->x.testBit i=ZV):Hld sg (A.putAt (ae (sg x)) b f) b:=λi a hs hl=>W9.2 λe=>by have d:i∈ae (sg x):=bL.2 ⟨TY a g,hs x h (c i a (vN e))⟩;have hl:A.lost i=ZU:=hl;exact absurd (sQ d e) (by rw[hl];decide)
def m4(A B:an):Prop:=Qd A B/\B.rc=A.rc/\∃d,d<A.n/\∀b i,gnB B b i=ZV->gnB A b i=ZV\/i=d
theorem iG.md{f:Nat->bF}(h:iG A ds b f B)(a:∀i∈ds,A.rc i b=f i)(j:∀i∈ds,i<A.n):m4 A B:=by
 obtain⟨pre,d,c,g,_,rfl⟩:=h;refine⟨⟨rfl,rfl,rfl⟩,funext λi=>funext λm=>?_,d,j d g,λm i q=>?_⟩
 . show(if m=b/\i∈pre then f i else A.rc i m)=_;split;. rename_i q;rw[q.1];exact(a i (c i q.2)).symm
   .rfl
 by_cases e:i=d;.exact .inr e
 .refine .inl (vN (ds:=pre) (b:=b) (f:=f) ?_);simpa[gnB,an.RY,e]using q
def m4.alk{B0:an}(h:m4 B0 B)(k:eI A B0)(hr:B0.rc=A.rc):m4 A B:=⟨⟨h.1.n.trans k.n,h.1.nb.trans k.nb,h.1.lost.trans k.lost⟩,h.2.1.trans hr,h.2.2.imp λ_ q=>⟨k.n▸q.1,λb i e=>(q.2 b i e).imp (k.gn b i) id⟩⟩
theorem xF{ps:aN}{r:bF}(ho:nP w ar v p ps D L G A F)(l:bh w ar v D' L' G' t f nn pg ob ZU)(Y:Ent cf)(u:∀X,aa F.S w X->Cho cf cp sg X)(hq:∀x,x<2^A.n->sg x<2^A.n)(P:b<A.nb)(hr:r.ok)(m:N1 r)(k:A.at b λ_=>r):ZR ZO 86 #[Z6 (J ⟨ar,0,U⟩),I O b,ef r,nQ cf cp] w λe w'=>(∃ls:Nat,e=Z3 (I Z8 ls)/\ls<2^A.n/\(∃B,(eI A B/\B.rc=A.rc/\Hld sg B b)/\ay w' p B F)/\aa F.S w w')\/bC w p F (m4 A) e w':=by
 have s:A.n<=16:=by rw[ho.vol.n];exact ho.vol.par.s
 have h2:2^A.n<=65536:=gZ s;have ca:=nH l;have hp:=jj ho.vol b P;obtain⟨tr,rv,H⟩:=ji r;have E:=a6 ho l u hr m k;unfold Ent at Y;unfold nQ;rw[H];go_enter func86,ntmps86;go_wp2_with fail;refine hp.mono ?_;rintro e w1⟨g,rfl,hg,W,z,j⟩;obtain⟨ho,l,u,hr,m,k⟩:=E.o;have o:=wU (w:=w1) (R:=λi=>A.RR i b) (r:=r) V m (λi a=>wh k a) W;rw[H]at o;have V':=nH (l.keep (j.block _ l.lt ho.nar));have C:=ho.vol.turn j z rfl;obtain⟨N,c⟩:=nM (A.n);rw[c]at o;rw[c];have J':=aE C j z c;go_wp2_with fail;refine o.mono ?_;rintro e w2⟨x,rfl,⟨U',hs⟩,rfl⟩;obtain⟨ho,l,u,hr,m,k⟩:=E.o;obtain⟨C,j,z,c⟩:=J'.o;have hk:=u w2.drew (j.trans (aa.drew _)) x;have y:=hq x (by rw[c];exact U');have hm:∀i,i<A.n->gnB A b i=ZV->x.testBit i=ZV:=λi a q=>(hs i (by rw[<-c];exact a)).2 λ(e:A.RR i b=J r)=>by
  rcases AY q with⟨_,q⟩|⟨_,q⟩|⟨_,q⟩<;>rw[q]at e;.cases e
  .cases e
  .cases UN e;exact m
 have T:=fJ (C.below ((TW _ w2).drew) lR) b (sg x) P V (λi a=>lS y a) r hr;rw[H]at T;have hn:=nt A.lost (ae (sg x)) λd Z=>lS y Z;have hj:∀e w',bC w2.drew p F (iG A (ae (sg x)) b λ_=>r) e w'->bC w p F (m4 A) e w':=λe w' q=>(q.start (j.trans (aa.drew _))).mono λB q=>q.md (λi a=>(k i (lS y a)).1) λi a=>lS y a;generalize jZ A.lost (ae (sg x))=ls at*;have h:=hide7 hk T y hm U' hn hj;go_upto_region 2 with fail;go_region_with(first|(go_at_call 127;refine h.o.2.1.mono ?_;rintro e w3(⟨rfl,M,Q⟩|hcut);rotate_left;(obtain⟨ch,rfl⟩:=hcut.pan;exact⟨rfl,.inr (h.o.2.2.2.2.2.2 _ _ hcut)⟩);have K:=al M Q;clear M Q)|(refine h.o.1.mono ?_;rintro e w3⟨rfl,rfl⟩));all_goals(go_wp2;go_ret;obtain⟨ho,l,u,hr,m,k⟩:=E.o;obtain⟨C,j,z,c⟩:=J'.o;exact .inl ⟨_,rfl,by rw[c]at h⊢;exact h.o.2.2.2.2.2.1,⟨_,⟨eI.put _ _ _ _,Ol k λi a=>lS h.o.2.2.1 a,IQ s (by rw[c];exact h.o.2.2.2.2.1) h.o.2.2.2.1⟩,K.o.1⟩,j.trans ((aa.drew _).trans K.o.2)⟩)
section
def RwK(w w':ZT)(l:a7)(x:ZS):Prop:=∃bl c,x=Z5 (J ⟨bl,0,U⟩) 44 c/\w.heap.size<=bl/\bl<w'.heap.size/\w'.rangeAt bl 0 (aL l)
structure QF(w:ZT)(r v b g N p D L G:Nat)(Kind:aN->Prop)(ps:aN)(A:an)(F:aC)(dl:a7)(e:ZQ)(w':ZT):Prop where
 rd:∃gone sp,eQ w' r v b g N gone sp
 row:∃f gn,w'.rowIs g 36 N f/\e=Z3 (ZZ #[Z5 (J ⟨g,0,U⟩) N N,I Z8 (gn:Nat),.nilIface])/\gn<2^N/\(∀i,i<N->gnB A b i=ZV->gn.testBit i=ZV)/\∀i,i<N->RwK w w' (xL D L G dl i) (f i)kit:∃(ps1:aN)(hl:Nat),Kind ps1/\ps1.ps=ps.ps/\ps1.S w'/\bz w' v p D L G ps.ps hl/\hl<2^N/\∀k,ps1.bl k->ps.bl k\/w.heap.size<=k
 arr:ay w' p A F
 out:aa (λk=>k=g\/k=r\/k=v\/F.S k\/ps.bl k) w w'
def C6(r v ps D L G gn:Nat)(w:ZT):Prop:=w.cell? ⟨r,0,U⟩=J (Z6 (J ⟨v,0,U⟩))/\w.cell? ⟨v,1,U⟩=J (I O (D:Int))/\w.cell? ⟨v,2,U⟩=J (I O (L:Int))/\w.cell? ⟨v,3,U⟩=J (I O (G:Int))/\w.cell? ⟨v,4,U⟩=J (Z6 (J ⟨ps,0,U⟩))/\w.cell? ⟨r,3,U⟩=J (I Z8 gn)
def Om{r v b g N p D L G ps:Nat}{w:ZT}(hr:eQ w r v b g N gone sp)(a:bz w v p D L G ps ho):C6 r v ps D L G gone w:=by obtain⟨_,c,d,e,f,_⟩:=a.cells;exact⟨hr.cells.1,c,d,e,f,hr.cells.2.2.2.1⟩
section
variable {w:ZT}{r v b g N p D L G:Nat}{Kind:aN->Prop}{ps:aN}{A:an}{F:aC}{dl:a7}(hs:si w r v b g N p D L G Kind ps A F dl)(hSh:qI D L G Kind)
include hs hSh
theorem KS(hr:eQ w r v b0 g N gone sp)(hy:w.rowIs g 36 N f0):ZR ZO 84 #[Z6 (J ⟨r,0,U⟩),I O b] w λe w'=>QF w r v b g N p D L G Kind ps A F dl e w':=by
 have qp:=hs.vol;have k6:N<=16:=Zy;have qv:2^N<=65536:=gZ k6;have hm:ae (2^N-1)=YE N:=xA k6;have hS:2^N-1<65536:=ia (VL N);obtain⟨S,kk⟩:=nM (2^N-1);rw[kk]at hm hS;have qa:∀i,i∈ae S->i<N:=λi I'=>by rw[hm,Ul]at I';exact I'
 have qo:=Ii hr qp.vol hy (by have:=hs.nN;have:=hs.vol.par.d1;omega) (λe=>hs.rg e.symm) hs.vg b;have H:=cI hs.kit hr rZ;have E:¬ps.bl g:=by obtain⟨cs,h1,_⟩:=hy;exact cI hs.kit h1 qw
 have W:=a6 hs (And.intro hSh.2 hs.fine) H E hr.lt hy.lt;go_enter func84,ntmps84;go_wp2_with fail;refine qo.mono ?_;rintro e w1⟨rfl,kb,hn,P⟩;obtain⟨hs,hSh,H,E,k5,k7⟩:=W.o;have d:=hs.turn H E P;have kz:sm w1 r v b g N p D L G A F Kind ps ps dl ps.ho 0 ps.ho [] yB w1:=⟨kb,d.vol,hn,Kn.nil _ _ _ _,d.kit,d.kind,rfl,λk q=>.inl q,aa.refl _ _,λi q=>adY,YF ec,d.hol,d.hol,λi q=>(by rw[Wr]at q;cases q)⟩;have M:=kb.lt;have K:=hn.lt;have u:=kz.SF d M K H E;obtain⟨d0,d1,d2,d3,d4⟩:=kb.cells;have f4:=kb.free 4;obtain⟨w2,qs⟩:=nM (w1.setCell ⟨r,4,U⟩ (I Z8 0));rw[qs]at u;have qq:=u.vol;have km:=lC qq.vol hs.vol.par;rw[<-hs.nN,kk]at km;obtain⟨q0,_⟩:=u.rd.cells;have H1:=a5 u d M K P;go_wp2_with fail;refine km.mono ?_;rintro e w3⟨rfl,ko⟩;obtain⟨u,d,M,K,P⟩:=H1.o;obtain⟨hs,hSh,H,E,k5,k7⟩:=W.o;have q7:=u.SH (u.apart d M K H E) (aa.RK ko _) (ps.keep _ _ u.kit λk J'=>ko.block k (ps.lt _ u.kit k J')) u.kind rfl (λk q=>.inl q);have ks:=oN q7 d M K H E S hS qa;obtain⟨nw,kv⟩:=nM (feN S 0 0 []);rw[kv]at ks;have HN:=ak kv;go_wp2_with fail;refine ks.mono ?_;rintro e h⟨rfl,f4,h1,a,_⟩;rw[Nat.zero_or,Ut]at a;obtain⟨ds,kr⟩:=nM (Ef A b nw);obtain⟨f,kg⟩:=nM (jZ (gnB A b) nw);rw[kr,kg]at a;have qh:∀i,i<N->gnB A b i=ZV->f.testBit i=ZV:=λi I' hq=>by rw[<-kg];exact(lJ _ i nw).2 ⟨by rw[<-HN.o];exact(pX V V).2 ⟨by rw[hm];exact Ul.2 I',Wr _,Wr _,ej⟩,hq⟩
 have Q:∀i,i<N->f.testBit i=ZU->i∈ds:=λi I' V'=>by
  have Q:i∈nw:=by rw[<-HN.o];exact(pX V V).2 ⟨by rw[hm];exact Ul.2 I',Wr _,Wr _,ej⟩
  rw[<-kr];refine nB.2 ⟨Q,?_⟩;cases hq:gnB A b i;.rfl
  .rw[<-kg,(lJ _ i nw).2 ⟨Q,hq⟩]at V';cases V'
 have hj:=a.gol;obtain⟨e0,_,e2,e3,_⟩:=a.rd.cells;have T:=al a Q;have HG:=ak qh;by_cases hz:f=0;.have qr:h.cell? ⟨r,3,U⟩=J (I Z8 0):=(by rw[e3,hz];rfl);go_wp2;refine Uv (v:=ZZ #[Z5 (J ⟨g,0,U⟩) N N,I Z8 0,.nilIface]) (by simp[results,results84,go_sem]) rfl ?_;obtain⟨a,Q⟩:=T.o;obtain⟨hs,hSh,H,E,k5,k7⟩:=W.o;have R:=a.vol;obtain⟨u,d,M,K,P⟩:=H1.o;have ke:=P.size;refine⟨⟨_,_,a.rd⟩,⟨f4,0,a.row,rfl,VL _,λi I' q=>(by rw[<-hz];exact HG.o i I' q),λi I'=>?_⟩,⟨ps,h1,a.kind,a.psE,a.kit,R.vol,a.hll,λk q=>.inl q⟩,R.arr,(P.mono λk _ q=>q.elim (λe=>.inr (.inl e)) .inl).trans a.out⟩;have X:=Q i I' (by rw[hz];exact Wr _);obtain⟨bl,q1,q2,O',U'⟩:=a.kn.2 i X;exact⟨bl,44,q1,V,O',jF U'⟩
 have qz:((f:Int)==0)=ZU:=ek;have qm:∀w',bW h w'->ZR ZO 122 #[Z6 (J ⟨ps.ps,0,U⟩),.agg #[I O D,I O L,I O G],I Z8 f] w' λe hd=>PnA D L G Kind ps f w' e hd:=λw' V'=>by obtain⟨a,_⟩:=T.o;obtain⟨hs,hSh,_⟩:=W.o;have R:=a.vol;exact hSh.1 ps a.kind w' (ps.keep _ _ a.kit λk J'=>V'.block k (ps.lt _ a.kit k J')) (R.tab.keep (V'.block _ R.tab.lt)) (TU R.room V'.size) f (by rw[<-hs.nN];exact hj)
 have HB:=al qm (λk(J':ps.bl k)=>ps.lt _ T.o.1.kit k J');have ki:=T.o.1.vol;obtain⟨_,y1,y2,y3,y4,_⟩:=ki.vol.cells;have kp:bW h (h.alloc (Z4 #[I O 0,Z5 U 0 0] 210)):=bA h _;obtain⟨_,x1,x2,x3,x4,_⟩:=(ki.vol.keep (kp.block _ ki.vol.lt)).cells;obtain⟨x0,_,_,x5,_⟩:=(T.o.1.rd.keep (kp.block _ T.o.1.rd.lt)).cells;have HY:cL (∀(w' w3:ZT),bW h w'->aa ps.bl w' w3->C6 r v ps.ps D L G f w3/\(∀o:Obj,C6 r v ps.ps D L G f (w3.alloc o))/\(∀k x y,h.heap.size<=k->C6 r v ps.ps D L G f ((w3.setCell ⟨k,0,U⟩ x).setCell ⟨k,1,U⟩ y))):=ak λw' w3 V' hO=>by have kj:=aa.after V' hO;have hM:=T.o.1;obtain⟨u,d,M,K,P⟩:=H1.o;obtain⟨hs,hSh,H,E,k5,k7⟩:=W.o;have ha:=hM.apart d M K H E;have R:=hM.vol;have k9:=hM.rd.keep (kj.block _ hM.rd.lt λq=>(ha _ q).2.2.1 rfl);have hv3:=R.vol.keep (kj.block _ R.vol.lt λq=>(ha _ q).2.1 rfl);have k5:=hM.rd.lt;have qx:=R.vol.lt;exact⟨Om k9 hv3,λo=>Om (k9.keep (UE _ _ _ k9.lt)) (hv3.keep (UE _ _ _ hv3.lt)),λk x y J'=>Om (k9.keep ((gk w3 k 0 1 x y).block _ k9.lt V)) (hv3.keep ((gk w3 k 0 1 x y).block _ hv3.lt V))⟩
 go_upto_region 6 with fail;go_cut[6,7]from 30 to 51(λv6 v7 wx=>Qt D L G Kind ps f h v7 v6 wx);case first=>go_region_held3(λw'=>w'.cell? ⟨r,0,U⟩=J (Z6 (J ⟨v,0,U⟩))/\w'.cell? ⟨v,1,U⟩=J (I O (D:Int))/\w'.cell? ⟨v,2,U⟩=J (I O (L:Int))/\w'.cell? ⟨v,3,U⟩=J (I O (G:Int))/\w'.cell? ⟨v,4,U⟩=J (Z6 (J ⟨ps.ps,0,U⟩))/\w'.cell? ⟨r,3,U⟩=J (I Z8 (f:Int)))(first|exact⟨e0,y1,y2,y3,y4,e3⟩|exact⟨x0,x1,x2,x3,x4,x5⟩|exact Y0.out|exact Y1.out _|exact Y2.out _ _ _ lR|go_keep)(first|(go_at_call 122;refine(HB.o.1 _ ?_).mono ?_;(first|exact(TW _ _).drew|exact((TW _ _).drew).alloc lR _);rintro e w3 k8;obtain⟨z,ao,m,c,er,he,kf,H3⟩:=xB k8;subst he;clear k8;(try(have O':w3.heap[h.heap.size]?=J (Z4 #[I O 0,Z5 U 0 0] 210 (0,0)):=(kf.block h.heap.size ej (λq=>ia (HB.o.2 _ q))).trans (Ug h.drew _);obtain⟨r0,r1,x6,g0⟩:=aB O';clear O'));obtain⟨Y0,Y1,Y2⟩:cL (C6 r v ps.ps D L G f w3)/\cL (∀o:Obj,C6 r v ps.ps D L G f (w3.alloc o))/\cL (∀k x y,h.heap.size<=k->C6 r v ps.ps D L G f ((w3.setCell ⟨k,0,U⟩ x).setCell ⟨k,1,U⟩ y)):=HY.o _ w3 (by first|exact(TW _ h).drew|exact((TW _ h).drew).alloc lR _) kf;clear kf));all_goals(go_wp2_with fail;go_meet;case rel=>first|(refine Av (w':=h.drew) H3.o ?_ rfl;exact(TW _ _).drew)|(refine xC (w2:=h.drew) H3.o HB.o.2 rfl ?_;exact(TW _ _).drew))
 case rest=>
  rename ZT=>w5;obtain⟨a,Q⟩:=T.o;obtain⟨u,d,M,K,P⟩:=H1.o;obtain⟨hs,hSh,H,E,k5,k7⟩:=W.o;have hp:aa (λk=>k=g\/k=r\/k=v\/F.S k\/ps.bl k) w w1:=P.mono λk _ q=>q.elim (λe=>.inr (.inl e)) .inl;have ke:=P.size;rcases hcut with⟨_,qj,_⟩|hcut
  . refine absurd (pT hSh.2.1 λi q=>(d.cw i ?_).2 (a.gb i q)) qj;rw[d.vol.n,<-d.nN];by_cases e:i<N;.exact e
    .rw[Ww (TY hj (UY ec V))]at q;cases q
  . obtain⟨rfl,gb,Z,s,C,ao,m,c,rfl,qg,kx,Y,q8⟩:=hcut;have B:=a.SH (a.apart d M K H E) q8 Y.kit Y.kind Y.psE Y.bl;obtain⟨z,ky⟩:∃z:Int,1+((ae (aA (D+L+G) s)).length:Int)=z:=⟨_,rfl⟩;rw[ky]at kx;have qe:=EL d B Y hz hj (λi I'=>by obtain⟨t,ht,h0,qn⟩:=(pE _ _).1 I';obtain⟨j,q1,q2,O'⟩:=kM hs.vol.par.s ht h0;have e:j=i:=(by rw[<-qn,q1];rfl);subst e;have U':j<N:=(by rw[hs.nN];exact q2);exact⟨U',Q j U' (we λe=>by rw[Y.Tu j e]at O';cases O')⟩) ky;obtain⟨k0,k1,_,_⟩:=aB kx;have H5:=aE B qe hp ke;have HP:=ak Y.Tu;go_wp2_with fail;refine H5.o.2.1.mono ?_;rintro e w6⟨rfl,hF⟩;obtain⟨_,_,d2,d3,_⟩:=hF.rd.cells;have H6:=ak hF;go_wp2;go_region;go_wp2;refine Uv (v:=ZZ #[Z5 (J ⟨g,0,U⟩) N N,I Z8 (f:Int),.nilIface]) (by simp[results,results84,go_sem]) rfl ?_;obtain⟨qk,⟨f6,ka,qd,qf⟩,q9⟩:=H6.o;obtain⟨B,_,hp,ke⟩:=H5.o;obtain⟨a,Q⟩:=T.o;obtain⟨u,d,M,K,P⟩:=H1.o;obtain⟨hs,hSh,H,E,k5,k7⟩:=W.o;have hf:aa (λk=>k=g) w5 w6.drew:=q9.trans (aa.drew _);have qb:=B.apart d M K H E;have qy:=B.out.size;have kc:=B.vol;refine⟨⟨_,_,show eQ w6.drew r v b g N f 0 from qk⟩,⟨f6,f,ka,rfl,hj,HG.o,λi I'=>?_⟩,⟨Z,h1,B.kind,B.psE,Z.keep _ _ B.kit (λk J'=>hf.block k (Z.lt _ B.kit k J') (λq=>(qb k J').2.2.2.1 q)),kc.vol.keep (hf.block _ kc.vol.lt hs.vg),B.hll,λk J'=>(B.bl k J').imp id λq=>TU ke q⟩,kc.arr.keep (λk J'=>hf.block k (kc.arr.RL J') λq=>hs.gF (q▸J')),(hp.trans B.out).trans (hf.mono λk _ q=>.inl q)⟩;by_cases kh:s.testBit i=ZV;.obtain⟨bl,mm,l,q1,q2,O',U',q5,q6⟩:=qf i ((bU hs.vol.par.s).2 ⟨ia hs.nN,kh⟩);obtain⟨h1,h2⟩:=Ab U' O' q5;rw[(rS hs.vol.par dl (ia hs.nN)).1]at h2;subst h2;exact⟨bl,l.length,q1,V,aM.lt U',h1⟩
    .have qi:i∉ae (aA (D+L+G) s):=λq=>kh ((bU hs.vol.par.s).1 q).2;have X:i∈ds:=Q i I' (we λe=>kh (HP.o i e));obtain⟨bl,q1,q2,O',U'⟩:=B.kn.2 i X;have qc:bl≠g:=V;exact⟨bl,44,by rw[qd i qi];exact q1,V,TY O' hf.size,jF ((hf.block bl O' qc).trans U')⟩
end
end
section
attribute [local go_sem] Oper.semAt_some
def G2{w:ZT}{ar v D L G:Nat}(h:bh w ar v D L G t f nn pg ob off):(Instr.loadAt 132 (Z6 (J ⟨ar,1,U⟩))).run ZO w=.ok (.agg (aq D L G t f nn)) w:=by
 have b:w.heap[ar]?=J (Z4 (kF v D L G t f nn pg ob off) 136 (0,0)):=h;have hr:w.rangeAt ar 1 (aq D L G t f nn).toList:=λj u a=>by unfold aq at a;match j with|0|1|2|3|4|5=>simp at a;subst a;simp[World.cell?,b,kF]|j+6=>simp at a
 exact acT (P:=ZO) w ar 1 132 (aq D L G t f nn).toList _ hr XI rfl ee
def KT{fn:Func}{u:Nat}{ty tz:TypeId}{x y:ZS}(hr:fn.results=#[.cell t ty,.cell u tz])(d:a.defers=[{target:=.collected D',args:=#[]}])(h8:a.tmps.getD t ZY=Z6 (J ⟨b,0,U⟩))(h9:a.tmps.getD u ZY=Z6 (J ⟨c,0,U⟩))(hl:∀w,w.heap[b]?=Z.heap[b]?->(loadVar ty ⟨b,0,U⟩).run ZO w=.ok x w)(hm:∀w,w.heap[c]?=Z.heap[c]?->(loadVar tz ⟨c,0,U⟩).run ZO w=.ok y w)(hK:Z.heap[D']?=J (.deferred (J [])))(hD:b≠D')(hE:c≠D')(hR:R (Z3 (ZZ #[x,y])) (Z.putObj D' (.deferred U))):bodyPostM Fence.wide n ZO fn R .ret a Z:=by obtain⟨e,h⟩:=a;simp only at d h8 h9;subst d;refine⟨ej,.inl ⟨_,_,rfl,Wo hK,?_⟩⟩;have c0:=hl (Z.putObj D' (.deferred U)) (UI hD);have c1:=hm (Z.putObj D' (.deferred U)) (UI hE);refine⟨ZZ #[x,y],?_,hR⟩;have f:e[t]?.getD ZY=Z6 (J ⟨b,0,U⟩):=ua h8;have g:e[u]?.getD ZY=Z6 (J ⟨c,0,U⟩):=ua h9;simp[results,hr,asAddr,f,g,c0,c1]
def ErL(x:ZS):Prop:=x=.nilIface
theorem On{x:ZS}(h:ZP Z b 51 x)(w:ZT)(e:w.heap[b]?=Z.heap[b]?):(loadVar 51 ⟨b,0,U⟩).run ZO w=.ok x w:=by have a:w.cell? ⟨b,0,U⟩=J x:=(show ZP w b 51 x from e.trans h).cell;simp[go_sem,a]
def MJ(w:ZT)(ar v p D L G:Nat)(Kind:aN->Prop)(ps:aN)(A:an)(F:aC)(sg:Nat->Nat)(ls:a7)(X:ZT):Prop:=∃ps' B,(Kind ps'/\ps'.ps=ps.ps/\∀k,ps'.bl k->ps.bl k\/w.heap.size<=k)/\(eI A B/\B.rc=A.rc/\∀b∈ls,Hld sg B b)/\nP X ar v p ps' D L G B F
def nP.gotR{w:ZT}{ar v p D L G:Nat}{ps ps':aN}{A:an}{F:aC}(h:nP w ar v p ps D L G A F){Kind:aN->Prop}(b:w.heap.size<=w'.heap.size)(a:∀k,k<3->¬F.S k->k<w.heap.size->w'.heap[k]?=w.heap[k]?)(f:ay w' p A F)(hK:nO w v p D L G Kind ps A ps' w'):nP w' ar v p ps' D L G A F:=by have c:2<3:=ec;have d:1<3:=ec;have:=h.vlt;exact{h with
  vol:={h.vol with vol:=adJ,arr:=f,laid:=h.vol.laid.keep (a _ c h.vol.g h.vol.laid.lt),tab:=h.vol.tab.keep (a _ d h.vol.t h.vol.tab.lt),room:=TU h.vol.room b}
  arl:=TY h.arl b
  kit:=hK.kit
  apt:=λk i=>by
   rcases hK.bl k i with q|q;.exact h.apt k q
   .have:=h.arl;exact⟨V,V,V,λe=>ia (h.vol.arr.RL e)⟩
  hl:=hK.hol}
def Mv(v:Nat)(ps:aN)(F:aC)(j:Nat):Prop:=F.S j\/j=v\/ps.bl j
section
variable {w X Y:ZT}{ar v p D L G:Nat}{Kind:aN->Prop}{ps:aN}{A:an}{F:aC}{sg:Nat->Nat}{ls:a7}
def MJ.own(h:MJ w ar v p D L G Kind ps A F sg ls X)(g:nP w ar v p ps D L G A F)(x:ps.ps<w.heap.size){T:Nat->Prop}(b:aa T X Y)(i:∀k,T k->w.heap.size<=k/\∀cs d z,X.heap[k]?=J (Z4 cs d z)->¬kT d):MJ w ar v p D L G Kind ps A F sg ls Y:=by
 obtain⟨ps',B,⟨l,m,n⟩,o,a⟩:=h;have:=g.vol.room;have c:∀k,k<w.heap.size->k<X.heap.size->Y.heap[k]?=X.heap[k]?:=λk y s=>b.block k s (λq=>ia ((i k q).1));have r:=g.vol.vol.lt;refine⟨ps',B,⟨l,m,n⟩,o,{a with vol:={a.vol with vol:=a.vol.vol.keep (c _ r a.vol.vol.lt),arr:=a.vol.arr.keep λk q=>c k (g.vol.arr.RL q) (a.vol.arr.RL q),laid:=a.vol.laid.keep (c _ V a.vol.laid.lt),tab:=a.vol.tab.keep (c _ V a.vol.tab.lt),room:=TU a.vol.room b.size},arl:=TY a.arl b.size,kit:=ps'.keep _ _ a.kit λk q=>b.block k (ps'.lt _ a.kit k q) (λe=>?_)}⟩;obtain⟨t,j⟩:=i k e;rcases ps'.cl _ a.kit k q with f|⟨cs,d,z,f⟩;.omega
 .exact j _ _ _ f (ps'.kd _ a.kit k q _ _ _ f)
def MJ.below(h:MJ w ar v p D L G Kind ps A F sg ls X)(d:bW X Y):MJ w ar v p D L G Kind ps A F sg ls Y:=by obtain⟨ps',B,a,b,c⟩:=h;exact⟨ps',B,a,b,c.below d⟩
def nP.put{C:an}(h:nP X ar v p ps D L G B F)(c:ay Y p C F)(b:eI B C)(a:aa F.S X Y):nP Y ar v p ps D L G C F:={h with fine:=b.fine h.fine,vol:=h.vol.turn a c b.n,arl:=TY h.arl a.size,kit:=ps.keep _ _ h.kit λk q=>a.block k (ps.lt _ h.kit k q) (h.apt k q).2.2.2}
end
def aX.data{A:an}{D L G:Nat}{xs:aF}(h:aX A D L G t P xs)(e:1<=D){b:Nat}(a:b∈P++ah xs.os):∃dl,A.at b (PQ D L G dl)/\dl.length<=D*44/\∀x∈dl,x<256:=by
 rcases Ui.1 a with a|a;.obtain⟨k,c,rfl⟩:=UZ a;have:=h.page k c;rw[iP c]at this;exact⟨_,this,rT e _ _ _,vP (qC _) _ _⟩
 .obtain⟨o,ho,f⟩:=XO.1 a;obtain⟨x,d,rfl⟩:=T9.1 ho;obtain⟨k,c,rfl⟩:=UZ f;have:=h.held x d k c;rw[iP c]at this;exact⟨_,this,by unfold di;exact List.length_take_le _ _,λy g=>(h.fits x d).byt y (UW (US g))⟩
structure MdE(w:ZT)(ar:Nat)(cf:FuncId)(cp:Array ZS)(D1 N:Nat)(M:Nat->Prop)(J':ZT->Prop)(X:ZT):Prop where
 b2:ZP X w.heap.size 102 (Z6 (J ⟨ar,0,U⟩))b3:ZP X (w.heap.size+1) 154 (nQ cf cp)b4:∃ls:Nat,ls<2^N/\ZP X (w.heap.size+1+1) 123 (I Z8 ls)b5:∃er,ErL er/\ZP X (w.heap.size+1+1+1) 51 er
 arr:J' X
 out:aa M w X
 dk:X.heap[D1]?=J (.deferred (J []))
def B4:¬kT 123:=vm
def EO:¬kT 51:=vm
def MdE.next{w X:ZT}{ar ls:Nat}{J0:ZT->Prop}(h:MdE w ar cf cp D1 N M J0 X)(n:∀k,M k->k<w.heap.size)(r:∀X Y(T:Nat->Prop),J' X->aa T X Y->(∀k,T k->w.heap.size<=k/\∀cs c z,X.heap[k]?=J (Z4 cs c z)->¬kT c)->J' Y)(hD:w.heap.size+4<=D1)(s:J' Z)(t:aa M X.drew Z)(u:ls<2^N):MdE w ar cf cp D1 N M J' (Z.setCell ⟨w.heap.size+1+1,0,U⟩ (I Z8 (ls:Int)))/\ZP (Z.setCell ⟨w.heap.size+1+1,0,U⟩ (I Z8 (ls:Int))) (w.heap.size+1+1) 123 (I Z8 ls):=by
 have d:aa M X Z:=(aa.drew X).trans t;obtain⟨W,b⟩:=nM (Z.setCell ⟨w.heap.size+1+1,0,U⟩ (I Z8 (ls:Int)));have m:∀k,k≠w.heap.size+1+1->W.heap[k]?=Z.heap[k]?:=λk a=>by rw[<-b];exact Uc _ _ _ _ a
 have:Z.heap.size=W.heap.size:=by rw[<-b];simp[World.setCell]
 have l:aa (λk=>k=w.heap.size+1+1) Z W:=⟨by rw[<-b];rfl,by rw[<-b];rfl,by rw[<-b];rfl,V,λk _ a=>m k a⟩;have a:∀k,w.heap.size<=k->k<X.heap.size->k≠w.heap.size+1+1->W.heap[k]?=X.heap[k]?:=λk o f p=>(m k p).trans (d.block k f (λq=>ia (n k q)));obtain⟨x,_,j⟩:=h.b4;have g:ZP Z (w.heap.size+1+1) 123 (I Z8 x):=(d.block _ j.lt (λq=>ia (n _ q))).trans j;have e:=g.set (I Z8 (ls:Int));obtain⟨er,v,i⟩:=h.b5;rw[b]at e⊢;exact⟨⟨(a _ V h.b2.lt V).trans h.b2,(a _ V h.b3.lt V).trans h.b3,⟨ls,u,e⟩,⟨er,v,(a _ V i.lt V).trans i⟩,r _ _ _ s l (λk a=>⟨V,λcs c z q=>by rw[a,show Z.heap[w.heap.size+1+1]?=J (Z4 _ 123 (0,0))from g]at q;simp only[UF,UT]at q;rw[<-q.2.1];exact B4⟩),(h.out.trans d).later l (λk o f=>V),(a _ V (TX.1 h.dk).1 V).trans h.dk⟩,e⟩
def abm{w W3:ZT}{ar ls:Nat}(i:MdE w ar cf cp D1 N M J' W3)(y:∀X Y(T:Nat->Prop),J' X->aa T X Y->(∀k,T k->w.heap.size<=k/\∀cs j z,X.heap[k]?=J (Z4 cs j z)->¬kT j)->J' Y)(o:ZP W3 (w.heap.size+1+1) 123 (I Z8 ls))(p:ZP W3 (w.heap.size+1+1+1) 51 er)(F:w.heap.size+4<=D1)(A:a.defers=[{target:=.collected D1,args:=#[]}])(h8:a.tmps.getD 4 ZY=Z6 (J ⟨w.heap.size+1+1,0,U⟩))(h9:a.tmps.getD 5 ZY=Z6 (J ⟨w.heap.size+1+1+1,0,U⟩))(hR:∀Y,J' Y->aa M w Y->R (Z3 (ZZ #[I Z8 (ls:Int),er])) Y):bodyPostM Fence.wide n ZO Tryz.f61 R .ret a ((W3.setCell ⟨w.heap.size+1+1,0,U⟩ (I Z8 (ls:Int))).setCell ⟨w.heap.size+1+1+1,0,U⟩ er).drew:=by
 obtain⟨h,e⟩:=nM (W3.setCell ⟨w.heap.size+1+1,0,U⟩ (I Z8 (ls:Int)));obtain⟨d,f⟩:=nM (h.setCell ⟨w.heap.size+1+1+1,0,U⟩ er);have l:∀k,k≠w.heap.size+1+1->h.heap[k]?=W3.heap[k]?:=λk g=>by rw[<-e];exact Uc _ _ _ _ g
 have m:∀k,k≠w.heap.size+1+1+1->d.heap[k]?=h.heap[k]?:=λk g=>by rw[<-f];exact Uc _ _ _ _ g
 have v:ZP d (w.heap.size+1+1) 123 (I Z8 ls):=by have:=o.set (I Z8 (ls:Int));rw[e]at this;exact(m _ V).trans this
 have x:ZP d (w.heap.size+1+1+1) 51 er:=by have:=(show ZP h (w.heap.size+1+1+1) 51 er from(l _ V).trans p).set er;rwa[f]at this
 have G:W3.heap.size=d.heap.size:=by rw[<-f,<-e];simp[World.setCell]
 have C:aa (λk=>k=w.heap.size+1+1\/k=w.heap.size+1+1+1) W3 d:=⟨by rw[<-f,<-e];rfl,by rw[<-f,<-e];rfl,by rw[<-f,<-e];rfl,V,λk _ g=>(m k V).trans (l k V)⟩;have B:d.heap[D1]?=J (.deferred (J [])):=((m _ V).trans (l _ V)).trans i.dk;rw[e,f];have r:aa (λk=>k=w.heap.size+1+1\/k=w.heap.size+1+1+1\/k=D1) W3 (d.drew.putObj D1 (.deferred U)):=((C.trans (aa.drew d)).mono λk _ q=>V).trans ⟨rfl,rfl,rfl,L0,λk _ g=>UI V⟩;refine KT (b:=w.heap.size+1+1) (c:=w.heap.size+1+1+1) (t:=4) (u:=5) (Z:=d.drew) results61 A h8 h9 (Dn (s:=ls) (Z:=d.drew) v) (On (Z:=d.drew) x) B V V (hR _ ?_ ?_)
 . refine y _ _ _ i.arr r λk g=>⟨V,λcs j z q=>?_⟩;rcases g with rfl|rfl|rfl;.rw[show W3.heap[w.heap.size+1+1]?=J (Z4 _ 123 (0,0))from o]at q;simp only[UF,UT]at q;rw[<-q.2.1];exact B4
   .rw[show W3.heap[w.heap.size+1+1+1]?=J (Z4 _ 51 (0,0))from p]at q;simp only[UF,UT]at q;rw[<-q.2.1];exact EO
   .rw[i.dk]at q;cases q
 .exact i.out.later r (λk D E=>V)
def jY.shut{w X:ZT}{ar p:Nat}{F:aC}(h:jY S w ar p F C e X)(r:∀k,F.S k->k<w.heap.size)(u:ar<w.heap.size)(hD:w.heap.size<=D')(hK:X.heap[D']?=J (.deferred (J []))):jY S w ar p F C e (X.putObj D' (.deferred U)):=by obtain⟨g,⟨q,d,b,i,c⟩,⟨B,j,l⟩,m,cs,n,o⟩:=h;have ho:∀k,k≠D'->(X.putObj D' (.deferred U)).heap[k]?=X.heap[k]?:=λk s=>UI s;exact⟨g,⟨q,d,b,i,(ho q λe=>by subst e;have a:X.heap[q]?=_:=c;rw[hK]at a;cases a).trans c⟩,⟨B,j,l.keep λk q=>ho k (ia (r k q))⟩,m.later (T:=λk=>w.heap.size<=k) ⟨rfl,rfl,rfl,L0,λk _ f=>ho k V⟩ (λk t f=>V),cs,(ho _ V).trans n,o⟩
structure MdI(w:ZT)(ar v:Nat)(cf:FuncId)(cp:Array ZS)(N b6 b7 r g B:Nat)(M:Nat->Prop)(J':a7->ZT->Prop)(X0:a7)(pre:List (Sn X0))(X:ZT):Prop where
 b2:ZP X w.heap.size 102 (Z6 (J ⟨ar,0,U⟩))b3:ZP X (w.heap.size+1) 154 (nQ cf cp)b4:∃ls:Nat,ls<2^N/\ZP X (w.heap.size+1+1) 123 (I Z8 ls)b5:∃er,ErL er/\ZP X (w.heap.size+1+1+1) 51 er
 b6:ZP X b6 155 (Z6 (J ⟨r,0,U⟩))b7:ZP X b7 102 (Z6 (J ⟨ar,0,U⟩))rd:∃b0 gone sp,eQ X r v b0 g N gone sp
 row:∃f0,X.rowIs g 36 N f0
 arr:J' (pre.map (·.1)) X
 out:aa M w X
 size:B<=X.heap.size
def MdI.own{w:ZT}{ar v b6 b7 B:Nat}{X0:a7}{J':a7->ZT->Prop}(x:∀ls X Y(T:Nat->Prop),J' ls X->aa T X Y->(∀k,T k->w.heap.size<=k/\∀cs c z,X.heap[k]?=J (Z4 cs c z)->¬kT c)->J' ls Y)(W:w.heap.size+4<=B)(p:b6<B)(s:b7<B)(hr:r<B)(C:g<B):OwnFrom B (MdI w ar v cf cp N b6 b7 r g B M J' X0):=by rintro pre X Y row⟨d,l,⟨ls,K,m⟩,⟨er,y,n⟩,E,F,⟨b0,gone,sp,G⟩,⟨f0,t⟩,u,A,D⟩b f;have a:∀k,k<B->Y.heap[k]?=X.heap[k]?:=λk a=>b.block k V (λe=>ia ((f k e.symm).1));have h:aa (λk=>row=J k) X Y:=⟨b.os,b.tape,b.output,b.size,λk H Q=>b.block k H (λe=>Q e.symm)⟩;refine⟨(a _ V).trans d,(a _ V).trans l,⟨ls,K,(a _ V).trans m⟩,⟨er,y,(a _ V).trans n⟩,(a _ p).trans E,(a _ s).trans F,⟨b0,gone,sp,G.keep (a _ hr)⟩,⟨f0,t.of_block (a _ C)⟩,x _ _ _ _ u h (λk e=>?_),A.later h (λk L d=>ia ((f k d).1)),TU D b.size⟩;obtain⟨P,o,i,j⟩:=f k e;refine⟨V,λcs c z q=>?_⟩;rw[q]at i;have:=UN i;rw[<-this]at j;cases j
theorem EP{w:ZT}{ar v p D L G:Nat}{Kind:aN->Prop}{ps:aN}{xs:aF}{A:an}{F:aC}{sg:Nat->Nat}(hl:aP w ar v p ps D L G t pg ob P xs A F)(hv:xD D L G Kind ps)(yk:ps.ps<w.heap.size)(zo:2<=A.nb)(hE:Ent cf)(qo:∀X,aa (Mv v ps F) w X->Cho cf cp sg X)(yp:∀x,x<2^A.n->sg x<2^A.n):ZR ZO 61 #[Z6 (J ⟨ar,0,U⟩),nQ cf cp] w λe Y=>(∃ls:Nat,e=Z3 (ZZ #[I Z8 ls,.nilIface])/\ls<2^A.n/\MJ w ar v p D L G Kind ps A F sg (1::0::(P++ah xs.os)) Y/\aa (Mv v ps F) w Y)\/jY (Mv v ps F) w ar p F (m4 A) e Y:=by
 obtain⟨m,HN⟩:∃m:Nat,cL (9<=m):=⟨9,TV _⟩;have B:nP w ar v p ps D L G A F:=⟨hl.vol,hl.nar,hl.vlt,hl.arc.lt,hl.kit,hl.apt,hl.hl,hl.fine⟩;have ha:=hl.arc;have hJ:MJ w ar v p D L G Kind ps A F sg [] w:=⟨ps,A,⟨hv.kind,rfl,λ_ q=>.inl q⟩,⟨eI.refl A,rfl,λ_ q=>adY⟩,B⟩;have k9:∀k,Mv v ps F k->k<w.heap.size:=λk q=>by
  rcases q with q|q|q;.exact hl.vol.arr.RL q
  .rw[q];exact hl.vol.vol.lt
  .exact ps.lt _ hl.kit k q
 have yh:¬Mv v ps F ar:=λq=>by
  rcases q with q|q|q;.exact hl.nar q
  .have:=hl.vlt;omega
  .exact(hl.apt _ q).2.1 rfl
 have xe:∀k,(ar<k/\¬F.S k/\¬ps.bl k)->k<w.heap.size->(k<w.heap.size/\¬Mv v ps F k):=λk q M=>⟨M,λe=>by
  rcases e with e|e|e;.exact q.2.1 e
  .have:=hl.vlt;omega
  .exact q.2.2 e⟩;have hP:=hl.pgs.wk xe;have hC:=hl.cat.wk xe;have qq:∀ls X Y(T:Nat->Prop),MJ w ar v p D L G Kind ps A F sg ls X->aa T X Y->(∀k,T k->w.heap.size<=k/\∀cs Ty z,X.heap[k]?=J (Z4 cs Ty z)->¬kT Ty)->MJ w ar v p D L G Kind ps A F sg ls Y:=λls X Y T M U' h3=>M.own B yk U' h3;have qb:=hl.disk.SZ;have xp:(bF.root D L G t (P.getD 0 0) (aw xs.os).length).ok:=by
  have M:=hl.packL_le;have U':=hl.turn;have h3:=hl.vol.par.d;have h4:=hl.vol.par.l4;have h5:=hl.vol.par.g;have h6:P.getD 0 0<4294967296:=by have y1:0<P.length:=(by rw[hl.disk.pl];unfold pgs;omega);have:=(hl.disk.SZ (P.getD 0 0) (UB _ (by rw[iP y1];exact T7 y1))).2;have:=hl.nb;omega
  exact⟨V,V,V,V,h6,V⟩
 obtain⟨os,xo⟩:=nM (xs.os);rw[xo]at hC qb;have c0:=ha.cells.1;have ky:=ha.lt;obtain⟨N,hf⟩:=nM (A.n);have kf:A.n<=16:=by rw[B.vol.n];exact B.vol.par.s
 have O':=a6 B hJ ha qo hP hC;have q9:=λb hb=>hl.disk.data hl.vol.par.d1 (b:=b) hb;rw[xo]at q9;have yn:=hl.disk.root;have yb:=hl.disk.fill;have HD:=au q9 yn yb;have H:=hide7 k9 yh qq qb hv yp yk;clear q9 yn yb;clear B hJ ha qo hP hC k9 yh qq qb xe hl yp;unfold nQ;refine ln func61 rfl ?_;simp only[ntmps61,UK,UC,U0,Nat.reduceAdd,Nat.reduceSub,Vf,Vg,Vh,Vi,Ut,U1];refine gS (jO (n:=m) ?_);gi_wp2;obtain⟨w4,kr⟩:=nM ((((w.alloc (Z4 #[Z6 (J ⟨ar,0,U⟩)] 102)).alloc (Z4 #[nQ cf cp] 154)).alloc (Z4 #[I Z8 0] 123)).alloc (Z4 #[.nilIface] 51));have kc:bW w w4:=by rw[<-kr];exact(((bA w _).alloc ej _).alloc ek _).alloc ek _
 have xx:w4.heap.size=w.heap.size+4:=by rw[<-kr];simp
 have xv:ZP w4 w.heap.size 102 (Z6 (J ⟨ar,0,U⟩)):=by rw[<-kr];exact(((Us w _ _).alloc _).alloc _).alloc _
 have ys:ZP w4 (w.heap.size+1) 154 (nQ cf cp):=by rw[<-kr];have:=Us (w.alloc (Z4 #[Z6 (J ⟨ar,0,U⟩)] 102)) 154 (nQ cf cp);rw[Um]at this;exact(this.alloc _).alloc _
 have yv:ZP w4 (w.heap.size+1+1) 123 (I Z8 (0:Nat)):=by rw[<-kr];have:=Us ((w.alloc (Z4 #[Z6 (J ⟨ar,0,U⟩)] 102)).alloc (Z4 #[nQ cf cp] 154)) 123 (I Z8 (0:Nat));rw[Um,Um]at this;exact this.alloc _
 have yx:ZP w4 (w.heap.size+1+1+1) 51 .nilIface:=by rw[<-kr];have:=Us (((w.alloc (Z4 #[Z6 (J ⟨ar,0,U⟩)] 102)).alloc (Z4 #[nQ cf cp] 154)).alloc (Z4 #[I Z8 0] 123)) 51 .nilIface;rw[Um,Um,Um]at this;exact this
 have zr:=xv.cell;have x0:=O'.o.2.1.below kc;have qs:=sf (O'.o.1.vol.vol.keep (kc.block _ O'.o.1.vol.vol.lt)) O'.o.1.vol.par.d O'.o.1.vol.par.l4 O'.o.1.vol.par.g (hf.symm.trans O'.o.1.vol.n);unfold nQ at kr;rw[kr];have c1:w4.cell? ⟨ar,0,U⟩=J (Z6 (J ⟨v,0,U⟩)):=(kc.cell (p:=⟨ar,0,U⟩) ky).trans c0;have H4:=hide7 xv ys yv yx kc x0 qs;clear kr xv ys yv yx kc x0 qs;refine gS (jO (n:=m) ?_);gi_wp2;clear c1;refine cM H4.o.2.2.2.2.2.2 ?_;rintro e w5⟨rfl,kg,hx,xf⟩;obtain⟨r,hr⟩:=nM (w4.heap.size+2);obtain⟨g,hg⟩:=nM (w4.heap.size+1);rw[hr]at kg⊢;rw[hg]at kg hx;have yz:=xf.size;have yf:=kg.lt;have yg:=hx.lt;obtain⟨w6,x9⟩:=nM (w5.alloc (Z4 #[Z6 (J ⟨r,0,U⟩)] 155));have km:bW w5 w6:=by rw[<-x9];exact bA w5 _
 have he:=xf.trans (km.mono yz);have xa:ZP w6 w5.heap.size 155 (Z6 (J ⟨r,0,U⟩)):=by rw[<-x9];exact Us w5 _ _
 have ko:=kg.keep (km.block _ yf);have hz:=hx.of_block (km.block _ yg);have zh:w6.heap.size=w5.heap.size+1:=by rw[<-x9];simp
 have zz:w6.cell? ⟨w.heap.size,0,U⟩=J (Z6 (J ⟨ar,0,U⟩)):=(Uk (he.block w.heap.size V)).trans zr;have qp:w.heap.size+4<=g/\w.heap.size+4<=r/\r≠g/\g<w6.heap.size/\r<w6.heap.size/\w.heap.size+4<=w5.heap.size/\w5.heap.size<w6.heap.size/\r<w5.heap.size/\g<w5.heap.size:=V;have H5:=a6 ko hz he xa qp xx;clear kg hx xf c0 zr ko hz he km xa zh yz yf yg hr hg xx qp;gi_wp2;refine gS (gS (jO (n:=m) ?_));gi_wp2;clear zz x9;refine cM (mG ar w6) ?_;rintro e w'⟨rfl,rfl⟩;have h7:ZP (w6.alloc (Z4 #[Z6 (J ⟨ar,0,U⟩)] 102)) w6.heap.size 102 (Z6 (J ⟨ar,0,U⟩)):=Us w6 _ _;have xy:(w6.alloc (Z4 #[Z6 (J ⟨ar,0,U⟩)] 102)).heap.size=w6.heap.size+1:=ej;have q8:bW w6 (w6.alloc (Z4 #[Z6 (J ⟨ar,0,U⟩)] 102)):=bA w6 _;obtain⟨w7,yq⟩:=nM (w6.alloc (Z4 #[Z6 (J ⟨ar,0,U⟩)] 102));have H7:=au h7 xy q8;clear h7 xy q8;gi_wp2;rw[yq]at H7;clear yq;obtain⟨s1,s2,s3,s4,s5,s6,s7,s8,s9⟩:=H5.o.2.2.2.2.1;have xy:=H7.o.2.1;have ye:MdI w ar v cf cp N w5.heap.size w6.heap.size r g w7.heap.size (Mv v ps F) (MJ w ar v p D L G Kind ps A F sg) (P++ah os) [] w7:=by obtain⟨x2,x3,x4,x5,kc,x0,_⟩:=H4.o;obtain⟨ko,hz,he,xa,_,xx⟩:=H5.o;have q8:=H7.o.2.2;have q7:=he.trans (q8.mono he.size);have R:∀k,k<w4.heap.size->w7.heap[k]?=w4.heap[k]?:=λk R=>q7.block k R;exact⟨(R _ V).trans x2,(R _ V).trans x3,⟨0,VL _,(R _ V).trans x4⟩,⟨_,rfl,(R _ V).trans x5⟩,(q8.block _ s7).trans xa,H7.o.1,⟨_,_,_,ko.keep (q8.block _ s5)⟩,⟨_,hz.of_block (q8.block _ s4)⟩,x0.below q7,(aa.RK kc _).trans (aa.RK q7 _),TV _⟩
 have xd:∀{x':ZS}{l:a7},bt (λk=>k<w.heap.size/\¬Mv v ps F k) w x' l->bt (λk=>(k<w.heap.size/\¬Mv v ps F k)\/k=w6.heap.size) w x' l:=λ⟨ao,c,q1,q2,q3⟩=>⟨ao,c,q1,q2,λhl=>by obtain⟨b,off,r1,r2,r3⟩:=q3 hl;exact⟨b,off,r1,.inl r2,r3⟩⟩;have y2:=xd O'.o.2.2.2.2.1;have xz:fA (λk=>(k<w.heap.size/\¬Mv v ps F k)\/k=w6.heap.size) w ob os:=by obtain⟨ao,c,q1,q2,q3⟩:=O'.o.2.2.2.2.2;refine⟨ao,c,q1,q2,λhl=>?_⟩;obtain⟨b,off,r1,r2,r3,r4⟩:=q3 hl;refine⟨b,off,r1,.inl r2,r3,λi f=>?_⟩;obtain⟨sv,t1,t2,t3,t4⟩:=r4 i f;exact⟨sv,t1,t2,t3,xd t4⟩
 have qn:bW w w7:=by have kc:=H4.o.2.2.2.2.1;have he:=H5.o.2.2.1;exact(kc.trans (he.mono kc.size)).trans (H7.o.2.2.mono V)
 have HI:=aE ye y2 xz qn;clear ye xd y2 xz qn;refine qY (uG (n:=m) m func61 (w:=w7) (gf:=117) (lb:=#[Z6 (J ⟨w6.heap.size,0,U⟩)]) rfl (U9 func117 ee rfl) (encs:=MA (l:=P++ah os)) (λ_=>rfl) (λpre x=>pre++[x]) (λ_=>True) (MdI w ar v cf cp N w5.heap.size w6.heap.size r g w7.heap.size (Mv v ps F) (MJ w ar v p D L G Kind ps A F sg) (P++ah os)) (MdI.own H.o.2.2.1 V V V V V) (λch X=>jY (Mv v ps F) w ar p F (m4 A) (.panicked ch) X) (λpre=>pre.map (·.1)=P++ah os) [] ?call HI.o.1 (λ_ x a' _=>a'={tmps:=#[Z6 (J ⟨ar,0,U⟩),.func (.func cf) #[] cp,Z6 (J ⟨w.heap.size,0,U⟩),Z6 (J ⟨w.heap.size+1,0,U⟩),Z6 (J ⟨w.heap.size+1+1,0,U⟩),Z6 (J ⟨w.heap.size+1+1+1,0,U⟩),Z6 (J ⟨w5.heap.size,0,U⟩),I O (x.1:Nat),ZY,ZY,ZY,Z6 (J ⟨ar,0,U⟩),Z6 (J ⟨ar,0,U⟩),Z6 (J ⟨ar,0,U⟩),Z6 (J ⟨v,0,U⟩),Z6 (J ⟨r,0,U⟩),Z6 (J ⟨ar,0,U⟩),.func (.func 117) #[] #[Z6 (J ⟨w6.heap.size,0,U⟩)],I O (x.1:Nat),ZY,ZY,ZY,ZY,ZY,ZY,ZY,ZY,ZY,ZY,ZY,ZY,ZY,ZY,ZY,ZY,ZY,ZY,ZY,ZY,ZY,ZY,ZY,ZY,ZY,ZY,ZY,ZY,ZY,ZY,ZY,ZY,ZY,ZY,ZY,ZY,ZY,ZY,ZY,ZY,ZY,ZY,ZY],defers:=[]}) (λ_ _ _ _ _ h _=>h) ?assign ?body ?done ?pan);case call=>
  intro l2 J' Jp W E z9 z7 z5 hY z4;refine ts (K:=λk=>(k<w.heap.size/\¬Mv v ps F k)\/k=w6.heap.size) (.inr rfl) (.inl ⟨ky,H.o.2.1⟩) H7.o.1 (O'.o.2.2.1.keep (HI.o.2.2.2.block _ ky)) (HI.o.2.1.keep (eW.RM HI.o.2.2.2)) (HI.o.2.2.1.keep (eW.RM HI.o.2.2.2)) E.size (λpre X q k R=>?_) z7 hY z4;have f:=(z5 pre X q).1;rcases R with⟨M,U'⟩|M;.exact(f.out.block k M U').trans (HI.o.2.2.2.block k M).symm
  .subst M;exact f.b7.trans H7.o.1.symm
 case assign=>intro l2 pre x X Kk _ _ hK;unfold MA oA;gi_wp2;exact hK _ _ (TW _ _) rfl
 case pan=>rintro D' ch X zj hp hK;exact pI rfl hK (.inr (hp.shut (λk q=>O'.o.1.vol.arr.RL q) ky V hK))
 case body=>
  rintro l2 Bx pre x a' X k8 zm zi-f-rfl;obtain⟨er,x6,h5⟩:=f.b5;obtain⟨Q,qh,ks⟩:=f.b4;obtain⟨b0,gone,sp,qs⟩:=f.rd;obtain⟨f0,qv⟩:=f.row;obtain⟨qr,B0,k0,u,hc⟩:=id f.arr;have B:=O'.o.1;obtain⟨dl,x1,y8,y9⟩:=HD.o.1 x.1 x.2;have hn:B0.at x.1 (PQ D L G dl):=x1.off u.1.Tt λi=>by rw[u.2.1]
  have k9:=H.o.1;have kp:si X r v x.1 g N p D L G Kind qr B0 F dl:={vol:=hc.vol,nN:=by rw[<-hf];exact B.vol.n,hol:=by rw[<-hf,B.vol.n];exact hc.hl,kit:=hc.kit,kind:=k0.1,apt:=λj hj=>⟨(hc.apt j hj).1,(hc.apt j hj).2.2.1,(hc.apt j hj).2.2.2⟩,vr:=ia B.vol.vol.lt,vg:=ia B.vol.vol.lt,rg:=s3,gF:=λe=>ia (B.vol.arr.RL e),rF:=λe=>ia (B.vol.arr.RL e),rK:=ia B.vol.room,vK:=B.vlt.1,gK:=ia B.vol.room,nb:=by rw[u.1.nb];exact(H.o.2.2.2.1 _ x.2).2,cw:=hn,len:=y8,byt:=y9,fine:=hc.fine};have yr:=KS kp H.o.2.2.2.2.1.sh qs qv;have c6:=f.b6.cell;have HX:=hide8 f h5 x6 yr k0 hn u hc;have qz:=al qh ks;have zp:=f.size;clear qh ks f h5 x6 qs qv yr kp k0 x1 hn y8 y9 u hc B k9;gi_wp2;refine dJ HX.o.2.2.2.1 ?_;intro e Y qg;obtain⟨f,h5,x6,_,k0,hn,u,hc⟩:=HX.o;have B:=O'.o.1;have k9:=H.o.1;have qf:=qg.out;have k7:∀k,w.heap.size<=k->k<X.heap.size->k≠r->k≠g->(∀cs Ty z,X.heap[k]?=J (Z4 cs Ty z)->¬kT Ty)->Y.heap[k]?=X.heap[k]?:=λk M U' h3 h4 h6=>qf.block k U' (λq=>by
   rcases q with q|q|q|q|q;.exact h4 q
   .exact h3 q
   .have:=B.vol.vol.lt;omega
   .have:=B.vol.arr.RL q;omega
   . rcases qr.cl _ hc.kit k q with e3|⟨cs,Ty,z,e3⟩;.have:=k0.2.1;omega
     .exact h6 _ _ _ e3 (qr.kd _ hc.kit k q _ _ _ e3));have qc:∀{k:Nat}{T:TypeId}{x:ZS},ZP X k T x->¬kT T->∀cs Ty z,X.heap[k]?=J (Z4 cs Ty z)->¬kT Ty:=λ{k T x}hb hT cs Ty z q=>by rw[show X.heap[k]?=J (Z4 #[x] T (0,0))from hb]at q;simp only[UF,UT]at q;rw[<-q.2.1];exact hT
  have ki:aa (Mv v ps F) w Y:=f.out.later qf (λk M U'=>by
   rcases U' with q|q|q|q|q;.omega
   .omega
   .exact .inr (.inl q)
   .exact .inl q
   . rcases k0.2.2 k q with q|q;.exact .inr (.inr q)
     .omega);have d2:ZP Y w.heap.size 102 _:=(k7 _ V V V V (qc f.b2 vm)).trans f.b2;have d3:ZP Y (w.heap.size+1) 154 _:=(k7 _ V V V V (qc f.b3 vm)).trans f.b3;have d4:ZP Y (w.heap.size+1+1) 123 _:=(k7 _ V V V V (qc qz.out.2 B4)).trans qz.out.2;have d5:ZP Y (w.heap.size+1+1+1) 51 _:=(k7 _ V V V V (qc h5 EO)).trans h5;have d7:ZP Y w6.heap.size 102 _:=(k7 _ V V V V (qc f.b7 vm)).trans f.b7;have d6:ZP Y w5.heap.size 155 _:=(k7 _ V V V V (qc f.b6 vm)).trans f.b6;have y7:=qg.arr;obtain⟨ps1,hq,k1,k2,k3,k4,k5,k6⟩:=qg.kit;have x8:nP Y ar v p (ps1.SK hq) D L G B0 F:=hc.gotR qf.size (λk M U' h3=>qf.block k h3 (λq=>by
   have:=B.vol.room;rcases q with q|q|q|q|q;.omega
   .omega
   .have:=B.vlt;omega
   .exact U' q
   .have:=(hc.apt k q).1;omega)) y7 (⟨H.o.2.2.2.2.1.re _ _ k1,k2,k3,k4,by rw[<-B.vol.n,hf];exact k5,k6⟩:nO X v p D L G Kind qr B0 (ps1.SK hq) Y);have qk:MJ w ar v p D L G Kind ps A F sg (pre.map (·.1)) Y:=⟨ps1.SK hq,B0,⟨H.o.2.2.2.2.1.re _ _ k1,k2.trans k0.2.1,λk q=>by
   rcases k6 k q with q|q;.exact k0.2.2 k q
   .exact .inr V⟩,u,x8⟩;obtain⟨b8,ba,ka⟩:=qg.rd;obtain⟨f1,gn,h8,rfl,yc,yd,ym⟩:=qg.row;have zq:X.heap.size<=Y.heap.size:=qf.size;have q0:=O'.o.2.2.1.keep (ki.block _ ky H.o.2.1);have HY:=hide12 f ka h8 qk ki d2 d3 d4 d5 d6 d7 k7;have qm:((YE N).map (xL D L G dl)).length=N:=ej;have y3:O0 Y w.heap.size g ((YE N).map (xL D L G dl)):=by refine⟨V,h8.lt,λi f=>?_⟩;rw[qm]at f;obtain⟨bl,c,q1,q2,q3,q6⟩:=ym i f;obtain⟨q4,q5⟩:=rS B.vol.par dl (i:=i) (ia B.vol.n);have cg:=h8.cell (i:=i) f;rw[q1]at cg;have e:((YE N).map (xL D L G dl))[i]'(by rw[qm];exact f)=xL D L G dl i:=ej;rw[e];exact⟨bl,0,c,cg,V,q3,q6,q4,q5⟩
  have qo:=O'.o.2.2.2.1 Y.drew (ki.trans (aa.drew Y)) gn;have yo:=H.o.2.2.2.2.2.1 gn (by rw[hf];exact yc);have kz:∀i,i∈ae (sg gn)->i<B0.n:=λi f=>by rw[u.1.n];exact lS yo f
  have xq:=lV (x8.vol.below ((TW _ Y).drew) lR) x.1 (sg gn) (by rw[u.1.nb];exact(H.o.2.2.2.1 _ x.2).2) (ia (gZ kf)) kz (w:=Y.drew) (c:=N) (m:=N) (y3.keep lR λ_ _ _=>rfl) (λi f=>by rw[qm,<-hf,<-u.1.n];exact kz i f) (Nat.le_of_eq qm) (λk R=>B.vol.arr.RL R);have xj:=nt B0.lost (ae (sg gn)) λd hd=>lS yo hd;generalize jZ B0.lost (ae (sg gn))=l1 at xq xj;have qx:ZR ZO 85 #[Z6 (J ⟨v,0,U⟩),I O x.1,Z5 (J ⟨g,0,U⟩) N N,I Z8 (sg gn)] Y.drew λe w'=>(e=Z3 (I Z8 l1)/\MJ w ar v p D L G Kind ps A F sg (pre.map (·.1)++[x.1]) w'/\aa F.S Y.drew w')\/(jY (Mv v ps F) w ar p F (m4 A) e w'/\aa F.S Y.drew w'):=xq.mono λe Z h=>by
   have ep:B0.putAt (ae (sg gn)) x.1 (λi=>.shard (((YE N).map (xL D L G dl)).getD i []))=B0.putAt (ae (sg gn)) x.1 (PQ D L G dl):=by
    unfold an.putAt;congr 1;funext i m;by_cases q:m=x.1/\i∈ae (sg gn);.have xh:i<N:=(by rw[<-hf,<-u.1.n];exact kz i q.2);simp[q,PQ,Ub,xh]
    .rw[TS q,TS q]
   rcases h with⟨M,U',h3⟩|hcut;rotate_left;.refine .inr ⟨(hcut.mono λC q=>(q.md (λi f=>(hn i (kz i f)).1.trans ?_) kz).alk u.1 u.2.1).into (ki.trans (aa.drew Y)) (λ_=>.inl) (q0.keep (w':=Y.drew) rfl) B.nar,hcut.2.2.2⟩;have xh:i<N:=(by rw[<-hf,<-u.1.n];exact kz i f);simp[PQ,Ub,xh]
   rw[ep]at U';exact .inl ⟨M,⟨ps1.SK hq,_,⟨H.o.2.2.2.2.1.re _ _ k1,k2.trans k0.2.1,λk q=>by
    rcases k6 k q with q|q;.exact k0.2.2 k q
    .exact .inr V⟩,⟨u.1.trans (eI.put _ _ _ _),(Ol hn kz).trans u.2.1,λb hb=>by
    rcases Ui.1 hb with q|q;.exact(u.2.2 b q).alk (eI.put _ _ _ _)
    .obtain rfl:=Va.1 q;exact IQ (by rw[u.1.n];exact kf) (by rw[u.1.n,hf];exact yc) (λi f=>yd i (by rw[<-hf,<-u.1.n];exact f))⟩,(x8.below ((TW _ Y).drew)).put U' (eI.put _ _ _ _) h3⟩,h3⟩
  have e3:=d3.cell;have e5:=q0.cells.1;unfold nQ at e3;have xk:=d4.lt;have HC:=al qo qx;clear f h5 k0 hn u hc k9 qf k7 qc ki d2 d3 d4 d5 d6 d7 y7 k1 k2 k3 k4 k5 k6 x8 qk ka h8 q0 qg ym yd qm y3 qo xq qx B kz;gi_wp2;obtain⟨f,ka,h8,qk,ki,d2,d3,d4,d5,d6,d7,k7⟩:=HY.o;have B:=O'.o.1;have s:∀k,w.heap.size<=k->¬F.S k:=λk R q=>ia (B.vol.arr.RL q);have hm:∀Z,aa F.S Y Z->Z.cell? ⟨w.heap.size,0,U⟩=J (Z6 (J ⟨ar,0,U⟩))/\Z.cell? ⟨w.heap.size+1,0,U⟩=J (.func (.func cf) #[] cp)/\Z.cell? ⟨w.heap.size+1+1,0,U⟩=J (I Z8 (Q:Nat))/\Z.cell? ⟨ar,0,U⟩=J (Z6 (J ⟨v,0,U⟩)):=λZ V'=>⟨We ((V'.block _ d2.lt (s _ V)).trans d2),We ((V'.block _ d3.lt (s _ V)).trans d3),We ((V'.block _ d4.lt (s _ V)).trans d4),(Uk (V'.block _ (TY ky ki.size) B.nar)).trans e5⟩;refine bM (dK _) 12 [(0,ZV),(1,ZV),(2,ZV),(3,ZV),(4,ZV),(5,ZV),(6,ZV),(7,ZV),(8,ZV),(9,ZU),(10,ZU),(11,ZV),(12,ZU)] (λZ=>Z.cell? ⟨w.heap.size,0,U⟩=J (Z6 (J ⟨ar,0,U⟩))/\Z.cell? ⟨w.heap.size+1,0,U⟩=J (.func (.func cf) #[] cp)/\Z.cell? ⟨w.heap.size+1+1,0,U⟩=J (I Z8 (Q:Nat))/\Z.cell? ⟨ar,0,U⟩=J (Z6 (J ⟨v,0,U⟩))) ee ee (hm _ (aa.drew Y)) ?_;iterate 9 refine bE ?_
  have zc:∀(args:Array ZS)(w:ZT),(callFunc cf args).run ZO w=.ok (.enter cf args) w:=hE;refine fU (dK _) HC.o.1 rfl rfl nofun oB ?_;rintro e Z⟨rfl,rfl⟩;refine⟨_,rfl,λ_=>hm _ (aa.drew Y),?_⟩;simp only[Act.put,TZ,T5,T6];refine j9 (dK _) HC.o.2 rfl rfl nofun oB ?_;rintro e Z(⟨rfl,kh,kv⟩|⟨hcut,kv⟩);rotate_left;.obtain⟨ch,rfl⟩:=hcut.pan;refine .inr ⟨ch,rfl,λa' ea=>⟨ea,hcut,?_⟩⟩;have hh:aa F.S Y Z:=(aa.drew Y).trans kv;have zg:=hh.size;exact⟨V,λk o R ho xn=>(hh.block k (ia ((TX.1 ho).1)) (s k V)).trans ((k7 k V (TX.1 ho).1 V V (λcs Ty z q=>by rw[q]at ho;have:=UN ho;subst this;cases xn)).trans ho)⟩
  have y4:=hm _ ((aa.drew Y).trans kv);have qd:bits .or .u64 (Q:Int) (l1:Int)=((Q|||l1:Nat):Int):=Ql Q l1 (by have:=qz.out.1;have:=gZ kf;rw[hf]at this;omega) (ia (gZ kf));have k8:Q|||l1<2^N:=V5 qz.out.1 (by rw[<-hf];exact xj);refine .inl ⟨_,rfl,λ_=>y4,?_⟩;simp only[Act.put,TZ,T5,T6];refine lT ?_;simp only[Act.put,TZ,T5,T6];generalize Q|||l1=l2 at*;have xg:ZP Z (w.heap.size+1+1) 123 _:=(((aa.drew Y).trans kv).block _ d4.lt (s _ V)).trans d4;have f4:=xg.frozen;have c4:=xg.cell;refine eC (dK _) (w1:=Z.setCell ⟨w.heap.size+1+1,0,U⟩ (I Z8 (l2:Int))) rfl rfl nofun oB xJ (bI ?_);have HZ:=aE kh kv s k8;clear f ka h8 qk ki d2 d3 d4 d5 d6 d7 k7 B s kh kv e3 e5 hm y4 xg f4 c4 zc k8 xj;simp only[Act.put];gi_wp2;obtain⟨f,ka,h8,qk,ki,d2,d3,d4,d5,d6,d7,k7⟩:=HY.o;obtain⟨kh,kv,s,k8⟩:=HZ.o;have hh:aa F.S Y Z:=(aa.drew Y).trans kv;obtain⟨W,E⟩:=nM (Z.setCell ⟨w.heap.size+1+1,0,U⟩ (I Z8 (l2:Int)));rw[E];have y6:∀k,k≠w.heap.size+1+1->W.heap[k]?=Z.heap[k]?:=λk R=>by rw[<-E];exact Uc _ _ _ _ R
  have z9:Z.heap.size=W.heap.size:=by rw[<-E];simp[World.setCell]
  have y0:aa (λk=>k=w.heap.size+1+1) Z W:=⟨by rw[<-E];rfl,by rw[<-E];rfl,by rw[<-E];rfl,V,λk _ R=>y6 k R⟩;have zg:=hh.size;have kx:∀k,w.heap.size<=k->k<Y.heap.size->k≠w.heap.size+1+1->W.heap[k]?=Y.heap[k]?:=λk M U' h3=>(y6 k h3).trans (hh.block k U' (s k M));have zs:ZP Z (w.heap.size+1+1) 123 _:=(hh.block _ xk (s _ V)).trans d4;have z6:=H.o.2.2.1 _ _ _ _ kh y0 (λk R=>⟨V,λcs Ty z q=>by rw[R,show Z.heap[w.heap.size+1+1]?=J (Z4 _ 123 (0,0))from zs]at q;simp only[UF,UT]at q;rw[<-q.2.1];exact B4⟩);have kc:ZP W (w.heap.size+1+1) 123 (I Z8 (l2:Nat)):=by rw[<-E];exact zs.set _
  have hs:aa (Mv v ps F) w Z:=ki.trans (hh.mono λk _ q=>.inl q);have z8:aa (Mv v ps F) w W:=hs.later y0 (λk M U'=>V);refine⟨?_,V,λk o R ho xn=>?_⟩;.exact⟨(kx _ V V V).trans d2,(kx _ V V V).trans d3,⟨l2,k8,kc⟩,⟨_,x6,(kx _ V V V).trans d5⟩,(kx _ V V V).trans d6,(kx _ V V V).trans d7,⟨_,_,_,ka.keep (kx _ V V V)⟩,⟨_,h8.of_block (kx _ V V V)⟩,by rw[Uz];exact z6,z8,V⟩
  .exact(kx k V (ia ((TX.1 ho).1)) V).trans ((k7 k V (TX.1 ho).1 V V (λcs Ty z q=>by rw[q]at ho;have:=UN ho;subst this;cases xn)).trans ho)
 case done=>
  rintro D1 b9 X zk yy f hK;have xb:w.heap.size+4<=D1:=V;have kb:MdE w ar cf cp D1 N (Mv v ps F) (MJ w ar v p D L G Kind ps A F sg (P++ah os)) X:=⟨f.b2,f.b3,f.b4,f.b5,by have e:b9.map (·.1)=P++ah os:=yy;rw[<-e];exact f.arr,f.out,hK⟩;have s:∀k,w.heap.size<=k->¬Mv v ps F k:=λk R q=>ia (H.o.1 k q);have kj:∀(ls:a7)(W:ZT)(b:Nat)(rc:bF),MdE w ar cf cp D1 N (Mv v ps F) (MJ w ar v p D L G Kind ps A F sg ls) W->b<A.nb->rc.ok->N1 rc->A.at b (λ_=>rc)->ZR ZO 86 #[Z6 (J ⟨ar,0,U⟩),I O b,ef rc,nQ cf cp] W.drew λe Y=>(∃l1:Nat,e=Z3 (I Z8 l1)/\l1<2^N/\MJ w ar v p D L G Kind ps A F sg (b::ls) Y/\aa (Mv v ps F) W.drew Y)\/(jY (Mv v ps F) w ar p F (m4 A) e Y/\Y.heap[D1]?=J (.deferred (J []))):=λls W b rc E hb zf zd x1=>by
   obtain⟨qr,B0,k0,u,hc⟩:=E.arr;have ha:=O'.o.2.2.1;have yj:=hc.below ((TW _ W).drew);have kj:=xF (w:=W.drew) (cf:=cf) (cp:=cp) (sg:=sg) (b:=b) (r:=rc) yj (ha.keep (w':=W.drew) (E.out.block _ ha.lt H.o.2.1)) hE (λX' V'=>O'.o.2.2.2.1 X' ((E.out.trans (aa.drew W)).trans (V'.mono λk _ q=>.inl q))) (λy hy=>by rw[u.1.n]at hy⊢;exact H.o.2.2.2.2.2.1 y hy) (by rw[u.1.nb];exact hb) zf zd (x1.off u.1.Tt λi=>by rw[u.2.1]);have qa:∀Y,aa F.S W.drew Y->Y.heap[D1]?=J (.deferred (J [])):=λY V'=>(V'.block _ (TX.1 E.dk).1 (λq=>s D1 V (.inl q))).trans E.dk;refine kj.mono λe Y h=>?_;rcases h with⟨l1,M,hq,⟨C,⟨hC,z3,z2⟩,z1⟩,V'⟩|hcut;rotate_left;.exact .inr ⟨(hcut.mono λC q=>q.alk u.1 u.2.1).into (E.out.trans (aa.drew W)) (λ_=>.inl) (ha.keep (w':=W.drew) (E.out.block _ ha.lt H.o.2.1)) hc.nar,qa _ hcut.2.2.2⟩
   exact .inl ⟨l1,M,by rw[u.1.n,hf]at hq;exact hq,⟨qr,C,k0,⟨u.1.trans hC,z3.trans u.2.1,λb' za=>(Uu.1 za).elim (λq=>q▸z2) λq=>(u.2.2 b' q).alk hC⟩,yj.put z1 hC V'⟩,V'.mono λk _ q=>.inl q⟩
  have HE:=au kb s kj;clear f hK kb s kj yy;refine jO (n:=m) ?_;gi_wp2;obtain⟨kb,s,kj⟩:=HE.o;obtain⟨f1,ya⟩:=nM (P.getD 0 0);obtain⟨n1,yi⟩:=nM ((aw xs.os).length);have ha:=O'.o.2.2.1;have x7:=kj _ X 0 _ kb V xp trivial HD.o.2.1;rw[ya,yi]at ha x7;have hm:∀(ls:a7)(Q:Nat)W Z,ZP W (w.heap.size+1+1) 123 (I Z8 Q)->MdE w ar cf cp D1 N (Mv v ps F) (MJ w ar v p D L G Kind ps A F sg ls) W->aa (Mv v ps F) W Z->Z.cell? ⟨w.heap.size,0,U⟩=J (Z6 (J ⟨ar,0,U⟩))/\Z.cell? ⟨w.heap.size+1,0,U⟩=J (.func (.func cf) #[] cp)/\Z.cell? ⟨w.heap.size+1+1,0,U⟩=J (I Z8 (Q:Nat))/\bh Z ar v D L G t f1 n1 pg ob ZU:=λ_ Q W Z h4 E V'=>⟨We ((V'.block _ E.b2.lt (s _ V)).trans E.b2),We ((V'.block _ E.b3.lt (s _ V)).trans E.b3),We ((V'.block _ h4.lt (s _ V)).trans h4),ha.keep ((E.out.trans V').block _ ha.lt H.o.2.1)⟩;have kp:∀(Q:Nat)W Z,ZP W (w.heap.size+1+1) 123 (I Z8 Q)->aa (Mv v ps F) W Z->Z.frozen? ⟨w.heap.size+1+1,0,U⟩=ZU:=λ_ W Z h4 V'=>Boxed.frozen ((V'.block _ h4.lt (s _ V)).trans h4);have zn:2^N<=65536:=by rw[<-hf];exact gZ kf
  have qd:∀a b:Nat,a<2^N->b<2^N->bits .or .u64 (a:Int) (b:Int)=((a|||b:Nat):Int):=λa b M U'=>Ql a b V V;obtain⟨Q,qh,ks⟩:=kb.b4;change ZR ZO 86 #[Z6 (J ⟨ar,0,U⟩),I O (0:Nat),.iface 132 (.agg (aq D L G t f1 n1)),.func (.func cf) #[] cp] _ _ at x7;refine bM iD 10 [(0,ZV),(1,ZV),(2,ZV),(3,ZV),(4,ZV),(5,ZV),(6,ZV),(7,ZV),(8,ZU),(9,ZV),(10,ZU)] (λZ=>Z.cell? ⟨w.heap.size,0,U⟩=J (Z6 (J ⟨ar,0,U⟩))/\Z.cell? ⟨w.heap.size+1,0,U⟩=J (.func (.func cf) #[] cp)/\Z.cell? ⟨w.heap.size+1+1,0,U⟩=J (I Z8 (Q:Nat))/\bh Z ar v D L G t f1 n1 pg ob ZU) ee ee (hm _ Q X _ ks kb (aa.drew X)) ?_;iterate 5 refine bE ?_
  refine cZ rfl rfl ⟨.agg (aq D L G t f1 n1),λw' hS=>by simp[execOp,Act.eval,G2 hS.2.2.2],?_⟩;simp only[Act.put,TZ,T5,T6];iterate 2 refine bE ?_
  refine j9 iD x7 rfl rfl nofun oB ?_;rintro e Z(⟨l1,rfl,hq,kh,hs⟩|⟨hcut,qa⟩);rotate_left;.obtain⟨ch,rfl⟩:=hcut.pan;exact .inr ⟨ch,rfl,λa' ea=>pI ea qa (.inr (hcut.shut (λk q=>O'.o.1.vol.arr.RL q) ky V qa))⟩
  have qe:=qd Q l1 qh hq;refine .inl ⟨_,rfl,λ_=>hm _ Q X _ ks kb ((aa.drew X).trans hs),?_⟩;simp only[Act.put,TZ,T5,T6];refine lT ?_;simp only[Act.put,TZ,T5,T6];have k8:Q|||l1<2^N:=V5 qh hq;generalize Q|||l1=l2 at*;have f4:=kp _ X Z ks ((aa.drew X).trans hs);have c4:=(hm _ Q X Z ks kb ((aa.drew X).trans hs)).2.2.1;refine eC iD (w1:=Z.setCell ⟨w.heap.size+1+1,0,U⟩ (I Z8 (l2:Int))) rfl rfl nofun oB xJ (bI ?_);simp only[Act.put];clear f4 c4 x7;have HS:=aE hm kp qd k8;clear hm kp qd qe;obtain⟨ke,kk⟩:=kb.next H.o.1 (H.o.2.2.1 _) xb kh hs k8;obtain⟨W,E⟩:=nM (Z.setCell ⟨w.heap.size+1+1,0,U⟩ (I Z8 (l2:Int)));rw[E]at ke kk⊢;obtain⟨er,ze,h5⟩:=id ke.b5;have c5:=h5.cell;have z0:=au ke h5 kk;clear kb s kj ha kh hs ke E h5 ya yi kk k8 hq qh ks;obtain rfl:er=.nilIface:=ze;gi_wp2;clear c5;obtain⟨ke,h5,kk⟩:=z0.out;obtain⟨kb,s,kj⟩:=HE.o;obtain⟨hm,kp,qd,k8⟩:=HS.o;have xm:=kj _ W 1 .filled ke V trivial trivial HD.o.2.2;change ZR ZO 86 #[Z6 (J ⟨ar,0,U⟩),I O (1:Nat),.iface 165 (.agg #[]),.func (.func cf) #[] cp] _ _ at xm;refine bM iD 7 [(0,ZV),(1,ZV),(2,ZV),(3,ZV),(4,ZV),(5,ZU),(6,ZV),(7,ZU)] (λZ=>Z.cell? ⟨w.heap.size,0,U⟩=J (Z6 (J ⟨ar,0,U⟩))/\Z.cell? ⟨w.heap.size+1,0,U⟩=J (.func (.func cf) #[] cp)/\Z.cell? ⟨w.heap.size+1+1,0,U⟩=J (I Z8 (l2:Nat))/\bh Z ar v D L G t f1 n1 pg ob ZU) ee ee (hm _ l2 W _ kk ke (aa.drew W)) ?_;iterate 5 refine bE ?_
  refine j9 iD xm rfl rfl nofun oB ?_;rintro e Z2(⟨l1,rfl,hq,kh,hs⟩|⟨hcut,qa⟩);rotate_left;.obtain⟨ch,rfl⟩:=hcut.pan;exact .inr ⟨ch,rfl,λa' ea=>pI ea qa (.inr (hcut.shut (λk q=>O'.o.1.vol.arr.RL q) ky V qa))⟩
  have qe:=qd l2 l1 k8 hq;refine .inl ⟨_,rfl,λ_=>hm _ l2 W _ kk ke ((aa.drew W).trans hs),?_⟩;simp only[Act.put,TZ,T5,T6];refine lT ?_;simp only[Act.put,TZ,T5,T6];have xi:l2|||l1<2^N:=V5 k8 hq;generalize l2|||l1=l3 at*;have f4:=kp _ W Z2 kk ((aa.drew W).trans hs);have c4:=(hm _ l2 W Z2 kk ke ((aa.drew W).trans hs)).2.2.1;refine eC iD (w1:=Z2.setCell ⟨w.heap.size+1+1,0,U⟩ (I Z8 (l3:Int))) rfl rfl nofun oB xJ (bI ?_);simp only[Act.put];clear f4 c4 xm hm kp qd qe;obtain⟨xc,qi⟩:=ke.next H.o.1 (H.o.2.2.1 _) xb kh hs xi;have qj:ZP (Z2.setCell ⟨w.heap.size+1+1,0,U⟩ (I Z8 (l3:Int))) (w.heap.size+1+1+1) 51 .nilIface:=(Uc _ _ _ _ (by show w.heap.size+1+1+1≠w.heap.size+1+1;omega)).trans ((((aa.drew W).trans hs).block _ h5.lt (s _ V)).trans h5);obtain⟨W3,y5⟩:=nM (Z2.setCell ⟨w.heap.size+1+1,0,U⟩ (I Z8 (l3:Int)));rw[y5]at xc qi qj⊢;have c4:=qi.cell;have f4:=qi.frozen;have c5:=qj.cell;have f5:=qj.frozen;have qy:=aE xc qj qi xi;clear kb ke h5 kj s kh hs xc y5 qj qi xi k8 hq kk;gi_wp2;gi_region;gi_wp2;exact abm qy.out.1 (H.o.2.2.1 _) qy.out.2.2.1 qy.out.2.1 xb rfl rfl rfl (λY M U'=>.inl ⟨l3,rfl,by rw[hf];exact qy.out.2.2.2,by rw[xo];exact M,U'⟩)
end
