import Derived.Test.YtmpnnokoodjllaaGreatDoorM09
import Derived.BigRegionIn
import Derived.SizedLaws
set_option maxRecDepth 100000
set_option linter.all false
set_option maxHeartbeats 8000000
open Go.IntKind renaming i64 -> Z9, u64 -> Z8
open Go.Value renaming int -> Z7, pointer -> Z6, slice -> Z5, bool -> Z1, string -> ZZ, tuple -> ZY
open Go.Obj renaming cells -> Z4
open Go.Ending renaming returned -> Z3
open Go.Operand renaming tmp -> Z0
open Go renaming undef -> ZX, World -> ZS, Value -> ZR, Calls -> ZQ, Ending -> ZP, TypeId -> ZO, Boxed -> ZN
open Option renaming none -> ZW, some -> ZV
open Bool renaming true -> ZU, false -> ZT
open List renaming range -> YC, getElem_range -> YH
open Array.mk renaming injEq -> YD
open List.cons renaming injEq -> YE
open Int renaming tmod_eq_emod_of_nonneg -> YF, natCast_emod -> YG
open Go.Proofs.Tryz renaming prog -> ZM
open Go.Proofs.Tryz
namespace Go.Proofs.YtmpnnokoodjllaaGreatDoor
def Yn:=@Go.Ending.returned.injEq
def Yo:=@Go.Value.tuple.injEq
def abv:=@Go.World.cell?_spot
def Wo:=@Go.WideShapes.add_plain
def Yp:=@Go.DataW.trod_int
end Go.Proofs.YtmpnnokoodjllaaGreatDoor
namespace Go.Proofs.YtmpnnokoodjllaaGreatDoor
open Go.RowKit Go.Deep Gf Go.Shelf
variable {a:Act} {A:aA} {ops:Array Oper} {cp:Array ZR} {off:Bool} {e:ZP} {R:ZP->ZS->Prop} {F:aR} {cf:FuncId} {cache kc:Int} {ps:aN} {Kind:aN->Prop} {Q:List (ByteArray×ZR)} {l P:a9} {os:List Ob} {cs:List ZR} {p D L G ar B v wb r blocks T b c B' t f n ho D' nn q4 lo g N gone sp m D1 q sa nb rb T' len0 cap0 j i:Nat} {Dn:Nat->Bool} {sg:Nat->Nat} {M:Nat->Prop} {xs ys:bP} {ao:Option Addr} {α H:Type} {s out want pg ob u x rv:ZR} {w w0 w' Z X wr W:ZS} {K J:ZS->Prop}
def Mq (w:ZS) (p D L G:Nat) (cache:Int) (A B:aA) (F:aR) (ar:Nat) (w':ZS):Prop:=∃ v sb ps t pg ob P xs,aO w' ar v p ps D L G t pg ob P xs B F/\lg sb cache D L G ps/\ps.ho<2^A.n/\w.heap.size<=v/\w.heap.size<=ar/\∀ k,ps.bl k->w.heap.size<=k
structure QH (w:ZS) (p D L G:Nat) (cache:Int) (A:aA) (F:aR) (e:ZP) (w':ZS):Prop where
 out:aa (F.has p A.n) w w'
 ans:∃ B,nv A B/\((∃ ar,e=Z3 (ZY #[Z6 (ZV ⟨ar,0,ZW⟩),.nilIface])/\Mq w p D L G cache A B F ar w')\/∃ n:Int,(n=1\/n=3)/\e=Z3 (ZY #[.pointer ZW,iS n])/\aj w' p B F)
 new:(∀ i,i<A.n->A.R9 i 0=ZV .blank)->∃ ar,e=Z3 (ZY #[Z6 (ZV ⟨ar,0,ZW⟩),.nilIface])
theorem Mr (h:aj w p A F) (hf:A.fit) (hn:A.n=D+L+G) (I:uM D L G) (x8:0<=cache) (x9:cache<=64)
 (xa:8<=A.nb) (q6:A.nb<=300) (hw:A.wait<0) (kf:∀ i,A.lost i=ZT) (hv:aY w) (ht:aK w) (hK:3<=w.heap.size) (qv:¬ F.has p A.n 2) (qx:¬ F.has p A.n 1) :
 ZQ ZM 30 #[Z6 (ZV ⟨p,0,ZW⟩),.agg #[Z7 Z9 D,Z7 Z9 L,Z7 Z9 G],.agg #[Z7 Z9 cache]] w λe w'=>QH w p D L G cache A F e w':=by
 have qz:∀ (args:Array ZR) (w:ZS),(callFunc 46 args).run ZM w=.ok (.enter 46 args) w:=UR func46 ei rfl;have s:((w.alloc (Z4 #[Z7 Z9 (D:Int),Z7 Z9 (L:Int),Z7 Z9 (G:Int)] 26)).alloc (Z4 #[Z7 Z9 cache] 53)).heap[w.heap.size]?=ZV (Z4 #[Z7 Z9 (D:Int),Z7 Z9 (L:Int),Z7 Z9 (G:Int)] 26 (0,0)):=(Ut _ _ _ ek).trans (T9 _ _);have ho:((w.alloc (Z4 #[Z7 Z9 (D:Int),Z7 Z9 (L:Int),Z7 Z9 (G:Int)] 26)).alloc (Z4 #[Z7 Z9 cache] 53)).heap[w.heap.size+1]?=ZV (Z4 #[Z7 Z9 cache] 53 (0,0)):=by
  have:=T9 (w.alloc (Z4 #[Z7 Z9 (D:Int),Z7 Z9 (L:Int),Z7 Z9 (G:Int)] 26)) (Z4 #[Z7 Z9 cache] 53);rwa [Ua] at this
 have Q:bW w ((w.alloc (Z4 #[Z7 Z9 (D:Int),Z7 Z9 (L:Int),Z7 Z9 (G:Int)] 26)).alloc (Z4 #[Z7 Z9 cache] 53)):=(bA w _).alloc ek _;have km:((w.alloc (Z4 #[Z7 Z9 (D:Int),Z7 Z9 (L:Int),Z7 Z9 (G:Int)] 26)).alloc (Z4 #[Z7 Z9 cache] 53)).heap.size=w.heap.size+2:=ek
 obtain ⟨w2,x4⟩:=nM ((w.alloc (Z4 #[Z7 Z9 (D:Int),Z7 Z9 (L:Int),Z7 Z9 (G:Int)] 26)).alloc (Z4 #[Z7 Z9 cache] 53));rw [x4] at s ho Q km;have p0:w2.cell? ⟨w.heap.size,0,ZW⟩=ZV (Z7 Z9 D):=by simp [World.cell?,s]
 have p1:w2.cell? ⟨w.heap.size,1,ZW⟩=ZV (Z7 Z9 L):=by simp [World.cell?,s]
 have p2:w2.cell? ⟨w.heap.size,2,ZW⟩=ZV (Z7 Z9 G):=by simp [World.cell?,s]
 have H2:=a5 s ho Q km;clear s ho Q km;go_enter func30,ntmps30;go_wp2_with fail;refine (pQ D L G _).mono ?_;rw [I.r];rintro e J ⟨rfl,ka⟩;obtain ⟨s,ho,Q,km⟩:=H2.out;have kh:=(ka.block _ eb).trans s;have Y:=(ka.block _ eb).trans ho;have U:bW w J:=Q.trans (ka.mono Q.size);have qc:=ka.size;have o0:J.cell? ⟨w.heap.size+1,0,ZW⟩=ZV (Z7 Z9 cache):=by simp [World.cell?,Y]
 have R:=a5 kh Y U (eb:w.heap.size+2<=J.heap.size);clear s ho Q km kh Y U ka qc p0 p1 p2;obtain ⟨N,kz⟩:=nM (A.n);have jT:=DR (h.below (R.out.2.2.1.trans ((TX _ J).drew.mono R.out.2.2.1.size)) lR);rw [kz] at jT;have kj:∀ X,ZQ ZM 8 #[.agg #[Z7 Z9 D,Z7 Z9 L,Z7 Z9 G]] X λe w'=>e=Z3 (Z7 Z9 (N:Nat))/\bW X w':=λX=>by
  rw [<- kz,hn,(eb:((D+L+G:Nat):Int)=(D:Int)+L+G)];have:=I.d;have:=I.l4;have:=I.g;exact dU (D:Int) (L:Int) (G:Int) X ⟨eb,eb⟩ ⟨eb,eb⟩ ⟨eb,eb⟩
 have HD:=au jT kj;have p0:J.cell? ⟨w.heap.size,0,ZW⟩=ZV (Z7 Z9 D):=abC
 have p1:J.cell? ⟨w.heap.size,1,ZW⟩=ZV (Z7 Z9 L):=abC
 have p2:J.cell? ⟨w.heap.size,2,ZW⟩=ZV (Z7 Z9 G):=abC
 clear jT kj kz;go_upto_region 6 with fail;go_cut [21] from 24 to 28 (λhb wx=>hb=Z1 ZT/\bW J wx)
 case first=>
  go_region_with (first
   | (go_at_call 43;refine HD.out.1.mono ?_;rintro e w' ⟨rfl,rfl⟩)
   | (go_at_call 8;refine (HD.out.2 _).mono ?_;rintro e c ⟨rfl,qg⟩;have H7:=al (((TX _ J).drew).trans qg);clear qg))
  all_goals (go_wp2_with fail;go_meet;case rel=>exact ⟨ek,H7.out⟩)
 case rest=>
 rename ZS=>w4;obtain ⟨rfl,kb⟩:=hcut;clear HD p0 p1 p2;obtain ⟨kh,Y,U,qc⟩:=R.out;have kv:=(kb.block _ eb).trans kh;have qj:=(kb.block _ eb).trans Y;have hm:bW w w4:=U.trans (kb.mono U.size);have x7:=kb.size;have qh:=kl (h.below hm lR) (eT I.d1);have q5:¬ ((A.nb:Nat):Int)<8:=eb
 have q0:w4.cell? ⟨w.heap.size,0,ZW⟩=ZV (Z7 Z9 D):=by simp [World.cell?,kv]
 have q1:w4.cell? ⟨w.heap.size,1,ZW⟩=ZV (Z7 Z9 L):=by simp [World.cell?,kv]
 have q2:w4.cell? ⟨w.heap.size,2,ZW⟩=ZV (Z7 Z9 G):=by simp [World.cell?,kv]
 have o4:w4.cell? ⟨w.heap.size+1,0,ZW⟩=ZV (Z7 Z9 cache):=by simp [World.cell?,qj]
 have H4:=aE hm qh (eb:w.heap.size+2<=w4.heap.size);clear kh Y U qc kv qj hm x7 qh kb o0;obtain ⟨NB,qe⟩:=nM (A.nb);rw [qe] at H4 q5;clear qe;go_wp2_with fail;refine H4.out.2.1.mono ?_;rintro e w5 ⟨rfl,x5⟩;subst x5;go_wp2_with fail;refine (DP p D L G cache w5).mono ?_;rintro e a ⟨v,u,rfl,x2,ko,kk,q4⟩;obtain ⟨hs,_,qp⟩:=H4.out;have hx:bW w a:=hs.trans (q4.mono hs.size);have qq:=q4.size;have kc:bW a (a.alloc (Z4 (lL v 0 0 0 0 0 0 (Z5 ZW 0 0) (Z5 ZW 0 0) ZT) 115)):=bA a _;have V:bf (a.alloc (Z4 (lL v 0 0 0 0 0 0 (Z5 ZW 0 0) (Z5 ZW 0 0) ZT) 115)) a.heap.size v 0 0 0 0 0 0 (Z5 ZW 0 0) (Z5 ZW 0 0) ZT:=T9 _ _;obtain ⟨c,q7⟩:=nM (a.alloc (Z4 (lL v 0 0 0 0 0 0 (Z5 ZW 0 0) (Z5 ZW 0 0) ZT) 115));rw [q7] at kc V;have y:bW w c:=hx.trans (kc.mono hx.size);have qf:rp c v p D L G (u+1+1+1) 0 A F:=⟨ko.keep (kc.block _ ko.lt),h.below y lR,hv.below y hv.lt,ht.keep (y.block _ ht.lt),TU hK y.size⟩;have C:∀ k,F.has p A.n k->k<w.heap.size:=λk l=>h.RQ l;have qd:m8 F p A.n v:=⟨λq=>eT (C v q),qv,qx⟩;have k8:¬ F.has p A.n a.heap.size:=λq=>eT (C _ q)
 have kx:a.heap.size<c.heap.size:=V.lt;have qo:v<a.heap.size:=ko.lt;have x0:=kk.2.2.lt;obtain ⟨hz,k0,kj⟩:=kk;have ke:(nu u cache D L G [] [] 0).S c:=QF (kj.below kc) D L G;have E:∀ k,(nu u cache D L G [] [] 0).bl k->u<=k/\k<=u+1+1+1:=λk l=>by
  rcases l with q|q|⟨q,s,_⟩
  . exact q
  . cases q
  . cases s
 have qk:oe c a.heap.size v p (nu u cache D L G [] [] 0) D L G A F:=⟨qf,qd,k8,⟨eb,qo⟩,kx,hf,I,hn,hw,kf,ke,λk l=>by
  have:=E k l;exact ⟨eb,eb,eb,λe=>eT (C _ e)⟩⟩
 have qn:mu D L G (lg u cache D L G) (nu u cache D L G [] [] 0) A.n:=⟨yJ I.r I I.l1,λps x l=>by
  obtain ⟨es,qs,ho,rfl⟩:=l;exact ⟨es,qs,x,rfl⟩,⟨[],[],0,rfl⟩,VH _⟩
 have qm:=mb 46 #[Z6 (ZV ⟨a.heap.size,0,ZW⟩)] #[] qz c a.heap.size _ V rfl
  (λw1 x w2=>w2.heap[c.heap.size]?=ZV (Z4 #[.nilIface] 42 (0,0))/\EX w1 a.heap.size v p D L G (lg u cache D L G) (nu u cache D L G [] [] 0) A F (Z3 x) w2/\((∀ i,i<A.n->A.R9 i 0=ZV .blank)->x=.nilIface))
  (λw1 W qb qi=>(Mk (qk.below W) (V.keep (W.block _ V.lt)) qn eb q6).mono (by
   rintro e w2 ⟨H,M⟩;have kr:w2.heap[c.heap.size]?=w1.heap[c.heap.size]?:=H.out.block _ eb (λq=>by
    rcases q with q|q|q|q
    . have:=C _ q;omega
    . omega
    . have:=E _ q;omega
    . omega)
   obtain ⟨ps',B,_,_,_,hi⟩:=id H.ans;rcases hi with ⟨rfl,t,pg,ob,P,xs,O⟩|⟨n,kg,rfl,_,D',L',G',t,f,n',pg,ob,q3⟩
   . exact ⟨_,rfl,.inl rfl,⟨kr.trans qi,H,λ_=>rfl⟩,kr,_,O.R3,rfl⟩
   . exact ⟨_,rfl,.inr ⟨n,eb,rfl⟩,⟨kr.trans qi,H,λh=>by have:=M h;injection this⟩,kr,_,q3,rfl⟩))
 have q8:a.alloc (Z4 #[Z6 (ZV ⟨v,0,ZW⟩),Z7 Z9 0,Z7 Z9 0,Z7 Z9 0,Z7 Z8 0,Z7 Z9 0,Z7 Z9 0,Z5 ZW 0 0,Z5 ZW 0 0,Z1 ZT] 115)=c:=q7;have H7:=hide10 y C qm E hz k0 qo kx qp qq;have x1:w.heap.size<=v:=eb
 clear x0 hz k0 kj ke E qk qn qm hs hx kc V y qf ko q4 qd k8 q0 q1 q2 o4 q7;go_wp2_with fail;clear q8;refine H7.out.2.2.1.mono ?_;rintro e w8 ⟨x,w1,z,rfl,_,W,qb,⟨kp,H,M⟩,rfl⟩;obtain ⟨y,C,_,E,hz,k0,x3,kx,qp,qq⟩:=H7.out;have he:bW w w1:=y.trans (W.mono y.size);have x6:=y.size;have hO:aa (F.has p A.n) w z:=(aa.RO he _).later H.out (λk l q=>by
  rcases q with q|q|q|q
  . exact q
  . omega
  . have:=E _ q;omega
  . omega)
 obtain ⟨ps',B,m,h8,o,hi⟩:=H.ans;have Z:∀ k,k≠c.heap.size->k≠a.heap.size->((z.setCell ⟨c.heap.size,0,ZW⟩ x).setCell ⟨a.heap.size,9,ZW⟩ (Z1 ZT)).heap[k]?=z.heap[k]?:=λk h1 h2=>(T7 _ _ _ _ h2).trans (T7 _ _ _ _ h1);have ky:((z.setCell ⟨c.heap.size,0,ZW⟩ x).setCell ⟨a.heap.size,9,ZW⟩ (Z1 ZT)).heap.size=z.heap.size:=l7
 have K:aa (F.has p A.n) w ((z.setCell ⟨c.heap.size,0,ZW⟩ x).setCell ⟨a.heap.size,9,ZW⟩ (Z1 ZT)):=hO.later (T:=λk=>w.heap.size<=k) ⟨rfl,rfl,rfl,by rw [ky];exact TV _,λk _ l=>Z k eb eb⟩ (λk h1 h2=>eb);rcases hi with ⟨qa,t,pg,ob,P,xs,O⟩|⟨n,kg,qa,hc,_⟩
 . have q9:x=.nilIface:=(by injection qa);subst q9;have k9:(z.setCell ⟨c.heap.size,0,ZW⟩ .nilIface).heap[a.heap.size]?=ZV (Z4 (lL v D L G t (P.getD 0 0) (aG xs.os).length pg ob ZT) 115 (0,0)):=(T7 _ _ _ _ (by show a.heap.size≠c.heap.size;omega)).trans O.R3;have ki:=ai (j:=9) k9 (Z1 ZT);have h9:∀ k,k≠c.heap.size->((z.setCell ⟨c.heap.size,0,ZW⟩ .nilIface).setCell ⟨a.heap.size,9,ZW⟩ (Z1 ZT)).heap[k]?=z.heap[k]?:=λk h1=>by
    by_cases e:k=a.heap.size
    . subst e;exact ki.trans O.R3.symm
    . exact Z k h1 e
   have qy:B.n=A.n:=o.n;have ks:=O.aside (w':=(z.setCell ⟨c.heap.size,0,ZW⟩ .nilIface).setCell ⟨a.heap.size,9,ZW⟩ (Z1 ZT)) (b:=c.heap.size) (B:=c.heap.size) (yG kp) (O.TJ kp) (by rw [ky];exact TV _) (λj hj _=>h9 j hj) lR (λk l=>by rw [qy] at l;have:=C k l;omega) eb kx eb;have HW:Hid (True/\∀ k,ps'.bl k->w.heap.size<=k):=al ⟨trivial,λk l=>by
    rcases m.2 k l with q|q
    . have:=E k q;omega
    . have:=he.size;omega⟩
   have HF:=a8 K o ks m h8 E;clear hO H kp Z ky K O k9 ki h9 ks o m h8 M W qb he;go_wp2;go_ret2;obtain ⟨K,o,ks,m,h8,E⟩:=HF.out;exact ⟨K,⟨B,o,.inl ⟨a.heap.size,rfl,v,u,ps',t,pg,ob,P,xs,ks,m.1,h8,x1,eb,λk l=>(HW.out.2 k l)⟩⟩,λ_=>⟨_,rfl⟩⟩
 . have q9:x=iS n:=(by injection qa);subst q9;have HF:=a5 K o (hc.keep λk l=>Z k (by have m:F.has p B.n k:=l;rw [o.n] at m;have:=C k m;omega) (by have m:F.has p B.n k:=l;rw [o.n] at m;have:=C k m;omega)) M;clear hO H kp Z ky K hc o m h8 M W qb he;unfold iS;go_wp2;go_ret2;obtain ⟨K,o,hc,M⟩:=HF.out;exact ⟨K,⟨B,o,.inr ⟨n,kg,rfl,hc⟩⟩,λh=>by have:=M h;unfold iS at this;cases this⟩
structure QI (w w2:ZS) (D L G cache:Int):Prop where
 par:w2.heap[w.heap.size]?=ZV (Z4 #[Z7 Z9 D,Z7 Z9 L,Z7 Z9 G] 26 (0,0))
 opt:w2.heap[w.heap.size+1]?=ZV (Z4 #[Z7 Z9 cache] 53 (0,0))
 below:bW w w2
 size:w2.heap.size=w.heap.size+2
def QJ (w:ZS) (D L G cache:Int):QI w ((w.alloc (Z4 #[Z7 Z9 D,Z7 Z9 L,Z7 Z9 G] 26)).alloc (Z4 #[Z7 Z9 cache] 53)) D L G cache:=by
 refine ⟨(Ut _ _ _ ek).trans (T9 _ _),?_,(bA w _).alloc ek _,ek⟩;have:=T9 (w.alloc (Z4 #[Z7 Z9 D,Z7 Z9 L,Z7 Z9 G] 26)) (Z4 #[Z7 Z9 cache] 53);rwa [Ua] at this
structure E2 (w:ZS) (p D L G:Nat) (cache:Int) (A:aA) (F:aR) (e:ZP) (w':ZS):Prop where
 out:aa (F.has p A.n) w w'
 ans:∃ B,nv A B/\((∃ sa ar,e=Z3 (ZY #[Z6 (ZV ⟨sa,0,ZW⟩),.nilIface])/\w.heap.size<=sa/\ZN w' sa 99 (Z6 (ZV ⟨ar,0,ZW⟩))/\Mq w p D L G cache A B F ar w')\/∃ n:Int,(n=1\/n=3)/\e=Z3 (ZY #[.pointer ZW,iS n])/\aj w' p B F)
 new:(∀ i,i<A.n->A.R9 i 0=ZV .blank)->∃ sa,e=Z3 (ZY #[Z6 (ZV ⟨sa,0,ZW⟩),.nilIface])
def Mq.wide {w'':ZS} {B:aA} (h:Mq w p D L G cache A B F ar w') (a:w0.heap.size<=w.heap.size) (f:bW w' w''):Mq w0 p D L G cache A B F ar w'':=by
 obtain ⟨v,g,ps,t,pg,ob,P,xs,b,c,d,i,j,e⟩:=h;exact ⟨v,g,ps,t,pg,ob,P,xs,b.below f,c,d,eb,eb,λk q=>TU a (e k q)⟩
theorem IW (h:aj w p A F) (z:A.fit) (K:A.n=D+L+G) (M:uM D L G) (C:0<=cache) (E:cache<=64)
 (I:8<=A.nb) (v:A.nb<=300) (N:A.wait<0) (s:∀ i,A.lost i=ZT) (hv:aY w) (ht:aK w) (hK:3<=w.heap.size) (x:¬ F.has p A.n 2) (y:¬ F.has p A.n 1) :
 ZQ ZM 11 #[Z6 (ZV ⟨p,0,ZW⟩),.agg #[Z7 Z9 D,Z7 Z9 L,Z7 Z9 G],.agg #[Z7 Z9 cache]] w (E2 w p D L G cache A F):=by
 have b:=QJ w D L G cache;obtain ⟨w2,J⟩:=nM ((w.alloc (Z4 #[Z7 Z9 (D:Int),Z7 Z9 (L:Int),Z7 Z9 (G:Int)] 26)).alloc (Z4 #[Z7 Z9 cache] 53));rw [J] at b;have P:w2.cell? ⟨w.heap.size,0,ZW⟩=ZV (Z7 Z9 D):=abU
 have Q:w2.cell? ⟨w.heap.size,1,ZW⟩=ZV (Z7 Z9 L):=abU
 have R:w2.cell? ⟨w.heap.size,2,ZW⟩=ZV (Z7 Z9 G):=abU
 have O:w2.cell? ⟨w.heap.size+1,0,ZW⟩=ZV (Z7 Z9 cache):=by simp [World.cell?,b.opt]
 have a:=b.below;have r:=Mr (h.below a lR) z K M C E I v N s (hv.below a hv.lt) (ht.keep (a.block _ ht.lt)) (TU hK a.size) x y;have H:=au b r;clear b r a;go_enter func11,ntmps11;go_wp2_with fail;refine H.out.2.mono ?_;rintro e d c;obtain ⟨B,o,t⟩:=id c.ans;have f:=au c o;clear c o;rcases t with ⟨ar,rfl,m⟩|⟨n,u,rfl,k⟩
 . have j:=al m;clear m;go_wp2;go_ret2;have c:=f.out.1;have a:=H.out.1.below;have g:aa (F.has p A.n) w d:=(aa.RO a _).trans c.out;have l:bW d (d.alloc (Z4 #[Z6 (ZV ⟨ar,0,ZW⟩)] 99)):=bA d _;exact ⟨g.trans (aa.RO l _),⟨B,f.out.2,.inl ⟨d.heap.size,ar,rfl,g.size,Uj d _ _,j.out.wide a.size l⟩⟩,λ_=>⟨_,rfl⟩⟩
 . have j:=al k;clear k;unfold iS;go_wp2;go_ret2;have c:=f.out.1;have a:=H.out.1.below;have g:aa (F.has p A.n) w d:=(aa.RO a _).trans c.out;exact ⟨g,⟨B,f.out.2,.inr ⟨n,u,rfl,j.out⟩⟩,λq=>by obtain ⟨_,e⟩:=c.new q;unfold iS at e;cases e⟩
theorem kV (d:Int) (m:Nat) (f:0<m) (e:m<=1000):∃ n:Nat,n<m/\wrap64 ((IntKind.u64.wrap d).tmod m)=(n:Int):=by
 have a:0<=IntKind.u64.wrap d:=Zn
 rw [YF a];have b:=Int.emod_nonneg (IntKind.u64.wrap d) (eb:(m:Int)≠0);have c:=Int.emod_lt_of_pos (IntKind.u64.wrap d) (eb:(0:Int)<m);refine ⟨(IntKind.u64.wrap d%m).toNat,eb,?_⟩;rw [(eb:((IntKind.u64.wrap d%(m:Int)).toNat:Int)=IntKind.u64.wrap d%m)];generalize IntKind.u64.wrap d%(m:Int)=z at b c;unfold wrap64;omega
theorem OA (a b c:Int) (w:ZS):ZQ ZM 5 #[Z7 Z9 a,Z7 Z9 b,Z7 Z9 c] w λe w'=>∃ D L G:Nat,e=Z3 (.agg #[Z7 Z9 D,Z7 Z9 L,Z7 Z9 G])/\uM D L G/\D<=6/\bW w w':=by
 obtain ⟨o,A,f⟩:=kV a 6 ec ec;obtain ⟨p,B,g⟩:=kV b 3 ec ec;obtain ⟨kc,P,i⟩:=kV c 4 ec ec;have q:wrap64 ((IntKind.u64.wrap a).tmod 6)=(o:Int):=vE f
 have r:wrap64 ((IntKind.u64.wrap b).tmod 3)=(p:Int):=vE g
 have s:wrap64 ((IntKind.u64.wrap c).tmod 4)=(kc:Int):=vE i
 obtain ⟨D,F⟩:=nM (o+1);obtain ⟨k,C⟩:=nM (p+1);have M:wrap64 (1+(o:Int))=(D:Int):=K0
 have y:wrap64 (1+(p:Int))=(k:Int):=K0
 clear f g i;have O:1<=D/\D<=6:=eb
 have t:1<=k/\k<=3:=eb
 clear F C A B;go_enter func5,ntmps5;go_wp2;go_loopw [8] (λv wr=>∃ l:Nat,1<=l/\l<=3/\v=Z7 Z9 (l:Nat)/\wr=w.alloc (Z4 #[Z7 Z9 0,Z7 Z9 0,Z7 Z9 0] 26)) (λv _=>(intOf v).toNat)
 case atStart=>exact ⟨k,t.1,t.2,by rw [y],rfl⟩
 case round=>
  obtain ⟨l,E,N,rfl,rfl⟩:=hrel;have S:¬ (l:Int)=0:=eb
  have H:Int.tmod (D:Int) (l:Int)=((D%l:Nat):Int):=by rw [YF eb,YG]
  obtain ⟨m,d⟩:=nM (D%l);rw [d] at H;by_cases z:m=0
  . subst z;have x:Hid (uM D l kc):=al ⟨by unfold cJ;apply decide_eq_true;refine ⟨eb,eb,eb,eb,eb,eb,?_,eb⟩;rw [<- YG,d];rfl,eb,eb,E,eb,eb,d,eb⟩;clear d;go_wp2;have n:ay (w.alloc (Z4 #[Z7 Z9 (D:Nat),Z7 Z9 (l:Nat),Z7 Z9 (kc:Nat)] 26)) w.heap.size 26 [Z7 Z9 (D:Nat),Z7 Z9 (l:Nat),Z7 Z9 (kc:Nat)]:=UG w _;have I:=n.cell (j:=0) (u:=Z7 Z9 (D:Nat)) rfl;have J:=n.cell (j:=1) (u:=Z7 Z9 (l:Nat)) rfl;have K:=n.cell (j:=2) (u:=Z7 Z9 (kc:Nat)) rfl;refine Uf (v:=.agg #[Z7 Z9 (D:Nat),Z7 Z9 (l:Nat),Z7 Z9 (kc:Nat)]) (by simp [results,results5,go_sem,I,J,K]) rfl ?_;exact ⟨D,l,kc,rfl,x.out,eb,bA w _⟩
  . have Q:2<=l:=by
     rcases XF l 2 with h|h
     . have:l=1:=by omega
       subst this;rw [Nat.mod_one] at d;omega
     . exact h
    have R:¬ (m:Int)=0:=eb;have T:IntKind.i64.wrap ((l:Int)-1)=(l:Int)-1:=iE;clear d;go_wp2;refine ⟨⟨l-1,eb,eb,by rw [(eb:((l-1:Nat):Int)=(l:Int)-1)],trivial⟩,?_⟩;show ((l:Int)-1).toNat<((l:Int)).toNat;omega
structure og where
 kind:Int
 a:Int
 s:ByteArray
 d:a9
def QK (w:ZS) (v:ZR) (l:List og):Prop:=
 ∃ ao c,v=.slice ao l.length c/\(l≠[]->∃ b off,ao=ZV ⟨b,off,ZW⟩/\b<w.heap.size/\∀ i (hi:i<l.length),∃ dv,w.cell? ⟨b,off+i*4,ZW⟩=ZV (Z7 Z9 l[i].kind)/\w.cell? ⟨b,off+i*4+1,ZW⟩=ZV (Z7 Z9 l[i].a)/\w.cell? ⟨b,off+i*4+2,ZW⟩=ZV (ZZ l[i].s)/\w.cell? ⟨b,off+i*4+3,ZW⟩=ZV dv/\Bs w dv l[i].d)
def ga (l:List og):Nat:=(l.map λx=>x.s.size+x.d.length).sum
def rI (l:List og) (k:Nat) (a:k<l.length):ga (l.take (k+1))=ga (l.take k)+(l[k].s.size+l[k].d.length):=by
 have e:l.take (k+1)=l.take k++[l[k]]:=by rw [Vd,T2 a];rfl
 rw [e];unfold ga;rw [Uu,X2];simp only [UD,U5,abc,List.sum_nil,Vs]
def CT (l:List og) (k:Nat):ga (l.take k)<=ga l:=by
 unfold ga;have h:l.map (λx=>x.s.size+x.d.length)=(l.take k).map (λx=>x.s.size+x.d.length)++(l.drop k).map (λx=>x.s.size+x.d.length):=by rw [<- Uu,Wc]
 rw [h,X2];omega
def aa1 (w:ZS) (l:List og) (vn vi:ZR) (wr:ZS):Prop:=∃ k:Nat,k<=l.length/\vi=Z7 Z9 (k:Nat)/\vn=Z7 Z9 (ga (l.take k):Nat)/\ga (l.take k)<=100000/\bW w wr
def QL (w:ZS) (l:List og) (e:ZP) (w':ZS):Prop:=∃ bb,e=Z3 (Z1 bb)/\(bb=ZU->l.length<=200/\ga l<=100000)/\bW w w'
theorem yL {v:ZR} {l:List og} (h:QK w v l) (hs:∀ x∈l,x.s.size<=140737488355328/\x.d.length<=140737488355328) :
 ZQ ZM 4 #[v] w (QL w l):=by
 obtain ⟨ao,c,rfl,t⟩:=h;by_cases P:200<l.length
 . have I:(200:Int)<(l.length:Int):=eb;clear t;go_enter func4,ntmps4;go_wp2;go_ret;exact ⟨ZT,rfl,λe=>Za,TX _ _⟩
 . have I:¬ (200:Int)<(l.length:Int):=eb;have E:=al t;clear t;go_enter func4,ntmps4;go_wp2;go_loopw [3,4] (λL z wr=>aa1 w l L z wr) (λ_ z _=>l.length-(intOf z).toNat)
   case atStart=>exact ⟨0,T3 _,rfl,rfl,by simp [ga],TX _ _⟩
   case round=>
    obtain ⟨k,T,rfl,rfl,n,f⟩:=hrel;by_cases i:k<l.length
    . obtain ⟨b,off,rfl,B,A⟩:=E.out (λe=>by rw [e] at i;simp at i);obtain ⟨O,J,K,u,y,D⟩:=A k i;obtain ⟨M,N,rfl,_⟩:=id D;have g:=rI l k i;have G:=hs l[k] (T4 i);obtain ⟨s,r⟩:=nM (l[k].s);obtain ⟨dl,o⟩:=nM (l[k].d.length);rw [r,o] at g G;rw [r] at u;rw [o] at y;obtain ⟨a,q⟩:=nM (ga (l.take k));rw [q] at g n ⊢;obtain ⟨W,H⟩:=nM (s.size);have F:(k:Int)<(l.length:Int):=eb;have R:IntKind.i64.wrap ((a:Int)+(s.size:Int))=(a:Int)+(s.size:Int):=iE;have S:IntKind.i64.wrap ((a:Int)+(s.size:Int)+(dl:Int))=(a:Int)+(s.size:Int)+(dl:Int):=iE;have U:IntKind.i64.wrap ((k:Int)+1)=(k:Int)+1:=iE;have V:=(f.cell (p:=⟨b,off+k*4+2,ZW⟩) B).trans u;have q4:=(f.cell (p:=⟨b,off+k*4+3,ZW⟩) B).trans y;have m:=aE g q f;clear g q f J K u y D A r o H;go_wp2;go_quiet (fail);have j:Hid (bW w (wr.drewN nq)):=al (m.out.2.2.trans ⟨rfl,rfl,rfl,TV _,λ_ _=>rfl⟩);by_cases Q:(100000:Int)<(a:Int)+(s.size:Int)+(dl:Int)
      . go_wp2;go_ret;exact ⟨ZT,rfl,λe=>Za,j.out⟩
      . go_wp2;have g:=m.out.1;refine ⟨⟨k+1,eb,e8,?_,eb,j.out⟩,?_⟩
        . rw [g,(eb:((a+(s.size+dl):Nat):Int)=(a:Int)+(s.size:Int)+(dl:Int))]
        . simp only [intOf];omega
    . have C:k=l.length:=eb;have F:¬ (k:Int)<(l.length:Int):=eb;have m:Hid (l.length<=200/\ga l<=100000):=al ⟨eb,by rw [C,VE] at n;exact n⟩;have j:=al f;clear C n f;go_wp2;go_ret;exact ⟨ZU,rfl,λ_=>m.out,j.out⟩
def MU (D L G:Nat) (a s r:ZR) (blocks:Nat) (out want:ZR) (cache:Int):List ZR:=[Z7 Z9 (D:Nat),Z7 Z9 (L:Nat),Z7 Z9 (G:Nat),a,s,r,Z7 Z9 (blocks:Nat),out,want,Z7 Z9 cache]
def gL (w:ZS) (wb D L G:Nat) (a s r:ZR) (blocks:Nat) (out want:ZR) (cache:Int):Prop:=ay w wb 47 (MU D L G a s r blocks out want cache)
def gL.cells {a r:ZR} (h:gL w wb D L G a s r blocks out want cache) :
 w.cell? ⟨wb,0,ZW⟩=ZV (Z7 Z9 (D:Nat))/\w.cell? ⟨wb,1,ZW⟩=ZV (Z7 Z9 (L:Nat))/\w.cell? ⟨wb,2,ZW⟩=ZV (Z7 Z9 (G:Nat))/\w.cell? ⟨wb,3,ZW⟩=ZV a/\w.cell? ⟨wb,4,ZW⟩=ZV s/\w.cell? ⟨wb,5,ZW⟩=ZV r/\w.cell? ⟨wb,6,ZW⟩=ZV (Z7 Z9 (blocks:Nat))/\w.cell? ⟨wb,7,ZW⟩=ZV out/\w.cell? ⟨wb,8,ZW⟩=ZV want/\w.cell? ⟨wb,9,ZW⟩=ZV (Z7 Z9 cache):=
 ⟨ay.cell h rfl,ay.cell h rfl,ay.cell h rfl,ay.cell h rfl,ay.cell h rfl,ay.cell h rfl,ay.cell h rfl,ay.cell h rfl,ay.cell h rfl,ay.cell h rfl⟩
def QM (wb D L G p:Nat) (r:ZR) (blocks:Nat) (out want:ZR) (cache:Int) (R:Nat->ZS->Prop) (R2:ZS->Prop) (e:ZP) (w':ZS):Prop:=
 (e=Z3 (Z1 ZU)/\∃ sa w2 w3,R sa w2/\bW w2 w3/\gL w' wb D L G (Z6 (ZV ⟨p,0,ZW⟩)) (Z6 (ZV ⟨sa,0,ZW⟩)) r blocks out want cache/\w'=w3.setCell ⟨wb,4,ZW⟩ (Z6 (ZV ⟨sa,0,ZW⟩))) \/
 (e=Z3 (Z1 ZT)/\∃ w2 w3,R2 w2/\bW w2 w3/\gL w' wb D L G (Z6 (ZV ⟨p,0,ZW⟩)) (.pointer ZW) r blocks out want cache/\w'=w3.setCell ⟨wb,4,ZW⟩ (.pointer ZW))
theorem IX {r:ZR} (h:gL w wb D L G (Z6 (ZV ⟨p,0,ZW⟩)) s r blocks out want cache) (hs:∃ o,s=.pointer o) (R:Nat->ZS->Prop) (q:ZS->Prop) (E:∀ sa w2,R sa w2->w2.heap[wb]?=w.heap[wb]?) (a:∀ w2,q w2->w2.heap[wb]?=w.heap[wb]?/\bz w2)
 (ho:ZQ ZM 11 #[Z6 (ZV ⟨p,0,ZW⟩),.agg #[Z7 Z9 D,Z7 Z9 L,Z7 Z9 G],.agg #[Z7 Z9 cache]] w.drew λe w2=>(∃ sa,e=Z3 (ZY #[Z6 (ZV ⟨sa,0,ZW⟩),.nilIface])/\R sa w2)\/∃ n:Int,(n=1\/n=3)/\e=Z3 (ZY #[.pointer ZW,iS n])/\q w2) :
 ZQ ZM 15 #[Z6 (ZV ⟨wb,0,ZW⟩)] w (QM wb D L G p r blocks out want cache R q):=by
 obtain ⟨z,c1,A,B,H,I,J,K,M,C⟩:=h.cells;have i:=a5 ho h E a;clear ho h E a H I J K M;go_enter func15,ntmps15;go_upto_region 1 with fail;go_cut [3,4] from 6 to 34 (λk l F=>(∃ sa,k=Z6 (ZV ⟨sa,0,ZW⟩)/\l=.nilIface/\R sa F)\/∃ n:Int,(n=1\/n=3)/\k=.pointer ZW/\l=iS n/\q F)
 case first=>
  go_region_with (go_at_call 11;refine i.out.1.mono ?_;intro e w2 x;obtain ⟨k,l,Q⟩:∃ k l,e=Z3 (ZY #[k,l]):=(by rcases x with ⟨sa,rfl,_⟩|⟨n,_,rfl,_⟩;exact ⟨_,_,rfl⟩;exact ⟨_,_,rfl⟩);subst Q;have b:=al x;clear x);all_goals (go_wp2_with fail;go_meet;case rel=>exact (by rcases b.out with ⟨sa,g,y⟩|⟨n,S,g,y⟩;(simp only [Yn,Yo,YD,YE,and_true] at g;exact .inl ⟨sa,g.1,g.2,y⟩);(simp only [Yn,Yo,YD,YE,and_true] at g;exact .inr ⟨n,S,g.1,g.2,y⟩)))
 case rest=>
  obtain ⟨t,rfl⟩:=hs;rcases hcut with ⟨sa,rfl,rfl,a⟩|⟨n,U,rfl,rfl,a⟩
  . have d:gL wc wb D L G (Z6 (ZV ⟨p,0,ZW⟩)) (.pointer t) r blocks out want cache:=ay.keep i.out.2.1 (i.out.2.2.1 sa wc a);have u:=d.cells.2.2.2.2.1;have v:=ay.R8 d 4;have b:=au a d;clear a d z c1 A B C;go_wp2_with fail;refine (oK wc).mono ?_;rintro e m ⟨rfl,f⟩;have c:gL m wb D L G (Z6 (ZV ⟨p,0,ZW⟩)) (.pointer t) r blocks out want cache:=ay.keep b.out.2 (f.block _ (ay.lt b.out.2));have N:=c.cells.2.2.2.2.1;have O:=ay.R8 c 4;have j:=au f c;clear f c u v;dsimp only;go_wp2;go_ret;exact .inl ⟨rfl,sa,wc,m,b.out.1,j.out.1,ay.set j.out.2 4 [Z6 (ZV ⟨sa,0,ZW⟩)] Zt,rfl⟩
  . have d:gL wc wb D L G (Z6 (ZV ⟨p,0,ZW⟩)) (.pointer t) r blocks out want cache:=ay.keep i.out.2.1 (i.out.2.2.2 wc a).1;have u:=d.cells.2.2.2.2.1;have v:=ay.R8 d 4;have P:=nI n wc (i.out.2.2.2 wc a).2;have b:=au a d;have T:¬ n=0:=eb;clear a d z c1 A B C;unfold iS;go_wp2_with fail;refine P.mono ?_;rintro e m ⟨rfl,f⟩;have c:gL m wb D L G (Z6 (ZV ⟨p,0,ZW⟩)) (.pointer t) r blocks out want cache:=ay.keep b.out.2 (f.block _ (ay.lt b.out.2));have N:=c.cells.2.2.2.2.1;have O:=ay.R8 c 4;have j:=au f c;clear f c u v;dsimp only;go_wp2;go_ret;exact .inr ⟨rfl,wc,m,b.out.1,j.out.1,ay.set j.out.2 4 [.pointer ZW] Zt,rfl⟩
def Kd (B:Nat) (T:ZO) (w w':ZS):Prop:=∀ j cs,j<B->w.heap[j]?=ZV (Z4 cs T (0,0))->w'.heap[j]?=w.heap[j]?
def Kd.below (h:bW w w') (B:Nat) (T:ZO):Kd B T w w':=λj _ _ a=>h.block j (TW.1 a).1
def Kd.trans {T:ZO} {a b c:ZS} (h:Kd B T a b) (k:Kd B T b c):Kd B T a c:=λj cs d e=>(k j cs d ((h j cs d e).trans e)).trans (h j cs d e)
def Kd.mono {T:ZO} {a b:ZS} (h:Kd B T a b) (c:B'<=B):Kd B' T a b:=λj cs d q=>h j cs eb q
def Law (T:ZO):Prop:=T=61\/T=79\/T=99\/T=5\/T=33
def gd (B:Nat) (w w':ZS):Prop:=∀ T,Law T->Kd B T w w'
def gd.below (h:bW w w') (B:Nat):gd B w w':=λT _=>Kd.below h B T
def gd.trans {a b c:ZS} (h:gd B a b) (k:gd B b c):gd B a c:=λT d=>(h T d).trans (k T d)
def gd.mono {a b:ZS} (h:gd B a b) (c:B'<=B):gd B' a b:=λT d=>(h T d).mono c
def gd.live (l:aj w p A F) (r:bf w ar v D L G t f n pg ob off) (hv:bk w v p D L G ps.ps ho) (o:ps.S w) (m:aa (λj=>j=ar\/F.has p A.n j\/j=v\/ps.bl j) w w'):gd B w w':=λT i j cs _ b=>m.block j (TW.1 b).1 (λq=>by
 have a:T≠115/\T≠87/\T≠91/\T≠40/\T≠4:=by
  rcases i with rfl|rfl|rfl|rfl|rfl<;>exact ⟨ec,ec,ec,ec,ec⟩
 have h:T≠137/\¬ jP T:=by
  rcases i with rfl|rfl|rfl|rfl|rfl<;>exact ⟨ec,vf⟩
 rcases q with q|q|q|q
 . subst q;have g:w.heap[j]?=ZV (Z4 (lL v D L G t f n pg ob off) 115 (0,0)):=r;rw [b] at g;simp only [UC,U1] at g;exact a.1 g.2.1
 . obtain ⟨cs',T',e,s⟩:=l.kind q;rw [b] at e;simp only [UC,U1] at e;have c:=e.2.1;rcases s with k|k|k|k
   . exact a.2.1 (c.trans k)
   . exact a.2.2.1 (c.trans k)
   . exact a.2.2.2.1 (c.trans k)
   . exact a.2.2.2.2 (c.trans k)
 . subst q;have d:=hv;unfold bk at d;rw [b] at d;simp only [UC,U1] at d;exact h.1 d.2.1
 . exact b8 o b h.2 q)
def Mt {base size:Nat} {T:ZO} {v:ZR} {xs:List ZR} (h:w.ownsRow base T size v n xs) (f:Kd B T w w') (e:w.heap.size<=B):w'.ownsRow base T size v n xs:=by
 refine ⟨h.1,?_⟩;rcases h.2 with d|⟨g,cap,cur,b,c,a,i⟩
 . exact .inl d
 . exact .inr ⟨g,cap,cur,b,c,(f _ _ (TY (TW.1 a).1 e) a).trans a,i⟩
def Ow (w:ZS) (v:ZR) (l:a9):Prop:=(∃ base,w.ownsRow base 5 1 v l.length (aJ l))/\(∀ x∈l,x<256)/\l.length<=1500
def Ow.nil (w:ZS):Ow w (Z5 ZW 0 0) []:=⟨⟨0,UB _ _ _ _⟩,λx a=>(by cases a),ec⟩
def Ow.keep {v:ZR} (h:Ow w v l) (d:Kd w.heap.size 5 w w'):Ow w' v l:=by
 obtain ⟨⟨base,a⟩,b,c⟩:=h;exact ⟨⟨base,Mt a d lR⟩,b,c⟩
def Ow.bs {v:ZR} (h:Ow w v l):Bs w v l:=by
 obtain ⟨⟨base,ho⟩,e,o⟩:=h;rcases ho.2 with ⟨rfl,d⟩|⟨g,cap,cur,rfl,f,i,c,j,m,n⟩
 . have:l=[]:=UK d;subst this;exact ⟨ZW,0,rfl,TV _,ec,λx h=>Bf,λh=>absurd rfl h⟩
 . refine ⟨_,cap,rfl,c,eb,e,λ_=>⟨g,0,rfl,λk b=>?_⟩⟩;have a:=ho.cells (g:=g) rfl k (Z7 .u8 ((l.getD k 0:Nat):Int)) (by
    unfold aJ;rw [Ul,T2 b,T6,T2 b];rfl)
   rw [jU] at a;rw [Uc];exact a
def Ow.sl {v:ZR} (h:Ow w v l):kD v/\DY v=l.length:=by
 obtain ⟨⟨base,ho⟩,_,a⟩:=h;obtain ⟨b,c,rfl⟩:=bM ho;exact ⟨⟨_,_,_,rfl,eb⟩,rfl⟩
def nz (w:ZS):List (ByteArray×ZR)->bP->Prop
 | [],[]=>True
 | q::Q,x::xs=>(q.1=x.1.name/\Ow w q.2 x.2)/\nz w Q xs
 | _,_=>False
def nz.len:∀ {Q:List (ByteArray×ZR)} {xs:bP},nz w Q xs->Q.length=xs.length
 | [],[],_=>rfl
 | [],_::_,h=>h.elim
 | _::_,[],h=>h.elim
 | _::Q,_::xs,h=>by rw [Um,Um,nz.len h.2]
def nz.keep (a:∀ v l,Ow w v l->Ow w' v l):∀ {Q:List (ByteArray×ZR)} {xs:bP},nz w Q xs->nz w' Q xs
 | [],[],_=>trivial
 | [],_::_,h=>h.elim
 | _::_,[],h=>h.elim
 | _::_,_::_,h=>⟨⟨h.1.1,a _ _ h.1.2⟩,nz.keep a h.2⟩
def nz.take:∀ {Q:List (ByteArray×ZR)} {xs:bP} (k:Nat),nz w Q xs->nz w (Q.take k) (xs.take k)
 | _,_,0,_=>by simp only [VQ];exact trivial
 | [],[],_+1,_=>trivial
 | [],_::_,_+1,h=>h.elim
 | _::_,[],_+1,h=>h.elim
 | _::_,_::_,k+1,h=>⟨h.1,nz.take k h.2⟩
def nz.drop:∀ {Q:List (ByteArray×ZR)} {xs:bP} (k:Nat),nz w Q xs->nz w (Q.drop k) (xs.drop k)
 | _,_,0,h=>h
 | [],[],_+1,_=>trivial
 | [],_::_,_+1,h=>h.elim
 | _::_,[],_+1,h=>h.elim
 | _::_,_::_,k+1,h=>nz.drop k h.2
def nz.app:∀ {Q Q':List (ByteArray×ZR)} {xs xs':bP},nz w Q xs->nz w Q' xs'->nz w (Q++Q') (xs++xs')
 | [],_,[],_,_,a=>a
 | [],_,_::_,_,h,_=>h.elim
 | _::_,_,[],_,h,_=>h.elim
 | _::_,_,_::_,_,h,a=>⟨h.1,nz.app h.2 a⟩
def nz.sl:∀ {Q:List (ByteArray×ZR)} {xs:bP},nz w Q xs->∀ o∈Q,kD o.2
 | [],_,_,_,h=>Bf
 | _::_,[],h,_,_=>h.elim
 | q::Q,x::xs,h,o,ho=>by
  rcases Un.1 ho with rfl|ho
  . exact h.1.2.sl.1
  . exact nz.sl h.2 o ho
def iu (cf:FuncId) (cp:Array ZR):ZR:=.func (.func cf) #[] cp
def Cho (cf:FuncId) (cp:Array ZR) (sg:Nat->Nat) (X:ZS):Prop:=∀ bd:Nat,ZQ ZM cf (#[Z7 Z8 bd]++cp) X λe X'=>e=Z3 (Z7 Z8 (sg bd:Nat))/\X'=X
def QN (cf:FuncId):Prop:=∀ (args:Array ZR) (w:ZS),(callFunc cf args).run ZM w=.ok (.enter cf args) w
def yM (h:∀ i,A.lost i=ZT) (ds:a9):ln A ds=0:=xL λi _=>h i
theorem vu {L' G':Nat} {r:bx} (ho:oe w ar v p ps D L G A F) (c:bf w ar v D' L' G' t f nn pg ob ZT) (T:QN cf) (j:∀ X,aa (F.has p A.n) w X->Cho cf cp sg X) (W:∀ x,x<2^A.n->sg x<2^A.n) (U:b<A.nb) (a:r.ok) (l:LO r) :
 ZQ ZM 92 #[Z6 (ZV ⟨ar,0,ZW⟩),Z7 Z9 b,bm r,iu cf cp] w λe w'=>e=Z3 (Z7 Z8 (0:Nat))/\(∃ B,nv A B/\aj w' p B F)/\aa (F.has p A.n) w w':=by
 have S:A.n<=16:=by rw [ho.n];exact ho.par.s
 have h2:2^A.n<=65536:=je S;have P:=m4 c;have O:=iR ho.vol ho.free ho.fit b ho.n ho.par.d ho.par.l4 ho.par.g (eT ho.wait);obtain ⟨tr,rv,y⟩:=iL r;have u:=a7 ho c j a l;unfold QN at T;clear ho c j a l;unfold iu;rw [y];go_enter func92,ntmps92;go_wp2_with fail;refine O.mono ?_;rintro e w1 ⟨g,rfl,hg,J,⟨rs,m⟩,h⟩;obtain ⟨ho,c,j,a,l⟩:=u.out;have q:=uJ (w:=w1) (R:=λi=>A.R9 i b) (r:=r) eb l J;rw [y] at q;have Q:=m4 (c.keep (h.block _ c.lt ho.Si));have o:=ho.vol.turn ho.free h m;obtain ⟨N,k⟩:=nM (A.n);rw [k] at q;rw [k];have C:=a5 o h m k;clear ho c j a l o h m k J O P;go_wp2_with fail;refine q.mono ?_;rintro e w2 ⟨x,rfl,Z,rfl⟩;clear q;obtain ⟨ho,c,j,a,l⟩:=u.out;obtain ⟨o,h,m,k⟩:=C.out;have M:=j w2.drew (h.trans (aa.drew _)) x;have Y:=W x (by rw [k];exact Z);have z:=eL (o.below ((TX _ w2).drew) lR) ho.free (ho.fit.rd rs) b (sg x) U eb (λi V=>qT Y V) ho.wait ho.here r a (qA a);rw [yM (A:=A.rd rs) ho.here,y] at z;have E:=au M z;clear ho c j a l o h m k M z;go_upto_region 2 with fail;go_region_with (first
  | (go_at_call 98;refine E.out.2.mono ?_;rintro e w3 ⟨rfl,I,K⟩;have H:=au I K;clear I K)
  | (refine E.out.1.mono ?_;rintro e w3 ⟨rfl,rfl⟩))
 all_goals (
  go_wp2;go_ret;obtain ⟨ho,c,j,a,l⟩:=u.out;obtain ⟨o,h,m,k⟩:=C.out;exact ⟨rfl,⟨_,(nv.rd ho.fit rs).trans (nv.put (ho.fit.rd rs) _ _ (λi _=>⟨dJ a,fO a⟩)),H.out.1⟩,h.trans ((aa.drew _).trans H.out.2)⟩)
noncomputable def RMd:Array Oper:=((Tryz.f60.body.bind (nZ · 7))).getD #[]
def aa2:List (Op×Option Nat×a9):=[(Op.load 131 (Z0 4),ZV 29,[]),
 (Op.load 95 (Z0 2),ZV 30,[]),
 (Op.nilCheck (Z0 30),ZV 31,[1]),
 (Op.fieldAddr 115 (Z0 31) 0,ZV 32,[2]),
 (Op.load 106 (Z0 32),ZV 33,[3]),
 (Op.move (Z0 7),ZV 34,[]),
 (Op.move (Z0 8),ZV 35,[]),
 (Op.load 172 (Z0 3),ZV 36,[]),
 (Op.move (Z0 9),ZV 37,[]),
 (Op.call { callee:=Callee.value (Z0 36),args:=#[Z0 37],argTypes:=#[131] },ZV 38,[7,8]),
 (Op.call { callee:=Callee.value (Operand.func 91),args:=#[Z0 33,Z0 34,Z0 35,Z0 38],argTypes:=#[106,3,176,131] },ZV 39,[4,5,6,9,9]),
 (Op.binOp BinOp.or 131 (Z0 29) (Z0 39) 131,ZV 40,[0,10]),
 (Op.store 131 (Z0 4) (Z0 40),ZW,[11,10,0,1,2,3,4,5,6,7,8,9,10,11])]
def IY:aL RMd 29 41 aa2:=bj ei ei
def aa3 (l ar v x g N bd S ls lo:Nat) (cf:FuncId) (cp:Array ZR):List ZR:=[Z7 Z8 l,Z6 (ZV ⟨ar,0,ZW⟩),Z6 (ZV ⟨ar,0,ZW⟩),Z6 (ZV ⟨ar,0,ZW⟩),Z6 (ZV ⟨v,0,ZW⟩),Z7 Z9 x,Z5 (ZV ⟨g,0,ZW⟩) N N,.func (.func cf) #[] cp,Z7 Z8 bd,Z7 Z8 S,Z7 Z8 ls,Z7 Z8 lo,ZX]
def Je (w0:ZS) (T:Nat->Prop) (K:ZS->Prop) (q4 lo:Nat) (Dn:Nat->Bool) (w:ZS):Prop:=if Dn 12=ZU then ∃ Z,K Z/\aa T w0 Z/\w=Z.setCell ⟨q4,0,ZW⟩ (Z7 Z8 (lo:Nat)) else aa T w0 w/\(if Dn 10=ZU then K w else w=w0)
def fF {T:Nat->Prop} (h:Je w0 T K q4 lo Dn w) (i:Nat) (c:i≠10) (d:i≠12):Je w0 T K q4 lo (du Dn i) w:=by
 have a:du Dn i 12=Dn 12:=by unfold du;rw [if_neg (λe:12=i=>d e.symm)]
 have b:du Dn i 10=Dn 10:=by unfold du;rw [if_neg (λe:10=i=>c e.symm)]
 unfold Je;rw [a,b];exact h
def kW {T:Nat->Prop} (h:Je w0 T K q4 lo Dn w) (a:Dn 12=ZT):aa T w0 w:=by
 unfold Je at h;rw [if_neg ZC] at h;exact h.1
theorem CU {lr:Nat} {Q:Exit->Act->ZS->Prop} (hc:RMd=ops) (hy:a.tmps.size=62) {T:Nat->Prop} {K:ZS->Prop} {l ar v x g N bd S D lo z A q4:Nat} {cf:FuncId} {cp:Array ZR}
 (J:ZN w z 95 (Z6 (ZV ⟨ar,0,ZW⟩))) (F:ZN w A 172 (iu cf cp)) (B:ZN w q4 131 (Z7 Z8 l)) (hm:ar<w.heap.size) (hv:w.cell? ⟨ar,0,ZW⟩=ZV (Z6 (ZV ⟨v,0,ZW⟩)))
 (t2:¬ T z) (t3:¬ T A) (O:¬ T q4) (ta:¬ T ar) (hs:∀ w':ZS,(binOp .or 131 (Z7 Z8 l) (Z7 Z8 D)).run ZM w'=.ok (Z7 Z8 lo) w')
 (hp:QN cf) (hq:ZQ ZM cf (#[Z7 Z8 bd]++cp) w.drew λe w'=>e=Z3 (Z7 Z8 S)/\w'=w.drew)
 (hx:ZQ ZM 91 #[Z6 (ZV ⟨v,0,ZW⟩),Z7 Z9 x,Z5 (ZV ⟨g,0,ZW⟩) N N,Z7 Z8 S] w.drew λe w'=>e=Z3 (Z7 Z8 D)/\K w'/\aa T w.drew w')
 (R:a.eval (Z0 2)=Z6 (ZV ⟨z,0,ZW⟩)) (U:a.eval (Z0 3)=Z6 (ZV ⟨A,0,ZW⟩)) (I:a.eval (Z0 4)=Z6 (ZV ⟨q4,0,ZW⟩)) (V:a.eval (Z0 7)=Z7 Z9 x) (W:a.eval (Z0 8)=Z5 (ZV ⟨g,0,ZW⟩) N N) (X:a.eval (Z0 9)=Z7 Z8 bd)
 (hQ:∀ (Z:ZS) (P:List ZR),P.length=12->K Z->aa T w.drew Z->Q .normal (Act.RL a 29 P) (Z.setCell ⟨q4,0,ZW⟩ (Z7 Z8 (lo:Nat)))) :
 (Code.region 7 ops ZU).wpIn (Fence.wide.inRound lr) n ZM Q a w:=by
 subst hc;unfold iu at F;unfold QN at hp;refine bu ei IY a w eb (λi u _=>u=(aa3 l ar v x g N bd S D lo cf cp).getD i ZX) (Je w.drew T K q4 lo) ⟨aa.refl _ _,rfl⟩ ?_ ?_
 . intro i G;match i,G with
   | 0,_=>
    intro o d w' Dn y ho m r p q j b k;have s:Dn 12=ZT:=by
     cases e:Dn 12 with
     | false=>rfl
     | true=>exact absurd ((q 12 e).2 0 ec) W8
    have t:=kW b s;have u0:d.eval (Z0 4)=Z6 (ZV ⟨q4,0,ZW⟩):=(r.slot 4 eb).trans I;have E:=(show ZN w' q4 131 (Z7 Z8 l) from (t.block _ B.lt O).trans B).cell;exact ak (v:=Z7 Z8 l) ee ej m ⟨fF b _ ec ec,rfl,kq⟩
   | 1,_=>
    intro o d w' Dn y ho m r p q j b k;have s:Dn 12=ZT:=by
     cases e:Dn 12 with
     | false=>rfl
     | true=>exact absurd ((q 12 e).2 1 ec) W8
    have t:=kW b s;have u0:d.eval (Z0 2)=Z6 (ZV ⟨z,0,ZW⟩):=(r.slot 2 eb).trans R;have E:=(show ZN w' z 95 (Z6 (ZV ⟨ar,0,ZW⟩)) from (t.block _ J.lt t2).trans J).cell;exact ak (v:=Z6 (ZV ⟨ar,0,ZW⟩)) ee ej m ⟨fF b _ ec ec,rfl,kq⟩
   | 2,_=>
    intro o d w' Dn y ho m r p q j b k;exact ak (v:=Z6 (ZV ⟨ar,0,ZW⟩)) (dR ho (k 1 (j 1 ec)) w') ej m ⟨fF b _ ec ec,rfl,kq⟩
   | 3,_=>
    intro o d w' Dn y ho m r p q j b k;have u0:d.eval (Z0 31)=Z6 (ZV ⟨ar,0,ZW⟩):=k 2 (j 2 ec);exact ak (v:=Z6 (ZV ⟨ar,0,ZW⟩)) ee ej m ⟨fF b _ ec ec,rfl,kq⟩
   | 4,_=>
    intro o d w' Dn y ho m r p q j b k;have s:Dn 12=ZT:=by
     cases e:Dn 12 with
     | false=>rfl
     | true=>exact absurd ((q 12 e).2 4 ec) W8
    have t:=kW b s;have u0:d.eval (Z0 32)=Z6 (ZV ⟨ar,0,ZW⟩):=k 3 (j 3 ec);have E:w'.cell? ⟨ar,0,ZW⟩=ZV (Z6 (ZV ⟨v,0,ZW⟩)):=(Uh (t.block _ hm ta)).trans hv;exact ak (v:=Z6 (ZV ⟨v,0,ZW⟩)) ee ej m ⟨fF b _ ec ec,rfl,kq⟩
   | 5,_=>
    intro o d w' Dn y ho m r p q j b k;exact ak (ah ho ((r.slot 7 eb).trans V) w') ej m ⟨fF b _ ec ec,rfl,kq⟩
   | 6,_=>
    intro o d w' Dn y ho m r p q j b k;exact ak (ah ho ((r.slot 8 eb).trans W) w') ej m ⟨fF b _ ec ec,rfl,kq⟩
   | 7,_=>
    intro o d w' Dn y ho m r p q j b k;have s:Dn 12=ZT:=by
     cases e:Dn 12 with
     | false=>rfl
     | true=>exact absurd ((q 12 e).2 7 ec) W8
    have t:=kW b s;have u0:d.eval (Z0 3)=Z6 (ZV ⟨A,0,ZW⟩):=(r.slot 3 eb).trans U;have E:=(show ZN w' A 172 (.func (.func cf) #[] cp) from (t.block _ F.lt t3).trans F).cell;exact ak (v:=.func (.func cf) #[] cp) ee ej m ⟨fF b _ ec ec,rfl,kq⟩
   | 8,_=>
    intro o d w' Dn y ho m r p q j b k;exact ak (ah ho ((r.slot 9 eb).trans X) w') ej m ⟨fF b _ ec ec,rfl,kq⟩
   | 9,_=>
    intro o d w' Dn y ho m r p q j b k;have s:Dn 12=ZT:=by
     cases e:Dn 12 with
     | false=>rfl
     | true=>exact absurd ((q 12 e).2 9 ec) W8
    have t:=kW b s;have ha:Dn 10=ZT:=by
     cases e:Dn 10 with
     | false=>rfl
     | true=>exact absurd ((q 10 e).2 9 ec) W8
    have C:w'=w.drew:=by
     unfold Je at b;rw [if_neg abJ] at b;have:=b.2;rwa [if_neg (by rw [ha];decide)] at this
    have u0:d.eval (Z0 36)=.func (.func cf) #[] cp:=k 7 (j 7 ec);have u1:d.eval (Z0 37)=Z7 Z8 bd:=k 8 (j 8 ec);have hd:d.tmps[36]?.getD ZX=.func (.func cf) #[] cp:=B3;have hz:d.tmps[37]?.getD ZX=Z7 Z8 bd:=A1;refine gz (f:=cf) (args:=#[Z7 Z8 bd]++cp) (w1:=w') Ax ej m (by rw [C];exact hq) ?_;rintro e H ⟨rfl,rfl⟩;have M:=fF b 9 ec ec;rw [C] at M;exact ⟨_,rfl,M,rfl,kq⟩
   | 10,_=>
    intro o d w' Dn y ho m r p q j b k;have s:Dn 12=ZT:=by
     cases e:Dn 12 with
     | false=>rfl
     | true=>exact absurd ((q 12 e).2 10 ec) W8
    have t:=kW b s;have C:w'=w.drew:=by
     unfold Je at b;rw [if_neg abJ] at b;have:=b.2;rwa [if_neg W8] at this
    have u0:d.eval (Z0 33)=Z6 (ZV ⟨v,0,ZW⟩):=k 4 (j 4 ec);have u1:d.eval (Z0 34)=Z7 Z9 x:=k 5 (j 5 ec);have u2:d.eval (Z0 35)=Z5 (ZV ⟨g,0,ZW⟩) N N:=k 6 (j 6 ec);have u3:d.eval (Z0 38)=Z7 Z8 S:=k 9 (j 9 ec);refine gz (f:=91) (args:=#[Z6 (ZV ⟨v,0,ZW⟩),Z7 Z9 x,Z5 (ZV ⟨g,0,ZW⟩) N N,Z7 Z8 S]) (w1:=w') (by (conv at ho=>rhs;whnf);simp only [execOp,ho];go_simp;exact ⟨B3,A1,YY,abL⟩) ej m (by rw [C];exact hx) ?_;rintro e H ⟨rfl,hK,hj⟩;refine ⟨_,rfl,?_,rfl,kq⟩;unfold Je;rw [if_neg (by show ¬ du Dn 10 12=ZU;unfold du;rw [if_neg ec,s];decide),if_pos B9];exact ⟨hj,hK⟩
   | 11,_=>
    intro o d w' Dn y ho m r p q j b k;have u0:d.eval (Z0 29)=Z7 Z8 l:=k 0 (j 0 ec);have u1:d.eval (Z0 39)=Z7 Z8 D:=k 10 (j 10 ec);have he:=hs w';exact ak (v:=Z7 Z8 lo) (by (conv at ho=>rhs;whnf);simp [execOp,ho,u0,u1,eqGuard,he]) ej m ⟨fF b _ ec ec,rfl,kq⟩
   | 12,_=>
    intro o d w' Dn y ho m r p q j b k;have t:=kW b p;have u0:d.eval (Z0 4)=Z6 (ZV ⟨q4,0,ZW⟩):=(r.slot 4 eb).trans I;have u1:d.eval (Z0 40)=Z7 Z8 lo:=k 11 (j 11 ec);have L:=show ZN w' q4 131 (Z7 Z8 l) from (t.block _ B.lt O).trans B;have c4:=L.cell;have f4:=L.frozen;refine jD (w':=w'.setCell ⟨q4,0,ZW⟩ (Z7 Z8 lo)) ua ej ⟨?_,rfl,kq⟩;have hh:K w':=by
     unfold Je at b;rw [if_neg W8] at b;have:=b.2;rwa [if_pos (j 10 ec)] at this
    unfold Je;rw [if_pos B9];exact ⟨w',hh,t,rfl⟩
   | n+13,hn=>exact absurd hn abW
 . rintro d w' hr _ ⟨Dn,Y,b⟩ k;unfold Je at b;rw [if_pos (Y 12 ec)] at b;obtain ⟨Z,hK,t,rfl⟩:=b;have e:d=Act.RL a 29 ((YC 12).map λi=>d.eval (.tmp (29+i))):=hr.out _ ek eb (λi G=>by
    simp at G;rw [T6,Ul,Ve eb];rfl)
   rw [e];exact hQ Z _ Y5 hK t
def CV (c s:Nat) (w0:ZS) (T:Nat->Prop) (K:ZS->Prop) (q4 lo:Nat) (Dn:Nat->Bool) (w:ZS):Prop:=if Dn s=ZU then ∃ Z,K Z/\aa T w0 Z/\w=Z.setCell ⟨q4,0,ZW⟩ (Z7 Z8 (lo:Nat)) else aa T w0 w/\(if Dn c=ZU then K w else w=w0)
def dr {s:Nat} {T:Nat->Prop} (h:CV c s w0 T K q4 lo Dn w) (i:Nat) (d:i≠c) (f:i≠s):CV c s w0 T K q4 lo (du Dn i) w:=by
 have a:du Dn i s=Dn s:=by unfold du;rw [if_neg (λe:s=i=>f e.symm)]
 have b:du Dn i c=Dn c:=by unfold du;rw [if_neg (λe:c=i=>d e.symm)]
 unfold CV;rw [a,b];exact h
def eO {s:Nat} {T:Nat->Prop} (h:CV c s w0 T K q4 lo Dn w) (a:Dn s=ZT):aa T w0 w:=by
 unfold CV at h;rw [if_neg ZC] at h;exact h.1
def E3 (h:bf w ar v D L G t f nn pg ob off):(Instr.loadAt 110 (Z6 (ZV ⟨ar,1,ZW⟩))).run ZM w=.ok (.agg (av D L G t f nn)) w:=by
 have b:w.heap[ar]?=ZV (Z4 (lL v D L G t f nn pg ob off) 115 (0,0)):=h;have c:w.rangeAt ar 1 (av D L G t f nn).toList:=λj u a=>by
  unfold av at a;match j with
  | 0|1|2|3|4|5=>simp at a;subst a;simp [World.cell?,b,lL]
  | j+6=>simp at a
 exact run_loadAt_mid (P:=ZM) w ar 1 110 (av D L G t f nn).toList _ c WG rfl ei
noncomputable def RM8:Array Oper:=((Tryz.f60.body.bind (nZ · 8))).getD #[]
def aa4:List (Op×Option Nat×a9):=[(Op.load 131 (Z0 4),ZV 41,[]),
 (Op.load 95 (Z0 2),ZV 42,[]),
 (Op.load 95 (Z0 2),ZV 43,[]),
 (Op.nilCheck (Z0 43),ZV 44,[2]),
 (Op.fieldAddr 115 (Z0 44) 1,ZV 45,[3]),
 (Op.load 110 (Z0 45),ZV 46,[4]),
 (Op.makeInterface 110 (Z0 46),ZV 47,[5]),
 (Op.load 172 (Z0 3),ZV 48,[]),
 (Op.call { callee:=Callee.value (Operand.func 92),args:=#[Z0 42,Operand.const (Value.int IntKind.i64 0),Z0 47,Z0 48],argTypes:=#[95,3,195,172] },ZV 49,[1,6,7]),
 (Op.binOp BinOp.or 131 (Z0 41) (Z0 49) 131,ZV 50,[0,8]),
 (Op.store 131 (Z0 4) (Z0 50),ZW,[9,8,0,1,2,3,4,5,6,7,8,9])]
def IZ:aL RM8 41 51 aa4:=bj ei ei
def aa5 (l ar ls lo D L G t f nn:Nat) (cf:FuncId) (cp:Array ZR):List ZR:=[Z7 Z8 l,Z6 (ZV ⟨ar,0,ZW⟩),Z6 (ZV ⟨ar,0,ZW⟩),Z6 (ZV ⟨ar,0,ZW⟩),Z6 (ZV ⟨ar,1,ZW⟩),.agg (av D L G t f nn),bm (.root D L G t f nn),.func (.func cf) #[] cp,Z7 Z8 ls,Z7 Z8 lo,ZX]
theorem I0 {Q:Exit->Act->ZS->Prop} (V:RM8=ops) (hs:a.tmps.size=62) {T:Nat->Prop} {K:ZS->Prop} {l ar v C lo y z q4 D L G t f nn:Nat} {cf:FuncId} {cp:Array ZR} {pg ob:ZR} {off:Bool}
 (A:ZN w y 95 (Z6 (ZV ⟨ar,0,ZW⟩))) (F:ZN w z 172 (iu cf cp)) (B:ZN w q4 131 (Z7 Z8 l)) (M:bf w ar v D L G t f nn pg ob off)
 (P:¬ T y) (t3:¬ T z) (R:¬ T q4) (ta:¬ T ar) (hq:∀ w':ZS,(binOp .or 131 (Z7 Z8 l) (Z7 Z8 C)).run ZM w'=.ok (Z7 Z8 lo) w')
 (O:ZQ ZM 92 #[Z6 (ZV ⟨ar,0,ZW⟩),Z7 Z9 (0:Nat),bm (.root D L G t f nn),iu cf cp] w.drew λe w'=>e=Z3 (Z7 Z8 C)/\K w'/\aa T w.drew w')
 (I:a.eval (Z0 2)=Z6 (ZV ⟨y,0,ZW⟩)) (U:a.eval (Z0 3)=Z6 (ZV ⟨z,0,ZW⟩)) (J:a.eval (Z0 4)=Z6 (ZV ⟨q4,0,ZW⟩))
 (X:∀ (Z:ZS) (S:List ZR),S.length=10->K Z->aa T w.drew Z->Q .normal (Act.RL a 41 S) (Z.setCell ⟨q4,0,ZW⟩ (Z7 Z8 (lo:Nat)))) :
 (Code.region 8 ops ZU).wpIn Fence.wide n ZM Q a w:=by
 subst V;unfold iu at F O;have hj:=M.lt;refine bu ei IZ a w eb (λi u _=>u=(aa5 l ar C lo D L G t f nn cf cp).getD i ZX) (CV 8 10 w.drew T K q4 lo) ⟨aa.refl _ _,rfl⟩ ?_ ?_
 . intro i H;match i,H with
   | 0,_=>
    intro o d w' Dn x ho k r m p g b j;have s:Dn 10=ZT:=by
     cases e:Dn 10 with
     | false=>rfl
     | true=>exact absurd ((p 10 e).2 0 ec) Jx
    have q:=eO b s;have u0:d.eval (Z0 4)=Z6 (ZV ⟨q4,0,ZW⟩):=(r.slot 4 eb).trans J;have E:=(show ZN w' q4 131 (Z7 Z8 l) from (q.block _ B.lt R).trans B).cell;exact bC (v:=Z7 Z8 l) ee ej k ⟨dr b _ ec ec,rfl,kq⟩
   | 1,_=>
    intro o d w' Dn x ho k r m p g b j;have s:Dn 10=ZT:=by
     cases e:Dn 10 with
     | false=>rfl
     | true=>exact absurd ((p 10 e).2 1 ec) Jx
    have q:=eO b s;have u0:d.eval (Z0 2)=Z6 (ZV ⟨y,0,ZW⟩):=(r.slot 2 eb).trans I;have E:=(show ZN w' y 95 (Z6 (ZV ⟨ar,0,ZW⟩)) from (q.block _ A.lt P).trans A).cell;exact bC (v:=Z6 (ZV ⟨ar,0,ZW⟩)) ee ej k ⟨dr b _ ec ec,rfl,kq⟩
   | 2,_=>
    intro o d w' Dn x ho k r m p g b j;have s:Dn 10=ZT:=by
     cases e:Dn 10 with
     | false=>rfl
     | true=>exact absurd ((p 10 e).2 2 ec) Jx
    have q:=eO b s;have u0:d.eval (Z0 2)=Z6 (ZV ⟨y,0,ZW⟩):=(r.slot 2 eb).trans I;have E:=(show ZN w' y 95 (Z6 (ZV ⟨ar,0,ZW⟩)) from (q.block _ A.lt P).trans A).cell;exact bC (v:=Z6 (ZV ⟨ar,0,ZW⟩)) ee ej k ⟨dr b _ ec ec,rfl,kq⟩
   | 3,_=>
    intro o d w' Dn x ho k r m p g b j;exact bC (v:=Z6 (ZV ⟨ar,0,ZW⟩)) (dR ho (j 2 (g 2 ec)) w') ej k ⟨dr b _ ec ec,rfl,kq⟩
   | 4,_=>
    intro o d w' Dn x ho k r m p g b j;have u0:d.eval (Z0 44)=Z6 (ZV ⟨ar,0,ZW⟩):=j 3 (g 3 ec);exact bC (v:=Z6 (ZV ⟨ar,1,ZW⟩)) ee ej k ⟨dr b _ ec ec,rfl,kq⟩
   | 5,_=>
    intro o d w' Dn x ho k r m p g b j;have s:Dn 10=ZT:=by
     cases e:Dn 10 with
     | false=>rfl
     | true=>exact absurd ((p 10 e).2 5 ec) Jx
    have q:=eO b s;have u0:d.eval (Z0 45)=Z6 (ZV ⟨ar,1,ZW⟩):=j 4 (g 4 ec);have hp:=E3 (M.keep (w':=w') (q.block _ hj ta));exact bC (v:=.agg (av D L G t f nn)) (by (conv at ho=>rhs;whnf);simp [execOp,ho,u0,hp]) ej k ⟨dr b _ ec ec,rfl,kq⟩
   | 6,_=>
    intro o d w' Dn x ho k r m p g b j;have u0:d.eval (Z0 46)=.agg (av D L G t f nn):=j 5 (g 5 ec);exact bC (v:=bm (.root D L G t f nn)) Pl ej k ⟨dr b _ ec ec,rfl,kq⟩
   | 7,_=>
    intro o d w' Dn x ho k r m p g b j;have s:Dn 10=ZT:=by
     cases e:Dn 10 with
     | false=>rfl
     | true=>exact absurd ((p 10 e).2 7 ec) Jx
    have q:=eO b s;have u0:d.eval (Z0 3)=Z6 (ZV ⟨z,0,ZW⟩):=(r.slot 3 eb).trans U;have E:=(show ZN w' z 172 (.func (.func cf) #[] cp) from (q.block _ F.lt t3).trans F).cell;exact bC (v:=.func (.func cf) #[] cp) ee ej k ⟨dr b _ ec ec,rfl,kq⟩
   | 8,_=>
    intro o d w' Dn x ho k r m p g b j;have s:Dn 10=ZT:=by
     cases e:Dn 10 with
     | false=>rfl
     | true=>exact absurd ((p 10 e).2 8 ec) Jx
    have q:=eO b s;have hr:w'=w.drew:=by
     unfold CV at b;rw [if_neg abJ] at b;have:=b.2;rwa [if_neg Jx] at this
    have u0:d.eval (Z0 42)=Z6 (ZV ⟨ar,0,ZW⟩):=j 1 (g 1 ec);have u1:d.eval (Z0 47)=bm (.root D L G t f nn):=j 6 (g 6 ec);have u2:d.eval (Z0 48)=.func (.func cf) #[] cp:=j 7 (g 7 ec);refine oA (f:=92) (args:=#[Z6 (ZV ⟨ar,0,ZW⟩),Z7 Z9 (0:Nat),bm (.root D L G t f nn),.func (.func cf) #[] cp]) (w1:=w') (by (conv at ho=>rhs;whnf);simp only [execOp,ho];go_simp;exact ⟨B3,A1,YY⟩) ej k (by rw [hr];exact O) ?_;rintro e hd ⟨rfl,hK,hh⟩;refine ⟨_,rfl,?_,rfl,kq⟩;unfold CV;rw [if_neg (by show ¬ du Dn 8 10=ZU;unfold du;rw [if_neg ec,s];decide),if_pos B9];exact ⟨hh,hK⟩
   | 9,_=>
    intro o d w' Dn x ho k r m p g b j;have u0:d.eval (Z0 41)=Z7 Z8 l:=j 0 (g 0 ec);have u1:d.eval (Z0 49)=Z7 Z8 C:=j 8 (g 8 ec);have Y:=hq w';exact bC (v:=Z7 Z8 lo) (by (conv at ho=>rhs;whnf);simp [execOp,ho,u0,u1,eqGuard,Y]) ej k ⟨dr b _ ec ec,rfl,kq⟩
   | 10,_=>
    intro o d w' Dn x ho k r m p g b j;have q:=eO b m;have u0:d.eval (Z0 4)=Z6 (ZV ⟨q4,0,ZW⟩):=(r.slot 4 eb).trans J;have u1:d.eval (Z0 50)=Z7 Z8 lo:=j 9 (g 9 ec);have N:=show ZN w' q4 131 (Z7 Z8 l) from (q.block _ B.lt R).trans B;have c4:=N.cell;have f4:=N.frozen;refine oz (w':=w'.setCell ⟨q4,0,ZW⟩ (Z7 Z8 lo)) ua ej ⟨?_,rfl,kq⟩;have hf:K w':=by
     unfold CV at b;rw [if_neg Jx] at b;have:=b.2;rwa [if_pos (g 8 ec)] at this
    unfold CV;rw [if_pos B9];exact ⟨w',hf,q,rfl⟩
   | n+11,hn=>exact absurd hn (by show ¬ n+11<11;omega)
 . rintro d w' hm _ ⟨Dn,W,b⟩ j;unfold CV at b;rw [if_pos (W 10 ec)] at b;obtain ⟨Z,hK,q,rfl⟩:=b;have e:d=Act.RL a 41 ((YC 10).map λi=>d.eval (.tmp (41+i))):=hm.out _ ek eb (λi H=>by
    simp at H;rw [T6,Ul,Ve eb];rfl)
   rw [e];exact X Z _ Y5 hK q
noncomputable def aaq:Array Oper:=((Tryz.f60.body.bind (nZ · 10))).getD #[]
def aar:List (Op×Option Nat×a9):=[(Op.load 131 (Z0 4),ZV 53,[]),
 (Op.load 95 (Z0 2),ZV 54,[]),
 (Op.build 182 #[],ZV 55,[]),
 (Op.makeInterface 182 (Z0 55),ZV 56,[2]),
 (Op.load 172 (Z0 3),ZV 57,[]),
 (Op.call { callee:=Callee.value (Operand.func 92),args:=#[Z0 54,Operand.const (Value.int IntKind.i64 1),Z0 56,Z0 57],argTypes:=#[95,3,195,172] },ZV 58,[1,3,4]),
 (Op.binOp BinOp.or 131 (Z0 53) (Z0 58) 131,ZV 59,[0,5]),
 (Op.store 131 (Z0 4) (Z0 59),ZW,[6,5,0,1,2,3,4,5,6])]
def E4:aL aaq 53 60 aar:=bj ei ei
def aas (l ar ls lo:Nat) (cf:FuncId) (cp:Array ZR):List ZR:=[Z7 Z8 l,Z6 (ZV ⟨ar,0,ZW⟩),.agg #[],bm .filled,.func (.func cf) #[] cp,Z7 Z8 ls,Z7 Z8 lo,ZX]
theorem I1 {Q:Exit->Act->ZS->Prop} (S:aaq=ops) (hq:a.tmps.size=62) {T:Nat->Prop} {K:ZS->Prop} {l ar v B lo y z q4 D L G t f nn:Nat} {cf:FuncId} {cp:Array ZR} {pg ob:ZR} {off:Bool}
 (I:ZN w y 95 (Z6 (ZV ⟨ar,0,ZW⟩))) (C:ZN w z 172 (iu cf cp)) (A:ZN w q4 131 (Z7 Z8 l)) (ha:bf w ar v D L G t f nn pg ob off)
 (t2:¬ T y) (t3:¬ T z) (N:¬ T q4) (_:¬ T ar) (hm:∀ w':ZS,(binOp .or 131 (Z7 Z8 l) (Z7 Z8 B)).run ZM w'=.ok (Z7 Z8 lo) w')
 (M:ZQ ZM 92 #[Z6 (ZV ⟨ar,0,ZW⟩),Z7 Z9 (1:Nat),bm .filled,iu cf cp] w.drew λe w'=>e=Z3 (Z7 Z8 B)/\K w'/\aa T w.drew w')
 (P:a.eval (Z0 2)=Z6 (ZV ⟨y,0,ZW⟩)) (R:a.eval (Z0 3)=Z6 (ZV ⟨z,0,ZW⟩)) (H:a.eval (Z0 4)=Z6 (ZV ⟨q4,0,ZW⟩))
 (V:∀ (Z:ZS) (O:List ZR),O.length=7->K Z->aa T w.drew Z->Q .normal (Act.RL a 53 O) (Z.setCell ⟨q4,0,ZW⟩ (Z7 Z8 (lo:Nat)))) :
 (Code.region 10 ops ZU).wpIn Fence.wide n ZM Q a w:=by
 subst S;unfold iu at C M;refine bu ei E4 a w eb (λi u _=>u=(aas l ar B lo cf cp).getD i ZX) (CV 5 7 w.drew T K q4 lo) ⟨aa.refl _ _,rfl⟩ ?_ ?_
 . intro i E;match i,E with
   | 0,_=>
    intro o d w' Dn x ho k r m p g b j;have s:Dn 7=ZT:=by
     cases e:Dn 7 with
     | false=>rfl
     | true=>exact absurd ((p 7 e).2 0 ec) Jx
    have q:=eO b s;have u0:d.eval (Z0 4)=Z6 (ZV ⟨q4,0,ZW⟩):=(r.slot 4 eb).trans H;have F:=(show ZN w' q4 131 (Z7 Z8 l) from (q.block _ A.lt N).trans A).cell;exact bC (v:=Z7 Z8 l) ee ej k ⟨dr b _ ec ec,rfl,kq⟩
   | 1,_=>
    intro o d w' Dn x ho k r m p g b j;have s:Dn 7=ZT:=by
     cases e:Dn 7 with
     | false=>rfl
     | true=>exact absurd ((p 7 e).2 1 ec) Jx
    have q:=eO b s;have u0:d.eval (Z0 2)=Z6 (ZV ⟨y,0,ZW⟩):=(r.slot 2 eb).trans P;have F:=(show ZN w' y 95 (Z6 (ZV ⟨ar,0,ZW⟩)) from (q.block _ I.lt t2).trans I).cell;exact bC (v:=Z6 (ZV ⟨ar,0,ZW⟩)) ee ej k ⟨dr b _ ec ec,rfl,kq⟩
   | 2,_=>
    intro o d w' Dn x ho k r m p g b j;exact bC (v:=.agg #[]) Ax ej k ⟨dr b _ ec ec,rfl,kq⟩
   | 3,_=>
    intro o d w' Dn x ho k r m p g b j;have u0:d.eval (Z0 55)=.agg #[]:=j 2 (g 2 ec);exact bC (v:=bm .filled) Pl ej k ⟨dr b _ ec ec,rfl,kq⟩
   | 4,_=>
    intro o d w' Dn x ho k r m p g b j;have s:Dn 7=ZT:=by
     cases e:Dn 7 with
     | false=>rfl
     | true=>exact absurd ((p 7 e).2 4 ec) Jx
    have q:=eO b s;have u0:d.eval (Z0 3)=Z6 (ZV ⟨z,0,ZW⟩):=(r.slot 3 eb).trans R;have F:=(show ZN w' z 172 (.func (.func cf) #[] cp) from (q.block _ C.lt t3).trans C).cell;exact bC (v:=.func (.func cf) #[] cp) ee ej k ⟨dr b _ ec ec,rfl,kq⟩
   | 5,_=>
    intro o d w' Dn x ho k r m p g b j;have s:Dn 7=ZT:=by
     cases e:Dn 7 with
     | false=>rfl
     | true=>exact absurd ((p 7 e).2 5 ec) Jx
    have q:=eO b s;have hp:w'=w.drew:=by
     unfold CV at b;rw [if_neg abJ] at b;have:=b.2;rwa [if_neg Jx] at this
    have u0:d.eval (Z0 54)=Z6 (ZV ⟨ar,0,ZW⟩):=j 1 (g 1 ec);have u1:d.eval (Z0 56)=bm .filled:=j 3 (g 3 ec);have u2:d.eval (Z0 57)=.func (.func cf) #[] cp:=j 4 (g 4 ec);refine oA (f:=92) (args:=#[Z6 (ZV ⟨ar,0,ZW⟩),Z7 Z9 (1:Nat),bm .filled,.func (.func cf) #[] cp]) (w1:=w') (by (conv at ho=>rhs;whnf);simp only [execOp,ho];go_simp;exact ⟨B3,A1,YY⟩) ej k (by rw [hp];exact M) ?_;rintro e hd ⟨rfl,hK,Y⟩;refine ⟨_,rfl,?_,rfl,kq⟩;unfold CV;rw [if_neg (by show ¬ du Dn 5 7=ZU;unfold du;rw [if_neg ec,s];decide),if_pos B9];exact ⟨Y,hK⟩
   | 6,_=>
    intro o d w' Dn x ho k r m p g b j;have u0:d.eval (Z0 53)=Z7 Z8 l:=j 0 (g 0 ec);have u1:d.eval (Z0 58)=Z7 Z8 B:=j 5 (g 5 ec);have W:=hm w';exact bC (v:=Z7 Z8 lo) (by (conv at ho=>rhs;whnf);simp [execOp,ho,u0,u1,eqGuard,W]) ej k ⟨dr b _ ec ec,rfl,kq⟩
   | 7,_=>
    intro o d w' Dn x ho k r m p g b j;have q:=eO b m;have u0:d.eval (Z0 4)=Z6 (ZV ⟨q4,0,ZW⟩):=(r.slot 4 eb).trans H;have u1:d.eval (Z0 59)=Z7 Z8 lo:=j 6 (g 6 ec);have J:=show ZN w' q4 131 (Z7 Z8 l) from (q.block _ A.lt N).trans A;have c4:=J.cell;have f4:=J.frozen;refine oz (w':=w'.setCell ⟨q4,0,ZW⟩ (Z7 Z8 lo)) ua ej ⟨?_,rfl,kq⟩;have X:K w':=by
     unfold CV at b;rw [if_neg Jx] at b;have:=b.2;rwa [if_pos (g 5 ec)] at this
    unfold CV;rw [if_pos B9];exact ⟨w',X,q,rfl⟩
   | n+8,hn=>exact absurd hn ZF
 . rintro d w' hj _ ⟨Dn,U,b⟩ j;unfold CV at b;rw [if_pos (U 7 ec)] at b;obtain ⟨Z,hK,q,rfl⟩:=b;have e:d=Act.RL a 53 ((YC 7).map λi=>d.eval (.tmp (53+i))):=hj.out _ ek eb (λi E=>by
    simp at E;rw [T6,Ul,Ve eb];rfl)
   rw [e];exact V Z _ Y5 hK q
section
def RwK (w w':ZS) (x:ZR):Prop:=∃ bl c l,x=Z5 (ZV ⟨bl,0,ZW⟩) 44 c/\w.heap.size<=bl/\bl<w'.heap.size/\l.length=44/\(∀ x∈l,x<256)/\w'.rangeAt bl 0 (aJ l)
structure F0 (w:ZS) (r v b g N p D L G:Nat) (Kind:aN->Prop) (ps:aN) (A:aA) (F:aR) (e:ZP) (w':ZS):Prop where
 rd:∃ gone sp,cP w' r v b g N gone sp
 row:∃ f,w'.rowIs g 31 N f/\((∃ gn:Nat,e=Z3 (ZY #[Z5 (ZV ⟨g,0,ZW⟩) N N,Z7 Z8 gn,.nilIface])/\gn<2^N/\∀ i,i<N->RwK w w' (f i))\/e=Z3 (ZY #[Z5 ZW 0 0,Z7 Z8 0,.iface 54 (Z7 Z9 3)]))
 kit:∃ (ps1:aN) (hl:Nat),Kind ps1/\ps1.ps=ps.ps/\ps1.S w'/\bk w' v p D L G ps.ps hl/\hl<2^N/\∀ k,ps1.bl k->ps.bl k\/w.heap.size<=k
 arr:∃ rr,aj w' p (A.rd rr) F
 out:aa (λk=>k=g\/k=r\/k=v\/F.has p A.n k\/ps.bl k) w w'
def C6 (r v ps D L G gn:Nat) (w:ZS):Prop:=w.cell? ⟨r,0,ZW⟩=ZV (Z6 (ZV ⟨v,0,ZW⟩))/\w.cell? ⟨v,1,ZW⟩=ZV (Z7 Z9 (D:Int))/\w.cell? ⟨v,2,ZW⟩=ZV (Z7 Z9 (L:Int))/\w.cell? ⟨v,3,ZW⟩=ZV (Z7 Z9 (G:Int))/\w.cell? ⟨v,4,ZW⟩=ZV (Z6 (ZV ⟨ps,0,ZW⟩))/\w.cell? ⟨r,3,ZW⟩=ZV (Z7 Z8 gn)
def Mu {ps:Nat} (a:cP w r v b g N gone sp) (hv:bk w v p D L G ps ho):C6 r v ps D L G gone w:=by
 obtain ⟨_,c,d,e,q4,_⟩:=hv.cells;exact ⟨a.cells.1,c,d,e,q4,a.cells.2.2.2.1⟩
def Mw {ps1 ps2:aN} {hl:Nat} {ds:a9} {f:Nat->ZR} {l1 s:Nat} {C:Ck} {z:Int} (hs:rU w0 r v b g N p D L G Kind ps A F) (o:qS w0 r v b g N p D L G A F Kind ps ps2 sp gone hl ds f w) (n:Dd D L G Kind ps1 ps2 l1 s C ao m c B w) (hh:l1≠0) (V:l1<2^N) (hj:∀ i,i<N->s.testBit i=ZT->i∈ds) (O:1+((ae (aC (D+L+G) s)).length:Int)=z) :
 ZQ ZM 128 #[Z6 (ZV ⟨r,0,ZW⟩),.agg #[Z7 Z9 z,.slice ao m c]] w λe w'=>e=Z3 .nilIface/\∃ l:Nat->a9,(∀ d,(l d).length=44/\∀ x∈l d,x<256)/\LU w r v b g N gone sp f (ae (aC (D+L+G) s)) l w':=by
 have a:=hs.par;have y:=KZ a.d a.l4 a.g a.s n.told;have U:=BJ a.d a.g a.s n.told;have hc:(di D L G s C).length<=2000:=y.1.2.2;rw [O] at y;obtain ⟨u,E⟩:∃ i,l1.testBit i=ZU:=abA hh;have K:u<N:=by
  by_cases q:u<N
  . exact q
  . rw [Wt (TY V (Vm ec eb))] at E;cases E
 have I:∀ i∈ds,(Ab A b i).length=44/\∀ x∈Ab A b i,x<256:=λi J=>jw hs.fit (o.Tz i J).1;obtain ⟨S,l,Y,T⟩:=BY (x:=LD N ds) (Dl:=vZ N ds (Ab A b)) hs.par.d1 hs.par.d hs.par.g hs.par.div hs.par.s n.told (by rw [<- hs.nN];exact K) (n.Th u E) (λi J=>by
  obtain ⟨t,ht,P,hk⟩:=(oQ _ _).1 J;obtain ⟨j,H,q2,q3⟩:=tZ a.s ht P;have e:j=i:=by rw [<- hk,H];rfl
  subst e;have H:j<N:=by rw [hs.nN];exact q2
  have k:=hj j H q3;rw [uF H,if_pos k];exact ⟨(I j k).1,qK λe=>((ph N ds j).1 e).2 k⟩)
 have X:(ae (aC (D+L+G) s)).length<=16:=by have:=xW (D+L+G) s hs.par.s;have:=hs.par.s;omega
 have Q:ae (aC (D+L+G) s)≠[]:=λq=>by
  have:u∈ae (aC (D+L+G) s):=(cZ hs.par.s).2 ⟨by rw [<- hs.nN];exact K,n.Th u E⟩;rw [q] at this;cases this
 have hm:z.toNat=1+(ae (aC (D+L+G) s)).length:=by rw [<- O];omega
 have Z:=Cw (M:=ae (aC (D+L+G) s)) (R:=l) o.rd o.row hs.rg (Ah n.own eb) U (OS o.row I o.kn) (uE N ds (Ab A b)) (xY I) eb (by rw [<- hs.nN] at y;exact y) S (by rw [hm];exact T) Q (λd W=>by rw [hs.nN];exact ((cZ hs.par.s).1 W).1) X;exact Z.mono λe w' h=>⟨h.1,l,Y,h.2⟩
section
variable {w:ZS} {r v b g N p D L G:Nat} {Kind:aN->Prop} {ps:aN} {A:aA} {F:aR} (hs:rU w r v b g N p D L G Kind ps A F) (hSh:pB D L G Kind)
include hs hSh
theorem I2 {b0:Nat} {f0:Nat->ZR} (hr:cP w r v b0 g N gone sp) (hp:w.rowIs g 31 N f0) :
 ZQ ZM 90 #[Z6 (ZV ⟨r,0,ZW⟩),Z7 Z9 b] w λe w'=>F0 w r v b g N p D L G Kind ps A F e w':=by
 obtain ⟨x8,qf⟩:=hs.vol;have k6:N<=16:=abP
 have qv:2^N<=65536:=je k6;have k5:ae (2^N-1)=YC N:=vk k6;have hS:2^N-1<65536:=eT (VH N)
 obtain ⟨S,q9⟩:=nM (2^N-1);rw [q9] at k5 hS;have qj:∀ i,i∈ae S->i<N:=λi Q=>by rw [k5,Uq] at Q;exact Q
 have qe:=Fs hr qf.vol hp (by have:=hs.nN;have:=hs.par.d1;omega) (λe=>hs.rg e.symm) hs.vg b;have t:=b8 hs.kit hr qP;have j:¬ ps.bl g:=by obtain ⟨cs,Y,_⟩:=hp;exact b8 hs.kit Y pA
 have X:=a8 hs hSh t j hr.lt hp.lt;clear hr hp hs hSh t j qf;go_enter func90,ntmps90;go_wp2_with fail;refine qe.mono ?_;rintro e w1 ⟨rfl,k9,hj,J⟩;obtain ⟨hs,hSh,t,j,R,U⟩:=X.out;have h:=hs.turn t j J;have ky:qS w1 r v b g N p D L G A F Kind ps ps ps.ho 0 ps.ho [] vX w1:=⟨k9,h.vol,hj,Kn.nil _ _ _ _,h.kit,h.kind,rfl,λk q=>.inl q,aa.refl _ _,λi q=>(by cases q),Nat.pow_pos ec,h.hol,h.hol⟩;have E:=k9.lt;have B:=hj.lt;have u:=ky.SO h E B t j;obtain ⟨d0,d1,d2,d3,d4⟩:=k9.cells;have f4:=k9.free 4;obtain ⟨w2,qh⟩:=nM (w1.setCell ⟨r,4,ZW⟩ (Z7 Z8 0));rw [qh] at u;obtain ⟨x9,qg⟩:=u.vol;have kh:=kt qg.vol hs.par.d hs.par.l4 hs.par.g hs.par.s;rw [<- hs.nN,q9] at kh;obtain ⟨q0,_⟩:=u.rd.cells;have H1:=a7 u h E B J;clear qe hs hSh t j R U h ky u k9 hj J qg E B;go_wp2_with fail;clear qh d0 d1 d2 d3 d4 f4;refine kh.mono ?_;rintro e M ⟨rfl,ki⟩;obtain ⟨u,h,E,B,J⟩:=H1.out;obtain ⟨hs,hSh,t,j,R,U⟩:=X.out;have kz:=u.SQ (u.apart h E B t j) (aa.RO ki _) (ps.keep _ _ u.kit λk H=>ki.block k (ps.lt _ u.kit k H)) u.kind rfl (λk q=>.inl q);have ko:=nX kz h E B t j S hS qj;obtain ⟨nw,kp⟩:=nM (Qr S 0 0 []);rw [kp] at ko;have HN:=al kp;clear u h E B J hs hSh t j R U kz ki kh q0 kp;go_wp2_with fail;refine ko.mono ?_;rintro e I ⟨rfl,f4,a,_⟩;clear ko;rw [Nat.zero_or,Uk] at a;obtain ⟨ds,km⟩:=nM (Cg A b nw);obtain ⟨g1,qb⟩:=nM (nU (gnB A b) nw);obtain ⟨Y,qc⟩:=nM (ps.ho|||nU (Cf A b) nw);rw [km,qb,qc] at a;have O:∀ i,i<N->g1.testBit i=ZT->i∈ds:=λi Q P=>by
  have O:i∈nw:=by rw [<- HN.out];exact (sA eb eb).2 ⟨by rw [k5];exact Uq.2 Q,XV _,XV _,ek⟩
  rw [<- km];refine mW.2 ⟨O,?_⟩;cases hq:gnB A b i
  . rfl
  . rw [<- qb,(sE _ i nw).2 ⟨O,hq⟩] at P;cases P
 have hy:=a.gol;obtain ⟨e0,_,e2,e3,_⟩:=a.rd.cells;have T:=au a O;clear a O km qc;by_cases hz:g1=0
 . have x6:I.cell? ⟨r,3,ZW⟩=ZV (Z7 Z8 0):=(by rw [e3,hz];rfl);clear e3 e0;go_wp2;refine Uf (v:=ZY #[Z5 (ZV ⟨g,0,ZW⟩) N N,Z7 Z8 0,.nilIface]) Zu rfl ?_;obtain ⟨a,O⟩:=T.out;obtain ⟨hs,hSh,t,j,R,U⟩:=X.out;obtain ⟨rr,hv⟩:=a.vol;obtain ⟨u,h,E,B,J⟩:=H1.out;have kc:=J.size;refine ⟨⟨_,_,a.rd⟩,⟨f4,a.row,.inl ⟨0,rfl,VH _,λi Q=>?_⟩⟩,⟨ps,Y,a.kind,a.Tl,a.kit,hv.vol,a.hll,λk q=>.inl q⟩,⟨rr,hv.arr⟩,(J.mono λk _ q=>q.elim (λe=>.inr (.inl e)) .inl).trans a.out⟩;have K:=O i Q (by rw [hz];exact XV _);obtain ⟨bl,q1,q2,V,q4⟩:=a.kn.2 i K;exact ⟨bl,44,_,q1,eb,V,(jw hs.fit (a.Tz i K).1).1,(jw hs.fit (a.Tz i K).1).2,jh q4⟩
 have qz:((g1:Int)==0)=ZT:=en
 have qd:∀ w',bW I w'->ZQ ZM 127 #[Z6 (ZV ⟨ps.ps,0,ZW⟩),.agg #[Z7 Z9 D,Z7 Z9 L,Z7 Z9 G],Z7 Z8 g1] w' λe qr=>PnA D L G Kind ps g1 w' e qr:=λw' P=>by
  obtain ⟨a,_⟩:=T.out;obtain ⟨hs,hSh,_⟩:=X.out;obtain ⟨rr,hv⟩:=a.vol;exact hSh.2 ps a.kind w' (ps.keep _ _ a.kit λk H=>P.block k (ps.lt _ a.kit k H)) (hv.RZ.keep (P.block _ hv.RZ.lt)) (TU hv.room P.size) g1 (by rw [<- hs.nN];exact hy)
 have HB:=au qd (λk (H:ps.bl k)=>ps.lt _ T.out.1.kit k H);obtain ⟨rr,ke⟩:=T.out.1.vol;obtain ⟨_,y1,y2,y3,y4,_⟩:=ke.vol.cells;have kk:bW I (I.alloc (Z4 #[Z7 Z9 0,Z5 ZW 0 0] 189)):=bA I _;obtain ⟨_,x1,x2,x3,x4,_⟩:=(ke.vol.keep (kk.block _ ke.vol.lt)).cells;obtain ⟨x0,_,_,x5,_⟩:=(T.out.1.rd.keep (kk.block _ T.out.1.rd.lt)).cells;clear kk qd ke;have HY:Hid (∀ (w' M:ZS),bW I w'->aa ps.bl w' M->C6 r v ps.ps D L G g1 M/\(∀ o:Obj,C6 r v ps.ps D L G g1 (M.alloc o))/\(∀ k x y,I.heap.size<=k->C6 r v ps.ps D L G g1 ((M.setCell ⟨k,0,ZW⟩ x).setCell ⟨k,1,ZW⟩ y))):=al λw' M P hO=>by
  have q7:=aa.after P hO;have hM:=T.out.1;obtain ⟨u,h,E,B,J⟩:=H1.out;obtain ⟨hs,hSh,t,j,R,U⟩:=X.out;have ha:=hM.apart h E B t j;obtain ⟨rr,hv⟩:=hM.vol;have ka:=hM.rd.keep (q7.block _ hM.rd.lt λq=>(ha _ q).2.2.1 rfl);have hv3:=hv.vol.keep (q7.block _ hv.vol.lt λq=>(ha _ q).2.1 rfl);have R:=hM.rd.lt;have qx:=hv.vol.lt;exact ⟨Mu ka hv3,λo=>Mu (ka.keep (Ut _ _ _ ka.lt)) (hv3.keep (Ut _ _ _ hv3.lt)),λk x y H=>Mu (ka.keep ((eN M k 0 1 x y).block _ ka.lt eb)) (hv3.keep ((eN M k 0 1 x y).block _ hv3.lt eb))⟩
 go_upto_region 6 with fail;go_cut [6,7] from 30 to 51 (λv6 v7 wx=>Oe D L G Kind ps g1 I v7 v6 wx)
 case first=>
  go_region_held3 (λw'=>w'.cell? ⟨r,0,ZW⟩=ZV (Z6 (ZV ⟨v,0,ZW⟩))/\w'.cell? ⟨v,1,ZW⟩=ZV (Z7 Z9 (D:Int))/\w'.cell? ⟨v,2,ZW⟩=ZV (Z7 Z9 (L:Int))/\w'.cell? ⟨v,3,ZW⟩=ZV (Z7 Z9 (G:Int))/\w'.cell? ⟨v,4,ZW⟩=ZV (Z6 (ZV ⟨ps.ps,0,ZW⟩))/\w'.cell? ⟨r,3,ZW⟩=ZV (Z7 Z8 (g1:Int))) (first|exact ⟨e0,y1,y2,y3,y4,e3⟩|exact ⟨x0,x1,x2,x3,x4,x5⟩|exact Y0.out|exact Y1.out _|exact Y2.out _ _ _ lR|go_keep)
   (first|(go_at_call 127;refine (HB.out.1 _ ?_).mono ?_;(first|exact (TX _ _).drew|exact ((TX _ _).drew).alloc lR _);rintro e M k8;obtain ⟨z,ao,m,c,er,he,kg,H3⟩:=vl k8;subst he;clear k8;(try (have V:M.heap[I.heap.size]?=ZV (Z4 #[Z7 Z9 0,Z5 ZW 0 0] 189 (0,0)):=(kg.block I.heap.size ek (λq=>eT (HB.out.2 _ q))).trans (T9 I.drew _);obtain ⟨r0,r1,x7,g0⟩:=az V;clear V));obtain ⟨Y0,Y1,Y2⟩:Hid (C6 r v ps.ps D L G g1 M)/\Hid (∀ o:Obj,C6 r v ps.ps D L G g1 (M.alloc o))/\Hid (∀ k x y,I.heap.size<=k->C6 r v ps.ps D L G g1 ((M.setCell ⟨k,0,ZW⟩ x).setCell ⟨k,1,ZW⟩ y)):=HY.out _ M (by first|exact (TX _ I).drew|exact ((TX _ I).drew).alloc lR _) kg;clear kg))
  all_goals (go_wp2_with fail;go_meet;case rel=>first|(refine yI (w':=I.drew) H3.out ?_ rfl;exact (TX _ _).drew)|(refine vq (w2:=I.drew) H3.out HB.out.2 rfl ?_;exact (TX _ _).drew))
 case rest=>
  clear e0 e2 e3 y1 y2 y3 y4 x0 x1 x2 x3 x4 x5 HY HB;rename ZS=>w5;obtain ⟨a,O⟩:=T.out;obtain ⟨u,h,E,B,J⟩:=H1.out;obtain ⟨hs,hSh,t,j,R,U⟩:=X.out;have hf:aa (λk=>k=g\/k=r\/k=v\/F.has p A.n k\/ps.bl k) w w1:=J.mono λk _ q=>q.elim (λe=>.inr (.inl e)) .inl;have kc:=J.size;rcases hcut with ⟨rfl,kj⟩|hcut
  . have f:=a.SQ (a.apart h E B t j) (aa.RO kj _) (ps.keep _ _ a.kit λk H=>kj.block k (ps.lt _ a.kit k H)) a.kind rfl (λk q=>.inl q);obtain ⟨rr,hv⟩:=f.vol;have HF:Hid (F0 w r v b g N p D L G Kind ps A F (Z3 (ZY #[Z5 ZW 0 0,Z7 Z8 0,.iface 54 (Z7 Z9 3)])) w5):=al ⟨⟨_,_,f.rd⟩,⟨f4,f.row,.inr rfl⟩,⟨ps,Y,f.kind,f.Tl,f.kit,hv.vol,f.hll,λk q=>.inl q⟩,⟨rr,hv.arr⟩,hf.trans f.out⟩;clear a O u h E B J hs hSh t j R U hf f hv kj;go_wp2;refine Uf (v:=ZY #[Z5 ZW 0 0,Z7 Z8 0,.iface 54 (Z7 Z9 3)]) Zu rfl ?_;exact HF.out
  . obtain ⟨rfl,gb,Z,s,C,ao,m,c,rfl,qp,ks,W,q8⟩:=hcut;have f:=a.SQ (a.apart h E B t j) q8 W.kit W.kind W.Tl W.bl;obtain ⟨z,kv⟩:∃ z:Int,1+((ae (aC (D+L+G) s)).length:Int)=z:=⟨_,rfl⟩;rw [kv] at ks;have qa:=Mw h f W hz hy (λi Q P=>O i Q (qK λe=>by rw [W.Th i e] at P;cases P)) kv;obtain ⟨k0,k1,_,_⟩:=az ks;have H5:=a5 f qa hf kc;have HP:=al W.Th;clear a O u h E B J hs hSh t j R U hf f qa W q8 kv ks kc;go_wp2_with fail;refine H5.out.2.1.mono ?_;rintro e w6 ⟨rfl,RR,k7,hF⟩;clear k0 k1;obtain ⟨_,_,d2,d3,_⟩:=hF.rd.cells;have H6:=au k7 hF;clear k7 hF;go_wp2;go_region;go_wp2;refine Uf (v:=ZY #[Z5 (ZV ⟨g,0,ZW⟩) N N,Z7 Z8 (g1:Int),.nilIface]) Zu rfl ?_;obtain ⟨k7,qs,⟨f6,kb,qn,qo⟩,qi⟩:=H6.out;obtain ⟨f,_,hf,kc⟩:=H5.out;obtain ⟨a,O⟩:=T.out;obtain ⟨u,h,E,B,J⟩:=H1.out;obtain ⟨hs,hSh,t,j,R,U⟩:=X.out;have hg:aa (λk=>k=g) w5 w6.drew:=qi.trans (aa.drew _);have qk:=f.apart h E B t j;have qy:=f.out.size;obtain ⟨hd,kf⟩:=f.vol;refine ⟨⟨_,_,show cP w6.drew r v b g N g1 0 from qs⟩,⟨f6,kb,.inl ⟨g1,rfl,hy,λi Q=>?_⟩⟩,⟨Z,Y,f.kind,f.Tl,Z.keep _ _ f.kit (λk H=>hg.block k (Z.lt _ f.kit k H) (λq=>(qk k H).2.2.2.1 q)),kf.vol.keep (hg.block _ kf.vol.lt hs.vg),f.hll,λk H=>(f.bl k H).imp id λq=>TU kc q⟩,⟨hd,kf.arr.keep (λk H=>hg.block k (kf.arr.RQ H) λq=>hs.gF (q▸H))⟩,(hf.trans f.out).trans (hg.mono λk _ q=>.inl q)⟩;by_cases kr:s.testBit i=ZU
    . obtain ⟨bl,mm,l,q1,q2,V,q4,q5,q6⟩:=qo i ((cZ hs.par.s).2 ⟨eT hs.nN,kr⟩);obtain ⟨Y,h2⟩:=xZ q4 V q5;have kx:=(k7 i).1;rw [kx] at h2;subst h2;exact ⟨bl,l.length,RR i,q1,eb,aM.lt q4,kx,(k7 i).2,Y⟩
    . have qq:i∉ae (aC (D+L+G) s):=λq=>kr ((cZ hs.par.s).1 q).2;have K:i∈ds:=O i Q (qK λe=>kr (HP.out i e));obtain ⟨bl,q1,q2,V,q4⟩:=f.kn.2 i K;have qm:bl≠g:=eb;exact ⟨bl,44,_,by rw [qn i qq];exact q1,eb,TY V hg.size,(jw hs.fit (f.Tz i K).1).1,(jw hs.fit (f.Tz i K).1).2,jh ((hg.block bl V qm).trans q4)⟩
end
end
section
attribute [local go_sem] Oper.semAt_some
theorem Al (w':ZS):(binOp .or 131 (Z7 Z8 (0:Nat)) (Z7 Z8 (0:Nat))).run ZM w'=.ok (Z7 Z8 (0:Nat)) w':=by
 have h:bits .or .u64 0 0=0:=ec
 go_simp
def I3 {fn:Func} {u:Nat} {ty tz:ZO} {y:ZR} (i:fn.results=#[.cell t ty,.cell u tz]) (d:a.defers=[{ target:=.collected D',args:=#[] }]) (h8:a.tmps.getD t ZX=Z6 (ZV ⟨b,0,ZW⟩)) (h9:a.tmps.getD u ZX=Z6 (ZV ⟨c,0,ZW⟩))
 (hl:∀ w,w.heap[b]?=Z.heap[b]?->(loadVar ty ⟨b,0,ZW⟩).run ZM w=.ok x w) (hm:∀ w,w.heap[c]?=Z.heap[c]?->(loadVar tz ⟨c,0,ZW⟩).run ZM w=.ok y w) (hK:Z.heap[D']?=ZV (.deferred (ZV []))) (hD:b≠D') (hE:c≠D')
 (hR:R (Z3 (ZY #[x,y])) (Z.putObj D' (.deferred ZW))):bodyPostM Fence.wide n ZM fn R .ret a Z:=by
 obtain ⟨e,j⟩:=a;simp only at d h8 h9;subst d;refine ⟨ek,.inl ⟨_,_,rfl,Wd hK,?_⟩⟩;have f:=hl (Z.putObj D' (.deferred ZW)) (UE hD);have c1:=hm (Z.putObj D' (.deferred ZW)) (UE hE);refine ⟨ZY #[x,y],?_,hR⟩;have g:e[t]?.getD ZX=Z6 (ZV ⟨b,0,ZW⟩):=vE h8
 have h:e[u]?.getD ZX=Z6 (ZV ⟨c,0,ZW⟩):=vE h9
 simp [results,i,asAddr,g,h,f,c1]
def ErL (x:ZR):Prop:=x=.nilIface\/x=.iface 54 (Z7 Z9 3)
theorem Mx (h:ZN Z b 42 x) (w:ZS) (e:w.heap[b]?=Z.heap[b]?):(loadVar 42 ⟨b,0,ZW⟩).run ZM w=.ok x w:=by
 have a:w.cell? ⟨b,0,ZW⟩=ZV x:=(show ZN w b 42 x from e.trans h).cell;simp [go_sem,a]
def QO {l:List α} (h:l.length=10):∃ a b c d e f g i j k,l=[a,b,c,d,e,f,g,i,j,k]:=by
 match l,h with
 | [a,b,c,d,e,f,g,i,j,k],_=>exact ⟨a,b,c,d,e,f,g,i,j,k,rfl⟩
def aat {l:List α} (h:l.length=7):∃ a b c d e f g,l=[a,b,c,d,e,f,g]:=by
 match l,h with
 | [a,b,c,d,e,f,g],_=>exact ⟨a,b,c,d,e,f,g,rfl⟩
def MJ (w:ZS) (ar v p D L G:Nat) (Kind:aN->Prop) (ps:aN) (A:aA) (F:aR) (X:ZS):Prop:=∃ ps' B,(Kind ps'/\ps'.ps=ps.ps/\∀ k,ps'.bl k->ps.bl k\/w.heap.size<=k)/\ps'.ho<2^A.n/\nv A B/\oe X ar v p ps' D L G B F
def oe.gotR {ps':aN} (h:oe w ar v p ps D L G A F) {Kind:aN->Prop} {rs:Nat->Int} (b:w.heap.size<=w'.heap.size) (a:∀ k,k<3->¬ F.has p A.n k->k<w.heap.size->w'.heap[k]?=w.heap[k]?) (f:aj w' p (A.rd rs) F) (hK:lu w v p D L G Kind ps A.n ps' w'):oe w' ar v p ps' D L G (A.rd rs) F:=by
 obtain ⟨k1,k2,k3,k4,o,j⟩:=hK;have c:2<3:=ec
 have d:1<3:=ec
 have:=h.Sf;exact ⟨⟨by rw [k2];exact k4,f,h.vol.laid.keep (a _ c h.free.g h.vol.laid.lt),h.vol.RZ.keep (a _ d h.free.t h.vol.RZ.lt),TU h.vol.room b⟩,h.free,h.Si,h.Sf,TY h.Tr b,⟨h.fit.n,h.fit.nb,h.fit.len,h.fit.byt⟩,h.par,h.n,h.wait,h.here,k3,λk i=>by
  rcases j k i with q|q
  . exact h.apt k q
  . have:=h.Tr;have:=h.vol.room;exact ⟨eb,eb,eb,λe=>eT (h.vol.arr.RQ e)⟩⟩
def Mv (v p:Nat) (ps:aN) (A:aA) (F:aR) (j:Nat):Prop:=F.has p A.n j\/j=v\/ps.bl j
section
variable {w X Y:ZS} {ar v p D L G:Nat} {Kind:aN->Prop} {ps:aN} {A:aA} {F:aR}
def MJ.own (h:MJ w ar v p D L G Kind ps A F X) (g:oe w ar v p ps D L G A F) (y:ps.ps<w.heap.size) {T:Nat->Prop} (b:aa T X Y) (j:∀ k,T k->w.heap.size<=k/\∀ cs d z,X.heap[k]?=ZV (Z4 cs d z)->¬ jP d):MJ w ar v p D L G Kind ps A F Y:=by
 obtain ⟨ps',B,⟨m,o,r⟩,s,i,a⟩:=h;have:=g.vol.room;have c:∀ k,k<w.heap.size->k<X.heap.size->Y.heap[k]?=X.heap[k]?:=λk C t=>b.block k t (λq=>eT ((j k q).1));have hv:=g.vol.vol.lt;refine ⟨ps',B,⟨m,o,r⟩,s,i,⟨⟨a.vol.vol.keep (c _ hv a.vol.vol.lt),a.vol.arr.keep λk q=>c k (g.vol.arr.RQ (by rw [i.n] at q;exact q)) (a.vol.arr.RQ q),a.vol.laid.keep (c _ eb a.vol.laid.lt),a.vol.RZ.keep (c _ eb a.vol.RZ.lt),TU a.vol.room b.size⟩,a.free,a.Si,a.Sf,TY a.Tr b.size,a.fit,a.par,a.n,a.wait,a.here,ps'.keep _ _ a.kit λk q=>b.block k (ps'.lt _ a.kit k q) (λe=>?_),a.apt⟩⟩;obtain ⟨u,l⟩:=j k e;rcases ps'.cl _ a.kit k q with f|⟨cs,d,z,f⟩
 . omega
 . exact l _ _ _ f (ps'.kd _ a.kit k q _ _ _ f)
def MJ.below (h:MJ w ar v p D L G Kind ps A F X) (e:bW X Y):MJ w ar v p D L G Kind ps A F Y:=by
 obtain ⟨ps',B,a,b,c,d⟩:=h;exact ⟨ps',B,a,b,c,d.below e⟩
end
structure Q2 (w:ZS) (ar:Nat) (cf:FuncId) (cp:Array ZR) (D1:Nat) (M:Nat->Prop) (J:ZS->Prop) (X:ZS):Prop where
 b2:ZN X w.heap.size 95 (Z6 (ZV ⟨ar,0,ZW⟩))
 b3:ZN X (w.heap.size+1) 172 (iu cf cp)
 b4:ZN X (w.heap.size+1+1) 131 (Z7 Z8 (0:Nat))
 b5:∃ er,ErL er/\ZN X (w.heap.size+1+1+1) 42 er
 arr:J X
 out:aa M w X
 dk:X.heap[D1]?=ZV (.deferred (ZV []))
def Am:¬ jP 131:=vf
def vv:¬ jP 42:=vf
def Q2.next (h:Q2 w ar cf cp D1 M J X) (m:∀ k,M k->k<w.heap.size) (r:∀ X Y (T:Nat->Prop),J X->aa T X Y->(∀ k,T k->w.heap.size<=k/\∀ cs c z,X.heap[k]?=ZV (Z4 cs c z)->¬ jP c)->J Y) (x:w.heap.size+4<=D1)
 (s:J Z) (t:aa M X.drew Z):Q2 w ar cf cp D1 M J (Z.setCell ⟨w.heap.size+1+1,0,ZW⟩ (Z7 Z8 ((0:Nat):Int))):=by
 have d:aa M X Z:=(aa.drew X).trans t;obtain ⟨W,b⟩:=nM (Z.setCell ⟨w.heap.size+1+1,0,ZW⟩ (Z7 Z8 ((0:Nat):Int)));have j:∀ k,k≠w.heap.size+1+1->W.heap[k]?=Z.heap[k]?:=λk a=>by rw [<- b];exact T7 _ _ _ _ a
 have:Z.heap.size=W.heap.size:=by rw [<- b];simp [World.setCell]
 have i:aa (λk=>k=w.heap.size+1+1) Z W:=⟨by rw [<- b];rfl,by rw [<- b];rfl,by rw [<- b];rfl,eb,λk _ a=>j k a⟩;have a:∀ k,w.heap.size<=k->k<X.heap.size->k≠w.heap.size+1+1->W.heap[k]?=X.heap[k]?:=λk o e p=>(j k p).trans (d.block k e (λq=>eT (m k q)));have f:ZN Z (w.heap.size+1+1) 131 (Z7 Z8 (0:Nat)):=(d.block _ h.b4.lt (λq=>eT (m _ q))).trans h.b4;have l:=f.set (Z7 Z8 ((0:Nat):Int));obtain ⟨n,u,g⟩:=h.b5;rw [b] at l ⊢;exact ⟨(a _ eb h.b2.lt eb).trans h.b2,(a _ eb h.b3.lt eb).trans h.b3,l,⟨n,u,(a _ eb g.lt eb).trans g⟩,r _ _ _ s i (λk a=>⟨eb,λcs c z q=>by rw [a,show Z.heap[w.heap.size+1+1]?=ZV (Z4 _ 131 (0,0)) from f] at q;simp only [UC,U1] at q;rw [<- q.2.1];exact Am⟩),(h.out.trans d).later i (λk o e=>eb),(a _ eb (TW.1 h.dk).1 eb).trans h.dk⟩
def My {W3:ZS} {er:ZR} (h:Q2 w ar cf cp D1 M J W3) (_:∀ k,M k->k<w.heap.size) (x:∀ X Y (T:Nat->Prop),J X->aa T X Y->(∀ k,T k->w.heap.size<=k/\∀ cs j z,X.heap[k]?=ZV (Z4 cs j z)->¬ jP j)->J Y) (_:ErL er) (o:ZN W3 (w.heap.size+1+1+1) 42 er) (E:w.heap.size+4<=D1)
 (y:a.defers=[{ target:=.collected D1,args:=#[] }]) (h8:a.tmps.getD 4 ZX=Z6 (ZV ⟨w.heap.size+1+1,0,ZW⟩)) (h9:a.tmps.getD 5 ZX=Z6 (ZV ⟨w.heap.size+1+1+1,0,ZW⟩)) (hR:∀ Y,J Y->aa M w Y->R (Z3 (ZY #[Z7 Z8 ((0:Nat):Int),er])) Y) :
 bodyPostM Fence.wide n ZM Tryz.f60 R .ret a ((W3.setCell ⟨w.heap.size+1+1,0,ZW⟩ (Z7 Z8 ((0:Nat):Int))).setCell ⟨w.heap.size+1+1+1,0,ZW⟩ er).drew:=by
 obtain ⟨i,e⟩:=nM (W3.setCell ⟨w.heap.size+1+1,0,ZW⟩ (Z7 Z8 ((0:Nat):Int)));obtain ⟨d,f⟩:=nM (i.setCell ⟨w.heap.size+1+1+1,0,ZW⟩ er);have l:∀ k,k≠w.heap.size+1+1->i.heap[k]?=W3.heap[k]?:=λk g=>by rw [<- e];exact T7 _ _ _ _ g
 have m:∀ k,k≠w.heap.size+1+1+1->d.heap[k]?=i.heap[k]?:=λk g=>by rw [<- f];exact T7 _ _ _ _ g
 have r:ZN d (w.heap.size+1+1) 131 (Z7 Z8 (0:Nat)):=by
  have:=h.b4.set (Z7 Z8 ((0:Nat):Int));rw [e] at this;exact (m _ eb).trans this
 have v:ZN d (w.heap.size+1+1+1) 42 er:=by
  have:=(show ZN i (w.heap.size+1+1+1) 42 er from (l _ eb).trans o).set er;rwa [f] at this
 have F:W3.heap.size=d.heap.size:=by rw [<- f,<- e];simp [World.setCell]
 have B:aa (λk=>k=w.heap.size+1+1\/k=w.heap.size+1+1+1) W3 d:=⟨by rw [<- f,<- e];rfl,by rw [<- f,<- e];rfl,by rw [<- f,<- e];rfl,eb,λk _ g=>(m k eb).trans (l k eb)⟩;have A:d.heap[D1]?=ZV (.deferred (ZV [])):=((m _ eb).trans (l _ eb)).trans h.dk;rw [e,f];have p:aa (λk=>k=w.heap.size+1+1\/k=w.heap.size+1+1+1\/k=D1) W3 (d.drew.putObj D1 (.deferred ZW)):=((B.trans (aa.drew d)).mono λk _ q=>eb).trans ⟨rfl,rfl,rfl,W7,λk _ g=>UE eb⟩;refine I3 (b:=w.heap.size+1+1) (c:=w.heap.size+1+1+1) (t:=4) (u:=5) (Z:=d.drew) results60 y h8 h9 (ts (s:=0) (Z:=d.drew) r) (Mx (Z:=d.drew) v) A eb eb (hR _ ?_ ?_)
 . refine x _ _ _ h.arr p λk g=>⟨eb,λcs j z q=>?_⟩;rcases g with rfl|rfl|rfl
   . rw [show W3.heap[w.heap.size+1+1]?=ZV (Z4 _ 131 (0,0)) from h.b4] at q;simp only [UC,U1] at q;rw [<- q.2.1];exact Am
   . rw [show W3.heap[w.heap.size+1+1+1]?=ZV (Z4 _ 42 (0,0)) from o] at q;simp only [UC,U1] at q;rw [<- q.2.1];exact vv
   . rw [h.dk] at q;cases q
 . exact h.out.later p (λk C D=>eb)
structure MdI (w:ZS) (ar v:Nat) (cf:FuncId) (cp:Array ZR) (N b6 b7 r g B:Nat) (M:Nat->Prop) (J:ZS->Prop) (X0:a9) (_pre:List (Sn X0)) (X:ZS):Prop where
 b2:ZN X w.heap.size 95 (Z6 (ZV ⟨ar,0,ZW⟩))
 b3:ZN X (w.heap.size+1) 172 (iu cf cp)
 b4:ZN X (w.heap.size+1+1) 131 (Z7 Z8 (0:Nat))
 b5:∃ er,ErL er/\ZN X (w.heap.size+1+1+1) 42 er
 b6:ZN X b6 164 (Z6 (ZV ⟨r,0,ZW⟩))
 b7:ZN X b7 95 (Z6 (ZV ⟨ar,0,ZW⟩))
 rd:∃ b0 gone sp,cP X r v b0 g N gone sp
 row:∃ f0,X.rowIs g 31 N f0
 arr:J X
 out:aa M w X
 size:B<=X.heap.size
def MdI.own {b6 b7:Nat} {X0:a9} (A:∀ X Y (T:Nat->Prop),J X->aa T X Y->(∀ k,T k->w.heap.size<=k/\∀ cs c z,X.heap[k]?=ZV (Z4 cs c z)->¬ jP c)->J Y) (Q:w.heap.size+4<=B) (t:b6<B) (u:b7<B) (O:r<B) (E:g<B):OwnFrom B (MdI w ar v cf cp N b6 b7 r g B M J X0):=by
 rintro pre X Y row ⟨d,n,p,⟨l,C,s⟩,G,H,⟨b0,gone,sp,I⟩,⟨m,x⟩,y,D,F⟩ b f;have a:∀ k,k<B->Y.heap[k]?=X.heap[k]?:=λk a=>b.block k eb (λe=>eT ((f k e.symm).1));have h:aa (λk=>row=ZV k) X Y:=⟨b.os,b.tape,b.output,b.size,λk K L=>b.block k K (λe=>L e.symm)⟩;refine ⟨(a _ eb).trans d,(a _ eb).trans n,(a _ eb).trans p,⟨l,C,(a _ eb).trans s⟩,(a _ t).trans G,(a _ u).trans H,⟨b0,gone,sp,I.keep (a _ O)⟩,⟨m,x.of_block (a _ E)⟩,A _ _ _ y h (λk e=>?_),D.later h (λk P d=>eT ((f k d).1)),TU F b.size⟩;obtain ⟨R,o,i,j⟩:=f k e;refine ⟨eb,λcs c z q=>?_⟩;rw [q] at i;have:=UA i;rw [<- this] at j;cases j
theorem CW (f:aO w ar v p ps D L G t pg ob P xs A F) (hv:mu D L G Kind ps A.n) (yi:ps.ps<w.heap.size) (z7:2<=A.nb) (hE:QN cf) (qm:∀ X,aa (Mv v p ps A F) w X->Cho cf cp sg X) (yk:∀ x,x<2^A.n->sg x<2^A.n) :
 ZQ ZM 60 #[Z6 (ZV ⟨ar,0,ZW⟩),iu cf cp] w λe Y=>(∃ er,ErL er/\e=Z3 (ZY #[Z7 Z8 (0:Nat),er]))/\MJ w ar v p D L G Kind ps A F Y/\aa (Mv v p ps A F) w Y:=by
 obtain ⟨m,HN⟩:∃ m:Nat,Hid (9<=m):=⟨9,TV _⟩;have H:oe w ar v p ps D L G A F:=⟨f.vol,f.free,f.Si,f.Sf,f.R3.lt,f.fit,f.par,f.RV.n,f.RV.wait,f.RV.here,f.kit,f.apt⟩;have U:=f.R3;have hJ:MJ w ar v p D L G Kind ps A F w:=⟨ps,A,⟨hv.kind,rfl,λ_ q=>.inl q⟩,hv.hol,nv.refl f.fit,H⟩;have hj:∀ k,Mv v p ps A F k->k<w.heap.size:=λk q=>by
  rcases q with q|q|q
  . exact f.vol.arr.RQ q
  . rw [q];exact f.vol.vol.lt
  . exact ps.lt _ f.kit k q
 have yh:¬ Mv v p ps A F ar:=λq=>by
  rcases q with q|q|q
  . exact f.Si q
  . have:=f.Sf;omega
  . exact (f.apt _ q).2.1 rfl
 have xi:∀ k,(ar<k/\¬ F.has p A.n k/\¬ ps.bl k)->k<w.heap.size->(k<w.heap.size/\¬ Mv v p ps A F k):=λk q j=>⟨j,λe=>by
  rcases e with e|e|e
  . exact q.2.1 e
  . have:=f.Sf;omega
  . exact q.2.2 e⟩
 have hP:=f.pgs.wk xi;have hC:=f.cat.wk xi;have qo:∀ X Y (T:Nat->Prop),MJ w ar v p D L G Kind ps A F X->aa T X Y->(∀ k,T k->w.heap.size<=k/\∀ cs Ty z,X.heap[k]?=ZV (Z4 cs Ty z)->¬ jP Ty)->MJ w ar v p D L G Kind ps A F Y:=λX Y T j B h3=>j.own H yi B h3;have q9:=f.RV.inb;have xp:(bx.root D L G t (P.getD 0 0) (aG xs.os).length).ok:=by
  have j:=f.packL_le;have B:=f.turn;have h3:=f.par.d;have h4:=f.par.l4;have R:=f.par.g;have h6:P.getD 0 0<4294967296:=by
   have y9:0<P.length:=(by rw [f.RV.pl];unfold pgs;omega);have:=(f.RV.inb (P.getD 0 0) (UN _ (by rw [sy y9];exact T4 y9))).2;have:=f.nb;omega
  exact ⟨eb,eb,eb,B,h6,eb⟩
 obtain ⟨os,z2⟩:=nM (xs.os);rw [z2] at hC q9;have c0:=U.cells.1;have qj:=U.lt;obtain ⟨N,kf⟩:=nM (A.n);have xn:A.n<=16:=by rw [H.n];exact H.par.s
 have O:=a8 H hJ U qm hP hC;have u:=hide7 hj yh qo q9 hv yk yi;clear H hJ U qm hP hC hj yh qo q9 xi f yk;unfold iu;refine (U6 (n:=m)).1 ?_;refine VS func60 rfl trivial ?_ rfl;simp only [ntmps60,Uy,Um,UQ,Nat.reduceAdd,Nat.reduceSub,UX,UY,UZ,U0,Uk,UH];have c1:((((w.alloc (Z4 #[Z6 (ZV ⟨ar,0,ZW⟩)] 95)).alloc (Z4 #[.func (.func cf) #[] cp] 172)).alloc (Z4 #[Z7 Z8 0] 131)).alloc (Z4 #[.nilIface] 42)).cell? ⟨ar,0,ZW⟩=ZV (Z6 (ZV ⟨v,0,ZW⟩)):=(Uh (((((bA w _).alloc ek _).alloc en _).alloc en _).block _ qj)).trans c0;gi_wp2;clear c1;obtain ⟨w4,kk⟩:=nM ((((w.alloc (Z4 #[Z6 (ZV ⟨ar,0,ZW⟩)] 95)).alloc (Z4 #[iu cf cp] 172)).alloc (Z4 #[Z7 Z8 0] 131)).alloc (Z4 #[.nilIface] 42));have ka:bW w w4:=by rw [<- kk];exact (((bA w _).alloc ek _).alloc en _).alloc en _
 have xy:w4.heap.size=w.heap.size+4:=by rw [<- kk];simp
 have xx:ZN w4 w.heap.size 95 (Z6 (ZV ⟨ar,0,ZW⟩)):=by rw [<- kk];exact (((Uj w _ _).alloc _).alloc _).alloc _
 have yo:ZN w4 (w.heap.size+1) 172 (iu cf cp):=by
  rw [<- kk];have:=Uj (w.alloc (Z4 #[Z6 (ZV ⟨ar,0,ZW⟩)] 95)) 172 (iu cf cp);rw [Ua] at this;exact (this.alloc _).alloc _
 have yp:ZN w4 (w.heap.size+1+1) 131 (Z7 Z8 (0:Nat)):=by
  rw [<- kk];have:=Uj ((w.alloc (Z4 #[Z6 (ZV ⟨ar,0,ZW⟩)] 95)).alloc (Z4 #[iu cf cp] 172)) 131 (Z7 Z8 (0:Nat));rw [Ua,Ua] at this;exact this.alloc _
 have yq:ZN w4 (w.heap.size+1+1+1) 42 .nilIface:=by
  rw [<- kk];have:=Uj (((w.alloc (Z4 #[Z6 (ZV ⟨ar,0,ZW⟩)] 95)).alloc (Z4 #[iu cf cp] 172)).alloc (Z4 #[Z7 Z8 0] 131)) 42 .nilIface;rw [Ua,Ua,Ua] at this;exact this
 have zp:=xx.cell;have qy:=O.out.2.1.below ka;have qp:=qR (O.out.1.vol.vol.keep (ka.block _ O.out.1.vol.vol.lt)) O.out.1.par.d O.out.1.par.l4 O.out.1.par.g (kf.symm.trans O.out.1.n);unfold iu at kk;rw [kk];have H4:=hide7 xx yo yp yq ka qy qp;clear kk xx yo yp yq ka qy qp;refine bX H4.out.2.2.2.2.2.2 ?_;rintro e w5 ⟨rfl,kb,hq,qd⟩;obtain ⟨r,hr⟩:=nM (w4.heap.size+2);obtain ⟨g,hg⟩:=nM (w4.heap.size+1);rw [hr] at kb ⊢;rw [hg] at kb hq;have yr:=qd.size;have yf:=kb.lt;have yg:=hq.lt;obtain ⟨I,xf⟩:=nM (w5.alloc (Z4 #[Z6 (ZV ⟨r,0,ZW⟩)] 164));have ki:bW w5 I:=by rw [<- xf];exact bA w5 _
 have hf:=qd.trans (ki.mono yr);have xg:ZN I w5.heap.size 164 (Z6 (ZV ⟨r,0,ZW⟩)):=by rw [<- xf];exact Uj w5 _ _
 have kj:=kb.keep (ki.block _ yf);have hs:=hq.of_block (ki.block _ yg);have z5:I.heap.size=w5.heap.size+1:=by rw [<- xf];simp
 have zs:I.cell? ⟨w.heap.size,0,ZW⟩=ZV (Z6 (ZV ⟨ar,0,ZW⟩)):=(Uh (hf.block w.heap.size eb)).trans zp;have qn:w.heap.size+4<=g/\w.heap.size+4<=r/\r≠g/\g<I.heap.size/\r<I.heap.size/\w.heap.size+4<=w5.heap.size/\w5.heap.size<I.heap.size/\r<w5.heap.size/\g<w5.heap.size:=eb
 have H5:=a8 kj hs hf xg qn xy;clear kb hq qd c0 zp kj hs hf ki xg z5 yr yf yg hr hg xy qn;gi_wp2;clear zs xf;refine bX (lX ar I) ?_;rintro e w' ⟨rfl,rfl⟩;have h7:ZN (I.alloc (Z4 #[Z6 (ZV ⟨ar,0,ZW⟩)] 95)) I.heap.size 95 (Z6 (ZV ⟨ar,0,ZW⟩)):=Uj I _ _;have xz:(I.alloc (Z4 #[Z6 (ZV ⟨ar,0,ZW⟩)] 95)).heap.size=I.heap.size+1:=ek
 have q7:bW I (I.alloc (Z4 #[Z6 (ZV ⟨ar,0,ZW⟩)] 95)):=bA I _;obtain ⟨w7,ym⟩:=nM (I.alloc (Z4 #[Z6 (ZV ⟨ar,0,ZW⟩)] 95));have H7:=aE h7 xz q7;clear h7 xz q7;gi_wp2;rw [ym] at H7;clear ym;obtain ⟨s1,s2,s3,s4,s5,s6,s7,s8,s9⟩:=H5.out.2.2.2.2.1;have xz:=H7.out.2.1;have yd:MdI w ar v cf cp N w5.heap.size I.heap.size r g w7.heap.size (Mv v p ps A F) (MJ w ar v p D L G Kind ps A F) (P++an os) [] w7:=by
  obtain ⟨x2,x3,x4,x5,ka,qy,_⟩:=H4.out;obtain ⟨kj,hs,hf,xg,_,xy⟩:=H5.out;have q7:=H7.out.2.2;have q0:=hf.trans (q7.mono hf.size);have E:∀ k,k<w4.heap.size->w7.heap[k]?=w4.heap[k]?:=λk E=>q0.block k E;exact ⟨(E _ eb).trans x2,(E _ eb).trans x3,(E _ eb).trans x4,⟨_,.inl rfl,(E _ eb).trans x5⟩,(q7.block _ s7).trans xg,H7.out.1,⟨_,_,_,kj.keep (q7.block _ s5)⟩,⟨_,hs.of_block (q7.block _ s4)⟩,qy.below q0,(aa.RO ka _).trans (aa.RO q0 _),TV _⟩
 have xh:∀ {x':ZR} {l:a9},bp (λk=>k<w.heap.size/\¬ Mv v p ps A F k) w x' l->bp (λk=>(k<w.heap.size/\¬ Mv v p ps A F k)\/k=I.heap.size) w x' l:=λ⟨ao,c,q1,q2,q3⟩=>⟨ao,c,q1,q2,λf=>by obtain ⟨b,off,r1,r2,r3⟩:=q3 f;exact ⟨b,off,r1,.inl r2,r3⟩⟩;have ya:=xh O.out.2.2.2.2.1;have y8:fa (λk=>(k<w.heap.size/\¬ Mv v p ps A F k)\/k=I.heap.size) w ob os:=by
  obtain ⟨ao,c,q1,q2,q3⟩:=O.out.2.2.2.2.2;refine ⟨ao,c,q1,q2,λf=>?_⟩;obtain ⟨b,off,r1,r2,r3,r4⟩:=q3 f;refine ⟨b,off,r1,.inl r2,r3,λi a=>?_⟩;obtain ⟨sv,t1,t2,t3,t4⟩:=r4 i a;exact ⟨sv,t1,t2,t3,xh t4⟩
 have qk:bW w w7:=by
  have ka:=H4.out.2.2.2.2.1;have hf:=H5.out.2.2.1;exact (ka.trans (hf.mono ka.size)).trans (H7.out.2.2.mono eb)
 have HI:=a5 yd ya y8 qk;clear yd xh ya y8 qk;refine VT rfl (eT HN.out) (gf:=124) (lb:=#[Z6 (ZV ⟨I.heap.size,0,ZW⟩)]) rfl trivial (UR func124 ei rfl)
  (qF (λk=>(k<w.heap.size/\¬ Mv v p ps A F k)\/k=I.heap.size) (m-1) I.heap.size ar v D L G t (P.getD 0 0) (aG xs.os).length pg ob ZT P os (.inr rfl) (.inl ⟨qj,u.out.2.1⟩) w7 H7.out.1 (O.out.2.2.1.keep (HI.out.2.2.2.block _ qj)) (HI.out.2.1.keep (dN.RN HI.out.2.2.2)) (HI.out.2.2.1.keep (dN.RN HI.out.2.2.2)))
  (λh k=>h.trans k) (λW l o o' f _ _ _=>⟨W7,λk _ E=>UE (by rcases E with E|E<;>omega)⟩) (TX _ _) (λ_=>rfl)
  (MdI w ar v cf cp N w5.heap.size I.heap.size r g w7.heap.size (Mv v p ps A F) (MJ w ar v p D L G Kind ps A F) (P++an os)) (λ_ _ _=>False) (MdI.own u.out.2.2.1 eb eb eb eb eb) (λ_ _ _ _ _ h _ _=>h.elim) HI.out.1
  (λx=>{ tmps:=#[Z6 (ZV ⟨ar,0,ZW⟩),.func (.func cf) #[] cp,Z6 (ZV ⟨w.heap.size,0,ZW⟩),Z6 (ZV ⟨w.heap.size+1,0,ZW⟩),Z6 (ZV ⟨w.heap.size+1+1,0,ZW⟩),Z6 (ZV ⟨w.heap.size+1+1+1,0,ZW⟩),Z6 (ZV ⟨w5.heap.size,0,ZW⟩),Z7 Z9 (x.1:Nat),ZX,ZX,ZX,Z6 (ZV ⟨ar,0,ZW⟩),Z6 (ZV ⟨ar,0,ZW⟩),Z6 (ZV ⟨ar,0,ZW⟩),Z6 (ZV ⟨v,0,ZW⟩),Z6 (ZV ⟨r,0,ZW⟩),Z6 (ZV ⟨ar,0,ZW⟩),.func (.func 124) #[] #[Z6 (ZV ⟨I.heap.size,0,ZW⟩)],Z7 Z9 (x.1:Nat),ZX,ZX,ZX,ZX,ZX,ZX,ZX,ZX,ZX,ZX,ZX,ZX,ZX,ZX,ZX,ZX,ZX,ZX,ZX,ZX,ZX,ZX,ZX,ZX,ZX,ZX,ZX,ZX,ZX,ZX,ZX,ZX,ZX,ZX,ZX,ZX,ZX,ZX,ZX,ZX,ZX,ZX,ZX],defers:=[] }) ?assign ?body ?done ?stop
 case assign=>
  intro l2 x X Kk hK;unfold ON nJ;gi_wp2;exact hK
 case body=>
  rintro l2 pre x X a xk;obtain ⟨er,xd,R⟩:=a.b5;obtain ⟨b0,gone,sp,qp⟩:=a.rd;obtain ⟨f0,qq⟩:=a.row;obtain ⟨hd,B0,hn,kr,J,hm⟩:=id a.arr;have H:=O.out.1;have hj:=u.out.1;have xq:=hm.stp (Kind:=Kind) hn.1 (by rw [J.n];exact kr) (r:=r) (g:=g) (y:=x.1) (eT H.vol.vol.lt) (eT H.vol.vol.lt) s3 (λe=>by rw [J.n] at e;have:=H.vol.arr.RQ e;omega) (λe=>by rw [J.n] at e;have:=H.vol.arr.RQ e;omega) (eT H.vol.room) (eT H.vol.room);rw [J.n,kf] at xq;have yn:=I2 xq u.out.2.2.2.2.1.sh qp qq;have c6:=a.b6.cell;have HX:=hide8 a R xd yn hn kr J hm;have z8:=a.size;clear xk a R xd qp qq yn xq hn kr J hm H hj;gi_wp2;refine dS HX.out.2.2.2.1 ?_;intro e Y ky;obtain ⟨a,R,xd,_,hn,kr,J,hm⟩:=HX.out;have H:=O.out.1;have hj:=u.out.1;have kx:=ky.out;have V:∀ k,w.heap.size<=k->k<X.heap.size->k≠r->k≠g->(∀ cs Ty z,X.heap[k]?=ZV (Z4 cs Ty z)->¬ jP Ty)->Y.heap[k]?=X.heap[k]?:=λk j B h3 h4 h6=>kx.block k B (λq=>by
   rcases q with q|q|q|q|q
   . exact h4 q
   . exact h3 q
   . have:=H.vol.vol.lt;omega
   . rw [J.n] at q;have:=H.vol.arr.RQ q;omega
   . rcases hd.cl _ hm.kit k q with e3|⟨cs,Ty,z,e3⟩
     . have:=hn.2.1;omega
     . exact h6 _ _ _ e3 (hd.kd _ hm.kit k q _ _ _ e3))
  have ks:∀ {k:Nat} {T:ZO} {x:ZR},ZN X k T x->¬ jP T->∀ cs Ty z,X.heap[k]?=ZV (Z4 cs Ty z)->¬ jP Ty:=λ{k T x} hb hT cs Ty z q=>by
   rw [show X.heap[k]?=ZV (Z4 #[x] T (0,0)) from hb] at q;simp only [UC,U1] at q;rw [<- q.2.1];exact hT
  have k7:aa (Mv v p ps A F) w Y:=a.out.later kx (λk j B=>by
   rcases B with q|q|q|q|q
   . omega
   . omega
   . exact .inr (.inl q)
   . rw [J.n] at q;exact .inl q
   . rcases hn.2.2 k q with q|q
     . exact .inr (.inr q)
     . omega)
  have d2:ZN Y w.heap.size 95 _:=(V _ eb eb eb eb (ks a.b2 vf)).trans a.b2;have d3:ZN Y (w.heap.size+1) 172 _:=(V _ eb eb eb eb (ks a.b3 vf)).trans a.b3;have d4:ZN Y (w.heap.size+1+1) 131 _:=(V _ eb eb eb eb (ks a.b4 Am)).trans a.b4;have d5:ZN Y (w.heap.size+1+1+1) 42 _:=(V _ eb eb eb eb (ks R vv)).trans R;have d7:ZN Y I.heap.size 95 _:=(V _ eb eb eb eb (ks a.b7 vf)).trans a.b7;have d6:ZN Y w5.heap.size 164 _:=(V _ eb eb eb eb (ks a.b6 vf)).trans a.b6;obtain ⟨rr,xj⟩:=ky.arr;obtain ⟨qr,qe,k1,k2,k3,k4,k5,k6⟩:=ky.kit;have k9:oe Y ar v p (qr.SH qe) D L G (B0.rd rr) F:=hm.gotR kx.size (λk j B h3=>kx.block k h3 (λq=>by
   have:=H.vol.room;rcases q with q|q|q|q|q
   . omega
   . omega
   . have:=H.Sf;omega
   . exact B q
   . have:=(hm.apt k q).1;omega)) xj (⟨u.out.2.2.2.2.1.re _ _ k1,k2,k3,k4,by rw [J.n,kf];exact k5,k6⟩:lu X v p D L G Kind hd B0.n (qr.SH qe) Y)
  have km:MJ w ar v p D L G Kind ps A F Y:=⟨qr.SH qe,B0.rd rr,⟨u.out.2.2.2.2.1.re _ _ k1,k2.trans hn.2.1,λk q=>by
   rcases k6 k q with q|q
   . exact hn.2.2 k q
   . exact .inr eb⟩,by rw [kf];exact k5,J.trans (nv.rd hm.fit rr),k9⟩
  obtain ⟨zz,ba,he⟩:=ky.rd;obtain ⟨f1,h0,qs⟩:=ky.row;have z9:X.heap.size<=Y.heap.size:=kx.size;have kz:=O.out.2.2.1.keep (k7.block _ qj u.out.2.1);have HY:=hide12 a he h0 km k7 d2 d3 d4 d5 d6 d7 V;rcases qs with ⟨gn,rfl,z1,yj⟩|rfl;rotate_left
  . have f5:=d5.frozen;have c5:=d5.cell;clear a R hn kr J hm H hj kx V ks k7 d2 d3 d4 d5 d6 d7 xj k1 k2 k3 k4 k5 k6 k9 km he h0 kz ky;gi_wp2;obtain ⟨a,he,h0,km,k7,d2,d3,d4,d5,d6,d7,V⟩:=HY.out;have ko:aa (λk=>k=w.heap.size+1+1+1) Y (Y.setCell ⟨w.heap.size+1+1+1,0,ZW⟩ (.iface 54 (Z7 Z9 3))):=aa.setCell _ _ _ rfl;have qd:=d5.set (.iface 54 (Z7 Z9 3));obtain ⟨W,Q⟩:=nM (Y.setCell ⟨w.heap.size+1+1+1,0,ZW⟩ (.iface 54 (Z7 Z9 3)));rw [Q] at ko qd ⊢;have k8:∀ k,k<Y.heap.size->k≠w.heap.size+1+1+1->W.heap[k]?=Y.heap[k]?:=λk j B=>ko.block k j B;have qh:aa (Mv v p ps A F) w W:=k7.later ko (λk j B=>eb);have qz:=u.out.2.2.1 _ _ _ km ko (λk E=>⟨eb,λcs Ty z q=>by rw [E,show Y.heap[w.heap.size+1+1+1]?=ZV (Z4 _ 42 (0,0)) from d5] at q;simp only [UC,U1] at q;rw [<- q.2.1];exact vv⟩);have zc:=ko.size;refine ⟨⟨eb,λk o E ho xo=>?_⟩,⟨eb,λk E hK=>?_⟩,?_⟩
    . exact (k8 k (eT ((TW.1 ho).1)) eb).trans ((V k eb (TW.1 ho).1 eb eb (λcs Ty z q=>by rw [q] at ho;have:=UA ho;subst this;cases xo)).trans ho)
    . rcases hK with ⟨j,B⟩|j
      . exact (qh.block k j B).trans (a.out.block k j B).symm
      . subst j;exact (k8 _ eb eb).trans (d7.trans a.b7.symm)
    . exact ⟨(k8 _ eb eb).trans d2,(k8 _ eb eb).trans d3,(k8 _ eb eb).trans d4,⟨_,.inr rfl,qd⟩,(k8 _ eb eb).trans d6,(k8 _ eb eb).trans d7,⟨_,_,_,he.keep (k8 _ eb eb)⟩,⟨_,h0.of_block (k8 _ eb eb)⟩,qz,qh,eb⟩
  obtain ⟨S,qc⟩:∃ S:Nat->a9,∀ i,i<N->(S i).length=44/\(∀ z∈S i,z<256)/\∃ bl c,f1 i=Z5 (ZV ⟨bl,0,ZW⟩) 44 c/\X.heap.size<=bl/\bl<Y.heap.size/\Y.rangeAt bl 0 (aJ (S i)):=by
   have h:∀ i,∃ l:a9,i<N->l.length=44/\(∀ z∈l,z<256)/\∃ bl c,f1 i=Z5 (ZV ⟨bl,0,ZW⟩) 44 c/\X.heap.size<=bl/\bl<Y.heap.size/\Y.rangeAt bl 0 (aJ l):=λi=>by
    by_cases a:i<N
    . obtain ⟨bl,c,l,q1,q2,q3,q4,q5,q6⟩:=yj i a;exact ⟨l,λ_=>⟨q4,q5,bl,c,q1,q2,q3,q6⟩⟩
    . exact ⟨[],λq=>absurd q a⟩
   exact ⟨λi=>Classical.choose (h i),λi=>abp (h i)⟩
  have qi:((YC N).map S).length=N:=ek
  have yb:Kf Y w.heap.size g ((YC N).map S):=by
   refine ⟨eb,h0.lt,λi a=>?_⟩;rw [qi] at a;obtain ⟨q4,q5,bl,c,q1,q2,q3,q6⟩:=qc i a;have cg:=h0.cell (i:=i) a;rw [q1] at cg;have e:((YC N).map S)[i]'(by rw [qi];exact a)=S i:=ek;rw [e];exact ⟨bl,0,c,cg,eb,q3,q6,q4,q5⟩
  have qm:=O.out.2.2.2.1 Y.drew (k7.trans (aa.drew Y)) gn;have xe:=u.out.2.2.2.2.2.1 gn (by rw [kf];exact z1);have xv:=ld (k9.vol.below ((TX _ Y).drew) lR) k9.free k9.fit x.1 (sg gn) (by show x.1<B0.nb;rw [J.nb];exact (u.out.2.2.2.1 _ x.2).2) (eT (je xn)) (λi a=>by show i<B0.n;rw [J.n];exact qT xe a) k9.wait k9.here (w:=Y.drew) (c:=N) (yb.keep lR (λ_ _ _=>rfl)) (λi a=>by rw [qi,<- kf];exact qT xe a) (by rw [qi];exact TV _) (λk E=>by have ye:F.has p B0.n k:=E;rw [J.n] at ye;exact H.vol.arr.RQ ye);rw [yM k9.here] at xv;have qv:ZQ ZM 91 #[Z6 (ZV ⟨v,0,ZW⟩),Z7 Z9 x.1,Z5 (ZV ⟨g,0,ZW⟩) N N,Z7 Z8 (sg gn)] Y.drew λe w'=>e=Z3 (Z7 Z8 (0:Nat))/\MJ w ar v p D L G Kind ps A F w'/\aa (F.has p A.n) Y.drew w':=xv.mono λe Z h=>by
   obtain ⟨j,B,h3⟩:=h;have ys:aa (F.has p A.n) Y.drew Z:=(by rw [<- J.n];exact h3);refine ⟨j,?_,ys⟩;have h8:=k9.below ((TX _ Y).drew);refine ⟨qr.SH qe,(B0.rd rr).putAt (ae (sg gn)) x.1 (λi=>(bx.shard (((YC N).map S).getD i [])).blk),⟨u.out.2.2.2.2.1.re _ _ k1,k2.trans hn.2.1,λk q=>by
    rcases k6 k q with q|q
    . exact hn.2.2 k q
    . exact .inr eb⟩,by rw [kf];exact k5,(J.trans (nv.rd hm.fit rr)).trans (nv.put k9.fit _ _ (λi a=>?_)),?_⟩
   . have q8:i<N:=(by rw [<- kf];exact qT xe a);have qa:(bx.shard (((YC N).map S).getD i [])).ok:=by
      rw [show ((YC N).map S).getD i []=S i by simp [T6,q8]];exact ⟨(qc i q8).1,(qc i q8).2.1⟩
     exact ⟨dJ qa,fO qa⟩
   . exact ⟨h8.vol.turn h8.free h3 B,h8.free,h8.Si,h8.Sf,TY h8.Tr h3.size,k9.fit.putAt _ _ _ (λi a=>by
      have q8:i<N:=(by rw [<- kf];exact qT xe a);have qa:(bx.shard (((YC N).map S).getD i [])).ok:=by
       rw [show ((YC N).map S).getD i []=S i by simp [T6,q8]];exact ⟨(qc i q8).1,(qc i q8).2.1⟩
      exact ⟨dJ qa,fO qa⟩),h8.par,h8.n,h8.wait,h8.here,(qr.SH qe).keep _ _ h8.kit λk q=>h3.block k ((qr.SH qe).lt _ h8.kit k q) (h8.apt k q).2.2.2,h8.apt⟩
  have e3:=d3.cell;have e5:=kz.cells.1;unfold iu at e3;have xm:=d4.lt;have HC:=au qm qv;clear a R hn kr J hm hj kx V ks k7 d2 d3 d4 d5 d6 d7 xj k1 k2 k3 k4 k5 k6 k9 km he h0 kz ky yj qc qi yb qm xv qv H;gi_wp2;obtain ⟨a,he,h0,km,k7,d2,d3,d4,d5,d6,d7,V⟩:=HY.out;have H:=O.out.1;have M:∀ k,w.heap.size<=k->¬ F.has p A.n k:=λk E q=>eT (H.vol.arr.RQ q)
  refine CU ei rfl (T:=F.has p A.n) d2 d3 d4 (TY qj k7.size) e5 (M _ eb) (M _ eb) (M _ eb) H.Si Al hE HC.out.1 HC.out.2 rfl rfl rfl rfl rfl rfl ?_;intro Z vs kv kc xc;obtain ⟨x0,x1,x2,x3,x4,x5,x6,x7,x8,x9,xa,xb,rfl⟩:=Kg kv;have HZ:=aE kc xc M;clear a he h0 km k7 d2 d3 d4 d5 d6 d7 V H M kc xc kv e3 e5;simp only [Act.RL,Act.put,UL,UJ,UM];gi_wp2;obtain ⟨a,he,h0,km,k7,d2,d3,d4,d5,d6,d7,V⟩:=HY.out;obtain ⟨kc,xc,M⟩:=HZ.out;have kg:aa (F.has p A.n) Y Z:=(aa.drew Y).trans xc;obtain ⟨W,Q⟩:=nM (Z.setCell ⟨w.heap.size+1+1,0,ZW⟩ (Z7 Z8 ((0:Nat):Int)));rw [Q];have k8:∀ k,k≠w.heap.size+1+1->W.heap[k]?=Z.heap[k]?:=λk E=>by rw [<- Q];exact T7 _ _ _ _ E
  have z6:Z.heap.size=W.heap.size:=by rw [<- Q];simp [World.setCell]
  have ko:aa (λk=>k=w.heap.size+1+1) Z W:=⟨by rw [<- Q];rfl,by rw [<- Q];rfl,by rw [<- Q];rfl,eb,λk _ E=>k8 k E⟩;have za:=kg.size;have kh:∀ k,w.heap.size<=k->k<Y.heap.size->k≠w.heap.size+1+1->W.heap[k]?=Y.heap[k]?:=λk j B h3=>(k8 k h3).trans (kg.block k B (M k j));have zr:ZN Z (w.heap.size+1+1) 131 _:=(kg.block _ xm (M _ eb)).trans d4;have qz:=u.out.2.2.1 _ _ _ kc ko (λk E=>⟨eb,λcs Ty z q=>by rw [E,show Z.heap[w.heap.size+1+1]?=ZV (Z4 _ 131 (0,0)) from zr] at q;simp only [UC,U1] at q;rw [<- q.2.1];exact Am⟩);have ka:ZN W (w.heap.size+1+1) 131 (Z7 Z8 (0:Nat)):=by rw [<- Q];exact zr.set _
  have kp:aa (Mv v p ps A F) w Z:=k7.trans (kg.mono λk _ q=>.inl q);have qh:aa (Mv v p ps A F) w W:=kp.later ko (λk j B=>eb);refine ⟨⟨eb,λk o E ho xo=>?_⟩,⟨eb,λk E hK=>?_⟩,?_⟩
  . exact (kh k eb (eT ((TW.1 ho).1)) eb).trans ((V k eb (TW.1 ho).1 eb eb (λcs Ty z q=>by rw [q] at ho;have:=UA ho;subst this;cases xo)).trans ho)
  . rcases hK with ⟨j,B⟩|j
    . exact (qh.block k j B).trans (a.out.block k j B).symm
    . subst j;exact (kh _ eb eb eb).trans (d7.trans a.b7.symm)
  . exact ⟨(kh _ eb eb eb).trans d2,(kh _ eb eb eb).trans d3,ka,⟨_,xd,(kh _ eb eb eb).trans d5⟩,(kh _ eb eb eb).trans d6,(kh _ eb eb eb).trans d7,⟨_,_,_,he.keep (kh _ eb eb eb)⟩,⟨_,h0.of_block (kh _ eb eb eb)⟩,qz,qh,eb⟩
 case done=>
  rintro D1 bc X yx z4 a hK;have qx:w.heap.size+4<=D1:=eb
  have hz:Q2 w ar cf cp D1 (Mv v p ps A F) (MJ w ar v p D L G Kind ps A F) X:=⟨a.b2,a.b3,a.b4,a.b5,a.arr,a.out,hK⟩;have M:∀ k,w.heap.size<=k->¬ Mv v p ps A F k:=λk E q=>eT (u.out.1 k q)
  have ke:∀ (W:ZS) (b:Nat) (rc:bx),Q2 w ar cf cp D1 (Mv v p ps A F) (MJ w ar v p D L G Kind ps A F) W->b<A.nb->rc.ok->LO rc->ZQ ZM 92 #[Z6 (ZV ⟨ar,0,ZW⟩),Z7 Z9 b,bm rc,iu cf cp] W.drew λe Y=>e=Z3 (Z7 Z8 (0:Nat))/\MJ w ar v p D L G Kind ps A F Y/\aa (Mv v p ps A F) W.drew Y:=λW b rc Q hb qa yz=>by
   obtain ⟨hd,B0,hn,kr,J,hm⟩:=Q.arr;have U:=O.out.2.2.1;have ke:=vu (w:=W.drew) (cf:=cf) (cp:=cp) (sg:=sg) (b:=b) (r:=rc) (hm.below ((TX _ W).drew)) (U.keep (w':=W.drew) (Q.out.block _ U.lt u.out.2.1)) hE (λX' hO=>O.out.2.2.2.1 X' ((Q.out.trans (aa.drew W)).trans (hO.mono λk _ q=>by rw [J.n] at q;exact .inl q))) (λy hy=>by rw [J.n] at hy ⊢;exact u.out.2.2.2.2.2.1 y hy) (by rw [J.nb];exact hb) qa yz;refine ke.mono λe Y h=>?_;obtain ⟨j,⟨C,hC,yv⟩,hO⟩:=h;have yy:aa (F.has p A.n) W.drew Y:=(by rw [<- J.n];exact hO);refine ⟨j,?_,yy.mono λk _ q=>.inl q⟩;have qz:MJ w ar v p D L G Kind ps A F W.drew:=Q.arr.below ((TX _ W).drew);have hp:=hm.below ((TX _ W).drew);exact ⟨hd,C,hn,kr,J.trans hC,⟨hp.vol.turn hp.free hO yv,by rw [hC.n];exact hp.free,by rw [hC.n];exact hp.Si,hp.Sf,TY hp.Tr hO.size,hC.fit,hp.par,hC.n.trans hp.n,by rw [hC.wait];exact hp.wait,λi=>by rw [hC.lost];exact hp.here i,hd.keep _ _ hp.kit λk q=>hO.block k (hd.lt _ hp.kit k q) (hp.apt k q).2.2.2,by rw [hC.n];exact hp.apt⟩⟩
  have HE:=aE hz M ke;clear a hK hz M ke z4;gi_wp2;obtain ⟨hz,M,ke⟩:=HE.out;have U:=O.out.2.2.1;refine I0 ei rfl (T:=Mv v p ps A F) (K:=MJ w ar v p D L G Kind ps A F) hz.b2 hz.b3 hz.b4 (U.keep (hz.out.block _ U.lt u.out.2.1)) (M _ eb) (M _ eb) (M _ eb) u.out.2.1 Al (ke X 0 _ hz eb xp trivial) rfl rfl rfl ?_;intro Z vs kv kc kp;obtain ⟨x0,x1,x2,x3,x4,x5,x6,x7,x8,x9,rfl⟩:=QO kv;have k0:=hz.next u.out.1 u.out.2.2.1 qx kc kp;obtain ⟨W,Q⟩:=nM (Z.setCell ⟨w.heap.size+1+1,0,ZW⟩ (Z7 Z8 ((0:Nat):Int)));rw [Q] at k0 ⊢;obtain ⟨er,z0,R⟩:=id k0.b5;have c5:=R.cell;have qb:=au k0 R;clear hz M ke U kv kc kp k0 Q R;simp only [Act.RL,Act.put,UL,UJ,UM];rcases z0 with rfl|rfl
  . gi_wp2;clear c5;obtain ⟨k0,R⟩:=qb.out;obtain ⟨hz,M,ke⟩:=HE.out;have U:=O.out.2.2.1;refine I1 ei rfl (T:=Mv v p ps A F) (K:=MJ w ar v p D L G Kind ps A F) k0.b2 k0.b3 k0.b4 (U.keep (k0.out.block _ U.lt u.out.2.1)) (M _ eb) (M _ eb) (M _ eb) u.out.2.1 Al (ke W 1 .filled k0 eb trivial trivial) rfl rfl rfl ?_;intro Z2 vs kv kc kp;obtain ⟨y0,y1,y2,y3,y4,y5,y6,rfl⟩:=aat kv;have qg:=k0.next u.out.1 u.out.2.2.1 qx kc kp;have qf:ZN (Z2.setCell ⟨w.heap.size+1+1,0,ZW⟩ (Z7 Z8 ((0:Nat):Int))) (w.heap.size+1+1+1) 42 .nilIface:=(T7 _ _ _ _ (by show w.heap.size+1+1+1≠w.heap.size+1+1;omega)).trans ((((aa.drew W).trans kp).block _ R.lt (M _ eb)).trans R);obtain ⟨W3,yc⟩:=nM (Z2.setCell ⟨w.heap.size+1+1,0,ZW⟩ (Z7 Z8 ((0:Nat):Int)));rw [yc] at qg qf ⊢;have c4:=qg.b4.cell;have f4:=qg.b4.frozen;have c5:=qf.cell;have f5:=qf.frozen;have y7:=au qg qf;clear hz k0 R ke U M kv kc kp qg yc qf;simp only [Act.RL,Act.put,UL,UJ,UM];gi_wp2;gi_region
    gi_wp2;exact My y7.out.1 u.out.1 u.out.2.2.1 (.inl rfl) y7.out.2 qx rfl rfl rfl (λY j B=>⟨⟨_,.inl rfl,rfl⟩,j,B⟩)
  . have c4:=qb.out.1.b4.cell;have f4:=qb.out.1.b4.frozen;have f5:=qb.out.2.frozen;gi_wp2;gi_region
    gi_wp2;exact My qb.out.1 u.out.1 u.out.2.2.1 (.inr rfl) qb.out.2 qx rfl rfl rfl (λY j B=>⟨⟨_,.inr rfl,rfl⟩,j,B⟩)
 case stop=>
  rintro D1 cc pre X yx z3 hx hK;exact hx.elim
end
section
section
variable {w Y:ZS} {ar v p D L G t:Nat} {Kind:aN->Prop} {ps ps':aN} {pg ob:ZR} {P:a9} {xs:bP} {A B:aA} {F:aR}
theorem aO.opn (h:aO w ar v p ps D L G t pg ob P xs A F) (ho:oe Y ar v p ps' D L G B F) (a:nv A B) (c:aa (Mv v p ps A F) w Y) (g:∀ k,ps'.bl k->ps.bl k\/w.heap.size<=k):aO Y ar v p ps' D L G t pg ob P xs B F:=by
 have:=h.Sf;have d:dN (λk=>ar<k/\¬ F.has p A.n k/\¬ ps.bl k/\¬ ps'.bl k) w Y:=⟨c.size,λk i b=>c.block k i (λq=>by
  rcases q with q|q|q
  . exact b.2.1 q
  . have:=b.1;omega
  . exact b.2.2.1 q)⟩
 have f:∀ k,(ar<k/\¬ F.has p A.n k/\¬ ps.bl k)->k<w.heap.size->(ar<k/\¬ F.has p A.n k/\¬ ps.bl k/\¬ ps'.bl k):=λk q j=>⟨q.1,q.2.1,q.2.2,λe=>(g k e).elim q.2.2 eb⟩;refine ⟨h.R3.keep (c.block _ h.R3.lt λq=>?_),ho.vol,ho.free,ho.Si,ho.Sf,h.arK,ho.fit,ho.par,h.RV.congr a.n a.nb a.wait a.lost,?_,?_,by rw [a.nb];exact h.nb,h.turn,ho.kit,ho.apt⟩
 . rcases q with q|q|q
   . exact h.Si q
   . omega
   . exact (h.apt _ q).2.1 rfl
 . rw [a.n];exact ((h.pgs.wk f).keep d).wk λk q _=>⟨q.1,q.2.1,q.2.2.2⟩
 . rw [a.n];exact ((h.cat.wk f).keep d).wk λk q _=>⟨q.1,q.2.1,q.2.2.2⟩
def aO.opened (h:aO w ar v p ps D L G t pg ob P xs A F):oe w ar v p ps D L G A F:=⟨h.vol,h.free,h.Si,h.Sf,h.R3.lt,h.fit,h.par,h.RV.n,h.RV.wait,h.RV.here,h.kit,h.apt⟩
def kX (w:ZS) (ar v p D L G t:Nat) (Kind:aN->Prop) (ps:aN) (pg ob:ZR) (P:a9) (xs:bP) (A:aA) (F:aR) (Y:ZS):Prop:=∃ ps' B,aO Y ar v p ps' D L G t pg ob P xs B F/\(Kind ps'/\ps'.ho<2^A.n/\ps'.ps=ps.ps/\∀ k,ps'.bl k->ps.bl k\/w.heap.size<=k)/\nv A B
def MJ.TB (h:aO w ar v p ps D L G t pg ob P xs A F) (b:MJ w ar v p D L G Kind ps A F Y) (c:aa (Mv v p ps A F) w Y):kX w ar v p D L G t Kind ps pg ob P xs A F Y:=by
 obtain ⟨ps',B,⟨k1,k2,k3⟩,d,a,ho⟩:=b;exact ⟨ps',B,h.opn ho a c k3,⟨k1,d,k2,k3⟩,a⟩
def kX.SH (h:kX w ar v p D L G t Kind ps pg ob P xs A F Y) (b:∀ ps h,Kind ps->Kind (ps.SH h)) (x:Nat) (d:x<2^A.n):kX w ar v p D L G t Kind ps pg ob P xs A F (Y.setCell ⟨v,5,ZW⟩ (Z7 Z8 x)):=by
 obtain ⟨ps',B,a,⟨k1,_,k2,k3⟩,c⟩:=h;exact ⟨ps'.SH x,B,a.opn (a.opened.SH x) (nv.refl a.fit) (aa.setCell _ _ _ (.inr (.inl rfl))) (λk q=>.inl q),⟨b _ _ k1,d,k2,k3⟩,c⟩
def kX.below (h:kX w ar v p D L G t Kind ps pg ob P xs A F Y) (b:bW Y Z):kX w ar v p D L G t Kind ps pg ob P xs A F Z:=by
 obtain ⟨ps',B,d,c,a⟩:=h;exact ⟨ps',B,d.below b,c,a⟩
end
def Mz:QN 61:=UR func61 ei rfl
def MA:QN 76:=UR func76 ei rfl
theorem MC (X:ZS):Cho 61 #[] (λx=>x) X:=λbd=>by
 show ZQ ZM 61 #[Z7 Z8 bd] X _;go_enter func61,ntmps61;go_wp2;go_ret;exact ⟨rfl,rfl⟩
theorem MD {y:Nat} (h:ZN X q 131 (Z7 Z8 y)):Cho 76 #[Z6 (ZV ⟨q,0,ZW⟩)] (λ_=>y) X:=λbd=>by
 show ZQ ZM 76 #[Z7 Z8 bd,Z6 (ZV ⟨q,0,ZW⟩)] X _;have c:=h.cell;clear h;go_enter func76,ntmps76;go_wp2;go_ret;exact ⟨rfl,rfl⟩
def An (w:ZS) (ar v p D L G t:Nat) (Kind:aN->Prop) (ps:aN) (pg ob:ZR) (P:a9) (xs:bP) (A:aA) (F:aR) (e:ZP) (Y:ZS):Prop:=∃ r,fJ r/\e=Z3 r/\kX w ar v p D L G t Kind ps pg ob P xs A F Y/\aa (Mv v p ps A F) w Y
section
variable {w:ZS} {ar v p D L G t:Nat} {Kind:aN->Prop} {ps:aN} {pg ob:ZR} {P:a9} {xs:bP} {A:aA} {F:aR}
def OY (h:aO w ar v p ps D L G t pg ob P xs A F) {k:Nat} (a:Mv v p ps A F k):k<w.heap.size:=by
 rcases a with q|q|q
 . exact h.vol.arr.RQ q
 . rw [q];exact h.vol.vol.lt
 . exact ps.lt _ h.kit k q
theorem E5 (h:aO w ar v p ps D L G t pg ob P xs A F) (hv:mu D L G Kind ps A.n) (r:ps.ps<w.heap.size) (o:2<=A.nb) {q:Nat} (g:ZN w q 95 (Z6 (ZV ⟨ar,0,ZW⟩))) (s:¬ Mv v p ps A F q) :
 ZQ ZM 59 #[Z6 (ZV ⟨q,0,ZW⟩)] w (An w ar v p D L G t Kind ps pg ob P xs A F):=by
 have f:=CW h hv r o Mz (λX _=>MC X) (λx y=>y);unfold iu at f;have i:=g.cell;have d:=aE h hv g;clear h hv g;go_enter func59,ntmps59;go_wp2_with fail;refine f.mono ?_;rintro e Y ⟨⟨C,m,rfl⟩,j,a⟩;have b:=j.TB d.out.1 a;obtain ⟨ps',B,c,u,_⟩:=id b;have l:Y.cell? ⟨q,0,ZW⟩=ZV (Z6 (ZV ⟨ar,0,ZW⟩)):=(Uh (a.block _ d.out.2.2.lt s)).trans i;have z:=c.R3.cells.1;obtain ⟨I,E⟩:=Ak c.vol.vol;have H:=aE b a c;clear f j a b c u i;rcases m with rfl|rfl
 . go_wp2;go_ret;obtain ⟨b,a,c⟩:=H.out;exact ⟨_,.inl rfl,rfl,b.SH d.out.2.1.re 0 (VH _),a.later (aa.setCell (S:=λk=>k=v) _ _ _ rfl) (λk _ e=>.inr (.inl e))⟩
 . go_wp2;go_ret;obtain ⟨b,a,c⟩:=H.out;exact ⟨_,.inr ⟨3,ec,rfl⟩,rfl,b,a⟩
theorem CX (h:aO w ar v p ps D L G t pg ob P xs A F) (hv:mu D L G Kind ps A.n) (k0:ps.ps<w.heap.size) (hz:2<=A.nb) (d:Nat) (hd:d<D+L+G) :
 ZQ ZM 52 #[Z6 (ZV ⟨ar,0,ZW⟩),Z7 Z9 d] w (An w ar v p D L G t Kind ps pg ob P xs A F):=by
 have c0:=h.R3.cells.1;have V:=iq h.vol.vol;have hD:=h.par.d;have hL:=h.par.l4;have hG:=h.par.g;have hN:=h.RV.n;have hS:=h.par.s;have Z:=λw1:ZS=>qQ (D:Int) (L:Int) (G:Int) w1 ⟨eb,eb⟩ ⟨eb,eb⟩ ⟨eb,eb⟩;have hq:=λw1:ZS=>iM 0 d ec eb w1;have H:=a7 V Z hq h hv;have O:2^d<2^A.n:=VC ec eb;have hy:2^A.n<=65536:=je eb;clear V Z hq h hv;have h0:¬ (d:Int)<0:=eb
 go_enter func52,ntmps52;go_wp2_with fail;refine H.out.1.mono ?_;rintro e w1 ⟨rfl,o,_⟩;go_wp2_with fail;refine (H.out.2.1 _).mono ?_;rintro e w2 ⟨rfl,hn⟩;have M:bW w w2:=by rw [hn];exact o.alloc o.size _
 have m:=al M;clear hn o M;go_wp2_with fail;refine (H.out.2.2.1 _).mono ?_;rintro e b ⟨rfl,rfl⟩;go_wp2_with fail;have j:ZN (b.alloc (Z4 #[Z7 Z8 ((2:Int)^d)] 131)) b.heap.size 131 (Z7 Z8 (2^d:Nat)):=by
  rw [X3];exact Uj b _ _
 have i:bW w (b.alloc (Z4 #[Z7 Z8 ((2:Int)^d)] 131)):=m.out.alloc m.out.size _;obtain ⟨w4,hp⟩:=nM (b.alloc (Z4 #[Z7 Z8 ((2:Int)^d)] 131));rw [hp] at j i ⊢;have r:=H.out.2.2.2.1.below i;have hs:w.heap.size<=b.heap.size:=m.out.size;have u:¬ Mv v p ps A F b.heap.size:=λq=>eT (OY H.out.2.2.2.1 q)
 have x:=CW r H.out.2.2.2.2 (TY k0 i.size) hz MA (λX hX=>MD (y:=2^d) ((hX.block _ j.lt u).trans j)) (λ_ _=>O);unfold iu at x;refine x.mono ?_;rintro e Y ⟨⟨er,hr,rfl⟩,N,a⟩;have c:=N.TB r a;obtain ⟨ps',B,l,⟨_,U,_⟩,_⟩:=id c;have W:ZN Y b.heap.size 131 (Z7 Z8 (2^d:Nat)):=(a.block _ j.lt u).trans j;have cq:=W.cell;have hb:=l.R3.cells.1;obtain ⟨k5,f5⟩:=Ak l.vol.vol;obtain ⟨f,hx⟩:=nM (ps'.ho);rw [hx] at k5 U;have R:=X5 f (2^d) eb eb;have T:Db f (2^d)<2^A.n:=Xy (WJ:Db f (2^d)<=f) U;have J:kX w ar v p D L G t Kind ps pg ob P xs A F Y:=by
  obtain ⟨ps',B,q1,⟨q2,q3,q4,q5⟩,q6⟩:=c;exact ⟨ps',B,q1,⟨q2,q3,q4,λk q=>(q5 k q).imp id λq=>TU i.size q⟩,q6⟩
 have K:aa (Mv v p ps A F) w Y:=(aa.RO i _).trans a;have C:=aE J K l;clear x N a c l J K W j i r c0 hp u hs;rcases hr with rfl|rfl
 . have I:bits .andNot .u64 (f:Int) ((2^d:Nat):Int)=((Db f (2^d):Nat):Int):=R;clear R;generalize Db f (2^d)=z at I T;obtain ⟨E,Q⟩:∃ E:Nat,2^d=E:=⟨_,rfl⟩;rw [Q] at cq I;clear Q O;go_wp2;go_region;go_wp2;go_ret;obtain ⟨c,a,l⟩:=C.out;exact ⟨_,.inl rfl,rfl,(c.SH H.out.2.2.2.2.re z T).below (TX _ _).drew,(a.later (aa.setCell (S:=λk=>k=v) _ _ _ rfl) (λk _ e=>.inr (.inl e))).trans (aa.drew _)⟩
 . go_wp2;go_ret;obtain ⟨c,a,l⟩:=C.out;exact ⟨_,.inr ⟨3,ec,rfl⟩,rfl,c,a⟩
theorem Ao (h:aO w ar v p ps D L G t pg ob P xs A F) (hv:mu D L G Kind ps A.n) (j:ps.ps<w.heap.size) (i:2<=A.nb) (d:Nat) (k:d<D+L+G) {q1 g:Nat} (a:ZN w q1 95 (Z6 (ZV ⟨ar,0,ZW⟩))) (b:ZN w g 3 (Z7 Z9 d)) :
 ZQ ZM 51 #[Z6 (ZV ⟨q1,0,ZW⟩),Z6 (ZV ⟨g,0,ZW⟩)] w (An w ar v p D L G t Kind ps pg ob P xs A F):=by
 have f:=CX h hv j i d k;have c1:=a.cell;have m:=b.cell;clear h hv a b;go_enter func51,ntmps51;go_wp2_with fail;refine f.mono ?_;rintro e Y ⟨r,l,rfl,c⟩;have H:=al c;clear c f;go_wp2;go_ret;exact ⟨r,l,rfl,H.out⟩
def pF (w:ZS) (ar v p D L G:Nat) (Kind:aN->Prop) (ps:aN) (A:aA) (F:aR) (w':ZS):Prop:=(∃ t pg ob P xs ps' B,aO w' ar v p ps' D L G t pg ob P xs B F/\(Kind ps'/\ps'.ho<2^A.n/\ps'.ps=ps.ps/\∀ k,ps'.bl k->ps.bl k\/w.heap.size<=k)/\B.nb=A.nb)/\aa (λj=>j=ar\/F.has p A.n j\/j=v\/ps.bl j) w w'
def F1 (h:aO w ar v p ps D L G t pg ob P xs A F) (k:FuncId) (cap:Array ZR) (s:∀ (args:Array ZR) (w:ZS),(callFunc k args).run ZM w=.ok (.enter k args) w) (u:∀ w1,bW w w1->ZQ ZM k cap w1 (An w1 ar v p D L G t Kind ps pg ob P xs A F)) :
 ZQ ZM 45 #[Z6 (ZV ⟨ar,0,ZW⟩),.func (.func k) #[] cap] w λe w'=>(∃ r,fJ r/\e=Z3 r)/\pF w ar v p D L G Kind ps A F w':=by
 have y:=Ag h k #[] cap s (λr m a B ps' w2=>Kind ps'/\ps'.ho<2^A.n/\ps'.ps=ps.ps/\∀ k,ps'.bl k->ps.bl k\/w.heap.size<=k) (λj=>j=v\/ps.bl j) (λj e=>by
  rcases e with e|e
  . have:=h.vol.vol.lt;omega
  . have:=ps.lt _ h.kit _ e;omega) (λ_ _ _ _ _ _ _ _ q=>q)
  (λw1 l E=>by
   rw [(ek:(#[]:Array ZR)++cap=cap)];refine (u w1 l).mono ?_;rintro e w2 ⟨r,f,rfl,⟨ps',B,d,⟨k1,k2,k3,k4⟩,c⟩,b⟩;exact ⟨r,t,pg,ob,P,xs,B,ps',rfl,f,d,c.n,⟨c.nb,c.lost⟩,b.mono λj _ C=>.inr C,k1,k2,k3,λk q=>(k4 k q).imp id λq=>TU l.size q⟩)
 refine y.mono ?_;rintro e w' ⟨r,m,i,g,o,a,B,ps',rfl,f,d,H,x,b,z⟩;exact ⟨⟨r,f,rfl⟩,⟨m,i,g,o,a,ps',B,d,z,x.1⟩,b⟩
def pF.before (a:bW w0 w) (h:pF w ar v p D L G Kind ps A F w'):pF w0 ar v p D L G Kind ps A F w':=by
 obtain ⟨⟨t,pg,ob,P,xs,ps',B,c,⟨k1,k2,k3,k4⟩,d⟩,b⟩:=h;exact ⟨⟨t,pg,ob,P,xs,ps',B,c,⟨k1,k2,k3,λk q=>(k4 k q).imp id λq=>TU a.size q⟩,d⟩,(aa.RO a _).trans b⟩
theorem QP (h:aO w ar v p ps D L G t pg ob P xs A F) (hv:mu D L G Kind ps A.n) (l:ps.ps<w.heap.size) (k:2<=A.nb) :
 ZQ ZM 41 #[Z6 (ZV ⟨ar,0,ZW⟩)] w λe w'=>(∃ r,fJ r/\e=Z3 r)/\pF w ar v p D L G Kind ps A F w':=by
 have j:∀ (args:Array ZR) (w:ZS),(callFunc 59 args).run ZM w=.ok (.enter 59 args) w:=UR func59 ei rfl;have a:bW w (w.alloc (Z4 #[Z6 (ZV ⟨ar,0,ZW⟩)] 95)):=bA w _;have b:ZN (w.alloc (Z4 #[Z6 (ZV ⟨ar,0,ZW⟩)] 95)) w.heap.size 95 (Z6 (ZV ⟨ar,0,ZW⟩)):=Uj w _ _;obtain ⟨w1,o⟩:=nM (w.alloc (Z4 #[Z6 (ZV ⟨ar,0,ZW⟩)] 95));rw [o] at a b;have d:=h.below a;have m:¬ Mv v p ps A F w.heap.size:=λq=>eT (OY h q)
 have f:=F1 d 59 #[Z6 (ZV ⟨w.heap.size,0,ZW⟩)] j (λw2 c=>E5 (d.below c) hv (TY l (TU a.size c.size)) k ((c.block _ b.lt).trans b) m);have u:=b.cell;have H:=au f a;clear f a b d h hv;go_enter func41,ntmps41;go_wp2_with fail;refine H.out.1.mono ?_;rintro e w' ⟨⟨r,s,rfl⟩,g⟩;have i:=al g;clear g;go_wp2;go_ret;exact ⟨⟨r,s,rfl⟩,i.out.before H.out.2⟩
theorem ME (h:aO w ar v p ps D L G t pg ob P xs A F) (hv:mu D L G Kind ps A.n) (o:ps.ps<w.heap.size) (m:2<=A.nb) (d:Nat) (s:d<D+L+G) :
 ZQ ZM 32 #[Z6 (ZV ⟨ar,0,ZW⟩),Z7 Z9 d] w λe w'=>(∃ r,fJ r/\e=Z3 r)/\pF w ar v p D L G Kind ps A F w':=by
 have l:∀ (args:Array ZR) (w:ZS),(callFunc 51 args).run ZM w=.ok (.enter 51 args) w:=UR func51 ei rfl;have a:bW w ((w.alloc (Z4 #[Z6 (ZV ⟨ar,0,ZW⟩)] 95)).alloc (Z4 #[Z7 Z9 d] 3)):=(bA w _).alloc ek _;have b:ZN ((w.alloc (Z4 #[Z6 (ZV ⟨ar,0,ZW⟩)] 95)).alloc (Z4 #[Z7 Z9 d] 3)) w.heap.size 95 (Z6 (ZV ⟨ar,0,ZW⟩)):=(Uj w _ _).alloc _;have f:ZN ((w.alloc (Z4 #[Z6 (ZV ⟨ar,0,ZW⟩)] 95)).alloc (Z4 #[Z7 Z9 d] 3)) (w.heap.size+1) 3 (Z7 Z9 d):=by
  have:=Uj (w.alloc (Z4 #[Z6 (ZV ⟨ar,0,ZW⟩)] 95)) 3 (Z7 Z9 d);rwa [Ua] at this
 obtain ⟨w1,q⟩:=nM ((w.alloc (Z4 #[Z6 (ZV ⟨ar,0,ZW⟩)] 95)).alloc (Z4 #[Z7 Z9 d] 3));rw [q] at a b f;have g:=h.below a;have i:=F1 g 51 #[Z6 (ZV ⟨w.heap.size,0,ZW⟩),Z6 (ZV ⟨w.heap.size+1,0,ZW⟩)] l (λw2 c=>Ao (g.below c) hv (TY o (TU a.size c.size)) m d s ((c.block _ b.lt).trans b) ((c.block _ f.lt).trans f));have x:=b.cell;have H:=au i a;clear i a b f g h hv;go_enter func32,ntmps32;go_wp2_with fail;refine H.out.1.mono ?_;rintro e w' ⟨⟨r,u,rfl⟩,j⟩;have k:=al j;clear j;go_wp2;go_ret;exact ⟨⟨r,u,rfl⟩,k.out.before H.out.2⟩
theorem QQ (hs:ZN w sa 99 (Z6 (ZV ⟨ar,0,ZW⟩))) (h:aO w ar v p ps D L G t pg ob P xs A F) (hv:mu D L G Kind ps A.n) (f:ps.ps<w.heap.size) (d:2<=A.nb) :
 ZQ ZM 27 #[Z6 (ZV ⟨sa,0,ZW⟩)] w λe w'=>(∃ r,fJ r/\e=Z3 r)/\pF w ar v p D L G Kind ps A F w':=by
 have cs:=hs.cell;have b:=QP h hv f d;clear hs h hv;go_enter func27,ntmps27;go_wp2_with fail;refine b.mono ?_;rintro e w' ⟨⟨r,g,rfl⟩,a⟩;have c:=al a;clear a b;go_wp2;go_ret;exact ⟨⟨r,g,rfl⟩,c.out⟩
theorem MF (hs:ZN w sa 99 (Z6 (ZV ⟨ar,0,ZW⟩))) (h:aO w ar v p ps D L G t pg ob P xs A F) (hv:mu D L G Kind ps A.n) (g:ps.ps<w.heap.size) (f:2<=A.nb) (d:Nat) (i:d<D+L+G) :
 ZQ ZM 13 #[Z6 (ZV ⟨sa,0,ZW⟩),Z7 Z9 d] w λe w'=>(∃ r,fJ r/\e=Z3 r)/\pF w ar v p D L G Kind ps A F w':=by
 have cs:=hs.cell;have b:=ME h hv g f d i;clear hs h hv;go_enter func13,ntmps13;go_wp2_with fail;refine b.mono ?_;rintro e w' ⟨⟨r,j,rfl⟩,a⟩;have c:=al a;clear a b;go_wp2;go_ret;exact ⟨⟨r,j,rfl⟩,c.out⟩
end
end
section
def bz.below (h:bz w) (b:bW w w'):bz w':=by
 have a:w.cell? ⟨0,0,ZW⟩=_:=h;exact (b.cell (T8 a)).trans a
structure AB (w0 w:ZS) (wb D L G nb p r:Nat) (s:ZR) (A:aA) (F:aR) (out want:ZR) (cache:Int):Prop where
 Sa:gL w wb D L G (Z6 (ZV ⟨p,0,ZW⟩)) s (Z6 (ZV ⟨r,0,ZW⟩)) nb out want cache
 sp:∃ o,s=.pointer o
 arr:aj w p A F
 fit:A.fit
 par:uM D L G
 n:A.n=D+L+G
 nb:A.nb=nb
 wait:A.wait<0
 here:∀ i,A.lost i=ZT
 base:bW w0 w
 TP:bz w0
 hv:aY w0
 ht:aK w0
 hK:3<=w0.heap.size
 wbB:w0.heap.size<=wb
 fB:∀ k,F.has p A.n k->w0.heap.size<=k
 nb8:8<=A.nb/\A.nb<=300
structure MB (w0 w:ZS) (wb D L G nb t:Nat) (xs:bP) (p r sa ar v:Nat) (Kind:aN->Prop) (ps:aN) (pg ob:ZR) (P:a9) (A:aA) (F:aR) (out want:ZR) (cache:Int):Prop where
 ab:AB w0 w wb D L G nb p r (Z6 (ZV ⟨sa,0,ZW⟩)) A F out want cache
 box:ZN w sa 99 (Z6 (ZV ⟨ar,0,ZW⟩))
 live:aO w ar v p ps D L G t pg ob P xs A F
 lt:wb<ar
 vB:w0.heap.size<=v
 kB:∀ k,ps.bl k->w0.heap.size<=k
 shv:mu D L G Kind ps A.n
 pk:∀ ps w,Kind ps->ps.S w->ps.ps<w.heap.size
 wbK:¬ ps.bl wb
structure Dc (w:ZS) (r:Nat) (Q:List (ByteArray×ZR)) (ys:bP) (out want:ZR):Prop where
 ref:∃ rb rv,ru w r rb rv Q
 rel:nz w Q ys
 ow:kD out/\kD want
def MT (w0 w:ZS) (wb sa D L G nb T:Nat):Prop:=∃ t xs ys Q p r ar v Kind ps pg ob P A F out want cache,MB w0 w wb D L G nb t xs p r sa ar v Kind ps pg ob P A F out want cache/\Dc w r Q ys out want/\ys.length<=T
def MS (w0 w:ZS) (wb D L G nb T:Nat):Prop:=∃ sa,MT w0 w wb sa D L G nb T
def AS (w0 w:ZS) (wb D L G nb T:Nat):Prop:=∃ ys Q p r s A F out want cache,AB w0 w wb D L G nb p r s A F out want cache/\Dc w r Q ys out want/\ys.length<=T
def MS.as (h:MS w0 w wb D L G nb T):AS w0 w wb D L G nb T:=by
 obtain ⟨sa,t,xs,ys,Q,p,r,ar,v,Kind,ps,pg,ob,P,A,F,out,want,cache,h,b,a⟩:=h;exact ⟨_,_,_,_,_,_,_,_,_,_,h.ab,b,a⟩
def gd.ref (h:ru w r rb rv Q) (b:gd B w w') (a:w.heap.size<=B):ru w' r rb rv Q:=
 ⟨(b _ (.inl rfl) r _ (TY (TW.1 h.top).1 a) h.top).trans h.top,Mt h.own (b _ (.inr (.inl rfl))) a⟩
def gd.box (h:ZN w sa 99 u) (b:gd B w w') (a:w.heap.size<=B):ZN w' sa 99 u:=
 (b _ (.inr (.inr (.inl rfl))) sa _ (TY h.lt a) h).trans h
def gd.ow (h:Ow w u l) (b:gd B w w') (a:w.heap.size<=B):Ow w' u l:=h.keep ((b _ (.inr (.inr (.inr (.inl rfl))))).mono a)
def Dc.keep (h:Dc w r Q ys out want) (b:gd B w w') (a:w.heap.size<=B):Dc w' r Q ys out want:=by
 obtain ⟨rb,rv,c⟩:=h.ref;exact ⟨⟨rb,rv,b.ref c a⟩,h.rel.keep λ_ _ o=>b.ow o a,h.ow⟩
def aj.wbF {a r:ZR} (h:aj w p A F) (f:gL w wb D L G a s r nb out want cache):¬ F.has p A.n wb:=λq=>by
 have d:w.heap[wb]?=ZV (Z4 _ 47 (0,0)):=f;obtain ⟨cs,T,b,e⟩:=h.kind q;rw [d] at b;simp only [UC,U1] at b;have c:=b.2.1;rcases e with k|k|k|k<;>exact absurd (c.trans k) ec
section
variable {w0 w w':ZS} {wb D L G nb t:Nat} {xs:bP} {p r sa ar v:Nat} {s:ZR} {Kind:aN->Prop} {ps:aN} {pg ob:ZR} {P:a9} {A:aA} {F:aR} {out want:ZR} {cache:Int}
def AB.gl (h:AB w0 w wb D L G nb p r s A F out want cache):bz w:=h.TP.below h.base
def AB.turn (h:AB w0 w wb D L G nb p r s A F out want cache) (b:aa (F.has p A.n) w w') {B:aA} (c:aj w' p B F) (a:nv A B):AB w0 w' wb D L G nb p r s B F out want cache:=
 ⟨ay.keep h.Sa (b.block _ (ay.lt h.Sa) (h.arr.wbF h.Sa)),h.sp,c,a.fit,h.par,a.n.trans h.n,a.nb.trans h.nb,by rw [a.wait];exact h.wait,by rw [a.lost];exact h.here,h.base.trans (b.below λk d=>⟨TY d h.base.size,λq=>eT (h.fB k q)⟩),h.TP,h.hv,h.ht,h.hK,h.wbB,by rw [a.n];exact h.fB,by rw [a.nb];exact h.nb8⟩
def AB.below (h:AB w0 w wb D L G nb p r s A F out want cache) (a:bW w w'):AB w0 w' wb D L G nb p r s A F out want cache:=
 h.turn (aa.RO a _) (h.arr.below a lR) (nv.refl h.fit)
def MB.Sa (h:MB w0 w wb D L G nb t xs p r sa ar v Kind ps pg ob P A F out want cache):gL w wb D L G (Z6 (ZV ⟨p,0,ZW⟩)) (Z6 (ZV ⟨sa,0,ZW⟩)) (Z6 (ZV ⟨r,0,ZW⟩)) nb out want cache:=h.ab.Sa
def MB.base (h:MB w0 w wb D L G nb t xs p r sa ar v Kind ps pg ob P A F out want cache):bW w0 w:=h.ab.base
def MB.gl (h:MB w0 w wb D L G nb t xs p r sa ar v Kind ps pg ob P A F out want cache):bz w:=h.ab.gl
def MB.next (h:MB w0 w wb D L G nb t xs p r sa ar v Kind ps pg ob P A F out want cache) (l:gd w.heap.size w w') (m:w'.heap[wb]?=w.heap[wb]?) (j:bW w0 w') {t':Nat} {xs':bP} {pg' b:ZR} {P':a9} {B:aA} {ps':aN} (a:aO w' ar v p ps' D L G t' pg' b P' xs' B F) (d:B.nb=A.nb) (i:Kind ps') (g:ps'.ho<2^A.n) (c:∀ k,ps'.bl k->ps.bl k\/w.heap.size<=k) :
 MB w0 w' wb D L G nb t' xs' p r sa ar v Kind ps' pg' b P' B F out want cache:=by
 have f:B.n=A.n:=a.RV.n.trans h.ab.n.symm;exact ⟨⟨ay.keep h.Sa m,h.ab.sp,a.vol.arr,a.fit,h.ab.par,a.RV.n,d.trans h.ab.nb,a.RV.wait,a.RV.here,j,h.ab.TP,h.ab.hv,h.ab.ht,h.ab.hK,h.ab.wbB,by rw [f];exact h.ab.fB,by rw [d];exact h.ab.nb8⟩,l.box h.box lR,a,h.lt,h.vB,λk q=>(c k q).elim (h.kB k) λe=>TU h.base.size e,⟨h.shv.sh,h.shv.re,i,by rw [f];exact g⟩,h.pk,λq=>(c wb q).elim h.wbK λe=>absurd (ay.lt h.Sa) (Xn.2 e)⟩
def MB.below (h:MB w0 w wb D L G nb t xs p r sa ar v Kind ps pg ob P A F out want cache) (a:bW w w'):MB w0 w' wb D L G nb t xs p r sa ar v Kind ps pg ob P A F out want cache:=
 h.next (gd.below a _) (a.block _ (ay.lt h.Sa)) (h.base.trans (a.mono h.base.size)) (h.live.below a) rfl h.shv.kind h.shv.hol (λ_ q=>.inl q)
def MB.wbF (h:MB w0 w wb D L G nb t xs p r sa ar v Kind ps pg ob P A F out want cache):¬ F.has p A.n wb/\wb≠v:=by
 have b:w.heap[wb]?=ZV (Z4 _ 47 (0,0)):=h.Sa;refine ⟨h.ab.arr.wbF h.Sa,λe=>?_⟩;have a:=h.live.vol.vol;unfold bk at a;rw [<- e,b] at a;cases a
def MB.TK (h:MB w0 w wb D L G nb t xs p r sa ar v Kind ps pg ob P A F out want cache) (c:aa (λj=>j=ar\/F.has p A.n j\/j=v\/ps.bl j) w w') {t':Nat} {xs':bP} {pg' a:ZR} {P':a9} {B:aA} {ps':aN} (i:aO w' ar v p ps' D L G t' pg' a P' xs' B F) (g:B.nb=A.nb) (f:Kind ps') (d:ps'.ho<2^A.n) (e:∀ k,ps'.bl k->ps.bl k\/w.heap.size<=k) :
 MB w0 w' wb D L G nb t' xs' p r sa ar v Kind ps' pg' a P' B F out want cache/\gd w.heap.size w w':=by
 have b:=gd.live (B:=w.heap.size) h.live.vol.arr h.live.R3 h.live.vol.vol h.live.kit c;refine ⟨h.next b (c.block _ (ay.lt h.Sa) (λq=>?_)) (h.base.trans (c.below λk b=>⟨TY b h.base.size,λq=>?_⟩)) i g f d e,b⟩
 . rcases q with q|q|q|q
   . have:=h.lt;omega
   . exact h.wbF.1 q
   . exact h.wbF.2 q
   . exact h.wbK q
 . have:=h.ab.wbB;have:=h.lt;have:=h.vB;rcases q with q|q|q|q
   . omega
   . have:=h.ab.fB k q;omega
   . omega
   . have:=h.kB k q;omega
def MB.call (h:MB w0 w wb D L G nb t xs p r sa ar v Kind ps pg ob P A F out want cache) (c:aa (λj=>j=ar\/F.has p A.n j) w w') {t':Nat} {xs':bP} {pg' a:ZR} {P':a9} {B:aA} (d:aO w' ar v p ps D L G t' pg' a P' xs' B F) (b:B.nb=A.nb) :
 MB w0 w' wb D L G nb t' xs' p r sa ar v Kind ps pg' a P' B F out want cache/\gd w.heap.size w w':=h.TK (c.mono λ_ _ q=>q.elim .inl λe=>.inr (.inl e)) d b h.shv.kind h.shv.hol λ_ q=>.inl q
def MB.done (h:MB w0 w wb D L G nb t xs p r sa ar v Kind ps pg ob P A F out want cache) (c:pF w ar v p D L G Kind ps A F w'):(∃ t xs ps pg ob P A,MB w0 w' wb D L G nb t xs p r sa ar v Kind ps pg ob P A F out want cache)/\gd w.heap.size w w':=by
 obtain ⟨⟨l,i,g,k,j,ps',B,e,⟨k1,k2,k3,k4⟩,f⟩,d⟩:=c;obtain ⟨a,b⟩:=h.TK d e f k1 k2 k4;exact ⟨⟨_,_,_,_,_,_,_,a⟩,b⟩
def m5 (d:gL w wb D L G (Z6 (ZV ⟨p,0,ZW⟩)) s (Z6 (ZV ⟨r,0,ZW⟩)) nb out want cache) (b:aa (λj=>j=wb) w w'):gd w.heap.size w w':=λT c j cs f a=>b.block j f (λe=>by
 have g:w.heap[wb]?=ZV (Z4 _ 47 (0,0)):=d;subst e;rw [g] at a;simp only [UC,U1] at a;have e:=a.2.1;rcases c with q|q|q|q|q<;>exact absurd (e.trans q) ec)
def AB.write (h:AB w0 w wb D L G nb p r s A F out want cache) (d:aa (λj=>j=wb) w w') {r':Nat} {s' b a:ZR} {cache':Int} (hs:∃ o,s'=.pointer o)
 (f:gL w' wb D L G (Z6 (ZV ⟨p,0,ZW⟩)) s' (Z6 (ZV ⟨r',0,ZW⟩)) nb b a cache'):AB w0 w' wb D L G nb p r' s' A F b a cache':=
 ⟨f,hs,h.arr.keep λk c=>d.block k (h.arr.RQ c) (λe=>h.arr.wbF h.Sa (e▸c)),h.fit,h.par,h.n,h.nb,h.wait,h.here,h.base.trans (d.below λk c=>⟨TY c h.base.size,λq=>eT h.wbB⟩),h.TP,h.hv,h.ht,h.hK,h.wbB,h.fB,h.nb8⟩
def MB.write (h:MB w0 w wb D L G nb t xs p r sa ar v Kind ps pg ob P A F out want cache) (b:aa (λj=>j=wb) w w') {r':Nat} {out' a:ZR} {cache':Int}
 (e:gL w' wb D L G (Z6 (ZV ⟨p,0,ZW⟩)) (Z6 (ZV ⟨sa,0,ZW⟩)) (Z6 (ZV ⟨r',0,ZW⟩)) nb out' a cache') :
 MB w0 w' wb D L G nb t xs p r' sa ar v Kind ps pg ob P A F out' a cache'/\gd w.heap.size w w':=by
 obtain ⟨f1,d⟩:=h.wbF;have c:=m5 h.Sa b;exact ⟨⟨h.ab.write b h.ab.sp e,c.box h.box lR,h.live.other b.size (λj f g=>b.block j g f) h.lt d f1 (by have:=h.ab.hK;have:=h.ab.wbB;omega) h.wbK,h.lt,h.vB,h.kB,h.shv,h.pk,h.wbK⟩,c⟩
end
end
def mx (w:ZS) (q:Nat) (o:og) (dv:ZR):Prop:=ay w q 33 [Z7 Z9 o.kind,Z7 Z9 o.a,ZZ o.s,dv]
def mx.cells {o:og} {dv:ZR} (h:mx w q o dv):w.cell? ⟨q,0,ZW⟩=ZV (Z7 Z9 o.kind)/\w.cell? ⟨q,1,ZW⟩=ZV (Z7 Z9 o.a)/\w.cell? ⟨q,2,ZW⟩=ZV (ZZ o.s)/\w.cell? ⟨q,3,ZW⟩=ZV dv:=
 ⟨ay.cell h rfl,ay.cell h rfl,ay.cell h rfl,ay.cell h rfl⟩
def isN (x:ZR) (n:Int):Prop:=x=iS n\/(x=.nilIface/\n=0)
def pG {n:Int} (b:isN x n) {w:ZS} (a:bz w):ZQ ZM 12 #[x] w λe w'=>e=Z3 (Z7 Z9 n)/\bW w w':=by
 rcases b with rfl|⟨rfl,rfl⟩
 . exact nI n w a
 . exact oK w
def Ap (h:fJ x):∃ n,isN x n:=by
 rcases h with h|⟨n,_,h⟩
 . exact ⟨0,.inr ⟨h,rfl⟩⟩
 . exact ⟨n,.inl h⟩
def RpA (w:ZS) (q:Nat) (Q:List (ByteArray×ZR)) (x:ByteArray) (d:a9) (e:ZP) (w':ZS):Prop:=
 (∃ f:Int,f≠0/\e=Z3 (Z7 Z9 f)/\w'=w)\/(d.length<=1500/\L2 w q Q x d e w')
def MG {d:a9} (f:ru w q rb rv Q) (k:Q.length<=1000) (hs:∀ o∈Q,kD o.2) (x:ByteArray) {ao:Option Addr} {c m:Nat} (j:d.length=m) (i:Bs w (.slice ao m c) d) :
 ZQ ZM 36 #[Z6 (ZV ⟨q,0,ZW⟩),ZZ x,.slice ao m c] w (RpA w q Q x d):=by
 subst j;by_cases a:eA x
 . by_cases g:1500<d.length
   . exact (Iw q x ao _ c a g w).mono λe w' h=>.inl ⟨7,ec,h.1,h.2⟩
   . by_cases b:isNone Q x
     . exact (N9 f eb hs x ao c d i eb a b).mono λe w' h=>.inr ⟨eb,h⟩
     . exact (CC f eb x ao _ c a eb b).mono λe w' h=>.inl ⟨8,ec,h.1,h.2⟩
 . exact (Iv q x ao _ c a w).mono λe w' h=>.inl ⟨6,ec,h.1,h.2⟩
def I4 (h:aM w b l):vh w b:=λoff u c=>by
 have f:=h.heap;simp only [World.cell?,f] at c;have:u∈(l.map (λx=>Value.int .u8 ((x:Nat):Int))):=by
  have a:=c;simp at a;obtain ⟨x,g,rfl⟩:=a;obtain ⟨d,e⟩:=UT.1 g;exact T1.2 ⟨x,e▸T4 d,rfl⟩
 obtain ⟨x,_,rfl⟩:=T1.1 this;exact ⟨λy e=>Za,λs e=>Za⟩
def aM.bs (h:aM w b (l++[71,72])) (d:l.length=m) (f:l.length<=1000000) (e:∀ x∈l,x<256):Bs w (Z5 (ZV ⟨b,0,ZW⟩) m (m+2)) l:=by
 subst d;have:=Bs.SD (n:=l.length) h ek eb (by intro x c;rcases Ub.1 c with q|q;exact e x q;simp at q;omega);have a:(l++[71,72]).length=l.length+2:=ek
 rw [a,List.take_left'] at this;exact this;rfl
def MT.mono (h:MT w0 w wb sa D L G nb T) (d:T<=T'):MT w0 w wb sa D L G nb T':=by
 obtain ⟨t,xs,ys,Q,p,r,ar,v,Kind,ps,pg,ob,P,A,F,out,want,cache,a,b,c⟩:=h;exact ⟨t,xs,ys,Q,p,r,ar,v,Kind,ps,pg,ob,P,A,F,out,want,cache,a,b,eb⟩
def MT.below (h:MT w0 w wb sa D L G nb T) (a:bW w w'):MT w0 w' wb sa D L G nb T:=by
 obtain ⟨t,xs,ys,Q,p,r,ar,v,Kind,ps,pg,ob,P,A,F,out,want,cache,b,c,d⟩:=h;exact ⟨t,xs,ys,Q,p,r,ar,v,Kind,ps,pg,ob,P,A,F,out,want,cache,b.below a,c.keep (gd.below a _) lR,d⟩
def MS.mono (h:MS w0 w wb D L G nb T) (a:T<=T'):MS w0 w wb D L G nb T':=h.imp λ_ q=>q.mono a
def CY (w0:ZS) (wb sa D L G nb T:Nat) (e:ZP) (w':ZS):Prop:=(∃ b:Bool,e=Z3 (Z1 b))/\MT w0 w' wb sa D L G nb T
theorem MH (h:MB w0 w wb D L G nb t xs p r sa ar v Kind ps pg ob P A F out want cache) (hc:Dc w r Q ys out want) (hT:ys.length<=T) (xh:T<=900) (o:og) (dv:ZR) (l:Bs w0 dv o.d) (xd:o.d.length<=100000) (xg:D<=6) :
 ZQ ZM 16 #[Z6 (ZV ⟨wb,0,ZW⟩),.agg #[Z7 Z9 o.kind,Z7 Z9 o.a,ZZ o.s,dv]] w (CY w0 wb sa D L G nb (T+1)):=by
 obtain ⟨W,X,xe,_⟩:=id l;subst xe;have i:=l.lt;obtain ⟨m,g⟩:=nM (o.d.length);rw [g] at l xd ⊢;obtain ⟨w1,qk⟩:=nM (w.alloc (Z4 #[Z7 Z9 o.kind,Z7 Z9 o.a,ZZ o.s,.slice W m X] 33));have C:mx w1 w.heap.size o (.slice W m X):=by rw [<- qk];exact UG w _
 have qc:bW w w1:=by rw [<- qk];exact bA w _
 have x:=h.below qc;have hs:=hc.keep (gd.below qc _) lR;obtain ⟨M,kx⟩:=nM (w.heap.size);have K:M<w1.heap.size:=by rw [<- kx];exact ay.lt C
 have O:ar<M:=by rw [<- kx];exact h.live.R3.lt
 have z:∀ k,F.has p A.n k->k<M:=λk hk=>by rw [<- kx];exact h.live.vol.arr.RQ hk
 have R:v<M:=by rw [<- kx];exact h.live.vol.vol.lt
 rw [kx] at C;have x3:=C.cells.2.2.2;have qi:=Gj _ o.d w1 (l.mono x.base) eb;rw [g] at qi;have H1:=hide10 C x hs l i g K O z R;clear C x hs l i g K O z R h hc qc;go_enter func16,ntmps16;go_wp2_with fail;clear kx;refine qi.mono ?_;rintro e w2 ⟨rb,rfl,U,Z,ka⟩;clear qi qk x3;obtain ⟨C,x,hs,l,i,g,K,O,z,R⟩:=H1.out;have ko:mx w2 M o (.slice W m X):=ay.keep C (ka.block _ K);have h2:=x.below ka;have y2:=ko.cells.2.2.1;have s2:=h2.Sa.cells.2.2.2.2.1;have ks:bW w2 w2.drew:=(TX _ w2).drew;have qb:=h2.below ks;have ki:=aaX qb.box qb.live o.s rb 0 (m+2) o.d (λw' hO=>by
  rw [g];have x8:aM w' rb (o.d++[71,72]):=Vo Z (hO.block rb Z.lt (λe=>eT (z _ e)));exact x8.bs g eb i) eb
 rw [g] at ki;have H2:=a8 ko h2 ka Z U ks;clear C x hs l i g K O z R ko h2 ka Z U ks qb;go_upto_region 2 with fail;go_cut [6] from 12 to 82 (λv6 wx=>eC w2.drew ar v p ps D L G A F (Z3 v6) wx)
 case first=>
  go_region_with (go_at_call 34;refine ki.mono ?_;rintro e w3 qg;obtain ⟨rr,_,_,_,_,_,_,rfl,_⟩:=id qg;have H3:=al qg;clear qg);all_goals (go_wp2_with fail;go_meet;case rel=>exact H3.out)
 case rest=>
  obtain ⟨rr,t',xj,xi,P',xk,B,he,qs,qx,kh,q3,qn,_⟩:=hcut;cases he;obtain ⟨n,hN⟩:=Ap qs;clear qs;obtain ⟨C,x,hs,l,i,g,K,O,z,R⟩:=H1.out;obtain ⟨ko,h2,ka,Z,U,ks⟩:=H2.out;have kk:=ka.size;have hp:aa (λj=>j=ar\/F.has p A.n j) w2 wc:=(aa.RO ks _).trans qn;obtain ⟨h3,qv⟩:=h2.call hp qx q3.1;have kp:mx wc M o (.slice W m X):=ay.keep ko (hp.block _ eb (λe=>by
   rcases e with e|e
   . omega
   . have:=z _ e;omega))
  have ky:aM wc rb (o.d++[71,72]):=Vo Z (hp.block rb Z.lt (λe=>by
   rcases e with e|e
   . omega
   . have:=z _ e;omega))
  have x2:=pG hN h3.gl;have x5:=hp.size;have hy:gd w1.heap.size w1 wc:=(gd.below ka _).trans (qv.mono kk);have H3:=a8 kp h3 ky hy (TU kk x5) kh;clear hN C x hs l i g K O z R ko h2 ka Z U ks kk hp h3 qv kp ky x5 hy qx kh q3 qn ki y2 s2;go_wp2_with fail;refine x2.mono ?_;rintro e w4 ⟨rfl,kr⟩;clear x2;obtain ⟨C,x,hs,l,i,g,K,O,z,R⟩:=H1.out;obtain ⟨kp,h3,ky,hy,q6,kh⟩:=H3.out;have U:=H2.out.2.2.2.2.1;have c:=h3.below kr;have ke:mx w4 M o (.slice W m X):=ay.keep kp (kr.block _ (ay.lt kp));have kc:aM w4 rb (o.d++[71,72]):=ky.below kr;have qj:=Gk rb _ o.d w4 kc (l.mono c.base) eb;rw [g] at qj;have x4:=ke.cells.2.2.2;have H4:=a7 ke c kc (hy.trans (gd.below kr _)) (TU q6 kr.size);clear C x hs l i g K O z R kp h3 ky hy q6 kh U ke kc c kr;go_wp2_with fail;refine qj.mono ?_;rintro e V ⟨rfl,kv,_⟩;clear qj x4;obtain ⟨C,x,hs,l,i,g,K,O,z,R⟩:=H1.out;obtain ⟨ke,c,kc,q1,qm⟩:=H4.out;obtain ⟨_,_,_,_,_,kh⟩:=H3.out;have U:=H2.out.2.2.2.2.1;have h9:∀ j,j≠rb->j<w4.heap.size->V.heap[j]?=w4.heap[j]?:=λj hj hl=>kv.block j hl (λe=>hj Zq);have km:=kv.size;have qf:=c.live.aside (w':=V) (b:=rb) (B:=w1.heap.size) (I4 kc) (by obtain ⟨cs,xc,_⟩:=kc;exact b8 c.live.kit xc pC) km h9 U (λk hk=>by rw [kh] at hk;have:=z k hk;omega) eb eb (by have:=x.live.vol.room;exact this);have q2:gd w1.heap.size w4 V:=λT _ j cs hj hq=>h9 j eb eb;have kz:bW w0 V:=c.base.trans ⟨kv.os,kv.tape,kv.output,km,λj hj=>h9 j (eT x.base.size) (TY hj c.base.size)⟩;have q4:V.heap[wb]?=w4.heap[wb]?:=h9 wb (eT x.lt) (ay.lt c.Sa);have I:MB w0 V wb D L G nb t' xk p r sa ar v Kind ps xj xi P' B F out want cache:=⟨⟨ay.keep c.Sa q4,c.ab.sp,qf.vol.arr,c.ab.fit,c.ab.par,c.ab.n,c.ab.nb,c.ab.wait,c.ab.here,kz,c.ab.TP,c.ab.hv,c.ab.ht,c.ab.hK,c.ab.wbB,c.ab.fB,c.ab.nb8⟩,(h9 sa (eT x.box.lt) c.box.lt).trans c.box,qf,c.lt,c.vB,c.kB,c.shv,c.pk,c.wbK⟩;have H:mx V M o (.slice W m X):=ay.keep ke (h9 M eb (ay.lt ke));have E:=hs.keep (q1.trans q2) lR;obtain ⟨xm,xo,x1⟩:=E.ref;have N:Q.length<=1000:=by rw [E.rel.len];omega
  have qq:=yD x1 eb E.rel.sl;have r5:=I.Sa.cells.2.2.2.2.2.1;have H5:=a5 H I E N;clear C x hs l i g K O z R ke c kc q1 qm kh U h9 km qf q2 kz q4 I H E x1 N kv;go_wp2_with fail;refine qq.mono ?_;rintro e w6 ⟨rfl,⟨u6,kb⟩,J⟩;clear qq r5;obtain ⟨H,I,E,N⟩:=H5.out;obtain ⟨_,_,_,l,i,g,_,_,_,_⟩:=H1.out;have h6:=I.below J;have kf:mx w6 M o (.slice W m X):=ay.keep H (J.block _ (ay.lt H));have qh:=MG kb N E.rel.sl o.s g (l.mono h6.base);obtain ⟨_,_,y6,x6⟩:=kf.cells;obtain ⟨q5,kj⟩:=nM (V.heap.size);rw [kj] at qh kb ⊢;have H6:=a7 kf h6 kb J kj;clear H I E N l i g h6 kf kb J kj;go_wp2_with fail;refine qh.mono ?_;intro e y x0;clear qh y6 x6;obtain ⟨kf,h6,kb,J,kj⟩:=H6.out;obtain ⟨H,I,E,N⟩:=H5.out;have i:=H1.out.2.2.2.2.1;obtain ⟨f,he,hh,qz⟩:∃ f:Int,e=Z3 (Z7 Z9 f)/\bW V y/\(¬ f=0\/f=0/\o.d.length<=1500/\∃ u vb,ru y q5 w6.heap.size u (Q.take (aI (ef Q) o.s)++(o.s,vb)::Q.drop (aI (ef Q) o.s))/\y.ownsRow w6.heap.size 5 1 vb o.d.length (aJ o.d)):=by
   rcases x0 with ⟨f,hf,rfl,rfl⟩|⟨kg,rfl,u7,hb,q9,q8,x9⟩
   . exact ⟨f,rfl,J,.inl hf⟩
   . exact ⟨0,rfl,J.trans (x9.below λk hk=>⟨TY hk J.size,eb⟩),.inr ⟨rfl,kg,u7,hb,q9,q8⟩⟩
  subst he;have Y:=I.below hh;have S:=E.keep (gd.below hh _) lR;have hx:MT w0 y wb sa D L G nb (T+1):=⟨_,_,_,_,_,_,_,_,_,_,_,_,_,_,_,_,_,_,Y,S,eb⟩;clear x0;by_cases qr:n=10
  . subst qr;obtain ⟨c0,_,_,_,_,c5,c6,_⟩:=Y.Sa.cells;have qo:mx y M o (.slice W m X):=ay.keep H (hh.block _ (ay.lt H));have x7:=qo.cells.2.2.2;obtain ⟨xn,xp,qa⟩:=S.ref;have qy:∀ k,ZQ ZM 24 #[Z6 (ZV ⟨r,0,ZW⟩),Z7 Z9 D,Z7 Z9 m] (y.drewN k) λe w'=>e=Z3 (Z7 Z9 (kF Q D (m:Int):Nat))/\w'=y.drewN k:=λk=>by
     have qp:bW y (y.drewN k):=⟨rfl,rfl,rfl,TV _,λ_ _=>rfl⟩;exact (tK ⟨(qp.block _ (TW.1 qa.top).1).trans qa.top,aB qa.own qp⟩ N S.rel.sl D Y.live.par.d1 eb (m:Int) eb eb).mono λe w' q=>⟨q.2,q.1⟩
    generalize kF Q D (m:Int)=nn at *;have HF:=au hx qy;have qe:f=0\/¬ f=0:=eb;clear hx qy kf h6 kb J kj H I E N hh Y S qo qa qz i;go_upto_region 8 with fail;go_quiet ((go_at_call 24;refine WX (HF.out.2 _)));rcases qe with rfl|qe
    . go_wp2;go_ret;exact ⟨⟨_,rfl⟩,HF.out.1.below ⟨rfl,rfl,rfl,TV _,λ_ _=>rfl⟩⟩
    . go_wp2;go_ret;exact ⟨⟨_,rfl⟩,HF.out.1.below ⟨rfl,rfl,rfl,TV _,λ_ _=>rfl⟩⟩
  . rcases qz with qe|⟨rfl,kg,u7,hb,q9,q8⟩
    . have HF:=al hx;clear hx kf h6 kb J kj H I E N hh Y S i;go_wp2_with fail;refine (se n y).mono ?_;rintro e w8 ⟨rfl,rfl⟩;go_wp2;go_ret;exact ⟨⟨_,rfl⟩,HF.out⟩
    . have q7:=Y.Sa;have r7:=q7.cells.2.2.2.2.2.1;have f7:=ay.R8 q7 5;have hN:MT w0 (y.setCell ⟨wb,5,ZW⟩ (Z6 (ZV ⟨q5,0,ZW⟩))) wb sa D L G nb (T+1):=by
       have xa:aa (λj=>j=wb) y (y.setCell ⟨wb,5,ZW⟩ (Z6 (ZV ⟨q5,0,ZW⟩))):=aa.setCell _ _ _ rfl;have xb:gL (y.setCell ⟨wb,5,ZW⟩ (Z6 (ZV ⟨q5,0,ZW⟩))) wb D L G (Z6 (ZV ⟨p,0,ZW⟩)) (Z6 (ZV ⟨sa,0,ZW⟩)) (Z6 (ZV ⟨q5,0,ZW⟩)) nb out want cache:=ay.set q7 5 [Z6 (ZV ⟨q5,0,ZW⟩)] Zt;obtain ⟨h8,xf⟩:=Y.write xa xb;have hrel:nz y (Q.take (aI (ef Q) o.s)++(o.s,hb)::Q.drop (aI (ef Q) o.s)) (ys.take (aI (ef Q) o.s)++(⟨o.s,0,[]⟩,o.d)::ys.drop (aI (ef Q) o.s)):=(S.rel.take _).app ⟨⟨rfl,⟨_,q8⟩,i,kg⟩,S.rel.drop _⟩;have qd:Dc y q5 _ _ out want:=⟨⟨_,u7,q9⟩,hrel,S.ow⟩;exact ⟨_,_,_,_,_,_,_,_,_,_,_,_,_,_,_,_,_,_,h8,qd.keep xf lR,by simp only [T5,Ud,Um,Ue];omega⟩
      have HN:=al hN;clear hN hx kf h6 kb J kj H I E N q9 q8 hh Y S q7 i;go_wp2_with fail;refine (se n _).mono ?_;rintro e w8 ⟨rfl,rfl⟩;go_wp2;go_ret;exact ⟨⟨_,rfl⟩,HN.out⟩
structure St0 (w0 w w1:ZS) (wb D L G nb t:Nat) (xs ys:bP) (Q:List (ByteArray×ZR)) (p r sa ar v:Nat) (Kind:aN->Prop) (ps:aN) (pg ob:ZR) (P:a9) (A:aA) (F:aR) (out want:ZR) (cache:Int) (o:og) (dv:ZR):Prop where
 op:mx w1 w.heap.size o dv
 b:MB w0 w1 wb D L G nb t xs p r sa ar v Kind ps pg ob P A F out want cache
 c:Dc w1 r Q ys out want
 ar:ar<w.heap.size
 f:∀ k,F.has p A.n k->k<w.heap.size
 lt:w.heap.size<w1.heap.size
def QR (h:MB w0 w wb D L G nb t xs p r sa ar v Kind ps pg ob P A F out want cache) (f:Dc w r Q ys out want) (o:og) (b:ZR) {w1:ZS} (e:w.alloc (Z4 #[Z7 Z9 o.kind,Z7 Z9 o.a,ZZ o.s,b] 33)=w1):St0 w0 w w1 wb D L G nb t xs ys Q p r sa ar v Kind ps pg ob P A F out want cache o b:=by
 have d:bW w w1:=by rw [<- e];exact bA w _
 have c:mx w1 w.heap.size o b:=by rw [<- e];exact UG w _
 exact ⟨c,h.below d,f.keep (gd.below d _) lR,h.live.R3.lt,λk g=>h.live.vol.arr.RQ g,ay.lt c⟩
def jj (w:ZS) (m:Nat):bW w (w.drewN m):=⟨rfl,rfl,rfl,TV _,λ_ _=>rfl⟩
theorem I5 (n vb:ZR) (a lb:a9) (w:ZS) (q:Bs w n a) (r:Bs w vb lb) :
 ZQ ZM 19 #[n,vb] w λe w'=>(∃ b:Bool,e=Z3 (Z1 b)/\(a=lb->b=ZU))/\bW w w':=by
 by_cases d:a=lb
 . subst d;refine (Fa n vb a w q r).mono ?_;rintro e w' ⟨rfl,m,rfl⟩;exact ⟨⟨ZU,rfl,λ_=>rfl⟩,jj w m⟩
 . obtain ⟨ao,C,rfl,_,F,H,j⟩:=q;obtain ⟨B,D,rfl,_,u,_,l⟩:=r;by_cases c:a.length=lb.length
   . have h:a≠[]:=λe=>by
      rw [e] at c;exact d (e.trans (UK c.symm).symm)
     obtain ⟨b,off,rfl,o⟩:=j h;obtain ⟨A,s,rfl,g⟩:=l (λe=>by rw [e] at c;exact h (UK c));rw [<- c] at g ⊢;have f:=al d;clear j l c h d u;go_enter func19,ntmps19;go_wp2;go_loopw [5] (λi wr=>OE w a.length i wr) (λi _=>a.length-(intOf i).toNat)
     case atStart=>exact ⟨0,0,T3 _,rfl,rfl⟩
     case round=>
      obtain ⟨k,m,G,rfl,rfl⟩:=hrel;by_cases p:k<a.length
      . have c1:=o k p;have t:=g k p;generalize a.getD k 0=x at c1;generalize lb.getD k 0=y at t;clear o g;by_cases z:x=y
        . subst z;have v:(((x:Nat):Int) != ((x:Nat):Int))=ZT:=ek;go_wp2;go_quiet (fail);go_wp2;go_roundw
          case rel=>exact ⟨k+1,_,eb,e8,rfl⟩
          case measure=>simp [intOf];omega
        . have v:(((x:Nat):Int) != ((y:Nat):Int))=ZU:=en;go_wp2;go_quiet (fail);go_wp2;go_ret;exact ⟨⟨ZT,rfl,λe=>absurd e f.out⟩,(jj w _).trans ((jj _ _).mono lR)⟩
      . go_wp2;go_ret;exact ⟨⟨ZU,rfl,λ_=>rfl⟩,jj w _⟩
   . have E:((a.length:Nat):Int)≠((lb.length:Nat):Int):=eb;have f:=al d;clear j l d;go_enter func19,ntmps19;go_wp2;go_ret;exact ⟨⟨ZT,rfl,λe=>absurd e f.out⟩,TX _ _⟩
section
def aau:¬ jP 33:=vf
def nz.all:∀ {Q:List (ByteArray×ZR)} {xs:bP},nz w Q xs->∀ o∈Q,∃ l,Ow w o.2 l
 | [],_,_,_,h=>Bf
 | _::_,[],h,_,_=>h.elim
 | q::Q,x::xs,h,o,ho=>by
  rcases Un.1 ho with rfl|ho
  . exact ⟨_,h.1.2⟩
  . exact nz.all h.2 o ho
def I6 {x:ByteArray} (t:nz w Q ys):∃ c f l,(∀ e,Ry Q x e->e=Z3 (ZY #[c,Z7 Z9 f]))/\Ow w c l:=by
 by_cases g:eA x
 . by_cases j:∃ k,Nr Q x k
   . obtain ⟨k,d⟩:=j;have h:=d.1;obtain ⟨l,s⟩:=t.all Q[k] (T4 h);refine ⟨Q[k].2,0,l,λe b=>?_,s⟩;rcases b with ⟨q,_⟩|⟨_,q,_⟩|⟨_,i,r,a⟩
     . exact absurd g q
     . exact absurd d.2.1 (q k h)
     . have p:i=k:=by
        obtain ⟨m,n,o⟩:=d;obtain ⟨b1,b2,b3⟩:=r;rcases Nat.lt_trichotomy k i with q|q|q
        . exact absurd n (b3 k m q)
        . exact q.symm
        . exact absurd b2 (o i b1 q)
       subst p;rw [a,T6,T2 h];rfl
   . refine ⟨Z5 ZW 0 0,9,[],λe b=>?_,Ow.nil _⟩;rcases b with ⟨q,_⟩|⟨_,_,a⟩|⟨_,k,d,_⟩
     . exact absurd g q
     . exact a
     . exact absurd ⟨k,d⟩ j
 . refine ⟨Z5 ZW 0 0,6,[],λe b=>?_,Ow.nil _⟩;rcases b with ⟨_,a⟩|⟨q,_⟩|⟨q,_⟩
   . exact a
   . exact absurd q g
   . exact absurd q g
section
variable {w0 w:ZS} {wb D L G nb t T:Nat} {xs ys:bP} {Q:List (ByteArray×ZR)} {p r sa ar v:Nat} {Kind:aN->Prop} {ps:aN} {pg ob:ZR} {P:a9} {A:aA} {F:aR} {out want:ZR} {cache:Int}
theorem MI (h:MB w0 w wb D L G nb t xs p r sa ar v Kind ps pg ob P A F out want cache) (hc:Dc w r Q ys out want) (hT:ys.length<=T) (q4:T<=900) (o:og) (dv:ZR) (kx:∃ V m W,dv=.slice V m W) (hk:o.kind=2) :
 ZQ ZM 7 #[Z6 (ZV ⟨wb,0,ZW⟩),.agg #[Z7 Z9 o.kind,Z7 Z9 o.a,ZZ o.s,dv]] w (CY w0 wb sa D L G nb (T+1)):=by
 obtain ⟨V,m,W,rfl⟩:=kx;obtain ⟨w1,ka⟩:=nM (w.alloc (Z4 #[Z7 Z9 o.kind,Z7 Z9 o.a,ZZ o.s,.slice V m W] 33));have d:=QR h hc o _ ka;have hn:bW w1 w1.drew:=(TX _ w1).drew;have X:=d.b.below hn;have hs:=aaZ X.box X.live o.s λwx kr=>Oh (X.live.below kr) X.shv o.s;obtain ⟨x0,x1,x2,x3⟩:=d.op.cells;have s1:=d.b.Sa.cells.2.2.2.2.1;obtain ⟨q0,R⟩:=nM (w.heap.size);have HS:=au d R;clear d h hc hn X;rw [hk] at x0 ka ⊢;rw [R] at x0 x1 x2 x3;clear hk;go_enter func7,ntmps7;go_upto_region 5 with fail;clear R ka x0 x1 x3;go_cut [5,6] from 21 to 233 (λv5 v6 wx=>E1 w1.drew ar v p Kind ps D L G t xs A F (Z3 (ZY #[v5,v6])) wx)
 case first=>
  go_region_with (go_at_call 17;refine hs.mono ?_;rintro e w2 k9;obtain ⟨uu,rr,_,_,_,_,_,rfl,_⟩:=id k9;have U:=al k9;clear k9);all_goals (go_wp2_with fail;go_meet;case rel=>exact U.out)
 case rest=>
  obtain ⟨u,rr,rs,ps',hd,hb,P',he,⟨kh,hy,hx,_,hp⟩,kb,⟨kf,l,hz,ki,B⟩⟩:=hcut;cases he;obtain ⟨d,R⟩:=HS.out;have hn:bW w1 w1.drew:=(TX _ w1).drew;have h9:aa (λj=>j=ar\/F.has p A.n j\/j=v\/ps.bl j) w1 wc:=(aa.RO hn _).trans kb;obtain ⟨y,kg⟩:=d.b.TK h9 kh rfl hy hx hp;have g:=d.c.keep kg lR;have z:mx wc q0 o (.slice V m W):=by
   rw [<- R];exact ay.keep d.op (h9.block _ d.lt (λe=>by
    rcases e with e|e|e|e
    . have:=d.ar;omega
    . have:=d.f _ e;omega
    . have:=d.ar;have:=d.b.live.Sf;omega
    . exact b8 d.b.live.kit d.op aau e))
  obtain ⟨n,hN⟩:=Ap kf;have km:=pG hN y.gl;obtain ⟨cv,f,l',C,i⟩:=I6 (x:=o.s) g.rel;have ha:Ow wc _ l:=⟨⟨_,B⟩,ki,hz⟩;obtain ⟨⟨J,M,K,hu,_⟩,_⟩:=ha.sl;obtain ⟨⟨E,I,H,kv,_⟩,_⟩:=i.sl;subst hu kv;have U:=a8 y g z C ha i;clear hy hx hp d R hn h9 y kg g z hN C B ha i kh kb hs x2 s1 kf hz ki;go_wp2_with fail;refine km.mono ?_;rintro e N ⟨rfl,Z⟩;clear km;obtain ⟨y,g,z,C,B,i⟩:=U.out;have h3:=y.below Z;have k6:=g.keep (gd.below Z _) lR;have kc:mx N q0 o (.slice V m W):=ay.keep z (Z.block _ (ay.lt z));have y3:=kc.cells.2.2.1;have r3:=h3.Sa.cells.2.2.2.2.2.1;have ke:Q.length<=1000000:=by rw [k6.rel.len];omega
  have kj:∀ k,ZQ ZM 18 #[Z6 (ZV ⟨r,0,ZW⟩),ZZ o.s] (N.drewN k) λe w'=>e=Z3 (ZY #[.slice E I H,Z7 Z9 f])/\w'=N.drewN k:=λk=>by
   have kp:bW N (N.drewN k):=⟨rfl,rfl,rfl,TV _,λ_ _=>rfl⟩;obtain ⟨rb,rv,hr⟩:=(k6.keep (gd.below kp _) lR).ref;exact (Bn hr ke o.s).mono λe w' q=>⟨C e q.2,q.1⟩
  have H3:=a5 h3 k6 kj Z;clear y g z C B i h3 k6 kc ke kj Z;go_upto_region 7 with fail;go_quiet ((go_at_call 18;refine WX (H3.out.2.2.1 _)));clear y3 r3;have hj:bW wc (N.drewN nq):=H3.out.2.2.2.trans ⟨rfl,rfl,rfl,TV _,λ_ _=>rfl⟩;obtain ⟨w4,ko⟩:=nM (N.drewN nq);rw [ko] at hj ⊢;clear ko;obtain ⟨y,g,z,C,B,i⟩:=U.out;have k5:=B.keep (Kd.below hj _ _);have k0:=i.keep (Kd.below hj _ _);have kk:=I5 _ _ l l' w4 k5.bs k0.bs;have H4:=al hj;clear hj y g z C B i k5 k0;go_wp2_with fail;refine kk.mono ?_;rintro e O ⟨⟨bb,rfl,_⟩,hm⟩;have k8:bW wc O:=H4.out.trans (hm.mono H4.out.size);clear hm kk;obtain ⟨y,g,z,C,B,i⟩:=U.out;have h5:=y.below k8;have k7:=g.keep (gd.below k8 _) lR;have Y:=h5.Sa;obtain ⟨_,_,_,_,_,_,_,c7,c8,_⟩:=Y.cells;have f7:=ay.R8 Y 7;have f8:=ay.R8 Y 8;obtain ⟨⟨oa,om,oc,q2,_⟩,⟨wa,wm,wd,q3,_⟩⟩:=id k7.ow;subst q2 q3;have hq:MT w0 ((O.setCell ⟨wb,7,ZW⟩ (.slice J M K)).setCell ⟨wb,8,ZW⟩ (.slice E I H)) wb sa D L G nb (T+1):=by
   have hO:aa (λj=>j=wb) O ((O.setCell ⟨wb,7,ZW⟩ (.slice J M K)).setCell ⟨wb,8,ZW⟩ (.slice E I H)):=(aa.setCell (S:=λj=>j=wb) O ⟨wb,7,ZW⟩ _ rfl).trans (aa.setCell (S:=λj=>j=wb) _ ⟨wb,8,ZW⟩ _ rfl);have hW:gL ((O.setCell ⟨wb,7,ZW⟩ (.slice J M K)).setCell ⟨wb,8,ZW⟩ (.slice E I H)) wb D L G (Z6 (ZV ⟨p,0,ZW⟩)) (Z6 (ZV ⟨sa,0,ZW⟩)) (Z6 (ZV ⟨r,0,ZW⟩)) nb (.slice J M K) (.slice E I H) cache:=ay.set Y 7 [.slice J M K,.slice E I H] Zt;obtain ⟨h6,ky⟩:=h5.write hO hW;have ks:Dc O r Q ys (.slice J M K) (.slice E I H):=⟨k7.ref,k7.rel,B.sl.1,i.sl.1⟩;exact ⟨_,_,_,_,_,_,_,_,_,_,_,_,_,_,_,_,_,_,h6,ks.keep ky lR,eb⟩
  have HF:=al hq;have q5:=λwx=>Xf (P:=ZM) wx 31 5 J M K 0 0 Ui;clear hq y g z C B i h5 k7 Y k8;cases bb
  . go_wp2;go_ret;exact ⟨⟨_,rfl⟩,HF.out⟩
  . go_wp2_with fail;refine (se n _).mono ?_;rintro e w8 ⟨rfl,rfl⟩;by_cases q1:n=f
    . subst q1;by_cases kz:n=0
      . subst kz;go_wp2;go_ret;exact ⟨⟨_,rfl⟩,HF.out⟩
      . go_wp2;go_ret;exact ⟨⟨_,rfl⟩,HF.out⟩
    . go_wp2;go_ret;exact ⟨⟨_,rfl⟩,HF.out⟩
end
end
section
def QS {n0:Nat} {x:ByteArray} (g:ru w q rb rv Q) (h:aaj w q Q x e w') (m:n0<=q) (o:n0<=w.heap.size) :
 (∃ f:Int,e=Z3 (Z7 Z9 f))/\Below n0 w w'/\∃ d,(∃ rb rv,ru w' q rb rv d)/\∀ c ys,nz c Q ys->∃ b,b.length<=ys.length/\nz c d b:=by
 rcases h with ⟨_,a,rfl⟩|⟨_,_,a,rfl⟩|⟨_,k,_,a,⟨u,l⟩,i⟩
 . exact ⟨⟨_,a⟩,TX _ _,Q,⟨_,_,g⟩,λ_ ys z=>⟨ys,TV _,z⟩⟩
 . exact ⟨⟨_,a⟩,TX _ _,Q,⟨_,_,g⟩,λ_ ys z=>⟨ys,TV _,z⟩⟩
 . exact ⟨⟨_,a⟩,i.below λj n=>⟨eb,eb⟩,_,⟨_,u,l⟩,λc ys z=>⟨ys.take k++ys.drop (k+1),by simp only [T5,Ud,Ue];omega,(z.take k).app (z.drop (k+1))⟩⟩
section
variable {w0 w:ZS} {wb D L G nb t T:Nat} {xs ys:bP} {Q:List (ByteArray×ZR)} {p r sa ar v:Nat} {Kind:aN->Prop} {ps:aN} {pg ob:ZR} {P:a9} {A:aA} {F:aR} {out want:ZR} {cache:Int}
theorem MK (h:MB w0 w wb D L G nb t xs p r sa ar v Kind ps pg ob P A F out want cache) (hc:Dc w r Q ys out want) (hT:ys.length<=T) (kz:T<=900) (o:og) (dv:ZR) (kp:∃ I m J,dv=.slice I m J) (ky:D<=6) (hk:o.kind=3) :
 ZQ ZM 7 #[Z6 (ZV ⟨wb,0,ZW⟩),.agg #[Z7 Z9 o.kind,Z7 Z9 o.a,ZZ o.s,dv]] w (CY w0 wb sa D L G nb (T+1)):=by
 obtain ⟨I,m,J,rfl⟩:=kp;obtain ⟨w1,k9⟩:=nM (w.alloc (Z4 #[Z7 Z9 o.kind,Z7 Z9 o.a,ZZ o.s,.slice I m J] 33));have d:=QR h hc o _ k9;have W:bW w1 w1.drew:=(TX _ w1).drew;have hz:=d.b.below W;have hq:=Oz hz.box hz.live o.s;obtain ⟨x0,x1,x2,x3⟩:=d.op.cells;have s1:=d.b.Sa.cells.2.2.2.2.1;obtain ⟨q0,O⟩:=nM (w.heap.size);have HS:=au d O;clear d h hc W hz;rw [hk] at x0 k9 ⊢;rw [O] at x0 x1 x2 x3;clear hk;go_enter func7,ntmps7;go_upto_region 13 with fail;clear O k9 x0 x1 x3;go_cut [11] from 21 to 233 (λv11 wx=>eC w1.drew ar v p ps D L G A F (Z3 v11) wx)
 case first=>
  go_region_with (go_at_call 21;refine hq.mono ?_;rintro e w2 k7;obtain ⟨rr,_,_,_,_,_,_,rfl,_⟩:=id k7;have R:=al k7;clear k7);all_goals (go_wp2_with fail;go_meet;case rel=>exact R.out)
 case rest=>
  obtain ⟨rr,t',q4,q2,P',q9,B,he,kf,ki,kv,hr,ka,_⟩:=hcut;cases he;obtain ⟨n,hN⟩:=Ap kf;clear kf;obtain ⟨d,O⟩:=HS.out;have W:bW w1 w1.drew:=(TX _ w1).drew;have hf:aa (λj=>j=ar\/F.has p A.n j) w1 wc:=(aa.RO W _).trans ka;obtain ⟨K,kh⟩:=d.b.call hf ki hr.1;have N:=d.c.keep kh lR;have C:Q.length<=1000:=by rw [N.rel.len];omega
  have M:mx wc q0 o (.slice I m J):=by
   rw [<- O];exact ay.keep d.op (hf.block _ d.lt (λe=>by
    rcases e with e|e
    . have:=d.ar;omega
    . have:=d.f _ e;omega))
  have km:=pG hN K.gl;have R:=a5 K N M C;clear d O W hf K kh N M hN C ki kv hr ka hq x2 s1;go_wp2_with fail;refine km.mono ?_;rintro e w3 ⟨rfl,Z⟩;clear km;obtain ⟨K,N,M,C⟩:=R.out;have i:=K.below Z;have g:=N.keep (gd.below Z _) lR;have l:mx w3 q0 o (.slice I m J):=ay.keep M (Z.block _ (ay.lt M));obtain ⟨q5,q7,kk⟩:=g.ref;have ke:=yD kk eb g.rel.sl;have r3:=i.Sa.cells.2.2.2.2.2.1;have H3:=aE i g l;clear K N M C i g l kk Z;go_wp2_with fail;refine ke.mono ?_;rintro e w4 ⟨rfl,⟨u4,y⟩,x⟩;clear ke r3;obtain ⟨i,g,l⟩:=H3.out;have k8:=CB y (eT R.out.2.2.2) g.rel.sl o.s;have kb:mx w4 q0 o (.slice I m J):=ay.keep l (x.block _ (ay.lt l));have y4:=kb.cells.2.2.1;obtain ⟨X,H⟩:=nM (w3.heap.size);rw [H] at k8 y ⊢;have H4:=aE y x H;clear i g l kb y x H;go_wp2_with fail;refine k8.mono ?_;rintro e u k6;clear k8 y4;obtain ⟨y,x,H⟩:=H4.out;obtain ⟨i,g,l⟩:=H3.out;obtain ⟨⟨f,kr⟩,k5,Q',k0,h4⟩:=QS y k6 (Nat.le_of_eq H) x.size;subst kr;have Y:bW w3 u:=x.trans k5;have z:=i.below Y;have E:=g.keep (gd.below Y _) lR;have V:MT w0 u wb sa D L G nb (T+1):=⟨_,_,_,_,_,_,_,_,_,_,_,_,_,_,_,_,_,_,z,E,eb⟩;by_cases hb:n=10
  . subst hb;obtain ⟨c0,_,_,_,_,c5,c6,_⟩:=z.Sa.cells;obtain ⟨q6,q8,hy⟩:=E.ref;have C:=R.out.2.2.2;have kj:∀ k,ZQ ZM 24 #[Z6 (ZV ⟨r,0,ZW⟩),Z7 Z9 D,Z7 Z9 (-1)] (u.drewN k) λe w'=>e=Z3 (Z7 Z9 (kF Q D (-1):Nat))/\w'=u.drewN k:=λk=>by
     have kc:bW u (u.drewN k):=⟨rfl,rfl,rfl,TV _,λ_ _=>rfl⟩;exact (tK ⟨(kc.block _ (TW.1 hy.top).1).trans hy.top,aB hy.own kc⟩ C E.rel.sl D z.live.par.d1 eb (-1) eb eb).mono λe w' q=>⟨q.2,q.1⟩
    generalize kF Q D (-1)=nn at *;have U:=au V kj;have kg:f=0\/¬ f=0:=eb;clear V kj y x H i g l k5 k0 h4 Y z E hy k6 C;go_upto_region 18 with fail;go_quiet ((go_at_call 24;refine WX (U.out.2 _)));rcases kg with rfl|kg
    . go_wp2;go_ret;exact ⟨⟨_,rfl⟩,U.out.1.below ⟨rfl,rfl,rfl,TV _,λ_ _=>rfl⟩⟩
    . go_wp2;go_ret;exact ⟨⟨_,rfl⟩,U.out.1.below ⟨rfl,rfl,rfl,TV _,λ_ _=>rfl⟩⟩
  . have hs:=z.Sa;have r5:=hs.cells.2.2.2.2.2.1;have f5:=ay.R8 hs 5;have V:MT w0 (u.setCell ⟨wb,5,ZW⟩ (Z6 (ZV ⟨X,0,ZW⟩))) wb sa D L G nb (T+1):=by
     have hW:gL (u.setCell ⟨wb,5,ZW⟩ (Z6 (ZV ⟨X,0,ZW⟩))) wb D L G (Z6 (ZV ⟨p,0,ZW⟩)) (Z6 (ZV ⟨sa,0,ZW⟩)) (Z6 (ZV ⟨X,0,ZW⟩)) nb out want cache:=ay.set hs 5 [Z6 (ZV ⟨X,0,ZW⟩)] Zt;obtain ⟨h6,ks⟩:=z.write (aa.setCell (S:=λj=>j=wb) _ ⟨wb,5,ZW⟩ _ rfl) hW;obtain ⟨hd,q1,kx⟩:=h4 _ _ E.rel;have ko:Dc u X Q' hd out want:=⟨k0,kx,E.ow⟩;exact ⟨_,_,_,_,_,_,_,_,_,_,_,_,_,_,_,_,_,_,h6,ko.keep ks lR,eb⟩
    have U:=al V;clear V y x H i g l k5 k0 h4 Y z E hs k6;go_wp2_with fail;refine (se n _).mono ?_;rintro e w8 ⟨rfl,rfl⟩;go_wp2;go_ret;exact ⟨⟨_,rfl⟩,U.out⟩
end
end
section
def OZ (w:ZS) (g:Nat) (os:List Ob) (i:ZR) (wr:ZS):Prop:=
 ∃ k:Nat,k<=os.length/\i=Z7 Z9 (k:Nat)/\bW w wr/\∃ cur:List ZR,ay wr g 77 cur/\os.length*2<=cur.length/\∀ j (hj:j<os.length),k<=j->cur[j*2]?=ZV (ZZ os[j].name)/\cur[j*2+1]?=ZV (Z7 Z9 (os[j].size:Nat))
def CZ:∀ (os:List Ob) (j:Nat) (a:j<os.length),(mv os)[j*2]?=ZV (ZZ os[j].name)/\(mv os)[j*2+1]?=ZV (Z7 Z9 (os[j].size:Nat))
 | [],j,a=>absurd a ek
 | o::os,0,_=>⟨rfl,rfl⟩
 | o::os,j+1,a=>by
  have e:mv (o::os)=[ZZ o.name,Z7 Z9 (o.size:Nat)]++mv os:=by unfold mv;rw [VR];rfl
  obtain ⟨b,c⟩:=CZ os j (vE a);rw [e];refine ⟨?_,?_⟩
  . rw [Vp en,(en:(j+1)*2-[Value.string o.name,Z7 Z9 (o.size:Nat)].length=j*2)];exact b
  . rw [Vp en,(en:(j+1)*2+1-[Value.string o.name,Z7 Z9 (o.size:Nat)].length=j*2+1)];exact c
def OZ.start {base:Nat} (h:wr.ownsRow base 77 2 u n (mv os)) (p:os.length=n) (s:0<n) (m:bW w wr) (t:w.heap.size<=base):∃ g cap,u=Z5 (ZV ⟨g,0,ZW⟩) n cap/\w.heap.size<=g/\OZ w g os (Z7 Z9 0) wr:=by
 rcases h.2 with ⟨_,e⟩|⟨g,cap,cur,c,q,d,f,r,i,k⟩
 . omega
 . refine ⟨g,cap,c,eb,0,T3 _,rfl,m,cur.toList,?_,?_,λj o _=>?_⟩
   . unfold ay;rw [d,Array.toArray_toList]
   . have l:cur.toList.length=cap*2:=(by rw [Wm];exact i);rw [l,p];exact Xd 2 f
   . obtain ⟨a,b⟩:=CZ os j o;have:j*2+1<n*2:=eb;rw [<- k] at a b;rw [VP eb] at a b;exact ⟨a,b⟩
theorem OZ.next {k:Nat} {cur:List ZR} (x y:ZR) (s:k<os.length) (h:bW w wr) (a:w.heap.size<=g) (m:ay wr g 77 cur) (t:os.length*2<=cur.length) (l:∀ j (b:j<os.length),k<=j->cur[j*2]?=ZV (ZZ os[j].name)/\cur[j*2+1]?=ZV (Z7 Z9 (os[j].size:Nat))):OZ w g os (Z7 Z9 ((k:Int)+1)) ((wr.setCell ⟨g,k*2,ZW⟩ x).setCell ⟨g,k*2+1,ZW⟩ y):=by
 have d:=ay.set m (k*2) [x,y] en;have c:bW w ((wr.setCell ⟨g,k*2,ZW⟩ x).setCell ⟨g,k*2+1,ZW⟩ y):=(h.setCell (p:=⟨g,k*2,ZW⟩) a _).setCell (p:=⟨g,k*2+1,ZW⟩) a _;refine ⟨k+1,eb,rfl,c,_,d,?_,λj b q=>?_⟩
 . simp only [T5,Ud,Ue,Um,UQ];omega
 . obtain ⟨n,o⟩:=l j b eb;have e:∀ i,k*2+2<=i->(cur.take (k*2)++[x,y]++cur.drop (k*2+[x,y].length))[i]?=cur[i]?:=λi r=>by
    have f:(cur.take (k*2)++[x,y]).length=k*2+2:=(by rw [T5,Ud];simp;omega);rw [Vp eb,f,VM];congr 1;simp;omega
   exact ⟨(e _ eb).trans n,(e _ eb).trans o⟩
section
variable {w0 w:ZS} {wb D L G nb t T:Nat} {xs ys:bP} {Q:List (ByteArray×ZR)} {p r sa ar v:Nat} {Kind:aN->Prop} {ps:aN} {pg ob:ZR} {P:a9} {A:aA} {F:aR} {out want:ZR} {cache:Int}
theorem I7 (h:MB w0 w wb D L G nb t xs p r sa ar v Kind ps pg ob P A F out want cache) (hc:Dc w r Q ys out want) (hT:ys.length<=T) (o:og) (dv:ZR) (ke:∃ da m dc,dv=.slice da m dc) (R:o.kind=4) :
 ZQ ZM 7 #[Z6 (ZV ⟨wb,0,ZW⟩),.agg #[Z7 Z9 o.kind,Z7 Z9 o.a,ZZ o.s,dv]] w (CY w0 wb sa D L G nb (T+1)):=by
 obtain ⟨da,m,dc,rfl⟩:=ke;obtain ⟨w1,hy⟩:=nM (w.alloc (Z4 #[Z7 Z9 o.kind,Z7 Z9 o.a,ZZ o.s,.slice da m dc] 33));have d:=QR h hc o _ hy;have k9:=aao d.b.box d.b.live;obtain ⟨x0,x1,x2,x3⟩:=d.op.cells;have s1:=d.b.Sa.cells.2.2.2.2.1;have j:∀ w',bW w1 w'->MT w0 w' wb sa D L G nb (T+1):=λw' hb=>⟨_,_,_,_,_,_,_,_,_,_,_,_,_,_,_,_,_,_,d.b.below hb,d.c.keep (gd.below hb _) lR,eb⟩;obtain ⟨rb,rv,n⟩:=d.c.ref;obtain ⟨N,l⟩:=nM (xs.os.length);obtain ⟨M,f⟩:=nM (Q.length);have k5:N<=1000:=by rw [<- l];exact d.b.live.SA.1
 have HS:=a7 d j n l f;clear d h hc j n l f;rw [R] at x0 hy ⊢;clear R;go_enter func7,ntmps7;go_wp2_with fail;clear hy x0 x1 x2 x3;refine k9.mono ?_;rintro e w2 ⟨u,rfl,x,C⟩;clear k9 s1;have H2:=au x C;clear x C;go_wp2_with fail;refine (oK w2).mono ?_;rintro e w3 ⟨rfl,O⟩;obtain ⟨d,j,n,l,f⟩:=HS.out;obtain ⟨x,C⟩:=H2.out;have q:bW w1 w3:=x.trans (O.mono x.size);have E:=aB C O;rw [l] at E;have Z:gL w3 wb D L G (Z6 (ZV ⟨p,0,ZW⟩)) (Z6 (ZV ⟨sa,0,ZW⟩)) (Z6 (ZV ⟨r,0,ZW⟩)) nb out want cache:=ay.keep d.b.Sa (q.block _ (ay.lt d.b.Sa));have r3:=Z.cells.2.2.2.2.2.1;have H:ru w3 r rb rv Q:=gd.ref n (gd.below q _) lR;have t3:=H.cell.1;by_cases k6:N=M;rotate_left
 . obtain ⟨U,V,rfl⟩:=bM E;obtain ⟨y,I,S⟩:=bM H.own;rw [f] at S;subst S;have kb:¬ ((N:Nat):Int)=((M:Nat):Int):=eb;have J:=al (j _ q);clear d j n l f x C O q E Z H k5 k6;go_wp2;go_ret;exact ⟨⟨_,rfl⟩,J.out⟩
 subst k6;by_cases X:N=0
 . have hu:∃ U V,u=.slice U 0 V:=by
    obtain ⟨U,V,e⟩:=bM E;exact ⟨U,V,by rw [e,X]⟩
   have kj:∃ y I,rv=.slice y 0 I:=by
    obtain ⟨y,I,e⟩:=bM H.own;exact ⟨y,I,by rw [e,f,X]⟩
   obtain ⟨U,V,rfl⟩:=hu;obtain ⟨y,I,rfl⟩:=kj;have J:=al (j _ q);clear d j n l f x C O q E Z H X k5;go_wp2;refine VL 1 ?_;rw [Vw];go_wp2;go_ret;exact ⟨⟨_,rfl⟩,J.out⟩
 . obtain ⟨g,cap,rfl,hg,hz⟩:=OZ.start E l eb q lR;obtain ⟨y,I,S⟩:=bM H.own;rw [f] at S;subst S;have J:=au hz hg;clear hz hg d j n l f x C O q E Z H X;go_wp2_with fail;go_loopw [19] (λi wr=>OZ w1 g xs.os i wr) (λi _=>N-(intOf i).toNat)
   case atStart=>exact J.out.1
   case round=>
    clear r3 t3;obtain ⟨k,R,rfl,B,cur,z,h8,Y⟩:=hrel;obtain ⟨d,j,n,l,f⟩:=HS.out;rw [l] at R;by_cases ko:k<N
    . have km:(k:Int)<(N:Int):=eb;have hq:k<xs.os.length:=eb;have hs:k<xs.length:=by
       have e:xs.os.length=xs.length:=YZ;omega
      obtain ⟨q1,q2⟩:=Y k hq lR;have e1:=ay.cell z q1;have e2:=ay.cell z q2;have g1:=ay.R8 z (k*2);have g2:=ay.R8 z (k*2+1);have k7:gL wr wb D L G (Z6 (ZV ⟨p,0,ZW⟩)) (Z6 (ZV ⟨sa,0,ZW⟩)) (Z6 (ZV ⟨r,0,ZW⟩)) nb out want cache:=ay.keep d.b.Sa (B.block _ (ay.lt d.b.Sa));have rr:=k7.cells.2.2.2.2.2.1;have hx:ru wr r rb (.slice y N I) Q:=gd.ref n (gd.below B _) lR;have tr:=hx.cell.1;obtain ⟨lq,qo⟩:=d.c.rel.all Q[k] (T4 eb);obtain ⟨⟨ba,bn,bc,k8,_⟩,kc⟩:=qo.sl;clear kc;obtain ⟨K,kk,d1,d2⟩:∃ K,y=ZV ⟨K,0,ZW⟩/\wr.cell? ⟨K,k*2,ZW⟩=ZV (ZZ Q[k].1)/\wr.cell? ⟨K,k*2+1,ZW⟩=ZV (.slice ba bn bc):=by
       rcases hx.shape with ⟨_,e⟩|⟨K,hd,e,_,_,hh⟩
       . rw [e] at f;simp at f;omega
       . simp only [Vt] at e;obtain ⟨c1,c2⟩:=hh k eb;rw [k8] at c2;exact ⟨K,e.1,c1,c2⟩
      subst kk;have k0:∀ m,OZ w1 g xs.os (Z7 Z9 ((k:Int)+1)) (((wr.drewN m).setCell ⟨g,k*2,ZW⟩ (.string ⟨#[109,105,110,101]⟩)).setCell ⟨g,k*2+1,ZW⟩ (Z7 Z9 0)):=λm=>OZ.next _ _ hq (B.trans ⟨rfl,rfl,rfl,TV _,λ_ _=>rfl⟩) J.out.2 (ay.keep z rfl) h8 Y;obtain ⟨nm,hi⟩:=nM (xs.os[k].name);obtain ⟨nn,hj⟩:=nM (Q[k].1);obtain ⟨sz,hn⟩:=nM (xs.os[k].size);rw [hi] at e1;rw [hj] at d1;rw [hn] at e2;have W:=al (j _ B);have HN:=al k0;clear k0 B z h8 Y q1 q2 d j n l f k7 hx qo k8 hi hj hn hq hs R;by_cases ka:nm=nn
      . subst ka;by_cases kh:sz=bn
        . subst kh;go_upto_region 30 with fail;go_quiet (fail);go_wp2;exact ⟨HN.out _,e9⟩
        . have ki:¬ ((sz:Nat):Int)=((bn:Nat):Int):=eb;go_upto_region 30 with fail;go_quiet (fail);go_wp2;go_ret;exact ⟨⟨_,rfl⟩,W.out.below ⟨rfl,rfl,rfl,TV _,λ_ _=>rfl⟩⟩
      . have kg:¬ nm.toList=nn.toList:=λe=>ka (toList_inj e);have kp:(nm.toList==nn.toList)=ZT:=(by simp [kg]);go_upto_region 30 with fail;go_quiet (fail);go_wp2;go_ret;exact ⟨⟨_,rfl⟩,W.out.below ⟨rfl,rfl,rfl,TV _,λ_ _=>rfl⟩⟩
    . have kf:k=N:=eb;subst kf;have W:=al (j _ B);clear B z h8 Y d j n l f;go_wp2;go_ret;exact ⟨⟨_,rfl⟩,W.out⟩
end
end
section
section
variable {w0 w:ZS} {wb D L G nb t T:Nat} {xs ys:bP} {Q:List (ByteArray×ZR)} {p r sa ar v:Nat} {Kind:aN->Prop} {ps:aN} {pg ob:ZR} {P:a9} {A:aA} {F:aR} {out want:ZR} {cache:Int}
theorem I8 (h:MB w0 w wb D L G nb t xs p r sa ar v Kind ps pg ob P A F out want cache) (k:Dc w r Q ys out want) (x:ys.length<=T) (o:og) (g:ZR) (q:∃ e m f,g=.slice e m f) (l:o.kind<1\/6<o.kind) :
 ZQ ZM 7 #[Z6 (ZV ⟨wb,0,ZW⟩),.agg #[Z7 Z9 o.kind,Z7 Z9 o.a,ZZ o.s,g]] w (CY w0 wb sa D L G nb (T+1)):=by
 obtain ⟨e,m,f,rfl⟩:=q;obtain ⟨kd,i⟩:=nM (o.kind);obtain ⟨w1,j⟩:=nM (w.alloc (Z4 #[Z7 Z9 o.kind,Z7 Z9 o.a,ZZ o.s,.slice e m f] 33));have d:=QR h k o _ j;obtain ⟨u,H,I,J⟩:=d.op.cells;have n:=al (show MT w0 w1 wb sa D L G nb (T+1) from ⟨_,_,_,_,_,_,_,_,_,_,_,_,_,_,_,_,_,_,d.b,d.c,eb⟩);clear d h k;rw [i] at u j l ⊢;have n1:¬ kd=1:=eb
 have y:¬ kd=2:=eb
 have z:¬ kd=3:=eb
 have B:¬ kd=4:=eb
 have C:¬ kd=5:=eb
 have E:¬ kd=6:=eb
 clear l i;go_enter func7,ntmps7;go_wp2;go_ret;exact ⟨⟨_,rfl⟩,n.out⟩
theorem ML (h:MB w0 w wb D L G nb t xs p r sa ar v Kind ps pg ob P A F out want cache) (n:Dc w r Q ys out want) (H:ys.length<=T) (B:T<=900) (o:og) (j:ZR) (g:Bs w0 j o.d) (C:o.d.length<=100000) (z:D<=6) (I:o.kind=1) :
 ZQ ZM 7 #[Z6 (ZV ⟨wb,0,ZW⟩),.agg #[Z7 Z9 o.kind,Z7 Z9 o.a,ZZ o.s,j]] w (CY w0 wb sa D L G nb (T+1)):=by
 obtain ⟨x,y,E,_⟩:=id g;subst E;obtain ⟨m,q⟩:=nM (o.d.length);rw [q] at g ⊢;obtain ⟨w1,l⟩:=nM (w.alloc (Z4 #[Z7 Z9 o.kind,Z7 Z9 o.a,ZZ o.s,.slice x m y] 33));have f:=QR h n o _ l;have i:=MH f.b f.c H B o _ g C z;obtain ⟨J,K,M,N⟩:=f.op.cells;clear f h n g q;rw [I] at J l i ⊢;go_enter func7,ntmps7;go_wp2_with fail;refine i.mono ?_;rintro e w2 ⟨⟨b,rfl⟩,k⟩;have u:=al k;clear k i;go_wp2;go_ret;exact ⟨⟨_,rfl⟩,u.out⟩
theorem E6 (h:MB w0 w wb D L G nb t xs p r sa ar v Kind ps pg ob P A F out want cache) (C:Dc w r Q ys out want) (Z:ys.length<=T) (o:og) (l:ZR) (M:∃ f m g,l=.slice f m g) (E:o.kind=6) :
 ZQ ZM 7 #[Z6 (ZV ⟨wb,0,ZW⟩),.agg #[Z7 Z9 o.kind,Z7 Z9 o.a,ZZ o.s,l]] w (CY w0 wb sa D L G nb (T+1)):=by
 obtain ⟨f,m,g,rfl⟩:=M;obtain ⟨w1,i⟩:=nM (w.alloc (Z4 #[Z7 Z9 o.kind,Z7 Z9 o.a,ZZ o.s,.slice f m g] 33));have d:=QR h C o _ i;have hs:=QQ d.b.box d.b.live d.b.shv (d.b.pk _ _ d.b.shv.kind d.b.live.kit) (eT d.b.ab.nb8);obtain ⟨I,S,U,V⟩:=d.op.cells;have R:=d.b.Sa.cells.2.2.2.2.1;have k:=al d;clear d h C;rw [E] at I i ⊢;clear E;go_enter func7,ntmps7;go_wp2_with fail;refine hs.mono ?_;rintro e w2 ⟨⟨rr,H,rfl⟩,y⟩;obtain ⟨n,B⟩:=Ap H;obtain ⟨⟨t',W,ps',O,N,Y,X,j⟩,u⟩:=k.out.b.done y;have x:=pG B j.gl;have z:MT w0 w2 wb sa D L G nb (T+1):=⟨_,_,_,_,_,_,_,_,_,_,_,_,_,_,_,_,_,_,j,k.out.c.keep u lR,eb⟩;have K:=al z;clear z j u B H y hs I S U V R i;go_wp2_with fail;refine x.mono ?_;rintro e w3 ⟨rfl,q⟩;have J:=al (K.out.below q);clear q x;go_wp2;go_ret;exact ⟨⟨_,rfl⟩,J.out⟩
end
end
section
def gd.arr (e:aj w p A F) (f:aa (F.has p A.n) w w'):gd B w w':=λT g j cs _ d=>f.block j (TW.1 d).1 (λq=>by
 have b:T≠87/\T≠91/\T≠40/\T≠4:=by
  rcases g with rfl|rfl|rfl|rfl|rfl<;>exact ⟨ec,ec,ec,ec⟩
 obtain ⟨cs',T',c,h⟩:=e.kind q;rw [d] at c;simp only [UC,U1] at c;have a:=c.2.1;rcases h with k|k|k|k
 . exact b.1 (a.trans k)
 . exact b.2.1 (a.trans k)
 . exact b.2.2.1 (a.trans k)
 . exact b.2.2.2 (a.trans k))
def MM {sb:Nat} {c:Int} (ps:aN) (w:ZS) (h:lg sb c D L G ps) (b:ps.S w):ps.ps<w.heap.size:=by
 obtain ⟨a,d,ho,rfl⟩:=h;exact (nu sb c D L G a d ho).lt _ b (sb+1+1+1) (.inl ⟨eb,eb⟩)
structure QT (w0 w2:ZS) (wb D L G nb T:Nat) (e:ZP):Prop where
 ans:(∃ sa,e=Z3 (ZY #[Z6 (ZV ⟨sa,0,ZW⟩),.nilIface])/\∀ w6,bW w2 w6->MT w0 (w6.setCell ⟨wb,4,ZW⟩ (Z6 (ZV ⟨sa,0,ZW⟩))) wb sa D L G nb T)\/(∃ n:Int,(n=1\/n=3)/\e=Z3 (ZY #[.pointer ZW,iS n])/\∀ w6,bW w2 w6->AS w0 (w6.setCell ⟨wb,4,ZW⟩ (.pointer ZW)) wb D L G nb T)
 gl:bz w2
def F2 {w3 w4 w2:ZS} (h:AB w0 w3 wb D L G nb p r s A F out want cache) (S:Dc w3 r Q ys out want) (w:ys.length<=T) (y:bW w3 w4) (J:E2 w4 p D L G kc A F e w2):QT w0 w2 wb D L G nb T e/\w2.heap[wb]?=w3.heap[wb]?:=by
 have g:aa (F.has p A.n) w3 w2:=(aa.RO y _).trans J.out;have Z:=ay.lt h.Sa;have I:=h.arr.wbF h.Sa;have M:=g.block _ Z I;have C:=S.keep (gd.arr (B:=w3.heap.size) h.arr g) lR;have:=y.size;obtain ⟨B,i,N⟩:=J.ans;refine ⟨?_,M⟩;rcases N with ⟨sa,ar,o,k0,z,v,sb,ps,t,pg,ob,P,xs,H,u,X,hv,hy,m⟩|⟨n,W,o,R⟩
 . have f:=h.turn g H.vol.arr i;refine ⟨.inl ⟨sa,o,λa c=>?_⟩,f.gl⟩;have d:=f.below c;have b:aa (λj=>j=wb) a (a.setCell ⟨wb,4,ZW⟩ (Z6 (ZV ⟨sa,0,ZW⟩))):=aa.setCell _ _ _ rfl;have l:gL (a.setCell ⟨wb,4,ZW⟩ (Z6 (ZV ⟨sa,0,ZW⟩))) wb D L G (Z6 (ZV ⟨p,0,ZW⟩)) (Z6 (ZV ⟨sa,0,ZW⟩)) (Z6 (ZV ⟨r,0,ZW⟩)) nb out want cache:=ay.set d.Sa 4 [Z6 (ZV ⟨sa,0,ZW⟩)] Zt;have O:=d.write b ⟨_,rfl⟩ l;have E:=m5 d.Sa b;have:=h.base.size;have U:ZN a sa 99 (Z6 (ZV ⟨ar,0,ZW⟩)):=(c.block _ z.lt).trans z;have Y:=(H.below c).other b.size (λj V hs=>b.block j hs V) eb eb (by rw [i.n];exact I) (TU h.hK h.wbB) (λq=>eT (m _ q));exact ⟨_,_,_,_,_,_,_,_,lg sb kc D L G,ps,_,_,_,B,F,_,_,_,⟨O,E.box U lR,Y,eb,eb,λk q=>eT (m k q),⟨yJ h.par.r h.par h.par.l1,λps x u=>by
    obtain ⟨K,qs,ho,rfl⟩:=u;exact ⟨K,qs,x,rfl⟩,u,by rw [i.n];exact X⟩,MM,λq=>eT (m _ q)⟩,(C.keep (gd.below c _) lR).keep E lR,w⟩
 . have f:=h.turn g R i;refine ⟨.inr ⟨n,W,o,λa c=>?_⟩,f.gl⟩;have d:=f.below c;have b:aa (λj=>j=wb) a (a.setCell ⟨wb,4,ZW⟩ (.pointer ZW)):=aa.setCell _ _ _ rfl;have l:gL (a.setCell ⟨wb,4,ZW⟩ (.pointer ZW)) wb D L G (Z6 (ZV ⟨p,0,ZW⟩)) (.pointer ZW) (Z6 (ZV ⟨r,0,ZW⟩)) nb out want cache:=ay.set d.Sa 4 [.pointer ZW] Zt;exact ⟨_,_,_,_,_,_,_,_,_,_,d.write b ⟨_,rfl⟩ l,(C.keep (gd.below c _) lR).keep (m5 d.Sa b) lR,w⟩
def AB.sopen (h:AB w0 w wb D L G nb p r s A F out want cache) (d:bW w w') (b:0<=kc) (c:kc<=64) :
 ZQ ZM 11 #[Z6 (ZV ⟨p,0,ZW⟩),.agg #[Z7 Z9 D,Z7 Z9 L,Z7 Z9 G],.agg #[Z7 Z9 kc]] w' (E2 w' p D L G kc A F):=by
 have a:=h.below d;exact IW a.arr a.fit a.n a.par b c a.nb8.1 a.nb8.2 a.wait a.here (h.hv.below a.base h.hv.lt) (h.ht.keep (a.base.block _ h.ht.lt)) (TU h.hK a.base.size) (λq=>by have:=h.fB _ q;have:=h.hK;omega) (λq=>by have:=h.fB _ q;have:=h.hK;omega)
def C3 (h:AB w0 w wb D L G nb p r s A F out want cache) (u:Dc w r Q ys out want) (t:ys.length<=T) (l:0<=cache) (m:cache<=64) :
 ZQ ZM 15 #[Z6 (ZV ⟨wb,0,ZW⟩)] w λe w'=>(e=Z3 (Z1 ZU)/\MS w0 w' wb D L G nb T)\/(e=Z3 (Z1 ZT)/\AS w0 w' wb D L G nb T/\¬ ∀ i,i<A.n->A.R9 i 0=ZV .blank):=by
 have g:bW w w.drew:=(TX _ w).drew;refine (IX h.Sa h.sp (λsa w2=>w2.heap[wb]?=w.heap[wb]?/\∀ b,bW w2 b->MT w0 (b.setCell ⟨wb,4,ZW⟩ (Z6 (ZV ⟨sa,0,ZW⟩))) wb sa D L G nb T) (λw2=>(w2.heap[wb]?=w.heap[wb]?/\bz w2)/\(∀ b,bW w2 b->AS w0 (b.setCell ⟨wb,4,ZW⟩ (.pointer ZW)) wb D L G nb T)/\¬ ∀ i,i<A.n->A.R9 i 0=ZV .blank) (λ_ _ q=>q.1) (λ_ q=>q.1) ((h.sopen g l m).mono λe w2 k=>?_)).mono ?_
 . obtain ⟨j,hs⟩:=F2 h u t g k;rcases j.ans with ⟨sa,a,d⟩|⟨n,v,a,c⟩
   . exact .inl ⟨sa,a,hs,d⟩
   . exact .inr ⟨n,v,a,⟨hs,j.gl⟩,c,λq=>by obtain ⟨_,e⟩:=k.new q;rw [a] at e;unfold iS at e;cases e⟩
 . rintro e w' (⟨a,sa,w2,x,⟨_,d⟩,f,_,rfl⟩|⟨a,w2,x,⟨_,c,o⟩,f,_,rfl⟩)
   . exact .inl ⟨a,sa,d _ f⟩
   . exact .inr ⟨a,c _ f,o⟩
theorem MN (h:A.fit) (k:Nat):(mw A k).fit:=by
 refine ⟨h.n,h.nb,λi j=>?_,λi j=>?_⟩
 . show (if i<k then A.blk i j else zb).length=64;split
   . exact h.len i j
   . exact bw
 . show ∀ x∈(if i<k then A.blk i j else zb),x<256;split
   . exact h.byt i j
   . intro x a;have:=Vn a;omega
section
variable {w0 w:ZS} {wb D L G nb t T:Nat} {xs ys:bP} {Q:List (ByteArray×ZR)} {p r sa ar v:Nat} {Kind:aN->Prop} {ps:aN} {pg ob:ZR} {P:a9} {A:aA} {F:aR} {out want:ZR} {cache:Int}
theorem I9 (h:MB w0 w wb D L G nb t xs p r sa ar v Kind ps pg ob P A F out want cache) (Z:Dc w r Q ys out want) (hT:ys.length<=T) (o:og) (W:ZR) (hn:∃ B m C,W=.slice B m C) (g:o.kind=5) :
 ZQ ZM 7 #[Z6 (ZV ⟨wb,0,ZW⟩),.agg #[Z7 Z9 o.kind,Z7 Z9 o.a,ZZ o.s,W]] w λe w'=>(e=Z3 (Z1 ZU)/\MS w0 w' wb D L G nb T)\/(e=Z3 (Z1 ZT)/\AS w0 w' wb D L G nb T):=by
 obtain ⟨B,m,C,rfl⟩:=hn;obtain ⟨kc,hp,x⟩:=kV o.a 65 ec ec;have X:wrap64 ((IntKind.u64.wrap o.a).tmod 65)=(kc:Int):=vE x
 clear x;obtain ⟨w1,R⟩:=nM (w.alloc (Z4 #[Z7 Z9 o.kind,Z7 Z9 o.a,ZZ o.s,.slice B m C] 33));have d:=QR h Z o _ R;have hj:=CS d.b.live.vol.arr d.b.live.fit d.b.live.n0;obtain ⟨V,x1,x2,x3⟩:=d.op.cells;have a1:=d.b.Sa.cells.2.2.2.1;obtain ⟨q0,u⟩:=nM (w.heap.size);have HS:=au d u;clear d h Z;rw [g] at V R ⊢;rw [u] at V x1 x2 x3;clear g;go_enter func7,ntmps7;go_wp2_with fail;clear u R V x1 x2 x3;refine hj.mono ?_;rintro e w2 ⟨E,rfl,y,H,J⟩;clear hj a1;obtain ⟨d,u⟩:=HS.out;have l:gL w2 wb D L G (Z6 (ZV ⟨p,0,ZW⟩)) (Z6 (ZV ⟨sa,0,ZW⟩)) (Z6 (ZV ⟨r,0,ZW⟩)) nb out want cache:=ay.keep d.b.Sa (y.block _ (ay.lt d.b.Sa));obtain ⟨_,_,_,c3,_,_,_,_,_,c9⟩:=l.cells;have f3:=ay.R8 l 3;have f9:=ay.R8 l 9;have he:mx w2 q0 o (.slice B m C):=by rw [<- u];exact ay.keep d.op (y.block _ d.lt)
 have y1:=he.cells.2.1;obtain ⟨c,hi⟩:=nM (w1.heap.size);rw [hi] at H J ⊢;have h9:wb<w1.heap.size:=ay.lt d.b.Sa;obtain ⟨K,U⟩:=nM ((w2.setCell ⟨wb,3,ZW⟩ (Z6 (ZV ⟨c,0,ZW⟩))).setCell ⟨wb,9,ZW⟩ (Z7 Z9 (kc:Nat)));have I:aa (λj=>j=wb) w2 K:=by rw [<- U];exact (aa.setCell (S:=λj=>j=wb) w2 ⟨wb,3,ZW⟩ _ rfl).trans (aa.setCell (S:=λj=>j=wb) _ ⟨wb,9,ZW⟩ _ rfl)
 have hf:gL K wb D L G (Z6 (ZV ⟨c,0,ZW⟩)) (Z6 (ZV ⟨sa,0,ZW⟩)) (Z6 (ZV ⟨r,0,ZW⟩)) nb out want (kc:Int):=by
  rw [<- U];exact ay.set (ay.set l 3 [Z6 (ZV ⟨c,0,ZW⟩)] Zt) 9 [Z7 Z9 (kc:Nat)] Zt
 have Y:aj K c (mw A A.n) E:=H.keep λk g=>I.block k (H.RQ g) (λe=>eT (J k g));have f:=d.b.ab;have hh:=f.base.size;have N:bW w0 w2:=f.base.trans (y.mono hh);have hg:AB w0 K wb D L G nb c r (Z6 (ZV ⟨sa,0,ZW⟩)) (mw A A.n) E out want (kc:Int):=⟨hf,f.sp,Y,MN f.fit _,f.par,f.n,f.nb,by show (-1:Int)<0;decide,λi=>by
  show (if i<A.n then A.lost i else ZT)=ZT;split
  . exact f.here i
  . rfl,N.trans (I.below λk g=>⟨eT N.size,λq=>eT f.wbB⟩),f.TP,f.hv,f.ht,f.hK,f.wbB,λk g=>eT (J k g),f.nb8⟩
 have hm:=(d.c.keep (gd.below y _) lR).keep (m5 l I) lR;have O:=C3 hg hm hT eb eb;clear d u y H J l he hi h9 I hf Y f hh N hg hm;go_wp2_with fail;clear U;refine O.mono ?_;rintro e w4 (⟨rfl,z⟩|⟨rfl,z,_⟩)
 . have M:=al z;clear z O;go_wp2;go_ret;exact .inl ⟨rfl,M.out⟩
 . have M:=al z;clear z O;go_wp2;go_ret;exact .inr ⟨rfl,M.out⟩
end
end
def QU:MR zb=ZV .blank:=by
 have h:Dq zb=.blank:=ec
 unfold MR;rw [h,if_pos];rfl
def Aq (h:0<nb) (i:Nat):(iK n nb).R9 i 0=ZV .blank:=by
 unfold aA.R9;rw [if_pos ⟨rfl,h,rfl⟩];exact QU
theorem Ja (l:uM D L G) (ka:8<=nb) (hm:nb<=300) (c:Int) (Y:bz w) (hv:aY w) (ht:aK w) (hK:3<=w.heap.size) :
 ZQ ZM 6 #[.agg #[Z7 Z9 (D:Nat),Z7 Z9 (L:Nat),Z7 Z9 (G:Nat)],Z7 Z9 (nb:Nat),Z7 Z9 c] w λe w'=>∃ wb,e=Z3 (ZY #[Z6 (ZV ⟨wb,0,ZW⟩),Z1 ZU])/\MS w w' wb D L G nb 0:=by
 obtain ⟨kc,kb,r⟩:=kV c 65 ec ec;have E:wrap64 ((IntKind.u64.wrap c).tmod 65)=(kc:Int):=vE r
 clear r;obtain ⟨w1,C⟩:=nM (w.alloc (Z4 #[Z7 Z9 (D:Nat),Z7 Z9 (L:Nat),Z7 Z9 (G:Nat)] 26));have t:ay w1 w.heap.size 26 [Z7 Z9 (D:Nat),Z7 Z9 (L:Nat),Z7 Z9 (G:Nat)]:=by rw [<- C];exact UG w _
 have x0:=t.cell (j:=0) (u:=Z7 Z9 (D:Nat)) rfl;have x1:=t.cell (j:=1) (u:=Z7 Z9 (L:Nat)) rfl;have x2:=t.cell (j:=2) (u:=Z7 Z9 (G:Nat)) rfl;have O:bW w w1:=by rw [<- C];exact bA w _
 have S:=qQ (D:Int) (L:Int) (G:Int) w1 ⟨eb,eT l.d⟩ ⟨eb,eT l.l4⟩ ⟨eb,eT l.g⟩;have q:=au t O;clear t O;go_enter func6,ntmps6;go_wp2_with fail;refine S.mono ?_;rintro e w2 ⟨rfl,T⟩;have z:bW w1 w2:=by rw [T];exact bA w1 _
 clear T C x0 x1 x2 S;have B:=zn (D+L+G) nb w2 (eT l.s) eb;rw [(eb:((D+L+G:Nat):Int)=(D:Int)+(L:Int)+(G:Int))] at B;go_wp2_with fail;refine B.mono ?_;rintro e a ⟨rfl,o,I⟩;obtain ⟨F,m,n⟩:∃ F:aR,aj a w2.heap.size (iK (D+L+G) nb) F/\∀ k,F.has w2.heap.size (D+L+G) k->w2.heap.size<=k:=by
  rcases I with ⟨h0,_⟩|⟨_,F,W,X⟩
  . have:=l.d1;omega
  . exact ⟨F,W,X⟩
 have f:bW w w2:=q.out.2.trans (z.mono q.out.2.size);have h:bW w a:=f.trans (o.mono f.size);have y:ay a w.heap.size 26 _:=q.out.1.keep ((o.block _ (TY q.out.1.lt z.size)).trans (z.block _ q.out.1.lt));have y0:=y.cell (j:=0) (u:=Z7 Z9 (D:Nat)) rfl;have y1:=y.cell (j:=1) (u:=Z7 Z9 (L:Nat)) rfl;have y2:=y.cell (j:=2) (u:=Z7 Z9 (G:Nat)) rfl;obtain ⟨p,x⟩:=nM (w2.heap.size);rw [x] at m n ⊢;have U:=a8 m n h o x f;clear m n h o x f y I B z;dsimp only;go_wp2_with fail;obtain ⟨b,v⟩:=nM ((a.alloc (Z4 #[Z5 ZW 0 0] 61)).alloc (Z4 #[Z7 Z9 (D:Nat),Z7 Z9 (L:Nat),Z7 Z9 (G:Nat),Z6 (ZV ⟨p,0,ZW⟩),.pointer ZW,Z6 (ZV ⟨a.heap.size,0,ZW⟩),Z7 Z9 (nb:Nat),Z5 ZW 0 0,Z5 ZW 0 0,Z7 Z9 (kc:Nat)] 47));have R:b.heap[a.heap.size]?=ZV (Z4 #[Z5 ZW 0 0] 61 (0,0)):=by rw [<- v];exact (Ut _ _ _ ek).trans (UG a _)
 have M:gL b (a.heap.size+1) D L G (Z6 (ZV ⟨p,0,ZW⟩)) (.pointer ZW) (Z6 (ZV ⟨a.heap.size,0,ZW⟩)) nb (Z5 ZW 0 0) (Z5 ZW 0 0) (kc:Int):=by
  rw [<- v];have:=UG (a.alloc (Z4 #[Z5 ZW 0 0] 61)) (Z4 #[Z7 Z9 (D:Nat),Z7 Z9 (L:Nat),Z7 Z9 (G:Nat),Z6 (ZV ⟨p,0,ZW⟩),.pointer ZW,Z6 (ZV ⟨a.heap.size,0,ZW⟩),Z7 Z9 (nb:Nat),Z5 ZW 0 0,Z5 ZW 0 0,Z7 Z9 (kc:Nat)] 47);rw [Ua] at this;exact this
 have A:bW a b:=by rw [<- v];exact (bA a _).alloc ek _
 obtain ⟨m,n,h,o,x,f⟩:=U.out;have K:bW w b:=h.trans (A.mono h.size);have Z:bW b b.drew:=(TX _ b).drew;have hs:=f.size;have hx:=h.size;have H:aj b p (iK (D+L+G) nb) F:=m.below A lR;have N:AB w b (a.heap.size+1) D L G nb p a.heap.size (.pointer ZW) (iK (D+L+G) nb) F (Z5 ZW 0 0) (Z5 ZW 0 0) (kc:Int):=⟨M,⟨_,rfl⟩,H,nH (eT l.s) eb,l,rfl,rfl,by show (-1:Int)<0;decide,λ_=>rfl,K,Y,hv,ht,hK,eb,λk hk=>eT (n k hk),ka,hm⟩;have P:Dc b a.heap.size [] [] (Z5 ZW 0 0) (Z5 ZW 0 0):=⟨⟨a.heap.size+1,Z5 ZW 0 0,R,UB _ _ _ _⟩,trivial,⟨_,_,_,rfl,ec⟩,⟨_,_,_,rfl,ec⟩⟩;have Q:=C3 N P (TV 0) eb eb;clear R M A m n h o x f K Z hs hx H N P;rw [v];refine Q.mono ?_;rintro e w6 (⟨rfl,J⟩|⟨_,_,hn⟩)
 . have V:=al J;clear J Q v;dsimp only;go_wp2;go_ret2;exact ⟨_,rfl,V.out⟩
 . exact absurd (λi _=>Aq eb i) hn
section
open Go.ChangeShapes Go.WideShapes Go.Joins
def Tryz.SC:laidOutB ZM=ZU:=ei
def Tryz.Tk:ZM.cellsOf 33=4:=ei
def Tryz.Sw:ZM.cellsOf 3=1:=ei
def Tryz.Tp:ZM.cellsOf 9=1:=ei
def Tryz.Sz:ZM.cellsOf 31=1:=ei
def Tryz.S7:ZM.cellsOf 5=1:=ei
def Tryz.S6:ZM.bytesOf 5=1:=ei
instance:Inhabited og:=⟨⟨0,0,ByteArray.empty,[]⟩⟩
def yN:reachBytes=140737488351232:=rfl
def MO {l:List ZR} (h:l.length=4):∃ a b c d,l=[a,b,c,d]:=by
 match l,h with
 | [a,b,c,d],_=>exact ⟨a,b,c,d,rfl⟩
def gV {P:Program} {e:ZO}:∀ {ds:List (DataW H)} {d:DataW H},d∈ds->∀ n∈d.weights P e,n∈DataW.weightsAll P e ds
 | c::ds,d,a,n,b=>by
  simp only [DataW.weightsAll,Ub];rcases Un.1 a with rfl|a
  . exact .inl b
  . exact .inr (gV a n b)
def vw {enc:ZO×ZR->H} {v:ZR} {x:DataW H×List MemPlace} (h:DataW.trod enc ZM W 0 (λ_=>ZU) ZU n 31 [v]=ZV x) (t:∀ k∈x.1.weights ZM 31,k<=reachBytes):∃ l:a9,Bs W v l:=by
 rcases open_ints Ui WO Tryz.S7 h with ⟨c,_⟩|⟨a,len,cap,d,c,_,A,G,D,B,g,m⟩
 . simp at c;exact ⟨[],ZW,0,c,ek,ek,ek,λh=>absurd rfl h⟩
 . simp at c;simp only [if_true] at D;subst B;have w:=t (d.length*1) (by
    simp only [DataW.weights,Ui,lits,Tryz.S6];refine Un.2 (.inl ?_);simp only [TZ,Ud,Ue];omega)
   rw [yN] at w;have hll:((d.take len).map Int.toNat).length=len:=en;refine ⟨(d.take len).map Int.toNat,ZV a,cap,by rw [hll];exact c,by rw [hll];exact A,by rw [hll];omega,λy C=>?_,λr=>?_⟩
   . obtain ⟨z,u,rfl⟩:=T1.1 C;have:=bounds_u8 (m z (US u));omega
   . have:0<len:=by
      rcases WQ len with e|e
      . subst e;exact absurd rfl r
      . exact e
     obtain ⟨b,o,sp⟩:=a;have p:=g 0 eb;have s:sp=ZW:=(by simpa [Addr.add] using abv p);subst s;refine ⟨b,o,rfl,λk j=>?_⟩;have q:k<len:=(by rw [hll] at j;exact j);have f:k<d.length:=eb;have i:=g k f;rw [Wo] at i;rw [i];have:=bounds_u8 (m _ (T4 f));simp [f,q];omega
def E7 {enc:ZO×ZR->H} {x:DataW H×List MemPlace} (h:DataW.trod enc ZM W 0 (λ_=>ZU) ZU n 33 cs=ZV x) (i:∀ k∈x.1.weights ZM 33,k<=reachBytes) :
 ∃ o:og×ZR,cs=[Z7 Z9 o.1.kind,Z7 Z9 o.1.a,ZZ o.1.s,o.2]/\Bs W o.2 o.1.d/\o.1.s.size<=140737488355328:=by
 obtain ⟨p,q,r,t,m,rfl,l,u,w,y,j⟩:=trod_struct4 underlying33 h;rw [Tryz.Tk] at l;obtain ⟨a,b,c,d,rfl⟩:=MO l;obtain ⟨C,e,_,w0⟩:=Yp Xj u;obtain ⟨D,f,_,w1⟩:=Yp Xj w;obtain ⟨s,g,z,_⟩:=DataW.trod_string Ym y;rw [show ZM.cellsOf 3=1 from Tryz.Sw] at e f;rw [show ZM.cellsOf 9=1 from Tryz.Tp] at g;rw [show ZM.cellsOf 31=1 from Tryz.Sz] at j;simp at e f g;subst e f g;simp only [DataW.weights,underlying33] at i;obtain ⟨dl,A⟩:=vw (v:=d) (vE j) (λk B=>i k (by
  show k∈p.1.weights ZM _++(q.1.weights ZM _++(r.1.weights ZM _++(t.1.weights ZM 31++[])));simp only [Ub];exact .inr (.inr (.inr (.inl B)))))
 refine ⟨(⟨C,D,s,dl⟩,d),rfl,A,?_⟩;have:=i s.size (by
  show s.size∈p.1.weights ZM _++(q.1.weights ZM _++(r.1.weights ZM 9++(t.1.weights ZM _++[])));simp only [Ub];refine .inr (.inr (.inl ?_));rw [z];simp only [DataW.weights,Un];exact .inl (show s.data.size=s.data.toList.length from Wm.symm))
 rw [yN] at this;show s.size<=_;omega
def my {enc:ZO×ZR->H} {d:DataW H} {ps:List MemPlace} (h:DataW.Trod enc ZM W 0 (λ_=>ZU) ZU 22 (.slice ao len0 cap0) d ps) (A:∀ n∈d.weights ZM 22,n<=reachBytes) :
 ∃ l:List og,QK W (.slice ao len0 cap0) l/\∀ x∈l,x.s.size<=140737488355328/\x.d.length<=140737488355328:=by
 obtain ⟨fuel,g⟩:=h;rcases open_slice underlying22 g with ⟨r,_⟩|⟨a,len,cap,m,T,D,Q,r,_,R,S,z,q,y⟩
 . simp [Value.cells] at r;obtain ⟨rfl,rfl,rfl⟩:=r;exact ⟨[],⟨ZW,0,rfl,λh=>absurd rfl h⟩,λx q=>(by cases q)⟩
 . simp [Value.cells] at r;obtain ⟨rfl,rfl,rfl⟩:=r;simp only [WH] at q;obtain ⟨rfl,_⟩:=q;simp only [DataW.weights,underlying22] at A;simp only [if_true] at z;have J:=z.symm;subst J;rw [Tryz.Tk] at y;obtain ⟨f,g⟩:=choose_lt (α:=og×ZR) (n:=len0) (p:=λi s=>(∀ j,j<4->W.cell? ((a.add (i*4)).add j)=([Z7 Z9 s.1.kind,Z7 Z9 s.1.a,ZZ s.1.s,s.2]:List ZR)[j]?)/\Bs W s.2 s.1.d/\s.1.s.size<=140737488355328) (λi t=>by
    obtain ⟨cs',G,I⟩:=y i eb;obtain ⟨s,rfl,hs⟩:=E7 I (λk P=>A k (Ux _ (UN _ (gV (d:=D i) (T1.2 ⟨i,Uq.2 t,rfl⟩) k P))));obtain ⟨_,_,c⟩:=World.cells?_some G;exact ⟨s,c,hs⟩)
   obtain ⟨b,o,sp⟩:=a;refine ⟨(YC len0).map λi=>(f i).1,⟨ZV ⟨b,o,sp⟩,cap0,ek,λN=>?_⟩,λx q=>?_⟩
   . have v:0<len0:=by
      rcases WQ len0 with e|e
      . subst e;exact absurd rfl N
      . exact e
     have K:=(g 0 v).1 0 ec;have O:sp=ZW:=by
      have:W.cell? (((⟨b,o,sp⟩:Addr).add (0*4)).add 0)=ZV (Z7 Z9 (f 0).1.kind):=K;simpa [Addr.add] using abv this
     subst O;have w:=(g 0 v).1 0 ec;rw [Wo,Wo] at w;refine ⟨b,o,rfl,T8 (show W.cell? _=ZV _ from w),λi t=>?_⟩;have L:i<len0:=(vE t);obtain ⟨c,u,_⟩:=g i L;have B:=c 0 ec;have C:=c 1 ec;have E:=c 2 ec;have F:=c 3 ec;rw [Wo,Wo] at B C E F;simp only [Vf,YH];exact ⟨(f i).2,B,C,E,F,u⟩
   . obtain ⟨i,t,rfl⟩:=T1.1 q;obtain ⟨_,u,hs⟩:=g i (vE t);obtain ⟨_,_,_,_,M,_⟩:=u;exact ⟨hs,M⟩
end
section
open Go.ChangeShapes Go.WideShapes Go.Joins
structure Ly where
 SX:Int
 block:Int
 bytes:a9
 bad:Bool
def Lys (w:ZS) (v:ZR) (l:List Ly):Prop:=
 ∃ ao c,v=.slice ao l.length c/\(l≠[]->∃ b off,ao=ZV ⟨b,off,ZW⟩/\b<w.heap.size/\∀ i (hi:i<l.length),∃ dv,w.cell? ⟨b,off+i*4,ZW⟩=ZV (Z7 Z9 l[i].SX)/\w.cell? ⟨b,off+i*4+1,ZW⟩=ZV (Z7 Z9 l[i].block)/\w.cell? ⟨b,off+i*4+2,ZW⟩=ZV dv/\w.cell? ⟨b,off+i*4+3,ZW⟩=ZV (Z1 l[i].bad)/\Bs w dv l[i].bytes)
def Tryz.SW:ZM.cellsOf 37=4:=ei
def Tryz.Te:ZM.cellsOf 4=1:=ei
instance:Inhabited Ly:=⟨⟨0,0,[],ZT⟩⟩
def C4 {enc:ZO×ZR->H} {x:DataW H×List MemPlace} (h:DataW.trod enc ZM W 0 (λ_=>ZU) ZU n 37 cs=ZV x) (j:∀ k∈x.1.weights ZM 37,k<=reachBytes) :
 ∃ o:Ly×ZR,cs=[Z7 Z9 o.1.SX,Z7 Z9 o.1.block,o.2,Z1 o.1.bad]/\Bs W o.2 o.1.bytes:=by
 obtain ⟨u,w,y,z,m,rfl,l,p,q,i,r⟩:=trod_struct4 underlying37 h;rw [Tryz.SW] at l;obtain ⟨a,b,c,d,rfl⟩:=MO l;obtain ⟨A,e,_,w0⟩:=Yp Xj p;obtain ⟨B,f,_,w1⟩:=Yp Xj q;obtain ⟨C,g,_⟩:=DataW.trod_bool underlying4 r;rw [show ZM.cellsOf 3=1 from Tryz.Sw] at e f;rw [show ZM.cellsOf 31=1 from Tryz.Sz] at i;simp [Tryz.Te] at e f g;subst e f g;simp only [DataW.weights,underlying37] at j;obtain ⟨dl,s⟩:=vw (v:=c) (by simpa [Tryz.Sw] using i) (λk t=>j k (by
  show k∈u.1.weights ZM _++(w.1.weights ZM _++(y.1.weights ZM 31++(z.1.weights ZM _++[])));simp only [Ub];exact .inr (.inr (.inl t))))
 exact ⟨(⟨A,B,dl,C⟩,c),rfl,s⟩
def Ar {enc:ZO×ZR->H} {d:DataW H} {ps:List MemPlace} (h:DataW.Trod enc ZM W 0 (λ_=>ZU) ZU 23 (.slice ao len0 cap0) d ps) (x:∀ n∈d.weights ZM 23,n<=reachBytes) :
 ∃ l:List Ly,Lys W (.slice ao len0 cap0) l:=by
 obtain ⟨fuel,q⟩:=h;rcases open_slice underlying23 q with ⟨g,_⟩|⟨a,len,cap,m,R,D,O,g,_,P,Q,w,y,v⟩
 . simp [Value.cells] at g;obtain ⟨rfl,rfl,rfl⟩:=g;exact ⟨[],ZW,0,rfl,λh=>absurd rfl h⟩
 . simp [Value.cells] at g;obtain ⟨rfl,rfl,rfl⟩:=g;simp only [WH] at y;obtain ⟨rfl,_⟩:=y;simp only [DataW.weights,underlying23] at x;simp only [if_true] at w;have G:=w.symm;subst G;rw [Tryz.SW] at v;obtain ⟨f,q⟩:=choose_lt (α:=Ly×ZR) (n:=len0) (p:=λi s=>(∀ j,j<4->W.cell? ((a.add (i*4)).add j)=([Z7 Z9 s.1.SX,Z7 Z9 s.1.block,s.2,Z1 s.1.bad]:List ZR)[j]?)/\Bs W s.2 s.1.bytes) (λi r=>by
    obtain ⟨cs',E,F⟩:=v i eb;obtain ⟨s,rfl,hs⟩:=C4 F (λk N=>x k (Ux _ (UN _ (gV (d:=D i) (T1.2 ⟨i,Uq.2 r,rfl⟩) k N))));obtain ⟨_,_,c⟩:=World.cells?_some E;exact ⟨s,c,hs⟩)
   obtain ⟨b,o,sp⟩:=a;refine ⟨(YC len0).map λi=>(f i).1,ZV ⟨b,o,sp⟩,cap0,ek,λL=>?_⟩;have t:0<len0:=by
    rcases WQ len0 with e|e
    . subst e;exact absurd rfl L
    . exact e
   have I:=(q 0 t).1 0 ec;have M:sp=ZW:=by
    have:W.cell? (((⟨b,o,sp⟩:Addr).add (0*4)).add 0)=ZV (Z7 Z9 (f 0).1.SX):=I;simpa [Addr.add] using abv this
   subst M;have u:=(q 0 t).1 0 ec;rw [Wo,Wo] at u;refine ⟨b,o,rfl,T8 (show W.cell? _=ZV _ from u),λi r=>?_⟩;have K:i<len0:=(vE r);obtain ⟨c,J⟩:=q i K;have z:=c 0 ec;have A:=c 1 ec;have B:=c 2 ec;have C:=c 3 ec;rw [Wo,Wo] at z A B C;simp only [Vf,YH];exact ⟨(f i).2,z,A,B,C,J⟩
end
section
section
variable {w0 w w':ZS} {wb D L G nb T T':Nat}
def AS.mono (h:AS w0 w wb D L G nb T) (d:T<=T'):AS w0 w wb D L G nb T':=by
 obtain ⟨ys,Q,p,r,s,A,F,out,want,cache,a,b,c⟩:=h;exact ⟨ys,Q,p,r,s,A,F,out,want,cache,a,b,eb⟩
def AS.below (h:AS w0 w wb D L G nb T) (a:bW w w'):AS w0 w' wb D L G nb T:=by
 obtain ⟨ys,Q,p,r,s,A,F,out,want,cache,b,c,d⟩:=h;exact ⟨ys,Q,p,r,s,A,F,out,want,cache,b.below a,c.keep (gd.below a _) lR,d⟩
def AS.base (h:AS w0 w wb D L G nb T):bW w0 w:=by
 obtain ⟨ys,Q,p,r,s,A,F,out,want,cache,a,b,c⟩:=h;exact a.base
def aav (w0:ZS) (wb sa D L G nb T:Nat) (kind:Int) (e:ZP) (w':ZS):Prop:=∃ b:Bool,e=Z3 (Z1 b)/\(MT w0 w' wb sa D L G nb T\/kind=5/\(MS w0 w' wb D L G nb T\/b=ZT/\AS w0 w' wb D L G nb T))
def C7 (h:MT w0 w wb sa D L G nb T) (u:T<=900) (o:og) (c:ZR) (y:Bs w0 c o.d) (B:o.d.length<=100000) (x:D<=6) :
 ZQ ZM 7 #[Z6 (ZV ⟨wb,0,ZW⟩),.agg #[Z7 Z9 o.kind,Z7 Z9 o.a,ZZ o.s,c]] w (aav w0 wb sa D L G nb (T+1) o.kind):=by
 obtain ⟨t,xs,ys,Q,p,r,ar,v,Kind,ps,pg,ob,P,A,F,out,want,cache,g,f,i⟩:=h;have j:∃ l m n,c=.slice l m n:=by obtain ⟨l,n,e,_⟩:=y;exact ⟨l,_,n,e⟩
 have k:∀ (e:ZP) (w':ZS),CY w0 wb sa D L G nb (T+1) e w'->aav w0 wb sa D L G nb (T+1) o.kind e w':=λe w' q=>by obtain ⟨⟨b,z⟩,H⟩:=q;exact ⟨b,z,.inl H⟩
 by_cases C:o.kind<1\/6<o.kind
 . exact (I8 g f i o c j C).mono k
 by_cases k1:o.kind=1
 . exact (ML g f i u o c y B x k1).mono k
 by_cases k2:o.kind=2
 . exact (MI g f i u o c j k2).mono k
 by_cases k3:o.kind=3
 . exact (MK g f i u o c j x k3).mono k
 by_cases k4:o.kind=4
 . exact (I7 g f i o c j k4).mono k
 by_cases E:o.kind=6
 . exact (E6 g f i o c j E).mono k
 . refine (I9 g f i o c j eb).mono ?_;rintro e w' (⟨rfl,q⟩|⟨rfl,q⟩)
   . exact ⟨_,rfl,.inr ⟨eb,.inl (q.mono eb)⟩⟩
   . exact ⟨_,rfl,.inr ⟨eb,.inr ⟨rfl,q.mono eb⟩⟩⟩
def F3 (l:List og) (k:Nat) (a:k<l.length):l[k].d.length<=ga l:=by
 have:=rI l k a;have:=CT l (k+1);omega
def AS.write (h:AS w0 w wb D L G nb T):∃ p:Nat,w.cell? ⟨wb,3,ZW⟩=ZV (Z6 (ZV ⟨p,0,ZW⟩))/\(∀ X d k l,bW w X->d<D+L+G->k<nb->l.length=64->(∀ x∈l,x<256)->ZQ ZM 9 #[Z6 (ZV ⟨p,0,ZW⟩),Z7 Z9 (d:Nat),Z7 Z9 (k:Nat),.agg (aw l)] X λe Y=>e=Z3 .nilIface/\AS w0 Y wb D L G nb T)/\∀ X d k,bW w X->d<D+L+G->k<nb->ZQ ZM 10 #[Z6 (ZV ⟨p,0,ZW⟩),Z7 Z9 (d:Nat),Z7 Z9 (k:Nat),Z7 Z9 (-1)] X λe Y=>e=Z3 (ZY #[])/\AS w0 Y wb D L G nb T:=by
 obtain ⟨ys,Q,p,r,s,A,F,out,want,cache,f,m,o⟩:=h;refine ⟨p,f.Sa.cells.2.2.2.1,λX d k l c i j q t=>?_,λX d k c i j=>?_⟩
 . have a:=f.below c;refine (AK a.arr a.fit d k (by rw [a.n];exact i) (by rw [a.nb];exact j) a.wait (a.here d) l q t).mono ?_;rintro e Y ⟨rfl,g,b⟩;exact ⟨rfl,ys,Q,p,r,s,_,F,out,want,cache,a.turn b g ⟨rfl,rfl,rfl,rfl,(a.fit.RX d k l q t).RU d k ZT⟩,(m.keep (gd.below c _) lR).keep (gd.arr (B:=X.heap.size) a.arr b) lR,o⟩
 . have a:=f.below c;refine (G3 a.arr d k (by rw [a.n];exact i) (by rw [a.nb];exact j)).mono ?_;rintro e Y ⟨rfl,g,b⟩;exact ⟨rfl,ys,Q,p,r,s,_,F,out,want,cache,a.turn b g ⟨rfl,rfl,rfl,rfl,a.fit.RU d k ZU⟩,(m.keep (gd.below c _) lR).keep (gd.arr (B:=X.heap.size) a.arr b) lR,o⟩
def AS.opens (h:AS w0 w wb D L G nb T):∃ p:Nat,w.cell? ⟨wb,3,ZW⟩=ZV (Z6 (ZV ⟨p,0,ZW⟩))/\∀ X,bW w X->ZQ ZM 11 #[Z6 (ZV ⟨p,0,ZW⟩),.agg #[Z7 Z9 D,Z7 Z9 L,Z7 Z9 G],.agg #[Z7 Z9 3]] X λe Y=>QT w0 Y wb D L G nb T e/\bW w0 Y/\∃ c,Y.cell? ⟨wb,4,ZW⟩=ZV (.pointer c)/\Y.frozen? ⟨wb,4,ZW⟩=ZT:=by
 obtain ⟨ys,Q,p,r,s,A,F,out,want,cache,a,g,i⟩:=h;refine ⟨p,a.Sa.cells.2.2.2.1,λX b=>(a.sopen b (kc:=3) ec ec).mono λe Y f=>?_⟩;obtain ⟨o,t⟩:=F2 a g i b f;have d:gL Y wb D L G _ s _ nb out want cache:=ay.keep a.Sa t;obtain ⟨c,j⟩:=a.sp;have l:aa (F.has p A.n) w Y:=(aa.RO b _).trans f.out;refine ⟨o,a.base.trans (l.below λk m=>⟨TY m a.base.size,λq=>eT (a.fB k q)⟩),c,?_,ay.R8 d 4⟩;rw [<- j];exact d.cells.2.2.2.2.1
def MT.repl (h:MT w0 w wb sa D L G nb T):ZQ ZM 13 #[Z6 (ZV ⟨sa,0,ZW⟩),Z7 Z9 0] w λe Y=>(∃ r,e=Z3 r)/\bW w0 Y:=by
 obtain ⟨t,xs,ys,Q,p,r,ar,v,Kind,ps,pg,ob,P,A,F,out,want,cache,a,d,f⟩:=h;refine (MF a.box a.live a.shv (a.pk _ _ a.shv.kind a.live.kit) (eT a.ab.nb8) 0 (eT a.live.par.d1)).mono ?_;rintro e Y ⟨⟨r,_,rfl⟩,c⟩;obtain ⟨⟨_,_,_,_,_,_,_,b⟩,_⟩:=a.done c;exact ⟨⟨r,rfl⟩,b.base⟩
end
def MS.base (h:MS w0 w wb D L G nb T):bW w0 w:=h.as.base
def aS.set (h:aS w b l) (y:Nat):aS (w.setCell ⟨b,j,ZW⟩ (Z7 .u8 (y:Nat))) b (l.set j y):=by
 have:=ai (j:=j) h (Z7 .u8 (y:Nat));have e:(aw l).setIfInBounds j (Z7 .u8 (y:Nat))=aw (l.set j y):=by
  unfold aw aJ;simp [List.map_set]
 rw [e] at this;exact this
def aS.cell (h:aS w b l) (c:j<l.length):w.cell? ⟨b,j,ZW⟩=ZV (Z7 .u8 ((l.getD j 0:Nat):Int)):=by
 have a:w.heap[b]?=ZV (Z4 (aw l) 40 (0,0)):=h;simp [World.cell?,a,aw,aJ,T6,c]
def aS.R8 (h:aS w b l) (j:Nat):w.frozen? ⟨b,j,ZW⟩=ZT:=by
 have a:w.heap[b]?=ZV (Z4 (aw l) 40 (0,0)):=h;simp [World.frozen?,a]
end
noncomputable def RGw:Array Oper:=((Tryz.f3.body.bind (nZ · 24))).getD #[]
def OB:List (Op×Option Nat×a9):=[(Op.move (Z0 16),ZV 124,[]),
 (Op.nilCheck (Z0 124),ZV 125,[0]),
 (Op.fieldAddr 47 (Z0 125) 1,ZV 126,[1]),
 (Op.load 43 (Z0 126),ZV 127,[2]),
 (Op.move (Z0 20),ZV 128,[]),
 (Op.move (Z0 21),ZV 129,[]),
 (Op.load 40 (Z0 22),ZV 130,[]),
 (Op.call { callee:=Callee.value (Operand.func 9),args:=#[Z0 127,Z0 128,Z0 129,Z0 130],argTypes:=#[43,3,3,40] },ZV 131,[3,4,5,6])]
def Jb:aL RGw 124 132 OB:=bj ei ei
def Jc (wb p d kk:Nat) (lx:a9):List ZR:=[Z6 (ZV ⟨wb,0,ZW⟩),Z6 (ZV ⟨wb,0,ZW⟩),Z6 (ZV ⟨wb,3,ZW⟩),Z6 (ZV ⟨p,0,ZW⟩),Z7 Z9 (d:Nat),Z7 Z9 (kk:Nat),.agg (aw lx),.nilIface]
def BGw (w:ZS) (J:ZS->Prop) (Dn:Nat->Bool) (w':ZS):Prop:=(Dn 7=ZT->w'=w.drew)/\(Dn 7=ZU->J w')
def m6 (h:BGw w J Dn w') (a:i≠7):BGw w J (du Dn i) w':=by
 unfold BGw du;rw [if_neg (λe:7=i=>a e.symm)];exact h
def E8 (h:BGw w J Dn w') (n:i<8) (a:Dn i=ZT) (b:∀ j,Dn j=ZU->j<OB.length/\∀ k∈(bT OB j).2.2,Dn k=ZU):w'=w.drew:=by
 refine h.1 ?_;cases h7:Dn 7 with
 | false=>rfl
 | true=>
  have e:=(b 7 h7).2 3 ec;have g:=(b 7 h7).2 4 ec;have l:=(b 7 h7).2 5 ec;have m:=(b 7 h7).2 6 ec;have d:=(b 3 e).2 2 ec;have c:=(b 2 d).2 1 ec;have f:=(b 1 c).2 0 ec;match i,n with
  | 0,_=>rw [f] at a;cases a
  | 1,_=>rw [c] at a;cases a
  | 2,_=>rw [d] at a;cases a
  | 3,_=>rw [e] at a;cases a
  | 4,_=>rw [g] at a;cases a
  | 5,_=>rw [l] at a;cases a
  | 6,_=>rw [m] at a;cases a
  | 7,_=>rw [h7] at a;cases a
theorem E9 {Q:Exit->Act->ZS->Prop} {d kk X:Nat} {lx:a9} (J:ZS->Prop) (C:RGw=ops) (N:a.tmps.size=191) (A:w.cell? ⟨wb,3,ZW⟩=ZV (Z6 (ZV ⟨p,0,ZW⟩))) (c:aS w X lx) (I:lx.length=64)
 (K:ZQ ZM 9 #[Z6 (ZV ⟨p,0,ZW⟩),Z7 Z9 (d:Nat),Z7 Z9 (kk:Nat),.agg (aw lx)] w.drew λe w'=>e=Z3 .nilIface/\J w')
 (s:a.eval (Z0 16)=Z6 (ZV ⟨wb,0,ZW⟩)) (t:a.eval (Z0 20)=Z7 Z9 (d:Nat)) (x:a.eval (Z0 21)=Z7 Z9 (kk:Nat)) (y:a.eval (Z0 22)=Z6 (ZV ⟨X,0,ZW⟩))
 (H:∀ w',J w'->Q .normal (Act.RL a 124 (Jc wb p d kk lx)) w'):(Code.region 24 ops ZU).wp ZM Q a w:=by
 subst C;have B:w.drew.cell? ⟨wb,3,ZW⟩=ZV (Z6 (ZV ⟨p,0,ZW⟩)):=A;have D:aS w.drew X lx:=c;refine cQ ei Jb a w eb (λi u _=>u=(Jc wb p d kk lx).getD i ZX) (BGw w J) ⟨λ_=>rfl,λe=>Za⟩ ?_ ?_
 . intro i z;match i,z with
   | 0,_=>exact λo g w' Dn q ho h k l m j c b=>ag (ah ho ((k.slot 16 eb).trans s) w') h ⟨m6 c ec,rfl,kq⟩
   | 1,_|2,_=>
    intro o g w' Dn q ho h k l m j c b;have u0:=b _ (j _ (.head _));simp only [OB,Jc,bT,dy,wK,wJ] at ho u0;exact ag (by simp only [execOp,ho,u0,Jc,wK,wJ];go_simp) h ⟨m6 c ec,rfl,kq⟩
   | 3,_=>
    intro o g w' Dn q ho h k l m j c b;have u0:g.eval (Z0 126)=Z6 (ZV ⟨wb,3,ZW⟩):=b 2 (j 2 ec);have r:=E8 c ec l m;subst r;exact ag (v:=Z6 (ZV ⟨p,0,ZW⟩)) ee h ⟨m6 c ec,rfl,kq⟩
   | 4,_=>exact λo g w' Dn q ho h k l m j c b=>ag (ah ho ((k.slot 20 eb).trans t) w') h ⟨m6 c ec,rfl,kq⟩
   | 5,_=>exact λo g w' Dn q ho h k l m j c b=>ag (ah ho ((k.slot 21 eb).trans x) w') h ⟨m6 c ec,rfl,kq⟩
   | 6,_=>
    intro o g w' Dn q ho h k l m j c b;have u0:g.eval (Z0 22)=Z6 (ZV ⟨X,0,ZW⟩):=(k.slot 22 eb).trans y;have r:=E8 c ec l m;subst r;exact ag (v:=.agg (aw lx)) (by (conv at ho=>rhs;whnf);simp [execOp,ho,u0,jV D I]) h ⟨m6 c ec,rfl,kq⟩
   | 7,_=>
    intro o g w' Dn q ho h k l m j c b;have u0:g.eval (Z0 127)=Z6 (ZV ⟨p,0,ZW⟩):=b 3 (j 3 ec);have u1:g.eval (Z0 128)=Z7 Z9 (d:Nat):=b 4 (j 4 ec);have u2:g.eval (Z0 129)=Z7 Z9 (kk:Nat):=b 5 (j 5 ec);have u3:g.eval (Z0 130)=.agg (aw lx):=b 6 (j 6 ec);have r:=E8 c ec l m;subst r;refine mG (f:=9) (args:=#[Z6 (ZV ⟨p,0,ZW⟩),Z7 Z9 (d:Nat),Z7 Z9 (kk:Nat),.agg (aw lx)]) (w1:=w.drew) (by (conv at ho=>rhs;whnf);simp only [execOp,ho];go_simp;exact ⟨B3,A1,YY,abL⟩) h K ?_;rintro e L ⟨rfl,G⟩;exact ⟨_,rfl,⟨λe=>by unfold du at e;simp at e,λ_=>G⟩,rfl,kq⟩
   | n+8,hn=>exact absurd hn ZF
 . rintro g w' F M ⟨Dn,E,c⟩ b;have e:g=Act.RL a 124 (Jc wb p d kk lx):=F.out _ rfl eb (λi z=>?_)
   . rw [e];exact H w' (c.2 (E 7 ec))
   . match i,z with
     | 0,_=>exact b 0 ec
     | 1,_=>exact b 1 ec
     | 2,_=>exact b 2 ec
     | 3,_=>exact b 3 ec
     | 4,_=>exact b 4 ec
     | 5,_=>exact b 5 ec
     | 6,_=>exact b 6 ec
     | 7,_=>exact b 7 ec
     | n+8,hn=>exact absurd hn ZF
def MT.base (h:MT w0 w wb sa D L G nb T):bW w0 w:=MS.base ⟨sa,h⟩
def QK.mono {v:ZR} {l:List og} (h:QK w v l) (a:bW w w'):QK w' v l:=by
 obtain ⟨ao,c,rfl,j⟩:=h;refine ⟨ao,c,rfl,λm=>?_⟩;obtain ⟨b,off,e,d,g⟩:=j m;refine ⟨b,off,e,TY d a.size,λi k=>?_⟩;obtain ⟨f,n,o,q,r,s⟩:=g i k;exact ⟨f,(a.cell (p:=⟨b,off+i*4,ZW⟩) d).trans n,(a.cell (p:=⟨b,off+i*4+1,ZW⟩) d).trans o,(a.cell (p:=⟨b,off+i*4+2,ZW⟩) d).trans q,(a.cell (p:=⟨b,off+i*4+3,ZW⟩) d).trans r,s.mono a⟩
def GaR (w0:ZS) (wb D L G:Nat) (l:List og) (ok i:ZR) (wr:ZS):Prop:=∃ (k:Nat) (b:Bool),k<=l.length/\i=Z7 Z9 (k:Nat)/\ok=Z1 b/\(MS w0 wr wb D L G 100 k\/b=ZT/\AS w0 wr wb D L G 100 k)
def GaL (w0:ZS) (wb D L G:Nat) (l:List Ly) (i:ZR) (wr:ZS):Prop:=∃ k:Nat,k<=l.length/\i=Z7 Z9 (k:Nat)/\AS w0 wr wb D L G 100 200
def GaX (wc:ZS) (i:ZR) (wr:ZS):Prop:=∃ (q:Nat) (lx:a9),q<=64/\i=Z7 Z9 (q:Nat)/\lx.length=64/\(∀ x∈lx,x<256)/\aS wr wc.heap.size lx/\bW wc wr
def GaB (w0:ZS) (wb D L G sa:Nat) (l:List og) (i:ZR) (wr:ZS):Prop:=∃ k:Nat,k<=l.length/\i=Z7 Z9 (k:Nat)/\MT w0 wr wb sa D L G 100 (200+k)
def QV (w:ZS) (e:ZP) (w':ZS):Prop:=e=Z3 (Z1 ZU)/\bW w w'
theorem C8 {sv lv bv:ZR} {l:List og} {ly:List Ly} {l2:List og} (h:QK w sv l) (hs:∀ x∈l,x.s.size<=140737488355328/\x.d.length<=140737488355328) (a b c:Int) (xp:Lys w lv ly) (h2:QK w bv l2) (xa:∀ x∈l2,x.s.size<=140737488355328/\x.d.length<=140737488355328) (hg:bz w) (hv:aY w) (ht:aK w) (hK:3<=w.heap.size) :
 ZQ ZM 3 #[sv,Z7 Z9 a,Z7 Z9 b,Z7 Z9 c,lv,bv] w (QV w):=by
 have xc:=yL h hs;have h7:=λW (hb:bW w W)=>yL (h2.mono hb) xa;obtain ⟨ao,cp,rfl,hz⟩:=h;obtain ⟨lo,lc,rfl,h4⟩:=xp;obtain ⟨bo,bc,rfl,h3⟩:=h2;have H:=hide7 hz hg hv ht h4 h3 h7;clear hz h4 h3 hg hv ht hs xa h7;go_enter func3,ntmps3;go_wp2_with fail;refine xc.mono ?_;rintro e w1 ⟨b1,rfl,kf,q8⟩;have h7:=H.out.2.2.2.2.2.2 w1 q8;have H1:=au q8 kf;clear xc q8 kf;go_wp2_with fail;refine h7.mono ?_;rintro e w2 ⟨b2,rfl,kg,qq⟩;have ke:bW w w2:=H1.out.1.trans (qq.mono H1.out.1.size);have H2:=au ke kg;clear h7 qq kg ke;cases b1 with
 | false=>
  go_wp2;go_ret;exact ⟨rfl,H2.out.1⟩
 | true=>
 cases b2 with
 | false=>
  go_wp2;go_ret;exact ⟨rfl,H2.out.1⟩
 | true=>
 by_cases xh:200<ly.length
 . have hi:(200:Int)<(ly.length:Int):=eb;go_wp2;go_ret;exact ⟨rfl,H2.out.1⟩
 have hi:¬ (200:Int)<(ly.length:Int):=eb
 obtain ⟨x6,qg⟩:=H1.out.2 rfl;obtain ⟨qd,ks⟩:=H2.out.2 rfl;go_wp2_with fail;refine (OA a b c w2).mono ?_;rintro e w3 ⟨D,L,G,rfl,hP,qo,qs⟩;have H3:=au hP (H2.out.1.trans (qs.mono H2.out.1.size));clear hP qs;go_wp2_with fail;obtain ⟨t,q0⟩:=nM (w3.alloc (Z4 #[Z7 Z9 (D:Nat),Z7 Z9 (L:Nat),Z7 Z9 (G:Nat)] 26));have M:bW w t:=by rw [<- q0];exact H3.out.2.alloc H3.out.2.size _
 have qf:ay t w3.heap.size 26 [Z7 Z9 (D:Nat),Z7 Z9 (L:Nat),Z7 Z9 (G:Nat)]:=by rw [<- q0];exact UG w3 _
 rw [q0];have qz:=Ja (nb:=100) H3.out.1 eb eb 2 (H.out.2.1.below M) (H.out.2.2.1.below M H.out.2.2.1.lt) (H.out.2.2.2.1.keep (M.block _ H.out.2.2.2.1.lt)) (TU hK M.size);obtain ⟨pb,x9⟩:=nM (w3.heap.size);rw [x9] at qf ⊢;have u:=au M qf;clear M qf q0 x9;refine qz.mono ?_;rintro e w5 ⟨wb,rfl,Y⟩;have HM:=al Y;clear Y qz;go_wp2_with fail;go_loopw [17,18] (λok i wr=>GaR t wb D L G l ok i wr) (λ_ i _=>l.length-(intOf i).toNat)
 case atStart=>exact ⟨0,ZU,T3 _,rfl,rfl,.inl HM.out⟩
 case round=>
  obtain ⟨k,bb,hk,rfl,rfl,kz⟩:=hrel;have E:AS t wr wb D L G 100 k:=by
   rcases kz with q|⟨_,q⟩
   . exact q.as
   . exact q
  by_cases kb:k<l.length/\bb=ZU
  . obtain ⟨X,rfl⟩:=kb;have Y:MS t wr wb D L G 100 k:=by
     rcases kz with q|⟨q,_⟩
     . exact q
     . cases q
    have f:bW w wr:=u.out.1.trans (Y.base.mono u.out.1.size);obtain ⟨Q,off,rfl,v,V⟩:=H.out.1 (λe=>by rw [e] at X;simp at X);obtain ⟨dv,B,C,I,J,r⟩:=V k X;have k8:l[k].d.length<=100000:=TU (F3 l k X) qg;obtain ⟨o,ho⟩:=nM (l[k]);rw [ho] at B C I r k8;have P:=(f.cell (p:=⟨Q,off+k*4,ZW⟩) v).trans B;have Z:=(f.cell (p:=⟨Q,off+k*4+1,ZW⟩) v).trans C;have q3:=(f.cell (p:=⟨Q,off+k*4+2,ZW⟩) v).trans I;have q4:=(f.cell (p:=⟨Q,off+k*4+3,ZW⟩) v).trans J;obtain ⟨da,dc,km,_⟩:=id r;subst km;have A:=r.mono u.out.1;obtain ⟨m,O⟩:=nM (o.d.length);rw [O] at q4 A;have ko:(k:Int)<(l.length:Int):=eb;obtain ⟨sa,F⟩:=Y;have Y:MS t wr wb D L G 100 k:=⟨sa,F⟩;have kv:=C7 F eb o _ A k8 qo;clear F;have H5:=au kv Y;clear kv Y f B C I J r A k8 V O ho kz E;by_cases h5:o.kind<=5
    . go_wp2_with fail;clear P Z q3 q4;refine H5.out.1.mono ?_;rintro e w6 ⟨b6,rfl,h6⟩;have H6:=al (show GaR t wb D L G l (Z1 b6) (Z7 Z9 ((k:Int)+1)) w6 from ⟨k+1,b6,eb,rfl,rfl,by
       rcases h6 with q|⟨_,q|⟨P,Z⟩⟩
       . exact .inl ⟨_,q⟩
       . exact .inl q
       . exact .inr ⟨P,Z⟩⟩)
      clear h6;go_wp2;exact ⟨H6.out,e9⟩
    . have y2:¬ o.kind<=5:=h5;have H6:=al (show GaR t wb D L G l (Z1 ZU) (Z7 Z9 ((k:Int)+1)) wr from ⟨k+1,ZU,eb,rfl,rfl,.inl (H5.out.2.mono eb)⟩);go_wp2;exact ⟨H6.out,e9⟩
  . have qm:AS t wr wb D L G 100 200:=E.mono eb;have HA:=al qm;clear kz E qm;go_upto_region 10 with fail;go_cut [60] from 54 to 59 (λya K=>ya=Z1 ZT/\K=wr)
    case first=>
     by_cases hq:k<l.length
     . have xy:(k:Int)<(l.length:Int):=eb;have xk:bb=ZT:=by
        cases bb
        . rfl
        . exact absurd ⟨hq,rfl⟩ kb
       subst xk;go_wp2_with fail;go_meet
       case rel=>exact ⟨rfl,rfl⟩
     . have xy:¬ (k:Int)<(l.length:Int):=eb;go_wp2_with fail;go_meet
       case rel=>exact ⟨rfl,rfl⟩
    case rest=>
    obtain ⟨rfl,k9⟩:=hcut;have k9:=k9.symm;subst k9;clear kb;go_wp2_with fail;go_loopw [19] (λi wr=>GaL t wb D L G ly i wr) (λi _=>ly.length-(intOf i).toNat)
    case atStart=>exact ⟨0,T3 _,rfl,HA.out⟩
    case round=>
     clear HA;obtain ⟨T,xz⟩:∃ T,T=wr:=⟨_,rfl⟩;subst xz;obtain ⟨j,hj,rfl,E⟩:=hrel;have f:bW w T:=u.out.1.trans (E.base.mono u.out.1.size);have kp:=ay.keep u.out.2 (E.base.block _ (ay.lt u.out.2));have p0:=ay.cell kp (j:=0) rfl;have p1:=ay.cell kp (j:=1) rfl;have p2:=ay.cell kp (j:=2) rfl;by_cases X:j<ly.length
     . obtain ⟨lb,off,rfl,v,V⟩:=H.out.2.2.2.2.1 (λe=>by rw [e] at X;simp at X);obtain ⟨dv,B,C,I,J,r⟩:=V j X;obtain ⟨o,ho⟩:=nM (ly[j]);rw [ho] at B C J r;have P:=(f.cell (p:=⟨lb,off+j*4,ZW⟩) v).trans B;have Z:=(f.cell (p:=⟨lb,off+j*4+1,ZW⟩) v).trans C;have q3:=(f.cell (p:=⟨lb,off+j*4+2,ZW⟩) v).trans I;have q4:=(f.cell (p:=⟨lb,off+j*4+3,ZW⟩) v).trans J;obtain ⟨da,dc,km,_⟩:=id r;subst km;obtain ⟨m,O⟩:=nM (o.bytes.length);rw [O] at q3 r;have xo:(j:Int)<(ly.length:Int):=eb;obtain ⟨N,hN⟩:∃ N,N=D+L+G:=⟨_,rfl⟩;have ka:=H3.out.1;have xi:¬ (N:Int)=0:=(eT ka.d1);have xj:N<=16:=(by rw [hN];exact ka.s);have q7:IntKind.u64.wrap (N:Int)=(N:Int):=Zn;obtain ⟨d,hd,ed⟩:=kV o.SX N eb eb;obtain ⟨kk,x5,qr⟩:=kV o.block 100 ec ec;have y7:wrap64 ((IntKind.u64.wrap o.block).tmod 100)=(kk:Int):=(vE qr);clear qr;have xb:∀ W,ZQ ZM 8 #[.agg #[Z7 Z9 (D:Int),Z7 Z9 (L:Int),Z7 Z9 (G:Int)]] W λe W'=>e=Z3 (Z7 Z9 (N:Int))/\bW W W':=λW=>by
        have:=ka.d;have:=ka.l4;have:=ka.g;rw [(eb:(N:Int)=(D:Int)+L+G)];exact dU (D:Int) (L:Int) (G:Int) W ⟨eb,eb⟩ ⟨eb,eb⟩ ⟨eb,eb⟩
       have x4:Hid (Value.int .i64 (IntKind.i64.wrap ((IntKind.u64.wrap o.SX).tmod (N:Int)))=Z7 Z9 (d:Int)):=by
        refine al ?_;rw [<- ed];first|rfl|simp [wrap64,Us]
       clear ed;have HC:=al xb;have kj:d<D+L+G:=eb;have U:=a8 E f r O v kj;have kr:=T8 P;have HL:=al kr;have HR:=al J;have HQ:=au q3 q4;clear xb ka hN hd kp V B C I J r ho O E f v kr kj;go_upto_region 17 with fail;go_cut [20] from 81 to 91 (λv20 K=>v20=Z7 Z9 (d:Int)/\bW T K)
       case first=>
        go_region_with (go_at_call 8;refine (HC.out _).mono ?_;rintro e w7 ⟨rfl,qv⟩;have k6:bW T w7:=((TX _ T).drew).trans qv;have yd:=(k6.cell (p:=⟨lb,off+j*4,ZW⟩) HL.out).trans P;have H7:=al k6;clear qv k6);all_goals (go_wp2_with fail;go_meet;case rel=>exact ⟨x4.out,H7.out⟩)
       case rest=>
        obtain ⟨rfl,q9⟩:=hcut;have x2:=(q9.cell (p:=⟨lb,off+j*4+1,ZW⟩) HL.out).trans Z;have HB:=al q9;clear P Z q3 q4 p0 p1 p2 x4 xi q7 q9;have y0:=zeroBlk;go_wp2_with fail;clear x2 y7 y0;have qy:bW wc (wc.alloc (Z4 (aw zb) 40)):=bA wc _;have qn:=aS.new wc zb;have HX:=au qy qn;clear qy qn;go_loopw [23] (λi wr=>GaX wc i wr) (λi _=>64-(intOf i).toNat)
        case atStart=>exact ⟨0,zb,eb,rfl,bw,λx hx=>eT (Vn hx),HX.out.2,HX.out.1⟩
        case round=>
         clear HX;obtain ⟨q,lx,hq,rfl,qe,q5,hB,hb⟩:=hrel;have kh:bW T wr:=HB.out.trans (hb.mono HB.out.size);have f:bW w wr:=U.out.2.1.trans (kh.mono U.out.2.1.size);have z3:=(kh.cell (p:=⟨lb,off+j*4+2,ZW⟩) HL.out).trans HQ.out.1;have r:=U.out.2.2.1.mono f;have ky:=U.out.2.2.2.1;by_cases kb:q<m/\q<64
         . obtain ⟨y6,xv⟩:=kb;obtain ⟨yb,yc,qb,_,_,x3,x1⟩:=r;obtain ⟨b',o',xm,x0⟩:=x1 (λe=>by rw [e] at ky;simp at ky;omega);have xx:q<o.bytes.length:=eb;have y1:=x0 q xx;simp only [Vt] at qb;have qc:=qb.1;subst qc;subst xm;have xf:o.bytes.getD q 0<256:=tI x3 q;obtain ⟨y,hy⟩:=nM (o.bytes.getD q 0);rw [hy] at y1 xf;have cX:=hB.cell (j:=q) eb;have fX:=hB.R8 q;have e1:(q:Int)<(m:Int):=eb;have e2:(q:Int)<64:=eb;have HN:=al (show GaX wc (Z7 Z9 ((q:Int)+1)) (wr.setCell ⟨wc.heap.size,q,ZW⟩ (Z7 .u8 (y:Nat))) from ⟨q+1,lx.set q y,eb,rfl,by simp [qe],λx hx=>(XE hx).elim (q5 x) λe=>e▸xf,hB.set y,hb.setCell (p:=⟨wc.heap.size,q,ZW⟩) lR _⟩);clear hB hb kh f ky x0 x1 qb x3 hy q5;go_wp2;go_roundw
           case rel=>exact HN.out
           case measure=>simp [intOf];omega
         . have kc:=U.out.1.below kh;obtain ⟨p,c3,xe,hp⟩:=kc.write;have kj:=U.out.2.2.2.2.2;have HW:=al (xe wr.drew d kk lx ((TX _ wr).drew) kj x5 qe q5);have xg:=al hB;clear hB hb kh r ky q5 kc xe hp kj f;go_upto_region 21 with fail;go_cut [111] from 100 to 110 (λy9 K=>y9=Z1 ZT/\K=wr)
           case first=>
            clear c3;by_cases y5:q<m
            . have e1:(q:Int)<(m:Int):=eb;have e2:¬ (q:Int)<64:=eb;go_wp2_with fail;go_meet
              case rel=>exact ⟨rfl,rfl⟩
            . have e1:¬ (q:Int)<(m:Int):=eb;go_wp2_with fail;go_meet
              case rel=>exact ⟨rfl,rfl⟩
           case rest=>
           obtain ⟨rfl,k9⟩:=hcut;have k9:=k9.symm;subst k9;clear kb z3;go_upto_region 24 with fail;refine E9 (λW=>AS t W wb D L G 100 200) ei rfl c3 xg.out qe HW.out rfl rfl rfl rfl ?_;intro w8 h8;rename_i qp
           obtain ⟨p8,c8,qh,hp⟩:=h8.write;clear qh;have ki:bW w w8:=u.out.1.trans (h8.base.mono u.out.1.size);have v4:=(ki.cell (p:=⟨lb,off+j*4+3,ZW⟩) U.out.2.2.2.2.1).trans HR.out;have H8:=al h8;have q6:=al (hp w8 d kk (TX _ _) U.out.2.2.2.2.2 x5);refine qp _ _ ?_;clear qp c3 hp h8 ki;simp only [Act.RL,Jc,Act.put,UL,UJ,UM];obtain ⟨y8,xq⟩:∃ x,o.bad=x:=⟨_,rfl⟩;rw [xq] at v4;cases y8
           . have HN:=al (show GaL t wb D L G ly (Z7 Z9 ((j:Int)+1)) w8 from ⟨j+1,eb,rfl,H8.out⟩);go_wp2;go_roundw
             case rel=>exact HN.out
             case measure=>simp [intOf];omega
           . go_wp2_with fail;refine q6.out.mono ?_;rintro e w9 ⟨rfl,h9⟩;have HN:=al (show GaL t wb D L G ly (Z7 Z9 ((j:Int)+1)) w9 from ⟨j+1,eb,rfl,h9⟩);clear h9;go_wp2;go_roundw
             case rel=>exact HN.out
             case measure=>simp [intOf];omega
     . have y4:¬ (j:Int)<(ly.length:Int):=eb;obtain ⟨p,c3,x8⟩:=E.opens;have HO:=al (x8 T.drew ((TX _ T).drew));clear x8 E f kp;go_upto_region 27 with fail;go_cut [24,25] from 144 to 153 (λR S K=>(QT t K wb D L G 100 200 (Z3 (ZY #[R,S]))/\bW t K/\∃ so,K.cell? ⟨wb,4,ZW⟩=ZV (.pointer so)/\K.frozen? ⟨wb,4,ZW⟩=ZT))
       case first=>
        go_region_with (go_at_call 11;refine HO.out.mono ?_;intro e w7 hq;obtain ⟨R,S,he⟩:∃ R S,e=Z3 (ZY #[R,S]):=(by rcases hq.1.ans with ⟨sa,rfl,_⟩|⟨n,_,rfl,_⟩;exact ⟨_,_,rfl⟩;exact ⟨_,_,rfl⟩);subst he;have H7:=al hq;clear hq);all_goals (go_wp2_with fail;go_meet;case rel=>exact H7.out)
       case rest=>
        clear HO c3 p0 p1 p2;obtain ⟨kx,M,so,s4,f4⟩:=hcut;have xn:=kx.gl;rcases kx.ans with ⟨sa,he,hM⟩|⟨n,hn,he,_⟩
        . simp only [Yn,Yo,YD,YE,and_true] at he;obtain ⟨rfl,rfl⟩:=he;have qk:=al hM;clear hM kx;go_wp2_with fail;refine (oK _).mono ?_;rintro e w8 ⟨rfl,k7⟩;have s8:w8.cell? ⟨wb,4,ZW⟩=ZV (.pointer so):=(k7.cell (T8 s4)).trans s4;have f8:w8.frozen? ⟨wb,4,ZW⟩=ZT:=by
           have:w8.heap[wb]?=wc.heap[wb]?:=k7.block _ (T8 s4);unfold World.frozen? at f4 ⊢;rw [this];exact f4
          have x7:=qk.out _ k7;have qj:=al x7;clear x7 k7 s4 f4;go_wp2_with fail;go_loopw [27] (λi wr=>GaB t wb D L G sa l2 i wr) (λi _=>l2.length-(intOf i).toNat)
          case atStart=>exact ⟨0,T3 _,rfl,qj.out⟩
          case round=>
           clear qj qk s8 f8;obtain ⟨z,y3,rfl,F⟩:=hrel;have qa:=F.base;have f:bW w wr:=u.out.1.trans (qa.mono u.out.1.size);by_cases hh:z<l2.length
           . obtain ⟨Q,off,rfl,v,V⟩:=H.out.2.2.2.2.2.1 (λe=>by rw [e] at hh;simp at hh);obtain ⟨dv,B,C,I,J,r⟩:=V z hh;have k8:l2[z].d.length<=100000:=TU (F3 l2 z hh) ks;obtain ⟨o,ho⟩:=nM (l2[z]);rw [ho] at B C I r k8;have P:=(f.cell (p:=⟨Q,off+z*4,ZW⟩) v).trans B;have Z:=(f.cell (p:=⟨Q,off+z*4+1,ZW⟩) v).trans C;have q3:=(f.cell (p:=⟨Q,off+z*4+2,ZW⟩) v).trans I;have q4:=(f.cell (p:=⟨Q,off+z*4+3,ZW⟩) v).trans J;obtain ⟨da,dc,km,_⟩:=id r;subst km;have A:=r.mono u.out.1;obtain ⟨m,O⟩:=nM (o.d.length);rw [O] at q4 A;have ko:(z:Int)<(l2.length:Int):=eb;have kv:=C7 F eb o _ A k8 qo;have H5:=au kv F;clear kv F qa f B C I J r A k8 V O ho;by_cases h5:o.kind=5
             . have H6:=al (show GaB t wb D L G sa l2 (Z7 Z9 ((z:Int)+1)) wr from ⟨z+1,eb,rfl,H5.out.2.mono eb⟩);go_wp2;go_roundw
               case rel=>exact H6.out
               case measure=>simp [intOf];omega
             . go_wp2_with fail;clear P Z q3 q4;refine H5.out.1.mono ?_;rintro e w6 ⟨b6,rfl,h6⟩;have H6:=al (show GaB t wb D L G sa l2 (Z7 Z9 ((z:Int)+1)) w6 from ⟨z+1,eb,rfl,h6.elim (λq=>q.mono eb) λq=>absurd q.1 h5⟩);clear h6;go_wp2;go_roundw
               case rel=>exact H6.out
               case measure=>simp [intOf];omega
           . have ko:¬ (z:Int)<(l2.length:Int):=eb;have HR:=al F.repl;clear F qa f;go_wp2_with fail;refine HR.out.mono ?_;rintro e w9 ⟨⟨rr,rfl⟩,qx⟩;have H9:=al qx;clear qx;go_wp2;go_ret;exact ⟨rfl,u.out.1.trans (H9.out.mono u.out.1.size)⟩
        . simp only [Yn,Yo,YD,YE,and_true] at he;obtain ⟨rfl,rfl⟩:=he;have qi:=al M;clear kx M s4 f4;unfold iS;rcases hn with rfl|rfl;all_goals
           have xd:=λx=>nI x wc xn;go_wp2_with fail;refine (xd _).mono ?_;rintro e w8 ⟨rfl,k7⟩;have H8:=al k7;clear k7 xd;go_wp2;go_ret;exact ⟨rfl,(u.out.1.trans (qi.out.mono u.out.1.size)).trans (H8.out.mono (TU u.out.1.size qi.out.size))⟩
