import Derived.Test.YthibhmemkhmocaaGreatDoorM06
set_option maxRecDepth 100000
set_option linter.all false
set_option maxHeartbeats 8000000
open Go.IntKind renaming i64 -> Z9
open Go.Value renaming int -> Z8, pointer -> Z7, slice -> Z6, string -> Z3, tuple -> Z2
open Go.Obj renaming cells -> Z5
open Go.Ending renaming returned -> Z4
open Option renaming none -> Z1, some -> Z0
open Bool renaming true -> ZZ, false -> ZY
open Go renaming World -> ZX, Value -> ZW, Calls -> ZV
open List renaming range -> YF
open Nat renaming left_le_or -> YG
open Int renaming natCast_add -> YH
open Go.Proofs.YthibhmemkhmocaaGreatDoor renaming pgs -> YI
open Go.Proofs.Tryz renaming prog -> ZU
open Go.Proofs.Tryz
namespace Go.Proofs.YthibhmemkhmocaaGreatDoor
def Ys:=@Go.Calls.quiet_of_same
end Go.Proofs.YthibhmemkhmocaaGreatDoor
namespace Go.Proofs.YthibhmemkhmocaaGreatDoor
open Go.RowKit Go.Deep Gf Go.Shelf
variable {A:aC} {x:ByteArray} {e:Ending} {F:aH} {room z:Int} {dl ds l P d:a8} {cs:List ZW} {k base v p D L G ho sb q b l1 m c r g N sp gone b0 ar t sz y:Nat} {f f0:Nat->ZW} {ao:Option Addr} {u a er pg ob a' b' c':ZW} {w w' w3 w1 w0 wr w6 w7 w8:ZX}
def FQ (h:k<=16):ab (2^k-1)=YF k:=oz h
def DA (R:Nat->a8):∀ m,(∀ i,i<m->(R i).length=44)->((YF m).map R).flatten.length=44*m
 | 0,_=>rfl
 | m+1,h=>by
  rw [VF,UD,aca,Uc,DA R m λi a=>h i (by omega)];simp [h m (by omega)];omega
def RL {M size:Nat} {fl:a8} (h:w.ownsRow base 5 1 u M (aI fl)) (z:fl.length=M) (y:∀ x∈fl,x<256) (hs:size<=M) (A:M<=1000000):∃ ao b,u=.slice ao M b/\M<=b/\b<=9223372036854775807/\(ao=Z1->M=0/\b=0)/\(∀ a,ao=Z0 a->base<=a.block)/\Bs w (.slice ao size size) (fl.take size):=by
 have hl:(fl.take size).length=size:=by rw [Us];omega
 rcases h.2 with ⟨e,f⟩|⟨c,b,cur,e,n,o,p,r,B,s⟩
 . have t:size=0:=(by omega);subst t;exact ⟨Z1,0,by rw [e,f],by omega,by omega,λ_=>⟨f,rfl⟩,λa h=>(by cases h),by rw [Wn];exact ⟨Z1,0,rfl,TY _,by decide,λ_ h=>(by cases h),λh=>absurd rfl h⟩⟩
 . have m:b<=9223372036854775807:=(by unfold maxLen at r;omega);refine ⟨Z0 ⟨c,0,Z1⟩,b,e,p,m,λh=>(by cases h),λa h=>(by cases h;exact n),Z0 ⟨c,0,Z1⟩,size,by rw [hl],by rw [hl];exact TY _,?_,λx v=>y x (U2 v),λ_=>⟨c,0,rfl,λk i=>?_⟩⟩
   . rw [hl];omega
   . rw [hl] at i;have g:k<fl.length:=(by omega);have q:cur[k]?=Z0 (Z8 .u8 ((fl[k]:Nat):Int)):=by
      have d:=UB (λl=>l[k]?) s;simp only [Wf,aI] at d;rw [VR (by omega),abE,UE,Ue g] at d;exact d
     have j:(fl.take size).getD k 0=fl[k]:=(by simp [Ub,i,g]);rw [j];simp [World.cell?,o,q]
theorem yP (D L G:Int) (w:ZX) (a:0<=D/\D<=100) (b:0<=L/\L<=100) (c:0<=G/\G<=100):ZV ZU 9 #[.agg #[Z8 Z9 D,Z8 Z9 L,Z8 Z9 G]] w λe w'=>e=Z4 (Z8 Z9 (D+L+G))/\w'=w.alloc (Z5 #[Z8 Z9 D,Z8 Z9 L,Z8 Z9 G] 27):=by
 obtain ⟨d,f⟩:=a;obtain ⟨b1,b2⟩:=b;obtain ⟨c1,g⟩:=c;go_enter func9,ntmps9;go_wp2;go_ret;exact ⟨rfl,rfl⟩
theorem yQ {ps:Nat} (h:bt w v p D L G ps ho) (hD:D<=12) (hL:L<=4) (hG:G<=4) {N:Nat} (m:N=D+L+G):ZV ZU 83 #[Z7 (Z0 ⟨v,0,Z1⟩)] w λe w'=>e=Z4 (Z7 (Z0 ⟨w.heap.size+2,0,Z1⟩))/\eY w' (w.heap.size+2) v 0 (w.heap.size+1) N 0 0/\w'.rowIs (w.heap.size+1) 40 N (λ_=>Z6 Z1 0 0)/\bW w w':=by
 obtain ⟨_,c1,i,j,_⟩:=h.cells;go_enter func83,ntmps83;go_wp2_with fail;refine (yP (D:Int) (L:Int) (G:Int) w ⟨by omega,by omega⟩ ⟨by omega,by omega⟩ ⟨by omega,by omega⟩).mono ?_;rintro e f ⟨rfl,c⟩;rw [show ((D:Int)+(L:Int)+(G:Int))=(N:Int) by omega];have n:N<=20:=by omega
 have a:bW w f:=by rw [c];exact bA w _
 have b:f.heap.size=w.heap.size+1:=by rw [c];simp
 have g:=al a b;clear a c1 i j h m c b;go_wp2_with (at_make;refine vZ _ rfl (.tmp 8) (.tmp 8) rfl _ N rfl rfl rfl (by omega) ?_;intro w6 d l q);go_ret;obtain ⟨a,b⟩:=g.o;have k:w6.heap.size=w.heap.size+2:=by omega
 rw [b] at d ⊢;refine ⟨rfl,?_,?_,?_⟩
 . have:=Uk w6 (Z5 (rdA v 0 (w.heap.size+1) N 0 0) 200);rw [k] at this;exact this
 . exact d.of_block (Uy _ _ _ (by omega))
 . exact (a.trans (l.mono a.size)).alloc (by omega) _
section
section
variable (D L G lost:Nat) (hr:dg D L G=ZZ) (hD1:1<=D) (hD:D<=12) (hL:1<=L) (hL4:L<=4) (hG:G<=4) (hdiv:D%L=0) (h16:D+L+G<=16) (hl:lost<2^(D+L+G))
include hr hD1 hD hL hL4 hG hdiv h16 hl
theorem JN (rd:Bool) (w:ZX) (g:aJ w) (i:3<=w.heap.size):ZV ZU 174 #[bL D L G lost rd] w (Rv D L G lost w):=by
 have a:=wt.new w D L G lost rd;obtain ⟨w2,n⟩:=nM ((w.alloc (Z5 #[Z8 Z9 (D:Int),Z8 Z9 (L:Int),Z8 Z9 (G:Int),Z8 .u64 (lost:Int),.bool rd] 221)).alloc (Z5 #[Z8 Z9 0,Z6 Z1 0 0] 206));rw [n] at a;obtain ⟨c0,c1,t,u,x⟩:=a.cells;have l:=De D L G lost hr hD1 hD hL hL4 hG hdiv h16 hl w2 (g.mono (by omega) a.below) (TZ i a.below.size);have j:=qY D L G lost hr hD1 hD hL hL4 hG hdiv h16 hl w2 (g.mono (by omega) a.below) (TZ i a.below.size);have H:=aE a l j;clear a j l g;unfold bL;cases rd;all_goals (
  go_enter func174,ntmps174;go_wp2_with fail;first|refine H.o.2.1.mono ?_|refine H.o.2.2.mono ?_
  rintro e w3 ⟨z,ao,m,c,er,rfl,b,f⟩;have a:=H.o.1;have hs:=a.size;have d:=(b.block (w.heap.size+1) (by omega)).trans a.res;obtain ⟨N,O,M,K⟩:=ay d;have r:=a5 f b d hs;clear f b d c0 c1 t u x n a;go_wp2;obtain ⟨f,b,d,hs⟩:=r.o;obtain ⟨n0,B,_⟩:=ay (iX (y':=.slice ao m c) (iW (x':=Z8 Z9 z) d));refine Uv (v:=Z2 #[.agg #[Z8 Z9 z,.slice ao m c],er]) (by simp [results,results174,go_sem,n0,B]) rfl ?_;have y:bW w w3:=H.o.1.below.trans (b.mono H.o.1.below.size);refine ⟨z,ao,m,c,er,rfl,(y.setCell (p:=⟨w.heap.size+1,0,Z1⟩) (by show w.heap.size<=w.heap.size+1;omega) _).setCell (p:=⟨w.heap.size+1,1,Z1⟩) (by show w.heap.size<=w.heap.size+1;omega) _,?_⟩;rcases f with q|⟨E,s,C,F,I,J,k⟩
  . exact .inl q
  . have h:(Value.slice ao m c).ownBlock≠Z0 (w.heap.size+1):=λe=>by have:=jP k e;omega
    have A:=(k.kept (dD w3 (w.heap.size+1) 0 (Z8 Z9 z)) (.inr h)).kept (dD _ (w.heap.size+1) 1 (.slice ao m c)) (.inr h);exact .inr ⟨E,s,C,F,I,J,gx A (by omega)⟩)
end
def PlA (sb:Nat) (room:Int) (D L G x:Nat) (qs:List Pq) (w w':ZX) (z:Int) (ao:Option Addr) (m c:Nat) (er:ZW):Prop:=(er=.iface 66 (Z8 Z9 3)/\z=0/\ao=Z1/\m=0/\c=0/\¬ gW D L G (eQ x)/\bW w w')\/(er=.nilIface/\∃ s C es' qs',(∀ i,(eQ x).testBit i=ZZ->s.testBit i=ZZ)/\tells (jO D L G) (ab (aw (D+L+G) s))=Z0 C/\z=1+((ab (aw (D+L+G) s)).length:Int)/\w'.ownsRow w.heap.size 299 4 (.slice ao m c) (bZ D L G s C).length (eG .u8 (bZ D L G s C))/\gP w' sb room D L G es' qs'/\(∀ q∈qs',q∈qs\/(w.heap.size<=q.nb/\∀ k,(Value.slice q.ao q.m q.c).ownBlock=Z0 k->w.heap.size<=k))/\aa (λk=>oT sb qs k\/k=sb+1) w w')
section
variable (D L G x:Nat) (hr:dg D L G=ZZ) (hD1:1<=D) (hD:D<=12) (hL:1<=L) (hL4:L<=4) (hG:G<=4) (hdiv:D%L=0) (h16:D+L+G<=16) (hl:eQ x<2^(D+L+G))
include hr hD1 hD hL hL4 hG hdiv h16 hl
theorem M7 {es:List (Nat×Nat×Nat)} {qs:List Pq} (W:gP w sb room D L G es qs) (hx:x∉cT es) (hT:aJ w) (h2:3<=w.heap.size):ZV ZU 145 #[Z7 (Z0 ⟨sb+1+1+1,0,Z1⟩),bL D L G (eQ x:Nat) (fQ x)] w λe w'=>∃ z ao m c er,e=Z4 (Z2 #[.agg #[Z8 Z9 z,.slice ao m c],er])/\PlA sb room D L G x qs w w' z ao m c er:=by
 have l:=wt.new w D L G (eQ x:Nat) (fQ x);obtain ⟨w2,q4⟩:=nM ((w.alloc (Z5 #[Z8 Z9 (D:Int),Z8 Z9 (L:Int),Z8 Z9 (G:Int),Z8 .u64 ((eQ x:Nat):Int),.bool (fQ x)] 221)).alloc (Z5 #[Z8 Z9 0,Z6 Z1 0 0] 206));rw [q4] at l;obtain ⟨c0,c1,S,U,V⟩:=l.cells;have g:=W.keep λk a=>l.below.block k (W.blt k a);have k7:=g.list;obtain ⟨n,k8⟩:=g.map;have q2:=g.cell;have hy:∀ w',bW w2 w'->ZV ZU 173 #[Z7 (Z0 ⟨sb+1+1,0,Z1⟩),bL D L G (eQ x:Nat) (fQ x)] w' λe hd=>e=Z4 (Z2 #[.agg #[Z8 Z9 0,Z6 Z1 0 0],.bool ZY])/\bW w' hd:=λw' hb=>FB ((hb.block _ (T5.1 k7).1).trans k7) ((hb.block _ (T5.1 k8).1).trans k8) hx;have ka:bW w2 (w2.alloc (Z5 #[Z8 Z9 0,Z6 Z1 0 0] 206)):=bA w2 _;obtain ⟨d0,d1,d2,d3,d4⟩:=(l.mono ka).cells;have dp:=(g.keep λk a=>ka.block k (g.blt k a)).cell;have ke:=aE (T5.1 W.R7).1 (λk (a:oT sb qs k)=>W.blt k (Dp a)) hx;have q6:=l.size;have H:=aE l g hy;clear l g hy k7 k8 W ka hx;unfold bL at H ⊢;go_enter func145,ntmps145;go_upto_region 1 with fail;go_cut [6,7] from 10 to 18 (λv6 v7 wx=>v7=.bool ZY/\bW w2 wx)
 case first=>
  go_region_with (go_at_call 173;refine (H.o.2.2 _ ?_).mono ?_;(first|exact (T6 _ _).drew|exact ((T6 _ _).drew).alloc lR _);rintro e w3 ⟨rfl,B⟩;(try (have q3:w3.heap[w2.heap.size]?=Z0 (Z5 #[Z8 Z9 0,Z6 Z1 0 0] 206 (0,0)):=(B.block w2.heap.size (by simp)).trans (Uk w2.drew _);obtain ⟨r0,r1,g1,g0⟩:=ay q3;clear q3));have hv:bW w2 w3:=(by first|exact ((T6 _ w2).drew).trans B|exact ((bA w2 _).drew).trans (B.mono (by simp)));have P:=ak hv;clear B hv);all_goals (go_wp2_with fail;go_meet;case rel=>(refine ⟨rfl,?_⟩;first|exact P.o.alloc P.o.size _|exact (P.o.setCell (p:=⟨w2.heap.size,0,Z1⟩) lR _).setCell (p:=⟨w2.heap.size,1,Z1⟩) lR _))
 case rest=>
  clear c0 c1 S U V d0 d1 d2 d3 d4 dp q2;rename ZX=>w3;obtain ⟨rfl,B⟩:=hcut;obtain ⟨l,g,_⟩:=H.o;have f:=l.mono B;have K:=g.keep λk a=>B.block k (g.blt k a);obtain ⟨c0,c1,S,U,V⟩:=f.cells;have kb:=JN D L G (eQ x) hr hD1 hD hL hL4 hG hdiv h16 hl (fQ x) w3 (hT.mono (by omega) f.below) (TZ h2 f.below.size);unfold bL at kb;have P:=aE f K kb;clear l g f K kb B hT;go_wp2_with fail;refine P.o.2.2.mono ?_;rintro e d ⟨z,ao,m,c,er,rfl,M,kv⟩;clear c0 c1 S U V;obtain ⟨f,K,_⟩:=P.o;have q5:=f.size;rcases kv with ⟨rfl,rfl,rfl,rfl,rfl,ki⟩|⟨rfl,s,C,N,J,O,kj⟩
  . have kr:=ak ki;clear ki;have I:bW d (d.alloc (Z5 #[Z8 Z9 0,Z6 Z1 0 0] 206)):=bA d _;have u:=M.trans (I.mono M.size);have X:=(u.block (w.heap.size+1) (by omega)).trans f.res;have h:(d.alloc (Z5 #[Z8 Z9 0,Z6 Z1 0 0] 206)).heap[d.heap.size]?=Z0 (Z5 #[Z8 Z9 0,Z6 Z1 0 0] 206 (0,0)):=Uk _ _;obtain ⟨q0,q1,g1,g0⟩:=ay X;obtain ⟨r0,r1,_,_⟩:=ay h;have hg:bW w (d.alloc (Z5 #[Z8 Z9 0,Z6 Z1 0 0] 206)):=f.below.trans (u.mono f.below.size);have R:=al X hg;clear M I u X h hg f K;go_wp2;obtain ⟨X,hg⟩:=R.o;obtain ⟨n0,n1,_⟩:=ay (iX (y':=Z6 Z1 0 0) (iW (x':=Z8 Z9 0) X));refine Uv (v:=Z2 #[.agg #[Z8 Z9 0,Z6 Z1 0 0],.iface 66 (Z8 Z9 3)]) (by simp [results,results145,go_sem,n0,n1]) rfl ⟨0,Z1,0,0,_,rfl,.inl ⟨rfl,rfl,rfl,rfl,rfl,kr.out,?_⟩⟩;exact (hg.setCell (p:=⟨w.heap.size+1,0,Z1⟩) (by show w.heap.size<=w.heap.size+1;omega) _).setCell (p:=⟨w.heap.size+1,1,Z1⟩) (by show w.heap.size<=w.heap.size+1;omega) _
  have kp:=ak (show w.heap.size+2<=w3.heap.size/\w3.heap.size<=d.heap.size from ⟨f.size,M.size⟩);have I:bW d (d.alloc (Z5 #[Z8 Z9 z,.slice ao m c] 206)):=bA d _;have u:=M.trans (I.mono M.size);have j:=f.mono u;have A:=K.keep λk a=>u.block k (K.blt k a);have kk:=A.cell;have h:(d.alloc (Z5 #[Z8 Z9 z,.slice ao m c] 206)).heap[d.heap.size]?=Z0 (Z5 #[Z8 Z9 z,.slice ao m c] 206 (0,0)):=Uk _ _;have y:=an kj I;obtain ⟨i,kc⟩:=nM (d.alloc (Z5 #[Z8 Z9 z,.slice ao m c] 206));rw [kc] at I u j A kk h y;obtain ⟨c0,c1,S,U,V⟩:=j.cells;obtain ⟨r0,r1,_,_⟩:=ay h;have Z:=RE (w:=i.drew) (A.keep λ_ _=>rfl) ke.out.2.2 (show i.drew.ownsRow 0 299 4 (.slice ao m c) (bZ D L G s C).length (eG .u8 (bZ D L G s C)) from gx (an y (T6 _ i).drew) (T7 _)) N J;rw [<- O] at Z;unfold bL at Z;have R:=hide8 j A h y Z N J O;clear kj M I u j A h y Z f K N J O;go_upto_region 6 with fail;go_cut [34] from 28 to 33 (λ_v wx=>(∃ r b,gP wx sb room D L G r b/\∀ q∈b,q∈qs\/q=⟨x,i.drew.heap.size+1+1,s,C,ao,m,c⟩)/\aa (λk=>oT sb qs k\/k=sb+1) i.drew wx)
  case first=>
   go_region_with (go_at_call 175;refine R.o.2.2.2.2.1.mono ?_;rintro e w6 ⟨rfl,t,hs⟩;have H6:=al t hs;clear t hs);all_goals (go_wp2_with fail;go_meet;case rel=>exact H6.o)
  case rest=>
   rename ZX=>w6;clear c0 c1 S U V r0 r1 kk;obtain ⟨⟨r,b,t,k5⟩,hs⟩:=hcut;obtain ⟨j,A,h,y,_,N,J,O⟩:=R.o;have F:aa (λk=>oT sb qs k\/k=sb+1) i w6:=(aa.drew i).trans hs;obtain ⟨ko,kg,_⟩:=ke.out;have km:=j.size;have kz:d.heap.size<i.heap.size:=(T5.1 h).1;have kf:=kp.out;have k6:∀ k,w.heap.size<=k->¬ (oT sb qs k\/k=sb+1):=λk h1 q=>by
    rcases q with q|q
    . have:=kg k q;omega
    . omega
   have E:=(F.block (w.heap.size+1) (by omega) (k6 _ (by omega))).trans j.res;have kh:=(F.block d.heap.size kz (k6 _ (by omega))).trans h;have Q:w6.ownsRow w3.heap.size 299 4 (.slice ao m c) (bZ D L G s C).length (eG .u8 (bZ D L G s C)):=bR y F (λk a q=>k6 k (by have:=dK y a;omega) q);obtain ⟨q0,q1,g1,g0⟩:=ay E;obtain ⟨r0,r1,_,_⟩:=ay kh;have q7:i.drew.heap.size=i.heap.size:=rfl;have Y:∀ q∈b,q∈qs\/(w.heap.size<=q.nb/\∀ k,(Value.slice q.ao q.m q.c).ownBlock=Z0 k->w.heap.size<=k):=λq hq=>(k5 q hq).imp id λe=>by
    subst e;exact ⟨by show w.heap.size<=i.drew.heap.size+1+1;omega,λk a=>by have:=dK Q a;omega⟩
   have H6:=hide9 E t Q F Y km ko kf A.blt;clear t k5 Y hs j A h y F E kh Q N J O kg k6;go_wp2;obtain ⟨E,t,Q,F,Y,km,ko,kf,ks⟩:=H6.o;obtain ⟨n0,n1,_⟩:=ay (iX (y':=.slice ao m c) (iW (x':=Z8 Z9 z) E));have k9:aa (λk=>k=w.heap.size+1) w6 ((w6.setCell ⟨w.heap.size+1,0,Z1⟩ (Z8 Z9 z)).setCell ⟨w.heap.size+1,1,Z1⟩ (.slice ao m c)):=ix w6 (w.heap.size+1) 0 1 _ _;refine Uv (v:=Z2 #[.agg #[Z8 Z9 z,.slice ao m c],.nilIface]) (by simp [results,results145,go_sem,n0,n1]) rfl ?_;obtain ⟨j,_,_,_,_,N,J,O⟩:=R.o;have kx:∀ k,O7 sb b k->k≠w.heap.size+1:=λk a e=>by
    obtain ⟨cs,T,zz,ky⟩:∃ cs T zz,w6.heap[k]?=Z0 (Z5 cs T zz):=⟨_,_,_,by rw [e];exact E⟩;rw [e,E] at ky;have:=(m8 sb room D L G r b 0).kd w6 t k a _ _ _ (by rw [e];exact E);exact absurd this (by unfold rM;decide)
   exact ⟨z,ao,m,c,_,rfl,.inr ⟨rfl,s,C,r,b,N,J,O,gx (bR Q k9 (λk a q=>by have:=dK Q a;omega)) (by omega),t.keep λk a=>k9.block k (t.blt k a) (kx k a),Y,(aa.after j.below F).later k9 (λk a q=>by omega)⟩⟩
end
end
section
def PnA (D L G:Nat) (Kind:bf->Prop) (ps:bf) (lost:Nat) (w:ZX) (e:Ending) (w':ZX):Prop:=(e=uG/\¬ gW D L G lost/\bW w w')\/∃ (ps':bf) (s:Nat) (C:Ck) (ao:Option Addr) (m c:Nat),nD D L G s ao m c e/\DT D L G Kind ps ps' lost s C ao m c w.heap.size w'/\aa ps.bl w w'
section
variable (D L G:Nat) (hr:dg D L G=ZZ) (hD1:1<=D) (hD:D<=12) (hL:1<=L) (hL4:L<=4) (hG:G<=4) (hdiv:D%L=0) (h16:D+L+G<=16)
include hr hD1 hD hL hL4 hG hdiv h16
def M8 {x:Nat} (hl:eQ x<2^(D+L+G)) {w:ZX} {sb:Nat} {room:Int} {ps:bf} (hK:m9 sb room D L G ps) (F:ps.S w) (H:aJ w) (b:3<=w.heap.size):ZV ZU 145 #[Z7 (Z0 ⟨ps.ps,0,Z1⟩),bL D L G (eQ x:Nat) (fQ x)] w (PnA D L G (m9 sb room D L G) ps (eQ x) w):=by
 obtain ⟨h,O,ho,rfl⟩:=hK;have u:gP w sb room D L G h O:=F;by_cases v:x∈cT h
 . obtain ⟨q,a,i,M,o,K⟩:=MR u v;refine K.mono ?_;rintro e w' ⟨A,b,j⟩;have l:=(o q).2 i;exact .inr ⟨m8 sb room D L G h a ho,q.s,q.C,q.ao,q.m,q.c,A,⟨⟨h,a,ho,rfl⟩,rfl,rfl,b,λk d=>.inl (Dq o d),λk d=>.inl (.inr (.inr ⟨q,i,d⟩)),b.own q l,M▸b.TL q l,b.told q l⟩,j.mono λk _ e=>Dp e⟩
 . refine (M7 D L G x hr hD1 hD hL hL4 hG hdiv h16 hl u v H b).mono ?_;rintro e w' ⟨z,ao,m,c,er,rfl,⟨rfl,rfl,rfl,rfl,rfl,I,J⟩|⟨rfl,s,C,g,a,b,j,rfl,r,B,t,E⟩⟩
   . exact .inl ⟨rfl,I,J⟩
   refine .inr ⟨m8 sb room D L G g a ho,s,C,ao,m,c,rfl,⟨⟨g,a,ho,rfl⟩,rfl,rfl,B,λk d=>?_,λk d=>.inr (dK r d),gx r (T7 _),b,j⟩,E.mono λk _ e=>?_⟩
   . rcases d with q|q|⟨q,i,y⟩
     . exact .inl (.inl q)
     . obtain ⟨p,N,n⟩:=Ua.1 q;rcases t p N with f|f
       . exact .inl (.inr (.inl (Ua.2 ⟨p,f,n⟩)))
       . exact .inr (n▸f.1)
     . rcases t q i with f|f
       . exact .inl (.inr (.inr ⟨q,f,y⟩))
       . exact .inr (f.2 k y)
   . rcases e with e|e
     . exact Dp e
     . exact .inl (by omega)
theorem yR {ps:bf} (hK:m9 sb room D L G ps) {w:ZX} (N:ps.S w) (X:aJ w) (i:3<=w.heap.size) {l:Nat} (Z:l<2^(D+L+G)) {f:FuncId} {b:Bool} (hf:(f=168/\b=ZZ)\/(f=113/\b=ZY)):ZV ZU f #[Z7 (Z0 ⟨ps.ps,0,Z1⟩),.agg #[Z8 Z9 D,Z8 Z9 L,Z8 Z9 G],Z8 .u64 l] w (PnA D L G (m9 sb room D L G) ps l w):=by
 have a:=CI.new w D L G;have j:((w.alloc (Z5 #[Z8 Z9 (D:Int),Z8 Z9 (L:Int),Z8 Z9 (G:Int)] 27)).alloc (Z5 #[Z8 Z9 0,Z6 Z1 0 0] 206)).heap.size=w.heap.size+2:=by simp
 obtain ⟨w2,T⟩:=nM ((w.alloc (Z5 #[Z8 Z9 (D:Int),Z8 Z9 (L:Int),Z8 Z9 (G:Int)] 27)).alloc (Z5 #[Z8 Z9 0,Z6 Z1 0 0] 206));rw [T] at a j;obtain ⟨c0,c1,V⟩:=fy a.par;have Q:eQ (2*l+b.toNat)=l:=by cases b<;>simp [eQ]<;>omega
 have W:fQ (2*l+b.toNat)=b:=by cases b<;>simp [fQ]<;>omega
 have O:=M8 D L G hr hD1 hD hL hL4 hG hdiv h16 (x:=2*l+b.toNat) (by rw [Q];exact Z) hK (ps.keep _ _ N λk d=>a.below.block k (ps.lt _ N k d)) (X.mono (by omega) a.below) (TZ i a.below.size);rw [Q,W] at O;unfold bL at O;have H:=a5 a j O (ps.lt _ N);clear a j O N X Z Q W;rcases hf with ⟨rfl,rfl⟩|⟨rfl,rfl⟩;go_enter func168,ntmps168;rotate_left
 go_enter func113,ntmps113;all_goals (
  go_wp2_with fail;refine H.o.2.2.1.mono ?_;rintro e w3 (⟨rfl,hq,A⟩|⟨h,s,C,ao,m,c,Y,hP,y⟩)
  . unfold uG;have hs:=ak hq;clear hq;obtain ⟨a,j,_,B⟩:=H.o;have g:=(A.block (w.heap.size+1) (by omega)).trans a.res;obtain ⟨r0,r1,g1,g0⟩:=ay g;have P:=al g (a.below.trans (A.mono a.below.size));clear A g c0 c1 V T a;go_wp2;obtain ⟨g,A⟩:=P.o;obtain ⟨n0,U,_⟩:=ay (iX (y':=Z6 Z1 0 0) (iW (x':=Z8 Z9 0) g));refine Uv (v:=Z2 #[.agg #[Z8 Z9 0,Z6 Z1 0 0],.iface 66 (Z8 Z9 3)]) (by simp [results,results168,results113,go_sem,n0,U]) rfl (.inl ⟨rfl,hs.out,?_⟩);exact (A.setCell (p:=⟨w.heap.size+1,0,Z1⟩) (by show w.heap.size<=w.heap.size+1;omega) _).setCell (p:=⟨w.heap.size+1,1,Z1⟩) (by show w.heap.size<=w.heap.size+1;omega) _
  . obtain ⟨F,i,I,r,t,u,J,K,M⟩:=hP;unfold nD at Y;subst Y;obtain ⟨z,E⟩:∃ z:Int,1+((ab (aw (D+L+G) s)).length:Int)=z:=⟨_,rfl⟩;rw [E];obtain ⟨a,j,_,B⟩:=H.o;have g:=(y.block (w.heap.size+1) (by omega) (λq=>by have:=B _ q;omega)).trans a.res;obtain ⟨r0,r1,g1,g0⟩:=ay g;have P:=hide12 F i I r t u J K M y g E;clear F i I r t u J K M y g c0 c1 V T E a;go_wp2;obtain ⟨F,i,I,r,t,u,J,K,M,y,g,E⟩:=P.o;obtain ⟨a,j,_,B⟩:=H.o;obtain ⟨n0,U,_⟩:=ay (iX (y':=.slice ao m c) (iW (x':=Z8 Z9 z) g));have R:aa (λk=>k=w.heap.size+1) w3 ((w3.setCell ⟨w.heap.size+1,0,Z1⟩ (Z8 Z9 z)).setCell ⟨w.heap.size+1,1,Z1⟩ (.slice ao m c)):=ix w3 (w.heap.size+1) 0 1 _ _;have hv:∀ k,h.bl k->k≠w.heap.size+1:=λk d=>by rcases t k d with q|q;have:=B k q;omega;omega
    refine Uv (v:=Z2 #[.agg #[Z8 Z9 z,.slice ao m c],.nilIface]) (by simp [results,results168,results113,go_sem,n0,U]) rfl ?_;have n:=(y.mono λ_ _ q=>(.inl q:_\/_)).trans (R.mono λk _ q=>(.inr q:ps.bl k\/_));refine .inr ⟨h,s,C,ao,m,c,by unfold nD;rw [E],⟨F,i,I,h.keep _ _ r λk d=>R.block k (h.lt _ r k d) (hv k d),λk d=>?_,λk d=>?_,bR J R λk d q=>?_,K,M⟩,⟨n.os.trans a.below.os,n.tape.trans a.below.tape,n.output.trans a.below.output,TZ a.below.size n.size,λk d hn=>(n.block k (by have:=a.below.size;omega) (λq=>q.elim hn (by omega))).trans (a.below.block k d)⟩⟩
    . rcases t k d with q|q
      . exact .inl q
      . exact .inr (by omega)
    . rcases u k d with q|q
      . exact .inl q
      . exact .inr (by omega)
    . rcases u k d with q'|q'
      . have:=B k q';omega
      . omega)
end
end
section
structure vq (w:ZX) (r v b g N p D L G:Nat) (Kind:bf->Prop) (ps:bf) (A:aC) (F:aH) (dl:a8):Prop where
 vol:pH w v p D L G ps.ps ps.ho A F
 nN:N=D+L+G
 hol:ps.ho<2^N
 kit:ps.S w
 kind:Kind ps
 apt:∀ k,ps.bl k->3<=k/\k≠v/\¬ F.S k
 vr:v≠r
 vg:v≠g
 rg:r≠g
 gF:¬ F.S g
 rF:¬ F.S r
 rK:3<=r
 vK:3<=v
 gK:3<=g
 nb:b<A.nb
 cw:A.at b (shF D L G dl)
 len:dl.length<=D*44
 byt:∀ x∈dl,x<256
 fine:A.fine D L G
structure rP (w0:ZX) (r v b g N p D L G:Nat) (A:aC) (F:aH) (Kind:bf->Prop) (ps ps1:bf) (dl:a8) (sp gone hl:Nat) (ds:a8) (f:Nat->ZW) (w:ZX):Prop where
 rd:eY w r v b g N gone sp
 vol:pH w v p D L G ps.ps hl A F
 row:w.rowIs g 40 N f
 kn:Kn w w0.heap.size AG f (DQ D L G dl) ds
 kit:ps1.S w
 kind:Kind ps1
 psE:ps1.ps=ps.ps
 bl:∀ k,ps1.bl k->ps.bl k\/w0.heap.size<=k
 out:aa (λk=>k=g\/k=r\/k=v\/F.S k\/ps.bl k) w0 w
 okd:∀ i∈ds,gnB A b i=ZY/\i<N
 gol:gone<2^N
 hll:hl<2^N
 spl:sp<2^N
 gb:∀ i,gone.testBit i=ZZ->gnB A b i=ZZ
 seen:dA F A.n w0 w λi=>if i∈ds\/gone.testBit i=ZZ then 1 else 0
section
variable {w0 w w':ZX} {r v b g N p D L G:Nat} {Kind:bf->Prop} {ps ps1:bf} {A:aC} {F:aH} {dl:a8} {sp gone hl:Nat} {ds:a8} {f:Nat->ZW}
def rP.apart (h:rP w0 r v b g N p D L G A F Kind ps ps1 dl sp gone hl ds f w) (hs:vq w0 r v b g N p D L G Kind ps A F dl) (hr:r<w0.heap.size) (i:g<w0.heap.size) (c:¬ ps.bl r) (a:¬ ps.bl g) (k:Nat) (d:ps1.bl k):3<=k/\k≠v/\k≠r/\k≠g/\¬ F.S k:=by
 rcases h.bl k d with q|q
 . exact ⟨(hs.apt k q).1,(hs.apt k q).2.1,λe=>c (e▸q),λe=>a (e▸q),(hs.apt k q).2.2⟩
 . have:=hs.vol.vol.lt;have:=hs.vol.room;exact ⟨by omega,by omega,by omega,by omega,λe=>by have:=hs.vol.arr.RS e;omega⟩
def pH.Tv (h:pH w v p D L G q ho A F) {T:Nat->Prop} (a:aa T w w') (b:∀ k,T k->3<=k/\k≠v/\¬ F.S k):pH w' v p D L G q ho A F:=by
 exact { h with vol:=h.vol.keep (a.block _ h.vol.lt λq=>(b _ q).2.1 rfl),arr:=h.arr.keep (λk c=>a.block k (h.arr.RS c) λq=>(b k q).2.2 c),laid:=h.laid.keep (a.block _ h.laid.lt λq=>by have:=(b _ q).1;omega),tab:=h.tab.keep (a.block _ h.tab.lt λq=>by have:=(b _ q).1;omega),room:=TZ h.room a.size }
def rP.SY (h:rP w0 r v b g N p D L G A F Kind ps ps1 dl sp gone hl ds f w) (c:∀ k,ps1.bl k->3<=k/\k≠v/\k≠r/\k≠g/\¬ F.S k) {ps2:bf} (a:aa ps1.bl w w') (l:ps2.S w') (hK:Kind ps2) (o:ps2.ps=ps1.ps) (s:∀ k,ps2.bl k->ps1.bl k\/w.heap.size<=k):rP w0 r v b g N p D L G A F Kind ps ps2 dl sp gone hl ds f w':=by
 have u:=h.out.size;refine { h with rd:=h.rd.keep (a.block _ h.rd.lt λq=>(c _ q).2.2.1 rfl),vol:=h.vol.Tv a λk q=>⟨(c k q).1,(c k q).2.1,(c k q).2.2.2.2⟩,row:=h.row.of_block (a.block _ h.row.lt λq=>(c _ q).2.2.2.1 rfl),kn:=⟨h.kn.1,λi t=>?_⟩,kit:=l,kind:=hK,psE:=o.trans h.psE,seen:=h.seen.out h.vol.arr a λq=>(c _ q).2.2.2.2 h.vol.arr.sg,bl:=λk q=>(s k q).elim (h.bl k) λe=>.inr (TZ u e),out:=h.out.later (a.mono λk _ q=>h.bl k q) ?_ }
 . obtain ⟨bl,m,n,d,j⟩:=h.kn.2 i t;exact ⟨bl,m,n,T9 d a.size,(a.block bl d (cP h.kit j MT)).trans j⟩
 . intro k l q;rcases q with q|q
   . exact .inr (.inr (.inr (.inr q)))
   . omega
def M9 {i:Nat} (h:gnB A b i=ZZ):A.S6 i:=by
 unfold gnB at h;simp only [Xg] at h;exact h.elim (λh=>h.imp id λh=>⟨b,.inl h⟩) λh=>.inr ⟨b,.inr h⟩
def JO (T gone sp:Nat) (ds:a8):(OQ T gone sp ds).Nodup:=(List.nodup_range.filter _).filter _
def vt (h:rP w0 r v b g N p D L G A F Kind ps ps1 dl sp gone hl ds f w) (hs:vq w0 r v b g N p D L G Kind ps A F dl) (hr:r<w0.heap.size) (u:g<w0.heap.size) (W:¬ ps.bl r) (V:¬ ps.bl g) (T:Nat) (R:T<65536) (l:∀ i,i∈ab T->i<N) :
 ZV ZU 111 #[Z7 (Z0 ⟨r,0,Z1⟩),Z8 .u64 T] w λe w'=>e=Z4 (Z2 #[])/\∃ C Y,rP w0 r v b g N p D L G A F Kind ps ps1 dl sp (gone|||kD (gnB A b) (OQ T gone sp ds)) Y (ds++DS A b (OQ T gone sp ds)) C w'/\aa (λk=>k=g\/k=r\/k=v\/F.S k) w w':=by
 have U:=h.apart hs hr u W V;have:=hs.vol.n;have Q:=hs.nN;have m:N<=16:=by rw [Q];exact hs.vol.par.s
 have:2^N<=65536:=m6 m;have J:=h.gol;have:=h.spl;have:=hs.gK;have:=hs.rK;have:=hs.vK;have o:∀ i∈OQ T gone sp ds,i<N:=λi a=>l i ((sB (by omega) (by omega)).1 a).1;refine (Je (ds:=ds) (M:=DQ D L G dl) h.vol hs.nb (λi a=>⟨hs.cw i a,(Ad hs.vol.par dl (by omega)).1⟩) h.rd h.row h.kn T R (by omega) (by omega) (λi a=>⟨l i a,by have:=l i a;omega⟩) h.hll m hs.vr hs.rK hs.vK hs.gF hs.rF hs.rg hs.vg hs.gK h.out.size u hr hs.vol.vol.lt (λk j=>hs.vol.arr.RS j)).mono ?_;rintro e w' ⟨rfl,hm,⟨Z,O,hp⟩,⟨E,I,K⟩,H,c,P⟩;refine ⟨rfl,E,Z,{ h with rd:=hm,hll:=O,seen:=(h.seen.trans P).mono λi _=>?seen,vol:={ h.vol with vol:=hp,arr:=H,laid:=h.vol.laid.keep (c.block _ h.vol.laid.lt λq=>?_),tab:=h.vol.tab.keep (c.block _ h.vol.tab.lt λq=>?_),room:=TZ h.vol.room c.size },row:=I,kn:=K,kit:=ps1.keep _ _ h.kit λk j=>c.block k (ps1.lt _ h.kit k j) (λq=>?_),out:=h.out.trans (c.mono λk _ q=>q.imp_right λq=>q.imp_right λq=>q.imp_right .inl),okd:=λi a=>?_,gol:=WG J (xM _ _ o),gb:=λi q=>?_ },c⟩
 case seen=>
  have X:i∈OQ T gone sp ds↔_:=sB (by omega) (by omega);show _+(OQ T gone sp ds).count i<=_;rw [(JO T gone sp ds).count];by_cases q:i∈OQ T gone sp ds
  . obtain ⟨_,q1,_,d⟩:=X.1 q;rw [TW (by rw [q1];simp [d]),TX q];refine (TX ?_).symm▸TY 1;cases hb:gnB A b i
    . exact .inl (VY _ (mJ.2 ⟨q,hb⟩))
    . exact .inr (by rw [VZ,(oH _ i _).2 ⟨q,hb⟩,Bool.or_true])
  . rw [TW q];by_cases d:i∈ds\/gone.testBit i=ZZ
    . rw [TX d,TX (d.imp (UO _) λe=>by rw [VZ,e,Bool.true_or])];exact TY 1
    . rw [TW d];exact T7 _
 . rcases q with q|q|q|q
   . omega
   . omega
   . omega
   . exact hs.vol.g q
 . rcases q with q|q|q|q
   . omega
   . omega
   . omega
   . exact hs.vol.t q
 . obtain ⟨_,x,y,z,B⟩:=U k j;rcases q with q|q|q|q
   . exact z q
   . exact y q
   . exact x q
   . exact B q
 . rcases Un.1 a with q|q
   . exact h.okd i q
   . exact ⟨(mJ.1 q).2,o i (mJ.1 q).1⟩
 . rw [VZ,Xg] at q;exact q.elim (h.gb i) λq=>((oH _ i _).1 q).2
end
end
section
def FS (N sp gone:Nat):Nat:=(if sp=0 then 0 else 1)+(2^N-gone)
def O9 {a:Nat} (h:a|||b≠a):a<a|||b:=Nat.lt_of_le_of_ne YG (Vo h)
def aaT (f:FuncId) (D L G:Nat) (Kind:bf->Prop):Prop:=∀ (ps:bf),Kind ps->∀ (w:ZX),ps.S w->aJ w->3<=w.heap.size->∀ lost:Nat,lost<2^(D+L+G) ->
 ZV ZU f #[Z7 (Z0 ⟨ps.ps,0,Z1⟩),.agg #[Z8 Z9 D,Z8 Z9 L,Z8 Z9 G],Z8 .u64 lost] w (PnA D L G Kind ps lost w)
def sD (D L G:Nat) (Kind:bf->Prop):Prop:=aaT 168 D L G Kind/\aaT 113 D L G Kind
structure Pa (w:ZX) (r v b g N p D L G:Nat) (Kind:bf->Prop) (ps:bf) (A:aC) (F:aH) (dl M:a8) (e:Ending) (w':ZX):Prop where
 rd:∃ gone sp,eY w' r v b g N gone sp
 row:∃ f,w'.rowIs g 40 N f/\e=Z4 .nilIface/\∀ i∈M,∃ bl c,f i=Z6 (Z0 ⟨bl,0,Z1⟩) 44 c/\bl<w'.heap.size/\w'.rangeAt bl 0 (aI (DQ D L G dl i))
 kit:∃ (ps1:bf) (hl:Nat),Kind ps1/\ps1.ps=ps.ps/\ps1.S w'/\bt w' v p D L G ps.ps hl/\hl<2^N/\∀ k,ps1.bl k->ps.bl k\/w.heap.size<=k
 arr:az w' p A F
 out:aa (λk=>k=g\/k=r\/k=v\/F.S k\/ps.bl k) w w'
 seen:dA F A.n w w' λ_=>1
def RM (D L G:Nat) (Kind:bf->Prop) (ps:bf) (l1:Nat) (w1:ZX) (v6 v7:ZW) (wx:ZX):Prop:=(v7=.iface 66 (Z8 Z9 3)/\¬ gW D L G l1/\bW w1 wx)\/RF D L G Kind ps l1 w1 v6 v7 wx
def C2A (D L G:Nat) (Kind:bf->Prop) (ps1:bf) (l1:Nat) (w' w3:ZX) (z:Int) (ao:Option Addr) (m c:Nat) (er:ZW):Prop:=(er=.iface 66 (Z8 Z9 3)/\¬ gW D L G l1/\bW w' w3)\/(er=.nilIface/\∃ ps' s C,z=1+((ab (aw (D+L+G) s)).length:Int)/\DT D L G Kind ps1 ps' l1 s C ao m c w'.heap.size w3/\aa ps1.bl w' w3)
def FT {Kind:bf->Prop} {ps1:bf} (h:(e=uG/\¬ gW D L G l1/\bW w' w3)\/∃ a s C ao m c,nD D L G s ao m c e/\DT D L G Kind ps1 a l1 s C ao m c w'.heap.size w3/\aa ps1.bl w' w3) :
 ∃ z ao m c er,e=Z4 (Z2 #[.agg #[Z8 Z9 z,.slice ao m c],er])/\aa ps1.bl w' w3/\cJ (C2A D L G Kind ps1 l1 w' w3 z ao m c er):=by
 rcases h with ⟨d,g,b⟩|⟨a,s,C,ao,m,c,d,b,f⟩
 . exact ⟨0,Z1,0,0,_,d,aa.RT b _,ak (.inl ⟨rfl,g,b⟩)⟩
 . exact ⟨_,ao,m,c,_,d,f,ak (.inr ⟨rfl,a,s,C,rfl,b,f⟩)⟩
def JP {Kind:bf->Prop} {ps1:bf} (h:C2A D L G Kind ps1 l1 w' w3 z ao m c er) (a:bW w1 w') (g:w'.heap.size=w1.heap.size):RM D L G Kind ps1 l1 w1 (Z7 (Z0 ⟨w3.heap.size,0,Z1⟩)) er (w3.alloc (Z5 #[Z8 Z9 z,.slice ao m c] 206)):=by
 rcases h with ⟨rfl,b,h⟩|⟨rfl,f,s,C,rfl,d,e⟩
 . exact .inl ⟨rfl,b,(a.trans (h.mono a.size)).alloc (by have:=h.size;omega) _⟩
 . exact .inr (JA (d.mono (by omega)) a e)
def FU {Kind:bf->Prop} {ps1:bf} {w2:ZX} (h:C2A D L G Kind ps1 l1 (w2.alloc (Z5 #[Z8 Z9 0,Z6 Z1 0 0] 206)) w3 z ao m c er) (hl:∀ k,ps1.bl k->k<w1.heap.size) (g:w2.heap.size=w1.heap.size) (b:bW w1 w2):RM D L G Kind ps1 l1 w1 (Z7 (Z0 ⟨w1.heap.size,0,Z1⟩)) er ((w3.setCell ⟨w1.heap.size,0,Z1⟩ (Z8 Z9 z)).setCell ⟨w1.heap.size,1,Z1⟩ (.slice ao m c)):=by
 have a:bW w1 (w2.alloc (Z5 #[Z8 Z9 0,Z6 Z1 0 0] 206)):=b.alloc (by omega) _;rcases h with ⟨rfl,e,h⟩|⟨rfl,i,s,C,rfl,d,f⟩
 . exact .inl ⟨rfl,e,((a.trans (h.mono a.size)).setCell (p:=⟨w1.heap.size,0,Z1⟩) lR _).setCell (p:=⟨w1.heap.size,1,Z1⟩) lR _⟩
 . exact .inr (FE (d.mono (by rw [Uw];omega)) hl g b f)
def KnG (w0:ZX) (r v b g N p D L G:Nat) (A:aC) (F:aH) (Kind:bf->Prop) (ps:bf) (dl:a8) (wr:ZX):Prop:=
 ∃ sp gone hl ds f ps1,rP w0 r v b g N p D L G A F Kind ps ps1 dl sp gone hl ds f wr
def rP.Tb {Kind:bf->Prop} {ps ps1:bf} {hl:Nat} (h:rP w0 r v b g N p D L G A F Kind ps ps1 dl sp gone hl ds f w) (hs:vq w0 r v b g N p D L G Kind ps A F dl) (hr:r<w0.heap.size) (u:g<w0.heap.size) (s:¬ ps.bl r) (o:¬ ps.bl g):rP w0 r v b g N p D L G A F Kind ps ps1 dl 0 gone hl ds f (w.setCell ⟨r,4,Z1⟩ (Z8 .u64 0)):=by
 have t:=h.apart hs hr u s o;have a:aa (λk=>k=r) w (w.setCell ⟨r,4,Z1⟩ (Z8 .u64 0)):=aa.setCell _ _ _ rfl;refine { h with rd:=af (j:=4) h.rd _,vol:=h.vol.Tv a λk e=>e▸⟨hs.rK,hs.vr.symm,hs.rF⟩,row:=h.row.of_block (a.block _ h.row.lt λq=>hs.rg q.symm),kn:=⟨h.kn.1,λi x=>?_⟩,kit:=ps1.keep _ _ h.kit λk d=>a.block k (ps1.lt _ h.kit k d) λq=>(t k d).2.2.1 q,out:=h.out.trans (a.mono λk _ q=>.inr (.inl q)),spl:=Nat.pow_pos (by decide),seen:=h.seen.out h.vol.arr a λe=>hs.rF (e▸h.vol.arr.sg) };obtain ⟨bl,l,m,c,n⟩:=h.kn.2 i x;exact ⟨bl,l,m,T9 c a.size,(a.block bl c (by omega)).trans n⟩
theorem Na {Kind:bf->Prop} {ps ps1 ps2:bf} {hl:Nat} {s B:Nat} {C:Ck} (hs:vq w0 r v b g N p D L G Kind ps A F dl) (j:rP w0 r v b g N p D L G A F Kind ps ps2 dl sp gone hl ds f w) (h:DT D L G Kind ps1 ps2 l1 s C ao m c B w) (S:l1≠0) (O:l1<2^N) (T:∀ i,(zX (bZ D L G s C)).testBit i=ZZ->i<N/\i∈ds) (E:1+((ab (aw (D+L+G) s)).length:Int)=z) :
 ZV ZU 114 #[Z7 (Z0 ⟨r,0,Z1⟩),.agg #[Z8 Z9 z,.slice ao m c]] w λe w'=>e=Z4 .nilIface/\ML w r v b g N gone sp f (ab (aw (D+L+G) s)) (DQ D L G dl) w':=by
 have a:=hs.vol.par;have n:=Mj a.d a.l4 a.g a.s h.told;have K:=C3 a.d a.g a.s h.told;have W:(bZ D L G s C).length<=2000:=n.1.2.2;rw [E] at n;obtain ⟨l,o⟩:∃ i,l1.testBit i=ZZ:=Nat.exists_testBit_of_ne_zero S;have u:l<N:=by
  by_cases q:l<N
  . exact q
  . rw [Xb (T9 O (U9 (by decide) (by omega)))] at o;cases o
 have y:∀ i∈ds,(DQ D L G dl i).length=44/\∀ x∈DQ D L G dl i,x<256:=λi t=>Ad a dl (by have:=(j.okd i t).2;have:=hs.nN;omega);obtain ⟨I,J⟩:=OO (x:=OP N ds) (Dl:=AH N ds (DQ D L G dl)) (dl:=dY D dl) a.d1 a.d a.g a.div a.s h.told (by rw [<- hs.nN];exact u) (h.TL l o) (CN hs.byt).1 (CN hs.byt).2 (λi t=>by
  obtain ⟨V,k⟩:=T i t;rw [Db V,TX k];exact ⟨rfl,Fl λe=>((uF N ds i).1 e).2 k⟩)
 have P:(ab (aw (D+L+G) s)).length<=16:=TZ (WM _ _) (by simp);have H:ab (aw (D+L+G) s)≠[]:=λq=>by
  have:l∈ab (aw (D+L+G) s):=(cd a.s).2 ⟨by rw [<- hs.nN];exact u,h.TL l o⟩;rw [q] at this;cases this
 have U:z.toNat=1+(ab (aw (D+L+G) s)).length:=by rw [<- E];omega
 exact MM (M:=ab (aw (D+L+G) s)) (R:=DQ D L G dl) j.rd j.row hs.rg (G2 h.own (by omega)) K (aaK j.row y j.kn) (Da N ds (DQ D L G dl)) (Jf y) (by omega) (by rw [<- hs.nN] at n;exact n) I (by rw [U];exact J) H (λd Q=>by rw [hs.nN];exact ((cd a.s).1 Q).1) P
section
variable {w:ZX} {r v b g N p D L G:Nat} {Kind:bf->Prop} {ps:bf} {A:aC} {F:aH} {dl:a8} (hs:vq w r v b g N p D L G Kind ps A F dl) (hSh:sD D L G Kind)
include hs hSh
theorem Nb (hr:eY w r v b g N 0 ps.ho) (kc:w.rowIs g 40 N AG) (S:Nat) (hS:S<65536) (qz:∀ i,i∈ab S->i<D) :
 ZV ZU 134 #[Z7 (Z0 ⟨r,0,Z1⟩),Z8 .u64 S] w λe w'=>Pa w r v b g N p D L G Kind ps A F dl (ab S) e w':=by
 have qb:N<=16:=by rw [hs.nN];exact hs.vol.par.s
 have y0:2^N<=65536:=m6 qb;have xh:∀ i,i∈ab S->i<N:=λi I=>by have:=qz i I;rw [hs.nN];omega
 have u:=cP hs.kit hr yL;have f:¬ ps.bl g:=by obtain ⟨cs,h1,_⟩:=kc;exact cP hs.kit h1 uT
 have h0:KnG w r v b g N p D L G A F Kind ps dl w:=⟨ps.ho,0,ps.ho,[],AG,ps,⟨hr,hs.vol,kc,Kn.nil _ _ _ _,hs.kit,hs.kind,rfl,λk q=>.inl q,aa.refl _ _,λi q=>(by cases q),Nat.pow_pos (by decide),hs.hol,hs.hol,λi q=>(by rw [ab9] at q;cases q),(dA.same rfl).mono λ_ _=>T7 _⟩⟩;have W:=hide7 hs hSh hr.lt kc.lt u f h0;clear hs hSh hr kc u f h0;go_enter func134,ntmps134;go_wp2_with fail;go_loopw [5] (λ_ wr=>KnG w r v b g N p D L G A F Kind ps dl wr) (λ_ wr=>FS N (intOf ((wr.cell? ⟨r,4,Z1⟩).getD undef)).toNat (intOf ((wr.cell? ⟨r,3,Z1⟩).getD undef)).toNat)
 case atStart=>exact W.o.2.2.2.2.2.2
 case round=>
  obtain ⟨sp,gone,hl,ds,f0,ps1,hM⟩:=hrel;obtain ⟨hs,hSh,B,H,u,f,_⟩:=W.o;have qg:=vt hM hs B H u f S hS xh;have kx:FS N (intOf ((wr.cell? ⟨r,4,Z1⟩).getD undef)).toNat (intOf ((wr.cell? ⟨r,3,Z1⟩).getD undef)).toNat=FS N sp gone:=by
   obtain ⟨_,_,_,d3,d4⟩:=hM.rd.cells;rw [d3,d4];simp [intOf]
  have xn:=hM.gol;have qq:=hM.spl;have HM:=ak kx;obtain ⟨nw,qn⟩:=nM (OQ S gone sp ds);rw [qn] at qg;have HN:=ak qn;clear kx hM qn hs hSh B H u f;go_wp2_with fail;refine qg.mono ?_;rintro e w1 ⟨rfl,f1,h1,a,_⟩;clear qg;obtain ⟨d1,qf⟩:=nM (ds++DS A b nw);obtain ⟨g1,U⟩:=nM (gone|||kD (gnB A b) nw);rw [qf,U] at a;have P:∀ i,i∈ab S->(g1|||sp).testBit i=ZY->i∈d1:=λi I hb=>by
   rw [VZ,XO,<- U,VZ,XO] at hb;rw [<- qf];by_cases q:i∈ds
   . exact UO _ q
   . have x8:i∈nw:=(by rw [<- HN.o];exact (sB (by omega) (by omega)).2 ⟨I,hb.1.1,hb.2,q⟩);refine VY _ (mJ.2 ⟨x8,?_⟩);cases hq:gnB A b i
     . rfl
     . rw [(oH _ i nw).2 ⟨x8,hq⟩] at hb;cases hb.1.2
  have qh:=a.gol;have hc:gone<=g1:=by rw [<- U];exact YG
  have xv:=aaO g1 sp (by omega) (by omega);have kh:g1|||sp<2^N:=WG qh qq;obtain ⟨e0,_,_,e3,e4⟩:=a.rd.cells;obtain ⟨l1,R⟩:=nM (g1|||sp);rw [R] at xv kh P;have qc:=fI S l1 (by omega) (by omega);have V:=a6 a P hc R U;clear a P hc R qf U;by_cases hz:S &&& l1=0
  . have xd:bits .and .u64 (S:Int) (l1:Int)=0:=(by rw [qc,hz];rfl);go_wp2_with fail;go_region;go_wp2;go_ret;obtain ⟨a,P,_⟩:=V.o;refine ⟨⟨_,_,a.rd⟩,⟨f1,a.row,rfl,λi I=>?_⟩,⟨ps1,h1,a.kind,a.psE,ps1.keep _ _ a.kit (λ_ _=>rfl),a.vol.vol,a.hll,a.bl⟩,a.vol.arr.keep λ_ _=>rfl,a.out.trans (aa.drew _),(a.seen.keep rfl).mono λi _=>by split<;>decide⟩;obtain ⟨bl,q1,Z,K,q4⟩:=a.kn.2 i (P i I (Jy hz (cZ.1 I).2));exact ⟨bl,44,q1,K,qW q4⟩
  . have xd:(bits .and .u64 (S:Int) (l1:Int)==0)=ZY:=by
     rw [qc];generalize S &&& l1=q at hz;simp;omega
    have xo:l1≠0:=λe=>hz (by rw [e,Nat.and_zero]);have xc:∀ w',bW w1 w'->ZV ZU 168 #[Z7 (Z0 ⟨ps.ps,0,Z1⟩),.agg #[Z8 Z9 D,Z8 Z9 L,Z8 Z9 G],Z8 .u64 l1] w' λe qr=>(e=uG/\¬ gW D L G l1/\bW w' qr)\/∃ ya s C ao m c,nD D L G s ao m c e/\DT D L G Kind ps1 ya l1 s C ao m c w'.heap.size qr/\aa ps1.bl w' qr:=λw' hb=>by
     obtain ⟨a,_⟩:=V.o;obtain ⟨hs,hSh,B,H,u,f,_⟩:=W.o;have hv:=a.vol;have h:=hSh.1 ps1 a.kind w' (ps1.keep _ _ a.kit λk Q=>hb.block k (ps1.lt _ a.kit k Q)) (hv.tab.keep (hb.block _ hv.tab.lt)) (TZ hv.room hb.size) l1 (by rw [<- hs.nN];exact kh);rw [a.psE] at h;exact h
    have HB:=al xc (λk (Q:ps1.bl k)=>ps1.lt _ V.o.1.kit k Q);have qa:=V.o.1.vol;obtain ⟨_,y1,y2,y3,y4,_⟩:=qa.vol.cells;have qe:bW w1 (w1.alloc (Z5 #[Z8 Z9 0,Z6 Z1 0 0] 206)):=bA w1 _;obtain ⟨_,x1,x2,x3,x4,_⟩:=(qa.vol.keep (qe.block _ qa.vol.lt)).cells;obtain ⟨x0,_,_,_,_⟩:=(V.o.1.rd.keep (qe.block _ V.o.1.rd.lt)).cells;clear qe xc qa;have HY:cJ (∀ (w' w3:ZX),bW w1 w'->aa ps1.bl w' w3->C5 r v ps.ps D L G w3/\(∀ o:Obj,C5 r v ps.ps D L G (w3.alloc o))/\(∀ k x y,w1.heap.size<=k->C5 r v ps.ps D L G ((w3.setCell ⟨k,0,Z1⟩ x).setCell ⟨k,1,Z1⟩ y))):=ak λw' w3 hb hO=>by
     have qy:=aa.after hb hO;have hM:=V.o.1;obtain ⟨hs,_,B,H,u,f,_⟩:=W.o;have ha:=hM.apart hs B H u f;have hv:=hM.vol;have q0:=hM.rd.keep (qy.block _ hM.rd.lt λq=>(ha _ q).2.2.1 rfl);have hv3:=hv.vol.keep (qy.block _ hv.vol.lt λq=>(ha _ q).2.1 rfl);have B:=hM.rd.lt;have y8:=hv.vol.lt;exact ⟨MN q0 hv3,λo=>MN (q0.keep (Uy _ _ _ q0.lt)) (hv3.keep (Uy _ _ _ hv3.lt)),λk x y Q=>MN (q0.keep ((ix w3 k 0 1 x y).block _ q0.lt (by omega))) (hv3.keep ((ix w3 k 0 1 x y).block _ hv3.lt (by omega)))⟩
    go_wp2_with fail;go_region;go_upto_region 5 with fail;have xe:(((S &&& l1:Nat):Int)==0)=ZY:=by
     rw [<- qc];exact xd
    simp only [xe];clear xe;go_cut [6,7] from 24 to 42 (λv6 v7 wx=>RM D L G Kind ps1 l1 w1 v6 v7 wx)
    case first=>
     go_region_held3 (λw'=>w'.cell? ⟨r,0,Z1⟩=Z0 (Z7 (Z0 ⟨v,0,Z1⟩))/\w'.cell? ⟨v,1,Z1⟩=Z0 (Z8 Z9 (D:Int))/\w'.cell? ⟨v,2,Z1⟩=Z0 (Z8 Z9 (L:Int))/\w'.cell? ⟨v,3,Z1⟩=Z0 (Z8 Z9 (G:Int))/\w'.cell? ⟨v,4,Z1⟩=Z0 (Z7 (Z0 ⟨ps.ps,0,Z1⟩))) (first|exact ⟨e0,y1,y2,y3,y4⟩|exact ⟨x0,x1,x2,x3,x4⟩|exact Y0.out|exact Y1.out _|exact Y2.out _ _ _ lR|go_keep)
      (first|(go_at_call 168;refine (HB.o.1 _ ?_).mono ?_;(first|exact ((T6 _ _).drew).drew|exact (((T6 _ _).drew).drew).alloc lR _);rintro e w3 kz;obtain ⟨z,ao,m,c,er,he,X,H3⟩:=FT kz;subst he;clear kz;(try (have K:w3.heap[w1.heap.size]?=Z0 (Z5 #[Z8 Z9 0,Z6 Z1 0 0] 206 (0,0)):=(X.block w1.heap.size (by simp) (λq=>by have:=HB.o.2 _ q;omega)).trans (Uk w1.drew.drew _);obtain ⟨r0,r1,g1,g0⟩:=ay K;clear K));obtain ⟨Y0,Y1,Y2⟩:cJ (C5 r v ps.ps D L G w3)/\cJ (∀ o:Obj,C5 r v ps.ps D L G (w3.alloc o))/\cJ (∀ k x y,w1.heap.size<=k->C5 r v ps.ps D L G ((w3.setCell ⟨k,0,Z1⟩ x).setCell ⟨k,1,Z1⟩ y)):=HY.o _ w3 (by first|exact ((T6 _ w1).drew).drew|exact (((T6 _ w1).drew).drew).alloc lR _) X;clear X))
     all_goals (go_wp2_with fail;go_meet;case rel=>first|(refine JP (w':=w1.drew.drew) H3.o ?_ rfl;exact ((T6 _ _).drew).drew)|(refine FU (w2:=w1.drew.drew) H3.o HB.o.2 rfl ?_;exact ((T6 _ _).drew).drew))
    case rest=>
     clear e0 e3 e4 y1 y2 y3 y4 x0 x1 x2 x3 x4 HY HB;rename ZX=>w3;rcases hcut with ⟨rfl,xb,qd⟩|hcut
     . have xf:=ak xb;clear xb;obtain ⟨a,P,hc,R,U⟩:=V.o;obtain ⟨hs,hSh,B,H,u,f,_⟩:=W.o;have M:=a.SY (a.apart hs B H u f) (aa.RT qd _) (ps1.keep _ _ a.kit λk Q=>qd.block k (ps1.lt _ a.kit k Q)) a.kind rfl (λk q=>.inl q);obtain ⟨_,_,_,e3,e4⟩:=M.rd.cells;have f4:w3.frozen? ⟨r,4,Z1⟩=ZY:=by
        have h':w3.heap[r]?=_:=M.rd;simp [World.frozen?,h']
       have H3:=ak M;clear M a P R U hs hSh B H u f qd;by_cases qp:sp=0
       . exact absurd W.o.1.fine (LN xf.out λi q=>M9 (H3.o.gb i (by rw [<- V.o.2.2.2.1,qp,Nat.or_zero] at q;exact q)))
       . have y7:((sp:Int)==0)=ZY:=(by simp;omega);have HQ:=al qp hc;clear qp hc;go_wp2;go_roundw
         case rel=>
          obtain ⟨hs,_,B,H,u,f,_⟩:=W.o;exact ⟨0,g1,h1,d1,f1,ps1,H3.o.Tb hs B H u f⟩
         case measure=>
          obtain ⟨hs,_,B,H,u,f,_⟩:=W.o;obtain ⟨_,_,_,K,q4⟩:=(H3.o.Tb hs B H u f).rd.cells;rw [HM.o,K,q4];have q:=HQ.o.2;unfold FS;rw [TW HQ.o.1];simp [intOf];omega
     . obtain ⟨rfl,gb,J,s,C,ao,m,c,rfl,hn,Y,O,X⟩:=hcut;obtain ⟨a,P,hc,R,U⟩:=V.o;obtain ⟨hs,hSh,B,H,u,f,_⟩:=W.o;have M:=a.SY (a.apart hs B H u f) X O.kit O.kind O.psE O.bl;have k8:=hs.vol.par;have hg:=Mj k8.d k8.l4 k8.g k8.s O.told;have hp:=C3 k8.d k8.g k8.s O.told;have hf:(bZ D L G s C).length<=2000:=hg.1.2.2;have ka:∀ t∈bZ D L G s C,t.k=0->0<=t.b/\t.b<16:=λt ht h0=>by
        obtain ⟨i,q1,Z,_⟩:=lX k8.s ht h0;have:=k8.s;omega
       have qk:=IF (1+((ab (aw (D+L+G) s)).length:Int)) (G2 O.own (by omega)) ka (by omega);obtain ⟨z,ke⟩:∃ z:Int,1+((ab (aw (D+L+G) s)).length:Int)=z:=⟨_,rfl⟩;rw [ke] at Y hg qk;obtain ⟨k0,k1,_,_⟩:=ay Y;have H3:=hide11 M O Y hg hp hf ka qk ke X hn;clear M O Y hg hp hf ka qk ke X hn k8 a P hc R U hs hSh B H u f;go_wp2_with fail;refine H3.o.2.2.2.2.2.2.2.1.mono ?_;rintro e w4 ⟨rfl,k9⟩;clear k0 k1;obtain ⟨M,O,Y,hg,hp,hf,ka,_,ke,X,hn⟩:=H3.o;obtain ⟨hs,hSh,B,H,u,f,_⟩:=W.o;have qx:=M.SY (M.apart hs B H u f) (aa.RT k9 _) (J.keep _ _ M.kit λk Q=>k9.block k (J.lt _ M.kit k Q)) M.kind rfl (λk q=>.inl q);obtain ⟨T,hT⟩:=nM (zX (bZ D L G s C));have kp:T<65536:=by rw [<- hT];exact Lv λt ht h0=>by have:=ka t ht h0;omega
       have x5:∀ i,T.testBit i=ZZ->i<N/\s.testBit i=ZY:=λi I=>by
        rw [<- hT] at I;obtain ⟨t,ht,h0,xz⟩:=(si _ _).1 I;obtain ⟨j,q1,Z,K⟩:=lX hs.vol.par.s ht h0;have:j=i:=by rw [<- xz,q1];rfl
        subst this;exact ⟨by rw [hs.nN];exact Z,K⟩
       have kf:∀ i,i∈ab T->i<N/\s.testBit i=ZY:=λi I=>x5 i (cZ.1 I).2;have ks:=vt qx hs B H u f T kp (λi I=>(kf i I).1);have ko:=(k9.block gb (T5.1 Y).1).trans Y;have H4:=a5 kf hT ko k9;clear kf qx ko k9 M O Y hg hp hf ka ke X hn hs hSh B H u f x5;rw [hT];clear hT;go_wp2_with fail;refine ks.mono ?_;rintro e w5 ⟨rfl,f5,h2,E,q9⟩;clear ks;obtain ⟨kf,hT,ko,k9⟩:=H4.o;obtain ⟨M,O,Y,hg,hp,hf,ka,_,ke,X,hn⟩:=H3.o;obtain ⟨a,P,hc,R,U⟩:=V.o;obtain ⟨hs,hSh,B,H,u,f,_⟩:=W.o;have kk:=hs.vol;obtain ⟨hd,kb⟩:=nM (OQ T g1 sp d1);rw [kb] at E;have hy:∀ i,i∈hd↔i∈ab T/\g1.testBit i=ZY/\sp.testBit i=ZY/\i∉d1:=λi=>by rw [<- kb];exact sB (by omega) (by omega)
       obtain ⟨d2,kg⟩:=nM (d1++DS A b hd);obtain ⟨g2,kj⟩:=nM (g1|||kD (gnB A b) hd);rw [kg,kj] at E;have qi:=E.gol;have xx:=aaO g2 sp (by omega) (by omega);have qv:=k9.size;have q8:=a.out.size;have qs:=(q9.block gb (T9 (T5.1 Y).1 qv) (λq=>by
        rcases q with q|q|q|q
        . omega
        . omega
        . have:=kk.vol.lt;omega
        . have:=kk.arr.RS q;omega)).trans ko
       obtain ⟨_,_,_,e3,e4⟩:=E.rd.cells;obtain ⟨k0,k1,_,_⟩:=ay qs;by_cases kv:g2|||sp=l1
       . have ky:∀ i∈hd,gnB A b i=ZY:=λi I=>by
          cases hq:gnB A b i
          . rfl
          . have q:=(oH (gnB A b) i hd).2 ⟨I,hq⟩;have Z:(g2|||sp).testBit i=ZZ:=(by rw [VZ,<- kj,VZ,q,Bool.or_true,Bool.true_or]);obtain ⟨_,K,q4,_⟩:=(hy i).1 I;rw [kv,<- R,VZ,K,q4] at Z;cases Z
         have kr:=a.apart hs B H u f;have ki:DT D L G Kind ps1 J l1 s C ao m c w1.heap.size w5:=(O.keep (T:=λ_=>False) (aa.RT k9 _) (λ_ q=>q.elim)).keep q9 (λk q=>by
          rcases q with q|q|q|q
          . subst q;exact ⟨by omega,λe=>(kr _ e).2.2.2.1 rfl⟩
          . subst q;exact ⟨by omega,λe=>(kr _ e).2.2.1 rfl⟩
          . subst q;exact ⟨by have:=kk.vol.lt;omega,λe=>(kr _ e).2.1 rfl⟩
          . exact ⟨by have:=kk.arr.RS q;omega,λe=>(kr _ e).2.2.2.2 q⟩)
         have x6:=Na hs (E.SY (E.apart hs B H u f) (aa.drew _) (J.keep _ _ E.kit λ_ _=>rfl) E.kind rfl (λk q=>.inl q)) (ki.keep (T:=λ_=>False) (aa.drew w5) (λ_ q=>q.elim)) xo kh (λi I=>by
          rw [hT] at I;have qj:i<16:=by
           by_cases q:i<16
           . exact q
           . rw [Xb (T9 kp (U9 (n:=2) (i:=16) (by decide) (by omega)))] at I;cases I
          have x7:i∈ab T:=cZ.2 ⟨qj,I⟩;obtain ⟨q1,Z⟩:=kf i x7;refine ⟨q1,?_⟩;rw [<- kg];by_cases q:i∈d1
          . exact UO _ q
          . have qm:l1.testBit i=ZY:=Fl λe=>by rw [ki.TL i e] at Z;cases Z
            rw [<- R,VZ,XO] at qm;have K:=(hy i).2 ⟨x7,qm.1,qm.2,q⟩;exact VY _ (mJ.2 ⟨K,ky i K⟩)) ke
         have H5:=a5 x6 E ki kg;clear x6 ki qs E q9 kf hT ko k9 M O Y hg hp hf ka ke X hn a P R U hs hSh B H u f kb hy kg kj qv q8 ky kr kk hc;go_wp2_with fail;go_region;go_wp2_with fail;refine H5.o.1.mono ?_;rintro e w6 ⟨rfl,hF⟩;clear e3 e4 k0 k1;have H6:=ak hF;clear hF;go_wp2;go_ret;obtain ⟨xy,⟨f6,q7,xk,xm⟩,xg⟩:=H6.o;obtain ⟨_,E,ki,kg⟩:=H5.o;obtain ⟨hs,hSh,B,H,u,f,_⟩:=W.o;obtain ⟨a,P,_,R,U⟩:=V.o;have hj:aa (λk=>k=g) w5 w6:=(aa.drew w5).trans xg;have xi:=E.apart hs B H u f;have km:=E.vol;refine ⟨⟨_,_,xy⟩,⟨f6,q7,rfl,λi I=>?_⟩,⟨J,h2,E.kind,E.psE,J.keep _ _ E.kit (λk Q=>hj.block k (J.lt _ E.kit k Q) (λq=>(xi k Q).2.2.2.1 q)),km.vol.keep (hj.block _ km.vol.lt hs.vg),E.hll,E.bl⟩,km.arr.keep (λk Q=>hj.block k (km.arr.RS Q) λq=>hs.gF (q▸Q)),E.out.trans (hj.mono λk _ q=>.inl q),(E.seen.out km.arr hj λe=>hs.gF (e▸km.arr.sg)).mono λi _=>by split<;>decide⟩;have y5:=qz i I;by_cases qo:s.testBit i=ZZ
         . obtain ⟨bl,mm,l,q1,Z,K,q4,q5,q6⟩:=xm i ((cd hs.vol.par.s).2 ⟨by have:=hs.nN;omega,qo⟩);obtain ⟨h1,h2⟩:=Jg q4 K q5;rw [(Ad hs.vol.par dl (by have:=hs.nN;omega)).1] at h2;subst h2;exact ⟨bl,l.length,q1,aM.lt q4,h1⟩
         . have xq:i∉ab (aw (D+L+G) s):=λq=>qo ((cd hs.vol.par.s).1 q).2;have y9:i∈d2:=by
            rw [<- kg];exact UO _ (P i I (Fl λe=>qo (ki.TL i e)))
           obtain ⟨bl,q1,Z,K,q4⟩:=E.kn.2 i y9;have xj:bl≠g:=(by omega);exact ⟨bl,44,by rw [xk i xq];exact q1,T9 K hj.size,qW ((hj.block bl K xj).trans q4)⟩
       . have x9:g1<g2:=(by rw [<- kj];exact O9 λe=>kv (by rw [<- kj,e,R]));have hR:KnG w r v b g N p D L G A F Kind ps dl w5.drew:=⟨sp,g2,h2,d2,f5,J,E.SY (E.apart hs B H u f) (aa.drew _) (J.keep _ _ E.kit λ_ _=>rfl) E.kind rfl (λk q=>.inl q)⟩;have xa:FS N (intOf ((w5.drew.cell? ⟨r,4,Z1⟩).getD undef)).toNat (intOf ((w5.drew.cell? ⟨r,3,Z1⟩).getD undef)).toNat=FS N sp g2:=by
          rw [show w5.drew.cell? ⟨r,3,Z1⟩=w5.cell? ⟨r,3,Z1⟩ from rfl,show w5.drew.cell? ⟨r,4,Z1⟩=w5.cell? ⟨r,4,Z1⟩ from rfl,e3,e4];simp [intOf]
         have y6:((g2|||sp:Nat):Int)≠(l1:Int):=(by omega);have xp:((((g2|||sp:Nat):Int))==(l1:Int))=ZY:=(by simp;omega);have H5:=a6 hR x9 xa hc qi;clear hR x9 xa qs E q9 kf hT ko k9 M O Y hg hp hf ka ke X hn a P R U hs hSh B H u f kb hy kg kj qv q8 kk hc;go_wp2_with fail;go_region;go_wp2;go_roundw
         case rel=>exact H5.o.1
         case measure=>
          rw [H5.o.2.2.1,HM.o];have q1:=H5.o.2.1;have Z:=H5.o.2.2.2;unfold FS;omega
end
def G8 (ps:bf) (w:ZX) (c:m9 sb room D L G ps) (b:ps.S w):ps.ps<w.heap.size:=by
 obtain ⟨a,d,ho,rfl⟩:=c;exact (m8 sb room D L G a d ho).lt w b _ (.inl ⟨by show sb<=sb+1+1+1;omega,TY _⟩)
def yS (a:zQ D L G) {sb:Nat} {room:Int}:sD D L G (m9 sb room D L G):=
 ⟨λ_ hK _ c e b _ hl=>yR D L G a.r a.d1 a.d a.l1 a.l4 a.g a.div a.s hK c e b hl (.inl ⟨rfl,rfl⟩),λ_ hK _ c e b _ hl=>yR D L G a.r a.d1 a.d a.l1 a.l4 a.g a.div a.s hK c e b hl (.inr ⟨rfl,rfl⟩)⟩
end
structure mM (w:ZX) (r v b g N p D L G:Nat) (Kind:bf->Prop) (ps:bf) (A:aC) (F:aH) (l:a8) (e:Ending) (w':ZX):Prop where
 rd:∃ gone sp,eY w' r v b g N gone sp
 row:∃ f,w'.rowIs g 40 N f
 kit:∃ (ps1:bf) (hl:Nat),Kind ps1/\ps1.ps=ps.ps/\ps1.S w'/\bt w' v p D L G ps.ps hl/\hl<2^N/\∀ k,ps1.bl k->ps.bl k\/w.heap.size<=k
 arr:az w' p A F
 out:aa (λk=>k=g\/k=r\/k=v\/F.S k\/ps.bl k) w w'
 seen:dA F A.n w w' λ_=>1
 ans:∃ u,e=Z4 (Z2 #[u,.nilIface])/\Bs w' u l/\(∀ k,u.ownBlock=Z0 k->w.heap.size<=k)/\∃ ao n,u=.slice ao n n
def vq.turn {Kind:bf->Prop} {ps:bf} (h:vq w r v b g N p D L G Kind ps A F dl) (hr:¬ ps.bl r) (d:¬ ps.bl g) (c:aa (λk=>k=r\/k=g) w w'):vq w' r v b g N p D L G Kind ps A F dl:=
 { h with
  vol:=h.vol.Tv c λk q=>q.elim (λe=>e▸⟨h.rK,h.vr.symm,h.rF⟩) λe=>e▸⟨h.gK,h.vg.symm,h.gF⟩
  kit:=ps.keep _ _ h.kit λk a=>c.block k (ps.lt _ h.kit k a) (λq=>q.elim (λe=>hr (e▸a)) (λe=>d (e▸a))) }
theorem DB {Kind:bf->Prop} {ps:bf} (hs:vq w r v b g N p D L G Kind ps A F dl) (kg:sD D L G Kind) (hr:eY w r v b0 g N gone sp) (X:w.rowIs g 40 N f0) {size:Nat} (ko:size=dl.length) {m:Nat} (Y:m=(size+43)/44) (kj:m<=D) :
 ZV ZU 99 #[Z7 (Z0 ⟨r,0,Z1⟩),Z8 Z9 b,Z8 Z9 size] w (mM w r v b g N p D L G Kind ps A F dl):=by
 have kb:=ak ko;clear ko;have kv:N<=16:=by rw [hs.nN];exact hs.vol.par.s
 have q6:D<=N:=by rw [hs.nN];omega
 have W:m<=16:=by omega
 have q7:size<=704:=by omega
 have J:ab (2^m-1)=YF m:=FQ W;have V:2^m-1<65536:=by
  have:2^m<=2^16:=U9 (by decide) W;omega
 obtain ⟨S,k7⟩:=nM (2^m-1);rw [k7] at J V;have kp:=Ot hr hs.vol.vol X (by have:=hs.vol.par.d1;omega) (λe=>hs.rg e.symm) hs.vg b;have ke:=cP hs.kit hr yL;have kc:¬ ps.bl g:=by obtain ⟨cs,h1,_⟩:=X;exact cP hs.kit h1 uT
 have d:=a5 hs kg ke kc;have e1:((size:Nat):Int)+44-1=((size+43:Nat):Int):=by omega
 clear hr X hs kg ke kc;go_enter func99,ntmps99;go_wp2_with fail;refine kp.mono ?_;rintro e w1 ⟨rfl,kk,ha,Z⟩;have km:=d.o.1.turn d.o.2.2.1 d.o.2.2.2 Z;have ki:=Nb km d.o.2.1 kk ha S V (λi j=>by rw [J,UA] at j;omega);have B:=al ki Z;clear kp kk ha Z km ki;go_wp2_with fail;rw [show ((size:Int)+43)/44=(m:Int) by omega];refine (mu m W w1).mono ?_;rw [k7];rintro e w2 ⟨rfl,rfl⟩;clear e1;go_wp2_with fail;refine B.o.1.mono ?_;rintro e w3 ⟨⟨U,hb,y⟩,⟨f,n,rfl,Q⟩,h9,h8,kf,hp⟩;have T:=B.o.2.size;have E:aa (λk=>k=g\/k=r\/k=v\/F.S k\/ps.bl k) w w3:=(B.o.2.mono λ_ _ q=>q.elim (λe=>.inr (.inl e)) .inl).trans kf;have ks:=ak (hp.after (B.o.2.block _ (d.o.1.vol.arr.RS d.o.1.vol.arr.sg) λe=>e.elim (λe=>d.o.1.rF (e▸d.o.1.vol.arr.sg)) λe=>d.o.1.gF (e▸d.o.1.vol.arr.sg)));clear hp;rw [J] at Q;obtain ⟨R,O⟩:=nM (DQ D L G dl);rw [O] at Q;have K:∀ i,i<m->(R i).length=44/\∀ x∈R i,x<256:=λi j=>by rw [<- O];exact Ad d.o.1.vol.par dl (by omega)
 have P:((YF m).map R).flatten.take size=dl:=by
  rw [<- O,show DQ D L G dl=λi=>(dq D L G dl).getD i [] from rfl,I6 Y kj d.o.1.len d.o.1.byt (Nat.le_of_eq kb.out),kb.out,VK]
 obtain ⟨_,_,d2,_,_⟩:=y.cells;have C:((YF m).map R).length=m:=by simp
 have hn:Of w3 0 g ((YF m).map R):=by
  refine ⟨T7 _,n.lt,λi j=>?_⟩;rw [C] at j;obtain ⟨bl,c,q1,q3,q4⟩:=Q i (UA.2 j);have cg:=n.cell (i:=i) (by omega);rw [q1] at cg;have e:((YF m).map R)[i]'(by rw [C];exact j)=R i:=by simp
  rw [e];exact ⟨bl,0,c,cg,T7 _,q3,q4,(K i j).1,(K i j).2⟩
 have k8:=IQ (c:=N) hn (by rw [C];omega);rw [C] at k8;have H3:=hide8 y n h9 h8 E k8 T P;clear y n Q h9 h8 kf k8 E hn C T P O;go_wp2_with fail;rw [show (size+43)/44=m from Y.symm];refine H3.o.2.2.2.2.2.1.mono ?_;rintro e w4 ⟨u,rfl,hj,h⟩;have k9:((YF m).map R).flatten.length=44*m:=DA R m (λi j=>(K i j).1);have kh:∀ x∈((YF m).map R).flatten,x<256:=λx hx=>by
  obtain ⟨l,q0,q2⟩:=List.mem_flatten.1 hx;obtain ⟨i,kz,rfl⟩:=Ua.1 q0;exact (K i (UA.1 kz)).2 x q2
 have ka:size<=44*m:=by omega
 have kr:=ak k9;obtain ⟨ao,cp,rfl,hh,kx,ky,I,H⟩:=RL hj k9 kh ka (by omega);have H4:=aE h H I;clear k9 kh;obtain ⟨M,hM⟩:=nM (44*m);rw [hM] at kr ka hh ⊢;have q5:size<=cp:=TZ ka hh;clear h H I hj hM Y d2 d J k7 V B kj;go_wp2;go_ret2;obtain ⟨y,n,⟨t,hl,k1,k2,k3,k4,k5,k6⟩,a3,E,_,T,P⟩:=H3.o;obtain ⟨h,H,I⟩:=H4.o;rw [P] at H;refine ⟨⟨_,_,y.keep (h.block _ y.lt)⟩,⟨_,n.of_block (h.block _ n.lt)⟩,⟨t,hl,k1,k2,t.keep _ _ k3 (λk z=>h.block k (t.lt _ k3 k z)),k4.keep (h.block _ k4.lt),k5,λk z=>(k6 k z).imp id λq=>TZ T q⟩,a3.below h lR,E.trans (aa.RT h _),ks.out.below a3 h lR,⟨_,rfl,H,λk z=>?_,⟨_,_,rfl⟩⟩⟩;cases ao with
 | none=>simp [Value.ownBlock] at z
 | some a=>
  simp [Value.ownBlock] at z;have h1:=I a rfl;have h2:=E.size;omega
def JQ {v:ZW} (h:Bs w v l):Src ZU 1 40 v l.length (aI l) w:=by
 obtain ⟨ao,c,rfl,m,n,o,g⟩:=h;have i:∀ u∈aI l,u.oneCell'=ZZ:=λu a=>by unfold aI at a;rw [Ua] at a;obtain ⟨x,_,rfl⟩:=a;rfl
 by_cases hl:l=[]
 . subst hl;cases ao with
   | none=>exact XN w Uq c
   | some f=>exact Vk w Uq f 0 c [] rfl (λj u d=>by simp at d) (λu a=>by simp at a)
 . obtain ⟨b,off,rfl,k⟩:=g hl;refine Vk w Uq ⟨b,off,Z1⟩ l.length c (aI l) (by rw [aW,Wf]) (λj u d=>?_) i;rw [Vp];have e:j<l.length:=(by obtain ⟨q,_⟩:=Vc.1 d;rwa [aW] at q);rw [k j e,<- d];unfold aI;rw [UE,Ue e,Ub,Ue e];rfl
def A0 (w:ZX) (n:Int) (e:Ending) (w':ZX):Prop:=e=Z4 (Z2 #[Z6 Z1 0 0,AP n])/\bW w w'
theorem Nc {ps:bf} {xs:aX} (h:a9 w ar v p ps D L G t pg ob P xs A F) (x:ByteArray) (g:cj x=ZY) :
 ZV ZU 71 #[Z7 (Z0 ⟨ar,0,Z1⟩),Z3 x] w (A0 w 6):=by
 obtain ⟨_,_,_,_,f⟩:=h.arc.cells;have a:=h.find x;obtain ⟨k,d⟩:=nM (aL xs.names x);obtain ⟨i,c⟩:=nM (mS xs.os x);rw [d,c] at a;clear d c h;go_enter func71,ntmps71;go_wp2_with fail;refine a.mono ?_;rintro e w1 ⟨rfl,b⟩;have H:=ak b;clear b a f;go_wp2_with fail;refine (jT x w1).mono ?_;rintro e w2 ⟨rfl,rfl⟩;rw [g];dsimp only;go_wp2;go_ret2;exact ⟨rfl,H.o⟩
theorem DC {ps:bf} {xs:aX} (h:a9 w ar v p ps D L G t pg ob P xs A F) (x:ByteArray) (g:cj x=ZZ) (f:x∉xs.names) :
 ZV ZU 71 #[Z7 (Z0 ⟨ar,0,Z1⟩),Z3 x] w (A0 w 9):=by
 obtain ⟨_,_,_,_,d⟩:=h.arc.cells;have a:=h.find x;obtain ⟨k,c⟩:=nM (aL xs.names x);rw [c,h.Sx f] at a;clear c h;go_enter func71,ntmps71;go_wp2_with fail;refine a.mono ?_;rintro e w1 ⟨rfl,b⟩;have H:=ak b;clear b a d;go_wp2_with fail;refine (jT x w1).mono ?_;rintro e w2 ⟨rfl,rfl⟩;rw [g];dsimp only;go_wp2;go_ret2;exact ⟨rfl,H.o⟩
structure oV (w:ZX) (v p D L G:Nat) (Kind:bf->Prop) (ps:bf) (A:aC) (ps':bf) (wr:ZX):Prop where
 kind:Kind ps'
 psE:ps'.ps=ps.ps
 kit:ps'.S wr
 vol:bt wr v p D L G ps.ps ps'.ho
 hol:ps'.ho<2^(D+L+G)
 bl:∀ k,ps'.bl k->ps.bl k\/w.heap.size<=k
def oV.early {Kind:bf->Prop} {ps ps':bf} (h:oV w v p D L G Kind ps A ps' wr) (b:w0.heap.size<=w.heap.size):oV w0 v p D L G Kind ps A ps' wr:={ h with bl:=λk a=>(h.bl k a).imp_right (TZ b) }
def bf.TB (ps:bf) (h:Nat):bf:={ ps with ho:=h }
structure A2 (D L G:Nat) (Kind:bf->Prop) (ps:bf):Prop where
 sh:sD D L G Kind
 re:∀ ps h,Kind ps->Kind (ps.TB h)
 pk:∀ ps w,Kind ps->ps.S w->ps.ps<w.heap.size
 kind:Kind ps
structure GtG (w:ZX) (q v p r g N sz D L G:Nat) (Kind:bf->Prop) (ps:bf) (A:aC) (F:aH) (cs:List ZW) (d:a8) (k:Nat) (u:ZW) (wr:ZX):Prop where
 pk:wr.ownsRow w.heap.size 5 1 u (min (k*sz) d.length) (aI (d.take (k*sz)))
 rd:∃ b gone sp,eY wr r v b g N gone sp
 row:∃ f,wr.rowIs g 40 N f
 kit:∃ ps',oV w v p D L G Kind ps A ps' wr
 arr:az wr p A F
 out:aa (λj=>F.S j\/j=v\/ps.bl j) w wr
 box:ai wr q 152 cs
 seen:dA F A.n w wr λ_=>k
def abl (w:ZX) (q v p r g N sz D L G:Nat) (Kind:bf->Prop) (ps:bf) (A:aC) (F:aH) (cs:List ZW) (d:a8) (K:Nat) (u i:ZW) (wr:ZX):Prop:=∃ k:Nat,k<=K/\i=Z8 Z9 (k:Nat)/\GtG w q v p r g N sz D L G Kind ps A F cs d k u wr
def Pb {n:Nat} (hD:1<=D):n<=lq D n*(D*44):=by
 unfold lq;obtain ⟨q,d⟩:=nM (D*44);rw [d];have a:0<q:=by omega
 have h:=Nat.lt_mul_div_succ (n+q-1) a;obtain ⟨c,b⟩:=nM ((n+q-1)/q);rw [b] at h ⊢;have:q*(c+1)=c*q+q:=by rw [Nat.mul_add,Wf,Ww]
 have:c*q<=max 1 c*q:=WV _ (acf _ _);omega
def oW:¬ rM 5:=by unfold rM;decide
def JR:¬ rM 152:=by unfold rM;decide
def Pc {ks:Nat} {ps:bf} (a:w.ownsRow base 5 1 u ks (aI l)) (f:eY w r v b0 g N gone sp) (c:w.rowIs g 40 N f0) (n:bt w v p D L G ps.ps ps.ho) (j:ps.S w) (i:aa (λk=>k=g\/k=r\/k=v\/F.S k\/ps.bl k) w w6) (d:∀ k,F.S k->k<base):w6.ownsRow base 5 1 u ks (aI l):=bR a i λq b h=>by
 rcases h with h|h|h|h|h
 . subst h;obtain ⟨cs,e,_⟩:=c;exact bH a e (by decide) b
 . subst h;exact bH a f (by decide) b
 . subst h;exact bH a n (by decide) b
 . have:=d q h;have:=dK a b;omega
 . obtain ⟨cur,m⟩:=bu a b;exact cP j m oW h
def RN {Kind:bf->Prop} {ps ps':bf} (b:GtG w q v p r g N sz D L G Kind ps A F cs d k u wr) (hK:oV w v p D L G Kind ps A ps' wr) (hD:mM wr.drew r v y g N p D L G Kind ps' A F l e w6) (f:N=D+L+G) (re:∀ ps h,Kind ps->Kind (ps.TB h)) (hr:w.heap.size<=r) (s:w.heap.size<=g):aa (λj=>F.S j\/j=v\/ps.bl j) w w6/\∃ a,oV w v p D L G Kind ps A a w6:=by
 have:w.heap.size<=wr.heap.size:=b.out.size;have:wr.drew.heap.size=wr.heap.size:=rfl;refine ⟨(b.out.trans (aa.drew _)).later hD.out λj c h=>?_,?_⟩
 . rcases h with h|h|h|h|h
   . omega
   . omega
   . exact .inr (.inl h)
   . exact .inl h
   . rcases hK.bl j h with q|q
     . exact .inr (.inr q)
     . omega
 . obtain ⟨ps1,hl,k1,k2,k3,k4,i,m⟩:=hD.kit;refine ⟨ps1.TB hl,re _ _ k1,k2.trans hK.psE,k3,by rw [<- hK.psE];exact k4,f▸i,λj c=>?_⟩;rcases m j c with q|q
   . exact hK.bl j q
   . exact .inr (by omega)
def Nd {Kind:bf->Prop} {ps ps':bf} {l2:a8} {v7:ZW} (n:GtG w q v p r g N sz D L G Kind ps A F cs d k u wr) (hK:oV w v p D L G Kind ps A ps' wr) (hD:mM wr.drew r v y g N p D L G Kind ps' A F l2 e w6) (I:N=D+L+G) (re:∀ ps h,Kind ps->Kind (ps.TB h))
 (K:w7.ownsRow w.heap.size 5 1 v7 (min ((k+1)*sz) d.length) (aI (d.take ((k+1)*sz)))) (b:w6.grownBy w7 u.ownBlock) (x:w6.ownsRow w.heap.size 5 1 u m (aI l)) (B:∀ k,F.S k->k<w.heap.size) (R:v<w.heap.size) (U:w.heap.size<=q) (P:q≠r) (M:q≠g) (hr:w.heap.size<=r) (O:w.heap.size<=g):GtG w q v p r g N sz D L G Kind ps A F cs d (k+1) v7 w7:=by
 obtain ⟨H,c,i⟩:=RN n hK hD I re hr O;have t:∀ {j:Nat} {cs:Array ZW} {T:TypeId},w6.heap[j]?=Z0 (Z5 cs T (0,0))->5≠T->w7.heap[j]?=w6.heap[j]?:=by
  intro j cs T a s;exact b.block j (T5.1 a).1 (λe=>bH x a s e.symm)
 have z:∀ j,j<w.heap.size->w7.heap[j]?=w6.heap[j]?:=λj a=>b.block j (T9 a H.size) (λe=>by have:=dK x e.symm;omega);have C:ai w6 q 152 cs:=n.box.keep (hD.out.block _ n.box.lt (λh=>by
  rcases h with h|h|h|h|h
  . exact M h
  . exact P h
  . omega
  . have o:=B _ h;omega
  . exact cP hK.kit n.box JR h))
 obtain ⟨gone,sp,E⟩:=hD.rd;refine ⟨K,⟨y,gone,sp,E.keep (t E (by decide))⟩,?_,⟨c,{ i with kit:=c.keep _ _ i.kit (λj a=>b.block j (c.lt _ i.kit j a) (λe=>by obtain ⟨cur,J⟩:=bu x e.symm;exact cP i.kit J oW a)),vol:=i.vol.keep (t i.vol (by decide)) }⟩,hD.arr.keep λj a=>z j (B j a),?_,C.keep (t C (by decide)),(n.seen.trans (hD.seen.after rfl)).keep (z _ (B _ n.arr.sg))⟩
 . obtain ⟨f,cs,o,s⟩:=hD.row;exact ⟨f,cs,(t o (by decide)).trans o,s⟩
 . exact H.later (T:=λj=>w.heap.size<=j) ⟨b.os,b.tape,b.output,b.size,λj _ Q=>z j (by omega)⟩ (λj o s=>by omega)
def a9.got {Kind:bf->Prop} {ps ps':bf} {xs:aX} (h:a9 w ar v p ps D L G t pg ob P xs A F) (a:aa (λj=>F.S j\/j=v\/ps.bl j) w w') (x:az w' p A F) (hK:oV w v p D L G Kind ps A ps' w'):a9 w' ar v p ps' D L G t pg ob P xs A F:=by
 have o:=hK.bl;have r:2<3:=by decide
 have s:1<3:=by decide
 have:=h.vlt;have d:∀ k,k<3->¬ F.S k->k<w.heap.size->w'.heap[k]?=w.heap[k]?:=λk f i l=>a.block k l (λq=>by
  rcases q with q|q|q
  . exact i q
  . omega
  . have:=(h.apt k q).1;omega)
 have m:eN (λk=>ar<k/\¬ F.S k/\¬ ps.bl k/\¬ ps'.bl k) w w':=⟨a.size,λk c b=>a.block k c (λq=>by
  rcases q with q|q|q
  . exact b.2.1 q
  . have:=b.1;omega
  . exact b.2.2.1 q)⟩
 have n:∀ k,(ar<k/\¬ F.S k/\¬ ps.bl k)->k<w.heap.size->(ar<k/\¬ F.S k/\¬ ps.bl k/\¬ ps'.bl k):=λk q f=>⟨q.1,q.2.1,q.2.2,λe=>(o k e).elim q.2.2 (by omega)⟩;have u:∀ k,ps'.bl k->3<=k/\k≠ar/\k≠v/\¬ F.S k:=λk c=>by
  rcases o k c with q|q
  . exact h.apt k q
  . have:=h.arc.lt;have:=h.vol.vol.lt;have:=h.vlt;exact ⟨by omega,by omega,by omega,λe=>by have:=h.vol.arr.RS e;omega⟩
 exact { h with
  arc:=h.arc.keep (a.block _ h.arc.lt λq=>by
   rcases q with q|q|q
   . exact h.nar q
   . omega
   . exact (h.apt _ q).2.1 rfl)
  vol:={ h.vol with vol:=by rw [hK.psE];exact hK.vol,arr:=x,laid:=h.vol.laid.keep (d _ r h.vol.g h.vol.laid.lt),tab:=h.vol.tab.keep (d _ s h.vol.t h.vol.tab.lt),room:=TZ h.vol.room a.size }
  pgs:=((h.pgs.wk n).keep m).wk λk q _=>⟨q.1,q.2.1,q.2.2.2⟩
  cat:=((h.cat.wk n).keep m).wk λk q _=>⟨q.1,q.2.1,q.2.2.2⟩
  kit:=hK.kit
  apt:=u
  hl:=hK.hol }
def vu (xs:aX) (x:ByteArray) (base:Nat) (u r:ZW) (w:ZX):Prop:=
 (u=Z6 Z1 0 0/\((r=AP 6/\cj x=ZY)\/(r=AP 9/\cj x=ZZ/\x∉xs.names)))\/(r=.nilIface/\cj x=ZZ/\∃ X∈xs,X.1.name=x/\w.ownsRow base 5 1 u X.2.length (aI X.2))
def CnR (D:Nat) (xs:aX) (x:ByteArray) (c:Nat):Prop:=c<=1\/∃ X∈xs,X.1.name=x/\c<=X.2.length/(D*44)+1
def RO {n:Nat} (hD:1<=D):lq D n<=n/(D*44)+1:=by
 unfold lq;have h:(n+D*44-1)/(D*44)<=n/(D*44)+1:=by
  rw [<- Nat.add_div_right n (by omega)];exact XQ (by omega)
 exact Nat.max_le.2 ⟨Yl (T7 _),h⟩
def Nf (D:Nat) (xs:aX) (x:ByteArray) (F:aH) (A:aC) (w w':ZX):Prop:=(∃ cs,w'.heap[F.g]?=Z0 (Z5 cs 79 (0,0)))/\∃ c,dA F A.n w w' (λ_=>c)/\CnR D xs x c
def PY {xs:aX} (d:az w' p A F) (h:dA F A.n w w' λ_=>c) (e:CnR D xs x c):Nf D xs x F A w w':=by
 obtain ⟨R,a,_⟩:=d;obtain ⟨cs,b,_⟩:=a.TA;exact ⟨⟨cs,b⟩,c,h,e⟩
def Nf.keep {xs:aX} {w'':ZX} (h:Nf D xs x F A w w') (e:w''.heap[F.g]?=w'.heap[F.g]?):Nf D xs x F A w w'':=⟨h.1.imp λ_ q=>e.trans q,h.2.imp λ_ q=>⟨q.1.keep e,q.2⟩⟩
def RQ (w:ZX) (ar v p:Nat) (Kind:bf->Prop) (ps:bf) (D L G t:Nat) (pg ob:ZW) (P:a8) (xs:aX) (A:aC) (F:aH) (ps':bf) (w':ZX):Prop:=a9 w' ar v p ps' D L G t pg ob P xs A F/\Kind ps'/\∀ k,ps'.bl k->ps.bl k\/w.heap.size<=k
def mN (w:ZX) (ar v p:Nat) (Kind:bf->Prop) (ps:bf) (D L G t:Nat) (pg ob:ZW) (P:a8) (xs:aX) (A:aC) (F:aH) (x:ByteArray) (e:Ending) (w':ZX):Prop:=
 ∃ u r ps',e=Z4 (Z2 #[u,r])/\RQ w ar v p Kind ps D L G t pg ob P xs A F ps' w'/\aa (λj=>F.S j\/j=v\/ps.bl j) w w'/\vu xs x w.heap.size u r w'/\Nf D xs x F A w w'
theorem Pd {Kind:bf->Prop} {ps:bf} {xs:aX} (h:a9 w ar v p ps D L G t pg ob P xs A F) (hv:A2 D L G Kind ps) (x:ByteArray) (hx:cj x=ZZ) (K:Nat) (x9:K<xs.length) (hm:xs[K].1.name=x) :
 ZV ZU 71 #[Z7 (Z0 ⟨ar,0,Z1⟩),Z3 x] w (mN w ar v p Kind ps D L G t pg ob P xs A F x):=by
 obtain ⟨_,_,_,_,c8⟩:=h.arc.cells;have q1:=h.find x;have xg:xs.names.length=xs.length:=by rw [<- eJ,bw];simp [aX.os]
 have qe:xs.names[K]'(by omega)=x:=by simp [aX.names,hm,aS,aX.os]
 have ka:x∈xs.names:=by rw [<- qe];exact T8 _
 have x1:aL xs.names x=K:=iw h.disk.up (by omega) qe;rw [x1,h.there ka] at q1;have k8:=h.disk.fits _ (T8 x9);obtain ⟨oo,oc,rfl,hol,_⟩:=id h.cat;have qf:xs.os.length=xs.length:=by simp [aX.os]
 have kb:∀ hh:K<xs.os.length,xs.os[K]=xs[K].1:=λhh=>by simp [aX.os]
 obtain ⟨X,hX⟩:=nM (xs[K]);rw [hX] at k8 hm kb;obtain ⟨nn,qy⟩:=nM (xs.os.length);have qn:X∈xs:=by rw [<- hX];exact T8 _
 have c:=a7 h k8 ka kb qy qn;have HV:=ak hv;have qb:K<nn:=by omega
 have xa:(K:Int)<(nn:Int):=by omega
 rw [qy] at q1 c8;clear h hv xg qe ka x1 k8 kb qf hol hX qn;go_enter func71,ntmps71;go_wp2_with fail;refine q1.mono ?_;rintro e w1 ⟨rfl,hb⟩;have H:=ak hb;clear hb q1 c8;go_wp2_with fail;refine (jT x w1).mono ?_;rintro e w2 ⟨rfl,rfl⟩;rw [hx];dsimp only;have a:=c.o.1.below H.o;obtain ⟨d0,_,_,_,d8⟩:=a.arc.cells;rw [c.o.2.2.2.2.1] at d8;obtain ⟨GJ,off,sv,rfl,xh,xi,r1,r2,r3,r4⟩:=a.cat.at' (k:=K) (by rw [c.o.2.2.2.2.1];exact qb);rw [c.o.2.2.2.1 _] at r1 r2 r4;rw [hm] at r1;obtain ⟨n,hn⟩:=nM (X.1.size);rw [hn] at r2;obtain ⟨R,T,rfl,x7,_⟩:=id r4;obtain ⟨S,hS⟩:=nM (X.1.RR);rw [hS] at r3 r4 x7;have N:=a5 a r4 hn hS;clear a r4 hn hS;have q8:bW w2 (w2.alloc (Z5 #[Z3 x,Z8 Z9 (n:Nat),.slice R S.length T] 152)):=bA w2 _;have ky:ai (w2.alloc (Z5 #[Z3 x,Z8 Z9 (n:Nat),.slice R S.length T] 152)) w2.heap.size 152 [Z3 x,Z8 Z9 (n:Nat),.slice R S.length T]:=UN w2 _;have qj:(w2.alloc (Z5 #[Z3 x,Z8 Z9 (n:Nat),.slice R S.length T] 152)).heap.size=w2.heap.size+1:=by simp
 have B:X.2.length=n:=c.o.2.1.len.trans N.o.2.2.1;have xe:n<=1500:=by rw [<- N.o.2.2.1];exact c.o.2.1.fit.size
 obtain ⟨w3,xm⟩:=nM (w2.alloc (Z5 #[Z3 x,Z8 Z9 (n:Nat),.slice R S.length T] 152));rw [xm] at q8 ky qj;have y1:=ky.cell (j:=1) (u:=Z8 Z9 (n:Nat)) rfl;obtain ⟨ib,qs,km,ko,kp⟩:=Uu Tryz.SA;have H3:=aE q8 ky qj;clear q8 ky qj;go_wp2_with (at_make;refine ab1 w3 rfl (.const (Z8 Z9 0)) (.tmp 41) 40 rfl w2.heap.size 5 ib (Z8 .u8 0) 1 Uq qs km ko .i64 .i64 _ n (by rfl) (by rfl) rfl (by rw [kp];omega) (by unfold maxLen;omega) (by exact H3.o.1.size) ?_;intro w4 qz q9;have q7:bW w2 w4:=H3.o.1.grown q9 H3.o.1.size (λk e=>by cases e);have e0:=(q7.cell (p:=⟨ar,0,Z1⟩) N.o.1.arc.lt).trans d0;have H4:=aE qz q9 q7;clear qz q9 q7);have Z:=N.o.1.below H4.o.2.2;have hs:=yQ Z.vol.vol Z.vol.par.d Z.vol.par.l4 Z.vol.par.g Z.vol.n;have kg:=ak Z;clear Z d8 r1 r2 r3 y1;refine hs.mono ?_;rintro e w5 ⟨rfl,q4,hf,kh⟩;have kr:=kg.out.below kh;have q3:ai w4 w2.heap.size 152 _:=H3.o.2.1.keep (H4.o.2.1.block _ H3.o.2.1.lt (by simp));have hc:ai w5 w2.heap.size 152 _:=q3.keep (kh.block _ q3.lt);have x2:=hc.cell (j:=2) (u:=.slice R S.length T) rfl;have k7:bW w2 w5:=H4.o.2.2.trans (kh.mono H4.o.2.2.size);obtain ⟨sz,J⟩:=nM (D*44);have Q:S.length=lq D n:=by rw [<- N.o.2.2.2,c.o.2.1.st,N.o.2.2.1];rfl
 obtain ⟨r,hr⟩:=nM (w4.heap.size+2);obtain ⟨g,hg⟩:=nM (w4.heap.size+1);have xx:=H4.o.2.2.size;rw [hr,hg] at q4;rw [hg] at hf;obtain ⟨d,E⟩:=nM (X.2);rw [E] at B;have x4:GtG w2 w2.heap.size v p r g A.n sz D L G Kind ps A F [Z3 x,Z8 Z9 (n:Nat),.slice R S.length T] d 0 (Z6 (Z0 ⟨w3.heap.size,0,Z1⟩) 0 n) w5:=
  ⟨by rw [abw,Nat.zero_min];exact an H4.o.1 kh,⟨_,_,_,q4⟩,⟨_,hf⟩,⟨ps,HV.o.kind,rfl,kr.kit,kr.vol.vol,kr.hl,λ_ q=>.inl q⟩,kr.vol.arr,aa.RT k7 _,hc,dA.same (k7.block _ (N.o.1.vol.arr.RS N.o.1.vol.arr.sg))⟩
 have H5:=a6 x4 J Q E B;have xj:r≠g:=by omega
 have xn:w2.heap.size<g:=by omega
 have xv:w2.heap.size<r:=by omega
 rw [hr];clear x4 J Q E B q4 hf hc q3 kr k7 hs kh hr hg;have xk:44<=sz/\sz<=528:=by rw [<- H5.o.2.1];have:=kg.out.vol.par.d1;have:=kg.out.vol.par.d;omega
 go_wp2_with fail;go_loopw [9,51] (λu i wr=>abl w2 w2.heap.size v p r g A.n sz D L G Kind ps A F [Z3 x,Z8 Z9 (n:Nat),.slice R S.length T] d S.length u i wr) (λ_ i _=>S.length-(intOf i).toNat)
 case atStart=>exact ⟨0,T7 _,rfl,H5.o.1⟩
 case round=>
  clear x2 e0;obtain ⟨k,xo,rfl,U⟩:=hrel;by_cases kf:k<S.length
  . obtain ⟨C,⟨b0,gone,sp,hs⟩,⟨f0,he⟩,⟨f,b⟩,ha,V,ki,_⟩:=id U;obtain ⟨_,J,Q,E,B⟩:=H5.o;obtain ⟨a,qm,xf,kz⟩:=N.o;have hr:=a.vol.par;have qv:k*sz<=n:=(by rw [<- J];exact Dk hr.d1 (by omega));have O:∀ j,F.S j->j<w2.heap.size:=λj W=>a.vol.arr.RS W;rw [B,Wm qv] at C;obtain ⟨l,hl⟩:=nM (d.take (k*sz));rw [hl] at C;obtain ⟨pa,pc,rfl⟩:=aT C;obtain ⟨s,I⟩:=nM (k*sz);have qh:=a.vlt;have qk:eN (λk=>ar<k/\¬ F.S k/\¬ ps.bl k) w2 wr:=⟨V.size,λj W hK=>V.block j W (λq=>by rcases q with q|q|q;exact hK.2.1 q;omega;exact hK.2.2 q)⟩;obtain ⟨sb,so,xy,e1,qo⟩:=sq (qm.keep qk) (λe=>by rw [e] at kf;simp at kf);simp only [VA] at e1;obtain ⟨rfl,_,rfl⟩:=e1;have g1:=qo k kf;obtain ⟨y,hy⟩:=nM (S[k]);rw [hy] at g1;have kx:X.1.RR.getD k 0=y:=(by rw [kz,oP kf,hy]);have x6:y<A.nb:=by
     refine (a.disk.TM y (VY _ (AM c.o.2.2.2.2.2 ?_))).2;rw [kz,<- hy];exact T8 kf
    have qi:=a.disk.held X c.o.2.2.2.2.2 k (by rw [kz];exact kf);rw [kx,E] at qi;have ke:=a.got V ha b;have q5:pH wr.drew v p D L G f.ps f.ho A F:=ke.vol.below ((T6 _ wr).drew) lR;obtain ⟨ca,_⟩:=ke.arc.cells;have cz:=ki.cell (j:=1) (u:=Z8 Z9 (n:Nat)) rfl;have qg:=dJ q5.vol (by have:=hr.d;omega);rw [J] at qg;obtain ⟨M,qc⟩:=nM (min (n-s) sz);have xd:∀ qr ty w,(Builtin.min_ qr ty #[Z8 Z9 ((n:Int)-(s:Int)),Z8 Z9 (sz:Nat)]).run ZU w=.ok (Z8 Z9 (M:Nat)) w:=λqr ty w=>by
     rw [gJ];by_cases h1:((sz:Nat):Int)<(n:Int)-(s:Int)
     . rw [TX h1,show M=sz by omega]
     . rw [TW h1,show (M:Int)=(n:Int)-(s:Int) by omega]
    have kc:=a.vol.n;have qx:(M+43)/44<=D:=(by omega);have kk:(dL D d k).length=M:=(by unfold dL;rw [Us,Ur,J,I,B];omega);have kv:vq wr.drew r v y g A.n p D L G Kind f A F (dL D d k):=
     { vol:=q5,nN:=kc,hol:=by rw [kc];exact b.hol,kit:=f.keep _ _ b.kit (λ_ _=>rfl),kind:=b.kind,apt:=λj W=>⟨(ke.apt j W).1,(ke.apt j W).2.2.1,(ke.apt j W).2.2.2⟩,vr:=λe=>by have:=a.vol.vol.lt;omega,vg:=λe=>by have:=a.vol.vol.lt;omega,rg:=xj,gF:=λe=>by have:=O _ e;omega,rF:=λe=>by have:=O _ e;omega,rK:=by have:=a.vol.room;omega,vK:=a.vlt.1,gK:=by have:=a.vol.room;omega,nb:=x6,cw:=qi,len:=by rw [kk];omega,fine:=a.fine,byt:=λz hz=>c.o.2.1.byt z (by rw [E];exact U8 (U2 hz)) }
    have qp:=DB kv HV.o.sh (hs.keep rfl) (he.of_block rfl) kk.symm (m:=(M+43)/44) rfl qx;have q0:dL D d k=(d.drop s).take sz:=(by unfold dL;rw [J,I]);have HR:=hide15 U hs he C qp qg O I b kc a.vol.vol.lt hl kk qc q0;rw [I] at qv C ⊢;have xc:M<=528:=(by omega);have xp:IntKind.i64.wrap ((k:Int)+1)=(k:Int)+1:=(by rw [UF];omega);have xq:IntKind.i64.wrap ((n:Int)-(s:Int))=(n:Int)-(s:Int):=(by rw [UF];omega);clear U b ke kv qh hs he C qp qg O I q5 qk qo hy V ki ha J Q a qm xf kz hr qc qx kc hl x6 qi kx kk q0 E B;go_wp2;go_region_with (first
     | (go_at_call 100;refine HR.o.2.2.2.2.2.1.mono ?_;rintro e wq ⟨rfl,rfl⟩)
     | (go_at_call 99;refine HR.o.2.2.2.2.1.mono ?_;rintro e w6 Y;obtain ⟨u2,x8,x5,_⟩:=Y.ans;have H6:=al Y x5;subst x8;clear Y x5))
    all_goals (
     obtain ⟨Y,kj⟩:=H6.o;have hq:w6.ownsRow w2.heap.size 5 1 (.slice pa s pc) s (aI l):=by
      obtain ⟨_,hs,he,C,_,_,O,I,b,_⟩:=HR.o;rw [I] at C;exact Pc (an C ((T6 _ wr).drew)) (hs.keep rfl) (he.of_block rfl) (by rw [b.psE];exact b.vol) (f.keep _ _ b.kit (λ_ _=>rfl)) Y.out O
     obtain ⟨l2,a⟩:=nM (dL D d k);have k5:Src ZU 1 40 u2 M (aI l2) w6:=by
      have:=JQ kj;rw [HR.o.2.2.2.2.2.2.2.2.2.2.2.2.1,a] at this;exact this
     have HO:=a5 hq k5 (TZ HR.o.1.out.size Y.out.size) a;clear hq k5 Y a kj;go_wp2_with (at_builtin;refine ae _ rfl (.tmp 75) (.tmp 76) 40 40 rfl w2.heap.size 5 ib (Z8 .u8 0) 1 1 Uq qs km ko kp rfl (.slice pa s pc) s (aI l) (by rfl) (by exact HO.o.1) _ (by rfl) M (aI l2) (by exact HO.o.2.1) (by unfold maxLen;omega) (by omega) (by exact HO.o.2.2.1) ?_;intro v7 w7 x0 qq q6;have H7:=al x0 qq;clear x0 qq q6);go_roundw
     case rel=>
      obtain ⟨U,_,_,_,_,_,O,I,b,kc,qh,hl,kk,qc,q0⟩:=HR.o;have qd:(k+1)*sz=s+sz:=(by rw [<- I];exact WY k sz);have B:=H5.o.2.2.2.2;rw [I] at U;refine ⟨k+1,by omega,by go_num,Nd U b H6.o.1 kc HV.o.re ?_ H7.o.2 HO.o.1 O qh lR (by omega) (by omega) (by omega) (by omega)⟩;have h7:=H7.o.1;rw [qd,B,show min (s+sz) n=s+M by omega,acb,<- q0,HO.o.2.2.2,<- I,hl,bO];rw [I];exact h7
     case measure=>simp only [intOf];omega)
  . have xb:k=S.length:=(by omega);subst xb;obtain ⟨C,_,_,⟨f,b⟩,ha,V,_,x3⟩:=U;obtain ⟨_,J,Q,E,B⟩:=H5.o;have qa:d.length<=S.length*sz:=(by rw [B,Q,<- J];exact Pb kg.out.vol.par.d1);rw [acd qa,UJ qa] at C;have q2:aa (λj=>F.S j\/j=v\/ps.bl j) w wr:=(aa.RT H.o _).trans V;have HF:=a5 (And.intro (de C H.o.size) q2) (c.o.1.got q2 ha (b.early H.o.size)) (b.early H.o.size) E;have HS:=al (x3.after (H.o.block _ (c.o.1.vol.arr.RS c.o.1.vol.arr.sg))) (show S.length<=X.2.length/(D*44)+1 by rw [Q,<- B,E];exact RO kg.out.vol.par.d1);clear C ha V q2 b qa J Q E B x3;go_wp2;go_ret2;obtain ⟨⟨h1,h2⟩,h3,h6,E⟩:=HF.o;subst E;exact ⟨_,_,f,rfl,⟨h3,h6.kind,h6.bl⟩,h2,.inr ⟨rfl,hx,X,c.o.2.2.2.2.2,hm,h1⟩,PY h3.vol.arr HS.o.1 (.inr ⟨X,c.o.2.2.2.2.2,hm,HS.o.2⟩)⟩
def Pe {Kind:bf->Prop} {ps:bf} {xs:aX} (h:a9 w ar v p ps D L G t pg ob P xs A F) (d:A2 D L G Kind ps) (x:ByteArray) :
 ZV ZU 71 #[Z7 (Z0 ⟨ar,0,Z1⟩),Z3 x] w (mN w ar v p Kind ps D L G t pg ob P xs A F x):=by
 have c:∀ n:Int,(∀ w',vu xs x w.heap.size (Z6 Z1 0 0) (AP n) w')->∀ e w',A0 w n e w'->mN w ar v p Kind ps D L G t pg ob P xs A F x e w':=by
  rintro n f e w' ⟨rfl,a⟩;exact ⟨_,_,ps,rfl,⟨h.below a,d.kind,λ_ q=>.inl q⟩,aa.RT a _,f w',PY (h.below a).vol.arr (dA.same (a.block _ (h.vol.arr.RS h.vol.arr.sg))) (.inl (by decide))⟩
 cases hx:cj x with
 | false=>exact (Nc h x hx).mono (c 6 λ_=>.inl ⟨rfl,.inl ⟨rfl,hx⟩⟩)
 | true=>
  by_cases b:x∈xs.names
  . obtain ⟨g,j,e⟩:=UZ b;have:xs.names.length=xs.length:=(by rw [<- eJ,bw];simp [aX.os]);exact Pd h d x hx g (by omega) (by rw [<- e];simp [aX.names,aS,aX.os])
  . exact (DC h x hx b).mono (c 9 λ_=>.inl ⟨rfl,.inr ⟨rfl,hx,b⟩⟩)
section
def vv (os:List Ob):∀ x∈aj os,x<256:=by
 intro x a;unfold aj at a;obtain ⟨o,_,a⟩:=Yo.1 a;unfold bP at a;simp only [Un] at a;rcases a with ((h|h)|h)|h
 . exact qI _ _ x h
 . unfold fM at h;rcases Un.1 h with h|h
   . obtain ⟨b,_,rfl⟩:=Ua.1 h;exact b.toNat_lt
   . rw [VM h];decide
 . exact qI _ _ x h
 . obtain ⟨s,_,h⟩:=Yo.1 h;exact qI _ _ x h
def dw (w:ZX) (ar v p:Nat) (ps:bf) (D L G t:Nat) (xs:aX) (A:aC) (F:aH) (Q:Int->Prop) (N:aX->Prop) (e:Ending) (w':ZX):Prop:=
 ∃ er t' pg ob P' xs' B,e=Z4 er/\a9 w' ar v p ps D L G t' pg ob P' xs' B F/\fj A B/\aa (λk=>k=ar\/F.S k) w w'/\((er=.nilIface/\t'=t+1/\N xs')\/(xs'=xs/\t'=t/\∃ n,er=AP n/\Q n))
def wu (D nb:Nat) (xs:aX) (x:ByteArray) (n:Nat) (k:Int):Prop:=
 (cj x=ZY/\k=6)\/(cj x=ZZ/\((1500<n/\k=7)\/(n<=1500/\((x∈xs.names/\k=8)\/(x∉xs.names/\nb<(ah xs.os).length+lq D n+2*AQ D (aj xs.os).length n+2/\k=10)))))
def wA (D nb:Nat) (xs:aX) (x:ByteArray) (d:a8) (xs':aX):Prop:=
 cj x=ZZ/\d.length<=1500/\x∉xs.names/\(ah xs.os).length+lq D d.length+2*AQ D (aj xs.os).length d.length+2<=nb/\∃ o:Ob,o.name=x/\xs'=xs.ins (o,d)
structure cy (w w1:ZX) (ar v p:Nat) (ps:bf) (D L G t:Nat) (pg ob:ZW) (P:a8) (xs:aX) (A:aC) (F:aH) (x:ByteArray) (d fr:a8) (g cnt pgn c1:Nat):Prop where
 live:a9 w ar v p ps D L G t pg ob P xs A F
 tl:t<1000000
 out:aa F.S w w1
 arr:az w1 p (A.wrTo D L G (fr.take cnt) (dL D d) cnt) F
 nm:cj x=ZZ
 no:x∉xs.names
 dl:d.length<=1500
 dx:∀ b∈d,b<256
 c:cnt=lq D d.length
 pn:pgn=AQ D (aj xs.os).length d.length
 f:fr=(aY (tk A.nb (P++ah xs.os)).1 A.nb).take (cnt+pgn)
 fl:fr.length=cnt+pgn
 room:(ah xs.os).length+cnt+2*pgn+2<=A.nb
 s:bg (λk=>ar<k/\¬ F.S k/\¬ ps.bl k) w1 (Z6 (Z0 ⟨g,0,Z1⟩) cnt cnt) (fr.take cnt)
 q:bg (λk=>ar<k/\¬ F.S k/\¬ ps.bl k) w1 (Z6 (Z0 ⟨g,cnt,Z1⟩) pgn c1) (fr.drop cnt)
section
variable {w w1:ZX} {ar v p D L G t:Nat} {ps:bf} {pg ob:ZW} {P:a8} {xs:aX} {A:aC} {F:aH} {x:ByteArray} {d fr:a8} {g cnt pgn c1:Nat}
def kX (x:ByteArray) (d fr:a8) (cnt:Nat):Ob:=⟨x,d.length,fr.take cnt⟩
def cy.stl (h:cy w w1 ar v p ps D L G t pg ob P xs A F x d fr g cnt pgn c1):(fr.take cnt).length=cnt:=by rw [Us,h.fl];omega
def cy.pgl (h:cy w w1 ar v p ps D L G t pg ob P xs A F x d fr g cnt pgn c1):(fr.drop cnt).length=pgn:=by rw [Ur,h.fl];omega
def cy.apart (h:cy w w1 ar v p ps D L G t pg ob P xs A F x d fr g cnt pgn c1):(fr++(P++ah xs.os)).Nodup/\∀ b∈fr++(P++ah xs.os),2<=b/\b<A.nb:=by
 rw [h.f];exact nC h.live.disk.nod h.live.disk.TM _
def cy.Tz (h:cy w w1 ar v p ps D L G t pg ob P xs A F x d fr g cnt pgn c1):jR D (kX x d fr cnt,d):=by
 have e:1<=x.size/\x.size<=16:=by have:=h.nm;unfold cj at this;exact Wx this
 refine ⟨⟨e,h.dl,λb a=>?_,?_⟩,?_,rfl,h.dx⟩
 . have:=(h.apart.2 b (UO _ (U2 a))).2;have:=h.live.nb;omega
 . show (fr.take cnt).length<=1000;rw [h.stl,h.c];have:=AR h.live.vol.par.d1 h.dl;omega
 . show (fr.take cnt).length=_;rw [h.stl,h.c];rfl
def cy.packed (h:cy w w1 ar v p ps D L G t pg ob P xs A F x d fr g cnt pgn c1):(aj (xs.ins (kX x d fr cnt,d)).os).length=(aj xs.os).length+(19+4*cnt):=by
 rw [Jr];have e:(bP (kX x d fr cnt)).length=19+4*(fr.take cnt).length:=di h.Tz.fit;rw [h.stl] at e;exact UB _ e
def cy.kept (h:cy w w1 ar v p ps D L G t pg ob P xs A F x d fr g cnt pgn c1):eN (λk=>ar<k/\¬ F.S k/\¬ ps.bl k) w w1:=⟨h.out.size,λk a hK=>h.out.block k a hK.2.1⟩
def Ng (h:cy w w1 ar v p ps D L G t pg ob P xs A F x d fr g cnt pgn c1) :
 ZV ZU 130 #[ob,Z8 Z9 (aL xs.names x:Nat),.agg #[Z3 x,Z8 Z9 (d.length:Nat),Z6 (Z0 ⟨g,0,Z1⟩) cnt cnt]] w1 (uO (λk=>ar<k/\¬ F.S k/\¬ ps.bl k) w1 (xs.ins (kX x d fr cnt,d)).os):=by
 have hl:xs.os.length=xs.names.length:=by rw [<- eJ,bw]
 have a:=Di (h.live.cat.keep h.kept) (by have:=h.live.Sq.1;omega) (λk b=>⟨by have:=h.live.arc.lt;have:=h.out.size;omega,λe=>by have:=h.live.vol.arr.RS e;have:=h.out.size;omega,λe=>by have:=ps.lt _ h.live.kit _ e;have:=h.out.size;omega⟩) (i:=aL xs.names x) (by rw [hl];exact yu _ _) (kX x d fr cnt) _ h.s;rw [MA];exact a
def cy.n (h:cy w w1 ar v p ps D L G t pg ob P xs A F x d fr g cnt pgn c1):wA D A.nb xs x d (xs.ins (kX x d fr cnt,d)):=⟨h.nm,h.dl,h.no,by rw [<- h.c,<- h.pn];exact h.room,_,rfl,rfl⟩
theorem FV (h:cy w w1 ar v p ps D L G t pg ob P xs A F x d fr g cnt pgn c1) {w2:ZX} {u:ZW} (j:fa (λk=>ar<k/\¬ F.S k/\¬ ps.bl k) w2 u (xs.ins (kX x d fr cnt,d)).os) (l:bW w1 w2) :
 ZV ZU 105 #[Z7 (Z0 ⟨ar,0,Z1⟩),u,Z6 (Z0 ⟨g,cnt,Z1⟩) pgn c1] w2 (dw w ar v p ps D L G t xs A F (wu D A.nb xs x d.length) (wA D A.nb xs x d)):=by
 obtain ⟨oo,Z,rfl,hol,_⟩:=id j;have hr:=h.live.vol.par;have C:=h.stl;have f:=h.pgl;have i:=Rz A D L G (fr.take cnt) (dL D d) cnt;have r:aa F.S w w2:=h.out.trans (aa.RT l _);have m:=h.live.disk;have k6:1<=pgn:=by rw [h.pn];unfold AQ pgs;omega
 have W:fr.drop cnt≠[]:=λe=>by rw [e] at f;simp at f;omega
 have Q:∀ b∈fr.drop cnt,b<A.nb:=λb X=>(h.apart.2 b (UO _ (U8 X))).2;have K:=h.packed;have h4:=h.live.Sq.1;have h5:xs.os.length=xs.length:=by simp [aX.os]
 have R:(aj (xs.ins (kX x d fr cnt,d)).os).length<=1000000:=by
  have h2:=AR hr.d1 h.dl;have h3:=ji (xs:=xs) hr.d1 m.fits;have h6:1500/(D*44)<=34:=by
   have:=hr.d1;have:1500/(D*44)<=1500/44:=abK (by omega) (by decide);omega
  have h7:xs.length*(19+4*(1500/(D*44)+1))<=1000*(19+4*(34+1)):=Xm (by omega) (by omega);rw [K,h.c];omega
 have hs:(fr.drop cnt).length=pgs D (aj (xs.ins (kX x d fr cnt,d)).os).length:=by rw [f,h.pn,K,h.c];rfl
 have O:∀ o∈(xs.ins (kX x d fr cnt,d)).os,o.fit:=λo ho=>by
  obtain ⟨y,V,rfl⟩:=Ua.1 ho;rcases Uz.1 ((jS xs (kX x d fr cnt,d)).mem_iff.1 V) with e|e
  . rw [e];exact h.Tz.fit
  . exact (m.fits y e).fit
 have T:(xs.ins (kX x d fr cnt,d)).os.length<=10000:=by
  have:=(jS xs (kX x d fr cnt,d)).length_eq;have e:(xs.ins (kX x d fr cnt,d)).os.length=(xs.ins (kX x d fr cnt,d)).length:=by simp [aX.os]
  rw [e,this,UG];omega
 have U:az w2 p (A.wrTo D L G (fr.take cnt) (dL D d) cnt) F:=h.arr.below l lR;have M:bg (λk=>ar<k/\¬ F.S k/\¬ ps.bl k) w2 (Z6 (Z0 ⟨g,cnt,Z1⟩) pgn c1) (fr.drop cnt):=h.q.keep (eN.RU l);have E:=nz (w:=w2) (h.live.arc.keep (r.block _ h.live.arc.lt h.live.nar)) (h.live.vol.turn r U i.n) (i.fine h.live.fine) h.live.nar
  oo _ Z (aj (xs.ins (kX x d fr cnt,d)).os) (vv _) R (uo j.any O T) g cnt c1 (fr.drop cnt) (by rw [f];exact M.TG λk a=>a.2.1) W (by rw [i.nb];exact Q) (λk a=>Dj hr.d1 (by rw [<- hs];exact a))
 rw [f] at E;have Y:nx t=t+1:=by have:=h.tl;unfold nx;omega
 refine E.mono ?_;rintro e w3 ⟨s,rfl,H,J⟩;have z:aa (λk=>k=ar\/F.S k) w w3:=(r.mono λ_ _ e=>.inr e).trans s
 . have I:eN (λk=>ar<k/\¬ F.S k/\¬ ps.bl k) w2 w3:=⟨s.size,λk a hK=>s.block k a (λe=>e.elim (λq=>by have:=hK.1;omega) hK.2.1)⟩;have B:=MD m (kX x d fr cnt,d) h.Tz h.no hs (by
    show ((fr.take cnt++fr.drop cnt)++(P++ah xs.os)).Nodup;rw [Wl];exact h.apart.1) (by
    show ∀ b∈(fr.take cnt++fr.drop cnt)++(P++ah xs.os),2<=b/\b<A.nb;rw [Wl];exact h.apart.2) (by
    show (ah xs.os).length+(fr.take cnt).length+2*(fr.drop cnt).length+2<=A.nb;rw [C,f];exact h.room)
   have N:(kX x d fr cnt,d).1.RR.length=cnt:=C;rw [N] at B;rw [Y] at H J;have a:=i.trans (AS _ D L G (t+1) (fr.drop cnt) (aj (xs.ins (kX x d fr cnt,d)).os));exact ⟨_,_,_,_,_,_,_,rfl,qC h.live J H z a (by have:=h.tl;omega) B (M.keep I) (j.keep I),a,z,.inl ⟨rfl,rfl,h.n⟩⟩
end
def Nh {ps:bf} {xs:aX} (h:a9 w ar v p ps D L G t pg ob P xs A F) {n cnt pgn:Nat} (k:cnt=lq D n) (o:pgn=AQ D (aj xs.os).length n) (c:(ah xs.os).length+cnt+2*pgn+2<=A.nb) :
 ZV ZU 102 #[Z7 (Z0 ⟨ar,0,Z1⟩),Z8 Z9 ((cnt:Int)+(pgn:Int))] w λe w'=>∃ g cap,e=Z4 (Z2 #[Z6 (Z0 ⟨g,0,Z1⟩) (cnt+pgn) cap,.bool ZZ])/\w'.ownsRow w.heap.size 3 1 (Z6 (Z0 ⟨g,0,Z1⟩) (cnt+pgn) cap) (cnt+pgn) (jV ((aY (tk A.nb (P++ah xs.os)).1 A.nb).take (cnt+pgn)))/\((aY (tk A.nb (P++ah xs.os)).1 A.nb).take (cnt+pgn)).length=cnt+pgn/\cnt+pgn<=cap/\w.heap.size<=g/\g<w'.heap.size/\bW w w':=by
 have j:=Fv h.disk (count:=cnt) (pages:=pgn) (l:=19+4*lq D n) o c;have:=h.nb;have:1<=cnt:=by rw [k];unfold lq;omega
 have a:=lO h.arc h.vol.vol h.vol.arr h.n0 P xs.os h.pgs.any h.cat.any (cnt+pgn) (by omega);rw [U1 j,YH] at a;have b:((aY (tk A.nb (P++ah xs.os)).1 A.nb).take (cnt+pgn)).length=cnt+pgn:=by rw [Us];omega
 rw [b] at a;refine a.mono ?_;rintro e w' ⟨u,rfl,ho,d⟩;rcases ho.2 with ⟨_,q⟩|⟨g,cap,cur,rfl,f,m,i,_⟩
 . omega
 . exact ⟨g,cap,rfl,ho,b,i,f,(T5.1 m).1,d⟩
def JS {e:TypeId} {b c:ZW} (h:ai w q e [a,b,c]):ai (((w.setCell ⟨q,0,Z1⟩ a').setCell ⟨q,1,Z1⟩ b').setCell ⟨q,2,Z1⟩ c') q e [a',b',c']:=
 ai.set h 0 [a',b',c'] (by simp)
def JT {b c:ZW} (h:Below w7.drew.heap.size w7.drew w8):∃ q,Value.pointer (Z0 ⟨w8.heap.size,0,Z1⟩)=Z7 (Z0 ⟨q,0,Z1⟩)/\ai (w8.alloc (Z5 #[a,b,c] 152)) q 152 [a,b,c]/\w7.heap.size<=q/\bW w7 (w8.alloc (Z5 #[a,b,c] 152)):=by
 have d:bW w7 w8:=(T6 _ w7).drew.trans h;exact ⟨_,rfl,UN w8 _,d.size,d.alloc d.size _⟩
def JU {b c:ZW} (h:Below (w7.drew.alloc (Z5 #[a',b',c'] 152)).heap.size (w7.drew.alloc (Z5 #[a',b',c'] 152)) w8) (f:ai w8 w7.heap.size 152 [a',b',c']):∃ q,Value.pointer (Z0 ⟨w7.heap.size,0,Z1⟩)=Z7 (Z0 ⟨q,0,Z1⟩)/\ai (((w8.setCell ⟨w7.heap.size,0,Z1⟩ a).setCell ⟨w7.heap.size,1,Z1⟩ b).setCell ⟨w7.heap.size,2,Z1⟩ c) q 152 [a,b,c]/\w7.heap.size<=q/\bW w7 (((w8.setCell ⟨w7.heap.size,0,Z1⟩ a).setCell ⟨w7.heap.size,1,Z1⟩ b).setCell ⟨w7.heap.size,2,Z1⟩ c):=by
 have d:bW w7 (w7.drew.alloc (Z5 #[a',b',c'] 152)):=(T6 _ w7).drew.alloc lR _;have e:bW w7 w8:=d.trans (h.mono d.size);refine ⟨_,rfl,JS f,TY _,?_⟩;exact Xr (p:=⟨w7.heap.size,2,Z1⟩) (Xr (p:=⟨w7.heap.size,1,Z1⟩) (Xr (p:=⟨w7.heap.size,0,Z1⟩) e lR a) lR b) lR c
theorem Pf {ps:bf} {xs:aX} (h:a9 w ar v p ps D L G t pg ob P xs A F) (kx:t<1000000) (x:ByteArray) (ao:Option Addr) (c:Nat) (d:a8) (hd:∀ w',aa F.S w w'->Bs w' (.slice ao d.length c) d) (ki:d.length<=c) :
 ZV ZU 96 #[Z7 (Z0 ⟨ar,0,Z1⟩),Z3 x,.slice ao d.length c] w (dw w ar v p ps D L G t xs A F (wu D A.nb xs x d.length) (wA D A.nb xs x d)):=by
 obtain ⟨n,b⟩:=nM (d.length);rw [b];have ks:∀ w' j,bW w w'->wu D A.nb xs x n j->dw w ar v p ps D L G t xs A F (wu D A.nb xs x n) (wA D A.nb xs x d) (Z4 (AP j)) w':=λw' j hb hq=>⟨_,_,_,_,_,_,_,rfl,h.below hb,fj.refl A,aa.RT hb _,.inr ⟨rfl,rfl,j,rfl,hq⟩⟩;have J:=a6 hd b ki kx ks;clear hd b ki kx ks;obtain ⟨_,_,_,_,c8⟩:=h.arc.cells;have q6:=h.find x;obtain ⟨k,m⟩:=nM (aL xs.names x);obtain ⟨i,B⟩:=nM (mS xs.os x);rw [m,B] at q6;have kr:=al m B;have E:=ak h;clear m B h;go_enter func96,ntmps96;go_wp2_with fail;refine q6.mono ?_;rintro e w1 ⟨rfl,hb⟩;have H:=ak hb;clear hb q6 c8;go_wp2_with fail;refine (jT x w1).mono ?_;rintro e w2 ⟨rfl,rfl⟩;cases hx:cj x
 . dsimp only;go_wp2;go_ret;exact J.o.2.2.2.2 _ 6 H.o (.inl ⟨hx,rfl⟩)
 by_cases U:1500<n
 . have qy:(1500:Int)<(n:Int):=(by omega);dsimp only;go_wp2;go_ret;exact J.o.2.2.2.2 _ 7 H.o (.inr ⟨hx,.inl ⟨U,rfl⟩⟩)
 have qy:¬ (1500:Int)<(n:Int):=by omega
 replace U:n<=1500:=by omega
 by_cases T:x∈xs.names
 . have B:=E.o.there T;rw [kr.out.2] at B;subst B;have HM:=ak T;clear T kr;dsimp only;go_wp2;go_ret;exact J.o.2.2.2.2 _ 8 H.o (.inr ⟨hx,.inr ⟨U,.inl ⟨HM.o,rfl⟩⟩⟩)
 have B:=E.o.Sx T;rw [kr.out.2] at B;subst B;have HM:=ak T;clear T;have q5:=E.o.vol.par.d1;have qv:=E.o.vol.par.d;have qx:=E.o.packL_le;have qs:=AR q5 U;have qg:AQ D (aj xs.os).length n<=1000000:=Rx q5 (by omega);have qp:=E.o.Sq.2.1;obtain ⟨len,hz⟩:=nM ((aj xs.os).length);obtain ⟨cnt,hh⟩:=nM (lq D n);obtain ⟨pgn,k0⟩:=nM (AQ D len n);rw [hz] at qg qx;rw [k0] at qg;rw [hh] at qs;have a:=a5 E.o hh k0 hz;clear hz hh k0 E;dsimp only;have Y:=a.o.1.below H.o;obtain ⟨d0,_,d6,_,_⟩:=Y.arc.cells;rw [a.o.2.2.2] at d6;have qb:=dJ Y.vol.vol (by omega);obtain ⟨q,hq⟩:=nM (D*44);rw [hq] at qb;have qa:=m7 n q (by omega) ⟨by omega,by omega⟩ w2;have qf:max 1 ((n+q-1)/q)=cnt:=by rw [<- a.o.2.1,<- hq];rfl
 rw [qf] at qa;have q8:=λW=>gw cnt (by omega) W;obtain ⟨pk,k5⟩:=nM (19+4*cnt);have qh:∀ W,W.heap=w2.heap->ZV ZU 103 #[Z7 (Z0 ⟨ar,0,Z1⟩),Z8 Z9 ((len:Int)+(pk:Int))] W λe w'=>e=Z4 (Z8 Z9 (pgn:Nat))/\w'=W:=λW hW=>by
  have:=jf (w:=W) (Y.arc.keep (by rw [hW])) (Y.vol.vol.keep (by rw [hW])) q5 (by omega) (len+(19+4*cnt)) (by omega);have e:YI D (len+(19+4*cnt))=pgn:=by rw [<- a.o.2.2.1,<- a.o.2.1];rfl
  rw [e,k5,YH] at this;exact this
 rw [k5] at q8;have x4:pk<=200:=by omega
 have x7:IntKind.i64.wrap ((len:Int)+(pk:Int))=(len:Int)+(pk:Int):=by rw [UF];omega
 have HP:=aE Y q8 qh;clear Y q8 qh qf hq k5;go_wp2_with fail;refine qb.mono ?_;rintro e w3 ⟨rfl,rfl⟩;clear qb;go_wp2_with fail;refine qa.mono ?_;rintro e w4 ⟨rfl,rfl⟩;clear qa;go_wp2_with fail;go_quiet (first|(go_at_call 126;refine Ys (HP.o.2.1 _))|(go_at_call 103;refine Ys (HP.o.2.2 _ rfl)));have q2:bW w4 (w4.drewN nq):=⟨rfl,rfl,rfl,TY _,λ_ _=>rfl⟩;have hs:=HP.o.1.below q2;have kv:=Cz hs.arc hs.vol.vol hs.vol.arr hs.n0 xs.os hs.cat.any (by omega) cnt pgn (by omega) (by omega);have I:=al hs (H.o.trans (q2.mono H.o.size));clear q2 hs d0 d6;obtain ⟨w5,qo⟩:=nM (w4.drewN nq);rw [qo] at kv I ⊢;clear qo;go_wp2_with fail;refine kv.mono ?_;rintro e w6 ⟨rfl,kg⟩;by_cases M:(ah xs.os).length+cnt+2*pgn+2<=A.nb;rotate_left
 . rw [Vz M];have r:=al M (I.o.2.trans (kg.mono I.o.2.size));clear kg kv I M;dsimp only;go_wp2;go_ret;exact J.o.2.2.2.2 _ 10 r.out.2 (.inr ⟨hx,.inr ⟨U,.inr ⟨HM.o,by have h1:=r.out.1;have h2:=a.o.2.1;have h3:=a.o.2.2.1;rw [<- a.o.2.2.2] at h3;rw [h2,h3];omega,rfl⟩⟩⟩)
 rw [U1 M];have q7:=I.o.1.below kg;have qn:=Nh q7 (n:=n) (cnt:=cnt) (pgn:=pgn) a.o.2.1.symm (by rw [a.o.2.2.2];exact a.o.2.2.1.symm) M;have kz:=ak M;clear M;have r:=al q7 (I.o.2.trans (kg.mono I.o.2.size));clear kg kv I q7;dsimp only;have x8:IntKind.i64.wrap ((cnt:Int)+(pgn:Int))=(cnt:Int)+(pgn:Int):=by rw [UF];omega
 go_wp2_with fail;refine qn.mono ?_;rintro e w7 ⟨g,cap,rfl,Z,f,qq,ko,kp,V⟩;have HT:=a7 Z f ko kp V (r.out.1.below V);clear qn Z f ko kp V;have k1:cnt<=cap:=by omega
 have k3:(cnt:Int)<=(cap:Int):=by omega
 dsimp only;go_upto_region 15 with fail;have qz:1<=x.size/\x.size<=16:=by have:=hx;unfold cj at this;exact Wx this
 have qk:=uN x w7.drew (by omega) (by omega);have qm:=uN x (w7.drew.alloc (Z5 #[.string ⟨#[]⟩,Z8 Z9 0,Z6 Z1 0 0] 152)) (by omega) (by omega);have qe:ai (w7.drew.alloc (Z5 #[.string ⟨#[]⟩,Z8 Z9 0,Z6 Z1 0 0] 152)) w7.heap.size 152 [.string ⟨#[]⟩,Z8 Z9 0,Z6 Z1 0 0]:=UN w7.drew _;have HS:=aE qk qm qe;clear qk qm qe qz;go_cut [13] from 72 to 80 (λqr wx=>∃ q,qr=Z7 (Z0 ⟨q,0,Z1⟩)/\ai wx q 152 [Z3 x,Z8 Z9 (n:Nat),Z6 (Z0 ⟨g,0,Z1⟩) cnt cnt]/\w7.heap.size<=q/\bW w7 wx)
 case first=>
  go_region_with (first
   | (go_at_call 128;refine HS.o.1.mono ?_;rintro e w8 ⟨rfl,X⟩;have H8:=ak X;clear X)
   | (go_at_call 128;refine HS.o.2.1.mono ?_;rintro e w8 ⟨rfl,X⟩;have K:ai w8 w7.heap.size 152 [.string ⟨#[]⟩,Z8 Z9 0,Z6 Z1 0 0]:=HS.o.2.2.keep (X.block _ HS.o.2.2.lt);have z0:=K.cell (j:=0) (u:=.string ⟨#[]⟩) rfl;have z1:=K.cell (j:=1) (u:=Z8 Z9 0) rfl;have z2:=K.cell (j:=2) (u:=Z6 Z1 0 0) rfl;have y0:=K.Sa 0;have y1:=K.Sa 1;have y2:=K.Sa 2;have H9:=al X K;clear X K))
  all_goals first
   | (go_wp2_with fail;go_meet;case rel=>exact JT H8.o)
   | (go_wp2_with fail;go_meet;case rel=>exact JU H9.o.1 H9.o.2)
 case rest=>
  obtain ⟨q,rfl,s,x5,kh⟩:=hcut;have x0:=s.cell (j:=0) (u:=Z3 x) rfl;have x1:=s.cell (j:=1) (u:=Z8 Z9 (n:Nat)) rfl;have x2:=s.cell (j:=2) (u:=Z6 (Z0 ⟨g,0,Z1⟩) cnt cnt) rfl;obtain ⟨fr,N⟩:=nM ((aY (tk A.nb (P++ah xs.os)).1 A.nb).take (cnt+pgn));rw [N] at HT;obtain ⟨Z,f,ko,kp,V,O⟩:=HT.o;have l:=O.below kh;have hg:bW w w7:=r.out.2.trans (V.mono r.out.2.size);have R:bW w wc:=hg.trans (kh.mono hg.size);have hp:ar<g/\¬ F.S g/\¬ ps.bl g:=⟨by have:=r.out.1.arc.lt;omega,λe=>by have:=r.out.1.vol.arr.RS e;omega,λe=>by have:=ps.lt _ r.out.1.kit _ e;omega⟩;have km:¬ F.S q:=λe=>by have:=O.vol.arr.RS e;omega
  have x6:=O.nb;have q9:∀ c1,bg (λk=>ar<k/\¬ F.S k/\¬ ps.bl k) wc (Z6 (Z0 ⟨g,0,Z1⟩) cnt c1) (fr.take cnt):=λc1=>(yJ Z f hp (by have:=kz.out;omega)).keep (eN.RU kh);have kk:∀ c1,bg (λk=>ar<k/\¬ F.S k/\¬ ps.bl k) wc (Z6 (Z0 ⟨g,cnt,Z1⟩) pgn c1) (fr.drop cnt):=λc1=>(Jw Z f hp (by have:=kz.out;omega)).keep (eN.RU kh);have k6:(fr.take cnt).length=cnt:=by rw [Us,f];omega
  have q1:=nC O.disk.nod O.disk.TM (cnt+pgn);rw [N] at q1;have hr:=O.vol.par;obtain ⟨hd,b,ki,kx,ks⟩:=J.o;have ky:=rN l.arc l.vol l.fine l.nar x _ (fr.take cnt) ((q9 cnt).TG λk m=>m.2.1) (λy hy=>(q1.2 y (UO _ (U2 hy))).2) ao c d (λw' hO=>hd w' ((aa.RT R _).trans hO)) (by omega) ki (λk m=>by
   rw [k6,<- a.o.2.1] at m;rw [b];exact Dk hr.d1 m)
  unfold ER at ky;rw [k6,b] at ky;have H9:=hide9 l R s km q9 kk f N b;have x3:1<=pgn:=by rw [<- a.o.2.2.1];unfold AQ pgs;omega
  clear s kh Z f ko kp V O l hg R hp km q9 kk k6 q1 hr hd b ki kx ks N HT HS HP H x5;go_wp2_with fail;refine ky.mono ?_;rintro e C ⟨rfl,kb,Q⟩;obtain ⟨l,R,s,km,qj,qi,f,N,b⟩:=H9.o;have hc:ai C q 152 _:=s.keep (Q.block _ s.lt km);have xd:=hc.cell (j:=0) (u:=Z3 x) rfl;have xe:=hc.cell (j:=1) (u:=Z8 Z9 (n:Nat)) rfl;have xf:=hc.cell (j:=2) (u:=Z6 (Z0 ⟨g,0,Z1⟩) cnt cnt) rfl;have ke:=l.arc.keep (Q.block _ l.arc.lt l.nar);obtain ⟨_,_,_,_,y8⟩:=ke.cells;have qd:aa (F.S) w C.drew:=(aa.RT R _).trans (Q.trans (aa.drew _));have q0:eN (λk=>ar<k/\¬ F.S k/\¬ ps.bl k) wc C.drew:=⟨Q.size,λk m hK=>Q.block k m hK.2.1⟩;have q4:∀ z∈d,z<256:=by obtain ⟨_,_,_,_,_,q3,_⟩:=J.o.1 w (aa.refl _ _);exact q3
  have h4:cy w C.drew ar v p ps D L G t pg ob P xs A F x d fr g cnt pgn (cap-cnt):=⟨a.o.1,J.o.2.2.2.1,qd,kb.keep λ_ _=>rfl,hx,HM.o,by rw [b];exact U,q4,by rw [b];exact a.o.2.1.symm,by rw [b,a.o.2.2.2];exact a.o.2.2.1.symm,N.symm,f,kz.out,(qj _).keep q0,(qi _).keep q0⟩;have qc:=Ng h4;rw [b,kr.out.1] at qc;have HR:=al qc h4;clear qc h4 hc qd q0 l R s km qj qi f N b kb Q ky x0 x1 x2 ke;have k4:¬ cap=cnt:=by omega
  go_wp2_with fail;go_region_with (first
   | (go_at_call 130;refine HR.o.1.mono ?_;rintro e xb ⟨u,rfl,kc,kf⟩;have HC:=ak (FV HR.o.2 kc kf);clear kc kf)
   | (go_at_call 105;refine HC.o.mono ?_;rintro e xc ⟨er,t',xa,x9,P',xs',B',rfl,kj⟩;have HF:=ak kj;clear kj))
  all_goals (
   rw [J.o.2.1] at HF;go_wp2;go_ret;exact ⟨_,_,_,_,_,_,_,rfl,HF.o⟩)
end
