import Derived.Test.YtlmpfffdmicbfaaGreatDoorM07
import Derived.Deep.CutBlock
import Derived.SizedLaws
set_option maxRecDepth 100000
set_option linter.all false
set_option maxHeartbeats 8000000
open Go.IntKind renaming i64 -> O, u64 -> Z8
open Go.Value renaming int -> I, pointer -> Z6, slice -> Z5, bool -> Z1, string -> Z0, tuple -> ZZ
open Go.Obj renaming cells -> Z4
open Go.Ending renaming returned -> Z3
open Option renaming none -> ZY, some -> U
open Bool renaming true -> J, false -> ZV
open Go renaming World -> ZU, Value -> ZT, Calls -> ZS, Ending -> ZR, TypeId -> ZQ, Boxed -> ZP
open List renaming range -> YE, getElem_range -> YG
open ByteArray renaming empty -> YF
open Int renaming natCast_emod -> YH
open Go.Proofs.Tryz renaming prog -> ZO
open Go.Proofs.Tryz
namespace Go.Proofs.YtlmpfffdmicbfaaGreatDoor
def Yp:=@Go.World.cell?_spot
def VR:=@Go.WideShapes.add_plain
def Xa:=@Go.DataW.trod_int
def adB:=@Go.World.cells?_some
end Go.Proofs.YtlmpfffdmicbfaaGreatDoor
namespace Go.Proofs.YtlmpfffdmicbfaaGreatDoor
open Go.RowKit Go.Deep Go.Shelf Gf
variable {A:an}{C C':an->Prop}{x:ByteArray}{e:ZR}{F F':aC}{cache sure aft:Int}{ps:aN}{Kind:aN->Prop}{Q:List (ByteArray×ZT)}{M:List (Nat×Nat)}{l P d:a7}{os:List Ob}{i D L G t f n ar v p tt wb r blocks b c sa B B' rb q nb m g k S r1 r2 len0 cap0:Nat}{z:Nat×Nat}{R:Nat->Option bF}{X:Ob×a7}{xs':aF}{ao:Option Addr}{lk:Prop}{H α:Type}{T:ZQ}{pg ob u a s out want rv dv rr av:ZT}{Er:ZT->Prop}{w w' w0 w1 KW wx wr w3 w2 w5 W:ZU}
def qM:∀k,(∀i,i<k->R i=ZY\/R i=U .blank)->bx R k=⟨0,0,0,0,0,0⟩|0,_=>rfl|k+1,h=>by show mW (bx R k) (R k)=_;rw[qM k λi a=>h i V];rcases h k V with e|e<;>rw[e]<;>rfl
def td(h:R i=U .blank):∀k,i<k->(cQ R k).testBit i=J
 |0,hi=>absurd hi (WK _)|k+1,hi=>by
  show(GB (cQ R k) k (R k)).testBit i=J;by_cases e:i=k;.subst e;rw[h];show(cQ R i|||2^i).testBit i=J;simp
  . have ih:=td h k V;cases hb:ub (R k);.rw[Iy hb];exact ih
    . have a:GB (cQ R k) k (R k)=cQ R k|||2^k:=by cases hR:R k with|none=>rw[hR]at hb;cases hb|some r=>cases r<;>first|rfl|(rw[hR]at hb;cases hb)
      rw[a,V4,ih,Bool.true_or]
def sq{lost:Nat}(b:D<=12)(c:G<=4)(h:∀i,i<D+L+G->lost/2^i%2=0):dZ D L G lost:=l9.TH (mj (λl hl=>mO D L G b c l (py _ _ _ Zc l hl)) 0) λj a=>aO.mem (iW j) ((ku _ _ _ _).2 ⟨j,V,h j V,by rw[CV D L G j a,CU D j a]⟩)
def QG(x:Nat)(h:x<2^64):(2^64-1)^^^x=2^64-1-x:=by
 refine XQ λi=>?_;rw[ac2,Xy,(V:2^64-1-x=2^64-(x+1)),Xx h];by_cases a:i<64;.simp[a]
 .have:x.testBit i=ZV:=Ww (TY h (UY ec V));simp[a,this]
def QH(x:Nat)(h:x<18446744073709551616):bits .xor .u64 IntKind.u64.max (x:Int)=((18446744073709551615-x:Nat):Int):=by have:=bits_xor_u64_nat 18446744073709551615 x ec h;rw[(ec:(18446744073709551615:Nat)=2^64-1),QG x V]at this;exact this
theorem te(d:0<t):∀k,(∀i,i<k->O1 (R i) (.root D L G t f n))->(bx R k=⟨D,L,G,t,f,n⟩)\/((bx R k).t<t/\∀i,i<k->R i≠U (.root D L G t f n))
 |0,_=>.inr ⟨d,λ_ h=>absurd h (WK _)⟩|k+1,h=>by
  show(mW (bx R k) (R k)=_)\/((mW (bx R k) (R k)).t<t/\_);have ih:=te d k λi g=>h i V;have a:R k≠U (.root D L G t f n)->(∀i,i<k->R i≠U (.root D L G t f n))->∀i,i<k+1->R i≠U (.root D L G t f n):=λb c i g=>by
   by_cases e:i=k;.rw[e];exact b
   .exact c i V
  rcases h k V with e|e|e|⟨j,m,l,r,o,n0,t',f',p,b,c,e⟩;.rw[e];exact ih.imp id λq=>⟨q.1,a (by rw[e];simp) q.2⟩
  .rw[e];exact ih.imp id λq=>⟨q.1,a (by rw[e];simp) q.2⟩
  . rw[e];refine .inl ?_;rcases ih with q|q;.rw[q];exact TS (Nat.lt_irrefl _)
    .exact TT q.1
  . cases c;rw[e];rcases ih with q|q;.exact .inl (by rw[q];exact TS (by show¬t<t';omega))
    . refine .inr ⟨?_,a (by rw[e];simp;omega) q.2⟩;show(if(bx R k).t<t' then _ else bx R k:Rt).t<t;split;.exact b
      .exact q.1
def Beg(F:aC)(A:an)(D L G t:Nat)(xs:aF):Prop:=(t=1/\xs=[]/\F.pw=J/\A.at 0 λ_=>.blank)\/(t<=1000000/\∃P,eu A D L G t P xs)
def IR{l:Nat}:l/2^i%2=0↔l.testBit i=ZV:=by rw[Wh,decide_eq_false_iff_not];omega
def Oo{xs:aF}(h:Beg F A D L G t xs)(p:A.n=D+L+G)(o:A.n<=16)(l:A.fine D L G):(∃P,t<=1000000/\eu A D L G t P xs/\bx (λi=>A.RR i 0) A.n=⟨D,L,G,t,P.getD 0 0,(aw xs.os).length⟩)\/(bx (λi=>A.RR i 0) A.n=⟨0,0,0,0,0,0⟩/\t=1/\xs=[]/\F.pw=J/\dZ D L G (18446744073709551615-cQ (λi=>A.RR i 0) A.n)):=by
 have hT:=l.1;rcases h with⟨b,a,g,c⟩|⟨m,P,hd⟩
 . refine .inr ⟨qM _ λi d=>?_,b,a,g,zl _ A.sv _ _ D (λi d f=>?_) hT⟩
   . rcases wh c d with q|q|q|⟨_,_,_,_,_,_,_,_,_,_,q,_⟩;.exact .inl q
     .exact .inr q
     .exact .inr q
     .cases q
   have j:=td (R:=λi=>A.RR i 0) (i:=i) (GA c V (IR.1 f)) A.n V;have:=jq (λi=>A.RR i 0) A.n V;have a:=CD (k:=A.n) V;rw[IR];have e:=Xx (x:=cQ (λi=>A.RR i 0) A.n) (n:=64) V i;rw[(V:2^64-(cQ (λi=>A.RR i 0) A.n+1)=18446744073709551615-cQ (λi=>A.RR i 0) A.n),j]at e;rw[e];simp
 . rcases te hd.disk.turn A.n hd.root with q|⟨_,q⟩;.exact .inl ⟨P,m,hd,q⟩
   .obtain⟨i,b,a⟩:=hd.ex;exact absurd a (q i b)
def aP.cut{xs:aF}(h:aP w ar v p ps D L G t pg ob P xs A F):eu A D L G t P xs:=h.disk.cut (by rw[h.vol.n];exact tZ h.vol.par.d1 h.fine.1)
def G3(ho:nP w ar v p ps D L G A F)(l:5<=A.nb)(d:A.nb<=1000)(h:ay w' p (oK A D L G) F)(i:bh w' ar v D L G 1 2 0 u (Z5 ZY 0 0) ZV)(j:bt (λk=>w.heap.size<=k) w' u [2])(b:aa (λk=>k=ar\/F.S k) w w'):aP w' ar v p ps D L G 1 u (Z5 ZY 0 0) [2] [] (oK A D L G) F/\eI A (oK A D L G):=by
 have hv:=ho.vlt;have f:pgs D 0=1:=by unfold pgs;have:=ho.vol.par.d1;rw[Uj,Xu V];rfl
 have a:eI A (oK A D L G):=eI.trans (B:=A.putAt (YE A.n) 1 (λ_=>.filled)) (eI.put _ _ _ _) (BU (A.putAt (YE A.n) 1 (λ_=>.filled)) D L G 1 [2] []);have hd:aX (oK A D L G) D L G 1 [2] []:=rW (B:=A.putAt (YE A.n) 1 (λ_=>.filled)) (P':=[2]) (xs':=[]) ((eI.put _ _ _ _).fine ho.fine) (vV _ _ ho.fine.2) (show[2].length=pgs D 0 from f.symm) ec (λx c=>by
  have:x=2:=by simpa[ah,aF.os]using c
  rw[this];show 2<=2/\2<A.nb;omega) (λx c=>by cases c) List.Pairwise.nil (λx c=>by cases c) (by show 0+2*1+2<=A.nb;omega) ec;exact⟨{arc:=i,fine:=a.fine ho.fine,vol:={ho.vol with vol:=ho.vol.vol.keep (b.block _ ho.vol.vol.lt (λe=>e.elim V ho.vol.v)),arr:=h,laid:=ho.vol.laid.keep (b.block _ ho.vol.laid.lt (λe=>e.elim V ho.vol.g)),tab:=ho.vol.tab.keep (b.block _ ho.vol.tab.lt (λe=>e.elim V ho.vol.t)),room:=TU ho.vol.room b.size,n:=a.n.trans ho.vol.n},nar:=ho.nar,vlt:=ho.vlt,disk:=hd,pgs:=j.wk λk a _=>⟨ia ho.arl,λe=>by have:=ho.vol.arr.RL (k:=k) e;omega,λe=>ia (ps.lt _ ho.kit _ e)⟩,cat:=fA.nil _ _,nb:=by rw[a.nb];exact d,turn:=ec,kit:=ps.keep _ _ ho.kit λk a=>b.block k (ps.lt _ ho.kit k a) (λe=>e.elim (ho.apt k a).2.1 (ho.apt k a).2.2.2),apt:=ho.apt,hl:=ho.hl},a⟩
theorem Oq{xs:aF}(ho:nP w ar v p ps D L G A F)(W:bh w ar v 0 0 0 0 0 0 (Z5 ZY 0 0) (Z5 ZY 0 0) ZV)(hv:xD D L G Kind ps)(q8:5<=A.nb)(hz:A.nb<=1000)(hS:Beg F A D L G tt xs):ZS ZO 79 #[Z6 (U ⟨ar,0,ZY⟩)] w (Oj w ar v p D L G tt Kind ps xs A F):=by
 obtain⟨c0,_⟩:=W.cells;have M:=ho.vol.par;have q7:=ho.vol.n;have hy:A.n<=16:=by rw[ho.vol.n];exact M.s
 have o:=Oo hS q7 hy ho.fine;have ke:∀k,F.S k->k<w.heap.size:=λk Y=>ho.vol.arr.RL Y;have qa:=jj ho.vol 0 V;have HV:=aE ho W ke hS;go_enter func79,ntmps79;go_wp2_with fail;refine qa.mono ?_;rintro e w1⟨g,rfl,hg,V',ky,Z⟩;obtain⟨ho,W,ke,_⟩:=HV.o;have kj:=ho.same Z ky;have k8:=W.keep (Z.block _ W.lt ho.nar);have k9:¬F.S g:=λe=>ia (ke _ e);have ka:=BN (N:=A.n) (λi=>A.RR i 0) V (w:=w1) V';obtain⟨⟨a,l,c,rt,m,x⟩,qd⟩:∃r,bx (λi=>A.RR i 0) A.n=r:=⟨_,rfl⟩;rw[qd]at ka o;rw[show Ku ⟨a,l,c,rt,m,x⟩=aq a l c rt m x from rfl]at ka;have h9:(0<rt/\a=D/\l=L/\c=G)\/rt=0:=by
  rcases o with⟨P,_,hd,q⟩|⟨q,_⟩;.simp only[Rt.mk.injEq]at q;exact .inl ⟨by rw[q.2.2.2.1];exact hd.disk.turn,q.1,q.2.1,q.2.2.1⟩
  .simp only[Rt.mk.injEq]at q;exact .inr q.2.2.2.1
 obtain⟨N,H⟩:=nM (A.n);have H1:=hide7 k8 kj Z V' H k9 o;rw[H]at ka hy;rw[H];go_wp2_with fail;refine ka.mono ?_;rintro e w2⟨rfl,kp⟩;have qh:=rU;obtain⟨k8,kj,Z,V',H,k9,o⟩:=H1.o;have hs:bW w1 (gv w2 a l c rt m x):=kp.trans ((fH w2 a l c rt m x).mono kp.size);have O':=k8.keep (hs.block _ k8.lt);have k5:=kj.below hs;have hq:=V'.of_block (hs.block g V'.lt);have C:=wD w2 a l c rt m x;obtain⟨w3,kx⟩:=nM (gv w2 a l c rt m x);rw[kx]at hs O' k5 hq C;have x0:w3.cell? ⟨w2.heap.size,0,ZY⟩=U (I O a):=Zt;have x1:w3.cell? ⟨w2.heap.size,1,ZY⟩=U (I O l):=Zt;have x2:w3.cell? ⟨w2.heap.size,2,ZY⟩=U (I O c):=Zt;have x3:w3.cell? ⟨w2.heap.size,3,ZY⟩=U (I Z8 rt):=Zt;obtain⟨d0,_⟩:=O'.cells;have kf:aa (F.S) w w3:=Z.trans (aa.RK hs _);have qe:=ga (w:=w3.drew) (k5.vol.vol.keep rfl);have H3:=hide7 O' k5 hq kf kx C qe;have qf:∀w:ZU,(binOp .neq 28 (.agg #[I O D,I O L,I O G]) (.agg #[I O D,I O L,I O G])).run ZO w=.ok (Z1 ZV) w:=λw=>by have h:=N0 D L G D L G w;rw[U4 (by exact⟨rfl,rfl,rfl⟩)]at h;simp only[binOp];simp[Op.equal,Op.maxDepth,h]
 go_upto_region 3 with(show wpList _ _ _ ({dst:=ZY,op:=Op.store 132 (.tmp 4) (.tmp 11),type:=_,pos:=_,after:=_,guard:=_}::_) _ _;refine BM (w:=w2) (D:=a) (L:=l) (G:=c) (t:=rt) (f:=m) (n:=x) rfl (.tmp 4) (.tmp 11) rfl um um ?_;rw[H3.o.2.2.2.2.1]);simp only[Act.put];go_cut[12]from 13 to 25(λqj wx=>bW w3 wx/\qj=Z1 ZV);case first=>
  rcases h9 with⟨kv,rfl,rfl,rfl⟩|h0;.have kk:(rt:Int)>0:=V;have kb:cL (w2.heap.size<w3.drew.heap.size):=ak (Ue x0);go_region_with(go_at_call 105;refine H3.o.2.2.2.2.2.2.mono ?_;rintro e y⟨rfl,hx,_,_⟩;have z:=ak hx;have y0:y.cell? ⟨w2.heap.size,0,ZY⟩=U (I O a):=(hx.cell (p:=⟨w2.heap.size,0,ZY⟩) kb.out).trans x0;have y1:y.cell? ⟨w2.heap.size,1,ZY⟩=U (I O l):=(hx.cell (p:=⟨w2.heap.size,1,ZY⟩) kb.out).trans x1;have y2:y.cell? ⟨w2.heap.size,2,ZY⟩=U (I O c):=(hx.cell (p:=⟨w2.heap.size,2,ZY⟩) kb.out).trans x2;clear hx);all_goals(go_wp2_with fail;go_meet;case rel=>exact⟨(TW _ w3).drew.trans z.o,ej⟩)
  . have qm:w3.cell? ⟨w2.heap.size,3,ZY⟩=U (I Z8 0):=(by rw[x3,h0];rfl);go_quiet(fail);go_wp2_with fail;go_meet;case rel=>exact⟨⟨rfl,rfl,rfl,TV _,λ_ _=>rfl⟩,rfl⟩
 case rest=>
  rename ZU=>y;obtain⟨U',rfl⟩:=hcut;obtain⟨O',k5,hq,kf,_,C,_⟩:=H3.o;have E:=O'.keep (U'.block _ O'.lt);have Q:=k5.below U';have K:=hq.of_block (U'.block g hq.lt);have kz:aa (F.S) w y:=kf.trans (aa.RK U' _);have k6:=(U'.block _ (TX.1 C).1).trans C;have c3:y.cell? ⟨w2.heap.size,3,ZY⟩=U (I Z8 rt):=by simp[World.cell?,k6,aq]
  obtain⟨d4,_⟩:=E.cells;have T:aa (λj=>F.S j\/j=v\/ps.bl j\/j=ar) w y:=kz.mono λ_ _ q=>.inl q;have z:=a5 E Q K T k6;rcases h9 with⟨kk,rfl,rfl,rfl⟩|rfl
  . have qg:(rt:Int)>0:=V;obtain⟨E,Q,K,T,k6⟩:=z.o;obtain⟨_,_,_,_,H,k9,o⟩:=H1.o;obtain⟨P,ht,hd,q⟩:∃P,tt<=1000000/\eu A a l c tt P xs/\(⟨a,l,c,rt,m,x⟩:Rt)=⟨a,l,c,tt,P.getD 0 0,(aw xs.os).length⟩:=by
     rcases o with h|⟨q,_⟩;.exact h
     .simp only[Rt.mk.injEq]at q;omega
    simp only[Rt.mk.injEq,true_and]at q;obtain⟨rfl,rfl,rfl⟩:=q;have km:=GZ Q E hv hz ht hd K k9;rw[H]at km;obtain⟨m,qb⟩:=nM (P.getD 0 0);obtain⟨x,qc⟩:=nM ((aw xs.os).length);rw[qb,qc]at k6 km;have HR:=al km k6;go_wp2_with(show wpList _ _ _ ({dst:=U 32,op:=_,type:=_,pos:=_,after:=_,guard:=_}::_) _ _;refine lL (D:=a) (L:=l) (G:=c) (t:=rt) (f:=m) (n:=x) (b:=w2.heap.size) rfl (.tmp 4) rfl rfl um (by exact HR.o.2) ?_);refine HR.o.1.mono ?_;rintro e w5(hp|hcut);rotate_left;.obtain⟨ch,rfl⟩:=hcut.pan;exact⟨rfl,.inr (hcut.start z.o.2.2.2.1)⟩
    obtain⟨ev,he⟩:∃ev,e=Z3 ev:=by obtain⟨_,_,_,_,_,rfl,_⟩:=hp.ans;exact⟨_,rfl⟩
    subst he;have J':=ak hp;go_wp2;go_ret;obtain⟨qi,pg5,hb,P5,B,k0,k1,k2⟩:=J'.o.ans;exact .inl ⟨z.o.2.2.2.1.trans J'.o.out,qi,pg5,hb,P5,B,k0,⟨k1.1,λk Y=>(k1.2 k Y).imp id λq=>TU z.o.2.2.2.1.size q⟩,k2⟩
  . have qk:y.cell? ⟨w2.heap.size,3,ZY⟩=U (I Z8 0):=c3;go_wp2_with fail;refine(xW z.o.2.1.vol.vol).mono ?_;rintro e w5⟨rfl,kr⟩;obtain⟨E,Q,K,T,_⟩:=z.o;have q0:=K.of_block (kr.block g K.lt);obtain⟨_,_,_,_,H,_,o⟩:=H1.o;have ks:=wE (N:=A.n) (λi=>A.RR i 0) V (w:=w5) q0;obtain⟨X,hX⟩:=nM (cQ (λi=>A.RR i 0) A.n);have q1:X<18446744073709551616:=by have h1:=jq (λi=>A.RR i 0) A.n V;have h2:=CD (k:=A.n) V;omega
    have hT:tt=1/\xs=[]/\F.pw=J/\dZ D L G (18446744073709551615-X):=by
     rcases o with⟨_,_,hd,q⟩|⟨_,h1,h2,h0,h3⟩;.simp only[Rt.mk.injEq]at q;have:=hd.disk.turn;omega
     .exact⟨h1,h2,h0,by rw[<-hX];exact h3⟩
    have key:=QH X q1;rw[hX,H]at ks;have J':=au kr ks hT;go_wp2_with fail;refine J'.o.2.1.mono ?_;rintro e w6⟨rfl,q3⟩;have ki:bW y w6:=J'.o.1.trans (q3.mono J'.o.1.size);have H6:=ak ki;go_wp2_with fail;refine(lX D L G (18446744073709551615-X) M.r M.d M.l1 M.l4 M.g M.div V w6).mono ?_;rintro e w7⟨bb,rfl,q5,q4⟩;obtain⟨E,Q,K,T,_⟩:=z.o;have hh:bW y w7:=H6.o.trans (q4.mono H6.o.size);have q2:=E.keep (hh.block _ E.lt);have R:=Q.below hh;have kg:aa (λj=>F.S j\/j=v\/ps.bl j\/j=ar) w w7:=T.trans (aa.RK hh _);obtain⟨rfl,rfl,q9,hT⟩:=J'.o.2.2;obtain rfl:bb=J:=q5.2 hT;have q6:=J1 q2 R.vol R.nar V R.fine q9;have H7:=au q6 R kg;go_wp2_with fail;refine H7.o.1.mono ?_;rintro e w8⟨rfl,kc,⟨u,kh,ko⟩,k7⟩;have H8:=aE kc kh ko k7;go_wp2;go_ret;obtain⟨kc,kh,ko,k7⟩:=H8.o;obtain⟨_,R,kg⟩:=H7.o;obtain⟨hl,Y⟩:=G3 R q8 hz kc kh ko k7;exact .inl ⟨kg.trans (k7.mono λk _ q=>q.elim (λe=>.inr (.inr (.inr e))) .inl),ps,_,_,_,_,rfl,⟨hv.kind,λ_ q=>.inl q⟩,Y,hl⟩
def abn{sb:Nat}{room:Int}(h:rm w sb room)(D L G:Nat):il w sb room D L G [] []:=by
 obtain⟨c,⟨n,d⟩,f,_⟩:=h.parts;refine⟨c,h.R3,⟨n,d⟩,⟨λ_=>⟨0,0,0,0,ZV,0,Z5 ZY 0 0⟩,λ_=>sb,λ_=>sb,λa b=>?_,⟨rfl,rfl⟩,λq hq=>adX⟩,by simp[kZ],by simp[dm],λe g=>(by cases g),λq hq=>adX,rfl,λq hq=>adX,λq hq=>adX,λq hq=>adX,λq hq=>adX⟩;rcases b with rfl|b;.exact f
 .cases b
def Ot(w:ZU)(p D L G t:Nat)(cache:Int)(xs:aF)(A:an)(F:aC)(ar:Nat)(w':ZU):Prop:=∃v sb ps pg ob P B,aP w' ar v p ps D L G t pg ob P xs B F/\eI A B/\mZ sb cache D L G ps/\w.heap.size<=v/\w.heap.size<=ar/\∀k,ps.bl k->w.heap.size<=k
def QI(w:ZU)(p D L G t:Nat)(xs:aF)(A:an)(F:aC)(e:ZR)(w':ZU):Prop:=e=Z3 (ZZ #[.pointer ZY,eh 13])/\F.pw=ZV/\(∃B,Aw D L G t xs A B/\ix w' p B F)/\aa F.S w w'
def abo(w:ZU)(p D L G t:Nat)(cache:Int)(xs:aF)(A:an)(F:aC)(e:ZR)(w':ZU):Prop:=(aa F.S w w'/\∃ar,e=Z3 (ZZ #[Z6 (U ⟨ar,0,ZY⟩),.nilIface])/\Ot w p D L G t cache xs A F ar w')\/QI w p D L G t xs A F e w'
structure B9(w:ZU)(p D L G t:Nat)(cache:Int)(xs:aF)(A:an)(F:aC):Prop where
 arr:ay w p A F
 n:A.n=D+L+G
 par:xX D L G
 c0:0<=cache
 c1:cache<=64nb:8<=A.nb
 nb2:A.nb<=1000laid:cJ w
 tab:aI w
 room:3<=w.heap.size
 g:¬F.S 2gt:¬F.S 1beg:Beg F A D L G t xs
 fine:A.fine D L G
def B9.below{xs:aF}(h:B9 w p D L G t cache xs A F)(a:bW w w'):B9 w' p D L G t cache xs A F:={h with arr:=h.arr.below a lR,laid:=h.laid.below a h.laid.lt,tab:=h.tab.keep (a.block _ h.tab.lt),room:=TU h.room a.size}
theorem Ou{xs:aF}(HP:B9 w p D L G tt cache xs A F):ZS ZO 58 #[Z6 (U ⟨p,0,ZY⟩),.agg #[I O D,I O L,I O G],.agg #[I O cache]] w (abo w p D L G tt cache xs A F):=by
 obtain⟨h,hn,s,x3,x4,x5,ki,hv,ht,hK,qa,qb,hS,qh⟩:=HP;have qf:∀(args:Array ZT)(w:ZU),(callFunc 79 args).run ZO w=.ok (.enter 79 args) w:=U9 func79 ee rfl;have hq:((w.alloc (Z4 #[I O (D:Int),I O (L:Int),I O (G:Int)] 28)).alloc (Z4 #[I O cache] 101)).heap[w.heap.size]?=U (Z4 #[I O (D:Int),I O (L:Int),I O (G:Int)] 28 (0,0)):=(UE _ _ _ ej).trans (Ug _ _);have ho:((w.alloc (Z4 #[I O (D:Int),I O (L:Int),I O (G:Int)] 28)).alloc (Z4 #[I O cache] 101)).heap[w.heap.size+1]?=U (Z4 #[I O cache] 101 (0,0)):=by have:=Ug (w.alloc (Z4 #[I O (D:Int),I O (L:Int),I O (G:Int)] 28)) (Z4 #[I O cache] 101);rwa[Um]at this
 have C:bW w ((w.alloc (Z4 #[I O (D:Int),I O (L:Int),I O (G:Int)] 28)).alloc (Z4 #[I O cache] 101)):=(bA w _).alloc ej _;have kp:((w.alloc (Z4 #[I O (D:Int),I O (L:Int),I O (G:Int)] 28)).alloc (Z4 #[I O cache] 101)).heap.size=w.heap.size+2:=ej;obtain⟨w2,qv⟩:=nM ((w.alloc (Z4 #[I O (D:Int),I O (L:Int),I O (G:Int)] 28)).alloc (Z4 #[I O cache] 101));rw[qv]at hq ho C kp;have p0:w2.cell? ⟨w.heap.size,0,ZY⟩=U (I O D):=by simp[World.cell?,hq]
 have p1:w2.cell? ⟨w.heap.size,1,ZY⟩=U (I O L):=by simp[World.cell?,hq]
 have p2:w2.cell? ⟨w.heap.size,2,ZY⟩=U (I O G):=by simp[World.cell?,hq]
 have H2:=aE hq ho C kp;go_enter func58,ntmps58;go_wp2_with fail;refine(qX D L G _).mono ?_;rw[s.r];rintro e w3⟨rfl,M⟩;obtain⟨hq,ho,C,kp⟩:=H2.o;have kj:=(M.block _ V).trans hq;have U':=(M.block _ V).trans ho;have J':bW w w3:=C.trans (M.mono C.size);have x2:=M.size;have o0:w3.cell? ⟨w.heap.size+1,0,ZY⟩=U (I O cache):=by simp[World.cell?,U']
 have t:=aE kj U' J' (V:w.heap.size+2<=w3.heap.size);obtain⟨N,kr⟩:=nM (A.n);have fV:=FX (h.below (t.o.2.2.1.trans ((TW _ w3).drew.mono t.o.2.2.1.size)) lR);rw[kr]at fV;have ko:∀X,ZS ZO 10 #[.agg #[I O D,I O L,I O G]] X λe w'=>e=Z3 (I O (N:Nat))/\bW X w':=λX=>by rw[<-kr,hn,(V:((D+L+G:Nat):Int)=(D:Int)+L+G)];have:=s.d;have:=s.l4;have:=s.g;exact cU (D:Int) (L:Int) (G:Int) X ⟨V,V⟩ ⟨V,V⟩ ⟨V,V⟩
 have HD:=al fV ko;have p0:w3.cell? ⟨w.heap.size,0,ZY⟩=U (I O D):=adK;have p1:w3.cell? ⟨w.heap.size,1,ZY⟩=U (I O L):=adK;have p2:w3.cell? ⟨w.heap.size,2,ZY⟩=U (I O G):=adK;go_upto_region 6 with fail;go_cut[21]from 24 to 28(λhb wx=>hb=Z1 ZV/\bW w3 wx);case first=>go_region_with(first|(go_at_call 77;refine HD.o.1.mono ?_;rintro e w'⟨rfl,rfl⟩)|(go_at_call 10;refine(HD.o.2 _).mono ?_;rintro e c⟨rfl,kx⟩;have E:=ak (((TW _ w3).drew).trans kx);clear kx));all_goals(go_wp2_with fail;go_meet;case rel=>exact⟨ej,E.o⟩)
 case rest=>
 rename ZU=>w4;obtain⟨rfl,O'⟩:=hcut;obtain⟨kj,U',J',x2⟩:=t.o;have kk:=(O'.block _ V).trans kj;have qi:=(O'.block _ V).trans U';have he:bW w w4:=J'.trans (O'.mono J'.size);have x7:=O'.size;have qe:=vh (h.below he lR) (ia s.d1);have kh:¬((A.nb:Nat):Int)<8:=V;have q0:w4.cell? ⟨w.heap.size,0,ZY⟩=U (I O D):=by simp[World.cell?,kk]
 have W:w4.cell? ⟨w.heap.size,1,ZY⟩=U (I O L):=by simp[World.cell?,kk]
 have Y:w4.cell? ⟨w.heap.size,2,ZY⟩=U (I O G):=by simp[World.cell?,kk]
 have o4:w4.cell? ⟨w.heap.size+1,0,ZY⟩=U (I O cache):=by simp[World.cell?,qi]
 have H4:=au he qe (V:w.heap.size+2<=w4.heap.size);obtain⟨NB,qc⟩:=nM (A.nb);rw[qc]at H4 kh;go_wp2_with fail;refine H4.o.2.1.mono ?_;rintro e w5⟨rfl,qx⟩;subst qx;go_wp2_with fail;refine(FS p D L G cache w5).mono ?_;rintro e a⟨v,sb,rfl,qp,k9,hs,kv⟩;obtain⟨hf,_,q7⟩:=H4.o;have hg:bW w a:=hf.trans (kv.mono hf.size);have q8:=kv.size;have Q:bW a (a.alloc (Z4 (kF v 0 0 0 0 0 0 (Z5 ZY 0 0) (Z5 ZY 0 0) ZV) 136)):=bA a _;have z:bh (a.alloc (Z4 (kF v 0 0 0 0 0 0 (Z5 ZY 0 0) (Z5 ZY 0 0) ZV) 136)) a.heap.size v 0 0 0 0 0 0 (Z5 ZY 0 0) (Z5 ZY 0 0) ZV:=Ug _ _;obtain⟨c,q6⟩:=nM (a.alloc (Z4 (kF v 0 0 0 0 0 0 (Z5 ZY 0 0) (Z5 ZY 0 0) ZV) 136));rw[q6]at Q z;have i:bW w c:=hg.trans (Q.mono hg.size);have qd:qP c v p D L G (sb+1+1+1) 0 A F:=⟨k9.keep (Q.block _ k9.lt),h.below i lR,hv.below i hv.lt,ht.keep (i.block _ ht.lt),TU hK i.size,λq=>ia (h.RL q),qa,qb,hn,s⟩;have m:∀k,F.S k->k<w.heap.size:=λk f=>h.RL f;have ka:¬F.S a.heap.size:=λq=>ia (m _ q);have V':a.heap.size<c.heap.size:=z.lt;have kz:v<a.heap.size:=k9.lt;have x6:=hs.2.2.lt;obtain⟨hi,hm,ko⟩:=hs;have kf:(kU sb cache D L G [] [] 0).S c:=abn (ko.below Q) D L G;have u:∀k,(kU sb cache D L G [] [] 0).bl k->sb<=k/\k<=sb+1+1+1:=λk f=>by
  rcases f with q|q|⟨q,hq,_⟩;.exact q
  .cases q
  .cases hq
 have qj:nP c a.heap.size v p (kU sb cache D L G [] [] 0) D L G A F:=⟨qd,ka,⟨V,kz⟩,V',kf,λk f=>by have:=u k f;exact⟨V,V,V,λe=>ia (m _ e)⟩,VL _,qh⟩;have qn:xD D L G (mZ sb cache D L G) (kU sb cache D L G [] [] 0):=⟨sn s,λps x f=>by obtain⟨es,qs,ho,rfl⟩:=f;exact⟨es,qs,x,rfl⟩,BZ,⟨[],[],0,rfl⟩⟩;have qm:=mX 79 #[Z6 (U ⟨a.heap.size,0,ZY⟩)] #[] qf c a.heap.size _ z rfl (λw1 x w2=>w2.heap[c.heap.size]?=U (Z4 #[.nilIface] 51 (0,0))/\acf w1 a.heap.size v p D L G tt (mZ sb cache D L G) (kU sb cache D L G [] [] 0) xs A F (Z3 x) w2) (λw1 w2=>F.pw=ZV/\(∃B,Aw D L G tt xs A B/\ix w2 p B F)/\aa (λj=>F.S j\/j=v\/(kU sb cache D L G [] [] 0).bl j\/j=a.heap.size) w1 w2) (λw1 K x1 qg=>(Oq (qj.below K) (z.keep (K.block _ z.lt)) qn V ki hS).mono (by
   have ke:∀w2,aa (λj=>F.S j\/j=v\/(kU sb cache D L G [] [] 0).bl j\/j=a.heap.size) w1 w2->w2.heap[c.heap.size]?=w1.heap[c.heap.size]?:=λw2 y=>y.block _ V (λq=>by
    rcases q with q|q|q|q;.have:=m _ q;omega
    .omega
    .have:=u _ q;omega
    .omega);rintro e w2(l|⟨W,Y,q3,Z,q5⟩);.obtain⟨ps',pg,ob,P,B,rfl,_,_,hl⟩:=id l.ans;exact⟨.inl ⟨_,rfl,.inl rfl,(ke _ l.out).trans qg,l⟩,ke _ l.out,_,hl.arc,rfl⟩
   .exact⟨.inr ⟨⟨W,q3,Z⟩,Y⟩,ke _ Z,q5⟩));have qy:a.alloc (Z4 #[Z6 (U ⟨v,0,ZY⟩),I O 0,I O 0,I O 0,I Z8 0,I O 0,I O 0,Z5 ZY 0 0,Z5 ZY 0 0,Z1 ZV] 136)=c:=q6;have E:=hide10 i m qm u hi hm kz V' q7 q8;have qo:w.heap.size<=v:=V;go_wp2_with fail;refine E.o.2.2.1.mono ?_;rintro e w8⟨x,w1,wl,off,rfl,K,x1,rfl,qk⟩;obtain⟨i,m,_,u,hi,hm,qq,V',q7,q8⟩:=E.o;have hc:bW w w1:=i.trans (K.mono i.size);have x0:=i.size;have ks:aa (λj=>F.S j\/j=v\/(kU sb cache D L G [] [] 0).bl j\/j=a.heap.size) w1 wl->aa (F.S) w wl:=λl=>(aa.RK hc _).later l (λk f q=>by
  rcases q with q|q|q|q;.exact q
  .omega
  .have:=u _ q;omega
  .omega);have h3:∀k,k≠c.heap.size->k≠a.heap.size->((wl.setCell ⟨c.heap.size,0,ZY⟩ x).setCell ⟨a.heap.size,9,ZY⟩ (Z1 off)).heap[k]?=wl.heap[k]?:=λk o h2=>(Uc _ _ _ _ h2).trans (Uc _ _ _ _ o);have q9:((wl.setCell ⟨c.heap.size,0,ZY⟩ x).setCell ⟨a.heap.size,9,ZY⟩ (Z1 off)).heap.size=wl.heap.size:=oD;have h9:aa F.S w wl->aa (F.S) w ((wl.setCell ⟨c.heap.size,0,ZY⟩ x).setCell ⟨a.heap.size,9,ZY⟩ (Z1 off)):=λy=>y.later (T:=λk=>w.heap.size<=k) ⟨rfl,rfl,rfl,by rw[q9];exact TV _,λk _ f=>h3 k V V⟩ (λk o h2=>V);rcases qk with⟨rfl,_,ky,l⟩|⟨rfl,rfl,⟨W,⟨B,Y,q3⟩,Z⟩,_⟩;rotate_left;.have H:=ak (show QI w p D L G tt xs A F (Z3 (ZZ #[.pointer ZY,eh 13])) _ from⟨rfl,W,⟨B,Y,q3.keep λk f=>h3 k (ia (m k f)) (ia (m k f))⟩,h9 (ks Z)⟩);unfold eh at H⊢;go_wp2;go_ret2;exact .inr H.o
 have y:=ks l.out;have k8:=h9 y;obtain⟨ps',pg,ob,P,B,qz,R,h6,hl⟩:=l.ans;obtain rfl:x=.nilIface:=by injection qz
 have kb:(wl.setCell ⟨c.heap.size,0,ZY⟩ .nilIface).heap[a.heap.size]?=U (Z4 (kF v D L G tt (P.getD 0 0) (aw xs.os).length pg ob ZV) 136 (0,0)):=(Uc _ _ _ _ (by show a.heap.size≠c.heap.size;omega)).trans hl.arc;have km:=ai (j:=9) kb (Z1 ZV);have h7:∀k,k≠c.heap.size->((wl.setCell ⟨c.heap.size,0,ZY⟩ .nilIface).setCell ⟨a.heap.size,9,ZY⟩ (Z1 ZV)).heap[k]?=wl.heap[k]?:=λk o=>by
  by_cases e:k=a.heap.size;.subst e;exact km.trans hl.arc.symm
  .exact h3 k o e
 have kg:=hl.aside (w':=(wl.setCell ⟨c.heap.size,0,ZY⟩ .nilIface).setCell ⟨a.heap.size,9,ZY⟩ (Z1 ZV)) (b:=c.heap.size) (B:=c.heap.size) (Am ky) (hl.Tx ky) (by rw[q9];exact TV _) (λj hj _=>h7 j hj) lR (λk f=>ia (m k f)) V V' V;have H:=a5 k8 h6 kg R.1 (show∀k,ps'.bl k->w.heap.size<=k fromλk f=>by
  rcases R.2 k f with q|q;.have:=u k q;omega
  .have:=hc.size;omega);go_wp2;go_ret2;obtain⟨k8,h6,kg,R,kc⟩:=H.o;exact .inl ⟨k8,a.heap.size,rfl,v,sb,ps',pg,ob,P,B,kg,h6,R,qo,V,kc⟩
structure abp(w w2:ZU)(D L G cache:Int):Prop where
 par:w2.heap[w.heap.size]?=U (Z4 #[I O D,I O L,I O G] 28 (0,0))opt:w2.heap[w.heap.size+1]?=U (Z4 #[I O cache] 101 (0,0))below:bW w w2
 size:w2.heap.size=w.heap.size+2
def abq(w:ZU)(D L G cache:Int):abp w ((w.alloc (Z4 #[I O D,I O L,I O G] 28)).alloc (Z4 #[I O cache] 101)) D L G cache:=by refine⟨(UE _ _ _ ej).trans (Ug _ _),?_,(bA w _).alloc ej _,ej⟩;have:=Ug (w.alloc (Z4 #[I O D,I O L,I O G] 28)) (Z4 #[I O cache] 101);rwa[Um]at this
structure Ov(w:ZU)(p D L G t:Nat)(cache:Int)(xs:aF)(A:an)(F:aC)(e:ZR)(w':ZU):Prop where
 out:aa F.S w w'
 ans:∃sa ar,e=Z3 (ZZ #[Z6 (U ⟨sa,0,ZY⟩),.nilIface])/\w.heap.size<=sa/\ZP w' sa 104 (Z6 (U ⟨ar,0,ZY⟩))/\Ot w p D L G t cache xs A F ar w'
def Ot.wide{w'':ZU}{xs:aF}(h:Ot w p D L G t cache xs A F ar w')(a:w0.heap.size<=w.heap.size)(f:bW w' w''):Ot w0 p D L G t cache xs A F ar w'':=by obtain⟨v,sb,ps,pg,ob,P,B,b,c,d,g,i,e⟩:=h;exact⟨v,sb,ps,pg,ob,P,B,b.below f,c,d,V,V,λk q=>TU a (e k q)⟩
theorem sr{xs:aF}(h:B9 w p D L G t cache xs A F):ZS ZO 43 #[Z6 (U ⟨p,0,ZY⟩),.agg #[I O D,I O L,I O G],.agg #[I O cache]] w λe w'=>Ov w p D L G t cache xs A F e w'\/QI w p D L G t xs A F e w':=by
 have a:=abq w D L G cache;obtain⟨w2,j⟩:=nM ((w.alloc (Z4 #[I O (D:Int),I O (L:Int),I O (G:Int)] 28)).alloc (Z4 #[I O cache] 101));rw[j]at a;have r:w2.cell? ⟨w.heap.size,0,ZY⟩=U (I O D):=adL;have s:w2.cell? ⟨w.heap.size,1,ZY⟩=U (I O L):=adL;have u:w2.cell? ⟨w.heap.size,2,ZY⟩=U (I O G):=adL;have q:w2.cell? ⟨w.heap.size+1,0,ZY⟩=U (I O cache):=by simp[World.cell?,a.opt]
 have b:=a.below;have k:=Ou (h.below b);have H:=al a k;go_enter func43,ntmps43;go_wp2_with fail;refine H.o.2.mono ?_;have b:=H.o.1.below;rintro e w3(⟨c,ar,rfl,d⟩|⟨rfl,l,m,n⟩);rotate_left;.have f:=ak (show QI w p D L G t xs A F (Z3 (ZZ #[.pointer ZY,eh 13])) w3 from⟨rfl,l,m,(aa.RK b _).trans n⟩);unfold eh at f⊢;go_wp2;go_ret2;exact .inr f.o
 have c:aa F.S w w3:=(aa.RK b _).trans c;have i:=au d c b;go_wp2;go_ret2;obtain⟨d,c,b⟩:=i.o;have g:bW w3 (w3.alloc (Z4 #[Z6 (U ⟨ar,0,ZY⟩)] 104)):=bA w3 _;exact .inl ⟨c.trans (aa.RK g _),w3.heap.size,ar,rfl,c.size,Us w3 _ _,d.wide b.size g⟩
theorem gw(d:Int)(m:Nat)(f:0<m)(e:m<=1000):∃n:Nat,n<m/\wrap64 ((IntKind.u64.wrap d).tmod m)=(n:Int):=by have a:0<=IntKind.u64.wrap d:=K1;rw[acX a];have b:=Int.emod_nonneg (IntKind.u64.wrap d) (V:(m:Int)≠0);have c:=Int.emod_lt_of_pos (IntKind.u64.wrap d) (V:(0:Int)<m);refine⟨(IntKind.u64.wrap d%m).toNat,V,?_⟩;rw[(V:((IntKind.u64.wrap d%(m:Int)).toNat:Int)=IntKind.u64.wrap d%m)];generalize IntKind.u64.wrap d%(m:Int)=z at b c;unfold wrap64;omega
theorem QJ(a b c:Int)(w:ZU):ZS ZO 5 #[I O a,I O b,I O c] w λe w'=>∃D L G:Nat,e=Z3 (.agg #[I O D,I O L,I O G])/\xX D L G/\D<=6/\bW w w':=by
 obtain⟨q,C,g⟩:=gw a 6 ec ec;obtain⟨r,E,i⟩:=gw b 3 ec ec;obtain⟨d,R,k⟩:=gw c 4 ec ec;have s:wrap64 ((IntKind.u64.wrap a).tmod 6)=(q:Int):=ua g;have t:wrap64 ((IntKind.u64.wrap b).tmod 3)=(r:Int):=ua i;have x:wrap64 ((IntKind.u64.wrap c).tmod 4)=(d:Int):=ua k;obtain⟨D,o⟩:=nM (q+1);obtain⟨n,F⟩:=nM (r+1);have O':wrap64 (1+(q:Int))=(D:Int):=D2;have A:wrap64 (1+(r:Int))=(n:Int):=D2;clear g i k;have Q:1<=D/\D<=6:=V;have y:1<=n/\n<=3:=V;clear o F C E;go_enter func5,ntmps5;go_wp2;go_loopw[8](λv wr=>∃l:Nat,1<=l/\l<=3/\v=I O (l:Nat)/\wr=w.alloc (Z4 #[I O 0,I O 0,I O 0] 28))(λv _=>(intOf v).toNat);case atStart=>exact⟨n,y.1,y.2,by rw[A],rfl⟩
 case round=>
  obtain⟨l,H,P,rfl,rfl⟩:=hrel;have U':¬(l:Int)=0:=V;have Z:Int.tmod (D:Int) (l:Int)=((D%l:Nat):Int):=by rw[acX V,YH]
  obtain⟨m,f⟩:=nM (D%l);rw[f]at Z;by_cases B:m=0;.subst B;have z:cL (xX D l d):=ak ⟨by unfold dA;apply U4;refine⟨V,V,V,V,V,V,?_,V⟩;rw[<-YH,f];rfl,V,V,H,V,V,f,V⟩;clear f;go_wp2;have p:ag (w.alloc (Z4 #[I O (D:Nat),I O (l:Nat),I O (d:Nat)] 28)) w.heap.size 28 [I O (D:Nat),I O (l:Nat),I O (d:Nat)]:=UD w _;have K:=p.cell (j:=0) (u:=I O (D:Nat)) rfl;have M:=p.cell (j:=1) (u:=I O (l:Nat)) rfl;have N:=p.cell (j:=2) (u:=I O (d:Nat)) rfl;refine Uv (v:=.agg #[I O (D:Nat),I O (l:Nat),I O (d:Nat)]) (by simp[results,results5,go_sem,K,M,N]) rfl ?_;exact⟨D,l,d,rfl,z.o,V,bA w _⟩
  . have S:2<=l:=by
     rcases Ys l 2 with h|h
     . have:l=1:=by omega
       subst this;rw[Nat.mod_one]at f;omega
     .exact h
    have T:¬(m:Int)=0:=V;have V':IntKind.i64.wrap ((l:Int)-1)=(l:Int)-1:=l7;clear f;go_wp2;refine⟨⟨l-1,V,V,by rw[(V:((l-1:Nat):Int)=(l:Int)-1)],trivial⟩,?_⟩;show((l:Int)-1).toNat<((l:Int)).toNat;omega
structure mi where
 kind:Int
 a:Int
 s:ByteArray
 d:a7
def Scr(w:ZU)(v:ZT)(l:List mi):Prop:=∃ao c,v=.slice ao l.length c/\(l≠[]->∃b off,ao=U ⟨b,off,ZY⟩/\b<w.heap.size/\∀i(hi:i<l.length),∃dv,w.cell? ⟨b,off+i*4,ZY⟩=U (I O l[i].kind)/\w.cell? ⟨b,off+i*4+1,ZY⟩=U (I O l[i].a)/\w.cell? ⟨b,off+i*4+2,ZY⟩=U (Z0 l[i].s)/\w.cell? ⟨b,off+i*4+3,ZY⟩=U dv/\Bs w dv l[i].d)
def gP(l:List mi):Nat:=(l.map λx=>x.s.size+x.d.length).sum
def tf(l:List mi)(k:Nat)(a:k<l.length):gP (l.take (k+1))=gP (l.take k)+(l[k].s.size+l[k].d.length):=by
 have e:l.take (k+1)=l.take k++[l[k]]:=by rw[Vl,Ud a];rfl
 rw[e];unfold gP;rw[Uz,YD];simp only[U5,Wi,XC,List.sum_nil,VO]
def ER(l:List mi)(k:Nat):gP (l.take k)<=gP l:=by
 unfold gP;have h:l.map (λx=>x.s.size+x.d.length)=(l.take k).map (λx=>x.s.size+x.d.length)++(l.drop k).map (λx=>x.s.size+x.d.length):=by rw[<-Uz,Wk]
 rw[h,YD];omega
def acC(w:ZU)(l:List mi)(vn vi:ZT)(wr:ZU):Prop:=∃k:Nat,k<=l.length/\vi=I O (k:Nat)/\vn=I O (gP (l.take k):Nat)/\gP (l.take k)<=100000/\bW w wr
def abr(w:ZU)(l:List mi)(e:ZR)(w':ZU):Prop:=∃bb,e=Z3 (Z1 bb)/\(bb=J->l.length<=200/\gP l<=100000)/\bW w w'
theorem KU{v:ZT}{l:List mi}(h:Scr w v l)(K:∀x∈l,x.s.size<=140737488355328/\x.d.length<=140737488355328):ZS ZO 4 #[v] w (abr w l):=by
 obtain⟨ao,c,rfl,u⟩:=h;by_cases N:200<l.length;.have Z:(200:Int)<(l.length:Int):=V;clear u;go_enter func4,ntmps4;go_wp2;go_ret;exact⟨ZV,rfl,λe=>W8,TW _ _⟩
 . have Z:¬(200:Int)<(l.length:Int):=V;have F:=ak u;clear u;go_enter func4,ntmps4;go_wp2;go_loopw[3,4](λL A wr=>acC w l L A wr)(λ_ A _=>l.length-(intOf A).toNat);case atStart=>exact⟨0,T8 _,rfl,rfl,by simp[gP],TW _ _⟩
   case round=>
    obtain⟨k,R,rfl,rfl,n,f⟩:=hrel;by_cases i:k<l.length
    . obtain⟨b,off,rfl,C,B⟩:=F.o (λe=>by rw[e]at i;simp at i);obtain⟨dv,r1,r2,y,z,E⟩:=B k i;obtain⟨M,dc,rfl,_⟩:=id E;have g:=tf l k i;have H:=K l[k] (T7 i);obtain⟨s,t⟩:=nM (l[k].s);obtain⟨dl,q⟩:=nM (l[k].d.length);rw[t,q]at g H;rw[t]at y;rw[q]at z;obtain⟨a,r⟩:=nM (gP (l.take k));rw[r]at g n⊢;obtain⟨V',o⟩:=nM (s.size);have G:(k:Int)<(l.length:Int):=V;have P:IntKind.i64.wrap ((a:Int)+(s.size:Int))=(a:Int)+(s.size:Int):=l7;have Q:IntKind.i64.wrap ((a:Int)+(s.size:Int)+(dl:Int))=(a:Int)+(s.size:Int)+(dl:Int):=l7;have S:IntKind.i64.wrap ((k:Int)+1)=(k:Int)+1:=l7;have T:=(f.cell (p:=⟨b,off+k*4+2,ZY⟩) C).trans y;have U':=(f.cell (p:=⟨b,off+k*4+3,ZY⟩) C).trans z;have m:=au g r f;clear g r f r1 r2 y z E B t q o;go_wp2;go_quiet(fail);have j:cL (bW w (wr.drewN nq)):=ak (m.o.2.2.trans ⟨rfl,rfl,rfl,TV _,λ_ _=>rfl⟩);by_cases O':(100000:Int)<(a:Int)+(s.size:Int)+(dl:Int);.go_wp2;go_ret;exact⟨ZV,rfl,λe=>W8,j.o⟩
      . go_wp2;have g:=m.o.1;refine⟨⟨k+1,V,eT,?_,V,j.o⟩,?_⟩;.rw[g,(V:((a+(s.size+dl):Nat):Int)=(a:Int)+(s.size:Int)+(dl:Int))]
        .simp only[intOf];omega
    .have D:k=l.length:=V;have G:¬(k:Int)<(l.length:Int):=V;have m:cL (l.length<=200/\gP l<=100000):=ak ⟨V,by rw[D,VE]at n;exact n⟩;have j:=ak f;clear D n f;go_wp2;go_ret;exact⟨J,rfl,λ_=>m.o,j.o⟩
def Ox(D L G:Nat)(a s r:ZT)(blocks:Nat)(out want:ZT)(cache:Int):List ZT:=[I O (D:Nat),I O (L:Nat),I O (G:Nat),a,s,r,I O (blocks:Nat),out,want,I O cache]
def dG(w:ZU)(wb D L G:Nat)(a s r:ZT)(blocks:Nat)(out want:ZT)(cache:Int):Prop:=ag w wb 56 (Ox D L G a s r blocks out want cache)
def dG.cells{r:ZT}(h:dG w wb D L G a s r blocks out want cache):w.cell? ⟨wb,0,ZY⟩=U (I O (D:Nat))/\w.cell? ⟨wb,1,ZY⟩=U (I O (L:Nat))/\w.cell? ⟨wb,2,ZY⟩=U (I O (G:Nat))/\w.cell? ⟨wb,3,ZY⟩=U a/\w.cell? ⟨wb,4,ZY⟩=U s/\w.cell? ⟨wb,5,ZY⟩=U r/\w.cell? ⟨wb,6,ZY⟩=U (I O (blocks:Nat))/\w.cell? ⟨wb,7,ZY⟩=U out/\w.cell? ⟨wb,8,ZY⟩=U want/\w.cell? ⟨wb,9,ZY⟩=U (I O cache):=⟨ag.cell h rfl,ag.cell h rfl,ag.cell h rfl,ag.cell h rfl,ag.cell h rfl,ag.cell h rfl,ag.cell h rfl,ag.cell h rfl,ag.cell h rfl,ag.cell h rfl⟩
theorem KV{r:ZT}(h:dG w wb D L G (Z6 (U ⟨p,0,ZY⟩)) s r blocks out want cache)(k:∃o,s=.pointer o)(R:Nat->ZU->Prop)(i:∀sa w2,R sa w2->w2.heap[wb]?=w.heap[wb]?)(ho:ZS ZO 43 #[Z6 (U ⟨p,0,ZY⟩),.agg #[I O D,I O L,I O G],.agg #[I O cache]] w.drew λe w2=>∃sa,e=Z3 (ZZ #[Z6 (U ⟨sa,0,ZY⟩),.nilIface])/\R sa w2):ZS ZO 20 #[Z6 (U ⟨wb,0,ZY⟩)] w λe w'=>e=Z3 (Z1 J)/\∃sa w2 w3,R sa w2/\bW w2 w3/\dG w' wb D L G (Z6 (U ⟨p,0,ZY⟩)) (Z6 (U ⟨sa,0,ZY⟩)) r blocks out want cache/\w'=w3.setCell ⟨wb,4,ZY⟩ (Z6 (U ⟨sa,0,ZY⟩)):=by
 obtain⟨c0,c1,q,t,u,v,x,y,z,A⟩:=h.cells;have c:=au ho h i;go_enter func20,ntmps20;go_upto_region 1 with fail;go_cut[3,4]from 6 to 34(λm n wx=>∃sa,m=Z6 (U ⟨sa,0,ZY⟩)/\n=.nilIface/\R sa wx);case first=>go_region_with(go_at_call 43;refine c.o.1.mono ?_;rintro e w2⟨sa,rfl,b⟩;have a:=ak b;clear b);all_goals(go_wp2_with fail;go_meet;case rel=>exact⟨sa,rfl,rfl,a.o⟩)
 case rest=>obtain⟨sa,rfl,rfl,b⟩:=hcut;have j:dG wc wb D L G (Z6 (U ⟨p,0,ZY⟩)) s r blocks out want cache:=ag.keep c.o.2.1 (c.o.2.2 sa wc b);obtain⟨l,rfl⟩:=k;have a:=al b j;go_wp2_with fail;refine(kD wc).mono ?_;rintro e w3⟨rfl,g⟩;have d:dG w3 wb D L G (Z6 (U ⟨p,0,ZY⟩)) (.pointer l) r blocks out want cache:=ag.keep a.o.2 (g.block _ (ag.lt a.o.2));have B:=d.cells.2.2.2.2.1;have C:=ag.R2 d 4;have f:=al g d;dsimp only;go_wp2;go_ret;refine⟨rfl,sa,wc,w3,a.o.1,f.o.1,?_,rfl⟩;exact ag.set f.o.2 4 [Z6 (U ⟨sa,0,ZY⟩)] Zh
def xE.isSlice{xs:aF}{base:Nat}{r:ZT}(h:xE xs x base u r w):(∃ao n c,u=.slice ao n c)/\lU r:=by
 rcases h with⟨rfl,h⟩|⟨rfl,_,X,_,_,ho⟩;.refine⟨⟨_,_,_,rfl⟩,.inr ?_⟩;rcases h with⟨rfl,_⟩|⟨rfl,_⟩<;>exact⟨_,ec,rfl⟩
 .obtain⟨a,b,e⟩:=bu ho;exact⟨⟨_,_,_,e⟩,.inl rfl⟩
def xE.keep{xs:aF}{base base':Nat}{r:ZT}(h:xE xs x base u r w)(l:base'<=base)(m:∀(j:Nat)(cs:Array ZT),w.heap[j]?=U (Z4 cs 5 (0,0))->w'.heap[j]?=w.heap[j]?):xE xs x base' u r w':=by
 refine h.imp id ?_;rintro⟨e,f,X,i,k,ho⟩;refine⟨e,f,X,i,k,ho.1,?_⟩;rcases ho.2 with d|⟨g,cap,cur,b,c,a,rr⟩;.exact .inl d
 .exact .inr ⟨g,cap,cur,b,TU l c,(m _ _ a).trans a,rr⟩
def ES(d:ZP w b 36 (.slice ao n c)):wN w b:=λoff u h=>by have a:w.heap[b]?=U (Z4 #[.slice ao n c] 36 (0,0)):=d;cases off with|zero=>simp[World.cell?,a]at h;subst h;exact⟨λ_=>nofun,λ_=>nofun⟩|succ n=>simp[World.cell?,a]at h
def G4(w:ZU)(ar v p:Nat)(Kind:aN->Prop)(ps:aN)(D L G t:Nat)(xs:aF)(A:an)(F:aC)(x:ByteArray)(e:ZR)(w':ZU):Prop:=∃u r ps' pg ob P,e=Z3 (ZZ #[u,r])/\abl w ar v p Kind ps D L G t pg ob P xs A F ps' w'/\aa (λj=>j=ar\/F.S j\/j=v\/ps.bl j) w w'/\xE xs x w.heap.size u r w'
theorem Oy{q1 q2 q3:Nat}{xs:aF}(h:aP w ar v p ps D L G t pg ob P xs A F)(x:ByteArray)(s:∀w1,bW w w1->ZS ZO 68 #[Z6 (U ⟨ar,0,ZY⟩),Z0 x] w1 (nG w1 ar v p Kind ps D L G t pg ob P xs A F x))(d:bW w w1)(C:ZP w1 q1 102 (Z6 (U ⟨ar,0,ZY⟩)))(E:ZP w1 q2 9 (Z0 x))(f:ZP w1 q3 36 (Z5 ZY 0 0))(hq:w.heap.size<=q3):ZS ZO 67 #[Z6 (U ⟨q1,0,ZY⟩),Z6 (U ⟨q2,0,ZY⟩),Z6 (U ⟨q3,0,ZY⟩)] w1 λe w2=>∃u r ps',e=Z3 r/\abl w ar v p Kind ps D L G t pg ob P xs A F ps' w2/\aa (λj=>F.S j\/j=v\/ps.bl j\/j=q3) w1 w2/\xE xs x w.heap.size u r w2/\ZP w2 q3 36 u:=by
 have O':=C.cell;have Q:=E.cell;have N:=s w1 d;have g:∀j,F.S j->j<w.heap.size:=λj a=>h.vol.arr.RL a;have H:=aE h f g d;go_enter func67,ntmps67;go_wp2_with fail;refine N.mono ?_;rintro e w2⟨u,r,ps',rfl,s,i,l⟩;obtain⟨h,f,g,d⟩:=H.o;have b:ZP w2 q3 36 (Z5 ZY 0 0):=(i.block _ f.lt (λe=>by
  rcases e with e|e|e;.have:=g _ e;omega
  .have:=h.vol.vol.lt;omega
  .have:=ps.lt _ h.kit _ e;omega)).trans f;have R:=b.cell;have T:=b.frozen;obtain⟨ao,n,c,rfl⟩:=l.isSlice.1;have z:=aE s i l b;go_wp2;go_ret;obtain⟨⟨hl,K,M⟩,i,l,b⟩:=z.o;obtain⟨h,f,g,d⟩:=H.o;have o:ZP (w2.setCell ⟨q3,0,ZY⟩ (.slice ao n c)) q3 36 (.slice ao n c):=b.set _;have m:∀j,j≠q3->(w2.setCell ⟨q3,0,ZY⟩ (.slice ao n c)).heap[j]?=w2.heap[j]?:=λj a=>Uc _ _ _ _ a;have Z:wN w2 q3:=ES b;refine⟨_,r,ps',rfl,⟨hl.aside (B:=w.heap.size) Z (cI hl.kit b qw) oD (λk y _=>m k y) hq (by exact g) h.vol.vol.lt h.arc.lt h.vol.room,K,λk y=>(M k y).imp id λq=>TU d.size q⟩,?_,l.keep d.size (λj cs a=>m j (λe=>by subst e;rw[b]at a;cases a)),o⟩;exact(i.mono λj _ a=>by
  rcases a with q|q|q;.exact .inl q
  .exact .inr (.inl q)
  .exact .inr (.inr (.inl q))).trans ⟨rfl,rfl,rfl,oD,λj _ a=>m j (λe=>a (.inr (.inr (.inr e))))⟩
theorem acD{xs:aF}(h:aP w ar v p ps D L G t pg ob P xs A F)(x:ByteArray)(J':∀w1,bW w w1->ZS ZO 68 #[Z6 (U ⟨ar,0,ZY⟩),Z0 x] w1 (nG w1 ar v p Kind ps D L G t pg ob P xs A F x)):ZS ZO 48 #[Z6 (U ⟨ar,0,ZY⟩),Z0 x] w (G4 w ar v p Kind ps D L G t xs A F x):=by
 have hi:∀(args:Array ZT)(w:ZU),(callFunc 67 args).run ZO w=.ok (.enter 67 args) w:=U9 func67 ee rfl;obtain⟨w3,m⟩:=nM (((w.alloc (Z4 #[Z6 (U ⟨ar,0,ZY⟩)] 102)).alloc (Z4 #[Z0 x] 9)).alloc (Z4 #[Z5 ZY 0 0] 36));have f:ZP w3 w.heap.size 102 (Z6 (U ⟨ar,0,ZY⟩)):=by rw[<-m];exact((Us w _ _).alloc _).alloc _
 have g:ZP w3 (w.heap.size+1) 9 (Z0 x):=by have:=(Us (w.alloc (Z4 #[Z6 (U ⟨ar,0,ZY⟩)] 102)) 9 (Z0 x)).alloc (Z4 #[Z5 ZY 0 0] 36);rw[Um]at this;rw[<-m];exact this
 have E:ZP w3 (w.heap.size+2) 36 (Z5 ZY 0 0):=by have:=Us ((w.alloc (Z4 #[Z6 (U ⟨ar,0,ZY⟩)] 102)).alloc (Z4 #[Z0 x] 9)) 36 (Z5 ZY 0 0);simp only[Um]at this;rw[<-m];exact this
 have d:bW w w3:=by rw[<-m];exact((bA w _).alloc ej _).alloc ek _
 have hk:=h.below d;have hr:=E.lt;have hm:=NQ (R:=eI A) hk 67 #[] #[Z6 (U ⟨w.heap.size,0,ZY⟩),Z6 (U ⟨w.heap.size+1,0,ZY⟩),Z6 (U ⟨w.heap.size+2,0,ZY⟩)] hi (λr t' xs' B ps' w2=>∃u,xE xs x w.heap.size u r w2/\ZP w2 (w.heap.size+2) 36 u/\(Kind ps'/\∀k,ps'.bl k->ps.bl k\/w.heap.size<=k)/\t'=t/\xs'=xs/\B=A) (λj=>j=w.heap.size+2\/j=v\/ps.bl j) (λj e=>by
   rcases e with e|e|e;.omega
   .have:=h.vol.vol.lt;have:=d.size;omega
   .have:=ps.lt _ h.kit _ e;have:=d.size;omega) (λr t' xs' B ps' w2 w' Q=>by rintro⟨u,y,s,W⟩;have T:∀j,w2.heap[j]?≠U (Obj.cells #[Value.nilIface] 51 (0,0))->w'.heap[j]?=w2.heap[j]?:=λj a=>Q.2.2 j (λe=>by subst e;exact a Q.1);refine⟨u,y.keep lR (λj cs a=>T j (by rw[a];simp)),(T _ (by rw[s];simp)).trans s,W⟩) (λw1 l hq=>(Oy h x J' (d.trans (l.mono d.size)) ((l.block _ f.lt).trans f) ((l.block _ g.lt).trans g) ((l.block _ E.lt).trans E) V).mono (by rintro e w2⟨u,r,ps',rfl,⟨hl,J'⟩,X,y,s⟩;exact⟨r,t,pg,ob,P,xs,A,ps',rfl,y.isSlice.2,hl,eI.refl A,X.mono λj _ a=>by
    rcases a with q|q|q|q;.exact .inr (.inl q)
    .exact .inr (.inr (.inr (.inl q)))
    .exact .inr (.inr (.inr (.inr q)))
    .exact .inr (.inr (.inl q)),u,y,s,J',rfl,rfl,rfl⟩));have c1:=f.cell;have H:=au hm d h;go_enter func48,ntmps48;go_wp2_with fail;refine H.o.1.mono ?_;rintro e z⟨r,t',O',N,P',xs',B,ps',rfl,hp,M,hn,K,u,i,Y,o,rfl,rfl,rfl⟩;have b:ZP z (w.heap.size+1+1) 36 u:=Y;have y0:=b.cell;have y1:=b.frozen;obtain⟨ao,n,c,rfl⟩:=i.isSlice.1;have U':=a5 K i b M o;go_wp2;obtain⟨K,i,b,M,o⟩:=U'.o;have V':=(b.set (.slice ao n c)).cell;refine Uv (v:=ZZ #[.slice ao n c,r]) (by simp[results,results48,go_sem,V']) rfl ?_;have C:bW z (z.setCell ⟨w.heap.size+1+1,0,ZY⟩ (.slice ao n c)):=⟨rfl,rfl,rfl,oD,λj a=>by
  by_cases e:j=w.heap.size+1+1;.subst e;exact(b.set (.slice ao n c)).trans b.symm
  .exact Uc _ _ _ _ e⟩;refine⟨_,r,ps',O',N,P',rfl,⟨M.below C,o⟩,?_,i.keep lR (λj cs a=>C.block j (TX.1 a).1)⟩;have Z:aa (λj=>j=ar\/F.S j\/j=v\/ps.bl j) w z:=(aa.RK H.o.2.1 (λj=>j=ar\/F.S j\/j=v\/ps.bl j)).later K (λj f g=>by
  rcases g with q|q|q|q|q;.exact .inl q
  .exact .inr (.inl q)
  .omega
  .exact .inr (.inr (.inl q))
  .exact .inr (.inr (.inr q)));exact Z.trans (aa.RK C _)
theorem acE{xs:aF}(i:ZP w sa 104 (Z6 (U ⟨ar,0,ZY⟩)))(h:aP w ar v p ps D L G t pg ob P xs A F)(x:ByteArray)(f:∀w1,bW w w1->ZS ZO 68 #[Z6 (U ⟨ar,0,ZY⟩),Z0 x] w1 (nG w1 ar v p Kind ps D L G t pg ob P xs A F x)):ZS ZO 22 #[Z6 (U ⟨sa,0,ZY⟩),Z0 x] w (G4 w ar v p Kind ps D L G t xs A F x):=by have cs:=i.cell;have g:=acD h x f;go_enter func22,ntmps22;go_wp2_with fail;refine g.mono ?_;rintro e j⟨u,r,ps',b,a,P',rfl,d⟩;have c:=ak d;go_wp2;go_ret2;exact⟨u,r,ps',b,a,P',rfl,c.o⟩
def Kd(B:Nat)(T:ZQ)(w w':ZU):Prop:=∀j cs,j<B->w.heap[j]?=U (Z4 cs T (0,0))->w'.heap[j]?=w.heap[j]?
def Kd.below(h:bW w w')(B:Nat)(T:ZQ):Kd B T w w':=λj _ _ a=>h.block j (TX.1 a).1
def Kd.trans{a b c:ZU}(h:Kd B T a b)(k:Kd B T b c):Kd B T a c:=λj cs d e=>(k j cs d ((h j cs d e).trans e)).trans (h j cs d e)
def Kd.mono{a b:ZU}(h:Kd B T a b)(c:B'<=B):Kd B' T a b:=λj cs d q=>h j cs V q
def ach(T:ZQ):Prop:=T=65\/T=82\/T=104\/T=5\/T=38
def Law(T:ZQ):Prop:=ach T\/T=93\/T=47
def eK(B:Nat)(w w':ZU):Prop:=∀T,Law T->Kd B T w w'
def qN(B:Nat)(w w':ZU):Prop:=∀T,ach T->Kd B T w w'
def eK.RZ(h:eK B w w'):qN B w w':=λT hT=>h T (.inl hT)
def eK.below(h:bW w w')(B:Nat):eK B w w':=λT _=>Kd.below h B T
def eK.trans{a b c:ZU}(h:eK B a b)(k:eK B b c):eK B a c:=λT hT=>(h T hT).trans (k T hT)
def eK.mono{a b:ZU}(h:eK B a b)(c:B'<=B):eK B' a b:=λT hT=>(h T hT).mono c
def eK.live{ho:Nat}{off:Bool}(i:ay w p A F)(o:bh w ar v D L G t f n pg ob off)(hv:bz w v p D L G ps.ps ho)(m:ps.S w)(l:aa (λj=>j=ar\/F.S j\/j=v\/ps.bl j) w w'):eK B w w':=λT hT j cs _ b=>l.block j (TX.1 b).1 (λq=>by
 have a:T≠136/\T≠109/\T≠113/\T≠119/\T≠4:=by rcases hT with(rfl|rfl|rfl|rfl|rfl)|rfl|rfl<;>exact⟨ec,ec,ec,ec,ec⟩
 have h:T≠129/\¬kT T:=by rcases hT with(rfl|rfl|rfl|rfl|rfl)|rfl|rfl<;>exact⟨ec,vm⟩
 rcases q with q|q|q|q;.subst q;have g:w.heap[j]?=U (Z4 (kF v D L G t f n pg ob off) 136 (0,0)):=o;rw[b]at g;simp only[UF,UT]at g;exact a.1 g.2.1
 . obtain⟨cs',T',e,r⟩:=i.kind q;rw[b]at e;simp only[UF,UT]at e;have c:=e.2.1;rcases r with k|k|k|k;.exact a.2.1 (c.trans k)
   .exact a.2.2.1 (c.trans k)
   .exact a.2.2.2.1 (c.trans k)
   .exact a.2.2.2.2 (c.trans k)
 .subst q;have d:=hv;unfold bz at d;rw[b]at d;simp only[UF,UT]at d;exact h.1 d.2.1
 .exact cI m b h.2 q)
def Oz{base size:Nat}{v:ZT}{xs:List ZT}(h:w.ownsRow base T size v n xs)(f:Kd B T w w')(e:w.heap.size<=B):w'.ownsRow base T size v n xs:=by
 refine⟨h.1,?_⟩;rcases h.2 with d|⟨g,cap,cur,b,c,a,rr⟩;.exact .inl d
 .exact .inr ⟨g,cap,cur,b,c,(f _ _ (TY (TX.1 a).1 e) a).trans a,rr⟩
def Ow(w:ZU)(v:ZT)(l:a7):Prop:=(∃base,w.ownsRow base 5 1 v l.length (aL l))/\(∀x∈l,x<256)/\l.length<=1500
def Ow.nil(w:ZU):Ow w (Z5 ZY 0 0) []:=⟨⟨0,UQ _ _ _ _⟩,λx a=>(by cases a),ec⟩
def Ow.keep{v:ZT}(h:Ow w v l)(d:Kd w.heap.size 5 w w'):Ow w' v l:=by obtain⟨⟨base,a⟩,b,c⟩:=h;exact⟨⟨base,Oz a d lR⟩,b,c⟩
def Ow.bs{v:ZT}(h:Ow w v l):Bs w v l:=by
 obtain⟨⟨base,ho⟩,e,hl⟩:=h;rcases ho.2 with⟨rfl,d⟩|⟨g,cap,cur,rfl,f,i,c,j,m,n⟩;.have:l=[]:=U2 d;subst this;exact⟨ZY,0,rfl,TV _,ec,λx h=>Bf,λh=>absurd rfl h⟩
 . refine⟨_,cap,rfl,c,V,e,λ_=>⟨g,0,rfl,λk b=>?_⟩⟩;have a:=ho.cells (g:=g) rfl k (I .u8 ((l.getD k 0:Nat):Int)) (by unfold aL;rw[UJ,Ud b,Ub,Ud b];rfl);rw[kl]at a;rw[Uj];exact a
def Ow.sl{v:ZT}(h:Ow w v l):iy v/\Dr v=l.length:=by obtain⟨⟨base,ho⟩,_,hl⟩:=h;obtain⟨a,b,rfl⟩:=bu ho;exact⟨⟨_,_,_,rfl,V⟩,rfl⟩
def iH(w:ZU):List (ByteArray×ZT)->aF->Prop|[],[]=>True|q::Q,x::xs=>(q.1=x.1.name/\Ow w q.2 x.2)/\iH w Q xs|_,_=>False
def iH.len:∀{Q:List (ByteArray×ZT)}{xs:aF},iH w Q xs->Q.length=xs.length|[],[],_=>rfl|[],_::_,h=>h.elim|_::_,[],h=>h.elim|_::Q,_::xs,h=>by rw[UC,UC,iH.len h.2]
def iH.names:∀{Q:List (ByteArray×ZT)}{xs:aF},iH w Q xs->cG Q=xs.names|[],[],_=>rfl|[],_::_,h=>h.elim|_::_,[],h=>h.elim|q::Q,x::xs,h=>by have e:cG (q::Q)=q.1::cG Q:=rfl;have a:aF.names (x::xs)=x.1.name::aF.names xs:=rfl;rw[e,a,h.1.1,iH.names h.2]
def iH.keep(a:∀v l,Ow w v l->Ow w' v l):∀{Q:List (ByteArray×ZT)}{xs:aF},iH w Q xs->iH w' Q xs|[],[],_=>trivial|[],_::_,h=>h.elim|_::_,[],h=>h.elim|_::_,_::_,h=>⟨⟨h.1.1,a _ _ h.1.2⟩,iH.keep a h.2⟩
def iH.take:∀{Q:List (ByteArray×ZT)}{xs:aF}(k:Nat),iH w Q xs->iH w (Q.take k) (xs.take k)|_,_,0,_=>by simp only[WN];exact trivial|[],[],_+1,_=>trivial|[],_::_,_+1,h=>h.elim|_::_,[],_+1,h=>h.elim|_::_,_::_,k+1,h=>⟨h.1,iH.take k h.2⟩
def iH.drop:∀{Q:List (ByteArray×ZT)}{xs:aF}(k:Nat),iH w Q xs->iH w (Q.drop k) (xs.drop k)|_,_,0,h=>h|[],[],_+1,_=>trivial|[],_::_,_+1,h=>h.elim|_::_,[],_+1,h=>h.elim|_::_,_::_,k+1,h=>iH.drop k h.2
def iH.app:∀{Q Q':List (ByteArray×ZT)}{xs xs':aF},iH w Q xs->iH w Q' xs'->iH w (Q++Q') (xs++xs')|[],_,[],_,_,a=>a|[],_,_::_,_,h,_=>h.elim|_::_,_,[],_,h,_=>h.elim|_::_,_,_::_,_,h,a=>⟨h.1,iH.app h.2 a⟩
def iH.at:∀{Q:List (ByteArray×ZT)}{xs:aF},iH w Q xs->∀k(a:k<Q.length)(b:k<xs.length),Q[k].1=xs[k].1.name/\Ow w Q[k].2 xs[k].2|[],_,_,_,a,_=>absurd a ej|_::_,[],h,_,_,_=>h.elim|_::_,_::_,h,0,_,_=>h.1|_::Q,_::xs,h,k+1,a,b=>iH.at h.2 k (ua a) (ua b)
def iH.sl:∀{Q:List (ByteArray×ZT)}{xs:aF},iH w Q xs->∀o∈Q,iy o.2
 |[],_,_,_,h=>Bf|_::_,[],h,_,_=>h.elim|q::Q,x::xs,h,o,ho=>by
  rcases Uu.1 ho with rfl|ho;.exact h.1.2.sl.1
  .exact iH.sl h.2 o ho
def iH.RI(D:Nat):∀{Q:List (ByteArray×ZT)}{xs:aF},iH w Q xs->(Q.map λo=>Dr o.2/(D*44)+1).sum=sR D xs|[],[],_=>rfl|[],_::_,h=>h.elim|_::_,[],h=>h.elim|q::Q,x::xs,h=>by unfold sR;rw[U5,U5,XC,XC,h.1.2.sl.2,iH.RI D h.2];rfl
def gQ(x:ByteArray):fu x↔cF x=J:=by unfold fu cF;simp
theorem js{xs:aF}(h:iH w Q xs)(x:ByteArray):rz Q x↔x∉xs.names:=by
 rw[<-h.names];constructor;.intro f a;obtain⟨k,b,e⟩:=UZ a;have c:k<Q.length:=(by unfold cG at b;rwa[Uf]at b);refine f k c ?_;rw[<-e];simp[cG]
 .intro a j d e;refine a ?_;rw[<-toList_inj e];exact T9.2 ⟨Q[j],T7 d,rfl⟩
def jt{xs:aF}(h:iH w Q xs)(c:Up xs.names){x:ByteArray}{k:Nat}(d:Py Q x k):aJ xs.names x=k/\k<Q.length/\x∈xs.names:=by
 obtain⟨b,e,_⟩:=d;have hl:k<(cG Q).length:=by unfold cG;rw[Uf];exact b
 have a:(cG Q)[k]=x:=by simp only[cG,UR];exact toList_inj e
 rw[<-h.names]at c⊢;exact⟨iO c hl a,b,a▸T7 hl⟩
section
structure MB(w0 w:ZU)(wb D L G nb t:Nat)(xs:aF)(p r sa ar v:Nat)(Kind:aN->Prop)(ps:aN)(pg ob:ZT)(P:a7)(A:an)(F:aC)(out want:ZT)(cache:Int):Prop where
 wbA:dG w wb D L G (Z6 (U ⟨p,0,ZY⟩)) (Z6 (U ⟨sa,0,ZY⟩)) (Z6 (U ⟨r,0,ZY⟩)) nb out want cache
 box:ZP w sa 104 (Z6 (U ⟨ar,0,ZY⟩))live:aP w ar v p ps D L G t pg ob P xs A F
 nb:A.nb=nb
 base:bW w0 w
 SX:bK w0
 hK:3<=w0.heap.size
 Tv:w0.heap.size<=wb
 lt:wb≠ar/\w0.heap.size<=ar
 fB:∀k,F.S k->w0.heap.size<=k
 vB:w0.heap.size<=v
 kB:∀k,ps.bl k->w0.heap.size<=k
 shv:xD D L G Kind ps
 wbK:¬ps.bl wb
 cb:0<=cache/\cache<=64pwr:F.pw=J
structure Dc(KW w:ZU)(r:Nat)(Q:List (ByteArray×ZT))(xs:aF)(out want:ZT):Prop where
 ref:∃rb rv,mh w r rb rv Q
 rel:iH w Q xs
 ow:iy out/\iy want
 mks:∀(k:Nat)(cs:Array ZT)(T:ZQ),T=93\/T=47->KW.heap[k]?=U (Z4 cs T (0,0))->w.heap[k]?=KW.heap[k]?
def MS(KW:ZU)(C:an->Prop)(w0 w:ZU)(wb D L G nb T:Nat):Prop:=∃t xs Q p r sa ar v Kind ps pg ob P A F out want cache,MB w0 w wb D L G nb t xs p r sa ar v Kind ps pg ob P A F out want cache/\Dc KW w r Q xs out want/\t<=T/\C A
def ET{w:ZU}{wb:Nat}{cs:Array ZT}(h:w.heap[wb]?=U (Z4 cs 56 z)):¬Nm w wb:=by rintro⟨cs',T,a,e,_,hT⟩;rw[h]at e;simp only[UF,UT]at e;exact hT e.2.1.symm
def qN.ref{w w':ZU}{r:Nat}(h:mh w r rb rv Q)(b:qN B w w')(a:w.heap.size<=B):mh w' r rb rv Q:=⟨(b _ (.inl rfl) r _ (TY (TX.1 h.top).1 a) h.top).trans h.top,Oz h.own (b _ (.inr (.inl rfl))) a⟩
def qN.box{w w':ZU}{sa:Nat}(h:ZP w sa 104 u)(b:qN B w w')(a:w.heap.size<=B):ZP w' sa 104 u:=(b _ (.inr (.inr (.inl rfl))) sa _ (TY h.lt a) h).trans h
def qN.ow{w w':ZU}(h:Ow w u l)(b:qN B w w')(a:w.heap.size<=B):Ow w' u l:=h.keep ((b _ (.inr (.inr (.inr (.inl rfl))))).mono a)
def Dc.keep{w w':ZU}{r:Nat}{xs:aF}{out want:ZT}(h:Dc KW w r Q xs out want)(c:eK B w w')(b:w.heap.size<=B):Dc KW w' r Q xs out want:=by obtain⟨rb,rv,d⟩:=h.ref;refine⟨⟨rb,rv,c.RZ.ref d b⟩,h.rel.keep λ_ _ o=>c.RZ.ow o b,h.ow,λk cs T hT q=>?_⟩;have a:=h.mks k cs T hT q;rw[q]at a;rw[q];exact(c _ (.inr hT) k _ (TY (TX.1 a).1 b) a).trans a
def bK.below{w w':ZU}(h:bK w)(b:bW w w'):bK w':=by have a:w.cell? ⟨0,0,ZY⟩=_:=h;exact(b.cell (Ue a)).trans a
section
variable {w0 w w':ZU}{wb D L G nb t:Nat}{xs:aF}{p r sa ar v:Nat}{Kind:aN->Prop}{ps:aN}{pg ob:ZT}{P:a7}{A:an}{F:aC}{out want:ZT}{cache:Int}
def MB.on(h:MB w0 w wb D L G nb t xs p r sa ar v Kind ps pg ob P A F out want cache){q:Prop}(e:F.pw=ZV):q:=by rw[h.pwr]at e;cases e
def MB.gl(h:MB w0 w wb D L G nb t xs p r sa ar v Kind ps pg ob P A F out want cache):bK w:=h.SX.below h.base
def MB.next(h:MB w0 w wb D L G nb t xs p r sa ar v Kind ps pg ob P A F out want cache)(f:qN w.heap.size w w')(g:w'.heap[wb]?=w.heap[wb]?)(d:bW w0 w'){t':Nat}{xs':aF}{pg' a:ZT}{P':a7}{B:an}{ps':aN}(hl:aP w' ar v p ps' D L G t' pg' a P' xs' B F)(c:B.nb=A.nb)(hv:Kind ps')(b:∀k,ps'.bl k->ps.bl k\/w.heap.size<=k):MB w0 w' wb D L G nb t' xs' p r sa ar v Kind ps' pg' a P' B F out want cache:={h with wbA:=ag.keep h.wbA g,box:=f.box h.box lR,live:=hl,nb:=c.trans h.nb,base:=d,kB:=λk q=>(b k q).elim (h.kB k) λe=>TU h.base.size e,shv:=⟨h.shv.sh,h.shv.re,h.shv.pk,hv⟩,wbK:=λq=>(b wb q).elim h.wbK λe=>absurd (ag.lt h.wbA) (Wz.2 e)}
def MB.below(h:MB w0 w wb D L G nb t xs p r sa ar v Kind ps pg ob P A F out want cache)(a:bW w w'):MB w0 w' wb D L G nb t xs p r sa ar v Kind ps pg ob P A F out want cache:=h.next (eK.below a _).RZ (a.block _ (ag.lt h.wbA)) (h.base.trans (a.mono h.base.size)) (h.live.below a) rfl h.shv.kind (λ_ q=>.inl q)
def MB.SI(h:MB w0 w wb D L G nb t xs p r sa ar v Kind ps pg ob P A F out want cache):¬F.S wb/\wb≠v:=by
 have b:w.heap[wb]?=U (Z4 _ 56 (0,0)):=h.wbA;refine⟨λq=>?_,λe=>?_⟩;.obtain⟨cs,T,hT,d⟩:=h.live.vol.arr.kind q;rw[b]at hT;simp only[UF,UT]at hT;have c:=hT.2.1;rcases d with k|k|k|k<;>exact absurd (c.trans k) ec
 .have a:=h.live.vol.vol;unfold bz at a;rw[<-e,b]at a;cases a
def MB.TR(h:MB w0 w wb D L G nb t xs p r sa ar v Kind ps pg ob P A F out want cache)(c:aa (λj=>j=ar\/F.S j\/j=v\/ps.bl j) w w'){t':Nat}{xs':aF}{pg' a:ZT}{P':a7}{B:an}{ps':aN}(hl:aP w' ar v p ps' D L G t' pg' a P' xs' B F)(e:B.nb=A.nb)(hv:Kind ps')(d:∀k,ps'.bl k->ps.bl k\/w.heap.size<=k):MB w0 w' wb D L G nb t' xs' p r sa ar v Kind ps' pg' a P' B F out want cache/\eK w.heap.size w w':=by
 have b:=eK.live (B:=w.heap.size) h.live.vol.arr h.live.arc h.live.vol.vol h.live.kit c;refine⟨h.next b.RZ (c.block _ (ag.lt h.wbA) (λq=>?_)) (h.base.trans (c.below λk b=>⟨TY b h.base.size,λq=>?_⟩)) hl e hv d,b⟩
 . rcases q with q|q|q|q;.have:=h.lt;omega
   .exact h.SI.1 q
   .exact h.SI.2 q
   .exact h.wbK q
 . have:=h.Tv;have:=h.lt;have:=h.vB;rcases q with q|q|q|q;.omega
   .have:=h.fB k q;omega
   .omega
   .have:=h.kB k q;omega
def MB.call(h:MB w0 w wb D L G nb t xs p r sa ar v Kind ps pg ob P A F out want cache)(c:aa (λj=>j=ar\/F.S j) w w'){t':Nat}{xs':aF}{pg' a:ZT}{P':a7}{B:an}(hl:aP w' ar v p ps D L G t' pg' a P' xs' B F)(b:B.nb=A.nb):MB w0 w' wb D L G nb t' xs' p r sa ar v Kind ps pg' a P' B F out want cache/\eK w.heap.size w w':=h.TR (c.mono λ_ _ q=>q.elim .inl λe=>.inr (.inl e)) hl b h.shv.kind λ_ q=>.inl q
def MB.write(h:MB w0 w wb D L G nb t xs p r sa ar v Kind ps pg ob P A F out want cache)(d:aa (λj=>j=wb) w w'){r':Nat}{out' a:ZT}(m:dG w' wb D L G (Z6 (U ⟨p,0,ZY⟩)) (Z6 (U ⟨sa,0,ZY⟩)) (Z6 (U ⟨r',0,ZY⟩)) nb out' a cache):MB w0 w' wb D L G nb t xs p r' sa ar v Kind ps pg ob P A F out' a cache/\eK w.heap.size w w':=by obtain⟨i,l⟩:=h.SI;have f:∀j,j≠wb->j<w.heap.size->w'.heap[j]?=w.heap[j]?:=λj b hl=>d.block j hl b;have g:w.heap[wb]?=U (Z4 _ 56 (0,0)):=h.wbA;have c:eK w.heap.size w w':=λT hT j cs hl b=>f j (λe=>by subst e;rw[g]at b;simp only[UF,UT]at b;have e:=b.2.1;rcases hT with(q|q|q|q|q)|q|q<;>exact absurd (e.trans q) ec) hl;exact⟨{h with wbA:=m,box:=c.RZ.box h.box lR,live:=h.live.other d.size f h.lt.1 (ET g) l i (by have:=h.hK;have:=h.Tv;omega) h.wbK,base:=h.base.trans (d.below λk c=>⟨TY c h.base.size,λq=>ia h.Tv⟩)},c⟩
end
end
def m6(w:ZU)(q:Nat)(o:mi)(dv:ZT):Prop:=ag w q 38 [I O o.kind,I O o.a,Z0 o.s,dv]
def m6.cells{o:mi}(h:m6 w q o dv):w.cell? ⟨q,0,ZY⟩=U (I O o.kind)/\w.cell? ⟨q,1,ZY⟩=U (I O o.a)/\w.cell? ⟨q,2,ZY⟩=U (Z0 o.s)/\w.cell? ⟨q,3,ZY⟩=U dv:=⟨ag.cell h rfl,ag.cell h rfl,ag.cell h rfl,ag.cell h rfl⟩
def QK(x:ZT)(n:Int):Prop:=x=eh n\/(x=.nilIface/\n=0)
def kX{x:ZT}{n:Int}(b:QK x n){w:ZU}(a:bK w):ZS ZO 17 #[x] w λe w'=>e=Z3 (I O n)/\bW w w':=by
 rcases b with rfl|⟨rfl,rfl⟩;.exact oF n w a
 .exact kD w
def yF(n:Int)(D nb:Nat)(xs:aF)(x:ByteArray)(d:a7)(xs':aF):Prop:=(n=0/\qF D nb xs x d xs')\/(xs'=xs/\qE D nb xs x d.length n)
def G5{xs:aF}{Q:Int->Prop}{N:aF->Prop}(h:lP w ar v p ps D L G t xs A F Q N (Z3 rr) w'):∃n t' pg ob P' xs' B,QK rr n/\aP w' ar v p ps D L G t' pg ob P' xs' B F/\eI A B/\aa (λk=>k=ar\/F.S k) w w'/\t'<=t+1/\((n=0/\N xs')\/(xs'=xs/\Q n)):=by
 obtain⟨g,t',pg,ob,P',xs',B,b,hl,c,a,h|⟨d,i,n,e,f⟩⟩:=h;.cases b;exact⟨0,t',pg,ob,P',xs',B,.inr ⟨h.1,rfl⟩,hl,c,a,V,.inl ⟨rfl,h.2.2⟩⟩
 .cases b;exact⟨n,t',pg,ob,P',xs',B,.inl e,hl,c,a,V,.inr ⟨d,f⟩⟩
def RpN(w:ZU)(q:Nat)(Q:List (ByteArray×ZT))(x:ByteArray)(d:a7)(n:Int)(e:ZR)(w':ZU):Prop:=(n≠0/\n≠10/\e=Z3 (I O n)/\w'=w)\/((n=0\/n=10)/\N3 w q Q x d e w')
def QL{n:Int}{xs:aF}(j:mh w q rb rv Q)(hl:Q.length<=1000)(r:iH wx Q xs)(k:∀o∈Q,iy o.2){ao:Option Addr}{c m:Nat}(l:d.length=m)(hd:Bs w (.slice ao m c) d)(p:yF n D nb xs x d xs'):ZS ZO 38 #[Z6 (U ⟨q,0,ZY⟩),Z0 x,.slice ao m c] w (RpN w q Q x d n):=by
 subst l;have i:=js r x;have g:=gQ x;rcases p with⟨rfl,a,b,f,_⟩|⟨_,⟨a,rfl⟩|⟨a,⟨b,rfl⟩|⟨b,⟨f,rfl⟩|⟨f,_,rfl⟩⟩⟩⟩;.exact(BX j V k x ao c d hd b (g.2 a) (i.2 f)).mono λe w' h=>.inr ⟨.inl rfl,h⟩
 .exact(Ar q x ao _ c (λq=>by rw[g,a]at q;cases q) w).mono λe w' h=>.inl ⟨ec,ec,h.1,h.2⟩
 .exact(As q x ao _ c (g.2 a) b w).mono λe w' h=>.inl ⟨ec,ec,h.1,h.2⟩
 .exact(sX j V x ao _ c (g.2 a) b (λh=>i.1 h f)).mono λe w' h=>.inl ⟨ec,ec,h.1,h.2⟩
 .exact(BX j V k x ao c d hd b (g.2 a) (i.2 f)).mono λe w' h=>.inr ⟨.inr rfl,h⟩
def yF.none{n:Int}{xs:aF}(h:yF n D nb xs x d xs')(a:n≠0):xs'=xs:=h.elim (λq=>absurd q.1 a) λq=>q.1
def yF.some{xs:aF}(h:yF 0 D nb xs x d xs'):qF D nb xs x d xs':=by
 rcases h with h|⟨_,⟨_,e⟩|⟨_,⟨_,e⟩|⟨_,⟨_,e⟩|⟨_,_,e⟩⟩⟩⟩;.exact h.2
 all_goals exact absurd e ec
def yF.full{xs:aF}(h:yF 10 D nb xs x d xs'):d.length<=1500/\nb<(ah xs.os).length+nL D d.length+2*BR D (aw xs.os).length d.length+2:=by
 rcases h with⟨e,_⟩|⟨_,⟨_,e⟩|⟨_,⟨_,e⟩|⟨a,⟨_,e⟩|⟨_,b,_⟩⟩⟩⟩;rotate_right;.exact⟨a,b⟩
 all_goals exact absurd e ec
def KX(h:aM w b l):wN w b:=λoff u c=>by
 have f:=h.heap;simp only[World.cell?,f]at c;have:u∈(l.map (λx=>Value.int .u8 ((x:Nat):Int))):=by have a:=c;simp at a;obtain⟨x,g,rfl⟩:=a;obtain⟨d,e⟩:=Vd.1 g;exact T9.2 ⟨x,e▸T7 d,rfl⟩
 obtain⟨x,_,rfl⟩:=T9.1 this;exact⟨λy e=>W8,λs e=>W8⟩
def aM.bs(h:aM w b (l++[71,72]))(d:l.length=m)(hl:l.length<=1000000)(e:∀x∈l,x<256):Bs w (Z5 (U ⟨b,0,ZY⟩) m (m+2)) l:=by subst d;have:=Bs.Sq (n:=l.length) h ej V (by intro x c;rcases Ui.1 c with q|q;exact e x q;simp at q;omega);have a:(l++[71,72]).length=l.length+2:=ej;rw[a,List.take_left']at this;exact this;rfl
def OA{xs:aF}(a:iH w Q xs){D nb m:Nat}{xs':aF}{x:ByteArray}{d:a7}(j:d.length=m)(g:1<=D)(e:D<=6)(i:∀x∈xs,l8 D x)(h:yF 10 D nb xs x d xs'):(nb:Int)-8<(jT Q D (m:Int):Int):=by
 have f:=Gt g e i (n:=d.length) (nb:=nb) h.full.1 rfl rfl h.full.2;have b:bY Q (D*44) Q.length=sR D xs:=by unfold bY;rw[VE];exact a.RI D
 have c:jT Q D (m:Int)=sR D xs+(m/(D*44)+1)+2*((xs.length+1)*200/(D*44)+1):=by unfold jT;rw[TT V,VF,b,a.len]
 rw[j]at f;rw[c];omega
def IS{xs:aF}(h:iH w Q xs){x:ByteArray}{d:a7}{o:Ob}(ho:o.name=x){v:ZT}(hv:Ow w v d):iH w (Q.take (aJ (cG Q) x)++(x,v)::Q.drop (aJ (cG Q) x)) (xs.ins (o,d)):=by unfold aF.ins;rw[h.names,ho];exact(h.take _).app ⟨⟨ho.symm,hv⟩,h.drop _⟩
theorem OB{xs:aF}(h:MB w0 w wb D L G nb t xs p r sa ar v Kind ps pg ob P A F out want cache)(hc:Dc KW w r Q xs out want)(o:mi)(dv:ZT)(hd:Bs w0 dv o.d)(qy:o.d.length<=100000)(xg:t<1000000)(qm:D<=6):ZS ZO 21 #[Z6 (U ⟨wb,0,ZY⟩),.agg #[I O o.kind,I O o.a,Z0 o.s,dv]] w λe w'=>e=Z3 (Z1 J)/\MS KW (eI A) w0 w' wb D L G nb (t+1):=by
 obtain⟨H,dc,qz,_⟩:=id hd;subst qz;have E:=hd.lt;obtain⟨m,f⟩:=nM (o.d.length);rw[f]at hd qy⊢;obtain⟨w1,qj⟩:=nM (w.alloc (Z4 #[I O o.kind,I O o.a,Z0 o.s,.slice H m dc] 38));have C:m6 w1 w.heap.size o (.slice H m dc):=by rw[<-qj];exact UD w _
 have qf:bW w w1:=by rw[<-qj];exact bA w _
 have g:=h.below qf;have Y:=hc.keep (eK.below qf _) lR;obtain⟨l,ki⟩:=nM (w.heap.size);have Z:l<w1.heap.size:=by rw[<-ki];exact ag.lt C
 have kc:ar<l:=by rw[<-ki];exact h.live.arc.lt
 have z:∀k,F.S k->k<l:=λk hk=>by rw[<-ki];exact h.live.vol.arr.RL hk
 have kk:v<l:=by rw[<-ki];exact h.live.vol.vol.lt
 rw[ki]at C;have x3:=C.cells.2.2.2;have qh:=Ja _ o.d w1 (hd.mono g.base) V;rw[f]at qh;have I':=hide10 C g Y hd E f Z kc z kk;go_enter func21,ntmps21;go_wp2_with fail;refine qh.mono ?_;rintro e w2⟨rb,rfl,kj,W,X⟩;obtain⟨C,g,Y,hd,E,f,Z,kc,z,kk⟩:=I'.o;have kr:m6 w2 l o (.slice H m dc):=ag.keep C (X.block _ Z);have h2:=g.below X;have y2:=kr.cells.2.2.1;have s2:=h2.wbA.cells.2.2.2.2.1;have kv:bW w2 w2.drew:=(TW _ w2).drew;have kp:=h2.below kv;have kh:=(ab9 kp.box kp.live kp.on xg o.s (U ⟨rb,0,ZY⟩) (m+2) o.d (λw' hO=>by rw[f];have qk:aM w' rb (o.d++[71,72]):=Wc W (hO.block rb W.lt (λe=>ia (z _ e)));exact qk.bs f V E) V).mono λ_ _ q=>q.on kp.pwr;rw[f]at kh;have H2:=a6 kr h2 X W kj kv;go_upto_region 2 with fail;go_cut[6]from 12 to 82(λv6 wx=>lP w2.drew ar v p ps D L G t xs A F (qE D A.nb xs o.s m) (qF D A.nb xs o.s o.d) (Z3 v6) wx);case first=>go_region_with(go_at_call 39;refine kh.mono ?_;rintro e w3 qa;obtain⟨rr,_,_,_,_,_,_,rfl,_⟩:=id qa;have J':=ak qa;clear qa);all_goals(go_wp2_with fail;go_meet;case rel=>exact J'.o)
 case rest=>
  obtain⟨n,t',xk,qr,P',xs',B,hN,x5,K,qn,O',q1⟩:=G5 hcut;obtain⟨C,g,Y,hd,E,f,Z,kc,z,kk⟩:=I'.o;have x:yF n D A.nb xs o.s o.d xs':=by unfold yF;rw[f];exact q1
  obtain⟨kr,h2,X,W,kj,kv⟩:=H2.o;have km:=X.size;have hg:aa (λj=>j=ar\/F.S j) w2 wc:=(aa.RK kv _).trans qn;obtain⟨h3,x1⟩:=h2.call hg x5 K.nb;have ks:m6 wc l o (.slice H m dc):=ag.keep kr (hg.block _ V (λe=>by
   rcases e with e|e;.omega
   .have:=z _ e;omega));have ky:aM wc rb (o.d++[71,72]):=Wc W (hg.block rb W.lt (λe=>by
   rcases e with e|e;.omega
   .have:=z _ e;omega));have xf:=kX hN h3.gl;have xi:=hg.size;have hz:eK w1.heap.size w1 wc:=(eK.below X _).trans (x1.mono km);have J':=hide8 ks h3 ky hz x (TU km xi) K O';go_wp2_with fail;refine xf.mono ?_;rintro e R⟨rfl,ke⟩;obtain⟨C,g,Y,hd,E,f,Z,kc,z,kk⟩:=I'.o;obtain⟨ks,h3,ky,hz,x,qe,K,O'⟩:=J'.o;have kj:=H2.o.2.2.2.2.1;have i:=h3.below ke;have ka:m6 R l o (.slice H m dc):=ag.keep ks (ke.block _ (ag.lt ks));have k9:aM R rb (o.d++[71,72]):=ky.below ke;have qi:=Jb rb _ o.d R k9 (hd.mono i.base) V;rw[f]at qi;have x4:=ka.cells.2.2.2;have H4:=a5 ka i k9 (hz.trans (eK.below ke _)) (TU qe ke.size);go_wp2_with fail;refine qi.mono ?_;rintro e w5⟨rfl,kg,_⟩;obtain⟨C,g,Y,hd,E,f,Z,kc,z,kk⟩:=I'.o;obtain⟨ka,i,k9,q8,xh⟩:=H4.o;obtain⟨_,_,_,_,x,_,K,O'⟩:=J'.o;have kj:=H2.o.2.2.2.2.1;have V':∀j,j≠rb->j<R.heap.size->w5.heap[j]?=R.heap[j]?:=λj hj hl=>kg.block j hl (λe=>hj adT);have ko:=kg.size;have x8:=i.live.aside (w':=w5) (b:=rb) (B:=w1.heap.size) (KX k9) (by obtain⟨cs,qx,_⟩:=k9;exact cI i.live.kit qx qJ) ko V' kj (λk hk=>ia (z k hk)) V V (by have:=g.live.vol.room;exact this);have q9:eK w1.heap.size R w5:=λT _ j cs hj hq=>V' j V V;have q3:bW w0 w5:=i.base.trans ⟨kg.os,kg.tape,kg.output,ko,λj hj=>V' j (ia g.base.size) (TY hj i.base.size)⟩;have qd:w5.heap[wb]?=R.heap[wb]?:=V' wb (ia (ag.lt g.wbA)) (ag.lt i.wbA);have U':MB w0 w5 wb D L G nb t' xs' p r sa ar v Kind ps xk qr P' B F out want cache:={i with wbA:=ag.keep i.wbA qd,box:=(V' sa (ia g.box.lt) i.box.lt).trans i.box,live:=x8,base:=q3};have M:m6 w5 l o (.slice H m dc):=ag.keep ka (V' l V (ag.lt ka));have y:=Y.keep (q8.trans q9) lR;obtain⟨xz,y1,xd⟩:=y.ref;have kb:Q.length<=1000:=by rw[y.rel.len];have:=g.live.Sd.1;simpa[aF.os]using this
  have qv:=nD xd V y.rel.sl;have r5:=U'.wbA.cells.2.2.2.2.2.1;have H5:=aE M U' y kb;go_wp2_with fail;refine qv.mono ?_;rintro e w6⟨rfl,⟨u6,kx⟩,N⟩;obtain⟨M,U',y,kb⟩:=H5.o;obtain⟨_,_,_,hd,E,f,_,_,_,_⟩:=I'.o;have x:=J'.o.2.2.2.2.1;have h6:=U'.below N;have kz:m6 w6 l o (.slice H m dc):=ag.keep M (N.block _ (ag.lt M));have qg:=QL kx kb y.rel y.rel.sl f (hd.mono h6.base) x;obtain⟨_,_,y6,x6⟩:=kz.cells;obtain⟨q5,qb⟩:=nM (w5.heap.size);rw[qb]at qg kx⊢;have H6:=a5 kz h6 kx N qb;go_wp2_with fail;refine qg.mono ?_;rintro e c xc;obtain⟨kz,h6,kx,N,qb⟩:=H6.o;obtain⟨M,U',y,kb⟩:=H5.o;have x:=J'.o.2.2.2.2.1;obtain⟨K,O'⟩:=J'.o.2.2.2.2.2.2;have hx:=K;rcases xc with⟨n0,xv,rfl,rfl⟩|⟨hn,rfl,u7,xm,xe,xa,qo⟩;.obtain rfl:=x.none n0;have hy:MS KW (eI A) w0 c wb D L G nb (t+1):=⟨_,_,_,_,_,_,_,_,_,_,_,_,_,_,_,_,_,_,h6,y.keep (eK.below N _) lR,O',hx⟩;have HF:=ak hy;go_wp2_with fail;refine(ly n c).mono ?_;rintro e w8⟨rfl,rfl⟩;go_wp2;go_ret;exact⟨rfl,HF.o⟩
  . have q4:Below w5.heap.size w6 c:=qo.below λk hk=>⟨TY hk N.size,V⟩;have hr:bW w5 c:=N.trans q4;have u:=U'.below hr;have hv:=y.keep (eK.below hr _) lR;rcases hn with rfl|rfl
    . obtain⟨_,q7,_,_,Ao,xb,rfl⟩:=x.some;have E:=I'.o.2.2.2.2.1;have q2:=u.wbA;have r7:=q2.cells.2.2.2.2.2.1;have f7:=ag.R2 q2 5;have hN:∀w8,w8=c.setCell ⟨wb,5,ZY⟩ (Z6 (U ⟨q5,0,ZY⟩))->MS KW (eI A) w0 w8 wb D L G nb (t+1):=by rintro w8 rfl;have qp:aa (λj=>j=wb) c (c.setCell ⟨wb,5,ZY⟩ (Z6 (U ⟨q5,0,ZY⟩))):=aa.setCell _ _ _ rfl;have qs:dG (c.setCell ⟨wb,5,ZY⟩ (Z6 (U ⟨q5,0,ZY⟩))) wb D L G (Z6 (U ⟨p,0,ZY⟩)) (Z6 (U ⟨sa,0,ZY⟩)) (Z6 (U ⟨q5,0,ZY⟩)) nb out want cache:=ag.set q2 5 [Z6 (U ⟨q5,0,ZY⟩)] Zh;obtain⟨h8,x2⟩:=u.write qp qs;have q6:Dc KW c q5 (Q.take (aJ (cG Q) o.s)++(o.s,xm)::Q.drop (aJ (cG Q) o.s)) (xs.ins (Ao,o.d)) out want:=⟨⟨_,u7,xe⟩,IS hv.rel xb ⟨⟨_,xa⟩,E,q7⟩,hv.ow,hv.mks⟩;exact⟨_,_,_,_,_,_,_,_,_,_,_,_,_,_,_,_,_,_,h8,q6.keep x2 lR,O',hx⟩
      have HN:=ak hN;go_wp2_with fail;refine(ly 0 _).mono ?_;rintro e w8⟨rfl,rfl⟩;go_wp2;go_ret;exact⟨rfl,HN.o _ rfl⟩
    . obtain rfl:=x.none ec;have f:=I'.o.2.2.2.2.2.1;have hy:MS KW (eI A) w0 c wb D L G nb (t+1):=⟨_,_,_,_,_,_,_,_,_,_,_,_,_,_,_,_,_,_,u,hv,O',hx⟩;have x0:=OA hv.rel f u.live.vol.par.d1 qm u.live.disk.fits x;rw[K.nb.symm.trans u.nb]at x0;obtain⟨c0,_,_,_,_,c5,c6,_⟩:=u.wbA.cells;have qq:m6 c l o (.slice H m dc):=ag.keep M (hr.block _ (ag.lt M));have x7:=qq.cells.2.2.2;obtain⟨y0,y3,qc⟩:=hv.ref;have x9:∀k,ZS ZO 29 #[Z6 (U ⟨r,0,ZY⟩),I O D,I O m] (c.drewN k) λe w'=>e=Z3 (I O (jT Q D (m:Int):Nat))/\w'=c.drewN k:=λk=>by have kf:bW c (c.drewN k):=⟨rfl,rfl,rfl,TV _,λ_ _=>rfl⟩;exact(FV ⟨(kf.block _ (TX.1 qc.top).1).trans qc.top,az qc.own kf⟩ kb hv.rel.sl D u.live.vol.par.d1 V (m:Int) V V).mono λe w' q=>⟨q.2,q.1⟩
      generalize jT Q D (m:Int)=nn at*;have HF:=al hy x9;have xj:IntKind.i64.wrap ((nb:Int)-8)=(nb:Int)-8:=(by rw[Ux];have:=u.nb;have:=u.live.nb;omega);go_upto_region 8 with fail;go_quiet((go_at_call 29;refine ac0 (HF.o.2 _)));go_wp2;go_ret;obtain⟨t1,y5,Q1,p1,r1,y4,xp,v1,xq,xy,pg1,xx,P1,A1,F1,xo,xn,hb,hM,hC,hT⟩:=HF.o.1;have kf:bW c (c.drewN nq):=⟨rfl,rfl,rfl,TV _,λ_ _=>rfl⟩;exact⟨rfl,_,_,_,_,_,_,_,_,_,_,_,_,_,_,_,_,_,_,hM.below kf,hC.keep (eK.below kf _) lR,hT⟩
structure St0(KW w0 w w1:ZU)(wb D L G nb t:Nat)(xs:aF)(Q:List (ByteArray×ZT))(p r sa ar v:Nat)(Kind:aN->Prop)(ps:aN)(pg ob:ZT)(P:a7)(A:an)(F:aC)(out want:ZT)(cache:Int)(o:mi)(dv:ZT):Prop where
 op:m6 w1 w.heap.size o dv
 b:MB w0 w1 wb D L G nb t xs p r sa ar v Kind ps pg ob P A F out want cache
 c:Dc KW w1 r Q xs out want
 ar:ar<w.heap.size
 f:∀k,F.S k->k<w.heap.size
 lt:w.heap.size<w1.heap.size
def st0{xs:aF}(h:MB w0 w wb D L G nb t xs p r sa ar v Kind ps pg ob P A F out want cache)(e:Dc KW w r Q xs out want)(o:mi)(dv:ZT){w1:ZU}(d:w.alloc (Z4 #[I O o.kind,I O o.a,Z0 o.s,dv] 38)=w1):St0 KW w0 w w1 wb D L G nb t xs Q p r sa ar v Kind ps pg ob P A F out want cache o dv:=by
 have c:bW w w1:=by rw[<-d];exact bA w _
 have b:m6 w1 w.heap.size o dv:=by rw[<-d];exact UD w _
 exact⟨b,h.below c,e.keep (eK.below c _) lR,h.live.arc.lt,λk f=>h.live.vol.arr.RL f,ag.lt b⟩
def MS.mono{T T':Nat}(h:MS KW C w0 w wb D L G nb T)(hT:T<=T')(d:∀A,C A->C' A):MS KW C' w0 w wb D L G nb T':=by obtain⟨t,xs,Q,p,r,sa,ar,v,Kind,ps,pg,ob,P,A,F,out,want,cache,a,b,e,c⟩:=h;exact⟨t,xs,Q,p,r,sa,ar,v,Kind,ps,pg,ob,P,A,F,out,want,cache,a,b,V,d A c⟩
section
def EU{D:Nat}{xs:aF}(b:∀x∈xs,l8 D x){X:Ob×a7}(a:X∈xs):cF X.1.name=J:=by have:=(b X a).fit.name;unfold cF;exact U4 this
def OC{xs:aF}(a:X∈xs):X.1.name∈xs.names:=T9.2 ⟨X.1,T9.2 ⟨X,a,rfl⟩,rfl⟩
def OD{xs:aF}(h:x∈xs.names):∃X∈xs,X.1.name=x:=by obtain⟨o,ho,e⟩:=T9.1 h;obtain⟨X,a,rfl⟩:=T9.1 ho;exact⟨X,a,e⟩
def QM{D:Nat}{xs:aF}{Q:List (ByteArray×ZT)}(a:iH wx Q xs)(i:Up xs.names)(p:∀x∈xs,l8 D x)(f:X∈xs):∃c,(∀e,aaK Q X.1.name e->e=Z3 (ZZ #[c,I O 0]))/\Ow wx c X.2:=by
 have r:=js a X.1.name;obtain⟨b,h,g⟩:=UZ f;have d:b<Q.length:=by rw[a.len];exact h
 obtain⟨t,j⟩:=a.at b d h;rw[g]at t j;refine⟨Q[b].2,λe o=>?_,j⟩;rcases o with⟨q,_⟩|⟨_,q,_⟩|⟨_,k,q,l⟩;.exact absurd ((gQ _).2 (EU p f)) q
 .exact absurd (OC f) (r.1 q)
 .have s:=(jt a i q).1;have hl:b<xs.names.length:=(by rw[<-a.names];unfold cG;rw[Uf];exact d);have n:=iO i hl (x:=X.1.name) (by rw[<-g];simp[aF.names,aW,aF.os]);have m:k=b:=s.symm.trans n;subst m;rw[l,Ub,Ud d];rfl
def abt{base D:Nat}{xs:aF}{Q:List (ByteArray×ZT)}(v:xE xs x base u rr wx)(r:iH wx Q xs)(s:Up xs.names)(j:∀x∈xs,l8 D x):∃n c l,QK rr n/\(∀e,aaK Q x e->e=Z3 (ZZ #[c,I O n]))/\Ow wx u l/\Ow wx c l/\(n=0\/(n≠0/\u=Z5 ZY 0 0/\x∉xs.names)):=by
 have m:=gQ x;rcases v with⟨d,⟨b,a⟩|⟨b,a,o⟩⟩|⟨b,a,X,f,w,ho⟩
 . refine⟨6,Z5 ZY 0 0,[],.inl b,λe i=>?_,d▸Ow.nil _,Ow.nil _,.inr ⟨ec,d,λq=>?_⟩⟩
   . rcases i with⟨_,g⟩|⟨q,_⟩|⟨q,_⟩;.exact g
     .rw[m,a]at q;cases q
     .rw[m,a]at q;cases q
   .obtain⟨X,f,e⟩:=OD q;have:=EU j f;rw[e,a]at this;cases this
 . refine⟨9,Z5 ZY 0 0,[],.inl b,λe i=>?_,d▸Ow.nil _,Ow.nil _,.inr ⟨ec,d,o⟩⟩;rcases i with⟨q,_⟩|⟨_,_,g⟩|⟨_,k,q,_⟩;.exact absurd (m.2 a) q
   .exact g
   .exact absurd (jt r s q).2.2 o
 .obtain⟨c,p,t⟩:=QM r s j f;have h:=j _ f;rw[w]at p;exact⟨0,c,X.2,.inr ⟨b,rfl⟩,p,⟨⟨base,ho⟩,h.byt,by rw[h.len];exact h.fit.size⟩,t,.inl rfl⟩
def aci:¬kT 38:=vm
section
variable {KW w0 w:ZU}{wb D L G nb t:Nat}{xs:aF}{Q:List (ByteArray×ZT)}{p r sa ar v:Nat}{Kind:aN->Prop}{ps:aN}{pg ob:ZT}{P:a7}{A:an}{F:aC}{out want:ZT}{cache:Int}
theorem OE(h:MB w0 w wb D L G nb t xs p r sa ar v Kind ps pg ob P A F out want cache)(k:Dc KW w r Q xs out want)(o:mi)(dv:ZT)(hd:Bs w0 dv o.d)(x:o.d.length<=100000)(z:t<1000000)(u:D<=6)(B:o.kind=1):ZS ZO 9 #[Z6 (U ⟨wb,0,ZY⟩),.agg #[I O o.kind,I O o.a,Z0 o.s,dv]] w λe w'=>e=Z3 (Z1 J)/\MS KW (eI A) w0 w' wb D L G nb (t+1):=by obtain⟨q,dc,y,_⟩:=id hd;subst y;obtain⟨m,l⟩:=nM (o.d.length);rw[l]at hd⊢;obtain⟨w1,j⟩:=nM (w.alloc (Z4 #[I O o.kind,I O o.a,Z0 o.s,.slice q m dc] 38));have f:=st0 h k o _ j;have g:=OB f.b f.c o _ hd x z u;obtain⟨C,E,H,K⟩:=f.op.cells;clear f h k hd l;rw[B]at C j g⊢;go_enter func9,ntmps9;go_wp2_with fail;refine g.mono ?_;rintro e w2⟨rfl,i⟩;have n:=ak i;clear i g;go_wp2;go_ret;exact⟨rfl,n.o⟩
theorem EV(h:MB w0 w wb D L G nb t xs p r sa ar v Kind ps pg ob P A F out want cache)(hc:Dc KW w r Q xs out want)(o:mi)(dv:ZT)(kv:∃W m dc,dv=.slice W m dc)(hk:o.kind=2):ZS ZO 9 #[Z6 (U ⟨wb,0,ZY⟩),.agg #[I O o.kind,I O o.a,Z0 o.s,dv]] w λe w'=>e=Z3 (Z1 J)/\(∃ps' I' H P' i d,MB w0 w' wb D L G nb t xs p r sa ar v Kind ps' I' H P' A F i d cache/\Dc KW w' r Q xs i d):=by
 obtain⟨W,m,dc,rfl⟩:=kv;obtain⟨w1,k9⟩:=nM (w.alloc (Z4 #[I O o.kind,I O o.a,Z0 o.s,.slice W m dc] 38));have g:=st0 h hc o _ k9;have hp:bW w1 w1.drew:=(TW _ w1).drew;have X:=g.b.below hp;have hx:=acE X.box X.live o.s λwx kp=>Qx (X.live.below kp) X.shv o.s;obtain⟨x0,x1,x2,x3⟩:=g.op.cells;have s1:=g.b.wbA.cells.2.2.2.2.1;obtain⟨q0,U'⟩:=nM (w.heap.size);have HS:=al g U';clear g h hc hp X;rw[hk]at x0 k9⊢;rw[U']at x0 x1 x2 x3;clear hk;go_enter func9,ntmps9;go_upto_region 5 with fail;clear U' k9 x0 x1 x3;go_cut[5,6]from 21 to 233(λv5 v6 wx=>G4 w1.drew ar v p Kind ps D L G t xs A F o.s (Z3 (ZZ #[v5,v6])) wx);case first=>go_region_with(go_at_call 22;refine hx.mono ?_;rintro e w2 k8;obtain⟨uu,rr,_,_,_,_,rfl,_⟩:=id k8;have V':=ak k8;clear k8);all_goals(go_wp2_with fail;go_meet;case rel=>exact V'.o)
 case rest=>
  obtain⟨u,rr,ps',I',H,P',he,⟨kg,k6,hq⟩,ka,ke⟩:=hcut;cases he;obtain⟨g,U'⟩:=HS.o;have hp:bW w1 w1.drew:=(TW _ w1).drew;have ha:aa (λj=>j=ar\/F.S j\/j=v\/ps.bl j) w1 wc:=(aa.RK hp _).trans ka;obtain⟨x,kf⟩:=g.b.TR ha kg rfl k6 hq;have y:=g.c.keep kf lR;have C:m6 wc q0 o (.slice W m dc):=by rw[<-U'];exact ag.keep g.op (ha.block _ g.lt (λe=>by
    rcases e with e|e|e|e;.have:=g.ar;omega
    .have:=g.f _ e;omega
    .have:=g.ar;have:=g.b.live.vlt;omega
    .exact cI g.b.live.kit g.op aci e))
  obtain⟨n,cv,l,hN,E,B,z,N⟩:=abt ke y.rel x.live.disk.up x.live.disk.fits;have kj:=kX hN x.gl;obtain⟨⟨O',T,R,hu,_⟩,_⟩:=B.sl;obtain⟨⟨J',M,K,ks,_⟩,_⟩:=z.sl;subst hu ks;have V':=hide7 x y C E B z N;clear k6 hq g U' hp ha x kf y C hN E B z N kg ka ke hx x2 s1;go_wp2_with fail;refine kj.mono ?_;rintro e w3⟨rfl,Z⟩;clear kj;obtain⟨x,y,C,E,B,z,N⟩:=V'.o;have h3:=x.below Z;have k7:=y.keep (eK.below Z _) lR;have kb:m6 w3 q0 o (.slice W m dc):=ag.keep C (Z.block _ (ag.lt C));have y3:=kb.cells.2.2.1;have r3:=h3.wbA.cells.2.2.2.2.2.1;have kc:Q.length<=1000000:=by rw[k7.rel.len];have:=h3.live.Sd.1;have e:xs.os.length=xs.length:=Jx;omega
  have kh:∀k,ZS ZO 23 #[Z6 (U ⟨r,0,ZY⟩),Z0 o.s] (w3.drewN k) λe w'=>e=Z3 (ZZ #[.slice J' M K,I O n])/\w'=w3.drewN k:=λk=>by have ko:bW w3 (w3.drewN k):=⟨rfl,rfl,rfl,TV _,λ_ _=>rfl⟩;obtain⟨rb,rv,hr⟩:=(k7.keep (eK.below ko _) lR).ref;exact(Dq hr kc o.s).mono λe w' q=>⟨E e q.2,q.1⟩
  have H3:=aE h3 k7 kh Z;clear x y C E B z N h3 k7 kb kc kh Z;go_upto_region 7 with fail;go_quiet((go_at_call 23;refine ac0 (H3.o.2.2.1 _)));clear y3 r3;have hj:bW wc (w3.drewN nq):=H3.o.2.2.2.trans ⟨rfl,rfl,rfl,TV _,λ_ _=>rfl⟩;obtain⟨w4,kk⟩:=nM (w3.drewN nq);rw[kk]at hj⊢;clear kk;obtain⟨x,y,C,E,B,z,N⟩:=V'.o;have k0:=B.keep (Kd.below hj _ _);have hy:=z.keep (Kd.below hj _ _);have ki:=Hi _ _ l w4 k0.bs hy.bs;have H4:=ak hj;clear hj x y C E B z N k0 hy;go_wp2_with fail;refine ki.mono ?_;rintro e w5⟨rfl,m5,km⟩;have hm:bW wc w5:=H4.o.trans (by rw[km];exact⟨rfl,rfl,rfl,TV _,λ_ _=>rfl⟩);clear km ki;obtain⟨x,y,C,E,B,z,N⟩:=V'.o;have h5:=x.below hm;have hs:=y.keep (eK.below hm _) lR;have k5:=B.keep (Kd.below hm _ _);have hz:=z.keep (Kd.below hm _ _);have Y:=h5.wbA;obtain⟨_,_,_,_,_,_,_,c7,c8,_⟩:=Y.cells;have f7:=ag.R2 Y 7;have f8:=ag.R2 Y 8;obtain⟨⟨oa,om,oc,rfl,_⟩,wa,wm,wd,rfl,_⟩:=hs.ow;have hv:(∃ps' I' H P' i d,MB w0 ((w5.setCell ⟨wb,7,ZY⟩ (.slice O' T R)).setCell ⟨wb,8,ZY⟩ (.slice J' M K)) wb D L G nb t xs p r sa ar v Kind ps' I' H P' A F i d cache/\Dc KW ((w5.setCell ⟨wb,7,ZY⟩ (.slice O' T R)).setCell ⟨wb,8,ZY⟩ (.slice J' M K)) r Q xs i d):=by have hO:aa (λj=>j=wb) w5 ((w5.setCell ⟨wb,7,ZY⟩ (.slice O' T R)).setCell ⟨wb,8,ZY⟩ (.slice J' M K)):=(aa.setCell (S:=λj=>j=wb) w5 ⟨wb,7,ZY⟩ _ rfl).trans (aa.setCell (S:=λj=>j=wb) _ ⟨wb,8,ZY⟩ _ rfl);have hW:dG ((w5.setCell ⟨wb,7,ZY⟩ (.slice O' T R)).setCell ⟨wb,8,ZY⟩ (.slice J' M K)) wb D L G (Z6 (U ⟨p,0,ZY⟩)) (Z6 (U ⟨sa,0,ZY⟩)) (Z6 (U ⟨r,0,ZY⟩)) nb (.slice O' T R) (.slice J' M K) cache:=ag.set Y 7 [.slice O' T R,.slice J' M K] Zh;obtain⟨h6,kx⟩:=h5.write hO hW;have kr:Dc KW w5 r Q xs (.slice O' T R) (.slice J' M K):=⟨hs.ref,hs.rel,⟨k5.sl.1,hz.sl.1⟩,hs.mks⟩;exact⟨_,_,_,_,_,_,h6,kr.keep kx lR⟩
  have HF:=ak hv;clear hv x y C E B z h5 hs k5 hz Y hm;rcases N with rfl|⟨hn,hu,_⟩;.go_wp2_with fail;refine(ly 0 _).mono ?_;rintro e w8⟨rfl,rfl⟩;go_wp2;go_ret;exact⟨rfl,HF.o⟩
  .cases hu;have ky:=λwx=>XH (P:=ZO) wx 36 5 ZY 0 0 0 0 Ur;go_wp2_with fail;refine(ly n _).mono ?_;rintro e w8⟨rfl,rfl⟩;go_wp2;go_ret;exact⟨rfl,HF.o⟩
end
end
section
def Rm(w:ZU)(g:Nat)(os:List Ob)(i:ZT)(wr:ZU):Prop:=∃k:Nat,k<=os.length/\i=I O (k:Nat)/\bW w wr/\∃cur:List ZT,ag wr g 80 cur/\os.length*2<=cur.length/\∀j(hj:j<os.length),k<=j->cur[j*2]?=U (Z0 os[j].name)/\cur[j*2+1]?=U (I O (os[j].size:Nat))
def EX:∀(os:List Ob)(j:Nat)(a:j<os.length),(m3 os)[j*2]?=U (Z0 os[j].name)/\(m3 os)[j*2+1]?=U (I O (os[j].size:Nat))
 |[],j,a=>absurd a ej|o::os,0,_=>⟨rfl,rfl⟩|o::os,j+1,a=>by
  have e:m3 (o::os)=[Z0 o.name,I O (o.size:Nat)]++m3 os:=by unfold m3;rw[VJ];rfl
  obtain⟨b,c⟩:=EX os j (ua a);rw[e];refine⟨?_,?_⟩;.rw[U8 ek,(ek:(j+1)*2-[Value.string o.name,I O (o.size:Nat)].length=j*2)];exact b
  .rw[U8 ek,(ek:(j+1)*2+1-[Value.string o.name,I O (o.size:Nat)].length=j*2+1)];exact c
def Rm.start{w:ZU}{base:Nat}(h:wr.ownsRow base 80 2 u n (m3 os))(p:os.length=n)(s:0<n)(m:bW w wr)(t:w.heap.size<=base):∃g cap,u=Z5 (U ⟨g,0,ZY⟩) n cap/\w.heap.size<=g/\Rm w g os (I O 0) wr:=by
 rcases h.2 with⟨_,e⟩|⟨g,cap,cur,c,q,d,f,r,i,k⟩;.omega
 . refine⟨g,cap,c,V,0,T8 _,rfl,m,cur.toList,?_,?_,λj o _=>?_⟩;.unfold ag;rw[d,Array.toArray_toList]
   .have l:cur.toList.length=cap*2:=(by rw[WR];exact i);rw[l,p];exact WY 2 f
   .obtain⟨a,b⟩:=EX os j o;have:j*2+1<n*2:=V;rw[<-k]at a b;rw[VK V]at a b;exact⟨a,b⟩
theorem Rm.next{w:ZU}{cur:List ZT}(x y:ZT)(s:k<os.length)(h:bW w wr)(a:w.heap.size<=g)(m:ag wr g 80 cur)(hl:os.length*2<=cur.length)(l:∀j(b:j<os.length),k<=j->cur[j*2]?=U (Z0 os[j].name)/\cur[j*2+1]?=U (I O (os[j].size:Nat))):Rm w g os (I O ((k:Int)+1)) ((wr.setCell ⟨g,k*2,ZY⟩ x).setCell ⟨g,k*2+1,ZY⟩ y):=by
 have d:=ag.set m (k*2) [x,y] ek;have c:bW w ((wr.setCell ⟨g,k*2,ZY⟩ x).setCell ⟨g,k*2+1,ZY⟩ y):=(h.setCell (p:=⟨g,k*2,ZY⟩) a _).setCell (p:=⟨g,k*2+1,ZY⟩) a _;refine⟨k+1,V,rfl,c,_,d,?_,λj b q=>?_⟩;.simp only[Ua,Uq,Un,UC,U0];omega
 . obtain⟨n,o⟩:=l j b V;have e:∀i,k*2+2<=i->(cur.take (k*2)++[x,y]++cur.drop (k*2+[x,y].length))[i]?=cur[i]?:=λi r=>by have f:(cur.take (k*2)++[x,y]).length=k*2+2:=(by rw[Ua,Uq];simp;omega);rw[U8 V,f,Wm];congr 1;simp;omega
   exact⟨(e _ V).trans n,(e _ V).trans o⟩
section
variable {KW w0 w:ZU}{wb D L G nb t:Nat}{xs:aF}{Q:List (ByteArray×ZT)}{p r sa ar v:Nat}{Kind:aN->Prop}{ps:aN}{pg ob:ZT}{P:a7}{A:an}{F:aC}{out want:ZT}{cache:Int}
theorem IT(h:MB w0 w wb D L G nb t xs p r sa ar v Kind ps pg ob P A F out want cache)(hc:Dc KW w r Q xs out want)(o:mi)(dv:ZT)(ka:∃K m dc,dv=.slice K m dc)(R:o.kind=4):ZS ZO 9 #[Z6 (U ⟨wb,0,ZY⟩),.agg #[I O o.kind,I O o.a,Z0 o.s,dv]] w λe w'=>e=Z3 (Z1 J)/\bW w w':=by
 obtain⟨K,m,dc,rfl⟩:=ka;obtain⟨w1,T⟩:=nM (w.alloc (Z4 #[I O o.kind,I O o.a,Z0 o.s,.slice K m dc] 38));have d:=st0 h hc o _ T;have kc:=Rj d.b.box d.b.live;obtain⟨x0,x1,x2,x3⟩:=d.op.cells;have s1:=d.b.wbA.cells.2.2.2.2.1;have y:∀w',bW w1 w'->bW w w':=λw' hb=>by
  have hq:bW w w1:=by rw[<-T];exact bA w _
  exact hq.trans (hb.mono hq.size)
 obtain⟨rb,rv,z⟩:=d.c.ref;obtain⟨N,f⟩:=nM (xs.os.length);have j:Q.length=N:=by rw[d.c.rel.len,<-f];simp[aF.os]
 have kh:N<=1000:=by rw[<-f];exact d.b.live.Sd.1
 have U':=a5 d y z f j;rw[R]at x0 T⊢;go_enter func9,ntmps9;go_wp2_with fail;refine kc.mono ?_;rintro e w2⟨u,rfl,E,M⟩;have H2:=al E M;go_wp2_with fail;refine(kD w2).mono ?_;rintro e w3⟨rfl,hs⟩;obtain⟨d,y,z,f,j⟩:=U'.o;obtain⟨E,M⟩:=H2.o;have C:bW w1 w3:=E.trans (hs.mono E.size);have O':=az M hs;rw[f]at O';have k7:dG w3 wb D L G (Z6 (U ⟨p,0,ZY⟩)) (Z6 (U ⟨sa,0,ZY⟩)) (Z6 (U ⟨r,0,ZY⟩)) nb out want cache:=ag.keep d.b.wbA (C.block _ (ag.lt d.b.wbA));have r3:=k7.cells.2.2.2.2.2.1;have S:mh w3 r rb rv Q:=qN.ref z (eK.below C _).RZ lR;have t3:=S.cell.1;by_cases Z:N=0
 . have hu:∃I' J',u=.slice I' 0 J':=by obtain⟨I',J',e⟩:=bu O';exact⟨I',J',by rw[e,Z]⟩
   have kf:∃l q,rv=.slice l 0 q:=by obtain⟨l,q,e⟩:=bu S.own;exact⟨l,q,by rw[e,j,Z]⟩
   obtain⟨I',J',rfl⟩:=hu;obtain⟨l,q,rfl⟩:=kf;have B:=ak (y _ C);go_wp2;refine VD 1 ?_;rw[Vx];go_wp2;go_ret;exact⟨rfl,B.o⟩
 . obtain⟨g,cap,rfl,hg,k5⟩:=Rm.start O' f V C lR;obtain⟨l,q,k0⟩:=bu S.own;rw[j]at k0;subst k0;have B:=al k5 hg;go_wp2_with fail;go_loopw[19](λi wr=>Rm w1 g xs.os i wr)(λi _=>N-(intOf i).toNat);case atStart=>exact B.o.1
   case round=>
    obtain⟨k,R,rfl,H,cur,x,hf,h8⟩:=hrel;obtain⟨d,y,z,f,j⟩:=U'.o;rw[f]at R;by_cases kj:k<N
    . have ki:(k:Int)<(N:Int):=V;have hy:k<xs.os.length:=V;have h9:k<xs.length:=by have e:xs.os.length=xs.length:=Jx;omega
      obtain⟨q1,q2⟩:=h8 k hy lR;have e1:=ag.cell x q1;have e2:=ag.cell x q2;have g1:=ag.R2 x (k*2);have g2:=ag.R2 x (k*2+1);have k8:dG wr wb D L G (Z6 (U ⟨p,0,ZY⟩)) (Z6 (U ⟨sa,0,ZY⟩)) (Z6 (U ⟨r,0,ZY⟩)) nb out want cache:=ag.keep d.b.wbA (H.block _ (ag.lt d.b.wbA));have rr:=k8.cells.2.2.2.2.2.1;have hz:mh wr r rb (.slice l N q) Q:=qN.ref z (eK.below H _).RZ lR;have tr:=hz.cell.1;obtain⟨qn,qo⟩:=d.c.rel.at k V h9;obtain⟨⟨ba,V',bc,hv,_⟩,hx⟩:=qo.sl;rw[hv]at hx;have k9:V'=xs.os[k].size:=by have h1:=(d.b.live.disk.fits _ (T7 h9)).len;have h2:xs.os[k]=xs[k].1:=Jx;rw[h2,<-h1];exact hx
      have ke:Q[k].1=xs.os[k].name:=(by rw[qn];simp[aF.os]);obtain⟨n,kg,d1,Y⟩:∃n,l=U ⟨n,0,ZY⟩/\wr.cell? ⟨n,k*2,ZY⟩=U (Z0 xs.os[k].name)/\wr.cell? ⟨n,k*2+1,ZY⟩=U (.slice ba V' bc):=by
       rcases hz.shape with⟨_,e⟩|⟨n,X,e,_,_,h7⟩;.rw[e]at j;simp at j;omega
       .simp only[Vy]at e;obtain⟨c1,W⟩:=h7 k V;rw[ke]at c1;rw[hv]at W;exact⟨n,e.1,c1,W⟩
      subst kg;rw[k9]at Y;have k6:∀m,Rm w1 g xs.os (I O ((k:Int)+1)) (((wr.drewN m).setCell ⟨g,k*2,ZY⟩ (.string ⟨#[109,105,110,101]⟩)).setCell ⟨g,k*2+1,ZY⟩ (I O 0)):=λm=>Rm.next _ _ hy (H.trans ⟨rfl,rfl,rfl,TV _,λ_ _=>rfl⟩) B.o.2 (ag.keep x rfl) hf h8;obtain⟨nm,hh⟩:=nM (xs.os[k].name);obtain⟨sz,hn⟩:=nM (xs.os[k].size);rw[hh]at e1 d1;rw[hn]at e2 Y;have HN:=ak k6;go_upto_region 30 with fail;go_quiet(fail);go_wp2;exact⟨HN.o _,iE⟩
    .have kb:k=N:=V;subst kb;have HB:=ak (y _ H);go_wp2;go_ret;exact⟨rfl,HB.o⟩
def KY(h:MB w0 w wb D L G nb t xs p r sa ar v Kind ps pg ob P A F out want cache)(c:Dc KW w r Q xs out want)(o:mi)(dv:ZT)(f:∃d m dc,dv=.slice d m dc)(j:o.kind=4){C:an->Prop}(g:C A):ZS ZO 9 #[Z6 (U ⟨wb,0,ZY⟩),.agg #[I O o.kind,I O o.a,Z0 o.s,dv]] w λe w'=>e=Z3 (Z1 J)/\MS KW C w0 w' wb D L G nb (t+1):=(IT h c o dv f j).mono λ_ _⟨i,b⟩=>⟨i,_,_,_,_,_,_,_,_,_,_,_,_,_,_,_,_,_,_,h.below b,c.keep (eK.below b _) lR,V,g⟩
end
end
section
def MS.S5{KW w0 w:ZU}{wb D L G nb T:Nat}(h:MS KW C w0 w wb D L G nb T):MS w C w0 w wb D L G nb T:=by obtain⟨t,xs,Q,p,r,sa,ar,v,Kind,ps,pg,ob,P,A,F,out,want,cache,b,a,c⟩:=h;exact⟨t,xs,Q,p,r,sa,ar,v,Kind,ps,pg,ob,P,A,F,out,want,cache,b,⟨a.ref,a.rel,a.ow,λ_ _ _ _ _=>rfl⟩,c⟩
def MS.base{KW w0 w:ZU}{wb D L G nb T:Nat}(h:MS KW C w0 w wb D L G nb T):bW w0 w:=by obtain⟨t,xs,Q,p,r,sa,ar,v,Kind,ps,pg,ob,P,A,F,out,want,cache,a,_⟩:=h;exact a.base
section
variable {KW w0 w:ZU}{wb D L G nb t:Nat}{xs:aF}{Q:List (ByteArray×ZT)}{p r sa ar v:Nat}{Kind:aN->Prop}{ps:aN}{pg ob:ZT}{P:a7}{A:an}{F:aC}{out want:ZT}{cache:Int}
def HaS(KW w0:ZU)(wb D L G nb t:Nat)(xs:aF)(Q:List (ByteArray×ZT))(p r sa ar v:Nat)(Kind:aN->Prop)(A:an)(F:aC)(cache:Int)(w:ZU):Prop:=∃ps pg ob P out want,MB w0 w wb D L G nb t xs p r sa ar v Kind ps pg ob P A F out want cache/\Dc KW w r Q xs out want
theorem Ca(c:MB w0 w wb D L G nb t xs p r sa ar v Kind ps pg ob P A F out want cache)(b:Dc KW w r Q xs out want):ZS ZO 18 #[Z6 (U ⟨wb,0,ZY⟩)] w λe w'=>e=Z3 (Z1 J)/\HaS KW w0 wb D L G nb t xs Q p r sa ar v Kind A F cache w':=by
 have O':=IT c b ⟨4,0,YF,[]⟩ (Z5 ZY 0 0) ⟨_,_,_,rfl⟩ rfl;have u:=al c b;go_enter func18,ntmps18;go_wp2_with fail;refine O'.mono ?_;rintro e w1⟨rfl,z⟩;have C:=ak (show HaS KW w0 wb D L G nb t xs Q p r sa ar v Kind A F cache w1 from⟨_,_,_,_,_,_,u.o.1.below z,u.o.2.keep (eK.below z _) lR⟩);go_wp2_with fail;go_loopw[3,4](λok i wx=>∃k:Nat,k<=Q.length/\i=I O (k:Nat)/\ok=Z1 J/\HaS KW w0 wb D L G nb t xs Q p r sa ar v Kind A F cache wx)(λ_ i _=>Q.length-(intOf i).toNat);case atStart=>exact⟨0,T8 _,rfl,rfl,C.o⟩
 case round=>
  obtain⟨k,Y,rfl,rfl,B⟩:=hrel;obtain⟨ps,pg,ob,P,out,want,c,b⟩:=id B;obtain⟨rb,rv,j⟩:=b.ref;have X:=c.wbA.cells.2.2.2.2.2.1;have c0:=j.cell.1;have R:=j.shape;obtain⟨ra,rc,rfl⟩:=bu j.own;have y:Q.length<=1000:=by have:=c.live.Sd.1;have e:xs.os.length=xs.length:=Jx;have:=b.rel.len;omega
  have H:=ak B;by_cases d:k<Q.length
  . obtain⟨g,T,V'⟩:∃g,ra=U ⟨g,0,ZY⟩/\wr.cell? ⟨g,k*2,ZY⟩=U (Z0 Q[k].1):=by
     rcases R with⟨_,e⟩|⟨g,cap,e,_,_,Z⟩;.rw[e]at d;simp at d
     .simp only[Vy]at e;exact⟨g,e.1,(Z k d).1⟩
    subst T;obtain⟨x,U'⟩:=nM (Q[k].1);rw[U']at V';have S:=EV c b ⟨2,0,x,[]⟩ (Z5 ZY 0 0) ⟨_,_,_,rfl⟩ rfl;obtain⟨q,h⟩:=nM (Q.length);rw[h]at c0 d y;have K:(k:Int)<(q:Int):=V;have s:=al S h;go_wp2_with fail;refine s.o.1.mono ?_;rintro e W⟨rfl,n,m,l,o,f,a,M,N⟩;have E:=ak (show HaS KW w0 wb D L G nb t xs Q p r sa ar v Kind A F cache W from⟨n,m,l,o,f,a,M,N⟩);go_wp2;have:=s.o.2;exact⟨⟨k+1,V,eT,rfl,E.o⟩,iE⟩
  .obtain⟨q,h⟩:=nM (Q.length);rw[h]at c0 d y;have K:¬(k:Int)<(q:Int):=V;go_wp2;go_ret;exact⟨rfl,H.o⟩
end
def abu{KW w0 w:ZU}{wb D L G nb T:Nat}(h:MS KW C w0 w wb D L G nb T):ZS ZO 18 #[Z6 (U ⟨wb,0,ZY⟩)] w λe w'=>e=Z3 (Z1 J)/\MS KW C w0 w' wb D L G nb T:=by obtain⟨t,xs,Q,p,r,sa,ar,v,Kind,ps,pg,ob,P,A,F,out,want,cache,d,c,i,f⟩:=h;exact(Ca d c).mono λ_ _⟨g,_,_,_,_,_,_,a,b⟩=>⟨g,_,_,_,_,_,_,_,_,_,_,_,_,_,_,_,_,_,_,a,b,i,f⟩
end
section
section
variable {w0 w:ZU}{wb D L G nb t:Nat}{xs:aF}{Q:List (ByteArray×ZT)}{p r sa ar v rb:Nat}{rv:ZT}{Kind:aN->Prop}{ps:aN}{pg ob:ZT}{P:a7}{A:an}{F:aC}{out want:ZT}{cache:Int}
theorem QN(h:MB w0 w wb D L G nb t xs p r sa ar v Kind ps pg ob P A F out want cache)(k:mh w r rb rv Q)(B:Q.length≠xs.length):ZS ZO 9 #[Z6 (U ⟨wb,0,ZY⟩),.agg #[I O 4,I O 0,Z0 YF,Z5 ZY 0 0]] w λe w'=>e=Z3 (Z1 ZV)/\bW w w':=by
 obtain⟨w1,s⟩:=nM (w.alloc (Z4 #[I O 4,I O 0,Z0 YF,Z5 ZY 0 0] 38));have b:bW w w1:=by rw[<-s];exact bA w _
 have E:ag w1 w.heap.size 38 [I O 4,I O 0,Z0 YF,Z5 ZY 0 0]:=by rw[<-s];exact UD w _
 have a:=h.below b;have H:=Rj a.box a.live;have V':=ag.cell E (j:=0) (u:=I O 4) rfl;have K:=a.wbA.cells.2.2.2.2.1;obtain⟨N,i⟩:=nM (xs.os.length);obtain⟨M,g⟩:=nM (Q.length);have C:¬(N:Int)=(M:Int):=λe=>B (by have:xs.os.length=xs.length:=Jx;omega);have o:((N:Int)!=(M:Int))=J:=ua C;have z:=a5 a (qN.ref k (eK.below b _).RZ lR) b i g;go_enter func9,ntmps9;go_wp2_with fail;refine H.mono ?_;rintro e w2⟨u,rfl,c,f⟩;have x:=al c f;go_wp2_with fail;refine(kD w2).mono ?_;rintro e w3⟨rfl,l⟩;obtain⟨a,k,b,i,g⟩:=z.o;obtain⟨c,f⟩:=x.o;have d:bW w1 w3:=c.trans (l.mono c.size);have m:=az f l;rw[i]at m;have Z:=(a.below d).wbA.cells.2.2.2.2.2.1;have n:mh w3 r rb rv Q:=qN.ref k (eK.below d _).RZ lR;have O':=n.cell.1;obtain⟨R,S,rfl⟩:=bu m;obtain⟨T,U',q⟩:=bu n.own;rw[g]at q;subst q;have y:=ak (b.trans (d.mono b.size));go_wp2;go_ret;exact⟨rfl,y.o⟩
theorem abv(h:MB w0 w wb D L G nb t xs p r sa ar v Kind ps pg ob P A F out want cache)(a:mh w r rb rv Q)(j:Q.length≠xs.length):ZS ZO 18 #[Z6 (U ⟨wb,0,ZY⟩)] w λe w'=>e=Z3 (Z1 ZV)/\bW w w':=by
 have g:=QN h a j;have f:=al h a;go_enter func18,ntmps18;go_wp2_with fail;refine g.mono ?_;rintro e w1⟨rfl,b⟩;obtain⟨h,a⟩:=f.o;have k:=(h.below b).wbA.cells.2.2.2.2.2.1;have c:=qN.ref a (eK.below b _).RZ lR;have c0:=c.cell.1;obtain⟨m,n,d⟩:=bu c.own;obtain⟨M,i⟩:=nM (Q.length);rw[i]at d;subst d;have H:=ak b;go_wp2_with fail;refine VD 1 ?_;rw[Vx];by_cases l:(0:Int)<(M:Int);.go_wp2;go_ret;exact⟨rfl,H.o⟩
 .go_wp2;go_ret;exact⟨rfl,H.o⟩
end
end
section
def eK.arr{w:ZU}{p:Nat}{A:an}{F:aC}(e:ay w p A F)(f:aa (F.S) w w'):eK B w w':=λT hT j cs _ d=>f.block j (TX.1 d).1 (λq=>by
 have b:T≠109/\T≠113/\T≠119/\T≠4:=by rcases hT with(rfl|rfl|rfl|rfl|rfl)|rfl|rfl<;>exact⟨ec,ec,ec,ec⟩
 obtain⟨cs',T',c,g⟩:=e.kind q;rw[d]at c;simp only[UF,UT]at c;have a:=c.2.1;rcases g with k|k|k|k;.exact b.1 (a.trans k)
 .exact b.2.1 (a.trans k)
 .exact b.2.2.1 (a.trans k)
 .exact b.2.2.2 (a.trans k))
def su{w:ZU}{wb D L G nb:Nat}{r out want:ZT}{cache:Int}(d:dG w wb D L G a s r nb out want cache)(c:aa (λj=>j=wb) w w'):eK w.heap.size w w':=λT hT j cs hl b=>c.block j hl (λe=>by have f:w.heap[wb]?=U (Z4 _ 56 (0,0)):=d;subst e;rw[f]at b;simp only[UF,UT]at b;have e:=b.2.1;rcases hT with(q|q|q|q|q)|q|q<;>exact absurd (e.trans q) ec)
structure AB(w0 w:ZU)(wb D L G nb t p r:Nat)(s:ZT)(xs:aF)(A:an)(F:aC)(out want:ZT)(cache kc:Int):Prop where
 wbA:dG w wb D L G (Z6 (U ⟨p,0,ZY⟩)) s (Z6 (U ⟨r,0,ZY⟩)) nb out want cache
 sp:∃o,s=.pointer o
 opn:B9 w p D L G t kc xs A F
 nb:A.nb=nb
 base:bW w0 w
 SX:bK w0
 hK:3<=w0.heap.size
 Tv:w0.heap.size<=wb
 fB:∀k,F.S k->w0.heap.size<=k
 pwr:F.pw=J
def AB.SI{w0 w:ZU}{wb D L G nb t p r:Nat}{xs:aF}{A:an}{F:aC}{out want:ZT}{cache kc:Int}(h:AB w0 w wb D L G nb t p r s xs A F out want cache kc):¬F.S wb:=λq=>by have b:w.heap[wb]?=U (Z4 _ 56 (0,0)):=h.wbA;obtain⟨cs,T,hT,c⟩:=h.opn.arr.kind q;rw[b]at hT;simp only[UF,UT]at hT;have a:=hT.2.1;rcases c with k|k|k|k<;>exact absurd (a.trans k) ec
def MO(w0 w:ZU)(wb D L G nb t:Nat)(xs:aF)(p r:Nat)(A:an)(F:aC)(out want:ZT)(cache:Int):Prop:=∃sa ar v Kind ps pg ob P B,MB w0 w wb D L G nb t xs p r sa ar v Kind ps pg ob P B F out want cache/\eI A B
def QO{w0 w4:ZU}{wb D L G nb t p r:Nat}{xs:aF}{A:an}{F:aC}{out want:ZT}{cache:Int}(h:AB w0 w3 wb D L G nb t p r s xs A F out want cache cache)(y:bW w3 w4)(E:Ov w4 p D L G t cache xs A F e w2):w2.heap[wb]?=w3.heap[wb]?/\eK w3.heap.size w3 w2/\∃sa,e=Z3 (ZZ #[Z6 (U ⟨sa,0,ZY⟩),.nilIface])/\∀a,bW w2 a->MO w0 (a.setCell ⟨wb,4,ZY⟩ (Z6 (U ⟨sa,0,ZY⟩))) wb D L G nb t xs p r A F out want cache/\eK a.heap.size a (a.setCell ⟨wb,4,ZY⟩ (Z6 (U ⟨sa,0,ZY⟩))):=by have f:aa F.S w3 w2:=(aa.RK y _).trans E.out;have C:=ag.lt h.wbA;have z:=h.SI;have l:=f.block _ C z;have:=y.size;have n:bW w0 w2:=h.base.trans (f.below λk b=>⟨TY b h.base.size,λq=>ia (h.fB k q)⟩);obtain⟨sa,ar,J',hq,o,v,sb,ps,pg,ob,P,B,hl,w,b,hv,R,i⟩:=E.ans;refine⟨l,eK.arr h.opn.arr f,sa,J',λa d=>?_⟩;have g:dG a wb D L G (Z6 (U ⟨p,0,ZY⟩)) s (Z6 (U ⟨r,0,ZY⟩)) nb out want cache:=ag.keep h.wbA ((d.block _ (TY C f.size)).trans l);have c:aa (λj=>j=wb) a (a.setCell ⟨wb,4,ZY⟩ (Z6 (U ⟨sa,0,ZY⟩))):=aa.setCell _ _ _ rfl;have K:dG (a.setCell ⟨wb,4,ZY⟩ (Z6 (U ⟨sa,0,ZY⟩))) wb D L G (Z6 (U ⟨p,0,ZY⟩)) (Z6 (U ⟨sa,0,ZY⟩)) (Z6 (U ⟨r,0,ZY⟩)) nb out want cache:=ag.set g 4 [Z6 (U ⟨sa,0,ZY⟩)] Zh;have u:eK a.heap.size a (a.setCell ⟨wb,4,ZY⟩ (Z6 (U ⟨sa,0,ZY⟩))):=su g c;have:=h.base.size;have Z:ZP a sa 104 (Z6 (U ⟨ar,0,ZY⟩)):=(d.block _ o.lt).trans o;have M:=(hl.below d).other c.size (λj O' N=>c.block j N O') V (ET g) V z (TU h.hK h.Tv) (λq=>ia (i _ q));have m:bW w0 a:=n.trans (d.mono n.size);exact⟨⟨sa,ar,v,mZ sb cache D L G,ps,_,_,_,B,⟨K,u.RZ.box Z lR,M,w.nb.trans h.nb,m.trans (c.below λk b=>⟨TY b m.size,λq=>ia h.Tv⟩),h.SX,h.hK,h.Tv,V,h.fB,V,λk q=>ia (i k q),⟨sn h.opn.par,λps x b=>by obtain⟨H,Q,ho,rfl⟩:=b;exact⟨H,Q,x,rfl⟩,BZ,b⟩,λq=>ia (i _ q),⟨h.opn.c0,h.opn.c1⟩,h.pwr⟩,w⟩,u⟩
def EY{w0 w:ZU}{wb D L G nb t p r:Nat}{xs:aF}{A:an}{F:aC}{out want:ZT}{cache:Int}(h:AB w0 w wb D L G nb t p r s xs A F out want cache cache):ZS ZO 20 #[Z6 (U ⟨wb,0,ZY⟩)] w λe w'=>e=Z3 (Z1 J)/\MO w0 w' wb D L G nb t xs p r A F out want cache/\eK w.heap.size w w':=by
 have i:bW w w.drew:=(TW _ w).drew;refine(KV h.wbA h.sp (λsa w2=>w2.heap[wb]?=w.heap[wb]?/\w.heap.size<=w2.heap.size/\eK w.heap.size w w2/\∀a,bW w2 a->MO w0 (a.setCell ⟨wb,4,ZY⟩ (Z6 (U ⟨sa,0,ZY⟩))) wb D L G nb t xs p r A F out want cache/\eK a.heap.size a (a.setCell ⟨wb,4,ZY⟩ (Z6 (U ⟨sa,0,ZY⟩)))) (λ_ _ q=>q.1) ((sr (h.opn.below i)).mono λe w2 b=>?_)).mono ?_
 . have b:=b.resolve_right λq=>by have:=q.2.1;rw[h.pwr]at this;cases this
   obtain⟨l,g,sa,f,c⟩:=QO h i b;exact⟨sa,f,l,b.out.size,g,c⟩
 .rintro e w'⟨f,sa,w2,w3,⟨_,m,g,c⟩,d,_,rfl⟩;obtain⟨j,k⟩:=c _ d;exact⟨f,j,g.trans (((eK.below d _).trans (k.mono d.size)).mono m)⟩
def EZ{KW w0 w:ZU}{wb D L G nb t p r:Nat}{xs:aF}{A:an}{F:aC}{out want:ZT}{cache:Int}{Q:List (ByteArray×ZT)}(h:AB w0 w wb D L G nb t p r s xs A F out want cache cache)(c:Dc KW w r Q xs out want):ZS ZO 20 #[Z6 (U ⟨wb,0,ZY⟩)] w λe w'=>e=Z3 (Z1 J)/\MS KW (eI A) w0 w' wb D L G nb t:=(EY h).mono λ_ _⟨d,⟨_,_,_,_,_,_,_,_,_,a,b⟩,f⟩=>⟨d,_,_,_,_,_,_,_,_,_,_,_,_,_,_,_,_,_,_,a,c.keep f lR,TV _,b⟩
section
variable {KW w0 w:ZU}{wb D L G nb t:Nat}{xs:aF}{Q:List (ByteArray×ZT)}{p r sa ar v:Nat}{Kind:aN->Prop}{ps:aN}{pg ob:ZT}{P:a7}{A:an}{F:aC}{out want:ZT}{cache:Int}
theorem KZ(h:MB w0 w wb D L G nb t xs p r sa ar v Kind ps pg ob P A F out want cache)(X:Dc KW w r Q xs out want)(U':8<=A.nb)(o:mi)(dv:ZT)(hq:∃B m dc,dv=.slice B m dc)(g:o.kind=5):ZS ZO 9 #[Z6 (U ⟨wb,0,ZY⟩),.agg #[I O o.kind,I O o.a,Z0 o.s,dv]] w λe w'=>e=Z3 (Z1 J)/\MS KW (eI A) w0 w' wb D L G nb (t+1):=by
 obtain⟨B,m,dc,rfl⟩:=hq;obtain⟨l,hv,H⟩:=gw o.a 65 ec ec;have J':wrap64 ((IntKind.u64.wrap o.a).tmod 65)=(l:Int):=ua H;obtain⟨w1,M⟩:=nM (w.alloc (Z4 #[I O o.kind,I O o.a,Z0 o.s,.slice B m dc] 38));have f:=st0 h X o _ M;have hn:=sY f.b.live.vol.arr f.b.live.n0;obtain⟨O',x1,x2,x3⟩:=f.op.cells;have a1:=f.b.wbA.cells.2.2.2.1;obtain⟨q0,C⟩:=nM (w.heap.size);have T:=al f C;rw[g]at O' M⊢;rw[C]at O' x1 x2 x3;go_enter func9,ntmps9;go_wp2_with fail;refine hn.mono ?_;rintro e w2⟨E,Z,rfl,x,I',z⟩;have W:=ak Z;obtain⟨f,C⟩:=T.o;have u:dG w2 wb D L G (Z6 (U ⟨p,0,ZY⟩)) (Z6 (U ⟨sa,0,ZY⟩)) (Z6 (U ⟨r,0,ZY⟩)) nb out want cache:=ag.keep f.b.wbA (x.block _ (ag.lt f.b.wbA));obtain⟨_,_,_,c3,_,_,_,_,_,c9⟩:=u.cells;have f3:=ag.R2 u 3;have f9:=ag.R2 u 9;have hg:m6 w2 q0 o (.slice B m dc):=by rw[<-C];exact ag.keep f.op (x.block _ f.lt)
 have y1:=hg.cells.2.1;obtain⟨c,hm⟩:=nM (w1.heap.size);rw[hm]at I' z⊢;have hs:wb<w1.heap.size:=ag.lt f.b.wbA;obtain⟨w3,N⟩:=nM ((w2.setCell ⟨wb,3,ZY⟩ (Z6 (U ⟨c,0,ZY⟩))).setCell ⟨wb,9,ZY⟩ (I O (l:Nat)));have i:aa (λj=>j=wb) w2 w3:=by rw[<-N];exact(aa.setCell (S:=λj=>j=wb) w2 ⟨wb,3,ZY⟩ _ rfl).trans (aa.setCell (S:=λj=>j=wb) _ ⟨wb,9,ZY⟩ _ rfl)
 have hh:dG w3 wb D L G (Z6 (U ⟨c,0,ZY⟩)) (Z6 (U ⟨sa,0,ZY⟩)) (Z6 (U ⟨r,0,ZY⟩)) nb out want (l:Int):=by rw[<-N];exact ag.set (ag.set u 3 [Z6 (U ⟨c,0,ZY⟩)] Zh) 9 [I O (l:Nat)] Zh
 have Y:ay w3 c A E:=I'.keep λk g=>i.block k (I'.RL g) (λe=>ia (z k g));have d:=f.b;have hj:=d.base.size;have k2:1<3:=ec;have hx:=TU d.hK d.Tv;have K:bW w0 w2:=d.base.trans (x.mono hj);have y:=d.live.vol.below x lR;have hi:AB w0 w3 wb D L G nb t c r (Z6 (U ⟨sa,0,ZY⟩)) xs A E out want (l:Int) (l:Int):=⟨hh,⟨_,rfl⟩,⟨Y,d.live.vol.n,d.live.vol.par,V,V,U',d.live.nb,y.laid.keep (i.block _ y.laid.lt V),y.tab.keep (i.block _ y.tab.lt V),TU y.room i.size,λq=>by have:=z _ q;have:=d.hK;omega,λq=>by have:=z _ q;have:=d.hK;omega,.inr ⟨d.live.turn,P,d.live.cut⟩,d.live.fine⟩,d.nb,K.trans (i.below λk g=>⟨ia K.size,λq=>ia d.Tv⟩),d.SX,d.hK,d.Tv,λk g=>ia (z k g),W.out⟩;have hp:=(f.c.keep (eK.below x _) lR).keep (su u i) lR;have hr:=EZ hi hp;go_wp2_with fail;refine hr.mono ?_;rintro e w4⟨rfl,V'⟩;have R:=ak V';go_wp2;go_ret;exact⟨rfl,R.o.mono V λ_ q=>q⟩
end
end
section
def E6(S:Nat)(A:an):Prop:=(∃d,d<A.n/\∀i,A.sv.testBit i=J->S.testBit i=J\/i=d)/\∀i,i<A.n->A.lost i=J->S.testBit i=J
def E6.to{A B:an}(h:E6 S A)(a:B.n=A.n)(c:B.sv=A.sv)(hl:B.lost=A.lost):E6 S B:=⟨h.1.imp λ_ q=>⟨by rw[a];exact q.1,λi e=>q.2 i (by rw[<-c];exact e)⟩,λi b q=>h.2 i (a▸b) (by rw[<-hl];exact q)⟩
def DR(w:ZU)(r:Nat)(xs:aF):Prop:=∃rb rv Q,mh w r rb rv Q/\iH w Q xs
def DN(w:ZU)(r:Nat)(xs:aF):Prop:=∃rb rv Q,mh w r rb rv Q/\Q.length≠xs.length
def DR.keep{w w':ZU}{r:Nat}{xs:aF}(h:DR w r xs)(a:eK w.heap.size w w'):DR w' r xs:=by obtain⟨rb,rv,Q,b,c⟩:=h;exact⟨rb,rv,Q,a.RZ.ref b lR,c.keep λ_ _ o=>a.RZ.ow o lR⟩
def DN.keep{w w':ZU}{r:Nat}{xs:aF}(h:DN w r xs)(c:eK w.heap.size w w'):DN w' r xs:=by obtain⟨rb,rv,Q,a,b⟩:=h;exact⟨rb,rv,Q,c.RZ.ref a lR,b⟩
def DS(w:ZU)(r1 r2:Nat)(sure:Int)(xs:aF):Prop:=(sure=0\/sure=1)/\(DR w r2 xs\/(sure=0/\DR w r1 xs/\DN w r2 xs))
def DS.keep{w w':ZU}{xs:aF}(h:DS w r1 r2 sure xs)(a:eK w.heap.size w w'):DS w' r1 r2 sure xs:=⟨h.1,h.2.imp (λq=>q.keep a) λq=>⟨q.1,q.2.1.keep a,q.2.2.keep a⟩⟩
def Mks(KW w:ZU):Prop:=∀(k:Nat)(cs:Array ZT)(T:ZQ),T=93\/T=47->KW.heap[k]?=U (Z4 cs T (0,0))->w.heap[k]?=KW.heap[k]?
def Mks.keep{w w':ZU}(h:Mks KW w)(b:eK w.heap.size w w'):Mks KW w':=λk cs T hT q=>by have a:=h k cs T hT q;rw[q]at a;rw[q];exact(b _ (.inr hT) k _ (TX.1 a).1 a).trans a
def DR.dc{w:ZU}{r:Nat}{xs:aF}{out want:ZT}(h:DR w r xs)(ow:iy out/\iy want)(c:Mks KW w):∃Q,Dc KW w r Q xs out want:=by obtain⟨rb,rv,Q,a,b⟩:=h;exact⟨Q,⟨rb,rv,a⟩,b,ow,c⟩
def Dc.dr{w:ZU}{r:Nat}{xs:aF}{out want:ZT}(h:Dc KW w r Q xs out want):DR w r xs:=by obtain⟨rb,rv,a⟩:=h.ref;exact⟨rb,rv,Q,a,h.rel⟩
def aC.on{F:aC}(h:F.pw=J):{F with pw:=J}=F:=by cases F;cases h;rfl
section
variable {w0 w w':ZU}{wb D L G nb t p r:Nat}{s:ZT}{xs:aF}{A B:an}{F:aC}{out want:ZT}{cache:Int}
def AB.le(h:AB w0 w wb D L G nb t p r s xs A F out want cache cache):t<=1000000:=h.opn.beg.elim (λq=>V) And.left
def AB.turn(h:AB w0 w wb D L G nb t p r s xs A F out want cache cache)(c:ay w' p B F)(b:aa F.S w w')(a:Aw D L G t xs A B):AB w0 w' wb D L G nb t p r s xs B F out want cache cache:={h with wbA:=ag.keep h.wbA (b.block _ (ag.lt h.wbA) h.SI),opn:={h.opn with arr:=c,n:=a.2.1.n.trans h.opn.n,nb:=by rw[a.2.1.nb];exact h.opn.nb,nb2:=by rw[a.2.1.nb];exact h.opn.nb2,laid:=h.opn.laid.keep (b.block _ h.opn.laid.lt h.opn.g),tab:=h.opn.tab.keep (b.block _ h.opn.tab.lt h.opn.gt),room:=TU h.opn.room b.size,beg:=.inr ⟨h.le,a.1⟩,fine:=⟨by rw[a.2.2];exact h.opn.fine.1,λi d q=>by rw[a.2.2];exact h.opn.fine.2 i (a.2.1.n▸d) (by rw[<-a.2.1.lost];exact q)⟩},nb:=a.2.1.nb.trans h.nb,base:=h.base.trans (b.below λk e=>⟨TY e h.base.size,λq=>ia (h.fB k q)⟩)}
def MB.ab(h:MB w0 w wb D L G nb t xs p r sa ar v Kind ps pg ob P A F out want cache)(a:8<=nb):AB w0 w wb D L G nb t p r (Z6 (U ⟨sa,0,ZY⟩)) xs A F out want cache cache:=⟨h.wbA,⟨_,rfl⟩,⟨h.live.vol.arr,h.live.vol.n,h.live.vol.par,h.cb.1,h.cb.2,by rw[h.nb];exact a,h.live.nb,h.live.vol.laid,h.live.vol.tab,h.live.vol.room,h.live.vol.g,h.live.vol.t,.inr ⟨h.live.turn,P,h.live.cut⟩,h.live.fine⟩,h.nb,h.base,h.SX,h.hK,h.Tv,h.fB,h.pwr⟩
end
def SA(KW w0:ZU)(wb D L G nb t p r1 r2 S:Nat)(sure:Int)(xs:aF)(out want:ZT)(cache:Int)(wr:ZU):Prop:=∃A F r s,AB w0 wr wb D L G nb t p r s xs A F out want cache cache/\E6 S A/\DS wr r1 r2 sure xs/\Mks KW wr/\∃P,eu A D L G t P xs
def Ag(w0:ZU)(av:ZT)(n:Nat):Prop:=∃ao c,av=.slice ao n c/\∀k,k<n->∃b off x,ao=U ⟨b,off,ZY⟩/\w0.cell? ⟨b,off+k,ZY⟩=U (I O x)
def OpR(w:ZU)(p D L G t:Nat)(xs:aF)(A:an)(F:aC)(v12 v13:ZT)(wx:ZU):Prop:=(∃B,Aw D L G t xs A B/\Ay wx p B F)/\aa F.S w wx/\((∃sa,v12=Z6 (U ⟨sa,0,ZY⟩)/\v13=.nilIface)\/(v12=.pointer ZY/\v13=eh 13))
def OpR.num{w:ZU}{p D L G t:Nat}{xs:aF}{A:an}{F:aC}{b:ZT}(h:OpR w p D L G t xs A F a b wx):∃e:Int,QK b e/\((e=0/\∃sa,a=Z6 (U ⟨sa,0,ZY⟩))\/(e=13/\a=.pointer ZY)):=by
 rcases h.2.2 with⟨sa,c,d⟩|⟨c,d⟩;.exact⟨0,.inr ⟨d,rfl⟩,.inl ⟨rfl,sa,c⟩⟩
 .exact⟨13,.inl d,.inr ⟨rfl,c⟩⟩
def Ay.below{X Y:ZU}{p:Nat}{A:an}{F:aC}(h:Ay X p A F)(a:bW X Y):Ay Y p A F:=h.imp (λq=>q.below a lR) λq=>q.keep λk c=>a.block k (by obtain⟨R,⟨_,b⟩,_⟩:=q;have:=b.RL c;simpa[World.setCell]using this)
def QP{w:ZU}{p D L G t:Nat}{cache:Int}{xs:aF}{A:an}{F:aC}(h:B9 w p D L G t cache xs A F):ZS ZO 43 #[Z6 (U ⟨p,0,ZY⟩),.agg #[I O D,I O L,I O G],.agg #[I O cache]] w λe w'=>∃a b,e=Z3 (ZZ #[a,b])/\OpR w p D L G t xs A F a b w':=by
 refine(sr h).mono ?_;rintro e w'(q|⟨rfl,i,⟨B,d,f⟩,g⟩);.obtain⟨sa,ar,rfl,_,_,v,sb,ps,pg,ob,P,B,hl,c,_⟩:=q.ans;exact⟨_,_,rfl,⟨B,⟨⟨P,hl.cut⟩,c.shp,c.sv⟩,.inl hl.vol.arr⟩,q.out,.inl ⟨sa,rfl,rfl⟩⟩
 .exact⟨_,_,rfl,⟨B,d,.inr f⟩,g,.inr ⟨rfl,rfl⟩⟩
def SL(KW w0:ZU)(wb D L G nb t p r1 S:Nat)(xs:aF)(v2 v4 i:ZT)(wr:ZU):Prop:=∃(k r2:Nat)(sure:Int)(out want:ZT)(cache:Int),k<=2/\i=I O k/\v2=Z6 (U ⟨r2,0,ZY⟩)/\v4=I O sure/\(iy out/\iy want)/\SA KW w0 wb D L G nb t p r1 r2 S sure xs out want cache wr/\(0<k->MS KW (E6 S) w0 wr wb D L G nb t)
theorem oO{w0 w:ZU}{wb D L G nb t p:Nat}{xs:aF}{out want:ZT}{cache:Int}(h:SA KW w0 wb D L G nb t p r1 r2 S sure xs out want cache w)(hm:8<=nb)(ow:iy out/\iy want)(kv:Ag w0 av n)(hn:n<=1000):ZS ZO 42 #[Z6 (U ⟨wb,0,ZY⟩),Z6 (U ⟨r1,0,ZY⟩),Z6 (U ⟨r2,0,ZY⟩),av,I O sure] w λe w'=>e=Z3 (Z1 J)/\MS KW (E6 S) w0 w' wb D L G nb t:=by
 obtain⟨ao,c,rfl,kx⟩:=kv;have HA:=au h ow kx;go_enter func42,ntmps42;go_wp2_with fail;go_loopw[11](λi wr=>∃k:Nat,k<=3/\i=I O (k:Nat)/\SA KW w0 wb D L G nb t p r1 r2 S sure xs out want cache wr)(λi _=>3-(intOf i).toNat);case atStart=>exact⟨0,ec,rfl,HA.o.1⟩
 case round=>
  obtain⟨k,qe,rfl,hv⟩:=hrel;by_cases kz:k<n/\k<3
  . obtain⟨A,F,r,s,a,y,l,u,K⟩:=hv;obtain⟨b,off,x,rfl,ki⟩:=HA.o.2.2 k kz.1;have cx:wr.cell? ⟨b,off+k,ZY⟩=U (I O x):=(a.base.cell (p:=⟨b,off+k,ZY⟩) (Ue ki)).trans ki;obtain⟨kc,qf,hb⟩:=gw x 40 ec ec;have R:wrap64 ((IntKind.u64.wrap x).tmod 40)=(kc:Int):=(ua hb);have qk:IntKind.i64.wrap ((IntKind.u64.wrap x).tmod 40)=(kc:Int):=(by rw[<-R,Ux];unfold wrap64;omega);obtain⟨c0,c1,c2,c3,c4,c5,c6,c7,c8,c9⟩:=a.wbA.cells;have qg:(k:Int)<(n:Int):=V;have q1:(k:Int)<3:=V;have hcut:=IP (w:=wr.drew) (a.opn.arr.keep λ_ _=>rfl) kc V;have z:=a6 a y l u hcut K;go_upto_region 4 with fail;go_cut[38]from 27 to 37(λ_ wx=>ay wx p A {F with pw:=ZV}/\aa F.S wr wx);case first=>
     refine bw 11 [(0,J),(1,J),(2,J),(3,J),(4,J),(5,J),(6,J),(7,J),(8,J),(9,J),(10,J),(11,ZV)] (λw'=>w'.cell? ⟨wb,3,ZY⟩=U (Z6 (U ⟨p,0,ZY⟩))/\w'.cell? ⟨b,off+k,ZY⟩=U (I O x)) ee ee ⟨c3,cx⟩ ?_;iterate 11 refine bE ?_
     refine db z.o.2.2.2.2.1 rfl rfl oB ?_;rintro e w2⟨rfl,km,hs⟩;refine⟨_,rfl,xJ,bI ?_⟩;have f:=al km hs;rename_i hK;refine hK _ _ ?_;simp only[Act.put];go_meet;case rel=>exact⟨f.o.1,(aa.drew _).trans f.o.2⟩
    case rest=>
    obtain⟨kb,J'⟩:=hcut;obtain⟨a,y,l,u,_,K⟩:=z.o;obtain⟨o,kf⟩:∃o:aC,{F with pw:=ZV}=o:=⟨_,rfl⟩;obtain⟨C,hr⟩:o.S=F.S/\{o with pw:=J}=F:=(by rw[<-kf];exact⟨rfl,aC.on a.pwr⟩);rw[kf]at kb;have k9:B9 wc p D L G t cache xs A o:=⟨kb,a.opn.n,a.opn.par,a.opn.c0,a.opn.c1,a.opn.nb,a.opn.nb2,a.opn.laid.keep (J'.block _ a.opn.laid.lt a.opn.g),a.opn.tab.keep (J'.block _ a.opn.tab.lt a.opn.gt),TU a.opn.room J'.size,by rw[C];exact a.opn.g,by rw[C];exact a.opn.gt,.inr ⟨a.le,K⟩,a.opn.fine⟩;have k0:=ag.keep a.wbA (J'.block _ (ag.lt a.wbA) a.SI);obtain⟨d0,d1,d2,d3,_,_,_,_,_,d9⟩:=dG.cells k0;have q8:=QP (k9.below (TW _ wc).drew);have ks:∀w',aa o.S wc.drew w'->w'.cell? ⟨wb,0,ZY⟩=U (I O (D:Nat))/\w'.cell? ⟨wb,1,ZY⟩=U (I O (L:Nat))/\w'.cell? ⟨wb,2,ZY⟩=U (I O (G:Nat))/\w'.cell? ⟨wb,3,ZY⟩=U (Z6 (U ⟨p,0,ZY⟩))/\w'.cell? ⟨wb,9,ZY⟩=U (I O cache):=λw' hO=>by have hW:=ag.keep k0 (hO.block _ (ag.lt k0) (by rw[C];exact a.SI));obtain⟨e0,e1,e2,e3,_,_,_,_,_,e9⟩:=dG.cells hW;exact⟨e0,e1,e2,e3,e9⟩
    have Y:=a5 q8 ks J' C hr;go_upto_region 5 with fail;go_cut[12,13]from 39 to 55(λW X wx=>OpR wc.drew p D L G t xs A o W X wx);case first=>
     refine bw 99 [(0,J),(1,J),(2,J),(3,J),(4,J),(5,J),(6,J),(7,J),(8,J),(9,J),(10,J),(11,J),(12,J),(13,ZV),(14,J),(15,J),(16,J),(17,J),(18,J)] (λw'=>w'.cell? ⟨wb,0,ZY⟩=U (I O (D:Nat))/\w'.cell? ⟨wb,1,ZY⟩=U (I O (L:Nat))/\w'.cell? ⟨wb,2,ZY⟩=U (I O (G:Nat))/\w'.cell? ⟨wb,3,ZY⟩=U (Z6 (U ⟨p,0,ZY⟩))/\w'.cell? ⟨wb,9,ZY⟩=U (I O cache)) ee ee ⟨d0,d1,d2,d3,d9⟩ ?_;iterate 13 refine bE ?_
     refine db Y.o.1 rfl rfl oB ?_;rintro e w2⟨W,X,rfl,hR⟩;refine⟨_,rfl,λ_=>Y.o.2.1 _ hR.2.1,?_⟩;have f:=ak hR;simp only[Act.put,TZ,T5,T6];iterate 5 refine bE ?_
     rename_i hK;refine hK _ _ ?_;go_meet;case rel=>exact f.o
    case rest=>rename ZU=>w2;obtain⟨nn,q2,qa⟩:=hcut.num;obtain⟨⟨B,H,hx⟩,hs,-⟩:=hcut;obtain⟨a,y,l,u,_,K⟩:=z.o;obtain⟨_,_,J',C,hr⟩:=Y.o;rw[C]at hs;have T:aa F.S wr w2:=J'.trans ((aa.drew _).trans hs);have ky:bK w2:=a.SX.below (a.base.trans (T.below λk M=>⟨TY M a.base.size,λq=>ia (a.fB k q)⟩));have f:=au H hx T;go_wp2_with fail;refine(kX q2 ky).mono ?_;rintro e w3⟨rfl,U'⟩;obtain⟨a,y,l,u,_,K⟩:=z.o;obtain⟨H,hx,T⟩:=f.o;have hh:aa F.S wr w3:=T.trans (aa.RK U' _);have d3:=(dG.cells (ag.keep a.wbA (hh.block _ (ag.lt a.wbA) a.SI))).2.2.2.1;have q6:=jH (hx.below U');have H3:=ak hh;go_wp2_with fail;refine q6.mono ?_;rintro e w4⟨rfl,ke,kh⟩;obtain⟨a,y,l,u,_,K⟩:=z.o;obtain⟨_,_,_,C,hr⟩:=Y.o;obtain⟨H,hx,T⟩:=f.o;rw[hr]at ke;rw[C]at kh;have hO:=H3.o.trans kh;have M:=eK.arr (B:=wr.heap.size) a.opn.arr hO;have O':=ak (show SA KW w0 wb D L G nb t p r1 r2 S sure xs out want cache w4 from⟨B,F,r,s,a.turn ke hO H,y.to H.2.1.n H.2.2 H.2.1.lost,l.keep M,u.keep M,H.1⟩);rcases qa with⟨rfl,sa,rfl⟩|⟨rfl,rfl⟩<;>(go_wp2;exact⟨⟨k+1,V,eT,O'.o⟩,iE⟩)
  . have z:=ak hv;go_upto_region 2 with fail;go_cut[24]from 17 to 23(λqj wx=>qj=Z1 ZV/\wx=wr);case first=>
     by_cases h1:k<n;. have kk:(k:Int)<(n:Int):=V;have qd:¬(k:Int)<3:=V;go_wp2;go_meet;case rel=>exact⟨rfl,rfl⟩
     . have kk:¬(k:Int)<(n:Int):=V;go_wp2;go_meet;case rel=>exact⟨rfl,rfl⟩
    case rest=>
    obtain⟨rfl,ka⟩:=hcut;have ka:=ka.symm;subst ka;go_wp2_with fail;go_loopw[2,4,15](λv2 v4 i wx=>SL KW w0 wb D L G nb t p r1 S xs v2 v4 i wx)(λ_ _ i _=>2-(intOf i).toNat);case atStart=>exact⟨0,r2,sure,out,want,cache,ec,rfl,rfl,rfl,HA.o.2.1,z.o,λh=>absurd h ec⟩
    case round=>
     obtain⟨j,V',sj,oj,wj,Z,hj,rfl,rfl,rfl,ow,hv,ko⟩:=hrel;by_cases qh:j<2;rotate_left;.have q0:¬(j:Int)<2:=V;have HM:=ak (ko V);go_wp2;go_ret;exact⟨rfl,HM.o⟩
     have q0:(j:Int)<2:=V;obtain⟨A,F,r,s,a,y,l,u,K⟩:=hv;have q4:=EY a;have q9:=l.1;have z:=aE y l u ow;go_wp2_with fail;refine q4.mono ?_;rintro e w1⟨rfl,⟨sa,ar,v,Kind,ps,pg,ob,P,B,hM,ha⟩,M⟩;obtain⟨y,l,u,ow⟩:=z.o;have c5:=hM.wbA.cells.2.2.2.2.2.1;have f5:=ag.R2 hM.wbA 5;have hW:∀q,dG (w1.setCell ⟨wb,5,ZY⟩ (Z6 (U ⟨q,0,ZY⟩))) wb D L G (Z6 (U ⟨p,0,ZY⟩)) (Z6 (U ⟨sa,0,ZY⟩)) (Z6 (U ⟨q,0,ZY⟩)) nb oj wj Z:=λq=>ag.set hM.wbA 5 [Z6 (U ⟨q,0,ZY⟩)] Zh;obtain⟨N,k7⟩:=hM.write (aa.setCell _ _ _ rfl) (hW V');obtain⟨w2,qb⟩:=nM (w1.setCell ⟨wb,5,ZY⟩ (Z6 (U ⟨V',0,ZY⟩)));rw[qb]at N k7;have k5:=(l.keep M).keep k7;have h6:=(u.keep M).keep k7;have h7:=y.to ha.n ha.sv ha.lost;rcases k5.2 with hR|⟨q7,hz,kp⟩;.obtain⟨Q,hC⟩:=hR.dc ow h6;have k6:=Ca N hC;have f:=al k6 h7;go_wp2_with fail;refine f.o.1.mono ?_;rintro e w3⟨rfl,qi,hd,ju,P3,m,d,E,hp⟩;have H3:=ak (show SL KW w0 wb D L G nb t p r1 S xs (Z6 (U ⟨V',0,ZY⟩)) (I O 1) (I O ((j:Int)+1)) w3 from⟨j+1,V',1,m,d,Z,V,eT,rfl,rfl,hp.ow,⟨B,F,V',_,E.ab hm,f.o.2,⟨.inr rfl,.inl hp.dr⟩,hp.mks,_,E.live.cut⟩,λ_=>⟨_,_,_,_,_,_,_,_,_,_,_,_,_,_,_,_,_,_,E,hp,TV _,f.o.2⟩⟩);rcases q9 with rfl|rfl<;>(go_wp2;exact⟨H3.o,iE⟩)
     .subst q7;obtain⟨qm,qn,Q2,q5,kr⟩:=kp;have q3:=abv N q5 kr;have f:=a6 N hz h6 h7 ow q3;go_wp2_with fail;refine f.o.2.2.2.2.2.mono ?_;rintro e w3⟨rfl,U'⟩;obtain⟨N,hz,h6,h7,ow,_⟩:=f.o;have E:=N.below U';have e5:=E.wbA.cells.2.2.2.2.2.1;have g5:=ag.R2 E.wbA 5;obtain⟨kg,k8⟩:=E.write (aa.setCell _ _ _ rfl) (show dG (w3.setCell ⟨wb,5,ZY⟩ (Z6 (U ⟨r1,0,ZY⟩))) wb D L G (Z6 (U ⟨p,0,ZY⟩)) (Z6 (U ⟨sa,0,ZY⟩)) (Z6 (U ⟨r1,0,ZY⟩)) nb oj wj Z from ag.set E.wbA 5 [Z6 (U ⟨r1,0,ZY⟩)] Zh);obtain⟨w4,qc⟩:=nM (w3.setCell ⟨wb,5,ZY⟩ (Z6 (U ⟨r1,0,ZY⟩)));rw[qc]at kg k8;have kj:=eK.below U' w2.heap.size;obtain⟨Q,hC⟩:=((hz.keep kj).keep k8).dc ow ((h6.keep kj).keep k8);have k6:=Ca kg hC;have O':=al k6 h7;go_wp2_with fail;refine O'.o.1.mono ?_;rintro e w5⟨rfl,qi,hd,ju,P3,m,d,hy,hq⟩;have H5:=ak (show SL KW w0 wb D L G nb t p r1 S xs (Z6 (U ⟨r1,0,ZY⟩)) (I O 1) (I O ((j:Int)+1)) w5 from⟨j+1,r1,1,m,d,Z,V,eT,rfl,rfl,hq.ow,⟨B,F,r1,_,hy.ab hm,O'.o.2,⟨.inr rfl,.inl hq.dr⟩,hq.mks,_,hy.live.cut⟩,λ_=>⟨_,_,_,_,_,_,_,_,_,_,_,_,_,_,_,_,_,_,hy,hq,TV _,O'.o.2⟩⟩);go_wp2;exact⟨H5.o,iE⟩
end
section
def acj(n:Int)(xs:aF)(x:ByteArray)(xs':aF):Prop:=(n=0/\BY xs x xs')\/(xs'=xs/\tC xs x n)
def abw{w:ZU}{n0:Nat}{Q:List (ByteArray×ZT)}{n:Int}{xs:aF}(hq:mh w q rb rv Q)(h:ab7 w q Q x e w')(p:acj n xs x xs')(f:iH wx Q xs)(i:Up xs.names)(r:n0<=q)(t:n0<=w.heap.size):e=Z3 (I O n)/\Below n0 w w'/\n≠10/\∃Q',(∃rb rv,mh w' q rb rv Q')/\∀g,iH g Q xs->iH g Q' xs':=by
 have o:=js f x;have c:=gQ x;rcases p with⟨rfl,a,d,rfl⟩|⟨rfl,⟨a,rfl⟩|⟨a,d,rfl⟩⟩
 . rcases h with⟨q,_⟩|⟨_,q,_⟩|⟨_,k,q,b,⟨u,m⟩,l⟩;.exact absurd (c.2 a) q
   .exact absurd d (o.1 q)
   .refine⟨b,l.below λj s=>⟨V,V⟩,ec,_,⟨_,u,m⟩,λg z=>?_⟩;rw[(jt f i q).1];exact(z.take k).app (z.drop (k+1))
 . rcases h with⟨_,b,rfl⟩|⟨q,_⟩|⟨q,_⟩;.exact⟨b,TW _ _,ec,Q,⟨_,_,hq⟩,λ_ z=>z⟩
   .rw[c,a]at q;cases q
   .rw[c,a]at q;cases q
 . rcases h with⟨q,_⟩|⟨_,_,b,rfl⟩|⟨_,k,q,_⟩;.exact absurd (c.2 a) q
   .exact⟨b,TW _ _,ec,Q,⟨_,_,hq⟩,λ_ z=>z⟩
   .exact absurd (jt f i q).2.2 d
section
variable {KW w0 w:ZU}{wb D L G nb t:Nat}{xs:aF}{Q:List (ByteArray×ZT)}{p r sa ar v:Nat}{Kind:aN->Prop}{ps:aN}{pg ob:ZT}{P:a7}{A:an}{F:aC}{out want:ZT}{cache:Int}
theorem OF(h:MB w0 w wb D L G nb t xs p r sa ar v Kind ps pg ob P A F out want cache)(hc:Dc KW w r Q xs out want)(o:mi)(dv:ZT)(ke:∃k m dc,dv=.slice k m dc)(kp:t<1000000)(hk:o.kind=3):ZS ZO 9 #[Z6 (U ⟨wb,0,ZY⟩),.agg #[I O o.kind,I O o.a,Z0 o.s,dv]] w λe w'=>e=Z3 (Z1 J)/\MS KW (eI A) w0 w' wb D L G nb (t+1):=by
 obtain⟨k,m,dc,rfl⟩:=ke;obtain⟨w1,k5⟩:=nM (w.alloc (Z4 #[I O o.kind,I O o.a,Z0 o.s,.slice k m dc] 38));have d:=st0 h hc o _ k5;have R:bW w1 w1.drew:=(TW _ w1).drew;have E:=d.b.below R;have hv:=(IN E.box E.live E.on kp o.s).mono λ_ _ q=>q.on E.pwr;obtain⟨x0,x1,x2,x3⟩:=d.op.cells;have s1:=d.b.wbA.cells.2.2.2.2.1;obtain⟨V',J'⟩:=nM (w.heap.size);have HS:=al d J';rw[hk]at x0 k5⊢;rw[J']at x0 x1 x2 x3;go_enter func9,ntmps9;go_upto_region 13 with fail;go_cut[11]from 21 to 233(λv11 wx=>lP w1.drew ar v p ps D L G t xs A F (tC xs o.s) (BY xs o.s) (Z3 v11) wx);case first=>go_region_with(go_at_call 26;refine hv.mono ?_;rintro e w2 U';obtain⟨rr,_,_,_,_,_,_,rfl,_⟩:=id U';have g:=ak U';clear U');all_goals(go_wp2_with fail;go_meet;case rel=>exact g.o)
 case rest=>
  obtain⟨n,t',hd,hb,P',xs',B,hN,ki,Z,k6,km,M⟩:=G5 hcut;change acj n xs o.s xs' at M;obtain⟨d,J'⟩:=HS.o;have R:bW w1 w1.drew:=(TW _ w1).drew;have X:aa (λj=>j=ar\/F.S j) w1 wc:=(aa.RK R _).trans k6;obtain⟨C,kg⟩:=d.b.call X ki Z.nb;have I':=d.c.keep kg lR;have k0:=d.b.live.disk.up;have N:Q.length<=1000000:=by rw[I'.rel.len];have:=d.b.live.Sd.1;have e:xs.os.length=xs.length:=Jx;omega
  have H:m6 wc V' o (.slice k m dc):=by rw[<-J'];exact ag.keep d.op (X.block _ d.lt (λe=>by
    rcases e with e|e;.have:=d.ar;omega
    .have:=d.f _ e;omega))
  have ko:=kX hN C.gl;have g:=hide8 C I' H M k0 N Z km;go_wp2_with fail;refine ko.mono ?_;rintro e w3⟨rfl,hq⟩;obtain⟨C,I',H,M,k0,N,_⟩:=g.o;have l:=C.below hq;have i:=I'.keep (eK.below hq _) lR;have u:m6 w3 V' o (.slice k m dc):=ag.keep H (hq.block _ (ag.lt H));obtain⟨kr,ks,kk⟩:=i.ref;have kb:=nD kk N i.rel.sl;have r3:=l.wbA.cells.2.2.2.2.2.1;have W:=au l i u;go_wp2_with fail;refine kb.mono ?_;rintro e w4⟨rfl,⟨u4,y⟩,x⟩;obtain⟨l,i,u⟩:=W.o;have hz:=sW y g.o.2.2.2.2.2.1 i.rel.sl o.s;have k7:m6 w4 V' o (.slice k m dc):=ag.keep u (x.block _ (ag.lt u));have y4:=k7.cells.2.2.1;obtain⟨z,K⟩:=nM (w3.heap.size);rw[K]at hz y⊢;have H4:=au y x K;go_wp2_with fail;refine hz.mono ?_;rintro e w5 kc;obtain⟨y,x,K⟩:=H4.o;obtain⟨l,i,u⟩:=W.o;obtain⟨kf,k9,kj,Q',k8,he⟩:=abw y kc g.o.2.2.2.1 i.rel g.o.2.2.2.2.1 (Nat.le_of_eq K) x.size;subst kf;have h8:bW w3 w5:=x.trans k9;have Y:=l.below h8;have T:=i.keep (eK.below h8 _) lR;have O':=Y.wbA;have r5:=O'.cells.2.2.2.2.2.1;have f5:=ag.R2 O' 5;have hx:MS KW (eI A) w0 (w5.setCell ⟨wb,5,ZY⟩ (Z6 (U ⟨z,0,ZY⟩))) wb D L G nb (t+1):=by have hW:dG (w5.setCell ⟨wb,5,ZY⟩ (Z6 (U ⟨z,0,ZY⟩))) wb D L G (Z6 (U ⟨p,0,ZY⟩)) (Z6 (U ⟨sa,0,ZY⟩)) (Z6 (U ⟨z,0,ZY⟩)) nb out want cache:=ag.set O' 5 [Z6 (U ⟨z,0,ZY⟩)] Zh;obtain⟨h6,kh⟩:=Y.write (aa.setCell (S:=λj=>j=wb) _ ⟨wb,5,ZY⟩ _ rfl) hW;have ka:Dc KW w5 z Q' xs' out want:=⟨k8,he _ T.rel,T.ow,T.mks⟩;exact⟨_,_,_,_,_,_,_,_,_,_,_,_,_,_,_,_,_,_,h6,ka.keep kh lR,g.o.2.2.2.2.2.2.2,g.o.2.2.2.2.2.2.1⟩
  have HF:=ak hx;go_wp2_with fail;refine(ly _ _).mono ?_;rintro e w8⟨rfl,rfl⟩;go_wp2;go_ret;exact⟨rfl,HF.o⟩
end
end
section
def Alv(A:an)(S:Nat)(B:an):Prop:=B.sv=S/\eI A (B.RQ A.sv)
section
variable {w Y:ZU}{ar v p D L G t:Nat}{Kind:aN->Prop}{ps ps':aN}{pg ob:ZT}{P:a7}{xs:aF}{A B:an}{F:aC}
def aP.opn(h:aP w ar v p ps D L G t pg ob P xs A F)(ho:nP Y ar v p ps' D L G B F)(f:eI A B)(n:B.rc=A.rc)(c:aa (Mv v ps F) w Y)(l:∀k,ps'.bl k->ps.bl k\/w.heap.size<=k):aP Y ar v p ps' D L G t pg ob P xs B F:=by
 have hv:=h.vlt;have d:eW (λk=>ar<k/\¬F.S k/\¬ps.bl k/\¬ps'.bl k) w Y:=⟨c.size,λk m a=>c.block k m (λq=>by
  rcases q with q|q|q;.exact a.2.1 q
  .have:=a.1;omega
  .exact a.2.2.1 q)⟩;have g:∀k,(ar<k/\¬F.S k/\¬ps.bl k)->k<w.heap.size->(ar<k/\¬F.S k/\¬ps.bl k/\¬ps'.bl k):=λk q o=>⟨q.1,q.2.1,q.2.2,λe=>(l k e).elim q.2.2 (by omega)⟩;have j:¬Mv v ps F ar:=λq=>by
  rcases q with q|q|q;.exact h.nar q
  .omega
  .exact(h.apt _ q).2.1 rfl
 exact{arc:=h.arc.keep (c.block _ h.arc.lt j),vol:=ho.vol,nar:=ho.nar,vlt:=ho.vlt,disk:=h.disk.off f.Tt λb _ i=>by rw[n],pgs:=((h.pgs.wk g).keep d).wk λk q _=>⟨q.1,q.2.1,q.2.2.2⟩,cat:=((h.cat.wk g).keep d).wk λk q _=>⟨q.1,q.2.1,q.2.2.2⟩,nb:=by rw[f.nb];exact h.nb,turn:=h.turn,kit:=ho.kit,apt:=ho.apt,hl:=ho.hl,fine:=ho.fine}
def Cb{S:Nat}{f:Nat->bF}(h:A.at b f)(c:∀i,i<A.n->gnB A b i=J->A.sv.testBit i=J->S.testBit i=J):(A.RQ S).at b f:=λi a=>⟨(h i a).1,λq=>c i a q ((h i a).2 q)⟩
def aP.RQ{S:Nat}(h:aP w ar v p ps D L G t pg ob P xs A F)(hT:dZ D L G S)(hlo:∀i,i<A.n->A.lost i=J->S.testBit i=J)(d:∀b,b∈1::0::(P++ah xs.os)->∀i,i<A.n->gnB A b i=J->A.sv.testBit i=J->S.testBit i=J):aP w ar v p ps D L G t pg ob P xs (A.RQ S) F:=by have hd:=h.disk;have f:∀{l:a7}{c:Nat->a7},(∀b∈l,b∈P++ah xs.os)->A.holds D L G l c->(A.RQ S).holds D L G l c:=λhl q k e=>Cb (q k e) (d _ (Uo _ (Uo _ (hl _ (by rw[iP e];exact T7 e)))));exact{h with vol:={h.vol with arr:=h.vol.arr.RQ},disk:=⟨hd.turn,Cb hd.root (d 0 ej),Cb hd.fill (d 1 ej),hd.pl,f (λb a=>UB _ a) hd.page,hd.nod,hd.SZ,hd.fits,hd.up,λx g=>f (λb a=>VQ _ (vX g a)) (hd.held x g),hd.room⟩,fine:=⟨hT,hlo⟩}
def sy(Er:ZT->Prop)(w:ZU)(ar v p D L G t:Nat)(Kind:aN->Prop)(ps:aN)(pg ob:ZT)(P:a7)(xs:aF)(A:an)(F:aC)(S:Nat)(e:ZR)(Y:ZU):Prop:=(∃er,e=Z3 er/\Er er/\(∃ps' B,aP Y ar v p ps' D L G t pg ob P xs B F/\(Kind ps'/\∀k,ps'.bl k->ps.bl k\/w.heap.size<=k)/\Alv A S B)/\aa (Mv v ps F) w Y)\/jY (Mv v ps F) w ar p F (m4 A) e Y
def MJ.TL{sg:Nat->Nat}{S x:Nat}(m:MJ w ar v p D L G Kind ps A F sg (1::0::(P++ah xs.os)) Y)(h:aP w ar v p ps D L G t pg ob P xs A F)(o:aa (Mv v ps F) w Y)(g:∀ps h,Kind ps->Kind (ps.SK h))(z:x<2^(D+L+G))(hT:dZ D L G S)(hlo:∀i,i<A.n->A.lost i=J->S.testBit i=J)(f:∀i,i<A.n->A.sv.testBit i=J->¬Sld sg A.n i->S.testBit i=J)(l:Er .nilIface):sy Er w ar v p D L G t Kind ps pg ob P xs A F S (Z3 .nilIface) (Y.setCell ⟨v,5,ZY⟩ (I Z8 (x:Nat))):=by
 obtain⟨ps',B,⟨k1,k2,k3⟩,⟨a,u,s⟩,ho⟩:=m;have d:aa (Mv v ps F) w (Y.setCell ⟨v,5,ZY⟩ (I Z8 (x:Nat))):=o.later (aa.setCell (S:=λk=>k=v) _ _ _ rfl) (λk _ e=>.inr (.inl e));have hl:∀i,i<B.n->B.lost i=J->S.testBit i=J:=λi c q=>hlo i (a.n▸c) (by rw[<-a.lost];exact q);refine .inl ⟨_,rfl,l,⟨ps'.SK x,B.RQ S,(h.opn (ho.SK z) a u d k3).RQ hT hl (λb r i c q y=>?_),⟨g _ _ k1,k3⟩,rfl,a.n,a.nb,a.tn,a.lost,rfl,a.gn⟩,d⟩;cases h2:B.lost i;.refine f i (a.n▸c) (a.sv▸y) λj=>?_;rw[s b r i c (a.n.symm▸j) h2]at q;cases q
 .exact hl i c h2
def OG:Ent 62:=U9 func62 ee rfl
def OH:Ent 107:=U9 func107 ee rfl
theorem OI(X:ZU):Cho 62 #[] (λx=>x) X:=λbd=>by show ZS ZO 62 #[I Z8 bd] X _;go_enter func62,ntmps62;go_wp2;go_ret;exact⟨rfl,rfl⟩
theorem OJ{X:ZU}{y:Nat}(h:ZP X q 123 (I Z8 y)):Cho 107 #[Z6 (U ⟨q,0,ZY⟩)] (λ_=>y) X:=λbd=>by show ZS ZO 107 #[I Z8 bd,Z6 (U ⟨q,0,ZY⟩)] X _;have c:=h.cell;go_enter func107,ntmps107;go_wp2;go_ret;exact⟨rfl,rfl⟩
def Ro(h:aP w ar v p ps D L G t pg ob P xs A F){k:Nat}(a:Mv v ps F k):k<w.heap.size:=by
 rcases a with q|q|q;.exact h.vol.arr.RL q
 .rw[q];exact h.vol.vol.lt
 .exact ps.lt _ h.kit k q
variable {S:Nat}(h:aP w ar v p ps D L G t pg ob P xs A F)(hv:xD D L G Kind ps)(hnb:2<=A.nb)(hT:dZ D L G S)(hlo:∀i,i<A.n->A.lost i=J->S.testBit i=J)
include h hv hnb hT hlo
theorem G6(hq:ZP w q 102 (Z6 (U ⟨ar,0,ZY⟩)))(k:¬Mv v ps F q):ZS ZO 60 #[Z6 (U ⟨q,0,ZY⟩)] w (sy (·=.nilIface) w ar v p D L G t Kind ps pg ob P xs A F S):=by
 have c:=EP h hv (hv.pk _ _ hv.kind h.kit) hnb OG (λX _=>OI X) (λx r=>r);rw[h.vol.n]at c;unfold nQ at c;have f:=hq.cell;have a:=a5 h hv hq hT hlo;go_enter func60,ntmps60;go_wp2_with fail;refine c.mono ?_;rintro e Y(⟨z,rfl,j,d,b⟩|hcut);rotate_left;.obtain⟨s,rfl⟩:=hcut.pan;exact⟨rfl,.inr hcut⟩
 have g:Y.cell? ⟨q,0,ZY⟩=U (Z6 (U ⟨ar,0,ZY⟩)):=(Uk (b.block _ a.o.2.2.1.lt k)).trans f;obtain⟨ps',B,⟨k1,k2,k3⟩,⟨l,m,_⟩,ho⟩:=id d;have hl:=a.o.1.opn ho l m b k3;have c0:=hl.arc.cells.1;obtain⟨y,u⟩:=B3 hl.vol.vol;have H:=au d b j;go_wp2;go_ret;exact H.o.1.TL a.o.1 H.o.2.1 a.o.2.1.re H.o.2.2 a.o.2.2.2.1 a.o.2.2.2.2 (λi _ _ q=>absurd (λ_ _ q=>q) q) rfl
omit hT hlo
def G7(er:ZT):Prop:=er=.nilIface\/er=eh 11
theorem E0(d:Nat)(hd:d<D+L+G):ZS ZO 75 #[Z6 (U ⟨ar,0,ZY⟩),I O d] w (sy G7 w ar v p D L G t Kind ps pg ob P xs A F A.sv):=by
 have c0:=h.arc.cells.1;have hk:=ga h.vol.vol;have hD:=h.vol.par.d;have hL:=h.vol.par.l4;have hG:=h.vol.par.g;have hN:=h.vol.n;have hs:=h.vol.par.s;have hp:=λw1:ZU=>se (D:Int) (L:Int) (G:Int) w1 ⟨V,V⟩ ⟨V,V⟩ ⟨V,V⟩;have hx:=λw1:ZU=>fE 0 d ec V w1;have k0:=hv.pk _ _ hv.kind h.kit;have H:=a5 hk hp hx h hv;have E:2^d<2^A.n:=VC ec V;have h8:2^A.n<=65536:=gZ V;clear hk hp hx h hv;have Q:¬(d:Int)<0:=V;go_enter func75,ntmps75;go_wp2_with fail;refine H.o.1.mono ?_;rintro e w1⟨rfl,C,_⟩;go_wp2_with fail;refine(H.o.2.1 _).mono ?_;rintro e w2⟨rfl,hq⟩;have T:bW w w2:=by rw[hq];exact C.alloc C.size _
 have x:=ak T;clear hq C T;go_wp2_with fail;refine(H.o.2.2.1 _).mono ?_;rintro e w3⟨rfl,rfl⟩;go_wp2_with fail;have f:ZP (w3.alloc (Z4 #[I Z8 ((2:Int)^d)] 123)) w3.heap.size 123 (I Z8 (2^d:Nat)):=by rw[WW];exact Us w3 _ _
 have a:bW w (w3.alloc (Z4 #[I Z8 ((2:Int)^d)] 123)):=x.o.alloc x.o.size _;obtain⟨w4,o⟩:=nM (w3.alloc (Z4 #[I Z8 ((2:Int)^d)] 123));rw[o]at f a⊢;have j:=H.o.2.2.2.1.below a;have W:w.heap.size<=w3.heap.size:=x.o.size;have r:¬Mv v ps F w3.heap.size:=λq=>ia (Ro H.o.2.2.2.1 q);have u:=EP j H.o.2.2.2.2 (TY k0 a.size) hnb OH (λX hX=>OJ (y:=2^d) ((hX.block _ f.lt r).trans f)) (λ_ _=>E);unfold nQ at u;refine u.mono ?_;rintro e Y(⟨K,rfl,k7,m,c⟩|hcut);rotate_left;.obtain⟨ch,rfl⟩:=hcut.pan;exact⟨rfl,.inr (hcut.start (aa.RK a _))⟩
 obtain⟨ps',B,⟨k1,k2,k3⟩,⟨b,J',_⟩,ho⟩:=id m;have hl:=j.opn ho b J' c k3;by_cases hj:K=0;rotate_left;.have Q:¬(K:Int)=0:=V;have k6:((K:Int)!=0)=J:=(ua Q);have N:=ak (show sy G7 w ar v p D L G t Kind ps pg ob P xs A F A.sv (Z3 (eh 11)) Y from .inl ⟨_,rfl,.inr rfl,⟨ps',B,hl,⟨k1,λk q=>(k3 k q).imp id λq=>TU a.size q⟩,b.sv,b.n,b.nb,b.tn,b.lost,rfl,b.gn⟩,(aa.RK a _).trans c⟩);clear m c k1 k2 k3 b J' ho hl f a j W r u o hj;unfold eh at N;go_wp2;go_ret;exact N.o
 subst hj;have hn:ZP Y w3.heap.size 123 (I Z8 (2^d:Nat)):=(c.block _ f.lt r).trans f;have cq:=hn.cell;have hb:=hl.arc.cells.1;obtain⟨k5,f5⟩:=B3 hl.vol.vol;obtain⟨l,hz⟩:=nM (ps'.ho);have Z:=hl.hl;rw[hz]at k5 Z;rw[hN]at h8 E;have U':=X2 l (2^d) V V;have V':Aa l (2^d)<2^(D+L+G):=WV (WC:Aa l (2^d)<=l) Z;have HY:=aE m c j a;clear u m c hl hn f a j c0 o r W k1 k2 k3 b J' ho;have R:bits .andNot .u64 (l:Int) ((2^d:Nat):Int)=((Aa l (2^d):Nat):Int):=U';clear U';generalize Aa l (2^d)=z at R V';obtain⟨O',hy⟩:∃O':Nat,2^d=O':=⟨_,rfl⟩;rw[hy]at cq R;clear E;go_wp2;go_region;go_wp2;go_ret;obtain⟨m,c,j,a⟩:=HY.o;obtain⟨_,_,_,h,hv⟩:=H.o;rcases m.TL (Er:=G7) (S:=A.sv) j c hv.re V' h.fine.1 h.fine.2 (λi _ q _=>q) (.inl rfl)with⟨_,_,_,⟨M,B2,q1,⟨q2,q3⟩,q4⟩,q5⟩|q;.exact .inl ⟨_,rfl,.inl rfl,⟨M,B2,q1.below (TW _ _).drew,⟨q2,λk q=>(q3 k q).imp id λq=>TU a.size q⟩,q4⟩,((aa.RK a _).trans q5).trans (aa.drew _)⟩
 .obtain⟨ch,q⟩:=q.pan;cases q
theorem Cc(d:Nat)(hd:d<D+L+G){q1 b:Nat}(c:ZP w q1 102 (Z6 (U ⟨ar,0,ZY⟩)))(f:ZP w b 3 (I O d)):ZS ZO 74 #[Z6 (U ⟨q1,0,ZY⟩),Z6 (U ⟨b,0,ZY⟩)] w (sy G7 w ar v p D L G t Kind ps pg ob P xs A F A.sv):=by
 have g:=E0 h hv hnb d hd;have c1:=c.cell;have i:=f.cell;go_enter func74,ntmps74;go_wp2_with fail;refine g.mono ?_;rintro e Y(⟨k,rfl,a⟩|hcut);rotate_left;.obtain⟨j,rfl⟩:=hcut.pan;exact⟨rfl,.inr hcut⟩
 have H:=ak a;rcases a.1 with rfl|rfl<;>(unfold eh at*;go_wp2;go_ret;exact .inl ⟨_,rfl,H.o⟩)
omit hv hnb
def fK(Er:ZT->Prop)(w:ZU)(ar v p D L G t:Nat)(Kind:aN->Prop)(ps:aN)(xs:aF)(A:an)(F:aC)(S:Nat)(e:ZR)(w':ZU):Prop:=(∃er,e=Z3 er/\Er er/\(∃pg ob P ps' B,aP w' ar v p ps' D L G t pg ob P xs B F/\(Kind ps'/\∀k,ps'.bl k->ps.bl k\/w.heap.size<=k)/\Alv A S B)/\aa (λj=>j=ar\/F.S j\/j=v\/ps.bl j) w w')\/wO (λj=>j=ar\/F.S j\/j=v\/ps.bl j) w ar p F (wA A D L G t xs λ_=>False) e w'
omit h in
def jY.RQ{S:Nat->Prop}{w:ZU}{ar p:Nat}{F:aC}(h:jY S w ar p F C e w')(i:∀B,C B->∃S,C' (B.RQ S)):jY S w ar p F C' e w':=by obtain⟨b,c,⟨B,d,R,f,a⟩,g⟩:=h;obtain⟨S,j⟩:=i B d;exact⟨b,c,⟨_,j,R,f,a.n,a.nb,a.lost,a.rd,a.tn⟩,g⟩
def IU(s:∀x,Er x->lU x)(hq:F.pw=ZV->A.two)(k:FuncId)(cap:Array ZT)(u:∀(args:Array ZT)(w:ZU),(callFunc k args).run ZO w=.ok (.enter k args) w)(y:∀w1,bW w w1->ZS ZO k cap w1 (sy Er w1 ar v p D L G t Kind ps pg ob P xs A F S)):ZS ZO 59 #[Z6 (U ⟨ar,0,ZY⟩),.func (.func k) #[] cap] w (fK Er w ar v p D L G t Kind ps xs A F S):=by
 refine(GL (R:=Alv A S) (C:=wA A D L G t xs λ_=>False) h k #[] cap u (λr t' xs' B ps' w2=>Er r/\t'=t/\xs'=xs/\(Kind ps'/\∀k,ps'.bl k->ps.bl k\/w.heap.size<=k)) (λj=>j=v\/ps.bl j) (λj e=>by
  rcases e with e|e;.have:=h.vol.vol.lt;omega
  .have:=ps.lt _ h.kit _ e;omega) (λ_ _ _ _ _ _ _ _ q=>q) (λw1 n M=>by
   rw[(ej:(#[]:Array ZT)++cap=cap)];refine(y w1 n).mono ?_;rintro e w2(⟨o,rfl,a,⟨ps',B,hl,⟨k1,k4⟩,f⟩,c⟩|hcut);.exact .inl ⟨o,t,pg,ob,P,xs,B,ps',rfl,s _ a,hl,f,c.mono λj _ g=>.inr g,a,rfl,rfl,k1,λk q=>(k4 k q).imp id λq=>TU n.size q⟩
   .obtain⟨E,H,Z,J',K⟩:=hcut.RQ (C':=wA A D L G t xs λ_=>False) λB q=>⟨_,Af (d:=q.2.2.choose) h.disk (hq hcut.1) q.1 q.2.2.choose_spec.1 λb _ i _=>⟨by rw[q.2.1],q.2.2.choose_spec.2 b i⟩⟩;exact .inr ⟨E,H,Z,J'.mono λj _ g=>.inr g,K⟩)).mono ?_;rintro e w'(⟨r,t',m,l,P',xs',B,ps',rfl,N,hl,f,c,a,rfl,rfl,z⟩|q);.exact .inl ⟨r,rfl,a,⟨m,l,P',ps',B,hl,z,f⟩,c⟩
 .exact .inr q
omit h in
def fK.before(a:bW w0 w)(q:fK Er w ar v p D L G t Kind ps xs A F S e w'):fK Er w0 ar v p D L G t Kind ps xs A F S e w':=by
 rcases q with⟨b,rfl,c,⟨pg,ob,P,ps',B,hl,⟨k1,k4⟩,f⟩,d⟩|q;.exact .inl ⟨b,rfl,c,⟨pg,ob,P,ps',B,hl,⟨k1,λk q=>(k4 k q).imp id λq=>TU a.size q⟩,f⟩,(aa.RK a _).trans d⟩
 .exact .inr (q.later a)
omit h in
def fK.ret(q:fK Er w ar v p D L G t Kind ps xs A F S e w'):∃r,e=Z3 r:=q.elim (λ⟨r,q,_⟩=>⟨r,q⟩) λq=>⟨_,q.ret⟩
variable (hq:F.pw=ZV->A.two)
include hv hnb hT hlo hq
theorem abx:ZS ZO 44 #[Z6 (U ⟨ar,0,ZY⟩)] w (fK (·=.nilIface) w ar v p D L G t Kind ps xs A F S):=by have i:∀(args:Array ZT)(w:ZU),(callFunc 60 args).run ZO w=.ok (.enter 60 args) w:=U9 func60 ee rfl;have b:bW w (w.alloc (Z4 #[Z6 (U ⟨ar,0,ZY⟩)] 102)):=bA w _;have a:ZP (w.alloc (Z4 #[Z6 (U ⟨ar,0,ZY⟩)] 102)) w.heap.size 102 (Z6 (U ⟨ar,0,ZY⟩)):=Us w _ _;obtain⟨w1,l⟩:=nM (w.alloc (Z4 #[Z6 (U ⟨ar,0,ZY⟩)] 102));rw[l]at b a;have d:=h.below b;have k:¬Mv v ps F w.heap.size:=λq=>ia (Ro h q);have j:=IU d (λx q=>.inl q) hq 60 #[Z6 (U ⟨w.heap.size,0,ZY⟩)] i λw2 c=>G6 (d.below c) hv hnb hT hlo ((c.block _ a.lt).trans a) k;have m:=a.cell;have H:=al j b;go_enter func44,ntmps44;go_wp2_with fail;refine H.o.1.mono ?_;rintro e w' f;obtain⟨r,rfl⟩:=f.ret;have g:=ak (f.before H.o.2);go_wp2;go_ret;exact g.o
theorem OK(d:ZP w sa 104 (Z6 (U ⟨ar,0,ZY⟩))):ZS ZO 16 #[Z6 (U ⟨sa,0,ZY⟩)] w (fK (·=.nilIface) w ar v p D L G t Kind ps xs A F S):=by have cs:=d.cell;have c:=abx h hv hnb hT hlo hq;go_enter func16,ntmps16;go_wp2_with fail;refine c.mono ?_;rintro e w' a;obtain⟨r,rfl⟩:=a.ret;have b:=ak a;go_wp2;go_ret;exact b.o
omit hT hlo
theorem OL(d:Nat)(hd:d<D+L+G):ZS ZO 57 #[Z6 (U ⟨ar,0,ZY⟩),I O d] w (fK G7 w ar v p D L G t Kind ps xs A F A.sv):=by
 have k:∀(args:Array ZT)(w:ZU),(callFunc 74 args).run ZO w=.ok (.enter 74 args) w:=U9 func74 ee rfl;have c:bW w ((w.alloc (Z4 #[Z6 (U ⟨ar,0,ZY⟩)] 102)).alloc (Z4 #[I O d] 3)):=(bA w _).alloc ej _;have a:ZP ((w.alloc (Z4 #[Z6 (U ⟨ar,0,ZY⟩)] 102)).alloc (Z4 #[I O d] 3)) w.heap.size 102 (Z6 (U ⟨ar,0,ZY⟩)):=(Us w _ _).alloc _;have f:ZP ((w.alloc (Z4 #[Z6 (U ⟨ar,0,ZY⟩)] 102)).alloc (Z4 #[I O d] 3)) (w.heap.size+1) 3 (I O d):=by have:=Us (w.alloc (Z4 #[Z6 (U ⟨ar,0,ZY⟩)] 102)) 3 (I O d);rwa[Um]at this
 obtain⟨w1,m⟩:=nM ((w.alloc (Z4 #[Z6 (U ⟨ar,0,ZY⟩)] 102)).alloc (Z4 #[I O d] 3));rw[m]at c a f;have g:=h.below c;have l:=IU g (Er:=G7) (λx q=>q.imp id λq=>⟨11,ec,q⟩) hq 74 #[Z6 (U ⟨w.heap.size,0,ZY⟩),Z6 (U ⟨w.heap.size+1,0,ZY⟩)] k λw2 b=>Cc (g.below b) hv hnb d hd ((b.block _ a.lt).trans a) ((b.block _ f.lt).trans f);have n:=a.cell;have H:=al l c;go_enter func57,ntmps57;go_wp2_with fail;refine H.o.1.mono ?_;rintro e w' i;obtain⟨r,rfl⟩:=i.ret;have j:=ak (i.before H.o.2);go_wp2;go_ret;exact j.o
theorem OM(f:ZP w sa 104 (Z6 (U ⟨ar,0,ZY⟩)))(d:Nat)(hd:d<D+L+G):ZS ZO 40 #[Z6 (U ⟨sa,0,ZY⟩),I O d] w (fK G7 w ar v p D L G t Kind ps xs A F A.sv):=by have cs:=f.cell;have c:=OL h hv hnb hq d hd;go_enter func40,ntmps40;go_wp2_with fail;refine c.mono ?_;rintro e w' a;obtain⟨r,rfl⟩:=a.ret;have b:=ak a;go_wp2;go_ret;exact b.o
end
end
section
def CO(w:ZU)(D L G t:Nat)(xs:aF)(p ar v:Nat)(ps:aN)(A:an)(F:aC)(Q:Int->Prop)(N:aF->Prop)(n:Int)(wy:ZU):Prop:=∃t' xs' B,((n=13/\qu wy ar/\(xs'=xs\/N xs'))\/(n≠13/\((n=0/\N xs')\/(xs'=xs/\Q n))))/\t'<=t+1/\Ay wy p B F/\Qd A B/\(B.sv=A.sv\/∃d,d<A.n/\B.sv=A.sv|||2^d)/\(∃P,eu B D L G t' P xs')/\aa (λj=>j=ar\/F.S j\/j=v\/ps.bl j) w wy
section
variable {w w':ZU}{ar v p D L G t S:Nat}{ps:aN}{Kind:aN->Prop}{xs:aF}{A:an}{F:aC}{Q Q':Int->Prop}{N N':aF->Prop}{n:Int}{rr:ZT}
def wO.co{T:Nat->Prop}(h:wO T w ar p F (wA A D L G t xs N) (Z3 rr) w')(hT:∀j,T j->j=ar\/F.S j\/j=v\/ps.bl j):QK rr 13/\CO w D L G t xs p ar v ps A F Q N 13 w':=by obtain⟨B,⟨b,⟨d,c,e⟩,t',P',xs',f,a⟩,g⟩:=h.arr;refine⟨.inl (by have:=h.ret;cases this;rfl),t',xs',B,.inl ⟨rfl,h.arc,a.imp And.right And.right⟩,by rcases a with q|q<;>omega,.inr g,b,(.inr ⟨d,c,e⟩),⟨P',f⟩,h.out.mono λk _=>hT k⟩
def aP.sv0{pg ob:ZT}{P:a7}(h:aP w ar v p ps D L G t pg ob P xs A F):0<A.n:=by have:=h.vol.n;have:=h.vol.par.d1;omega
def jG.co(h:jG w ar v p ps D L G t xs A F Q N (Z3 rr) w')(f:¬Q 13):∃n,QK rr n/\CO w D L G t xs p ar v ps A F Q N n w':=by
 rcases h with h|h
 . obtain⟨n,t',pg,ob,P',xs',B,c,hl,b,d,g,a⟩:=G5 h;refine⟨n,c,t',xs',B,.inr ⟨λe=>?_,a⟩,g,.inl hl.vol.arr,b.shp,(.inl b.sv),⟨_,hl.cut⟩,d.mono λk _ q=>q.imp id .inl⟩;subst e;rcases a with q|q;.exact absurd q.1 ec
   .exact f q.2
 .exact⟨13,h.co λj q=>q.imp id .inl⟩
def fK.co(h:fK Er w ar v p D L G t Kind ps xs A F A.sv (Z3 rr) w')(c:∀x,Er x->∃n,QK x n/\n≠13/\Q n):∃n,QK rr n/\CO w D L G t xs p ar v ps A F Q (λ_=>False) n w':=by
 rcases h with⟨l,e,b,⟨pg,ob,P,ps',B,hl,_,f,a⟩,d⟩|h;.cases e;obtain⟨n,g,i,k⟩:=c _ b;exact⟨n,g,t,xs,B,.inr ⟨i,.inr ⟨rfl,k⟩⟩,V,.inl hl.vol.arr,⟨a.n,a.nb,a.lost⟩,(.inl f),⟨_,hl.cut⟩,d⟩
 .exact⟨13,h.co λj q=>q⟩
def CO.later{w0:ZU}(h:CO w D L G t xs p ar v ps A F Q N n w')(j:bW w0 w)(a:bW w' w2):CO w0 D L G t xs p ar v ps A F Q N n w2:=by obtain⟨t',xs',B,b,c,d,e,f,g,i⟩:=h;exact⟨t',xs',B,b.imp (λq=>⟨q.1,q.2.1.below a,q.2.2⟩) id,c,d.below a,e,f,g,(aa.RK j _).trans (i.trans (aa.RK a _))⟩
def aP.co{pg ob:ZT}{P:a7}(h:aP w ar v p ps D L G t pg ob P xs A F):CO w D L G t xs p ar v ps A F (λn=>n=0) (λ_=>False) 0 w:=⟨t,xs,A,.inr ⟨ec,.inr ⟨rfl,rfl⟩⟩,V,.inl h.vol.arr,⟨rfl,rfl,rfl⟩,.inl rfl,⟨_,h.cut⟩,aa.refl _ _⟩
def CO.rep(h:CO w D L G t xs p ar v ps A F (λn=>n=0\/n=11) (λ_=>False) n w'):CO w D L G t xs p ar v ps A F (λn=>n=0) (λ_=>False) (if n=11 then 0 else n) w':=by
 obtain⟨t',xs',B,a,c⟩:=h;refine⟨t',xs',B,?_,c⟩;rcases a with⟨rfl,a⟩|⟨a,b|⟨b,rfl|rfl⟩⟩;.exact .inl ⟨rfl,a⟩
 .exact b.2.elim
 .exact .inr ⟨ec,.inr ⟨b,rfl⟩⟩
 .exact .inr ⟨ec,.inr ⟨b,rfl⟩⟩
end
def DF(w:ZU)(q:Nat)(xs:aF)(Q:Int->Prop)(N:aF->Prop)(f:Int):Prop:=(∀n,Q n->n≠10->n=f)/\((DN w q xs/\f=0/\(∀xs',N xs'->DR w q xs')/\¬Q 0)\/(DR w q xs/\∀xs',¬N xs'))
section
variable {w:ZU}{q rb D nb m c:Nat}{rv:ZT}{Q:List (ByteArray×ZT)}{xs:aF}{x:ByteArray}{d:a7}{ao:Option Addr}
def aby{w':ZU}{rb':Nat}{Q':List (ByteArray×ZT)}(a:mh w' q rb' u Q')(b:iH w Q xs)(hl:Q'.length=Q.length+1):DN w' q xs:=⟨rb',u,Q',a,by rw[hl,b.len];omega⟩
def abz(k:mh w q rb rv Q)(hl:Q.length<=1000)(b:iH w Q xs)(G:d.length=m)(hd:Bs w (.slice ao m c) d):ZS ZO 38 #[Z6 (U ⟨q,0,ZY⟩),Z0 x,.slice ao m c] w λe w'=>∃f:Int,e=Z3 (I O f)/\aa (λj=>j=q) w w'/\DF w' q xs (qE D nb xs x m) (qF D nb xs x d) f:=by
 subst G;have H:=b.sl;have y:=js b x;have l:=gQ x;have r:∀{e:ZR}{w':ZU}(f:Int),e=Z3 (I O f)/\w'=w->(∀n,qE D nb xs x d.length n->n≠10->n=f)->(∀xs',¬qF D nb xs x d xs')->∃f:Int,e=Z3 (I O f)/\aa (λj=>j=q) w w'/\DF w' q xs (qE D nb xs x d.length) (qF D nb xs x d) f:=by rintro e w' f⟨rfl,rfl⟩p B;exact⟨f,rfl,aa.refl _ _,p,.inr ⟨⟨_,_,_,k,b⟩,B⟩⟩
 cases h4:cF x
 . refine(Ar q x ao _ c (λq=>by rw[l,h4]at q;cases q) w).mono λe w' h=>r 6 h ?_ λxs' z=>by have:=z.1;rw[h4]at this;cases this
   rintro n(z|z)_;.exact z.2
   .rw[h4]at z;cases z.1
 by_cases g:d.length<=1500;rotate_left
 . refine(As q x ao _ c (l.2 h4) V w).mono λe w' h=>r 7 h ?_ λxs' z=>g z.2.1;rintro n(z|⟨_,z|z⟩)_;.rw[h4]at z;cases z.1
   .exact z.2
   .exact absurd z.1 g
 by_cases a:x∈xs.names
 . refine(sX k V x ao _ c (l.2 h4) g (λh=>y.1 h a)).mono λe w' h=>r 8 h ?_ λxs' z=>z.2.2.1 a;rintro n(z|⟨_,z|⟨_,z|z⟩⟩)_;.rw[h4]at z;cases z.1
   .omega
   .exact z.2
   .exact absurd a z.1
 refine(BX k V H x ao c d hd g (l.2 h4) (y.2 a)).mono ?_;rintro e w'⟨rfl,u,vb,s,ho,t⟩;have C:(Q.take (aJ (cG Q) x)++(x,vb)::Q.drop (aJ (cG Q) x)).length=Q.length+1:=by rw[Ua,UC,Uq,Un];omega
 have v:∀n,qE D nb xs x d.length n->n=10:=by
  rintro n(z|⟨_,z|⟨_,z|z⟩⟩);.rw[h4]at z;cases z.1
  .omega
  .exact absurd z.1 a
  .exact z.2.2
 refine⟨0,rfl,t,λn z K=>absurd (v n z) K,.inl ⟨aby s b C,rfl,?_,λz=>absurd (v 0 z) ec⟩⟩;rintro xs'⟨_,A,_,_,Ao,E,rfl⟩;have F:Kd w.heap.size 5 w w':=λj cs _ i=>t.block j (TX.1 i).1 λe=>by have p:=k.top;subst e;rw[p]at i;simp only[UF,UT]at i;exact absurd i.2.1 ec
 exact⟨_,u,_,s,IS (b.keep λ_ _ o=>o.keep F) E ⟨⟨_,ho⟩,hd.lt,A⟩⟩
def abA(d:mh w q rb rv Q)(hl:Q.length<=1000)(b:iH w Q xs)(t:Up xs.names):ZS ZO 28 #[Z6 (U ⟨q,0,ZY⟩),Z0 x] w λe w'=>∃f:Int,e=Z3 (I O f)/\aa (λj=>j=q) w w'/\DF w' q xs (tC xs x) (BY xs x) f:=by
 have r:=js b x;have g:=gQ x;refine(sW d V b.sl x).mono ?_;rintro e w'(⟨a,rfl,rfl⟩|⟨a,h,rfl,rfl⟩|⟨a,k,h,rfl,⟨u,p⟩,l⟩)
 . refine⟨6,rfl,aa.refl _ _,?_,.inr ⟨⟨_,_,_,d,b⟩,λxs' z=>a (g.2 z.1)⟩⟩;rintro n(z|z)_;.exact z.2
   .exact absurd (g.2 z.1) a
 . refine⟨9,rfl,aa.refl _ _,?_,.inr ⟨⟨_,_,_,d,b⟩,λxs' z=>r.1 h z.2.1⟩⟩;rintro n(z|z)_;.rw[g,z.1]at a;cases a
   .exact z.2.2
 . obtain⟨v,A,y⟩:=jt b t h;have s:Kd w.heap.size 5 w w':=λj cs _ c=>l.block j (TX.1 c).1 λe=>by have a:=d.top;subst e;rw[a]at c;simp only[UF,UT]at c;exact absurd c.2.1 ec
   have m:∀n,¬tC xs x n:=by
    rintro n(z|z);.rw[g,z.1]at a;cases a
    .exact z.2.1 y
   refine⟨0,rfl,l,λn z=>absurd z (m n),.inl ⟨⟨_,u,_,p,?_⟩,rfl,?_,m 0⟩⟩;.rw[Ua,Uq,Un,<-b.len];omega
   .rintro xs'⟨_,_,rfl⟩;rw[v];have i:iH w' Q xs:=b.keep λ_ _ o=>o.keep s;exact⟨_,u,_,p,(i.take k).app (i.drop (k+1))⟩
end
section
variable {KW w0 w w':ZU}{wb D L G nb t t' p r q sa ar v:Nat}{s:ZT}{xs xs':aF}{Kind:aN->Prop}{ps:aN}{pg ob:ZT}{P P':a7}{A B:an}{F:aC}{out want:ZT}{cache:Int}
def AB.write(h:AB w0 w wb D L G nb t p r s xs A F out want cache cache)(a:aa (λj=>j=wb) w w'){r':Nat}(c:dG w' wb D L G (Z6 (U ⟨p,0,ZY⟩)) s (Z6 (U ⟨r',0,ZY⟩)) nb out want cache):AB w0 w' wb D L G nb t p r' s xs A F out want cache cache:=by have:=h.hK;have:=h.Tv;exact{h with wbA:=c,opn:={h.opn with arr:=h.opn.arr.keep λk b=>a.block k (h.opn.arr.RL b) λe=>h.SI (e▸b),laid:=h.opn.laid.keep (a.block _ h.opn.laid.lt V),tab:=h.opn.tab.keep (a.block _ h.opn.tab.lt V),room:=TU h.opn.room a.size},base:=h.base.trans (a.below λk b=>⟨TY b h.base.size,λe=>V⟩)}
def MB.cut_ab(h:MB w0 w wb D L G nb t xs p r sa ar v Kind ps pg ob P A F out want cache)(o:8<=nb)(c:aa (λj=>j=ar\/F.S j\/j=v\/ps.bl j) w w')(y:ay w' p B F)(b:Qd A B)(u:B.sv=A.sv\/∃d,d<A.n/\B.sv=A.sv|||2^d)(hT:∀d,d<A.n->dZ D L G (A.sv|||2^d))(s:eu B D L G t' P' xs')(C:t'<=1000000):AB w0 w' wb D L G nb t' p r (Z6 (U ⟨sa,0,ZY⟩)) xs' B F out want cache cache:=by
 have:=h.hK;have f:∀j,(j=ar\/F.S j\/j=v\/ps.bl j)->w0.heap.size<=j:=by
  rintro j(e|e|e|e);.have:=h.lt;omega
  .exact h.fB j e
  .have:=h.vB;omega
  .exact h.kB j e
 have x:¬(wb=ar\/F.S wb\/wb=v\/ps.bl wb):=by
  rintro(e|e|e|e);.have:=h.lt;omega
  .exact h.SI.1 e
  .exact h.SI.2 e
  .exact h.wbK e
 have a:=h.live.vol;refine⟨ag.keep h.wbA (c.block _ (ag.lt h.wbA) x),⟨_,rfl⟩,⟨y,b.n.trans a.n,a.par,h.cb.1,h.cb.2,by rw[b.nb,h.nb];exact o,by rw[b.nb];exact h.live.nb,a.laid.keep (c.block _ a.laid.lt λe=>ia (f _ e)),a.tab.keep (c.block _ a.tab.lt λe=>ia (f _ e)),TU a.room c.size,a.g,a.t,.inr ⟨C,P',s⟩,?_⟩,b.nb.trans h.nb,h.base.trans (c.below λk z=>⟨TY z h.base.size,λe=>ia (f _ e)⟩),h.SX,h.hK,h.Tv,h.fB,h.pwr⟩;have l:=h.live.fine;rcases u with e|⟨d,hd,e⟩;.exact⟨by rw[e];exact l.1,λi m q=>by rw[e];exact l.2 i (b.n▸m) (b.lost▸q)⟩
 .exact⟨by rw[e];exact hT d hd,λi m q=>by rw[e];exact fy.2 (.inl (l.2 i (b.n▸m) (b.lost▸q)))⟩
def abB{S:Nat}(a:Qd A B)(c:B.sv=A.sv\/∃d,d<A.n/\B.sv=A.sv|||2^d)(b:A.sv=S)(h:0<A.n)(f:∀i,i<A.n->A.lost i=J->A.sv.testBit i=J):E6 S B:=by
 refine⟨?_,λi g q=>b▸f i (a.n▸g) (a.lost▸q)⟩;rcases c with e|⟨d,hd,e⟩;.exact⟨0,by rw[a.n];exact h,λi q=>.inl (by rw[<-b,<-e];exact q)⟩
 .exact⟨d,by rw[a.n];exact hd,λi q=>by rw[e,b]at q;exact fy.1 q⟩
end
end
section
def abC{A:an}{D L G S:Nat}(f:1<=D)(g:A.n=D+L+G)(h:A.sv=S)(hT:∀d,d<A.n->dZ D L G (S|||2^d)):A.two:=λd=>by
 by_cases hd:d<A.n
 . obtain⟨i,c,a⟩:=tZ f (hT d hd);have b:¬(S.testBit i=J\/i=d):=λq=>by rw[fy.2 q]at a;cases a
   exact⟨i,g▸c,λe=>b (.inr e),W9.2 λq=>b (.inl (h▸q))⟩
 . obtain⟨i,c,a⟩:=tZ f (hT 0 V);have b:¬(S.testBit i=J\/i=0):=λq=>by rw[fy.2 q]at a;cases a
   exact⟨i,g▸c,V,W9.2 λq=>b (.inl (h▸q))⟩
def nR(w:ZU)(q:Nat)(o:mi)(dv:ZT)(aft:Int)(av:ZT):Prop:=ag w q 47 [I O o.kind,I O o.a,Z0 o.s,dv,I O aft,av]
def nR.cells{w:ZU}{o:mi}{dv av:ZT}{aft:Int}(h:nR w q o dv aft av):w.cell? ⟨q,0,ZY⟩=U (I O o.kind)/\w.cell? ⟨q,1,ZY⟩=U (I O o.a)/\w.cell? ⟨q,2,ZY⟩=U (Z0 o.s)/\w.cell? ⟨q,3,ZY⟩=U dv/\w.cell? ⟨q,4,ZY⟩=U (I O aft)/\w.cell? ⟨q,5,ZY⟩=U av:=⟨ag.cell h rfl,ag.cell h rfl,ag.cell h rfl,ag.cell h rfl,ag.cell h rfl,ag.cell h rfl⟩
def nR.kds{w:ZU}{o:mi}{dv av:ZT}{aft:Int}(h:nR w q o dv aft av)(a:eK w.heap.size w w'):nR w' q o dv aft av:=ag.keep h (a _ (.inr (.inr rfl)) q _ (ag.lt h) h)
structure C3(KW w1 w3:ZU)(D L G t:Nat)(xs:aF)(p ar v:Nat)(ps:aN)(pg ob:ZT)(P:a7)(A:an)(F F1:aC)(r q0:Nat)(o:mi)(dv:ZT)(aft:Int)(av:ZT):Prop where
 out:aa F.S w1 w3
 live:aP w3 ar v p ps D L G t pg ob P xs A F1
 doc:DR w3 r xs
 mks:Mks KW w3
 ct:nR w3 q0 o dv aft av
def CS(KW w1:ZU)(D L G t:Nat)(xs:aF)(p ar v:Nat)(ps:aN)(pg ob:ZT)(P:a7)(A:an)(F F1:aC)(r q q0:Nat)(o:mi)(dv:ZT)(aft:Int)(av:ZT)(v7 v8:ZT)(wx:ZU):Prop:=∃n f Qn N w3,v7=I O f/\QK v8 n/\DF w3 q xs Qn N f/\CO w3 D L G t xs p ar v ps A F1 Qn N n wx/\C3 KW w1 w3 D L G t xs p ar v ps pg ob P A F F1 r q0 o dv aft av
def C3.keep{KW w0:ZU}{wb D L G nb t:Nat}{xs:aF}{p r sa ar v q0:Nat}{Kind:aN->Prop}{ps:aN}{pg ob:ZT}{P:a7}{A:an}{F F1:aC}{out want:ZT}{cache aft:Int}{o:mi}{dv av:ZT}(a:MB w0 w1 wb D L G nb t xs p r sa ar v Kind ps pg ob P A F out want cache)(h:C3 KW w1 w3 D L G t xs p ar v ps pg ob P A F F1 r q0 o dv aft av)(f:F1.S=F.S)(d:aa (λj=>j=ar\/F1.S j\/j=v\/ps.bl j) w3 w5):eK w3.heap.size w3 w5/\aa (λj=>j=ar\/F.S j\/j=v\/ps.bl j) w1 w5/\dG w5 wb D L G (Z6 (U ⟨p,0,ZY⟩)) (Z6 (U ⟨sa,0,ZY⟩)) (Z6 (U ⟨r,0,ZY⟩)) nb out want cache/\nR w5 q0 o dv aft av/\ZP w5 sa 104 (Z6 (U ⟨ar,0,ZY⟩))/\bW w0 w5:=by
 have c:=eK.live (B:=w3.heap.size) h.live.vol.arr h.live.arc h.live.vol.vol h.live.kit d;have b:aa (λj=>j=ar\/F.S j\/j=v\/ps.bl j) w1 w5:=(h.out.mono λk _ e=>.inr (.inl e)).trans (by rw[f]at d;exact d);have g:=eK.live (B:=w1.heap.size) a.live.vol.arr a.live.arc a.live.vol.vol a.live.kit b;refine⟨c,b,ag.keep a.wbA (b.block _ (ag.lt a.wbA) ?_),h.ct.kds c,g.RZ.box a.box lR,a.base.trans (b.below λk c=>⟨TY c a.base.size,λe=>?_⟩)⟩
 . rintro(e|e|e|e);.have:=a.lt;omega
   .exact a.SI.1 e
   .exact a.SI.2 e
   .exact a.wbK e
 . have:=a.Tv;have:=a.lt;have:=a.vB;rcases e with e|e|e|e;.omega
   .have:=a.fB k e;omega
   .omega
   .have:=a.kB k e;omega
section
variable {KW w0 w:ZU}{wb D L G nb t:Nat}{xs:aF}{Q:List (ByteArray×ZT)}{p r sa ar v:Nat}{Kind:aN->Prop}{ps:aN}{pg ob:ZT}{P:a7}{A:an}{F:aC}{out want:ZT}{cache:Int}{S n:Nat}{av dv:ZT}{aft:Int}
theorem ON(h:MB w0 w wb D L G nb t xs p r sa ar v Kind ps pg ob P A F out want cache)(hc:Dc KW w r Q xs out want)(o:mi)(km:A.sv=S)(hT:∀d,d<A.n->dZ D L G (S|||2^d))(hd:Bs w0 dv o.d)(kz:o.d.length<=1500)(ki:t<1000000)(hf:8<=nb)(kp:Ag w0 av n)(hn:n<=1000):ZS ZO 14 #[Z6 (U ⟨wb,0,ZY⟩),.agg #[I O o.kind,I O o.a,Z0 o.s,dv,I O aft,av]] w λe w'=>e=Z3 (Z1 J)/\MS KW (E6 S) w0 w' wb D L G nb (t+1):=by
 obtain⟨da,dc,y8,_⟩:=id hd;obtain⟨ao,ac,yr,_⟩:=id kp;obtain⟨m,hm⟩:=nM (o.d.length);rw[hm]at y8;subst y8 yr;obtain⟨w1,xn⟩:=nM (w.alloc (Z4 #[I O o.kind,I O o.a,Z0 o.s,.slice da m dc,I O aft,.slice ao n ac] 47));obtain⟨q0,ye⟩:=nM (w.heap.size);have qm:nR w1 q0 o (.slice da m dc) aft (.slice ao n ac):=by rw[<-xn,<-ye];exact UD w _
 have xk:bW w w1:=by rw[<-xn];exact bA w _
 have b:=h.below xk;have q6:=hc.keep (eK.below xk _) lR;obtain⟨zf,zg,x7⟩:=q6.ref;have xe:Q.length<=1000:=by rw[q6.rel.len];have:=b.live.Sd.1;simpa[aF.os]using this
 have y5:=nD x7 V q6.rel.sl;have r1:=b.wbA.cells.2.2.2.2.2.1;have Y:=hide9 km hT hd kz hf kp hn hm ki;have H1:=a5 b q6 qm xe x7;clear h hc km hT hd kz ki hf kp hn hm b q6 qm xe x7 xk;go_enter func14,ntmps14;go_wp2_with fail;clear ye;refine y5.mono ?_;rintro e w2⟨rfl,⟨u2,qk⟩,q5⟩;clear y5 r1 xn;obtain⟨q,hq⟩:=nM (w1.heap.size);rw[hq]at qk⊢;obtain⟨b,q6,qm,xe,x7⟩:=H1.o;obtain⟨km,hT,hd,kz,hf,kp,hn,hm,ki⟩:=Y.o;have h2:=b.below q5;have qy:=q6.keep (eK.below q5 _) lR;have qn:nR w2 q0 o (.slice da m dc) aft (.slice ao n ac):=ag.keep qm (q5.block _ (ag.lt qm));have c3:=h2.wbA.cells.2.2.2.1;have x4:=qn.cells.2.2.2.2.1;obtain⟨kc,yy,z2⟩:=gw aft 200 ec ec;have z0:wrap64 ((IntKind.u64.wrap aft).tmod 200)=(kc:Int):=ua z2;have z3:IntKind.i64.wrap ((IntKind.u64.wrap aft).tmod 200)=(kc:Int):=by rw[<-z0,Ux];unfold wrap64;omega
 have hcut:=IP (w:=w2.drew) (h2.live.vol.arr.keep λ_ _=>rfl) kc V;have H2:=hide7 h2 qy qn qk hcut q5 hq;clear b q6 qm xe x7 km hT hd kz hf kp hn hm ki h2 qy qn qk hcut q5 hq z2;go_upto_region 4 with fail;go_cut[32]from 23 to 31(λ_ wx=>ay wx p A {F with pw:=ZV}/\aa F.S w2 wx);case first=>
  refine bw 9 [(0,J),(1,J),(2,J),(3,J),(4,J),(5,J),(6,J),(7,J),(8,J),(9,ZV)] (λw'=>w'.cell? ⟨wb,3,ZY⟩=U (Z6 (U ⟨p,0,ZY⟩))/\w'.cell? ⟨q0,4,ZY⟩=U (I O aft)) ee ee ⟨c3,x4⟩ ?_;clear c3 x4;iterate 9 refine bE ?_
  refine db H2.o.2.2.2.2.1 rfl rfl oB ?_;rintro e w3⟨rfl,xp,xv⟩;refine⟨_,rfl,xJ,bI ?_⟩;have H3:=al xp xv;clear xp xv;rename_i hK;refine hK _ _ ?_;clear hK;simp only[Act.put];go_meet;case rel=>exact⟨H3.o.1,(aa.drew _).trans H3.o.2⟩
 case rest=>
 clear c3 x4 z0 z3;obtain⟨qp,xd⟩:=hcut;obtain⟨h2,qy,qn,qk,_,q5,hq⟩:=H2.o;obtain⟨km,hT,hd,kz,hf,kp,hn,hm,ki⟩:=Y.o;obtain⟨F1,qs⟩:∃F1:aC,{F with pw:=ZV}=F1:=⟨_,rfl⟩;obtain⟨I',R⟩:F1.S=F.S/\{F1 with pw:=J}=F:=by rw[<-qs];exact⟨rfl,aC.on h2.pwr⟩
 have yb:=h2.live.repw qp xd;rw[qs]at qp yb;have xg:=eK.arr (B:=w2.heap.size) h2.live.vol.arr xd;have T:=qn.kds xg;have u:=qy.keep xg lR;obtain⟨x0,x1,x2,x3,-,-⟩:=T.cells;have b:=H1.o.1;have qa:aa F.S w1 wc:=(aa.RK q5 _).trans xd;have c:∀l,aa (λj=>j=q) wc l->C3 KW w1 l D L G t xs p ar v ps pg ob P A F F1 r q0 o (.slice da m dc) aft (.slice ao n ac):=λl hO=>by
  have q1:aa F.S w1 l:=qa.later hO λk hk e=>V;have yo:ay l p A F1:=qp.keep λk hk=>hO.block k (qp.RL hk) λe=>by have:=b.live.vol.arr.RL (k:=k) (I'▸hk);omega
  have kh:=eK.arr (B:=w1.heap.size) b.live.vol.arr q1;have yc:=b.live.repw (pw:=ZV) (by rw[qs];exact yo) q1;rw[qs]at yc;have y7:=H1.o.2.1.keep kh lR;exact⟨q1,yc,y7.dr,y7.mks,H1.o.2.2.1.kds kh⟩
 have y:mh wc q (q+1) u2 Q:=xg.RZ.ref qk lR;have K:F1.pw=ZV->A.two:=λ_=>abC b.live.vol.par.d1 b.live.vol.n km (λd hd=>hT d hd);have Z:bW w0 wc:=b.base.trans (qa.below λk hk=>⟨TY hk b.base.size,λe=>ia (b.fB k e)⟩);have H3:=hide8 c y K Z I' R u T;clear h2 qy qn qk q5 hq km hT hd kz hf kp hn hm ki qp yb xg T u xd b qa c y K Z qs I' R;go_upto_block 0 with fail;go_cut[7,8,9]from 36 to 101(λv7 v8 _ wx=>CS KW w1 D L G t xs p ar v ps pg ob P A F F1 r q q0 o (.slice da m dc) aft (.slice ao n ac) v7 v8 wx);case first=>
  by_cases k1:o.kind=1
  . obtain⟨c,y,K,Z,I',R,u,T⟩:=H3.o;have x6:=abz (D:=D) (nb:=A.nb) (x:=o.s) y H1.o.2.2.2.1 u.rel Y.o.2.2.2.2.2.2.2.1 (Y.o.2.2.1.mono Z);clear c y K Z I' R u T;have kb:(o.kind==1)=J:=(by simp[k1]);clear k1;go_wp2_with fail;refine x6.mono ?_;rintro e l⟨f,rfl,q1,ko⟩;clear x6;obtain⟨c,y,K,Z,I',R,u,T⟩:=H3.o;obtain⟨km,hT,hd,kz,hf,kp,hn,hm,ki⟩:=Y.o;have i:=c l q1;have b:=H1.o.1;have kh:=eK.arr (B:=w1.heap.size) b.live.vol.arr i.out;have ky:bW w0 l:=b.base.trans (i.out.below λk hk=>⟨TY hk b.base.size,λe=>ia (b.fB k e)⟩);have qe:bW l l.drew:=(TW _ l).drew;have ks:ZP l sa 104 (Z6 (U ⟨ar,0,ZY⟩)):=kh.RZ.box b.box lR;have qg:=ab9 (w:=l.drew) ks (i.live.below qe) K ki o.s da dc o.d (λw' hO=>by rw[hm];exact hd.mono (ky.trans ((aa.drew _).trans hO|>.below λk hk=>⟨TY hk ky.size,λe=>ia (b.fB k (I'▸e))⟩))) (by obtain⟨_,_,e,z,_⟩:=hd;cases e;exact z);rw[hm]at qg;have s4:=(dG.cells (ag.keep b.wbA (i.out.block _ (ag.lt b.wbA) b.SI.1))).2.2.2.2.1;obtain⟨-,-,y2,y3,-,-⟩:=i.ct.cells;have H4:=aE i ko qg qe;clear c y K Z I' R u T km hT hd kz hf kp hn hm ki i b kh ky qe ks qg ko q1 x0 x1 x2 x3 kb;go_upto_region 9 with fail;refine bw 10 [(0,J),(1,J),(2,J),(3,J),(4,J),(5,J),(6,J),(7,J),(8,J),(9,J),(10,ZV),(11,ZV)] (λw'=>w'.cell? ⟨wb,4,ZY⟩=U (Z6 (U ⟨sa,0,ZY⟩))/\w'.cell? ⟨q0,2,ZY⟩=U (Z0 o.s)/\w'.cell? ⟨q0,3,ZY⟩=U (.slice da m dc)) ee ee ⟨s4,y2,y3⟩ ?_;clear s4 y2 y3;iterate 10 refine bE ?_
    refine db H4.o.2.2.1 rfl rfl oB ?_;rintro e w5 ka;obtain⟨rr,rfl⟩:=ka.ret;obtain⟨E,k9,V'⟩:=ka.co IL;have qq:=V'.later H4.o.2.2.2 (TW _ w5);refine⟨_,rfl,xJ,?_⟩;have H:=al k9 qq;clear ka k9 V' qq;simp only[Act.put,TZ,T5,T6];refine dV rfl rfl Lx (λh=>absurd h ec) ?_;simp only[Act.put,TZ,T5,T6];refine bI ?_;rename_i hK;refine hK _ _ ?_;clear hK;go_meet;case rel=>exact⟨E,f,_,_,l,rfl,H.o.1,H4.o.2.1,H.o.2,H4.o.1⟩
  have z6:(o.kind==1)=ZV:=by simp[k1]
  clear k1;by_cases k3:o.kind=3
  . have kb:(o.kind==3)=J:=(by simp[k3]);clear k3;obtain⟨c,y,K,Z,I',R,u,T⟩:=H3.o;have x6:=abA (x:=o.s) y H1.o.2.2.2.1 u.rel H1.o.1.live.disk.up;clear c y K Z I' R u T;go_wp2_with fail;refine x6.mono ?_;rintro e l⟨f,rfl,q1,ko⟩;clear x6;obtain⟨c,y,K,Z,I',R,u,T⟩:=H3.o;have ki:=Y.o.2.2.2.2.2.2.2.2;have i:=c l q1;have b:=H1.o.1;have kh:=eK.arr (B:=w1.heap.size) b.live.vol.arr i.out;have qe:bW l l.drew:=(TW _ l).drew;have ks:ZP l sa 104 (Z6 (U ⟨ar,0,ZY⟩)):=kh.RZ.box b.box lR;have qz:=IN (w:=l.drew) ks (i.live.below qe) K ki o.s;have s4:=(dG.cells (ag.keep b.wbA (i.out.block _ (ag.lt b.wbA) b.SI.1))).2.2.2.2.1;obtain⟨-,-,y2,-,-,-⟩:=i.ct.cells;have H4:=aE i ko qz qe;clear c y K Z I' R u T ki i b kh qe ks qz ko q1 x0 x1 x2 x3 kb z6;go_upto_region 12 with fail;refine bw 7 [(0,J),(1,J),(2,J),(3,J),(4,J),(5,J),(6,J),(7,ZV),(8,ZV)] (λw'=>w'.cell? ⟨wb,4,ZY⟩=U (Z6 (U ⟨sa,0,ZY⟩))/\w'.cell? ⟨q0,2,ZY⟩=U (Z0 o.s)) ee ee ⟨s4,y2⟩ ?_;clear s4 y2;iterate 7 refine bE ?_
    refine db H4.o.2.2.1 rfl rfl oB ?_;rintro e w5 ka;obtain⟨rr,rfl⟩:=ka.ret;obtain⟨E,k9,V'⟩:=ka.co IM;have qq:=V'.later H4.o.2.2.2 (TW _ w5);refine⟨_,rfl,xJ,?_⟩;have H:=al k9 qq;clear ka k9 V' qq;simp only[Act.put,TZ,T5,T6];refine dV rfl rfl Lx (λh=>absurd h ec) ?_;simp only[Act.put,TZ,T5,T6];refine bI ?_;rename_i hK;refine hK _ _ ?_;clear hK;go_meet;case rel=>exact⟨E,f,_,_,l,rfl,H.o.1,H4.o.2.1,H.o.2,H4.o.1⟩
  have za:(o.kind==3)=ZV:=by simp[k3]
  clear k3;by_cases k6:o.kind=6;. have kb:(o.kind==6)=J:=(by simp[k6]);clear k6;obtain⟨c,y,K,Z,I',R,u,T⟩:=H3.o;have i:=c wc (aa.refl _ _);have b:=H1.o.1;have kh:=eK.arr (B:=w1.heap.size) b.live.vol.arr i.out;have ks:ZP wc sa 104 (Z6 (U ⟨ar,0,ZY⟩)):=kh.RZ.box b.box lR;have xa:=OK (S:=A.sv) i.live b.shv (by have:=b.nb;have:=Y.o.2.2.2.2.1;omega) i.live.fine.1 i.live.fine.2 K ks;have s4:=(dG.cells (ag.keep b.wbA (i.out.block _ (ag.lt b.wbA) b.SI.1))).2.2.2.2.1;have H4:=au i y u;clear c y K Z I' R u T i b kh ks x0 x1 x2 x3;go_wp2_with fail;refine xa.mono ?_;rintro e w5 ka;obtain⟨rr,rfl⟩:=ka.ret;obtain⟨E,k9,V'⟩:=ka.co (Q:=λn=>n=0) (λx e=>⟨0,.inr ⟨e,rfl⟩,ec,rfl⟩);have H:=al k9 V';clear ka k9 V' xa s4;go_wp2_with fail;go_meet;case rel=>obtain⟨i,y,u⟩:=H4.o;exact⟨E,0,_,_,wc,rfl,H.o.1,⟨λn e _=>e,.inr ⟨⟨_,_,_,y,u.rel⟩,λ_ e=>e⟩⟩,H.o.2,i⟩
  have zc:(o.kind==6)=ZV:=by simp[k6]
  clear k6;by_cases k7:o.kind=7
  . have kb:(o.kind==7)=J:=(by simp[k7]);clear k7;rename ZU=>w3;obtain⟨c,y,K,Z,I',R,u,T⟩:=H3.o;have h3:=c w3 (aa.refl _ _);have b:=H1.o.1;have kk:=b.live.vol.par;obtain⟨M,hM⟩:=nM (D+L+G);have xq:0<M/\M<=16:=(by have:=kk.d1;have:=kk.s;omega);have yg:∀X,ZS ZO 10 #[.agg #[I O (D:Nat),I O (L:Nat),I O (G:Nat)]] X λe w'=>e=Z3 (I O (M:Nat))/\bW X w':=λX=>by rw[<-hM,(V:((D+L+G:Nat):Int)=(D:Int)+L+G)];have:=kk.d;have:=kk.l4;have:=kk.g;exact cU (D:Int) (L:Int) (G:Int) X ⟨V,V⟩ ⟨V,V⟩ ⟨V,V⟩
    have yq:IntKind.u64.wrap (M:Int)=(M:Int):=K1;have yp:¬M=0:=V;obtain⟨d,y6,ed⟩:=gw o.a M xq.1 V;have z5:IntKind.i64.wrap ((IntKind.u64.wrap o.a).tmod (M:Int))=(d:Int):=(by rw[<-ed,Ux];unfold wrap64;omega);have xf:dG w3 wb D L G (Z6 (U ⟨p,0,ZY⟩)) (Z6 (U ⟨sa,0,ZY⟩)) (Z6 (U ⟨r,0,ZY⟩)) nb out want cache:=ag.keep b.wbA (h3.out.block _ (ag.lt b.wbA) b.SI.1);obtain⟨c0,c1,c2,-,-,-,-,-,-,-⟩:=xf.cells;have xx:∀w',bW w3 w'->w'.cell? ⟨q0,1,ZY⟩=U (I O o.a)/\w'.cell? ⟨wb,0,ZY⟩=U (I O (D:Nat))/\w'.cell? ⟨wb,1,ZY⟩=U (I O (L:Nat))/\w'.cell? ⟨wb,2,ZY⟩=U (I O (G:Nat)):=λw' hb=>by have a1:=(nR.cells (ag.keep T (hb.block _ (ag.lt T)))).2.1;obtain⟨b0,b1,b2,_⟩:=dG.cells (ag.keep xf (hb.block _ (ag.lt xf)));exact⟨a1,b0,b1,b2⟩
    have H4:=aE (yg w3.drew) xx hM y6;clear c y K Z I' R u T h3 b kk hM xq yg xf xx x0 x2 x3 ed y6;go_upto_region 16 with fail;go_cut[9]from 81 to 92(λv9 wx=>v9=I O (d:Nat)/\bW w3 wx);case first=>
     refine bw 99 [(0,J),(1,J),(2,J),(3,J),(4,J),(5,J),(6,J),(7,J),(8,ZV),(9,J),(10,J),(11,J),(12,J)] (λw'=>w'.cell? ⟨q0,1,ZY⟩=U (I O o.a)/\w'.cell? ⟨wb,0,ZY⟩=U (I O (D:Nat))/\w'.cell? ⟨wb,1,ZY⟩=U (I O (L:Nat))/\w'.cell? ⟨wb,2,ZY⟩=U (I O (G:Nat))) ee ee ⟨x1,c0,c1,c2⟩ ?_;clear x1 c0 c1 c2;iterate 8 refine bE ?_
     refine db H4.o.1 rfl rfl oB ?_;rintro e l⟨rfl,ky⟩;have qb:bW w3 l:=(TW _ w3).drew.trans ky;refine⟨_,rfl,λ_=>H4.o.2.1 _ qb,?_⟩;have H:=ak qb;clear qb ky;simp only[Act.put,TZ,T5,T6];iterate 4 refine bE ?_
     refine bI ?_;rename_i hK;refine hK _ _ ?_;clear hK;go_meet;case rel=>exact⟨rfl,H.o⟩
    case rest=>
    obtain⟨rfl,ky⟩:=hcut;clear x1 c0 c1 c2 yq yp z5;rename ZU=>l;obtain⟨c,y,K,Z,I',R,u,T⟩:=H3.o;have i:=c l (aa.RK ky _);have b:=H1.o.1;have kh:=eK.arr (B:=w1.heap.size) b.live.vol.arr i.out;have ks:ZP l sa 104 (Z6 (U ⟨ar,0,ZY⟩)):=kh.RZ.box b.box lR;have x8:=OM i.live b.shv (by have:=b.nb;have:=Y.o.2.2.2.2.1;omega) K ks d (ia H4.o.2.2);have s4:=(dG.cells (ag.keep b.wbA (i.out.block _ (ag.lt b.wbA) b.SI.1))).2.2.2.2.1;have xm:=eK.below ky w3.heap.size;have x9:mh l q (q+1) u2 Q:=xm.RZ.ref y lR;have y4:=u.keep xm lR;have H6:=au i x9 y4;clear c y K Z I' R u T i b kh ks x9 y4 xm ky;go_wp2_with fail;refine x8.mono ?_;rintro e w5 ka;obtain⟨rr,rfl⟩:=ka.ret;obtain⟨E,k9,V'⟩:=ka.co (Q:=λn=>n=0\/n=11) (λx e=>e.elim (λe=>⟨0,.inr ⟨e,rfl⟩,ec,.inl rfl⟩) λe=>⟨11,.inl e,ec,.inr rfl⟩);have ya:=C3.keep H1.o.1 H6.o.1 H3.o.2.2.2.2.1 (by obtain⟨_,_,_,_,_,_,_,_,_,z⟩:=V';exact z);have xb:=kX k9 (H1.o.1.SX.below ya.2.2.2.2.2);have H7:=al V' k9;clear ka k9 V' x8 s4 ya;go_wp2_with fail;refine xb.mono ?_;rintro e w6⟨rfl,k0⟩;have H8:=ak k0;clear xb k0;by_cases xi:E=11;. subst xi;go_wp2_with fail;go_meet;case rel=>obtain⟨i,y,u⟩:=H6.o;have V':=(H7.o.1.later (TW _ _) H8.o).rep;exact⟨0,0,_,_,l,rfl,.inr ⟨rfl,rfl⟩,⟨λn e _=>e,.inr ⟨⟨_,_,_,y,u.rel⟩,λ_ e=>e⟩⟩,V',i⟩
    . have yn:(E==11)=ZV:=(by simp[xi]);go_wp2_with fail;go_meet;case rel=>obtain⟨i,y,u⟩:=H6.o;have V':=(H7.o.1.later (TW _ _) H8.o).rep;rw[TS xi]at V';exact⟨E,0,_,_,l,rfl,H7.o.2,⟨λn e _=>e,.inr ⟨⟨_,_,_,y,u.rel⟩,λ_ e=>e⟩⟩,V',i⟩
  have zd:(o.kind==7)=ZV:=by simp[k7]
  clear k7;go_wp2_with fail;go_meet;case rel=>obtain⟨c,y,K,Z,I',R,u,T⟩:=H3.o;have h3:=c _ (aa.refl _ _);exact⟨0,0,_,_,wc,rfl,.inr ⟨rfl,rfl⟩,⟨λn e _=>e,.inr ⟨⟨_,_,_,y,u.rel⟩,λ_ e=>e⟩⟩,h3.live.co,h3⟩
 case rest=>
 rename ZU=>w5;clear x0 x1 x2 x3;obtain⟨E,f,Qn,N,w3,rfl,k9,ko,V',qj⟩:=hcut;obtain⟨t',xs',B,hR,yh,ke,hS,qh,⟨P',xh⟩,xj⟩:=V';obtain⟨-,-,-,-,I',R,-,-⟩:=H3.o;obtain⟨km,hT,hd,kz,hf,kp,hn,hm,ki⟩:=Y.o;have b:=H1.o.1;obtain⟨ys,-,J',yx,h7,hv⟩:=C3.keep b qj I' xj;have h6:E=13->DS w3 r q 0 xs'/\qu w5 ar:=λe=>by
  rcases hR with⟨_,h2,h3⟩|h
  . refine⟨⟨.inl rfl,?_⟩,h2⟩;rcases ko.2 with⟨d1,_,d2,_⟩|⟨d1,d2⟩
    . rcases h3 with rfl|h3;.exact .inr ⟨rfl,qj.doc,d1⟩
      .exact .inl (d2 _ h3)
    . rcases h3 with rfl|h3;.exact .inl d1
      .exact absurd h3 (d2 _)
  .exact absurd e h.1
 have kv:E=0->DS w3 r q 1 xs'/\f=0:=λe=>by
  subst e;rcases hR with h|⟨_,⟨_,h⟩|⟨rfl,h⟩⟩;.exact absurd h.1 ec
  . rcases ko.2 with⟨d1,d0,d2,_⟩|⟨d1,d2⟩;.exact⟨⟨.inr rfl,.inl (d2 _ h)⟩,d0⟩
    .exact absurd h (d2 _)
  . refine⟨⟨.inr rfl,.inl ?_⟩,(ko.1 _ h ec).symm⟩;rcases ko.2 with⟨_,_,_,d2⟩|⟨d1,_⟩;.exact absurd h d2
    .exact d1
 have kx:E≠13->E≠0->DS w3 r r 1 xs'/\(E≠10->E=f):=λe1 e2=>by
  rcases hR with h|⟨_,h|⟨rfl,h⟩⟩;.exact absurd h.1 e1
  .exact absurd h.1 e2
  .exact⟨⟨.inr rfl,.inl qj.doc⟩,ko.1 _ h⟩
 have U':∀yz C,bW w5 yz->ay C p B {F1 with pw:=J}->aa F1.S yz C->(∀r2 sure,DS w3 r r2 sure xs'->SA KW w0 wb D L G nb t' p r r2 S sure xs' out want cache C/\∀O',O'=C.setCell ⟨wb,5,ZY⟩ (Z6 (U ⟨q,0,ZY⟩))->SA KW w0 wb D L G nb t' p r r2 S sure xs' out want cache O'/\nR O' q0 o (.slice da m dc) aft (.slice ao n ac))/\dG C wb D L G (Z6 (U ⟨p,0,ZY⟩)) (Z6 (U ⟨sa,0,ZY⟩)) (Z6 (U ⟨r,0,ZY⟩)) nb out want cache/\nR C q0 o (.slice da m dc) aft (.slice ao n ac):=λyz C q2 ha hi=>by
  rw[R]at ha;obtain⟨hk,hO,hW,hx,_,_⟩:=C3.keep b qj I' (w5:=C) (xj.trans ((aa.RK q2 _).trans (hi.mono λk _ e=>.inr (.inl e))));have xy:=b.cut_ab hf hO ha hS qh (λd hd=>by rw[km];exact hT d hd) xh V;have yf:=abB hS qh km b.live.sv0 b.live.fine.2;have yd:=qj.mks.keep hk;refine⟨λr2 sure q7=>⟨⟨B,F,r,_,xy,yf,q7.keep hk,yd,P',xh⟩,λO' e=>?_⟩,hW,hx⟩;have qv:aa (λj=>j=wb) C O':=by rw[e];exact aa.setCell _ _ _ rfl
  have qf:=su hW qv;exact⟨⟨B,F,q,_,xy.write qv (by rw[e];exact ag.set hW 5 [Z6 (U ⟨q,0,ZY⟩)] Zh),yf,(q7.keep hk).keep qf,yd.keep qf,P',xh⟩,hx.kds qf⟩
 have xb:=kX k9 (b.SX.below hv);have k5:∀w9,MS KW (E6 S) w0 w9 wb D L G nb t'->MS KW (E6 S) w0 w9 wb D L G nb (t+1):=λw9 q=>q.mono yh λ_ z=>z;have W:=H1.o.2.1.ow;have H:=hide11 h6 kv kx U' ke J' h7 k5 W hv b.SX;clear k9 ko hR yh ke hS qh xh xj I' R qj km hT hd kz hf kp hn hm ki b ys J' yx h7 hv h6 kv kx U' k5 W;go_wp2_with fail;refine xb.mono ?_;rintro e w6⟨rfl,k0⟩;clear xb;by_cases qr:E=13;.subst qr;obtain⟨h6,-,-,U',ke,J',h7,k5,W,hv,kj⟩:=H.o;have hg:=QE ((h6 (by first|rfl|trivial)).2.below k0) ((k0.block _ h7.lt).trans h7:ZP w6 sa 104 _) ⟨#[97]⟩;have s6:=(dG.cells (ag.keep J' (k0.block _ (ag.lt J')))).2.2.2.2.1;have H6:=ak k0;clear h6 U' ke J' h7 k5 W hv kj k0;go_wp2_with fail;refine hg.mono ?_;rintro e w7⟨rfl,xz⟩;clear hg s6;obtain⟨h6,-,-,U',ke,J',h7,k5,W,hv,kj⟩:=H.o;have kr:=H6.o.trans (xz.mono H6.o.size);have hp:=QD ((h6 (by first|rfl|trivial)).2.below kr) ((kr.block _ h7.lt).trans h7:ZP w7 sa 104 _) ⟨#[122]⟩;have s7:=(dG.cells (ag.keep J' (kr.block _ (ag.lt J')))).2.2.2.2.1;have H7:=ak kr;clear h6 U' ke J' h7 k5 W hv kj xz kr;go_wp2_with fail;refine hp.mono ?_;rintro e w8⟨rfl,y0⟩;clear hp s7;obtain⟨-,-,-,-,-,-,-,-,-,hv,kj⟩:=H.o;have qc:=H7.o.trans (y0.mono H7.o.size);have y9:bK w8:=kj.below (hv.trans (qc.mono hv.size));have yi:=oF 13 w8 y9;have H8:=ak qc;clear hv kj qc y0 y9;go_wp2_with fail;refine yi.mono ?_;rintro e w9⟨rfl,y1⟩;clear yi;obtain⟨-,-,-,-,-,-,-,-,-,hv,kj⟩:=H.o;have qd:=H8.o.trans (y1.mono H8.o.size);have yj:=oF 13 w9 (kj.below (hv.trans (qd.mono hv.size)));have H9:=ak qd;clear hv kj qd y1;go_wp2_with fail;refine yj.mono ?_;rintro e yz⟨rfl,q2⟩;clear yj;obtain⟨-,-,-,-,ke,J',-,-,-,-,-⟩:=H.o;have kg:=H9.o.trans (q2.mono H9.o.size);have q8:=jH (ke.below kg);have z7:=(dG.cells (ag.keep J' (kg.block _ (ag.lt J')))).2.2.2.1;have ym:=ak kg;clear ke J' kg q2;go_wp2_with fail;refine q8.mono ?_;rintro e C⟨rfl,ha,hi⟩;clear q8 z7;obtain⟨h6,-,-,U',-,-,-,k5,W,-,-⟩:=H.o;obtain⟨q3,k8,kf⟩:=U' _ _ ym.out ha hi;have q9:=oO (q3 _ _ (h6 (by first|rfl|trivial)).1).1 Y.o.2.2.2.2.1 W Y.o.2.2.2.2.2.1 Y.o.2.2.2.2.2.2.1;have x5:=kf.cells.2.2.2.2.2;clear h6 U' k5 W q3 k8 kf ha hi;go_wp2_with fail;refine q9.mono ?_;rintro e O'⟨rfl,hM⟩;have qo:=ak hM;clear hM q9 x5;go_wp2;go_ret;exact⟨rfl,H.o.2.2.2.2.2.2.2.1 _ qo.out⟩
 have z9:(E==13)=ZV:=by simp[qr]
 have z8:(E !=13)=J:=by simp[qr]
 by_cases e0:E=0;.subst e0;obtain⟨-,kv,-,U',ke,J',h7,k5,W,hv,kj⟩:=H.o;obtain⟨q7,rfl⟩:=kv rfl;have q8:=jH (ke.below k0);have s6:=(dG.cells (ag.keep J' (k0.block _ (ag.lt J')))).2.2.2.1;have H6:=al k0 q7;clear U' ke J' h7 k5 W hv kj k0 q7 kv;go_wp2_with fail;refine(ly 0 w6).mono ?_;rintro e w7⟨rfl,rfl⟩;go_wp2_with fail;refine q8.mono ?_;rintro e C⟨rfl,ha,hi⟩;clear q8 s6;obtain⟨-,-,-,U',-,-,-,k5,W,-,-⟩:=H.o;obtain⟨q3,k8,kf⟩:=U' _ _ H6.o.1 ha hi;have qx:=(q3 _ _ H6.o.2).2;have ze:=k8.cells.2.2.2.2.2.1;have f11:=ag.R2 k8 5;obtain⟨O',qi⟩:∃O',O'=C.setCell ⟨wb,5,ZY⟩ (Z6 (U ⟨q,0,ZY⟩)):=⟨_,rfl⟩;obtain⟨q4,xc⟩:=qx _ qi;have q9:=oO q4 Y.o.2.2.2.2.1 W Y.o.2.2.2.2.2.1 Y.o.2.2.2.2.2.2.1;have x5:=xc.cells.2.2.2.2.2;have yk:=qi.symm;clear U' k5 W q3 k8 kf ha hi qx q4 xc qi;go_wp2_with fail;refine q9.mono ?_;rintro e zh⟨rfl,hM⟩;have qo:=ak hM;clear hM q9 x5;go_wp2;go_ret;exact⟨rfl,H.o.2.2.2.2.2.2.2.1 _ qo.out⟩
 have b0:(E==0)=ZV:=by simp[e0]
 obtain⟨-,-,kx,U',ke,J',h7,k5,W,hv,kj⟩:=H.o;obtain⟨q7,yv⟩:=kx qr e0;have q8:=jH (ke.below k0);have s6:=(dG.cells (ag.keep J' (k0.block _ (ag.lt J')))).2.2.2.1;have H6:=al k0 q7;clear U' ke J' h7 k5 W hv kj k0 q7 kx;go_upto_region 21 with fail;go_cut[115]from 104 to 114(λv wx=>v=Z1 ZV/\wx=w6);case first=>
  by_cases z1:E=10;. have z4:(E !=10)=ZV:=(by simp[z1]);go_wp2_with fail;go_meet;case rel=>exact⟨rfl,rfl⟩
  . have z4:(E !=10)=J:=(by simp[z1]);obtain rfl:=yv z1;go_wp2_with fail;refine(ly E w6).mono ?_;rintro e w7⟨rfl,rfl⟩;go_wp2_with fail;go_meet;case rel=>exact⟨rfl,rfl⟩
 case rest=>obtain⟨rfl,xo⟩:=hcut;have xo:=xo.symm;subst xo;go_wp2_with fail;refine q8.mono ?_;rintro e C⟨rfl,ha,hi⟩;clear q8 s6;obtain⟨-,-,-,U',-,-,-,k5,W,-,-⟩:=H.o;obtain⟨q3,k8,kf⟩:=U' _ _ H6.o.1 ha hi;have q9:=oO (q3 _ _ H6.o.2).1 Y.o.2.2.2.2.1 W Y.o.2.2.2.2.2.1 Y.o.2.2.2.2.2.2.1;have x5:=kf.cells.2.2.2.2.2;clear U' k5 W q3 k8 kf ha hi;go_wp2_with fail;refine q9.mono ?_;rintro e O'⟨rfl,hM⟩;have qo:=ak hM;clear hM q9 x5;go_wp2;go_ret;exact⟨rfl,H.o.2.2.2.2.2.2.2.1 _ qo.out⟩
end
end
def OO(a:g<L)(j:Nat)(b:j<D):mf (aQ D L G) (D+g) j=if g*(D/L)<=j/\j<(g+1)*(D/L)then 1 else 0:=by
 unfold mf aQ;have e:((YE D).map (dB D)++(YE L).map (dh D L)++(YE G).map (bQ D)).getD (D+g) []=dh D L g:=by rw[UA,Ub,U8 ej];simp only[Uf,Vj,WB];rw[Vz (ua a)];simp[a]
 rw[e];unfold dh;simp[b]
def Rp(a:g<L+G)(j:Nat):(iT D L G).m g j=if j<D then mf (aQ D L G) (D+g) j else if j=D+g then 1 else 0:=by show(if g<L+G then _ else _)=_;rw[TT a]
theorem OP(c:D%L=0)(n:k<D+L+G):∃C,tells (iT D L G) [k]=U C:=by
 have f:D/L*L=D:=Nat.div_mul_cancel (adh c);have g:∃r,r<L+G/\(iT D L G).m r k≠0:=by
  by_cases b:k<D
  . have a:0<D/L:=adv λe=>by rw[e]at f;omega
    have i:k/(D/L)<L:=(by rw[Nat.div_lt_iff_lt_mul a,Wf];omega);refine⟨k/(D/L),V,?_⟩;rw[Rp V,TT b,OO i k b,TT];.decide
    .have d:=Nat.div_add_mod k (D/L);have l:=VT k a;rw[Wf]at d;rw[Xt,Nat.one_mul];omega
  .refine⟨k-D,V,?_⟩;rw[Rp V,TS b,TT V];decide
 obtain⟨r,j,h⟩:=g;have e:tells (iT D L G) [k]=oh (iT D L G) k:=rfl;rw[e];unfold oh;cases a:dQ (iT D L G) k with|some o=>exact⟨_,rfl⟩|none=>exfalso;unfold dQ at a;rw[List.find?_eq_none]at a;have:=a r (Ul.2 j);apply this;have:(iT D L G).told<=r:=T8 _;simp[this,h]
def abD{a:Nat}:(S|||2^a)/2^i%2=1↔S/2^i%2=1\/i=a:=by have h:=fy (d:=a) (a:=S) (i:=i);rw[Wh,Wh,decide_eq_true_iff,decide_eq_true_iff]at h;exact h
theorem G8(S a:Nat):∀n,cnt (S|||2^a) n<=cnt S n+(if a<n then 1 else 0)
 |0=>by simp[cnt]|n+1=>by
  have ih:=G8 S a n;rw[uK,uK];by_cases e:n=a;.subst e;rw[TS (Nat.lt_irrefl n)]at ih;rw[TT (Nat.lt_succ_self n)];split<;>omega
  . have b:(S|||2^a)/2^n%2=1↔S/2^n%2=1:=abD.trans ⟨λq=>q.resolve_right e,.inl⟩;by_cases q:S/2^n%2=1;.rw[TT (b.2 q),TT q];split at ih<;>split<;>omega
    .rw[TS (λz=>q (b.1 z)),TS q];split at ih<;>split<;>omega
def OQ(a:D<=12)(b:G<=4)(c:cnt S (D+L+G)<=G):dZ D L G S:=LY D L G S a b (mj (λl hl=>mO D L G a b l (py _ _ _ Zc l hl)) 0) c
theorem OR{a:Nat}(e:D<=12)(f:G<=4)(g:cnt S (D+L+G)+2<=G):dZ D L G (S|||2^a|||2^b):=OQ e f (by have c:=G8 S a (D+L+G);have d:=G8 (S|||2^a) b (D+L+G);split at c<;>split at d<;>omega)
theorem OS{d:Nat}(e:D<=12)(f:G<=4)(b:D+L+G<=16)(a:D%L=0)(hd:d<D+L+G):dZ D L G (0|||2^d):=by
 obtain⟨C,c⟩:=OP (G:=G) a hd;refine IG e f b c λi=>?_;rw[Va,fy,Wr];constructor;.rintro rfl;exact⟨hd,.inr rfl⟩
 . rintro⟨_,q|q⟩;.cases q
   .exact q
section
theorem OT{w:ZU}(g:ay w p A F)(d:Nat)(hd:d<A.n):ZS ZO 34 #[Z6 (U ⟨p,0,ZY⟩),I O d] w λe w'=>e=Z3 (ZZ #[])/\ay w' p (A.Sm d) F/\aa F.S w w':=by
 obtain⟨R,h,a⟩:=g;rw[<-a.n]at hd;obtain⟨c0,c1⟩:=h.RN;obtain⟨j,d1,k,l⟩:=h.R4 d hd;have r:=h.R6 (d*4);have m:(0:Int)<=(d:Int):=V;have q:(d:Int)<(R.n:Int):=V;have H:=al h a;clear h a;go_enter func34,ntmps34;go_wp2;first|go_end0|skip
 obtain⟨h,a⟩:=H.o;refine⟨rfl,⟨_,h.SJ d J,⟨a.n,a.nb,λi f=>?_,λi b f hl=>?_,λi b f hl=>?_⟩⟩,aa.setCell _ _ _ h.sg⟩;.show(if i=d then J else R.lost i)=if i=d then J else A.lost i;rw[a.lost i f]
 all_goals
  have c:(if i=d then J else A.lost i)=ZV:=hl;by_cases e:i=d;.rw[TT e]at c;cases c
  .rw[TS e]at c;first|exact a.rd i b f c|exact a.tn i b f c
def aX.Sm{D L G d:Nat}{xs:aF}(h:aX A D L G t P xs)(c:∃i,i<A.n/\(A.sv|||2^d).testBit i=ZV):eu ((A.Sm d).RQ (A.sv|||2^d)) D L G t P xs:=aX.cut (h.to rfl rfl λb _ i g=>⟨rfl,λa f=>by
  refine fy.2 ?_;by_cases e:i=d;.exact .inr e
  .refine .inl (f ?_);unfold gnB an.Sm an.RQ at a;unfold gnB;simpa[e]using a⟩) c
def VBx(w6:ZU)(D L G nb c sb q u:Nat)(Q:List (ByteArray×ZT))(v7:ZT)(wx:ZU):Prop:=∃w7 rv,mh w7 q (q+1) rv Q/\bW w6 w7/\v7=Z6 (U ⟨w7.heap.size,0,ZY⟩)/\wx=w7.alloc (Z4 #[I O (D:Nat),I O (L:Nat),I O (G:Nat),Z6 (U ⟨c,0,ZY⟩),Z6 (U ⟨sb,0,ZY⟩),Z6 (U ⟨q,0,ZY⟩),I O (nb:Nat),Z5 ZY 0 0,Z5 ZY 0 0,I O (u:Nat)] 56)
section
variable {KW w0 w:ZU}{wb D L G nb T S:Nat}
theorem K2(h:MS KW (E6 S) w0 w wb D L G nb T)(h3:8<=nb)(hS:cnt S (D+L+G)+2<=G):ZS ZO 15 #[Z6 (U ⟨wb,0,ZY⟩)] w λe w'=>e=Z3 (Z1 J)/\MS KW (E6 S) w0 w' wb D L G nb T:=by
 obtain⟨t,xs,Q,p,r,sa,ar,v,Kind,ps,pg,ob,P,A,F,out,want,cache,f,j,u,l⟩:=h;have hh:=f.live.vol.par;have hD:=hh.d;have hL:=hh.l4;have hG:=hh.g;obtain⟨M,y⟩:=nM (D+L+G);have qb:M<=16:=ia hh.s;have z:∀X,ZS ZO 10 #[.agg #[I O (D:Nat),I O (L:Nat),I O (G:Nat)]] X λe w'=>e=Z3 (I O (M:Nat))/\bW X w':=λX=>by rw[<-y,(V:((D+L+G:Nat):Int)=(D:Int)+L+G)];exact cU (D:Int) (L:Int) (G:Int) X ⟨V,V⟩ ⟨V,V⟩ ⟨V,V⟩
 have C:Q.length<=1000:=by rw[j.rel.len];have:=f.live.Sd.1;simpa[aF.os]using this
 have m:∀d,dZ D L G (A.sv|||2^d):=λd=>by obtain⟨⟨a,_,ha⟩,_⟩:=l;exact pT (OR (a:=a) (b:=d) hD hG hS) λi q=>(fy.1 q).elim (λq=>fy.2 (.inl (fy.2 (ha i q)))) λq=>fy.2 (.inr q)
 have H:=hide9 f j u l z C m y h3;clear f j u l z C m hh hD hL hG y hS;go_enter func15,ntmps15;go_wp2_with fail;go_loopw[3](λi wr=>∃d:Nat,d<=M/\i=I O (d:Nat)/\bW w wr)(λi _=>M-(intOf i).toNat);case atStart=>exact⟨0,T8 _,rfl,TW _ w⟩
 case round=>
 obtain⟨d,qc,rfl,ki⟩:=hrel;obtain⟨f,j,u,l,z,C,m,y,h3⟩:=H.o;obtain⟨c0,c1,c2,c3,-,-,-,-,-,-⟩:=(f.below ki).wbA.cells;have q9:=z wr;have HB:=ak ki;clear f j u l z C m y ki;go_wp2_with fail;refine q9.mono ?_;rintro e w2⟨rfl,q2⟩;clear q9 c0 c1 c2 c3;have U':bW w w2:=HB.o.trans (q2.mono HB.o.size);have W:=ak U';clear q2;by_cases qd:d<M;rotate_left
 . have qa:¬(d:Int)<(M:Int):=V;have ka:MS KW (E6 S) w0 w2 wb D L G nb T:=by obtain⟨f,j,u,l,-,-,-,-,-⟩:=H.o;exact⟨_,_,_,_,_,_,_,_,_,_,_,_,_,_,_,_,_,_,f.below U',j.keep (eK.below U' _) lR,u,l⟩
   have HF:=ak ka;clear ka U';go_wp2;go_ret;exact⟨rfl,HF.o⟩
 have qa:(d:Int)<(M:Int):=V;obtain⟨f,j,u,l,z,C,m,y,h3⟩:=H.o;have N:=f.below U';have k0:=sY N.live.vol.arr N.live.n0;have a2:=N.wbA.cells.2.2.2.1;clear f j u l z C m y N U';go_wp2_with fail;refine k0.mono ?_;rintro e w3⟨E,O',rfl,R,kp,o⟩;clear k0 a2;obtain⟨f,j,u,l,z,C,m,y,h3⟩:=H.o;have kj:=OT kp d (ia f.live.vol.n);obtain⟨c,V'⟩:=nM (w2.heap.size);rw[V']at kj⊢;have H3:=aE O' R o V';clear f j u l z C m y O' R kp o V';go_wp2_with fail;refine kj.mono ?_;rintro e w4⟨rfl,kr,ky⟩;clear kj;obtain⟨f,j,u,l,z,C,m,y,h3⟩:=H.o;obtain⟨O',R,o,V'⟩:=H3.o;have K:bW w2 w4:=R.trans (ky.below λk hk=>⟨TY hk R.size,λq=>ia (o k q)⟩);have U':=W.out;have N:=f.below U';have kh:=N.below K;have kk:B9 w4 c D L G t 0 xs ((A.Sm d).RQ (A.sv|||2^d)) E:=by
  have k6:=kh.live.vol;have k3:=N.live.vol.room;refine⟨kr.RQ,k6.n,k6.par,ec,ec,by show 8<=A.nb;rw[f.nb];exact h3,f.live.nb,k6.laid,k6.tab,k6.room,λq=>ia (o _ q),λq=>ia (o _ q),.inr ⟨f.live.turn,P,f.live.disk.Sm (by rw[k6.n];exact tZ k6.par.d1 (m d))⟩,m d,λi hi q=>fy.2 ?_⟩;have q':(if i=d then J else A.lost i)=J:=q;by_cases e:i=d;.exact .inr e
  .rw[TS e]at q';exact .inl (f.live.fine.2 i hi q')
 have q8:=(sr kk).mono λe w' q=>q.resolve_right λq=>by have:=q.2.1;rw[O']at this;cases this
 obtain⟨c0,c1,c2,-,-,-,-,-,-,-⟩:=kh.wbA.cells;have H4:=al K kk;clear f j u l z C m y O' R o V' K N kh kk kr ky U';go_wp2_with fail;refine q8.mono ?_;rintro e w5 km;obtain⟨sb,ab,rfl,ke,k7,vb,hb,qs,qg,qf,P',B,k5,k8,kb,kf,hp,hf⟩:=id km.ans;clear q8 c0 c1 c2;have H5:=hide9 km.out ke k7 k5 k8 kb kf hp hf;clear km ke k7 k5 k8 kb kf hp hf;go_wp2_with fail;refine(kD w5).mono ?_;rintro e J'⟨rfl,hr⟩;obtain⟨f,j,u,l,z,C,m,y,h3⟩:=H.o;obtain⟨O',R,o,V'⟩:=H3.o;have K:=H4.o.1;have hs:bW w2 w5:=K.trans (H5.o.1.below λk hk=>⟨TY hk K.size,λq=>ia (o k q)⟩);have h7:bW w2 J':=hs.trans (hr.mono hs.size);have hg:bW w J':=W.out.trans (h7.mono W.out.size);have q0:∀X,bW J' X->X.cell? ⟨wb,0,ZY⟩=U (I O (D:Nat))/\X.cell? ⟨wb,1,ZY⟩=U (I O (L:Nat))/\X.cell? ⟨wb,2,ZY⟩=U (I O (G:Nat))/\X.cell? ⟨wb,5,ZY⟩=U (Z6 (U ⟨r,0,ZY⟩))/\X.cell? ⟨wb,6,ZY⟩=U (I O (nb:Nat)):=λX hb=>by obtain⟨e0,e1,e2,-,-,e5,e6,-,-,-⟩:=(f.below (hg.trans (hb.mono hg.size))).wbA.cells;exact⟨e0,e1,e2,e5,e6⟩
 have kg:=j.keep (eK.below (hg.trans ((TW _ J').drew.mono hg.size)) _) lR;obtain⟨qj,qk,q7⟩:=kg.ref;have k0:=nD q7 V kg.rel.sl;rw[show J'.drew.heap.size=J'.heap.size from rfl]at k0;obtain⟨q,hq⟩:=nM (J'.heap.size);rw[hq]at k0;have H6:=a5 k0 q0 hq h7 hr;clear f j u l z C m y O' R o V' K hs h7 hg q0 kg q7 k0 hq hr;go_upto_region 9 with fail;go_cut[7]from 43 to 59(λv7 wx=>VBx J' D L G nb c sb q 0 Q v7 wx);case first=>
  refine bw 99 [(0,J),(1,J),(2,J),(3,J),(4,J),(5,J),(6,J),(7,J),(8,J),(9,J),(11,J),(12,J),(13,J),(14,J),(10,ZV),(15,J),(16,ZV),(17,J)] (λw'=>w'.cell? ⟨wb,0,ZY⟩=U (I O (D:Nat))/\w'.cell? ⟨wb,1,ZY⟩=U (I O (L:Nat))/\w'.cell? ⟨wb,2,ZY⟩=U (I O (G:Nat))/\w'.cell? ⟨wb,5,ZY⟩=U (Z6 (U ⟨r,0,ZY⟩))/\w'.cell? ⟨wb,6,ZY⟩=U (I O (nb:Nat))) ee ee (H6.o.2.1 _ (TW _ J').drew) ?_;iterate 14 refine bE ?_
  refine db H6.o.1 rfl rfl oB ?_;rintro e Y⟨rfl,⟨u7,kc⟩,q3⟩;have Z:bW J' Y:=(TW _ J').drew.trans (q3.mono (by have:=H6.o.2.2.1;first|exact TV _|omega));refine⟨_,rfl,λ_=>H6.o.2.1 _ Z,?_⟩;have H7:=al kc Z;clear kc q3 Z;simp only[Act.put,TZ,T5,T6];iterate 1 refine bE ?_
  refine dV rfl rfl Lx (λ_=>H6.o.2.1 _ (H7.o.2.alloc H7.o.2.size _)) ?_;simp only[Act.put,TZ,T5,T6];iterate 1 refine bE ?_
  refine bI ?_;rename_i hK;refine hK _ _ ?_;clear hK;go_meet;case rel=>exact⟨Y,u7,H7.o.1,H7.o.2,rfl,rfl⟩
 case rest=>
 rename ZU=>w8;obtain⟨Y,u7,kc,Z,rfl,ko⟩:=hcut;obtain⟨f,j,u,l,z,C,m,y,h3⟩:=H.o;obtain⟨O',R,o,V'⟩:=H3.o;obtain⟨-,-,hq,h7,hr⟩:=H6.o;obtain⟨kz,ke,k7,k5,k8,kb,kf,hp,hf⟩:=H5.o;have K:=H4.o.1;have hz:bW Y w8:=by rw[ko];exact bA Y _
 have hy:bW J' w8:=Z.trans (hz.mono Z.size);have hx:bW w5 w8:=hr.trans (hy.mono hr.size);have hv:bW w2 w8:=h7.trans (hy.mono h7.size);have k9:bW w w8:=W.out.trans (hv.mono W.out.size);have q1:dG w8 Y.heap.size D L G (Z6 (U ⟨c,0,ZY⟩)) (Z6 (U ⟨sb,0,ZY⟩)) (Z6 (U ⟨q,0,ZY⟩)) nb (Z5 ZY 0 0) (Z5 ZY 0 0) 0:=by rw[ko];exact UD Y _
 have q6:=k5.below hx;have N:=f.below W.out;have qe:w5.heap.size<=Y.heap.size:=TU hr.size Z.size;have qh:=K.size;have qi:ab<w5.heap.size:=k5.arc.lt;have hd:=f.live.vol.par;have kx:MB w2 w8 Y.heap.size D L G nb t xs c q sb ab vb (mZ hb 0 D L G) qs qg qf P' B E (Z5 ZY 0 0) (Z5 ZY 0 0) 0:=⟨q1,(hx.block _ k7.lt).trans k7,q6,k8.nb.trans f.nb,hv,f.gl.below W.out,TU f.hK N.base.size,TU (TU K.size (ia kz.size)) qe,V,λk hk=>o k hk,V,λk q=>ia (hf k q),⟨sn hd,λps x hk=>by obtain⟨es,qs,ho,rfl⟩:=hk;exact⟨es,qs,x,rfl⟩,BZ,kb⟩,λq=>ia (qs.lt _ k5.kit _ q),⟨ec,ec⟩,O'⟩;have ks:Dc w8 w8 q Q xs (Z5 ZY 0 0) (Z5 ZY 0 0):=⟨⟨_,u7,(eK.below hz _).RZ.ref kc lR⟩,(j.keep (eK.below k9 _) lR).rel,⟨⟨_,_,_,rfl,T8 _⟩,⟨_,_,_,rfl,T8 _⟩⟩,λ_ _ _ _ _=>rfl⟩;have q5:=Ca kx ks;clear f j u l z C m y O' R o V' hq h7 hr kz ke k7 k5 k8 kb kf hp hf K hz hy hx hv k9 q1 q6 N qe qh qi hd kx ks kc Z ko;go_wp2_with fail;refine q5.mono ?_;rintro e w9⟨rfl,_,_,_,_,_,_,kv,_⟩;have q4:bW w w9:=W.out.trans (kv.base.mono W.out.size);have H9:=ak q4;clear kv q4 q5;go_wp2;exact⟨⟨d+1,V,eT,H9.o⟩,iE⟩
end
end
section
section
variable {KW w0 w:ZU}{wb D L G nb t:Nat}{xs:aF}{Q:List (ByteArray×ZT)}{p r sa ar v:Nat}{Kind:aN->Prop}{ps:aN}{pg ob:ZT}{P:a7}{A:an}{F:aC}{out want:ZT}{cache:Int}
theorem K3(h:MB w0 w wb D L G nb t xs p r sa ar v Kind ps pg ob P A F out want cache)(j:Dc KW w r Q xs out want)(o:mi)(dv:ZT)(n:∃f m dc,dv=.slice f m dc)(k:o.kind<1\/6<o.kind){C:an->Prop}(q:C A):ZS ZO 9 #[Z6 (U ⟨wb,0,ZY⟩),.agg #[I O o.kind,I O o.a,Z0 o.s,dv]] w λe w'=>e=Z3 (Z1 J)/\MS KW C w0 w' wb D L G nb (t+1):=by obtain⟨f,m,dc,rfl⟩:=n;obtain⟨kd,g⟩:=nM (o.kind);obtain⟨w1,i⟩:=nM (w.alloc (Z4 #[I O o.kind,I O o.a,Z0 o.s,.slice f m dc] 38));have d:=st0 h j o _ i;obtain⟨u,Z,J',K⟩:=d.op.cells;have l:=ak (show MS KW C w0 w1 wb D L G nb (t+1)from⟨_,_,_,_,_,_,_,_,_,_,_,_,_,_,_,_,_,_,d.b,d.c,V,q⟩);clear d h j;rw[g]at u i k⊢;have x:¬kd=1:=V;have y:¬kd=2:=V;have z:¬kd=3:=V;have B:¬kd=4:=V;have E:¬kd=5:=V;have H:¬kd=6:=V;clear k g;go_enter func9,ntmps9;go_wp2;go_ret;exact⟨rfl,l.o⟩
end
end
section
open Go.ChangeShapes Go.WideShapes Go.Joins
def Tryz.Ss:laidOutB ZO=J:=ee
def Tryz.SE:ZO.cellsOf 38=4:=ee
def Tryz.R7:ZO.cellsOf 3=1:=ee
def Tryz.Tp:ZO.cellsOf 9=1:=ee
def Tryz.SR:ZO.cellsOf 36=1:=ee
def Tryz.S3:ZO.cellsOf 5=1:=ee
def Tryz.S9:ZO.bytesOf 5=1:=ee
instance:Inhabited mi:=⟨⟨0,0,YF,[]⟩⟩
def Az:reachBytes=140737488351232:=rfl
def abE{l:List ZT}(h:l.length=4):∃a b c d,l=[a,b,c,d]:=by match l,h with|[a,b,c,d],_=>exact⟨a,b,c,d,rfl⟩
def iC{P:Program}{e:ZQ}:∀{ds:List (DataW H)}{d:DataW H},d∈ds->∀n∈d.weights P e,n∈DataW.weightsAll P e ds
 |b::ds,d,hd,n,a=>by
  simp only[DataW.weightsAll,Ui];rcases Uu.1 hd with rfl|hd;.exact .inl a
  .exact .inr (iC hd n a)
def G9{enc:ZQ×ZT->H}{v:ZT}{x:DataW H×List MemPlace}(h:DataW.trod enc ZO W 0 (λ_=>J) J n 36 [v]=U x)(t:∀k∈x.1.weights ZO 36,k<=reachBytes):∃l:a7,Bs W v l:=by
 rcases open_ints Ur Xq Tryz.S3 h with⟨c,_⟩|⟨a,len,cap,d,c,_,hl,F,C,A,g,m⟩;.simp at c;exact⟨[],ZY,0,c,ej,ej,ej,λh=>absurd rfl h⟩
 . simp at c;simp only[if_true]at C;subst A;have w:=t (d.length*1) (by simp only[DataW.weights,Ur,lits,Tryz.S9];refine Uu.2 (.inl ?_);simp only[Uf,Uq,Un];omega);rw[Az]at w;have hll:((d.take len).map Int.toNat).length=len:=ek;refine⟨(d.take len).map Int.toNat,U a,cap,by rw[hll];exact c,by rw[hll];exact hl,by rw[hll];omega,λy B=>?_,λr=>?_⟩;.obtain⟨z,u,rfl⟩:=T9.1 B;have:=bounds_u8 (m z (US u));omega
   . have:0<len:=by
      rcases WG len with e|e;.subst e;exact absurd rfl r
      .exact e
     obtain⟨b,o,sp⟩:=a;have p:=g 0 V;have s:sp=ZY:=(by simpa[Addr.add]using Yp p);subst s;refine⟨b,o,rfl,λk j=>?_⟩;have q:k<len:=(by rw[hll]at j;exact j);have f:k<d.length:=V;have i:=g k f;rw[VR]at i;rw[i];have:=bounds_u8 (m _ (T7 f));simp[f,q];omega
def xG{enc:ZQ×ZT->H}{cs:List ZT}{x:DataW H×List MemPlace}(h:DataW.trod enc ZO W 0 (λ_=>J) J n 38 cs=U x)(i:∀k∈x.1.weights ZO 38,k<=reachBytes):∃o:mi×ZT,cs=[I O o.1.kind,I O o.1.a,Z0 o.1.s,o.2]/\Bs W o.2 o.1.d/\o.1.s.size<=140737488355328:=by obtain⟨l,p,q,r,m,rfl,hl,t,u,w,j⟩:=trod_struct4 underlying38 h;rw[Tryz.SE]at hl;obtain⟨a,b,c,d,rfl⟩:=abE hl;obtain⟨A,e,_,w0⟩:=Xa Wp t;obtain⟨B,f,_,w1⟩:=Xa Wp u;obtain⟨s,g,y,_⟩:=DataW.trod_string acZ w;rw[show ZO.cellsOf 3=1 from Tryz.R7]at e f;rw[show ZO.cellsOf 9=1 from Tryz.Tp]at g;rw[show ZO.cellsOf 36=1 from Tryz.SR]at j;simp at e f g;subst e f g;simp only[DataW.weights,underlying38]at i;obtain⟨dl,hd⟩:=G9 (v:=d) (ua j) (λk z=>i k (by show k∈l.1.weights ZO _++(p.1.weights ZO _++(q.1.weights ZO _++(r.1.weights ZO 36++[])));simp only[Ui];exact .inr (.inr (.inr (.inl z)))));refine⟨(⟨A,B,s,dl⟩,d),rfl,hd,?_⟩;have:=i s.size (by show s.size∈l.1.weights ZO _++(p.1.weights ZO _++(q.1.weights ZO 9++(r.1.weights ZO _++[])));simp only[Ui];refine .inr (.inr (.inl ?_));rw[y];simp only[DataW.weights,Uu];exact .inl (show s.data.size=s.data.toList.length from WR.symm));rw[Az]at this;show s.size<=_;omega
def xH{enc:ZQ×ZT->H}{d:DataW H}{ps:List MemPlace}(h:DataW.Trod enc ZO W 0 (λ_=>J) J 22 (.slice ao len0 cap0) d ps)(B:∀n∈d.weights ZO 22,n<=reachBytes):∃l:List mi,Scr W (.slice ao len0 cap0) l/\∀x∈l,x.s.size<=140737488355328/\x.d.length<=140737488355328:=by
 obtain⟨fuel,g⟩:=h;rcases open_slice underlying22 g with⟨r,_⟩|⟨a,len,cap,m,T,D,R,r,_,hl,S,A,q,z⟩;.simp[Value.cells]at r;obtain⟨rfl,rfl,rfl⟩:=r;exact⟨[],⟨ZY,0,rfl,λh=>absurd rfl h⟩,λx q=>adY⟩
 . simp[Value.cells]at r;obtain⟨rfl,rfl,rfl⟩:=r;simp only[Xo]at q;obtain⟨rfl,_⟩:=q;simp only[DataW.weights,underlying22]at B;simp only[if_true]at A;have K:=A.symm;subst K;rw[Tryz.SE]at z;obtain⟨f,g⟩:=choose_lt (α:=mi×ZT) (n:=len0) (p:=λi s=>(∀j,j<4->W.cell? ((a.add (i*4)).add j)=([I O s.1.kind,I O s.1.a,Z0 s.1.s,s.2]:List ZT)[j]?)/\Bs W s.2 s.1.d/\s.1.s.size<=140737488355328) (λi t=>by obtain⟨cs',Z,J'⟩:=z i V;obtain⟨s,rfl,v⟩:=xG J' (λk Q=>B k (Uo _ (UB _ (iC (d:=D i) (T9.2 ⟨i,Ul.2 t,rfl⟩) k Q))));obtain⟨_,_,c⟩:=adB Z;exact⟨s,c,v⟩);obtain⟨b,o,sp⟩:=a;refine⟨(YE len0).map λi=>(f i).1,⟨U ⟨b,o,sp⟩,cap0,ej,λO'=>?_⟩,λx q=>?_⟩
   . have w:0<len0:=by
      rcases WG len0 with e|e;.subst e;exact absurd rfl O'
      .exact e
     have L:=(g 0 w).1 0 ec;have P:sp=ZY:=by have:W.cell? (((⟨b,o,sp⟩:Addr).add (0*4)).add 0)=U (I O (f 0).1.kind):=L;simpa[Addr.add]using Yp this
     subst P;have y:=(g 0 w).1 0 ec;rw[VR,VR]at y;refine⟨b,o,rfl,Ue (show W.cell? _=U _ from y),λi t=>?_⟩;have M:i<len0:=(ua t);obtain⟨c,u,_⟩:=g i M;have C:=c 0 ec;have E:=c 1 ec;have F:=c 2 ec;have G:=c 3 ec;rw[VR,VR]at C E F G;simp only[UR,YG];exact⟨(f i).2,C,E,F,G,u⟩
   .obtain⟨i,t,rfl⟩:=T9.1 q;obtain⟨_,u,v⟩:=g i (ua t);obtain⟨_,_,_,_,N,_⟩:=u;exact⟨v,N⟩
end
section
open Go.ChangeShapes Go.WideShapes Go.Joins
structure OU where
 kind:Int
 drive:Int
 block:Int
 bit:Int
 at_:Int
def OU.cs(f:OU):List ZT:=[I O f.kind,I O f.drive,I O f.block,I O f.bit,I O f.at_]
def Fts(w:ZU)(v:ZT)(l:List OU):Prop:=∃ao c,v=.slice ao l.length c/\(l≠[]->∃b off,ao=U ⟨b,off,ZY⟩/\b<w.heap.size/\∀i(hi:i<l.length),w.cell? ⟨b,off+i*5,ZY⟩=U (I O l[i].kind)/\w.cell? ⟨b,off+i*5+1,ZY⟩=U (I O l[i].drive)/\w.cell? ⟨b,off+i*5+2,ZY⟩=U (I O l[i].block)/\w.cell? ⟨b,off+i*5+3,ZY⟩=U (I O l[i].bit)/\w.cell? ⟨b,off+i*5+4,ZY⟩=U (I O l[i].at_))
def Tryz.Sw:ZO.cellsOf 89=5:=ee
instance:Inhabited OU:=⟨⟨0,0,0,0,0⟩⟩
def OV{l:List α}(h:l.length=5):∃a b c d e,l=[a,b,c,d,e]:=by match l,h with|[a,b,c,d,e],_=>exact⟨a,b,c,d,e,rfl⟩
def yG{enc:ZQ×ZT->H}{cs:List ZT}{x:DataW H×List MemPlace}(h:DataW.trod enc ZO W 0 (λ_=>J) J n 89 cs=U x):∃o:OU,cs=o.cs:=by obtain⟨xs,m,_,_,hl,p,f⟩:=DataW.trod_struct underlying89 h;rw[Tryz.Sw]at hl;obtain⟨a,b,c,d,e,rfl⟩:=OV hl;obtain⟨q,r,s,t,u,rfl⟩:=OV (show xs.length=5 from p);obtain⟨v,g,_⟩:=Xa (x:=q) Wp (f 0 _ rfl);obtain⟨w,i,_⟩:=Xa (x:=r) Wp (f 1 _ rfl);obtain⟨y,j,_⟩:=Xa (x:=s) Wp (f 2 _ rfl);obtain⟨z,k,_⟩:=Xa (x:=t) Wp (f 3 _ rfl);obtain⟨A,l,_⟩:=Xa (x:=u) Wp (f 4 _ rfl);simp[Tryz.R7]at g i j k l;subst g i j k l;exact⟨⟨v,w,y,z,A⟩,rfl⟩
def xI{enc:ZQ×ZT->H}{d:DataW H}{ps:List MemPlace}(h:DataW.Trod enc ZO W 0 (λ_=>J) J 25 (.slice ao len0 cap0) d ps):∃l:List OU,Fts W (.slice ao len0 cap0) l:=by
 obtain⟨fuel,k⟩:=h;rcases open_slice underlying25 k with⟨g,_⟩|⟨a,len,cap,m,L,D,Z,g,_,hl,J',t,K,r⟩;.simp[Value.cells]at g;obtain⟨rfl,rfl,rfl⟩:=g;exact⟨[],ZY,0,rfl,λh=>absurd rfl h⟩
 . simp[Value.cells]at g;obtain⟨rfl,rfl,rfl⟩:=g;simp only[if_true]at t;have C:=t.symm;subst C;rw[Tryz.Sw]at r;obtain⟨f,k⟩:=choose_lt (α:=OU) (n:=len0) (p:=λi s=>∀j,j<5->W.cell? ((a.add (i*5)).add j)=s.cs[j]?) (λi u=>by obtain⟨cs',A,B⟩:=r i V;obtain⟨s,rfl⟩:=yG B;obtain⟨_,_,c⟩:=adB A;exact⟨s,c⟩);obtain⟨b,o,sp⟩:=a;refine⟨(YE len0).map f,U ⟨b,o,sp⟩,cap0,ej,λF=>?_⟩;have E:0<len0:=by
    rcases WG len0 with e|e;.subst e;exact absurd rfl F
    .exact e
   have q:=k 0 E 0 ec;have G:sp=ZY:=by have:W.cell? (((⟨b,o,sp⟩:Addr).add (0*5)).add 0)=U (I O (f 0).kind):=q;simpa[Addr.add]using Yp this
   subst G;rw[VR,VR]at q;refine⟨b,o,rfl,Ue (show W.cell? _=U _ from q),λi u=>?_⟩;have c:=k i (ua u);have v:=c 0 ec;have w:=c 1 ec;have x:=c 2 ec;have y:=c 3 ec;have z:=c 4 ec;rw[VR,VR]at v w x y z;simp only[UR,YG];exact⟨v,w,x,y,z⟩
end
section
def O2(M:List (Nat×Nat)):List ZT:=M.flatMap λm=>[I O (m.1:Nat),I O (m.2:Nat)]
def Mk(w0 w:ZU)(tv:ZT)(M:List (Nat×Nat)):Prop:=w.ownsRow w0.heap.size 93 2 tv M.length (O2 M)
structure qO(lk:Prop)(S:Nat)(A B:an):Prop where
 n:B.n=A.n
 nb:B.nb=A.nb
 rc:B.rc=A.rc
 sv:B.sv=A.sv
 gn:∀b i,gnB B b i=J->gnB A b i=J\/S.testBit i=J
 lost:∀i,B.lost i=J->A.lost i=J\/lk/\S.testBit i=J
def qO.refl(lk:Prop)(S:Nat)(A:an):qO lk S A A:=⟨rfl,rfl,rfl,rfl,λ_ _=>.inl,λ_=>.inl⟩
def qO.trans{lk:Prop}{S:Nat}{A B C:an}(h:qO lk S A B)(k:qO lk S B C):qO lk S A C:=⟨k.n.trans h.n,k.nb.trans h.nb,k.rc.trans h.rc,k.sv.trans h.sv,λb i c=>(k.gn b i c).elim (h.gn b i) .inr,λi c=>(k.lost i c).elim (h.lost i) .inr⟩
def qO.Tt{lk:Prop}{S:Nat}{A B:an}(h:qO lk S A B)(a:A.sv=S):Alw A B:=⟨h.n,h.nb,h.sv,λb i q=>by rw[a];exact h.gn b i q⟩
def qO.fine{lk:Prop}{S D L G:Nat}{A B:an}(h:qO lk S A B)(a:A.sv=S)(q:A.fine D L G):B.fine D L G:=⟨h.sv▸q.1,λi b e=>by rw[h.sv];exact(h.lost i e).elim (q.2 i (h.n▸b)) λe=>by rw[a];exact e.2⟩
def qO.of{lk:Prop}{S d:Nat}{A B:an}(hd:S.testBit d=J)(c:B.n=A.n)(a:B.nb=A.nb)(f:B.rc=A.rc)(g:B.sv=A.sv)(h:∀b i,i≠d->gnB B b i=gnB A b i)(hl:∀i,B.lost i=J->A.lost i=J\/lk/\i=d):qO lk S A B:=⟨c,a,f,g,λb i q=>by
  by_cases e:i=d;.rw[e];exact .inr hd
  .rw[<-h b i e];exact .inl q,λi q=>(hl i q).imp_right λ(e:lk/\i=d)=>⟨e.1,by rw[e.2];exact hd⟩⟩
section
variable {lk:Prop}{S d:Nat}(A:an)(b:Nat)(hd:S.testBit d=J)
include hd
def qO.SN:qO lk S A (A.SN d b):=.of hd rfl rfl rfl rfl (λm i e=>by simp[gnB,an.SN,e]) λ_=>.inl
def qO.turn:qO lk S A (A.turn d b):=.of hd rfl rfl rfl rfl (λm i e=>by simp[gnB,an.turn,e]) λ_=>.inl
def qO.Sm(a:lk):qO lk S A (A.Sm d):=.of hd rfl rfl rfl rfl (λm i e=>by simp[gnB,an.Sm,e]) λi q=>by
 by_cases e:i=d;.exact .inr ⟨a,e⟩
 .exact .inl (by simpa[an.Sm,e]using q)
def qO.renew:qO lk S A (A.renew d):=.of hd rfl rfl rfl rfl (λm i e=>by simp[gnB,an.renew,e]) λi q=>.inl (by
 by_cases e:i=d;.simp[an.renew,e]at q
 .simpa[an.renew,e]using q)
end
def mkK(w0 w:ZU)(k:Nat):Prop:=w0.heap.size<=k/\∃cs,w.heap[k]?=U (Z4 cs 93 (0,0))
def mkK.no{w0 w:ZU}{cs:Array ZT}(h:w.heap[k]?=U (Z4 cs T z))(hT:T≠93):¬mkK w0 w k:=λ⟨_,cs',e⟩=>by rw[h]at e;simp only[UF,UT]at e;exact hT e.2.1
def aP.ruin{lk:Prop}{w0 w:ZU}{ar v p D L G t S:Nat}{ps:aN}{pg ob:ZT}{P:a7}{xs:aF}{A B:an}{F:aC}(h:aP w ar v p ps D L G t pg ob P xs A F)(u:3<=w0.heap.size)(o:ay w' p B F')(r:∀k,F'.S k->F.S k\/w.heap.size<=k)(d:aa (λk=>F.S k\/mkK w0 w k) w w')(a:qO lk S A B)(f:A.sv=S):aP w' ar v p ps D L G t pg ob P xs B F':=by
 have c:∀k,k<w.heap.size->¬F.S k->¬F'.S k:=λk hl s q=>(r k q).elim s V;have j:∀k,(ar<k/\¬F.S k/\¬ps.bl k)->k<w.heap.size->((ar<k/\¬F.S k/\¬ps.bl k)/\¬F'.S k):=λk q hl=>⟨q,c k hl q.2.1⟩;have hK:∀k,Nm w k->((ar<k/\¬F.S k/\¬ps.bl k)/\¬F'.S k)->w'.heap[k]?=w.heap[k]?:=λk c hK=>d.block k c.lt λq=>q.elim hK.1.2.1 λq=>by obtain⟨cs,T,z,e,hT⟩:=c;exact mkK.no e hT.1 q
 have l:w.heap[ar]?=U (Z4 _ 136 (0,0)):=h.arc;have m:w.heap[v]?=U (Z4 _ 129 (0,0)):=h.vol.vol;exact{h with fine:=a.fine f h.fine,nar:=c _ h.arc.lt h.nar,arc:=h.arc.keep (d.block _ h.arc.lt λq=>q.elim h.nar (mkK.no l ec)),vol:={h.vol with vol:=h.vol.vol.keep (d.block _ h.vol.vol.lt λq=>q.elim h.vol.v (mkK.no m ec)),arr:=o,v:=c _ h.vol.vol.lt h.vol.v,g:=c _ h.vol.laid.lt h.vol.g,t:=c _ h.vol.tab.lt h.vol.t,laid:=h.vol.laid.keep (d.block _ h.vol.laid.lt λq=>q.elim h.vol.g λq=>ia q.1),tab:=h.vol.tab.keep (d.block _ h.vol.tab.lt λq=>q.elim h.vol.t λq=>ia q.1),room:=TU h.vol.room d.size,n:=a.n.trans h.vol.n},disk:=h.disk.off (a.Tt f) λb _ i=>by rw[a.rc],pgs:=((h.pgs.wk j).Sl hK).wk λk q _=>⟨q.1.1,q.2,q.1.2.2⟩,cat:=((h.cat.wk j).Sl hK).wk λk q _=>⟨q.1.1,q.2,q.1.2.2⟩,nb:=by rw[a.nb];exact h.nb,kit:=ps.keep _ _ h.kit λk a=>d.block k (ps.lt _ h.kit k a) λq=>q.elim (h.apt k a).2.2.2 λ⟨_,cs,e⟩=>cI h.kit e vm a,apt:=λk a=>⟨(h.apt k a).1,(h.apt k a).2.1,(h.apt k a).2.2.1,c k (ps.lt _ h.kit k a) (h.apt k a).2.2.2⟩}
def Mk.below{w0 w:ZU}{tv:ZT}{M:List (Nat×Nat)}(h:Mk w0 w tv M)(a:bW w w'):Mk w0 w' tv M:=az h a
def Mk.apart{w0 w:ZU}{tv:ZT}{M:List (Nat×Nat)}{p:Nat}{A:an}{F:aC}(h:Mk w0 w tv M)(c:ay w p A F){k:Nat}(d:tv.ownBlock=U k):¬F.S k:=λq=>by obtain⟨cs,T,hT,b⟩:=c.kind q;obtain⟨cur,a⟩:=bJ h d;rw[hT]at a;simp only[UF,UT]at a;have e:=a.2.1;rcases b with q|q|q|q<;>exact absurd (q.symm.trans e) ec
def Mk.arr{w0 w:ZU}{tv:ZT}{M:List (Nat×Nat)}{p:Nat}{A:an}{F:aC}(h:Mk w0 w tv M)(a:ay w p A F)(b:aa F.S w w'):Mk w0 w' tv M:=cD h b λk c=>h.apart a c
def Mk.mkK{w0 ws w:ZU}{tv:ZT}{M:List (Nat×Nat)}{F:aC}(h:Mk w0 w tv M)(b:aa (λk=>F.S k\/mkK w0 ws k) ws w){k:Nat}(a:tv.ownBlock=U k)(hl:k<ws.heap.size):F.S k\/mkK w0 ws k:=by
 obtain⟨cur,c⟩:=bJ h a;by_cases q:F.S k\/(w0.heap.size<=k/\∃cs,ws.heap[k]?=U (Z4 cs 93 (0,0)));.exact q
 .exact .inr ⟨eO h a,_,(b.block k hl q).symm.trans c⟩
def Tryz.TE:(ZO.info? 93).map (λi=>(i.zero,i.size,i.bytes))=U (U (.agg #[I O 0,I O 0]),2,16):=ee
def OW:∀(M:List (Nat×Nat))(k:Nat)(h:k<M.length),(O2 M)[k*2]?=U (I O (M[k].1:Nat))/\(O2 M)[k*2+1]?=U (I O (M[k].2:Nat))
 |[],k,h=>absurd h ej|q::M,0,_=>⟨rfl,rfl⟩|q::M,k+1,h=>by
  obtain⟨a,b⟩:=OW M k (ua h);have e:O2 (q::M)=[I O (q.1:Nat),I O (q.2:Nat)]++O2 M:=by unfold O2;rw[VJ]
  rw[e];refine⟨?_,?_⟩;.rw[U8 ek,(ek:(k+1)*2-[Value.int .i64 (q.1:Nat),I O (q.2:Nat)].length=k*2)];exact a
  .rw[U8 ek,(ek:(k+1)*2+1-[Value.int .i64 (q.1:Nat),I O (q.2:Nat)].length=k*2+1)];exact b
def Mk.at{w0 w:ZU}{ta:Option Addr}{tc ml:Nat}{M:List (Nat×Nat)}(h:Mk w0 w (.slice ta ml tc) M){k:Nat}(c:k<M.length):∃g,ta=U ⟨g,0,ZY⟩/\w.cell? ⟨g,k*2,ZY⟩=U (I O (M[k].1:Nat))/\w.cell? ⟨g,k*2+1,ZY⟩=U (I O (M[k].2:Nat)):=by
 rcases h.2 with⟨e,i⟩|⟨g,cap,cur,e,_⟩;.omega
 .simp only[Vy]at e;obtain⟨a,_,_⟩:=e;obtain⟨d,f⟩:=OW M k c;have c1:=h.cells (g:=g) T2 _ _ d;have b:=h.cells (g:=g) T2 _ _ f;rw[kl]at c1 b;exact⟨g,a,c1,b⟩
theorem yH{M:List (Nat×Nat)}(a:k<M.length)(x:Nat×Nat):(x∈M.take (k+1))↔(x∈M.take k\/M[k]=x):=by rw[Vl,Ud a,Ui];exact or_congr Yd (by simp only[Option.toList,Va];exact eq_comm)
structure Fq(lk:Prop)(w0 w:ZU)(S:Nat)(A:an)(F:aC)(B:an)(F':aC)(wr:ZU):Prop where
 out:aa (λj=>F.S j\/mkK w0 w j) w wr
 rus:qO lk S A B
 SU:yw w F F'
def Fq.refl(lk:Prop)(w0 w:ZU)(S:Nat)(A:an)(F:aC):Fq lk w0 w S A F A F w:=⟨aa.refl _ _,qO.refl lk S A,yw.refl _ _⟩
def Fq.trans{lk:Prop}{w0 w:ZU}{S:Nat}{A B C:an}{F F5:aC}(h:Fq lk w0 w S A F B F' wr)(k:Fq lk w0 wr S B F' C F5 w5):Fq lk w0 w S A F C F5 w5:=by
 refine⟨h.out.later k.out λj a q=>?_,h.rus.trans k.rus,k.SU.1.trans h.SU.1,λj q=>?_⟩
 . rcases q with q|⟨b,cs,c⟩;.exact(h.SU.2 j q).elim .inl V
   . by_cases e:F.S j\/mkK w0 w j;.exact e
     .exact .inr ⟨b,cs,(h.out.block j a e).symm.trans c⟩
 . rcases k.SU.2 j q with q|q;.exact h.SU.2 j q
   .exact .inr (TU h.out.size q)
structure FW(w0 w:ZU)(wb D L G nb p:Nat)(A:an)(F:aC)(M:List (Nat×Nat))(tv:ZT):Prop where
 wb:∃s r out want cache,dG w wb D L G (Z6 (U ⟨p,0,ZY⟩)) s r nb out want cache
 ru:rR w p A F M
 mrk:Mk w0 w tv M
 n:A.n=D+L+G
 nb:A.nb=nb
 sz:w0.heap.size<=w.heap.size
def Cd{w0 w:ZU}{wb D L G nb p:Nat}{r out want:ZT}{cache:Int}{A:an}{F:aC}(h:dG w wb D L G a s r nb out want cache)(d:ay w p A F)(e:aa (λj=>F.S j\/mkK w0 w j) w w'):dG w' wb D L G a s r nb out want cache:=by have b:w.heap[wb]?=U (Z4 _ 56 (0,0)):=h;refine ag.keep h (e.block _ (ag.lt h) λq=>q.elim (λq=>?_) (mkK.no b ec));obtain⟨cs,T,hT,f⟩:=d.kind q;rw[b]at hT;simp only[UF,UT]at hT;have c:=hT.2.1;rcases f with k|k|k|k<;>exact absurd (c.trans k) ec
def FW.below{w0 w:ZU}{wb D L G nb p:Nat}{A:an}{F:aC}{M:List (Nat×Nat)}{tv:ZT}(h:FW w0 w wb D L G nb p A F M tv)(a:bW w w'):FW w0 w' wb D L G nb p A F M tv:=by obtain⟨s,r,out,want,cache,b⟩:=h.wb;exact{h with wb:=⟨s,r,out,want,cache,ag.keep b (a.block _ (ag.lt b))⟩,ru:=h.ru.keep λk c=>a.block k (h.ru.1.RL c),mrk:=h.mrk.below a,sz:=TU h.sz a.size}
def FW.next{lk:Prop}{w0 w:ZU}{wb D L G nb p S:Nat}{A B:an}{F:aC}{M:List (Nat×Nat)}{tv:ZT}(h:FW w0 w wb D L G nb p A F M tv)(a:aa F.S w w')(e:rR w' p B F' M)(b:qO lk S A B)(d:yw w F F'):FW w0 w' wb D L G nb p B F' M tv/\Fq lk w0 w S A F B F' w':=by obtain⟨s,r,out,want,cache,f⟩:=h.wb;have c:aa (λj=>F.S j\/mkK w0 w j) w w':=a.mono λ_ _=>.inl;exact⟨⟨⟨s,r,out,want,cache,Cd f h.ru.1 c⟩,e,h.mrk.arr h.ru.1 a,b.n.trans h.n,b.nb.trans h.nb,TU h.sz a.size⟩,c,b,d⟩
def FR(lk:Prop)(w0 w:ZU)(wb D L G nb p S m n:Nat)(A:an)(F:aC)(tv i:ZT)(wr:ZU):Prop:=∃(k:Nat)(B:an)(F':aC)(M:List (Nat×Nat)),k<=n/\i=I O (k:Nat)/\FW w0 wr wb D L G nb p B F' M tv/\Fq lk w0 w S A F B F' wr/\M.length<=m+k
section
variable {KW w0 ws w:ZU}{wb D L G nb t m:Nat}{xs:aF}{Q:List (ByteArray×ZT)}{p r sa ar v:Nat}{Kind:aN->Prop}{ps:aN}{pg ob:ZT}{P:a7}{A:an}{F:aC}{out want:ZT}{cache:Int}{tv:ZT}{M:List (Nat×Nat)}
def MB.fault{lk:Prop}{S:Nat}(h:MB w0 w wb D L G nb t xs p r sa ar v Kind ps pg ob P A F out want cache)(d:Dc KW w r Q xs out want){w':ZU}{B:an}{F':aC}(l:ay w' p B F')(hq:Fq lk w0 w S A F B F' w')(m:A.sv=S):MB w0 w' wb D L G nb t xs p r sa ar v Kind ps pg ob P B F' out want cache/\Dc w' w' r Q xs out want:=by
 have a:=hq.out;have c:qN w.heap.size w w':=λT hT j cs hl f=>a.block j hl λq=>by
  rcases q with q|q;.obtain⟨cs',T',b,i⟩:=h.live.vol.arr.kind q;rw[f]at b;simp only[UF,UT]at b;have g:=b.2.1;rcases hT with rfl|rfl|rfl|rfl|rfl<;>(rcases i with k|k|k|k<;>exact absurd (g.trans k) ec)
  .refine mkK.no f ?_ q;rcases hT with rfl|rfl|rfl|rfl|rfl<;>decide
 obtain⟨rb,rv,s⟩:=d.ref;exact⟨{h with wbA:=Cd h.wbA h.live.vol.arr a,box:=c.box h.box lR,live:=h.live.ruin h.hK l hq.SU.2 a hq.rus m,nb:=hq.rus.nb.trans h.nb,base:=h.base.trans (a.below λk n=>⟨TY n h.base.size,λq=>q.elim (λq=>ia (h.fB k q)) λq=>ia q.1⟩),fB:=λk q=>(hq.SU.2 k q).elim (h.fB k) λe=>TU h.base.size e,pwr:=hq.SU.1.trans h.pwr},⟨rb,rv,c.ref s lR⟩,d.rel.keep λ_ _ o=>c.ow o lR,d.ow,λ_ _ _ _ _=>rfl⟩
theorem K4{lk:Prop}(hW:FW w0 w wb D L G nb p A F M tv)(h8:xX D L G)(q7:0<nb)(xb:nb<=1000){S:Nat}(hS:S<18446744073709551616){fl:List OU}{fv:ZT}(hf:∀wr,aa (λj=>F.S j\/mkK w0 w j) w wr->Fts wr fv fl)(hm:M.length<=m)(xg:m+fl.length<=1000000)(at_:Int)(qn:∀f∈fl,f.kind=0->lk):ZS ZO 13 #[Z6 (U ⟨wb,0,ZY⟩),I Z8 (S:Nat),fv,I O at_,tv] w λe w'=>∃xj B F' a,e=Z3 xj/\FW w0 w' wb D L G nb p B F' a xj/\Fq lk w0 w S A F B F' w'/\a.length<=m+fl.length:=by
 obtain⟨N,hN⟩:=nM (D+L+G);have qz:0<N/\N<=16:=by have:=h8.d1;have:=h8.s;omega
 have qo:∀X,ZS ZO 10 #[.agg #[I O (D:Nat),I O (L:Nat),I O (G:Nat)]] X λe w'=>e=Z3 (I O (N:Nat))/\bW X w':=λX=>by rw[<-hN,(V:((D+L+G:Nat):Int)=(D:Int)+L+G)];have:=h8.d;have:=h8.l4;have:=h8.g;exact cU (D:Int) (L:Int) (G:Int) X ⟨V,V⟩ ⟨V,V⟩ ⟨V,V⟩
 have hs:∀x:Int,IntKind.i64.wrap x=wrap64 x:=λx=>by rw[Ux];unfold wrap64;omega
 have q8:IntKind.u64.wrap (nb:Int)=(nb:Int):=K1;have x3:IntKind.u64.wrap (N:Int)=(N:Int):=K1;obtain⟨fo,fp,rfl,_⟩:=hf w (aa.refl _ _);obtain⟨xy,xz,rfl⟩:=bu hW.mrk;have H:=a5 hW hf qo hN hS;have qx:=ak qn;clear hf qo hW hN hS h8 qn;go_enter func13,ntmps13;go_wp2_with fail;go_loopw[4,11](λtv i wr=>FR lk w0 w wb D L G nb p S m fl.length A F tv i wr)(λ_ i _=>fl.length-(intOf i).toNat);case atStart=>exact⟨0,A,F,M,T8 _,rfl,H.o.1,Fq.refl _ _ _ _ _ _,hm⟩
 case round=>
  obtain⟨k,B,F',a,hk,rfl,k9,hq,ka⟩:=hrel;by_cases ko:k<fl.length;rotate_left;.have q6:¬(k:Int)<(fl.length:Int):=V;have l:=au k9 hq ka;clear k9 hq ka;go_wp2;go_ret;exact⟨_,rfl,B,F',a,l.o.1,l.o.2.1,ia l.o.2.2⟩
  obtain⟨xp,xq,he,qj⟩:=H.o.2.1 wr hq.out;obtain⟨fb,xn,x5,_,kg⟩:=qj (λe=>by rw[e]at ko;simp at ko);simp only[Vy]at he;obtain⟨rfl,_,rfl⟩:=he;subst x5;obtain⟨f0,f1,f2,f3,f4⟩:=kg k ko;obtain⟨f,kz⟩:=nM (fl[k]);rw[kz]at f0 f1 f2 f3 f4;obtain⟨d,hd,ed⟩:=gw f.drive N qz.1 V;obtain⟨b,hb,eb⟩:=gw f.block nb q7 V;obtain⟨kb,x8,U'⟩:=gw f.bit 512 ec ec;have q6:(k:Int)<(fl.length:Int):=V;obtain⟨kind,hg⟩:∃x,f.kind=x:=⟨_,rfl⟩;obtain⟨drive,hc⟩:∃x,f.drive=x:=⟨_,rfl⟩;obtain⟨block,ha⟩:∃x,f.block=x:=⟨_,rfl⟩;obtain⟨bit,Y⟩:∃x,f.bit=x:=⟨_,rfl⟩;obtain⟨V',hv⟩:∃x,f.at_=x:=⟨_,rfl⟩;have qv:=ak (λ(e:kind=0)=>qx.out f (by rw[<-kz];exact T7 ko) (hg.trans e));rw[hg]at f0;rw[hc]at f1 ed;rw[ha]at f2 eb;rw[Y]at f3 U';rw[hv]at f4;have HE:=ak (show IntKind.i64.wrap ((IntKind.u64.wrap drive).tmod (N:Int))=(d:Nat)from(hs _).trans ed);have xk:IntKind.i64.wrap ((IntKind.u64.wrap block).tmod (nb:Int))=(b:Nat):=(hs _).trans eb;have xo:IntKind.i64.wrap ((IntKind.u64.wrap bit).tmod 512)=(kb:Nat):=(hs _).trans U';obtain⟨ta,tc,xc⟩:=bu k9.mrk;subst xc;obtain⟨ml,o⟩:=nM (a.length);obtain⟨w1,kp⟩:=nM (wr.alloc (Z4 #[I O kind,I O drive,I O block,I O bit,I O V'] 89));have q9:ag w1 wr.heap.size 89 [I O kind,I O drive,I O block,I O bit,I O V']:=by rw[<-kp];exact UD wr _
  have ky:bW wr w1:=by rw[<-kp];exact bA wr _
  obtain⟨q,qa⟩:=nM (wr.heap.size);rw[qa]at q9;have hr:=k9.below ky;rw[o]at hr;have ki:Fq lk w0 w S A F B F' w1:=⟨hq.out.trans (aa.RK ky _),hq.rus,hq.SU⟩;rw[o]at ka⊢;have r:=a6 hr ki q9 o kp qa;have HL:=ak ka;have k5:∀w5 P K M5 qr,FW w0 w5 wb D L G nb p P K M5 qr->Fq lk w0 w1 S B F' P K w5->M5.length<=ml+1->FR lk w0 w wb D L G nb p S m fl.length A F qr (I O ((k:Int)+1)) w5:=λw5 P K M5 qr C E g3=>⟨k+1,P,K,M5,V,rfl,C,r.o.2.1.trans E,ia HL.o⟩;have HX:=ak k5;have qy:=ak (k5 w1 B F' a _ hr (Fq.refl _ _ _ _ _ _) V);clear k9 hq ka kg qj ed eb U' kz hg hc ha Y hv hs q9 ky hr ki o kp qa k5;by_cases x4:V'=at_;rotate_left
  . go_wp2;rw[r.o.2.2.2.2.1];go_roundw;case rel=>exact qy.out
    case measure=>simp only[intOf];omega
  subst x4;go_upto_region 6 with fail;clear f0 f1 f2 f3 f4;rw[r.o.2.2.2.2.1,r.o.2.2.2.2.2];have q1:=r.o.2.2.1.cell (j:=1) (u:=I O drive) rfl;obtain⟨s0,r0,xi,xh,O',kv⟩:=r.o.1.wb;obtain⟨c0,c1,c2,_⟩:=kv.cells;have HW:=ak kv;clear kv;go_cut[13]from 33 to 43(λxm wx=>xm=I O (d:Nat)/\bW w1 wx);case first=>go_region_with(go_at_call 10;refine(H.o.2.2.1 _).mono ?_;rintro e w2⟨rfl,hz⟩;have H2:=ak ((TW _ w1).drew.trans hz);have k6:ag w2 q 89 _:=r.o.2.2.1.keep (H2.o.block _ r.o.2.2.1.lt);have y1:=k6.cell (j:=1) (u:=I O drive) rfl;clear hz k6);all_goals(go_wp2_with fail;go_meet;case rel=>exact⟨by rw[HE.o],H2.o⟩)
  case rest=>
   obtain⟨rfl,hz⟩:=hcut;clear q1 c0 c1 c2 x3;have k6:ag wc q 89 _:=r.o.2.2.1.keep (hz.block _ r.o.2.2.1.lt);have y0:=k6.cell (j:=0) (u:=I O kind) rfl;have y2:=k6.cell (j:=2) (u:=I O block) rfl;have y3:=k6.cell (j:=3) (u:=I O bit) rfl;have h2:dG wc _ _ _ _ _ _ _ _ _ _ _:=ag.keep HW.o (hz.block _ (ag.lt HW.o));obtain⟨_,_,_,c3,_,_,c6,_⟩:=h2.cells;clear h2 k6;have H2:=ak hz;clear hz;go_upto_region 7 with fail;go_quiet(fail);have ke:bW w1 (wc.drewN nq):=H2.o.trans ⟨rfl,rfl,rfl,TV _,λ_ _=>rfl⟩;obtain⟨w3,kj⟩:=nM (wc.drewN nq);have d0:w3.cell? ⟨q,0,ZY⟩=U (I O kind):=(by rw[<-kj];exact y0);have d3:w3.cell? ⟨q,3,ZY⟩=U (I O bit):=(by rw[<-kj];exact y3);have e3:w3.cell? ⟨wb,3,ZY⟩=U (Z6 (U ⟨p,0,ZY⟩)):=(by rw[<-kj];exact c3);rw[kj]at ke⊢;have t:=r.o.1.below ke;have h7:ZS ZO 12 #[I Z8 (S:Nat),I O (d:Nat)] w3 λe w'=>e=Z3 (Z1 (S.testBit d))/\w'=w3:=(tR S d H.o.2.2.2.2 V w3).mono λe w' h=>⟨by rw[h.1,Wh];rcases Vv (S/2^d)with e|e<;>rw[e]<;>rfl,h.2⟩;have Z:∀P K w5,Fq lk w0 w3 S B F' P K w5->Fq lk w0 w1 S B F' P K w5:=λP K w5 g=>Fq.trans ⟨aa.RK ke _,qO.refl _ _ _,yw.refl _ _⟩ g;have qe:d<B.n:=(by rw[t.n,H.o.2.2.2.1];exact hd);have qd:b<B.nb:=(by rw[t.nb];exact hb);have c:=a5 ke t Z qe qd;have HS:=ak (HX.o w3 B F' a _ t (Z _ _ _ (Fq.refl _ _ _ _ _ _)) (ia r.o.2.2.2.1));clear kj y0 y2 y3 c3 c6 ke H2 xk q8 t Z qe qd;by_cases Y:S.testBit d=J;rotate_left
   . rw[W9.2 Y]at h7;go_wp2_with fail;refine h7.mono ?_;rintro e w4⟨rfl,kk⟩;obtain rfl:w3=w4:=kk.symm;clear kk h7;go_wp2;go_roundw;case rel=>exact HS.o
     case measure=>simp only[intOf];omega
   rw[Y]at h7;have km:=ak Y;clear Y;go_wp2_with fail;refine h7.mono ?_;rintro e w4⟨rfl,kk⟩;obtain rfl:w3=w4:=kk.symm;clear kk h7;by_cases k0:kind=0
   . have qs:=ak (qv.out k0);subst k0;have T:=Na c.o.2.1.ru d c.o.2.2.2.1;go_wp2_with fail;refine T.mono ?_;rintro e w5⟨rfl,v,y⟩;obtain⟨C,E⟩:=c.o.2.1.next y v (qO.Sm B km.out qs.out) (yw.refl _ _);have HF:=ak (HX.o w5 _ _ a _ C (c.o.2.2.1 _ _ _ E) (ia r.o.2.2.2.1));clear v y T C E;go_wp2;go_roundw;case rel=>exact HF.o
     case measure=>simp only[intOf];omega
   by_cases k1:kind=1
   . subst k1;have T:=JX c.o.2.1.ru d c.o.2.2.2.1;go_wp2_with fail;refine T.mono ?_;rintro e w5⟨rfl,y,K,v,qf⟩;obtain⟨C,E⟩:=c.o.2.1.next y v (qO.renew B km.out) qf;have HF:=ak (HX.o w5 _ _ a _ C (c.o.2.2.1 _ _ _ E) (ia r.o.2.2.2.1));clear v y T C E qf;go_wp2;go_roundw;case rel=>exact HF.o
     case measure=>simp only[intOf];omega
   by_cases k2:kind=2
   . subst k2;have T:=JW c.o.2.1.ru d b c.o.2.2.2.1 c.o.2.2.2.2;go_wp2_with fail;refine T.mono ?_;rintro e w5⟨rfl,v,y⟩;obtain⟨C,E⟩:=c.o.2.1.next y v (qO.SN B b km.out) (yw.refl _ _);have HF:=ak (HX.o w5 _ _ a _ C (c.o.2.2.1 _ _ _ E) (ia r.o.2.2.2.1));clear v y T C E;go_wp2;go_roundw;case rel=>exact HF.o
     case measure=>simp only[intOf];omega
   by_cases k3:kind=3;rotate_left
   . go_wp2;go_roundw;case rel=>exact HS.o
     case measure=>simp only[intOf];omega
   subst k3;go_wp2_with fail;go_loopw[16,17](λdn i wx=>∃j:Nat,j<=ml/\i=I O (j:Nat)/\dn=Z1 (decide ((d,b)∈a.take j))/\wx=w3)(λ_ i _=>ml-(intOf i).toNat);case atStart=>exact⟨0,T8 _,rfl,ej,rfl⟩
   case round=>
    rename ZU=>wx;obtain⟨j,hj,rfl,rfl,rfl⟩:=hrel;by_cases x7:j<ml
    . have qk:j<a.length:=(by rw[r.o.2.2.2.1];exact x7);have qg:Mk w0 wx (.slice ta ml tc) a:=c.o.2.1.mrk;obtain⟨g,rfl,C,E⟩:=qg.at qk;have J':=yH qk (d,b);obtain⟨x1,qb⟩:=nM (a[j].1);obtain⟨x2,qc⟩:=nM (a[j].2);have qh:a[j]=(x1,x2):=(by rw[<-qb,<-qc]);rw[qh]at J';simp only[Xo]at J';rw[qb]at C;rw[qc]at E;have xf:IntKind.i64.wrap ((j:Int)+1)=(j:Int)+1:=(by rw[Ux];have:=HL.o;omega);have xe:(j:Int)<(ml:Int):=V;clear qg qb qc qh;by_cases z:(d,b)∈a.take j
      . rw[U4 z];have l:=ak (J'.2 (.inl z));clear J' z;go_wp2;go_roundw;case rel=>exact⟨j+1,V,eT,by rw[U4 l.o],by first|rfl|exact trivial⟩
        case measure=>simp only[intOf];omega
      . rw[Vk z];by_cases q1:x1=d
        . subst q1;by_cases q2:x2=b
          . subst q2;have l:=ak (J'.2 (.inr ⟨rfl,rfl⟩));clear J' z;go_wp2;go_roundw;case rel=>exact⟨j+1,V,eT,by rw[U4 l.o],by first|rfl|exact trivial⟩
            case measure=>simp only[intOf];omega
          . have l:=ak (λe=>(J'.1 e).elim z λe=>q2 e.2);have xx:¬(x2:Int)=(b:Int):=V;clear J' z;go_wp2;go_roundw;case rel=>exact⟨j+1,V,eT,by first|(rw[Vk l.o];done)|(rw[Vk l.o];simp_all),by first|rfl|exact trivial⟩
            case measure=>simp only[intOf];omega
        . have l:=ak (λe=>(J'.1 e).elim z λe=>q1 e.1);have xv:¬(x1:Int)=(d:Int):=V;clear J' z;go_wp2;go_roundw;case rel=>exact⟨j+1,V,eT,by first|(rw[Vk l.o];done)|(rw[Vk l.o];simp_all),by first|rfl|exact trivial⟩
          case measure=>simp only[intOf];omega
    . have x9:j=ml:=V;subst x9;have xa:a.take j=a:=UM (by rw[r.o.2.2.2.1];exact TV _);rw[xa];by_cases z:(d,b)∈a
      . rw[U4 z];go_wp2;go_roundw;case rel=>exact HS.o
        case measure=>simp only[intOf];omega
      . rw[Vk z];have qq:=Nb c.o.2.1.ru d b kb c.o.2.2.2.1 c.o.2.2.2.2 x8 z;obtain⟨im,x6,q3,q4,q5⟩:=Uw Tryz.TE;have HT:=ak qq;clear qq;go_wp2_with fail;refine HT.o.mono ?_;rintro e w5⟨rfl,v,y⟩;obtain⟨_,t,Z,_,_⟩:=c.o;have o:=r.o.2.2.2.1;have k8:Mk w0 w5 (.slice ta j tc) a:=t.mrk.arr t.ru.1 y;have qi:ag (w5.alloc (Z4 #[I O (d:Nat),I O (b:Nat)] 93)) w5.heap.size 93 [I O (d:Nat),I O (b:Nat)]:=UD w5 _;have kf:bW w5 (w5.alloc (Z4 #[I O (d:Nat),I O (b:Nat)] 93)):=bA w5 _;have k7:Src ZO 2 43 (Z5 (U ⟨w5.heap.size,0,ZY⟩) 1 1) 1 [I O (d:Nat),I O (b:Nat)] (w5.alloc (Z4 #[I O (d:Nat),I O (b:Nat)] 93)):=Vm _ underlying43 ⟨w5.heap.size,0,ZY⟩ 1 1 [I O (d:Nat),I O (b:Nat)] rfl (λj u hj=>by rw[Vp,Uj];exact qi.cell hj) (λu hu=>by simp only[Uu,Xh,or_false]at hu;rcases hu with rfl|rfl<;>rfl);have ks:=k8.below kf;have kr:w0.heap.size<=w5.heap.size:=TU t.sz y.size;have l:=hide8 k8 v k7 ks kf o y kr;have xd:j<=1000000:=(ia HL.o);clear t Z o k8 v y qi k7 ks kf kr;go_wp2_with(at_builtin;refine af _ rfl (.tmp 128) (.tmp 132) 43 43 rfl w0.heap.size 93 im _ 2 16 underlying43 x6 q3 q4 q5 rfl (.slice ta j tc) j (O2 a) um (by have h9:=l.o.2.2.2.1;unfold Mk at h9;rw[l.o.2.2.2.2.2.1]at h9;exact h9) _ um 1 [I O (d:Nat),I O (b:Nat)] (by exact l.o.2.2.1) eD V (by have h9:=l.o.2.2.2.2.2.2.2;simp;omega) ?_;intro v7 w7 kh R kx;obtain⟨va,vc,rfl⟩:=bu kh;have H7:=al kh R;clear kh R kx);go_roundw;case measure=>simp only[intOf];omega
        case rel=>obtain⟨k8,v,k7,ks,kf,o,W,kr⟩:=l.o;obtain⟨_,t,Z,_,_⟩:=c.o;obtain⟨kh,R⟩:=H7.o;have qp:w5.heap.size<=w7.heap.size:=(by have:=R.size;simp at this;omega);have qm:∀i,i<w5.heap.size->(Value.slice ta j tc).ownBlock≠U i->w7.heap[i]?=w5.heap[i]?:=λi Q hn=>(R.block i ek (λe=>hn e.symm)).trans (kf.block i Q);have kc:aa (λk=>F'.S k\/mkK w0 wx k) wx w7:=⟨R.os.trans W.os,R.tape.trans W.tape,R.output.trans W.output,TU W.size qp,λi Q hn=>(qm i (TY Q W.size) λe=>hn (k8.mkK (W.mono λ_ _=>.inl) e Q)).trans (W.block i Q λq=>hn (.inl q))⟩;obtain⟨s0,r0,xi,xh,O',x0⟩:=t.wb;have e:O2 (a++[(d,b)])=O2 a++[I O (d:Nat),I O (b:Nat)]:=(by unfold O2;rw[WD];rfl);exact HX.o w7 (B.turn d b) F' (a++[(d,b)]) _ ⟨⟨_,_,_,_,_,Cd x0 t.ru.1 kc⟩,v.keep λi Q=>qm i (v.1.RL Q) λe=>k8.apart v.1 e Q,by unfold Mk;rw[e,Ua,o];exact kh,t.n,t.nb,TU kr qp⟩ (Z _ _ _ ⟨kc,qO.turn B b km.out,yw.refl _ _⟩) (by rw[Ua,o];exact TV _)
end
end
section
def QQ(l:List mi)(k:Nat)(a:k<l.length):l[k].d.length<=gP l:=by have:=tf l k a;have:=ER l (k+1);omega
def QR(A:an):Prop:=A.sv=0/\∀i b,A.tn i b=ZV
def CuS(S:Nat)(A:an):Prop:=A.sv=S
def QR.alk{B:an}(h:QR A)(k:eI A B):QR B:=⟨k.sv.trans h.1,λi b=>by rw[k.tn];exact h.2 i b⟩
section
variable {KW w w0 wr:ZU}{C:an->Prop}{wb D L G nb T S:Nat}
def MS.ctg(h:MS KW C w0 w wb D L G nb T){k:Nat}{cs:List ZT}(a:ag KW k 47 cs):ag w k 47 cs:=by obtain⟨t,xs,Q,p,r,sa,ar,v,Kind,ps,pg,ob,P,A,F,out,want,cache,_,b,_⟩:=h;exact(b.mks k _ _ (.inr rfl) a).trans a
def MS.below(h:MS KW C w0 w wb D L G nb T)(a:bW w w'):MS KW C w0 w' wb D L G nb T:=by obtain⟨t,xs,Q,p,r,sa,ar,v,Kind,ps,pg,ob,P,A,F,out,want,cache,c,b,d⟩:=h;exact⟨t,xs,Q,p,r,sa,ar,v,Kind,ps,pg,ob,P,A,F,out,want,cache,c.below a,b.keep (eK.below a _) lR,d⟩
def QS(u:∀A B,eI A B->C A->C B)(h:MS KW C w0 w wb D L G nb T)(o:mi)(dv:ZT)(hd:Bs w0 dv o.d)(z:o.d.length<=100000)(hT:T<1000000)(x:D<=6)(n:8<=nb)(H:o.kind<=5):ZS ZO 9 #[Z6 (U ⟨wb,0,ZY⟩),.agg #[I O o.kind,I O o.a,Z0 o.s,dv]] w λe w'=>e=Z3 (Z1 J)/\MS KW C w0 w' wb D L G nb (T+1):=by
 obtain⟨t,xs,Q,p,r,sa,ar,v,Kind,ps,pg,ob,P,A,F,out,want,cache,b,c,K,j⟩:=h;have f:∃i m dc,dv=.slice i m dc:=by obtain⟨i,dc,e,_⟩:=hd;exact⟨i,_,dc,e⟩
 have g:∀(e:ZR)(w':ZU),e=Z3 (Z1 J)/\MS KW (eI A) w0 w' wb D L G nb (t+1)->e=Z3 (Z1 J)/\MS KW C w0 w' wb D L G nb (T+1):=λe w' q=>⟨q.1,q.2.mono V λB k=>u A B k j⟩;by_cases E:o.kind<1\/6<o.kind;.exact(K3 b c o dv f E (eI.refl A)).mono g
 by_cases k1:o.kind=1;.exact(OE b c o dv hd z V x k1).mono g
 by_cases k2:o.kind=2;.refine(EV b c o dv f k2).mono ?_;rintro e w'⟨rfl,_,_,_,_,_,_,l,y⟩;exact⟨rfl,_,_,_,_,_,_,_,_,_,_,_,_,_,_,_,_,_,_,l,y,V,j⟩
 by_cases k3:o.kind=3;.exact(OF b c o dv f V k3).mono g
 by_cases k4:o.kind=4;.exact(KY b c o dv f k4 (eI.refl A)).mono g
 .exact(KZ b c (by rw[b.nb];exact n) o dv f V).mono g
def K5(h:MS KW QR w0 w wb D L G nb T)(J':dZ D L G S)(O':S<18446744073709551616){fl:List OU}{fv:ZT}(W:Fts w0 fv fl)(hl:fl.length<=200)(z:0<nb)(C:nb<=1000):ZS ZO 13 #[Z6 (U ⟨wb,0,ZY⟩),I Z8 (S:Nat),fv,I O 0,Z5 ZY 0 0] w λe w'=>∃d,e=Z3 d/\MS w' (CuS S) w0 w' wb D L G nb T:=by
 obtain⟨t,xs,Q,p,r,sa,ar,v,Kind,ps,pg,ob,P,A,F,out,want,cache,a,M,Z,u⟩:=h;have x:∀i,A.sv.testBit i=J->∀{q:Prop},q:=λi e=>by rw[u.1,Wr]at e;cases e
 have V':∀i,i<A.n->A.lost i=J->∀{q:Prop},q:=λi j e=>x i (a.live.fine.2 i j e);have o:MB w0 w wb D L G nb t xs p r sa ar v Kind ps pg ob P (A.RQ S) F out want cache:={a with live:=a.live.RQ J' (λi j e=>V' i j e) λ_ _ i j _ e=>x i e,nb:=a.nb};have I':FW w0 w wb D L G nb p (A.RQ S) F [] (Z5 ZY 0 0):=⟨⟨_,_,_,_,_,a.wbA⟩,⟨o.live.vol.arr,λi b e=>by have l:A.tn i b=J:=e;rw[u.2]at l;cases l⟩,UQ _ _ _ _,a.live.vol.n,a.nb,a.base.size⟩;refine(K4 (lk:=True) (m:=0) (fl:=fl) I' a.live.vol.par z C O' (λwx N=>?_) (T8 _) V 0 λ_ _ _=>trivial).mono ?_;.obtain⟨ao,c,e,U'⟩:=W;have g:bW w0 wx:=a.base.trans (N.below λk Y=>⟨TY Y a.base.size,λq=>q.elim (λq=>ia (a.fB k q)) λq=>ia q.1⟩);refine⟨ao,c,e,λX=>?_⟩;obtain⟨b,off,y,f,R⟩:=U' X;refine⟨b,off,y,TY f g.size,λi j=>?_⟩;obtain⟨r0,r1,r2,r3,r4⟩:=R i j;exact⟨(g.cell f).trans r0,(g.cell f).trans r1,(g.cell f).trans r2,(g.cell f).trans r3,(g.cell f).trans r4⟩
 .rintro e w'⟨d,B,F',M',rfl,K,s,_⟩;obtain⟨E,H⟩:=o.fault M K.ru.1 s rfl;exact⟨d,rfl,_,_,_,_,_,_,_,_,_,_,_,_,_,_,_,_,_,_,E,H,Z,s.rus.sv⟩
def abF(h:MS KW (CuS S) w0 w wb D L G nb T)(o:mi)(hT:∀d,d<D+L+G->dZ D L G (S|||2^d))(hd:Bs w0 dv o.d)(g:o.d.length<=1500)(l:T<1000000)(c:8<=nb)(f:Ag w0 av n)(k:n<=1000):ZS ZO 14 #[Z6 (U ⟨wb,0,ZY⟩),.agg #[I O o.kind,I O o.a,Z0 o.s,dv,I O aft,av]] w λe w'=>e=Z3 (Z1 J)/\MS KW (E6 S) w0 w' wb D L G nb (T+1):=by obtain⟨t,xs,Q,p,r,sa,ar,v,Kind,ps,pg,ob,P,A,F,out,want,cache,b,j,m,i⟩:=h;exact(ON b j o i (λd hd=>hT d (b.live.vol.n▸hd)) hd g V c f k).mono λ_ _ q=>⟨q.1,q.2.mono V λ_ z=>z⟩
def OX(h:MS KW (E6 S) w0 w wb D L G nb T)(c:dZ D L G S)(o:8<=nb):∃p sa:Nat,∃r out want cache,dG w wb D L G (Z6 (U ⟨p,0,ZY⟩)) (Z6 (U ⟨sa,0,ZY⟩)) r nb out want cache/\ZS ZO 16 #[Z6 (U ⟨sa,0,ZY⟩)] w λe w'=>e=Z3 .nilIface/\MS KW (CuS S) w0 w' wb D L G nb T:=by
 obtain⟨t,xs,Q,p,r,sa,ar,v,Kind,ps,pg,ob,P,A,F,out,want,cache,a,i,k,g⟩:=h;refine⟨p,sa,_,out,want,cache,a.wbA,(OK (S:=S) a.live a.shv (ia a.nb) c g.2 (λe=>a.on e) a.box).mono ?_⟩;rintro e w'(⟨n,rfl,rfl,⟨m,l,P',ps',B,hl,⟨k1,k2⟩,b⟩,j⟩|q);.obtain⟨f,d⟩:=a.TR j hl b.2.nb k1 k2;exact⟨rfl,_,_,_,_,_,_,_,_,_,_,_,_,_,_,_,_,_,_,f,i.keep d lR,k,b.1⟩
 .exact(q.no a.pwr).elim
end
end
def acF(w5:ZU)(N:Nat)(sv iv:ZT)(wr:ZU):Prop:=∃S k:Nat,sv=I Z8 (S:Nat)/\S<18446744073709551616/\k<=N/\iv=I O (k:Nat)/\bW w5 wr
def QT(D L G:Nat)(w:ZU)(e:ZR)(w':ZU):Prop:=∃S:Nat,e=Z3 (I Z8 (S:Nat))/\S<18446744073709551616/\dZ D L G S/\bW w w'
theorem Ha(a:xX D L G)(f:Nat)(R:f<18446744073709551616)(w:ZU):ZS ZO 6 #[.agg #[I O (D:Nat),I O (L:Nat),I O (G:Nat)],I Z8 (f:Nat)] w (QT D L G w):=by
 have H:bW w (w.alloc (Z4 #[I O (D:Nat),I O (L:Nat),I O (G:Nat)] 28)):=bA w _;have b:ag (w.alloc (Z4 #[I O (D:Nat),I O (L:Nat),I O (G:Nat)] 28)) w.heap.size 28 [I O (D:Nat),I O (L:Nat),I O (G:Nat)]:=UD w _;obtain⟨w1,k5⟩:=nM (w.alloc (Z4 #[I O (D:Nat),I O (L:Nat),I O (G:Nat)] 28));rw[k5]at H b;obtain⟨q,hq⟩:=nM (w.heap.size);have K:=ak H;rw[hq]at b;have p0:=b.cell (j:=0) (u:=I O (D:Nat)) rfl;have p1:=b.cell (j:=1) (u:=I O (L:Nat)) rfl;have p2:=b.cell (j:=2) (u:=I O (G:Nat)) rfl;have k0:=uF (D:Int) (L:Int) (G:Int) w1;have M:=ak b;clear b H;go_enter func6,ntmps6;go_wp2_with fail;clear p0 p1 p2;refine k0.mono ?_;rintro e w2⟨rfl,p⟩;clear k0 k5;have o:=M.o.keep (p.block _ M.o.lt);have t:bW w2 (w2.alloc (Z4 #[I O (D:Int),I O (L:Int),I O (G:Int)] 31)):=bA w2 _;have x:ag (w2.alloc (Z4 #[I O (D:Int),I O (L:Int),I O (G:Int)] 31)) w2.heap.size 31 [I O (D:Int),I O (L:Int),I O (G:Int)]:=UD w2 _;obtain⟨w3,k6⟩:=nM (w2.alloc (Z4 #[I O (D:Int),I O (L:Int),I O (G:Int)] 31));rw[k6]at t x;obtain⟨q2,ke⟩:=nM (w2.heap.size);rw[ke]at x;have v:=o.keep (t.block _ o.lt);have c0:=v.cell (j:=0) (u:=I O (D:Nat)) rfl;have c1:=v.cell (j:=1) (u:=I O (L:Nat)) rfl;have c2:=v.cell (j:=2) (u:=I O (G:Nat)) rfl;have Q:=ak (K.o.trans ((p.trans (t.mono p.size)).mono K.o.size));have C:=ak x;obtain⟨N,hN⟩:=nM (D+L+G);have O':N<=16:=ia a.s;have hz:ZS ZO 10 #[.agg #[I O (D:Nat),I O (L:Nat),I O (G:Nat)]] w3 λe w'=>e=Z3 (I O (N:Nat))/\bW w3 w':=by rw[<-hN,(V:((D+L+G:Nat):Int)=(D:Int)+L+G)];have:=a.d;have:=a.l4;have:=a.g;exact cU (D:Int) (L:Int) (G:Int) w3 ⟨V,V⟩ ⟨V,V⟩ ⟨V,V⟩
 clear o v p t x;go_wp2_with fail;clear k6 c0 c1 c2;refine hz.mono ?_;rintro e w4⟨rfl,V'⟩;have l:=ak V';clear hz V';have hy:2^N<=2^16:=UY ec O';obtain⟨X,F⟩:=nM (2^N);rw[F]at hy;have k7:(2:Int)^N=(X:Nat):=by rw[<-F,WW];rfl
 have ka:0<X:=by rw[<-F];exact VL N
 have k8:IntKind.u64.wrap ((X:Int)-1)=((X-1:Nat):Int):=K1;have k9:IntKind.u64.wrap (X:Int)=(X:Int):=K1;have U':=fY f (X-1) R V;have E:f&&&(X-1)<18446744073709551616:=WV WC R;obtain⟨S1,T⟩:=nM (f&&&(X-1));rw[T]at U' E;clear T;go_wp2_with fail;go_loopw[1,7](λsv J' wr=>acF w4 N sv J' wr)(λ_ J' _=>N-(intOf J').toNat);case atStart=>exact⟨S1,0,rfl,E,T8 _,rfl,TW _ _⟩
 case round=>
  clear U' k7 k8 k9 hy ka E;obtain⟨S,k,rfl,A,hk,rfl,h⟩:=hrel;have m:bW w wr:=Q.out.trans ((l.out.trans (h.mono l.out.size)).mono Q.out.size);by_cases kc:k<N
  . have y:=C.o.keep ((h.block _ (TY C.o.lt l.out.size)).trans (l.out.block _ C.o.lt));have t0:=y.cell (j:=0) (u:=I O (D:Int)) rfl;have t1:=y.cell (j:=1) (u:=I O (L:Int)) rfl;have t2:=y.cell (j:=2) (u:=I O (G:Int)) rfl;have hs:=kI D L G S a.r a.d a.l1 a.l4 a.g a.div A wr;have c:=al h m;have he:(k:Int)<(N:Int):=V;clear h m y;go_wp2_with fail;clear t0 t1 t2;refine hs.mono ?_;rintro e w5⟨bb,rfl,Z,W⟩;have B:=al Z W;clear Z W hs;cases bb
    . have kb:2^k<65536:=TY (VC ec kc) (UY (n:=2) (i:=N) (j:=16) ec O');obtain⟨Y,P⟩:=nM (2^k);rw[P]at kb;have kf:(2:Int)^k=(Y:Nat):=(by rw[<-P,WW];rfl);have kg:IntKind.u64.wrap (Y:Int)=(Y:Int):=K1;have hv:=X2 S Y A V;have hx:Aa S Y<18446744073709551616:=WV (WC:Aa S Y<=S) A;have hc:bits .andNot .u64 (S:Int) (Y:Int)=((Aa S Y:Nat):Int):=hv;clear hv;generalize Aa S Y=z at hc hx;go_wp2;go_roundw;case rel=>exact⟨z,k+1,rfl,hx,V,eT,c.o.1.trans (B.o.2.mono c.o.1.size)⟩
      case measure=>simp[intOf];omega
    .go_wp2;go_ret;exact⟨S,rfl,A,B.o.1.1 (by trivial),c.o.2.trans (B.o.2.mono c.o.2.size)⟩
  .have he:¬(k:Int)<(N:Int):=V;have c:=ak m;clear h m;go_wp2;go_ret;exact⟨0,rfl,ec,sq a.d a.g λi _=>by rw[Nat.zero_div],c.o⟩
theorem K6(b:xX D L G)(k8:8<=nb)(hh:nb<=1000)(c:Int)(Z:bK w)(hv:cJ w)(O':aI w)(hK:3<=w.heap.size):ZS ZO 8 #[.agg #[I O (D:Nat),I O (L:Nat),I O (G:Nat)],I O (nb:Nat),I O c] w λe w'=>∃wb,e=Z3 (ZZ #[Z6 (U ⟨wb,0,ZY⟩),Z1 J])/\MS w (eI (rQ (D+L+G) nb 0)) w w' wb D L G nb 1:=by
 obtain⟨r,k9,v⟩:=gw c 65 ec ec;have o:wrap64 ((IntKind.u64.wrap c).tmod 65)=(r:Int):=ua v;clear v;obtain⟨w1,H⟩:=nM (w.alloc (Z4 #[I O (D:Nat),I O (L:Nat),I O (G:Nat)] 28));have x:ag w1 w.heap.size 28 [I O (D:Nat),I O (L:Nat),I O (G:Nat)]:=by rw[<-H];exact UD w _
 have x0:=x.cell (j:=0) (u:=I O (D:Nat)) rfl;have x1:=x.cell (j:=1) (u:=I O (L:Nat)) rfl;have x2:=x.cell (j:=2) (u:=I O (G:Nat)) rfl;have P:bW w w1:=by rw[<-H];exact bA w _
 have U':=se (D:Int) (L:Int) (G:Int) w1 ⟨V,ia b.d⟩ ⟨V,ia b.l4⟩ ⟨V,ia b.g⟩;have t:=al x P;clear x P;go_enter func8,ntmps8;go_wp2_with fail;refine U'.mono ?_;rintro e w2⟨rfl,V'⟩;have B:bW w1 w2:=by rw[V'];exact bA w1 _
 clear V' H x0 x1 x2 U';have E:=Bv (D+L+G) nb 0 w2 (ia b.d1) (ia b.s) V;rw[(V:((D+L+G:Nat):Int)=(D:Int)+(L:Int)+(G:Int))]at E;go_wp2_with fail;refine E.mono ?_;rintro e w3⟨rfl,n,F,S,m,a⟩;have M:=ak S;clear S;have f:bW w w2:=t.o.2.trans (B.mono t.o.2.size);have h:bW w w3:=f.trans (n.mono f.size);have A:ag w3 w.heap.size 28 _:=t.o.1.keep ((n.block _ (TY t.o.1.lt B.size)).trans (B.block _ t.o.1.lt));have y0:=A.cell (j:=0) (u:=I O (D:Nat)) rfl;have y1:=A.cell (j:=1) (u:=I O (L:Nat)) rfl;have y2:=A.cell (j:=2) (u:=I O (G:Nat)) rfl;obtain⟨p,z⟩:=nM (w2.heap.size);rw[z]at m a⊢;have W:=a6 m a h n z f;clear m a h n z f A E B;dsimp only;go_wp2_with fail;obtain⟨w5,y⟩:=nM ((w3.alloc (Z4 #[Z5 ZY 0 0] 65)).alloc (Z4 #[I O (D:Nat),I O (L:Nat),I O (G:Nat),Z6 (U ⟨p,0,ZY⟩),.pointer ZY,Z6 (U ⟨w3.heap.size,0,ZY⟩),I O (nb:Nat),Z5 ZY 0 0,Z5 ZY 0 0,I O (r:Nat)] 56));have T:w5.heap[w3.heap.size]?=U (Z4 #[Z5 ZY 0 0] 65 (0,0)):=by rw[<-y];exact(UE _ _ _ ej).trans (UD w3 _)
 have hq:dG w5 (w3.heap.size+1) D L G (Z6 (U ⟨p,0,ZY⟩)) (.pointer ZY) (Z6 (U ⟨w3.heap.size,0,ZY⟩)) nb (Z5 ZY 0 0) (Z5 ZY 0 0) (r:Int):=by rw[<-y];have:=UD (w3.alloc (Z4 #[Z5 ZY 0 0] 65)) (Z4 #[I O (D:Nat),I O (L:Nat),I O (G:Nat),Z6 (U ⟨p,0,ZY⟩),.pointer ZY,Z6 (U ⟨w3.heap.size,0,ZY⟩),I O (nb:Nat),Z5 ZY 0 0,Z5 ZY 0 0,I O (r:Nat)] 56);rw[Um]at this;exact this
 have C:bW w3 w5:=by rw[<-y];exact(bA w3 _).alloc ej _
 obtain⟨m,a,h,n,z,f⟩:=W.o;have l:bW w w5:=h.trans (C.mono h.size);have Y:bW w5 w5.drew:=(TW _ w5).drew;have hj:=f.size;have hm:=h.size;have J':ay w5 p (rQ (D+L+G) nb 0) F:=m.below C lR;have N:AB w w5 (w3.heap.size+1) D L G nb 1 p w3.heap.size (.pointer ZY) [] (rQ (D+L+G) nb 0) F (Z5 ZY 0 0) (Z5 ZY 0 0) (r:Int) (r:Int):=⟨hq,⟨_,rfl⟩,⟨J',rfl,b,V,V,k8,hh,hv.below l hv.lt,O'.keep (l.block _ O'.lt),TU hK l.size,λq=>ia (a _ q),λq=>ia (a _ q),.inl ⟨rfl,rfl,M.out,λi _=>⟨rfl,λq=>adY⟩⟩,sq b.d b.g λi _=>by simp[rQ],λi _ q=>adY⟩,rfl,l,Z,hK,V,λk hk=>ia (a k hk),M.out⟩;have Q:Dc w w5 w3.heap.size [] [] (Z5 ZY 0 0) (Z5 ZY 0 0):=⟨⟨w3.heap.size+1,Z5 ZY 0 0,T,UQ _ _ _ _⟩,trivial,⟨⟨_,_,_,rfl,ec⟩,⟨_,_,_,rfl,ec⟩⟩,λk _ _ _ q=>l.block k (TX.1 q).1⟩;have R:=EZ N Q;clear T hq C m a h n z f l Y hj hm J' N Q;rw[y];refine R.mono ?_;rintro e w6⟨rfl,K⟩;have X:=ak K;clear K R y;dsimp only;go_wp2;go_ret2;exact⟨_,rfl,X.o⟩
section
open Go.ChangeShapes Go.WideShapes Go.Joins
structure Rq where
 o:mi
 aft:Int
def Rq.at(w:ZU)(t:Rq)(cs:List ZT):Prop:=∃dv ao n c,cs=[I O t.o.kind,I O t.o.a,Z0 t.o.s,dv,I O t.aft,.slice ao n c]/\Bs w dv t.o.d/\n<=c/\Ag w (.slice ao n c) n
def Cts(w:ZU)(v:ZT)(l:List Rq):Prop:=∃ao c,v=.slice ao l.length c/\(l≠[]->∃b off,ao=U ⟨b,off,ZY⟩/\b<w.heap.size/\∀i(hi:i<l.length),∃cs,l[i].at w cs/\∀j,j<6->w.cell? ⟨b,off+i*6+j,ZY⟩=cs[j]?)
def Tryz.SQ:ZO.cellsOf 47=6:=ee
def Tryz.Tc:ZO.cellsOf 45=1:=ee
instance:Inhabited Rq:=⟨⟨default,0⟩⟩
def abG{l:List α}(h:l.length=6):∃a b c d e f,l=[a,b,c,d,e,f]:=by match l,h with|[a,b,c,d,e,f],_=>exact⟨a,b,c,d,e,f,rfl⟩
def K7{enc:ZQ×ZT->H}{v:ZT}{x:DataW H×List MemPlace}(h:DataW.trod enc ZO W 0 (λ_=>J) J n 45 [v]=U x):∃ao m c,v=.slice ao m c/\m<=c/\Ag W v m:=by
 rcases open_ints Yh Wp Tryz.R7 h with⟨d,_⟩|⟨a,len,cap,s,d,_,hl,p,l,r,e,q⟩;.simp at d;exact⟨ZY,0,0,d,TV _,ZY,0,d,λk g=>absurd g (WK k)⟩
 .simp at d;simp only[if_true]at l;refine⟨U a,len,cap,d,hl,U a,cap,d,λk g=>?_⟩;obtain⟨b,o,sp⟩:=a;have i:=e 0 V;have j:sp=ZY:=(by simpa[Addr.add]using Yp i);subst j;have f:=e k V;rw[VR]at f;exact⟨b,o,_,rfl,f⟩
def E1{enc:ZQ×ZT->H}{cs:List ZT}{x:DataW H×List MemPlace}(h:DataW.trod enc ZO W 0 (λ_=>J) J n 47 cs=U x)(p:∀k∈x.1.weights ZO 47,k<=reachBytes):∃o:Rq×List ZT,cs=o.2/\o.1.at W cs:=by obtain⟨q,u,w,m,rfl,hl,j,r,l⟩:=trod_struct3 underlying47 h;rw[Tryz.SQ]at hl;obtain⟨a,b,c,d,e,f,rfl⟩:=abG hl;rw[show ZO.cellsOf 38=4 from Tryz.SE]at j;obtain⟨y,g,_,w1⟩:=Xa Wp r;rw[show ZO.cellsOf 3=1 from Tryz.R7]at g;rw[show ZO.cellsOf 45=1 from Tryz.Tc]at l;simp at g;subst g;simp only[DataW.weights,underlying47]at p;obtain⟨⟨o,dv⟩,ho,t,_⟩:=xG (cs:=[a,b,c,d]) (x:=q) (ua j) (λk i=>p k (by show k∈q.1.weights ZO 38++(u.1.weights ZO _++(w.1.weights ZO _++[]));simp only[Ui];exact .inl i));obtain⟨ao,k,z,rfl,i,s⟩:=K7 (v:=f) (ua l);simp only[List.cons.injEq,and_true]at ho;obtain⟨rfl,rfl,rfl,rfl⟩:=ho;exact⟨(⟨o,y⟩,_),rfl,_,_,_,_,rfl,t,i,s⟩
def Ce{enc:ZQ×ZT->H}{d:DataW H}{ps:List MemPlace}(h:DataW.Trod enc ZO W 0 (λ_=>J) J 23 (.slice ao len0 cap0) d ps)(x:∀n∈d.weights ZO 23,n<=reachBytes):∃l:List Rq,Cts W (.slice ao len0 cap0) l:=by
 obtain⟨fuel,q⟩:=h;rcases open_slice underlying23 q with⟨c,_⟩|⟨a,len,cap,m,O',D,M,c,_,hl,N,v,y,u⟩;.simp[Value.cells]at c;obtain⟨rfl,rfl,rfl⟩:=c;exact⟨[],ZY,0,rfl,λh=>absurd rfl h⟩
 . simp[Value.cells]at c;obtain⟨rfl,rfl,rfl⟩:=c;simp only[Xo]at y;obtain⟨rfl,_⟩:=y;simp only[DataW.weights,underlying23]at x;simp only[if_true]at v;have B:=v.symm;subst B;rw[Tryz.SQ]at u;obtain⟨f,q⟩:=choose_lt (α:=Rq×List ZT) (n:=len0) (p:=λi s=>s.1.at W s.2/\∀j,j<6->W.cell? ((a.add (i*6)).add j)=s.2[j]?) (λi t=>by obtain⟨cs',z,A⟩:=u i V;obtain⟨s,w,Z⟩:=E1 A (λk K=>x k (Uo _ (UB _ (iC (d:=D i) (T9.2 ⟨i,Ul.2 t,rfl⟩) k K))));obtain⟨_,_,r⟩:=adB z;exact⟨s,w▸Z,w▸r⟩);obtain⟨b,o,sp⟩:=a;refine⟨(YE len0).map λi=>(f i).1,U ⟨b,o,sp⟩,cap0,ej,λG=>?_⟩;have C:0<len0:=by
    rcases WG len0 with e|e;.subst e;exact absurd rfl G
    .exact e
   obtain⟨⟨_,_,_,_,c,_⟩,g⟩:=q 0 C;have g:=g 0 ec;rw[c]at g;have L:sp=ZY:=by have:W.cell? (((⟨b,o,sp⟩:Addr).add (0*6)).add 0)=U (I O (f 0).1.o.kind):=g;simpa[Addr.add]using Yp this
   subst L;rw[VR,VR]at g;refine⟨b,o,rfl,Ue (show W.cell? _=U _ from g),λi t=>?_⟩;have F:i<len0:=(ua t);obtain⟨E,r⟩:=q i F;simp only[UR,YG];refine⟨(f i).2,E,λj J'=>?_⟩;have:=r j J';rwa[VR,VR]at this
end
def Hb(w:ZU)(e:ZR)(w':ZU):Prop:=e=Z3 (Z1 J)/\bW w w'
def CL1(w0:ZU)(wb D L G n:Nat)(ok i:ZT)(wr:ZU):Prop:=∃k:Nat,k<=n/\i=I O (k:Nat)/\ok=Z1 J/\MS w0 QR w0 wr wb D L G 300 (1+k)
def CL2(w0:ZU)(wb D L G N T:Nat)(sv i:ZT)(wr:ZU):Prop:=∃S d:Nat,sv=I Z8 (S:Nat)/\S<18446744073709551616/\d<=N/\i=I O (d:Nat)/\dZ D L G S/\(∀j,j<d->dZ D L G (S|||2^j))/\MS w0 QR w0 wr wb D L G 300 T
def CL3(w0:ZU)(wb D L G S N T:Nat)(left i:ZT)(wr:ZU):Prop:=∃d:Nat,d<=N/\i=I O (d:Nat)/\left=I O ((G:Int)-1-(cnt S d:Nat))/\MS w0 QR w0 wr wb D L G 300 T
def CL4(w0:ZU)(wb D L G S n T:Nat)(ok i:ZT)(wr:ZU):Prop:=∃k:Nat,k<=n/\i=I O (k:Nat)/\ok=Z1 J/\MS wr (CuS S) w0 wr wb D L G 300 (T+k)
def CX(w0 wr:ZU)(xb:Nat)(o:mi)(dv:ZT)(aft:Int)(wx:ZU):Prop:=∃(ao:Option Addr)(n c:Nat),nR wx xb o dv aft (.slice ao n c)/\Ag w0 (.slice ao n c) n/\n<=100/\bW wr wx
def Ag.mono{v:ZT}(h:Ag w v n)(f:bW w w'):Ag w' v n:=by obtain⟨ao,c,e,h⟩:=h;refine⟨ao,c,e,λk g=>?_⟩;obtain⟨b,off,x,d,a⟩:=h k g;exact⟨b,off,x,d,(f.cell (p:=⟨b,off+k,ZY⟩) (Ue a)).trans a⟩
def Ag.less(h:Ag w (.slice ao n c) n)(f:m<=n)(a:Nat):Ag w (.slice ao m a) m:=by obtain⟨b,c1,e,h⟩:=h;cases e;exact⟨ao,a,rfl,λk d=>h k V⟩
def Fts.below{v:ZT}{l:List OU}(h:Fts w v l)(d:bW w w'):Fts w' v l:=by obtain⟨ao,c,e,k⟩:=h;refine⟨ao,c,e,λj=>?_⟩;obtain⟨b,off,f,a,g⟩:=k j;refine⟨b,off,f,TY a d.size,λi m=>?_⟩;obtain⟨n,r1,r2,o,p⟩:=g i m;exact⟨(d.cell a).trans n,(d.cell a).trans r1,(d.cell a).trans r2,(d.cell a).trans o,(d.cell a).trans p⟩
theorem OY{ov cv fv:ZT}{l:List mi}{cl:List Rq}{fl:List OU}(hs:Scr w ov l)(y8:∀x∈l,x.s.size<=140737488355328/\x.d.length<=140737488355328)(kb:Cts w cv cl)(hf:Fts w fv fl)(a b c:Int)(S0:Nat)(yj:S0<18446744073709551616)(hg:bK w)(hv:cJ w)(ht:aI w)(hK:3<=w.heap.size):ZS ZO 3 #[ov,cv,I O a,I O b,I O c,I Z8 (S0:Nat),fv] w (Hb w):=by
 have qy:=KU hs y8;obtain⟨so,sp,rfl,q8⟩:=id hs;obtain⟨co,cp,rfl,xn⟩:=id kb;obtain⟨fo,fp,rfl,yr⟩:=id hf;obtain⟨C,qs⟩:∃n,l.length=n:=⟨_,rfl⟩;obtain⟨M,qp⟩:∃n,cl.length=n:=⟨_,rfl⟩;obtain⟨nf,qq⟩:∃n,fl.length=n:=⟨_,rfl⟩;rw[qs]at hs qy⊢;rw[qp]at kb⊢;rw[qq]at hf⊢;have H:=hide9 q8 xn hf hg hv ht qs qp qq;clear q8 xn hf hg hv ht qs qp qq yr kb hs y8;go_enter func3,ntmps3;go_wp2_with fail;refine qy.mono ?_;rintro e w1⟨bb,rfl,P,xg⟩;have qe:=ak xg;clear xg qy;by_cases q3:bb=J/\M<=30/\nf<=200;rotate_left;.have HQ:=ak (show Hb w (Z3 (Z1 J)) w1 from⟨rfl,qe.out⟩);cases bb with|false=>clear q3 P;go_wp2;go_ret;exact HQ.o|true=>
    by_cases xa:M<=30
    . have h1:¬(30:Int)<(M:Int):=V;have h2:(200:Int)<(nf:Int):=by have:¬nf<=200:=λq=>q3 ⟨rfl,xa,q⟩;omega
      clear q3 P;go_wp2;go_ret;exact HQ.o
    .have h1:(30:Int)<(M:Int):=V;clear q3 P;go_wp2;go_ret;exact HQ.o
 obtain⟨rfl,xa,yg⟩:=q3;obtain⟨ky,qx⟩:=P rfl;rw[H.o.2.2.2.2.2.2.1]at ky;have h1:¬(30:Int)<(M:Int):=V;have h2:¬(200:Int)<(nf:Int):=V;clear P;go_wp2_with fail;refine(QJ a b c w1).mono ?_;rintro e w2⟨D,L,G,rfl,hP,yh,xh⟩;clear h1 h2;have kj:bW w w2:=qe.out.trans (xh.mono qe.out.size);have E:=al hP kj;clear hP xh kj;obtain⟨w3,qz⟩:=nM (w2.alloc (Z4 #[I O (D:Nat),I O (L:Nat),I O (G:Nat)] 28));have xi:bW w w3:=by rw[<-qz];exact E.o.2.alloc E.o.2.size _
 have ke:ag w3 w2.heap.size 28 [I O (D:Nat),I O (L:Nat),I O (G:Nat)]:=by rw[<-qz];exact UD w2 _
 obtain⟨pb,y2⟩:=nM (w2.heap.size);rw[y2]at ke;have p0:=ke.cell (j:=0) (u:=I O (D:Nat)) rfl;have p1:=ke.cell (j:=1) (u:=I O (L:Nat)) rfl;have T:=ke.cell (j:=2) (u:=I O (G:Nat)) rfl;have xo:=Ha E.o.1 S0 yj w3;have H3:=al xi ke;clear xi ke;go_wp2_with fail;clear p0 p1 T qz y2;refine xo.mono ?_;rintro e w4⟨S1,rfl,yk,kg,qh⟩;clear xo;have q4:ag w4 pb 28 _:=H3.o.2.keep (qh.block _ H3.o.2.lt);have kk:bW w w4:=H3.o.1.trans (qh.mono H3.o.1.size);have p0:=q4.cell (j:=0) (u:=I O (D:Nat)) rfl;have p1:=q4.cell (j:=1) (u:=I O (L:Nat)) rfl;have T:=q4.cell (j:=2) (u:=I O (G:Nat)) rfl;have ya:=uF (D:Int) (L:Int) (G:Int) w4;have H4:=au kk q4 kg;clear kk q4 kg qh;go_wp2_with fail;clear p0 p1 T;refine ya.mono ?_;rintro e w5⟨rfl,qi⟩;clear ya;obtain⟨v,x0⟩:=nM (w5.alloc (Z4 #[I O (D:Int),I O (L:Int),I O (G:Int)] 31));have xj:bW w5 v:=by rw[<-x0];exact bA w5 _
 have qv:ag v w5.heap.size 31 [I O (D:Int),I O (L:Int),I O (G:Int)]:=by rw[<-x0];exact UD w5 _
 obtain⟨qb,y6⟩:=nM (w5.heap.size);rw[y6]at qv;have k8:bW w4 v:=qi.trans (xj.mono qi.size);have h9:bW w v:=H4.o.1.trans (k8.mono H4.o.1.size);have q5:ag v pb 28 _:=H4.o.2.1.keep (k8.block _ H4.o.2.1.lt);have p0:=q5.cell (j:=0) (u:=I O (D:Nat)) rfl;have p1:=q5.cell (j:=1) (u:=I O (L:Nat)) rfl;have T:=q5.cell (j:=2) (u:=I O (G:Nat)) rfl;have xm:=K6 (w:=v) (nb:=300) E.o.1 V V 1 (H.o.2.2.2.1.below h9) (H.o.2.2.2.2.1.below h9 H.o.2.2.2.2.1.lt) (H.o.2.2.2.2.2.1.keep (h9.block _ H.o.2.2.2.2.2.1.lt)) (TU hK h9.size);have F:=aE h9 q5 qv H4.o.2.2;clear h9 q5 qv k8 xj qi;go_wp2_with fail;clear p0 p1 T x0 y6;refine xm.mono ?_;rintro e w7⟨wb,rfl,f⟩;clear xm;have HM:=ak (show MS v QR v w7 wb D L G 300 (1+0)from f.mono lR λB hB=>⟨hB.sv,λi m=>by rw[hB.tn];rfl⟩);clear f;obtain⟨N,hN⟩:=nM (D+L+G);have qf:N<=16:=by rw[<-hN];exact E.o.1.s
 have y7:∀X,ZS ZO 10 #[.agg #[I O (D:Nat),I O (L:Nat),I O (G:Nat)]] X λe w'=>e=Z3 (I O (N:Nat))/\bW X w':=λX=>by rw[<-hN,(V:((D+L+G:Nat):Int)=(D:Int)+L+G)];have:=E.o.1.d;have:=E.o.1.l4;have:=E.o.1.g;exact cU (D:Int) (L:Int) (G:Int) X ⟨V,V⟩ ⟨V,V⟩ ⟨V,V⟩
 have y4:∀J',bW v J'->(J'.cell? ⟨pb,0,ZY⟩=U (I O (D:Nat))/\J'.cell? ⟨pb,1,ZY⟩=U (I O (L:Nat))/\J'.cell? ⟨pb,2,ZY⟩=U (I O (G:Nat)))/\J'.cell? ⟨qb,0,ZY⟩=U (I O (D:Int))/\J'.cell? ⟨qb,1,ZY⟩=U (I O (L:Int))/\J'.cell? ⟨qb,2,ZY⟩=U (I O (G:Int)):=λJ' hb=>by have Q:ag J' pb 28 _:=F.o.2.1.keep (hb.block _ F.o.2.1.lt);have hq:ag J' qb 31 _:=F.o.2.2.1.keep (hb.block _ F.o.2.2.1.lt);exact⟨⟨Q.cell (j:=0) rfl,Q.cell (j:=1) rfl,Q.cell (j:=2) rfl⟩,hq.cell (j:=0) rfl,hq.cell (j:=1) rfl,hq.cell (j:=2) rfl⟩
 have W:=au y7 y4 hN;clear y7 y4 hN;go_wp2_with fail;go_loopw[19,20](λok i wr=>CL1 v wb D L G C ok i wr)(λ_ i _=>C-(intOf i).toNat);case atStart=>exact⟨0,T8 _,rfl,rfl,HM.o⟩
 case round=>
  clear HM;obtain⟨k,hk,rfl,rfl,f⟩:=hrel;by_cases xy:k<C
  . have hx:(k:Int)<(C:Int):=V;obtain⟨sb,I',rfl,qd,q6⟩:=H.o.1 (λe=>by have:=H.o.2.2.2.2.2.2.1;rw[e]at this;simp at this;omega);have kc:k<l.length:=(ia H.o.2.2.2.2.2.2.1);obtain⟨dv,r1,r2,r3,r4,r5⟩:=q6 k kc;have qj:(l[k]).d.length<=100000:=TU (QQ l k kc) qx;obtain⟨o,ho⟩:=nM (l[k]);rw[ho]at r1 r2 r3 r5 qj;have K:bW w wr:=F.o.1.trans (f.base.mono F.o.1.size);have g0:=(K.cell (p:=⟨sb,I'+k*4,ZY⟩) qd).trans r1;have g1:=(K.cell (p:=⟨sb,I'+k*4+1,ZY⟩) qd).trans r2;have g2:=(K.cell (p:=⟨sb,I'+k*4+2,ZY⟩) qd).trans r3;have g3:=(K.cell (p:=⟨sb,I'+k*4+3,ZY⟩) qd).trans r4;have ye:=ak (show CL1 v wb D L G C (Z1 J) (I O ((k:Int)+1)) wr from⟨k+1,V,ej,rfl,f.mono V λ_ q=>q⟩);have x8:=ak (λh5=>QS (λA B k q=>QR.alk q k) f o dv (r5.mono F.o.1) qj V yh V h5);clear r1 r2 r3 r4 r5 qj K q6 ho f;obtain⟨R,oa,os,od⟩:=o;dsimp only at g0 g1 g2 x8;by_cases qm:R<=5;rotate_left
    . have ys:¬R<=5:=qm;clear qm g1 g2 g3;go_wp2;go_roundw;case rel=>exact ye.out
      case measure=>simp only[intOf];omega
    go_wp2_with fail;refine(x8.out qm).mono ?_;rintro e J'⟨rfl,kz⟩;have O':=ak (show CL1 v wb D L G C (Z1 J) (I O ((k:Int)+1)) J' from⟨k+1,V,ej,rfl,kz.mono V λ_ q=>q⟩);clear kz g0 g1 g2 g3;go_wp2;go_roundw;case rel=>exact O'.o
    case measure=>simp only[intOf];omega
  have hx:¬(k:Int)<(C:Int):=V;have x2:=ak (show CL2 v wb D L G N (1+C) (I Z8 (S1:Nat)) (I O 0) wr from⟨S1,0,rfl,yk,T8 _,rfl,F.o.2.2.2,λj hj=>absurd hj (WK j),f.mono V λ_ q=>q⟩);clear f;go_wp2_with fail;go_loopw[5,21](λsv i wr=>CL2 v wb D L G N (1+C) sv i wr)(λ_ i _=>N-(intOf i).toNat);case atStart=>exact x2.out
  case round=>
  rename ZU=>wy;clear x2 hx xy hk;obtain⟨S,d,rfl,hS,yq,rfl,xc,xd,f⟩:=hrel;obtain⟨⟨p0,p1,T⟩,-,-,-⟩:=W.o.2.1 wy f.base;have ka:=au xc xd f;clear xc xd f;go_wp2_with fail;refine(W.o.1 _).mono ?_;rintro e w8⟨rfl,xk⟩;clear p0 p1 T;have h8:=ka.out.2.2.below xk;clear xk;by_cases qk:d<N
  . have kx:(d:Int)<(N:Int):=V;obtain⟨-,q0,q1,q2⟩:=W.o.2.1 w8.drew (h8.base.trans ((TW _ w8).drew.mono h8.base.size));have yo:2^d<65536:=TY (VC ec qk) (UY (n:=2) (i:=N) (j:=16) ec qf);obtain⟨Y,qc⟩:=nM (2^d);rw[qc]at yo;have ym:(2:Int)^d=(Y:Nat):=(by rw[<-qc,WW];rfl);have yn:IntKind.u64.wrap (Y:Int)=(Y:Int):=K1;have y1:bits .or .u64 (S:Int) (Y:Int)=((S|||Y:Nat):Int):=Yz S Y hS V;have qg:S|||Y<18446744073709551616:=V5 (n:=64) hS V;obtain⟨Z,hZ⟩:=nM (S|||Y);rw[hZ]at y1 qg;have Q:=E.o.1;have xq:=kI D L G Z Q.r Q.d Q.l1 Q.l4 Q.g Q.div qg w8.drew;have H8:=aE h8 xq qc hZ;clear h8 xq Q qc hZ qg;go_upto_region 18 with fail;go_cut[22]from 87 to 92(λzd wx=>∃bb,zd=Z1 bb/\(bb=J↔dZ D L G Z)/\bW w8 wx);case first=>
     refine bw 5 [(0,J),(1,J),(2,J),(3,J),(4,J),(5,ZV),(6,ZV)] (λw'=>w'.cell? ⟨qb,0,ZY⟩=U (I O (D:Int))/\w'.cell? ⟨qb,1,ZY⟩=U (I O (L:Int))/\w'.cell? ⟨qb,2,ZY⟩=U (I O (G:Int))) ee ee ⟨q0,q1,q2⟩ ?_;clear q0 q1 q2;iterate 5 refine bE ?_
     refine db H8.o.2.1 rfl rfl oB ?_;rintro e w9⟨bb,rfl,kr,hz⟩;have kp:bW w8 w9:=(TW _ w8).drew.trans hz;refine⟨_,rfl,xJ,?_⟩;have H9:=al kr kp;clear kr hz kp;simp only[Act.put,TZ,T5,T6];refine dV rfl rfl Lx (λh=>absurd h ec) ?_;simp only[Act.put,TZ,T5,T6];refine bI ?_;rename_i hK;refine hK _ _ ?_;clear hK;go_meet;case rel=>exact⟨bb,rfl,H9.o.1,H9.o.2⟩
    case rest=>
    rename ZU=>w9;clear q0 q1 q2 ym yn y1;obtain⟨bb,rfl,kr,hz⟩:=hcut;have hi:=H8.o.1.below hz;have HN:=al kr hi;clear kr hz hi;cases bb
    . have O':=ak (show CL2 v wb D L G N (1+C) (I Z8 0) (I O ((d:Int)+1)) w9 from⟨0,d+1,rfl,ec,V,ej,sq E.o.1.d E.o.1.g λi _=>by rw[Nat.zero_div],λj hj=>OS E.o.1.d E.o.1.g E.o.1.s E.o.1.div (ia W.o.2.2),HN.o.2⟩);go_wp2;go_roundw;case rel=>exact O'.o
      case measure=>simp only[intOf];omega
    . have O':=ak (show CL2 v wb D L G N (1+C) (I Z8 (S:Nat)) (I O ((d:Int)+1)) w9 from⟨S,d+1,rfl,hS,V,ej,ka.out.1,λj hj=>by
       by_cases e:j=d;.rw[e,H8.o.2.2.1,H8.o.2.2.2];exact HN.o.1.1 rfl
       .exact ka.out.2.1 j V,HN.o.2⟩);go_wp2;go_roundw;case rel=>exact O'.o
      case measure=>simp only[intOf];omega
  have kx:¬(d:Int)<(N:Int):=V;have T:=(W.o.2.1 w8 h8.base).1.2.2;have z6:G<=4:=E.o.1.g;have yi:IntKind.i64.wrap ((G:Int)-1)=(G:Int)-1:=l7;have x3:=ak (show CL3 v wb D L G S N (1+C) (I O ((G:Int)-1)) (I O 0) w8 from⟨0,T8 _,rfl,by simp[cnt],h8⟩);have yf:=ak (show∀j,j<D+L+G->dZ D L G (S|||2^j)fromλj hj=>ka.out.2.1 j (ia W.o.2.2));have x9:=ak ka.out.1;clear h8;go_wp2_with fail;go_loopw[23,24](λlf i wr=>CL3 v wb D L G S N (1+C) lf i wr)(λ_ i _=>N-(intOf i).toNat);case atStart=>exact x3.out
  case round=>
  rename ZU=>wv;clear x3 ka kx qk yq T yi;obtain⟨z,yp,rfl,rfl,f⟩:=hrel;obtain⟨⟨p0,p1,T⟩,-,-,-⟩:=W.o.2.1 wv f.base;have x7:=ak f;clear f;go_wp2_with fail;refine(W.o.1 _).mono ?_;rintro e w9⟨rfl,hz⟩;clear p0 p1 T;have hi:=x7.out.below hz;have H9:=ak hi;clear hz hi;by_cases qk:z<N
  . have kx:(z:Int)<(N:Int):=V;have kv:=uK S z;have hr:=aar S z;go_wp2_with fail;refine(tR S z hS V w9).mono ?_;rintro e hd⟨rfl,qa⟩;obtain rfl:w9=hd:=qa.symm;clear qa;by_cases ha:S/2^z%2=1
    . rw[TT ha]at kv;have P:(((S/2^z%2:Nat):Int)==1)=J:=(by rw[ha];rfl);rw[P];have hw:IntKind.i64.wrap ((G:Int)-1-(cnt S z:Nat)-1)=(G:Int)-1-(cnt S (z+1):Nat):=l7;have O':=ak (show CL3 v wb D L G S N (1+C) (I O ((G:Int)-1-(cnt S (z+1):Nat))) (I O ((z:Int)+1)) w9 from⟨z+1,V,ej,rfl,H9.o⟩);clear ha P kv hr;go_wp2;go_roundw;case rel=>exact O'.o
      case measure=>simp only[intOf];omega
    . rw[TS ha]at kv;have P:(((S/2^z%2:Nat):Int)==1)=ZV:=(by rw[(Vv (S/2^z)).resolve_right ha];rfl);rw[P];have O':=ak (show CL3 v wb D L G S N (1+C) (I O ((G:Int)-1-(cnt S z:Nat))) (I O ((z:Int)+1)) w9 from⟨z+1,V,ej,by rw[kv];rfl,H9.o⟩);clear ha P kv hr;go_wp2;go_roundw;case rel=>exact O'.o
      case measure=>simp only[intOf];omega
  have kx:¬(z:Int)<(N:Int):=V;obtain rfl:z=N:=V;obtain⟨lf,qn⟩:∃lf:Int,(G:Int)-1-(cnt S z:Nat)=lf:=⟨_,rfl⟩;rw[qn];have x5:=ak qn;clear qn;have xf:=K5 H9.o x9.out hS (H.o.2.2.1.below F.o.1) (ia H.o.2.2.2.2.2.2.2.2) ec ec;clear kx yp;go_wp2_with fail;refine xf.mono ?_;rintro e hd⟨tv,rfl,k0⟩;clear xf;have x4:=ak (show CL4 v wb D L G S M (1+C) (Z1 J) (I O 0) hd from⟨0,T8 _,rfl,rfl,k0⟩);clear k0 H9 x7;go_wp2_with fail;go_loopw[19,27](λok i wr=>CL4 v wb D L G S M (1+C) ok i wr)(λ_ i _=>M-(intOf i).toNat);case atStart=>exact x4.out
  case round=>
  rename ZU=>wu;clear x4;obtain⟨k,hk,rfl,rfl,f⟩:=hrel;by_cases xy:k<M;rotate_left;.have hx:¬(k:Int)<(M:Int):=V;have xx:=abu f;clear f;go_wp2_with fail;refine xx.mono ?_;rintro e J'⟨rfl,y0⟩;have HZ:=ak (show Hb w (Z3 (Z1 J)) J' from⟨rfl,F.o.1.trans (y0.base.mono F.o.1.size)⟩);clear y0 xx;go_wp2;go_ret;exact HZ.o
  have hx:(k:Int)<(M:Int):=V;have kc:k<cl.length:=ia H.o.2.2.2.2.2.2.2.1;obtain⟨cb,y,rfl,hr,ks⟩:=H.o.2.1 (λe=>by rw[e]at kc;simp at kc);obtain⟨cs,⟨dv,ao,n,ca,rfl,V',yz,kh⟩,h0⟩:=ks k kc;obtain⟨⟨o,aft⟩,xp⟩:∃t,cl[k]=t:=⟨_,rfl⟩;rw[xp]at V' h0;dsimp only at V' h0;have K:bW w wu:=F.o.1.trans (f.base.mono F.o.1.size);have g0:=(K.cell (p:=⟨cb,y+k*6,ZY⟩) hr).trans (h0 0 ec);have g1:=(K.cell (p:=⟨cb,y+k*6+1,ZY⟩) hr).trans (h0 1 ec);have g2:=(K.cell (p:=⟨cb,y+k*6+2,ZY⟩) hr).trans (h0 2 ec);have g3:=(K.cell (p:=⟨cb,y+k*6+3,ZY⟩) hr).trans (h0 3 ec);have g4:=(K.cell (p:=⟨cb,y+k*6+4,ZY⟩) hr).trans (h0 4 ec);have g5:=(K.cell (p:=⟨cb,y+k*6+5,ZY⟩) hr).trans (h0 5 ec);obtain⟨da,dc,xv,_⟩:=id V';obtain⟨m,hm⟩:=nM (o.d.length);rw[hm]at xv;subst xv;simp only[List.getElem?_cons_zero,List.getElem?_cons_succ]at g0 g1 g2 g3 g4 g5;obtain⟨U',hy⟩:=nM (wu.alloc (Z4 #[I O o.kind,I O o.a,Z0 o.s,.slice da m dc,I O aft,.slice ao n ca] 47));have h7:bW wu U':=by rw[<-hy];exact bA wu _
  have h4:nR U' wu.heap.size o (.slice da m dc) aft (.slice ao n ca):=by rw[<-hy];exact UD wu _
  obtain⟨xb,kf⟩:=nM (wu.heap.size);rw[kf]at h4;have k5:=(f.below h7).S5;obtain⟨-,-,-,y3,-,y5⟩:=h4.cells;have f5:=ag.R2 h4 5;have x6:=ak (show CL4 v wb D L G S M (1+C) (Z1 J) (I O ((k:Int)+1)) U' from⟨k+1,V,ej,rfl,k5.mono V λ_ q=>q⟩);have O':=hide7 h4 h7 (kh.mono F.o.1) (V'.mono F.o.1) hm kf f;have HW:=al hy kf;clear h0 K V' kh f k5 h7 h4 hm kf xp ks hy;go_upto_region 34 with fail;rw[HW.o.1,HW.o.2];clear g0 g1 g2 g3 g4 g5;by_cases yy:m<=1500;rotate_left
  . have xz:(1500:Int)<(m:Int):=V;clear y5 f5;go_wp2;go_roundw;case rel=>exact x6.out
    case measure=>simp only[intOf];omega
  have xz:¬(1500:Int)<(m:Int):=V;go_upto_if 131 with fail;clear y3 xz;go_cut[28]from 115 to 165(λze wx=>ze=Z6 (U ⟨xb,0,ZY⟩)/\CX v wu xb o (.slice da m dc) aft wx);case first=>
   obtain⟨h4,h7,kh,V',hm,kf,-⟩:=O'.o;have q9:∀(u:ZT),nR (U'.setCell ⟨xb,5,ZY⟩ u) xb o (.slice da m dc) aft u/\bW wu (U'.setCell ⟨xb,5,ZY⟩ u):=λu=>⟨ag.set h4 5 [u] ej,h7.setCell (p:=⟨xb,5,ZY⟩) (by show wu.heap.size<=xb;omega) _⟩;have yx:lf<=4:=(ia x5.out);have HE:=aE q9 kh h4 h7;clear q9 kh h4 h7 V' hm kf;by_cases z7:lf<0;. go_wp2_with fail;go_meet;case rel=>exact⟨rfl,ZY,0,0,(HE.o.1 _).1,⟨ZY,0,rfl,λk hk=>absurd hk (WK k)⟩,ec,(HE.o.1 _).2⟩
   obtain⟨lq,rfl⟩:∃lq:Nat,lf=(lq:Int):=⟨lf.toNat,V⟩;by_cases z9:lq<n;. have qo:(lq:Int)<(n:Int):=V;have z8:lq<=ca:=V;have yv:(lq:Int)<=(ca:Int):=V;go_wp2_with fail;go_meet;case rel=>exact⟨rfl,ao,lq,_,(HE.o.1 _).1,HE.o.2.1.less V _,V,(HE.o.1 _).2⟩
   . have qo:¬(lq:Int)<(n:Int):=V;go_wp2_with fail;go_meet;case rel=>exact⟨rfl,ao,n,ca,HE.o.2.2.1,HE.o.2.1,V,HE.o.2.2.2⟩
  case rest=>
  rename ZU=>w12;obtain⟨rfl,bo,n2,zh,k9,ki,za,km⟩:=hcut;obtain⟨-,-,-,V',hm,-,f⟩:=O'.o;have k6:=(f.below km).S5;have kb:=abF (aft:=aft) k6 o yf.out V' V V ec ki V;obtain⟨z0,z1,z2,z3,z4,z5⟩:=k9.cells;have yb:=ak k9;clear k9 ki km V' hm f k6 y5 f5 x6;go_wp2_with fail;refine kb.mono ?_;rintro e zi⟨rfl,hh⟩;clear kb z0 z1 z2 z3 z4 z5;have z5:=(nR.cells (hh.ctg yb.out)).2.2.2.2.2;have x1:=ak hh;clear hh;go_upto_if 153 with fail;go_cut[19]from 115 to 165(λqr wx=>qr=Z1 J/\MS w12 (E6 S) v wx wb D L G 300 (1+C+k+1));case first=>
   by_cases zc:(n2:Int)<lf;. have y9:=K2 x1.out ec (by have:=x5.out;have:=W.o.2.2;rw[this];omega);go_wp2_with fail;refine y9.mono ?_;rintro e zf⟨rfl,h6⟩;have yc:=ak h6;clear h6 y9;go_wp2_with fail;go_meet;case rel=>exact⟨rfl,yc.out⟩
   . go_wp2_with fail;go_meet;case rel=>exact⟨rfl,x1.out⟩
  case rest=>
  rename ZU=>zf;obtain⟨rfl,h6⟩:=hcut;obtain⟨p,sa,r,out,want,cache,xe,q7⟩:=OX h6 x9.out ec;have s4:=xe.cells.2.2.2.2.1;clear h6 xe z5;go_wp2_with fail;refine q7.mono ?_;rintro e zj⟨rfl,k7⟩;have yd:=ak k7;clear k7 q7 s4;go_wp2_with fail;refine(kD _).mono ?_;rintro e zg⟨rfl,ko⟩;have HF:=ak (show CL4 v wb D L G S M (1+C) (Z1 J) (I O ((k:Int)+1)) zg from⟨k+1,V,ej,rfl,(yd.out.below ko).S5.mono V λ_ q=>q⟩);clear ko;go_wp2;go_roundw;case rel=>exact HF.o
  case measure=>simp only[intOf];omega
