import Derived.Test.YtpemimgppdkcbaaGreatDoorM09
import Derived.SizedLaws
set_option maxRecDepth 100000
set_option linter.all false
set_option maxHeartbeats 8000000
open Go.IntKind renaming i64 -> Z9
open Go.Value renaming int -> Z8, pointer -> Z7, slice -> Z6, bool -> Z3, string -> Z1
open Go.Obj renaming cells -> Z5
open Go.Ending renaming returned -> Z4
open Go.Operand renaming tmp -> Z2
open Option renaming none -> Z0, some -> ZZ
open Bool renaming true -> ZY, false -> ZX
open Go renaming World -> ZW, Value -> ZV, Calls -> ZU
open ByteArray renaming empty -> YD
open List renaming range -> YE, getElem_range -> YF
open Array.mk renaming injEq -> YG
open List.cons renaming injEq -> YH
open Go.Proofs.Tryz renaming prog -> ZT
open Go.Proofs.Tryz
namespace Go.Proofs.YtpemimgppdkcbaaGreatDoor
def abf:=@Go.World.cell?_spot
def Ww:=@Go.WideShapes.add_plain
def W5:=@Go.DataW.trod_int
end Go.Proofs.YtpemimgppdkcbaaGreatDoor
namespace Go.Proofs.YtpemimgppdkcbaaGreatDoor
open Go.RowKit Go.Deep Gf
variable {A B:aH} {C:aH->Prop} {ops:Array Oper} {x:ByteArray} {e:Ending} {Q:Exit->Act->ZW->Prop} {F:aR} {cache:Int} {ps:aU} {Kind:aU->Prop} {M:List (Nat×Nat)} {P:a8} {l:List nJ} {vs:List ZV} {ar v p D L G t q n wb nb r sa len0 cap0 i T:Nat} {Dn:Nat->Bool} {xs xs':aY} {ao:Option Addr} {cl:Prop} {H:Type} {pg ob tv out want:ZV} {w w' w0 W w'':ZW}
section
section
variable {w0 w:ZW} {wb D L G nb t T:Nat} {xs:aY} {Q:List (ByteArray×ZV)} {p r sa ar v:Nat} {Kind:aU->Prop} {ps:aU} {pg ob:ZV} {P:a8} {A:aH} {F:aR} {out want:ZV} {cache:Int}
theorem m7 (h:MB w0 w wb D L G nb t xs p r sa ar v Kind ps pg ob P A F out want cache) (z:Dc w r Q xs out want) (hT:t<=T) {C:aH->Prop} (hC:C A) {X:Ob×a8} (j:X∈xs) {x:ByteArray} (k:X.1.name=x) :
 ZU ZT 10 #[Z7 (ZZ ⟨wb,0,Z0⟩),Z1 x] w λe w'=>e=Z4 (Z3 ZY)/\MS C w0 w' wb D L G nb T:=by
 have U:=aaj h.box h.live x λwx hy=>Gb (h.live.below hy) h.shv x;have s1:=h.wbA.cells.2.2.2.2.1;have o:x∈xs.names:=by rw [<- k];exact CV j
 have HS:=a6 h z j k o;clear h z j k o;go_enter func10,ntmps10;go_wp2_with fail;refine U.mono ?_;rintro e w2 ⟨u,rr,k7,hd,hb,P',rfl,⟨hp,V,R⟩,W,Y⟩;obtain ⟨h,z,j,k,o⟩:=HS.out;obtain ⟨a,hm⟩:=h.Tp W hp rfl V R;have f:=z.keep hm lR;have s:Q.length<=1000000:=by
  rw [f.rel.len];have:=a.live.Sa.1;have e:xs.os.length=xs.length:=by simp [aY.os]
  omega
 obtain ⟨n,m,l,M,S,d,i,g,k0⟩:∃ n m l M,isN rr n/\(∀ e,Nv Q x e->e=Z4 (.tuple #[m,Z8 Z9 0]))/\Ow w2 u l/\Ow w2 m M/\((n=0/\l=M)\/(n=3/\u=Z6 Z0 0 0)):=by
  rcases MA Y f.rel a.live.disk.up a.live.disk.fits with ⟨n,c,l,N,E,q3,q4,q5⟩|⟨N,E,_⟩
  . obtain rfl:n=0:=q5.resolve_right λq=>q.2.2 o;exact ⟨0,c,l,l,N,E,q3,q4,.inl ⟨rfl,rfl⟩⟩
  . obtain ⟨m,d,g⟩:=Gh f.rel a.live.disk.up a.live.disk.fits j;rw [k] at d;exact ⟨3,m,[],_,.inl N,d,E▸Ow.nil _,g,.inr ⟨rfl,E⟩⟩
 obtain ⟨⟨ua,um,uc,hu,_⟩,_⟩:=i.sl;obtain ⟨⟨ca,cm,cc,hz,_⟩,_⟩:=g.sl;subst hz;have hv:=jU S a.gl;have H2:=a7 a f d i g s;clear h z j k o hp V R W Y a hm f d g s S i U s1;subst hu;go_wp2_with fail;refine hv.mono ?_;rintro e w3 ⟨rfl,y⟩;clear hv;obtain ⟨a,f,d,i,g,s⟩:=H2.out;have H:=a.below y;have K:=f.keep (fa.below y _) lR;have r3:=H.wbA.cells.2.2.2.2.2.1;obtain ⟨rb,rv,hr⟩:=K.ref;have hs:=tI hr s x;have B:=a5 H K (i.keep (Kd.below y _ _)) (g.keep (Kd.below y _ _));clear a f i g s H K y hr;go_wp2_with fail;refine hs.mono ?_;rintro e w4 ⟨k5,Z⟩;obtain rfl:=d e Z;subst k5;clear hs Z d r3;have hq:=IX _ _ _ _ _ B.out.2.2.1.bs B.out.2.2.2.bs;go_wp2_with fail;refine hq.mono ?_;rintro e w5 ⟨⟨b,rfl,J⟩,I⟩;clear hq;have O:=al (show MS C w0 w5 wb D L G nb T from ⟨_,_,_,_,_,_,_,_,_,_,_,_,_,_,_,_,_,_,B.out.1.below I,B.out.2.1.keep (fa.below I _) lR,hT,hC⟩);clear I;rcases k0 with ⟨rfl,e⟩|⟨rfl,e⟩
 . obtain rfl:=J e;clear J e;go_wp2;go_ret;exact ⟨rfl,O.out⟩
 . cases e;have k6:=λwx=>W0 (P:=ZT) wx 31 5 Z0 0 0 0 0 Uh;clear J;go_wp2;go_ret;exact ⟨rfl,O.out⟩
end
end
section
def MO (M:List (Nat×Nat)):List ZV:=M.flatMap λm=>[Z8 Z9 (m.1:Nat),Z8 Z9 (m.2:Nat)]
def Mk (w0 w:ZW) (tv:ZV) (M:List (Nat×Nat)):Prop:=w.ownsRow w0.heap.size 85 2 tv M.length (MO M)
structure C8 (A B:aH):Prop where
 n:B.n=A.n
 nb:B.nb=A.nb
 rc:B.rc=A.rc
 lost:B.here->A.here
def C8.trans {C:aH} (h:C8 A B) (k:C8 B C):C8 A C:=⟨k.n.trans h.n,k.nb.trans h.nb,k.rc.trans h.rc,λc=>h.lost (k.lost c)⟩
theorem C8.TO (A:aH) (d:Nat):C8 A (A.TO d):=⟨rfl,rfl,rfl,λh i=>by
 have q:(if i=d then ZY else A.lost i)=ZX:=h i;split at q
 . cases q
 . exact q⟩
def C8.Sm (A:aH) (d b:Nat):C8 A (A.Sm d b):=⟨rfl,rfl,rfl,id⟩
def aZ.ruin (h:aZ w ar v p ps D L G t pg ob P xs A F) (e:aB w' p B F) (d:aa F.S w w') (a:C8 A B):aZ w' ar v p ps D L G t pg ob P xs B F:=by
 have hK:eB (λk=>ar<k/\¬ F.S k/\¬ ps.bl k) w w':=⟨d.size,λk a hK=>d.block k a hK.2.1⟩;exact { h with arc:=h.arc.keep (d.block _ h.arc.lt h.nar),vol:=h.vol.turn d e a.n,disk:=h.disk.off a.n a.nb λb _ i=>by rw [a.rc],pgs:=h.pgs.keep hK,cat:=h.cat.keep hK,nb:=by rw [a.nb];exact h.nb,kit:=ps.keep _ _ h.kit λk a=>d.block k (ps.lt _ h.kit k a) (h.apt k a).2.2.2,hol:=λc=>h.hol (a.lost c) }
def FS (ws w:ZW) (p:Nat) (A:aH) (F:aR) (tv:ZV) (m:Nat):Prop:=∃ B M,aa F.S ws w/\iM w p B F M/\C8 A B/\Mk ws w tv M/\M.length<=m
def Mk.below (h:Mk w0 w tv M) (a:bW w w'):Mk w0 w' tv M:=ay h a
def Mk.arr (h:Mk w0 w tv M) (c:aB w p A F) (d:aa F.S w w'):Mk w0 w' tv M:=bS h d λk g q=>by
 obtain ⟨cs,T,f,b⟩:=c.kind q;obtain ⟨cur,a⟩:=bF h g;rw [f] at a;simp only [UO,Vm] at a;have e:=a.2.1;rcases b with k|k|k|k<;>exact absurd (k.symm.trans e) (by decide)
def Tryz.Tz:(ZT.info? 85).map (λi=>(i.zero,i.size,i.bytes))=ZZ (ZZ (.agg #[Z8 Z9 0,Z8 Z9 0]),2,16):=by kernel_rfl
def ME:∀ (M:List (Nat×Nat)) (k:Nat) (h:k<M.length),(MO M)[k*2]?=ZZ (Z8 Z9 (M[k].1:Nat))/\(MO M)[k*2+1]?=ZZ (Z8 Z9 (M[k].2:Nat))
 | [],k,h=>absurd h (by simp)
 | q::M,0,_=>⟨rfl,rfl⟩
 | q::M,k+1,h=>by
  obtain ⟨a,b⟩:=ME M k (by simpa using h);have e:MO (q::M)=[Z8 Z9 (q.1:Nat),Z8 Z9 (q.2:Nat)]++MO M:=by unfold MO;rw [VE]
  rw [e];refine ⟨?_,?_⟩
  . rw [U3 (by simp;omega),show (k+1)*2-[Value.int .i64 (q.1:Nat),Z8 Z9 (q.2:Nat)].length=k*2 by simp;omega];exact a
  . rw [U3 (by simp;omega),show (k+1)*2+1-[Value.int .i64 (q.1:Nat),Z8 Z9 (q.2:Nat)].length=k*2+1 by simp;omega];exact b
def Mk.at {ta:Option Addr} {tc ml:Nat} (h:Mk w0 w (.slice ta ml tc) M) {k:Nat} (c:k<M.length):∃ g,ta=ZZ ⟨g,0,Z0⟩/\w.cell? ⟨g,k*2,Z0⟩=ZZ (Z8 Z9 (M[k].1:Nat))/\w.cell? ⟨g,k*2+1,Z0⟩=ZZ (Z8 Z9 (M[k].2:Nat)):=by
 rcases h.2 with ⟨e,i⟩|⟨g,cap,cur,e,_⟩
 . omega
 . simp only [Vt] at e;obtain ⟨a,_,_⟩:=e;obtain ⟨d,f⟩:=ME M k c;have c1:=h.cells (g:=g) (by rw [a];rfl) _ _ d;have b:=h.cells (g:=g) (by rw [a];rfl) _ _ f;rw [jD] at c1 b;exact ⟨g,a,c1,b⟩
theorem vQ {k:Nat} (a:k<M.length) (x:Nat×Nat):(x∈M.take (k+1))↔(x∈M.take k\/M[k]=x):=by
 rw [U6,Ua a,Uf];exact or_congr Iff.rfl (by simp only [Option.toList,Vp];exact eq_comm)
section
variable {w0 ws w:ZW} {wb D L G nb t m:Nat} {xs:aY} {Q:List (ByteArray×ZV)} {p r sa ar v:Nat} {Kind:aU->Prop} {ps:aU} {pg ob:ZV} {P:a8} {A0 A:aH} {F:aR} {out want:ZV} {cache:Int} {tv:ZV} {M:List (Nat×Nat)}
def MB.fault (h:MB w0 w wb D L G nb t xs p r sa ar v Kind ps pg ob P A F out want cache) (f:Dc w r Q xs out want) {w':ZW} {B:aH} (e:aB w' p B F) (a:aa F.S w w') (b:C8 A B):MB w0 w' wb D L G nb t xs p r sa ar v Kind ps pg ob P B F out want cache/\Dc w' r Q xs out want:=by
 obtain ⟨c,d⟩:=h.call (a.mono λ_ _ q=>.inr q) (h.live.ruin e a b) b.nb;exact ⟨c,f.keep d lR⟩
theorem Jk (hs:MB w0 ws wb D L G nb t xs p r sa ar v Kind ps pg ob P A0 F out want cache) (q9:Dc ws r Q xs out want) (hO:aa F.S ws w) (hR:iM w p A F M) (U:C8 A0 A) (hM:Mk ws w tv M) (hm:M.length<=m) (qx:m<=100000) (ks:0<nb) {fb:Nat} {kind drive block bit:Int} (hf:aj w fb 37 [Z8 Z9 kind,Z8 Z9 drive,Z8 Z9 block,Z8 Z9 bit,Z8 Z9 0]) (qp:kind≠1) (S:Nat) (hS:S=2^(D+L+G)-1) :
 ZU ZT 8 #[Z7 (ZZ ⟨wb,0,Z0⟩),Z8 .u64 (S:Nat),Z6 (ZZ ⟨fb,0,Z0⟩) 1 1,Z8 Z9 0,tv] w λe w'=>∃ qy,e=Z4 qy/\FS ws w' p A0 F qy (m+1)/\∀ k,k<w.heap.size->¬ F.S k->tv.ownBlock≠ZZ k->w'.heap[k]?=w.heap[k]?:=by
 obtain ⟨h,hc⟩:=hs.fault q9 hR.at hO U;have hr:∀ k,F.S k->k<ws.heap.size:=λk J=>hs.live.vol.arr.RU J;obtain ⟨N,hN⟩:=nM (D+L+G);have h5:=h.live.vol.par;have q7:0<N/\N<=16:=by have:=h5.d1;have:=h5.s;omega
 obtain ⟨d,hd,ed⟩:=jj drive N q7.1 (by omega);obtain ⟨b,hb,eb⟩:=jj block nb ks (by have:=h.live.nb;have:=h.nb;omega);obtain ⟨kb,qj,qr⟩:=jj bit 512 (by decide) (by decide);have f0:=hf.cell (j:=0) (u:=Z8 Z9 kind) rfl;have f1:=hf.cell (j:=1) (u:=Z8 Z9 drive) rfl;have f2:=hf.cell (j:=2) (u:=Z8 Z9 block) rfl;have f3:=hf.cell (j:=3) (u:=Z8 Z9 bit) rfl;have f4:=hf.cell (j:=4) (u:=Z8 Z9 0) rfl;obtain ⟨ta,tc,rfl⟩:=bf hM;obtain ⟨ml,I⟩:=nM (M.length);obtain ⟨w1,kj⟩:=nM (w.alloc (Z5 #[Z8 Z9 kind,Z8 Z9 drive,Z8 Z9 block,Z8 Z9 bit,Z8 Z9 0] 37));have hz:aj w1 w.heap.size 37 [Z8 Z9 kind,Z8 Z9 drive,Z8 Z9 block,Z8 Z9 bit,Z8 Z9 0]:=by rw [<- kj];exact UG w _
 have l:bW w w1:=by rw [<- kj];exact bA w _
 obtain ⟨q,hq⟩:=nM (w.heap.size);have y:=h.below l;have hy:=hc.keep (fa.below l _) lR;have W:iM w1 p A F M:=hR.keep λk J=>l.block k (hR.at.RU J);have R:=hM.below l;have Z:∀ k,F.S k->k<w.heap.size:=λk J=>hR.at.RU J;rw [hq] at hz Z;rw [I] at R hm ⊢;have qc:∀ X,ZU ZT 9 #[.agg #[Z8 Z9 (D:Nat),Z8 Z9 (L:Nat),Z8 Z9 (G:Nat)]] X λe w'=>e=Z4 (Z8 Z9 (N:Nat))/\bW X w':=λX=>by
  rw [<- hN,show ((D+L+G:Nat):Int)=(D:Int)+L+G by omega];have:=h5.d;have:=h5.l4;have:=h5.g;exact dE (D:Int) (L:Int) (G:Int) X ⟨by omega,by omega⟩ ⟨by omega,by omega⟩ ⟨by omega,by omega⟩
 have c:=hide12 y hy W R hz Z I hN qc (hO.trans (aa.RS l _)) U hr;have hi:∀ x:Int,IntKind.i64.wrap x=wrap64 x:=λx=>by rw [Ut];unfold wrap64;omega
 have HE:=al (show IntKind.i64.wrap ((IntKind.u64.wrap drive).tmod (N:Int))=(d:Nat) from (hi _).trans ed);have qz:IntKind.i64.wrap ((IntKind.u64.wrap block).tmod (nb:Int))=(b:Nat):=(hi _).trans eb;have x3:IntKind.i64.wrap ((IntKind.u64.wrap bit).tmod 512)=(kb:Nat):=(hi _).trans qr;have kv:IntKind.u64.wrap (nb:Int)=(nb:Int):=by rw [U5];have:=h.live.nb;have:=h.nb;omega
 have HQ:=a5 hq hS kj l;have qh:IntKind.u64.wrap (N:Int)=(N:Int):=by rw [U5];omega
 clear h hc hR hM hf ed eb qr y hy W R hz Z I l hN qc hS h5 hq kj hi hO U hs q9 hr;go_enter func8,ntmps8;go_wp2_with fail;refine VV 2 ?_;rw [Vg];go_upto_region 6 with fail;clear f0 f1 f2 f3 f4;have hq:=HQ.out.1;rw [HQ.out.2.2.1,hq];have q1:=c.out.2.2.2.2.1.cell (j:=1) (u:=Z8 Z9 drive) rfl;obtain ⟨c0,c1,c2,_⟩:=c.out.1.wbA.cells;clear hq;go_cut [13] from 33 to 43 (λx0 wx=>x0=Z8 Z9 (d:Nat)/\bW w1 wx)
 case first=>
  go_region_with (go_at_call 9;refine (c.out.2.2.2.2.2.2.2.2.1 _).mono ?_;rintro e w2 ⟨rfl,hx⟩;have H2:=al ((TY _ w1).drew.trans hx);have k5:aj w2 q 37 _:=c.out.2.2.2.2.1.keep (H2.out.block _ c.out.2.2.2.2.1.lt);have y1:=k5.cell (j:=1) (u:=Z8 Z9 drive) rfl;clear hx k5);all_goals (go_wp2_with fail;go_meet;case rel=>exact ⟨by rw [HE.out],H2.out⟩)
 case rest=>
  obtain ⟨rfl,hx⟩:=hcut;clear q1 c0 c1 c2 qh;obtain ⟨y,hy,W,R,hz,Z,I,hN,_⟩:=c.out;have k5:aj wc q 37 _:=hz.keep (hx.block _ hz.lt);have y0:=k5.cell (j:=0) (u:=Z8 Z9 kind) rfl;have y2:=k5.cell (j:=2) (u:=Z8 Z9 block) rfl;have y3:=k5.cell (j:=3) (u:=Z8 Z9 bit) rfl;have O:=y.below hx;obtain ⟨_,_,_,c3,_,_,c6,_⟩:=O.wbA.cells;clear y hy W R hz Z I hN O k5;have H2:=al hx;clear hx;go_upto_region 7 with fail;go_quiet (fail);have km:bW w1 (wc.drewN nq):=H2.out.trans ⟨rfl,rfl,rfl,TV _,λ_ _=>rfl⟩;obtain ⟨K,kf⟩:=nM (wc.drewN nq);have d0:K.cell? ⟨q,0,Z0⟩=ZZ (Z8 Z9 kind):=by rw [<- kf];exact y0
  have d3:K.cell? ⟨q,3,Z0⟩=ZZ (Z8 Z9 bit):=by rw [<- kf];exact y3
  have e3:K.cell? ⟨wb,3,Z0⟩=ZZ (Z7 (ZZ ⟨p,0,Z0⟩)):=by rw [<- kf];exact c3
  rw [kf] at km ⊢;have z:=al km;clear kf y0 y2 y3 c3 c6 km H2 qz kv;have ka:ZU ZT 28 #[Z8 .u64 (S:Nat),Z8 Z9 (d:Nat)] K λe w'=>e=Z4 (Z3 ZY)/\w'=K:=by
   have qg:S<18446744073709551616:=by
    rw [HQ.out.2.1,c.out.2.2.2.2.2.2.2.1];have:2^N<=2^16:=Vq (by decide) q7.2;omega
   refine (Nx S d qg (by omega) K).mono ?_;rintro e w' ⟨rfl,rfl⟩;refine ⟨?_,rfl⟩;have y:S/2^d%2=1:=by
    have O:Nat.testBit (2^N-1) d=ZY:=(by rw [We];simp [hd]);rw [HQ.out.2.1,c.out.2.2.2.2.2.2.2.1];rw [XG] at O;exact of_decide_eq_true O
   rw [y];rfl
  have k9:∀ a B,iM a p B F M->aa F.S K a->C8 A B->FS ws a p A0 F (.slice ta ml tc) (m+1)/\∀ k,k<w.heap.size->¬ F.S k->(Value.slice ta ml tc).ownBlock≠ZZ k->a.heap[k]?=w.heap[k]?:=λa B H f J=>by
   have l:=HQ.out.2.2.2;obtain ⟨y,hy,W,R,_,Z,I,_,_,kh,U,_⟩:=c.out;have ki:iM K p A F M:=W.keep λk J=>z.out.block k (W.at.RU J);exact ⟨⟨B,M,(kh.trans (aa.RS z.out _)).trans f,H,U.trans J,(R.below z.out).arr ki.at f,by omega⟩,λk y O _=>(f.block k (by have:=l.size;have:=z.out.size;omega) O).trans ((z.out.block k (by have:=l.size;omega)).trans (l.block k y))⟩
  have ki:iM K p A F M:=c.out.2.2.1.keep λk J=>z.out.block k (c.out.2.2.1.at.RU J);have q3:d<A.n:=by rw [c.out.1.live.vol.n,c.out.2.2.2.2.2.2.2.1];exact hd
  have kz:b<A.nb:=by rw [c.out.1.nb];exact hb
  have C:=a5 k9 ki q3 kz;clear k9 ki q3 kz;go_wp2_with fail;refine ka.mono ?_;rintro e w4 ⟨rfl,qf⟩;obtain rfl:K=w4:=qf.symm;clear qf ka;by_cases k0:kind=0
  . subst k0;have qb:=Kx C.out.2.1 d C.out.2.2.1;go_wp2_with fail;refine qb.mono ?_;rintro e a ⟨rfl,H,f⟩;have HF:=al (C.out.1 a _ H f (C8.TO A d));clear H f qb;go_wp2;rw [Vg];go_wp2;go_ret;exact ⟨_,rfl,HF.out⟩
  by_cases k2:kind=2
  . subst k2;have qd:=G6 C.out.2.1 d b C.out.2.2.1 C.out.2.2.2;go_wp2_with fail;refine qd.mono ?_;rintro e a ⟨rfl,H,f⟩;have HF:=al (C.out.1 a _ H f (C8.Sm A d b));clear H f qd;go_wp2;rw [Vg];go_wp2;go_ret;exact ⟨_,rfl,HF.out⟩
  have HS:=al (C.out.1 K A C.out.2.1 (aa.refl _ _) ⟨rfl,rfl,rfl,id⟩);by_cases k3:kind=3;rotate_left
  . go_wp2;rw [Vg];go_wp2;go_ret;exact ⟨_,rfl,HS.out⟩
  subst k3;go_wp2_with fail;go_loopw [16,17] (λdn i wr=>∃ k:Nat,k<=ml/\i=Z8 Z9 (k:Nat)/\dn=Z3 (decide ((d,b)∈M.take k))/\wr=K) (λ_ i _=>ml-(intOf i).toNat)
  case atStart=>exact ⟨0,T9 _,rfl,by simp,rfl⟩
  case round=>
   obtain ⟨k,J,rfl,rfl,rfl⟩:=hrel;by_cases qm:k<ml
   . have qa:k<M.length:=(by rw [c.out.2.2.2.2.2.2.1];exact qm);have q4:Mk ws wr (.slice ta ml tc) M:=c.out.2.2.2.1.below z.out;obtain ⟨g,rfl,g1,g2⟩:=q4.at qa;have V:=vQ qa (d,b);obtain ⟨x1,kx⟩:=nM (M[k].1);obtain ⟨x2,ky⟩:=nM (M[k].2);have q6:M[k]=(x1,x2):=(by rw [<- kx,<- ky]);rw [q6] at V;simp only [WR] at V;rw [kx] at g1;rw [ky] at g2;have qv:IntKind.i64.wrap ((k:Int)+1)=(k:Int)+1:=(by rw [Ut];omega);have qs:(k:Int)<(ml:Int):=(by omega);clear q4 kx ky q6;by_cases E:(d,b)∈M.take k
     . rw [decide_eq_true E];have o:=al (V.2 (.inl E));clear V E;go_wp2;go_roundw
       case rel=>exact ⟨k+1,by omega,by go_num,by rw [decide_eq_true o.out],by first|rfl|exact trivial⟩
       case measure=>simp only [intOf];omega
     . rw [decide_eq_false E];by_cases q1:x1=d
       . subst q1;by_cases q2:x2=b
         . subst q2;have o:=al (V.2 (.inr ⟨rfl,rfl⟩));clear V E;go_wp2;go_roundw
           case rel=>exact ⟨k+1,by omega,by go_num,by rw [decide_eq_true o.out],by first|rfl|exact trivial⟩
           case measure=>simp only [intOf];omega
         . have o:=al (λe=>(V.1 e).elim E λe=>q2 e.2);have x5:¬ (x2:Int)=(b:Int):=(by omega);clear V E;go_wp2;go_roundw
           case rel=>exact ⟨k+1,by omega,by go_num,by first|(rw [decide_eq_false o.out];done)|(rw [decide_eq_false o.out];simp_all),by first|rfl|exact trivial⟩
           case measure=>simp only [intOf];omega
       . have o:=al (λe=>(V.1 e).elim E λe=>q1 e.1);have x4:¬ (x1:Int)=(d:Int):=(by omega);clear V E;go_wp2;go_roundw
         case rel=>exact ⟨k+1,by omega,by go_num,by first|(rw [decide_eq_false o.out];done)|(rw [decide_eq_false o.out];simp_all),by first|rfl|exact trivial⟩
         case measure=>simp only [intOf];omega
   . have qk:k=ml:=(by omega);subst qk;have qn:M.take k=M:=UD (by rw [c.out.2.2.2.2.2.2.1];exact TV _);rw [qn];by_cases E:(d,b)∈M
     . rw [decide_eq_true E];go_wp2;rw [Vg];go_wp2;go_ret;exact ⟨_,rfl,HS.out⟩
     . rw [decide_eq_false E];have qe:=Ky C.out.2.1 d b kb C.out.2.2.1 C.out.2.2.2 qj E;obtain ⟨im,qi,ko,kp,kr⟩:=Us Tryz.Tz;have HT:=al qe;clear qe;go_wp2_with fail;refine HT.out.mono ?_;rintro e a ⟨rfl,H,f⟩;obtain ⟨y,hy,W,R,_,Z,I,_,_,kh,U,hr⟩:=c.out;have q5:Mk ws a (.slice ta k tc) M:=(R.below z.out).arr C.out.2.1.at f;have k8:aa F.S ws a:=(kh.trans (aa.RS z.out _)).trans f;have q8:aj (a.alloc (Z5 #[Z8 Z9 (d:Nat),Z8 Z9 (b:Nat)] 85)) a.heap.size 85 [Z8 Z9 (d:Nat),Z8 Z9 (b:Nat)]:=UG a _;have k7:bW a (a.alloc (Z5 #[Z8 Z9 (d:Nat),Z8 Z9 (b:Nat)] 85)):=bA a _;have k6:Src ZT 2 35 (Z6 (ZZ ⟨a.heap.size,0,Z0⟩) 1 1) 1 [Z8 Z9 (d:Nat),Z8 Z9 (b:Nat)] (a.alloc (Z5 #[Z8 Z9 (d:Nat),Z8 Z9 (b:Nat)] 85)):=
        U7 _ underlying35 ⟨a.heap.size,0,Z0⟩ 1 1 [Z8 Z9 (d:Nat),Z8 Z9 (b:Nat)] rfl (λj u hj=>by rw [U9,Ue];exact q8.cell hj) (λu hu=>by
         simp only [Ur,WK,or_false] at hu;rcases hu with rfl|rfl<;>rfl)
       have kg:=q5.below k7;have o:=hide9 k8 U H hr k6 kg k7 I f;have qq:k<=100000:=(by omega);clear y hy W R Z I q5 H f k8 kh U hr q8 k6 kg k7;go_wp2_with (at_builtin;refine ae _ rfl (Z2 128) (Z2 132) 35 35 rfl ws.heap.size 85 im _ 2 16 underlying35 qi ko kp kr rfl (.slice ta k tc) k (MO M) (by rfl) (by have h9:=o.out.2.2.2.2.2.1;unfold Mk at h9;rw [o.out.2.2.2.2.2.2.2.1] at h9;exact h9) _ (by rfl) 1 [Z8 Z9 (d:Nat),Z8 Z9 (b:Nat)] (by exact o.out.2.2.2.2.1) (by unfold maxLen;omega) (by omega) (by have h9:=o.out.1.size;simp;omega) ?_;intro v7 w7 ke Y kk;obtain ⟨va,vc,rfl⟩:=bf ke;have H7:=au ke Y;clear ke Y kk);rw [Vg];go_wp2;go_ret;obtain ⟨f,U,H,hr,k6,kg,k7,I,hv⟩:=o.out;have l:=HQ.out.2.2.2;obtain ⟨ke,Y⟩:=H7.out;have kc:∀ j,j<ws.heap.size->w7.heap[j]?=a.heap[j]?:=λj hj=>(Y.block j (by have:=f.size;simp;omega) (λe=>by have:=dY kg e.symm;omega)).trans (k7.block j (by have:=f.size;omega));have qo:a.heap.size<=w7.heap.size:=(by have:=Y.size;simp at this;omega);refine ⟨_,rfl,⟨A.Sm d b,M++[(d,b)],f.later (T:=λj=>ws.heap.size<=j) ⟨Y.os,Y.tape,Y.output,qo,λj _ hj=>kc j (by omega)⟩ (λj y O=>by omega),H.keep λj hj=>kc j (hr j hj),U.trans (C8.Sm A d b),?_,by rw [T8,I];simp;omega⟩,λi y O h3=>(Y.block i (by have:=l.size;have:=z.out.size;have:=hv.size;simp;omega) (λe=>h3 e.symm)).trans ((k7.block i (by have:=l.size;have:=z.out.size;have:=hv.size;omega)).trans ((hv.block i (by have:=l.size;have:=z.out.size;omega) O).trans ((z.out.block i (by have:=l.size;omega)).trans (l.block i y))))⟩;have e:MO (M++[(d,b)])=MO M++[Z8 Z9 (d:Nat),Z8 Z9 (b:Nat)]:=(by unfold MO;rw [Wo];rfl);unfold Mk;rw [e,T8,I];exact ke
end
end
section
def MF (n:Int) (xs:aY) (cl:Prop) (x:ByteArray) (xs':aY):Prop:=(n=0/\Aj xs x xs')\/(xs'=xs/\uV xs cl x n)
def MF.lost (h:MF 3 xs cl x xs'):¬ cl:=by
 rcases h with ⟨e,_⟩|⟨_,⟨_,e⟩|⟨_,⟨_,e⟩|⟨_,h,_⟩⟩⟩
 . exact absurd e (by decide)
 . exact absurd e (by decide)
 . exact absurd e (by decide)
 . exact h
def MG {wx:ZW} {n0:Nat} {rb:Nat} {rv:ZV} {Q:List (ByteArray×ZV)} {n:Int} (p:oz w q rb rv Q) (h:aaa w q Q x e w') (hn:MF n xs cl x xs') (i:iU wx Q xs) (r:Up xs.names) (v:n0<=q) (y:n0<=w.heap.size) :
 (∃ f,e=Z4 (Z8 Z9 f)/\(n≠3->f=n))/\Below n0 w w'/\n≠10/\(n≠3->∃ m,(∃ rb rv,oz w' q rb rv m)/\∀ l,iU l Q xs->iU l m xs'):=by
 have o:=nG i x;have d:=kV x;rcases hn with ⟨rfl,b,c,rfl⟩|⟨rfl,⟨b,rfl⟩|⟨b,⟨c,rfl⟩|⟨c,_,rfl⟩⟩⟩
 . rcases h with ⟨q,_⟩|⟨_,q,_⟩|⟨_,k,q,a,⟨u,s⟩,g⟩
   . exact absurd (d.2 b) q
   . exact absurd c (o.1 q)
   . refine ⟨⟨_,a,λ_=>rfl⟩,g.below λj t=>⟨by omega,by omega⟩,by decide,λ_=>⟨_,⟨_,u,s⟩,λl z=>?_⟩⟩;rw [(kW i r q).1];exact (z.take k).app (z.drop (k+1))
 . rcases h with ⟨_,a,rfl⟩|⟨q,_⟩|⟨q,_⟩
   . exact ⟨⟨_,a,λ_=>rfl⟩,TY _ _,by decide,λ_=>⟨Q,⟨_,_,p⟩,λ_ z=>z⟩⟩
   . rw [d,b] at q;cases q
   . rw [d,b] at q;cases q
 . rcases h with ⟨q,_⟩|⟨_,_,a,rfl⟩|⟨_,k,q,_⟩
   . exact absurd (d.2 b) q
   . exact ⟨⟨_,a,λ_=>rfl⟩,TY _ _,by decide,λ_=>⟨Q,⟨_,_,p⟩,λ_ z=>z⟩⟩
   . exact absurd (kW i r q).2.2 c
 . rcases h with ⟨q,_⟩|⟨_,q,_⟩|⟨_,k,q,a,_,g⟩
   . exact absurd (d.2 b) q
   . exact absurd c (o.1 q)
   . exact ⟨⟨_,a,λh=>absurd rfl h⟩,g.below λj t=>⟨by omega,by omega⟩,by decide,λh=>absurd rfl h⟩
section
variable {w0 w:ZW} {wb D L G nb t:Nat} {xs:aY} {Q:List (ByteArray×ZV)} {p r sa ar v:Nat} {Kind:aU->Prop} {ps:aU} {pg ob:ZV} {P:a8} {A:aH} {F:aR} {out want:ZV} {cache:Int}
theorem MH (h:MB w0 w wb D L G nb t xs p r sa ar v Kind ps pg ob P A F out want cache) (hc:Dc w r Q xs out want) (o:nJ) (dv:ZV) (kp:∃ x m y,dv=.slice x m y) (ky:t<1000000) (kc:A.clean) (hk:o.kind=3) :
 ZU ZT 7 #[Z7 (ZZ ⟨wb,0,Z0⟩),.agg #[Z8 Z9 o.kind,Z8 Z9 o.a,Z1 o.s,dv]] w λe w'=>e=Z4 (Z3 ZY)/\MS aH.clean w0 w' wb D L G nb (t+1):=by
 obtain ⟨x,m,y,rfl⟩:=kp;obtain ⟨w1,k7⟩:=nM (w.alloc (Z5 #[Z8 Z9 o.kind,Z8 Z9 o.a,Z1 o.s,.slice x m y] 33));have d:=OA h hc o _ k7;have M:bW w1 w1.drew:=(TY _ w1).drew;have Z:=d.b.below M;have hq:=Gc Z.box Z.live ky o.s;obtain ⟨x0,x1,x2,x3⟩:=d.op.cells;have s1:=d.b.wbA.cells.2.2.2.2.1;obtain ⟨q0,I⟩:=nM (w.heap.size);have HS:=au d I;clear d h hc M Z;rw [hk] at x0 k7 ⊢;rw [I] at x0 x1 x2 x3;clear hk;go_enter func7,ntmps7;go_upto_region 13 with fail;clear I k7 x0 x1 x3;go_cut [11] from 21 to 233 (λv11 wx=>cC w1.drew ar v p ps D L G t xs A F (uV xs A.clean o.s) (Aj xs o.s) (Z4 v11) wx)
 case first=>
  go_region_with (go_at_call 21;refine hq.mono ?_;rintro e w2 k5;obtain ⟨rr,_,_,_,_,_,_,rfl,_⟩:=id k5;have i:=al k5;clear k5);all_goals (go_wp2_with fail;go_meet;case rel=>exact i.out)
 case rest=>
  obtain ⟨n,t',hd,hb,P',xs',B,hN,kh,X,k8,kj,C⟩:=Ak hcut;change MF n xs A.clean o.s xs' at C;have hs:n≠3:=λe=>(e▸C).lost kc;obtain ⟨d,I⟩:=HS.out;have M:bW w1 w1.drew:=(TY _ w1).drew;have W:aa (λj=>j=ar\/F.S j) w1 wc:=(aa.RS M _).trans k8;obtain ⟨z,kg⟩:=d.b.call W kh X.nb;have H:=d.c.keep kg lR;have T:=d.b.live.disk.up;have K:Q.length<=1000000:=by
   rw [H.rel.len];have:=d.b.live.Sa.1;have e:xs.os.length=xs.length:=(by simp [aY.os]);omega
  have E:iw wc q0 o (.slice x m y):=by
   rw [<- I];exact aj.keep d.op (W.block _ d.lt (λe=>by
    rcases e with e|e
    . have:=d.ar;omega
    . have:=d.f _ e;omega))
  have kk:=jU hN z.gl;have i:=hide8 z H E C T K X kj;clear d I M W z kg H E hN C T K kh X kj k8 hq x2 s1 hcut;go_wp2_with fail;refine kk.mono ?_;rintro e w3 ⟨rfl,R⟩;clear kk;obtain ⟨z,H,E,C,T,K,_⟩:=i.out;have l:=z.below R;have g:=H.keep (fa.below R _) lR;have k:iw w3 q0 o (.slice x m y):=aj.keep E (R.block _ (aj.lt E));obtain ⟨kz,q1,ki⟩:=g.ref;have ke:=jS ki K g.rel.sl;have r3:=l.wbA.cells.2.2.2.2.2.1;have H3:=aE l g k;clear z H E C T K l g k ki R;go_wp2_with fail;refine ke.mono ?_;rintro e w4 ⟨rfl,⟨u4,u⟩,q⟩;clear ke r3;obtain ⟨l,g,k⟩:=H3.out;have k6:=qX u i.out.2.2.2.2.2.1 g.rel.sl o.s;have k9:iw w4 q0 o (.slice x m y):=aj.keep k (q.block _ (aj.lt k));have y4:=k9.cells.2.2.1;obtain ⟨N,J⟩:=nM (w3.heap.size);rw [J] at k6 u ⊢;have H4:=aE u q J;clear l g k k9 u q J;go_wp2_with fail;refine k6.mono ?_;rintro e U kf;clear k6 y4;obtain ⟨u,q,J⟩:=H4.out;obtain ⟨l,g,k⟩:=H3.out;obtain ⟨⟨f5,kr,ks⟩,kb,kx,km⟩:=MG u kf i.out.2.2.2.1 g.rel i.out.2.2.2.2.1 (Nat.le_of_eq J) q.size;obtain ⟨Q',ka,h4⟩:=km hs;obtain rfl:=ks hs;subst kr;have Y:bW w3 U:=q.trans kb;have V:=l.below Y;have k0:=g.keep (fa.below Y _) lR;have O:=V.wbA;have r5:=O.cells.2.2.2.2.2.1;have f5:=aj.R3 O 5;have hr:MS aH.clean w0 (U.setCell ⟨wb,5,Z0⟩ (Z7 (ZZ ⟨N,0,Z0⟩))) wb D L G nb (t+1):=by
   have hW:jz (U.setCell ⟨wb,5,Z0⟩ (Z7 (ZZ ⟨N,0,Z0⟩))) wb D L G (Z7 (ZZ ⟨p,0,Z0⟩)) (Z7 (ZZ ⟨sa,0,Z0⟩)) (Z7 (ZZ ⟨N,0,Z0⟩)) nb out want cache:=aj.set O 5 [Z7 (ZZ ⟨N,0,Z0⟩)] (by simp [Ou]);obtain ⟨h6,kv⟩:=V.write (aa.setCell (S:=λj=>j=wb) _ ⟨wb,5,Z0⟩ _ rfl) hW;have ko:Dc U N Q' xs' out want:=⟨ka,h4 _ k0.rel,k0.ow⟩;exact ⟨_,_,_,_,_,_,_,_,_,_,_,_,_,_,_,_,_,_,h6,ko.keep kv lR,i.out.2.2.2.2.2.2.2,i.out.2.2.2.2.2.2.1.cl kc⟩
  have HF:=al hr;clear hr u q J l g k kb ka h4 Y V k0 O kf;go_wp2_with fail;refine (ja _ _).mono ?_;rintro e w8 ⟨rfl,rfl⟩;go_wp2;go_ret;exact ⟨rfl,HF.out⟩
end
end
section
def MB.ref (h:MB w0 w wb D L G nb t xs p r sa ar v Kind ps pg ob P A F out want cache) {T q:Nat} {Q:List (ByteArray×ZV)} (d:∃ i rv,oz w q i rv Q) (hrel:iU w Q xs) (b:ju out/\ju want) (e:t<=T):MS (λ_=>True) w0 (w.setCell ⟨wb,5,Z0⟩ (Z7 (ZZ ⟨q,0,Z0⟩))) wb D L G nb T:=by
 have f:jz (w.setCell ⟨wb,5,Z0⟩ (Z7 (ZZ ⟨q,0,Z0⟩))) wb D L G (Z7 (ZZ ⟨p,0,Z0⟩)) (Z7 (ZZ ⟨sa,0,Z0⟩)) (Z7 (ZZ ⟨q,0,Z0⟩)) nb out want cache:=aj.set h.wbA 5 [Z7 (ZZ ⟨q,0,Z0⟩)] (by simp [Ou]);obtain ⟨c,a⟩:=h.write (aa.setCell (S:=λj=>j=wb) _ ⟨wb,5,Z0⟩ _ rfl) f;have g:Dc w q Q xs out want:=⟨d,hrel,b⟩;exact ⟨_,_,_,_,_,_,_,_,_,_,_,_,_,_,_,_,_,_,c,g.keep a lR,e,trivial⟩
def MB.Tu (h:MB w0 w wb D L G nb t xs p r sa ar v Kind ps pg ob P A F out want cache) {b B d:Nat} {u:ZV} {Q:List (ByteArray×ZV)} (s:oz w b d u Q) (i:aa (λj=>j=b) w w') (y:B<=b) (E:∀ k,F.S k->k<B) (M:v<B) (I:ar<B) (O:w0.heap.size<=B):MB w0 w' wb D L G nb t xs p r sa ar v Kind ps pg ob P A F out want cache/\(∀ u l,Ow w u l->Ow w' u l)/\∀ r d rv Q,r≠b->oz w r d rv Q->oz w' r d rv Q:=by
 have c:=s.top;have f:∀ j,j<w.heap.size->j≠b->w'.heap[j]?=w.heap[j]?:=λj hl a=>i.block j hl a;have g:∀ T,T≠43->Kd w.heap.size T w w':=λT H j cs hl a=>f j hl λe=>by
  subst e;rw [c] at a;simp only [UO,Vm] at a;exact H a.2.1.symm
 have C:qY w b:=λoff z o=>by
  obtain ⟨ao,N,e⟩:=bf s.own;rw [e] at c;cases off with
  | zero=>simp [World.cell?,c] at o;subst o;exact ⟨λ_=>nofun,λ_=>nofun⟩
  | succ n=>simp [World.cell?,c] at o
 have x:w.heap[wb]?=ZZ (Z5 _ 48 (0,0)):=h.wbA;have:=h.hK;refine ⟨{ h with wbA:=aj.keep h.wbA (f _ (aj.lt h.wbA) λe=>by rw [e,c] at x;simp at x),box:=(g _ (by decide) sa _ h.box.lt h.box).trans h.box,live:=h.live.aside C (λq=>cJ h.live.kit c (by unfold ry;decide) q) i.size (λj a hl=>f j hl a) y E M I (by omega),base:=h.base.trans (i.below λk J=>⟨TZ J h.base.size,λq=>by omega⟩) },λu l ho=>ho.keep (g _ (by decide)),λr d rv Q K m=>⟨(f r (TX.1 m.top).1 K).trans m.top,Fh m.own (g _ (by decide)) lR⟩⟩
section
variable {w0 w:ZW} {wb D L G nb t:Nat} {xs:aY} {Q:List (ByteArray×ZV)} {p r sa ar v:Nat} {Kind:aU->Prop} {ps:aU} {pg ob:ZV} {P:a8} {A:aH} {F:aR} {out want:ZV} {cache:Int}
theorem CX (h:MB w0 w wb D L G nb t xs p r sa ar v Kind ps pg ob P A F out want cache) (hc:Dc w r Q xs out want) (o:nJ) (dv:ZV) (i:Bs w0 dv o.d) (qa:t<1000000) (hk:o.kind=1) :
 ZU ZT 13 #[Z7 (ZZ ⟨wb,0,Z0⟩),.agg #[Z8 Z9 o.kind,Z8 Z9 o.a,Z1 o.s,dv]] w λe w'=>e=Z4 (Z3 ZY)/\MS (λ_=>True) w0 w' wb D L G nb (t+2):=by
 obtain ⟨Y,Z,q8,I,_⟩:=id i;subst q8;have HB:=al (show w0.heap.size<=w.heap.size/\r<w.heap.size from ⟨h.base.size,by obtain ⟨_,_,hr⟩:=hc.ref;exact (TX.1 hr.top).1⟩);have z:=i.lt;obtain ⟨m,l⟩:=nM (o.d.length);rw [l] at i ⊢;obtain ⟨w1,ko⟩:=nM (w.alloc (Z5 #[Z8 Z9 o.kind,Z8 Z9 o.a,Z1 o.s,.slice Y m Z] 33));have g:=OA h hc o _ ko;obtain ⟨x0,x1,x2,x3⟩:=g.op.cells;have r1:=g.b.wbA.cells.2.2.2.2.2.1;obtain ⟨rb,rv,hr⟩:=g.c.ref;have H:Q.length<=1000:=by
  rw [g.c.rel.len];have:=g.b.live.Sa.1;simpa [aY.os] using this
 have kv:=jS hr (by omega) g.c.rel.sl;obtain ⟨q0,y⟩:=nM (w.heap.size);have HS:=hide7 g y i z l H I;clear g h hc i z l hr I;rw [hk] at x0 ko ⊢;rw [y] at x0 x1 x2 x3;have HK:=al hk;clear hk;go_enter func13,ntmps13;go_wp2_with fail;clear y ko x1 x0;refine kv.mono ?_;rintro e w2 ⟨rfl,⟨u2,k9⟩,O⟩;clear kv r1 x2 x3;obtain ⟨g,y,i,z,l,H,I⟩:=HS.out;have M:=g.b.below O;have N:iw w2 q0 o (.slice Y m Z):=by rw [<- y];exact aj.keep g.op (O.block _ g.lt)
 obtain ⟨y0,y1,y2,y3⟩:=N.cells;rw [HK.out] at y0;have s2:=M.wbA.cells.2.2.2.2.1;have W:bW w2 w2.drew:=(TY _ w2).drew;have U:=M.below W;have hp:=aai U.box U.live qa o.s Y Z o.d (λw' hO=>by
  rw [l];exact i.mono (U.base.trans (hO.below λk hk=>⟨TZ hk U.base.size,λq=>by have:=U.fB k q;omega⟩))) (by omega)
 rw [l] at hp;have H2:=a6 M N O k9 W;clear g y i z l H I M N O k9 W U;obtain ⟨q1,ke⟩:=nM (w1.heap.size);rw [ke];have HQ:=al ke;clear ke;go_upto_region 4 with fail;go_cut [6] from 21 to 29 (λv6 wx=>cC w2.drew ar v p ps D L G t xs A F (rE D A.nb xs A.clean o.s m) (rH D A.nb xs o.s o.d) (Z4 v6) wx)
 case first=>
  go_region_with (go_at_call 34;refine hp.mono ?_;rintro e w3 kk;obtain ⟨rr,_,_,_,_,_,_,rfl,_⟩:=id kk;have H3:=al kk;clear kk);all_goals (go_wp2_with fail;go_meet;case rel=>exact H3.out)
 case rest=>
  obtain ⟨n,t',qd,qc,P',xs',B,hN,kx,hz,kp,K,hy⟩:=Ak hcut;obtain ⟨g,y,i,z,l,H,I⟩:=HS.out;obtain ⟨M,N,O,k9,W⟩:=H2.out;have x:pd n D A.nb xs A.clean o.s o.d xs':=by unfold pd;rw [l];exact hy
  have hg:aa (λj=>j=ar\/F.S j) w2 wc:=(aa.RS W _).trans kp;obtain ⟨R,ki⟩:=M.call hg kx hz.nb;have ka:=ki.ref k9 lR;have k6:=(g.c.keep (fa.below O _) lR).keep ki lR;have V:iw wc q0 o (.slice Y m Z):=aj.keep N (hg.block _ (aj.lt N) (λe=>by
   rcases e with e|e
   . have:=g.ar;omega
   . have:=g.f _ e;omega))
  have q6:=jU hN R.gl;have H3:=a7 R k6 ka V x K;clear hN x hy g y i z l H I M N O k9 W hg R ki ka k6 V kx hz K kp hcut hp y0 y1 y2 y3 s2;go_wp2_with fail;refine q6.mono ?_;rintro e w4 ⟨rfl,k5⟩;clear q6;obtain ⟨R,k6,ka,V,x,K⟩:=H3.out;obtain ⟨g,y,i,z,l,H,I⟩:=HS.out;have E:=R.below k5;have u:=k6.keep (fa.below k5 _) lR;have J:=(fa.below k5 _).ref ka lR;have kr:iw w4 q0 o (.slice Y m Z):=aj.keep V (k5.block _ (aj.lt V));obtain ⟨_,_,z2,z3⟩:=kr.cells;rw [HQ.out] at J;have q2:=Gd J H u.rel u.rel.sl l (i.mono E.base) x;have H4:=a6 E u J x K;clear R k6 ka V x K g y i z l H I E u J kr k5;go_wp2_with fail;refine q2.mono ?_;rintro e w7 q9;clear q2 z2 z3;obtain ⟨E,u,J,x,K⟩:=H4.out;rcases q9 with ⟨n0,hb,n3,rfl,rfl⟩|⟨hn,rfl,u7,qg,km,kj,kg⟩
  . obtain rfl:=x.none n0;have k8:=E.ref ⟨_,_,J⟩ u.rel u.ow (T:=t+2) (by omega);have r7:=E.wbA.cells.2.2.2.2.2.1;have f7:=aj.R3 E.wbA 5;have X:=al k8;have b3:(n==(3:Int))=ZX:=(by simpa using n3);have qb:(n==(10:Int))=ZX:=(by simpa using hb);clear k8 E u J x K;go_wp2_with fail;refine (ja n _).mono ?_;rintro e w8 ⟨rfl,rfl⟩;go_wp2;go_ret;exact ⟨rfl,X.out⟩
  . obtain ⟨g,y,i,z,l,H,I⟩:=HS.out;have k0:=g.ar;have k7:=g.lt;have ke:=HQ.out;have q7:=g.b.live.vlt;have kf:w0.heap.size<=w.heap.size:=HB.out.1;have q3:r≠q1:=(by have:=HB.out.2;omega);obtain ⟨h7,hj,hq⟩:=E.Tu J kg (B:=w.heap.size) (by omega) g.f (by omega) g.ar kf;have h1:=u.rel.keep hj;have kc:=h7.wbA;rcases hn with rfl|hn
    . obtain ⟨_,kh,_,_,xR,kz,rfl⟩:=x.some;have k8:=h7.ref ⟨_,_,km⟩ (Ge h1 kz ⟨⟨_,kj⟩,z,kh⟩) u.ow (T:=t+2) (by omega);have r7:=kc.cells.2.2.2.2.2.1;have f7:=aj.R3 kc 5;have X:=al k8;clear k8 E u J x K km kj kg g y i z l H I k0 k7 q7 h7 hj hq h1 kc kz kf;go_wp2_with fail;refine (ja 0 _).mono ?_;rintro e w8 ⟨rfl,rfl⟩;go_wp2;go_ret;exact ⟨rfl,X.out⟩
    . have ky:n≠0:=by rcases hn with rfl|rfl<;>decide
      obtain rfl:=x.none ky;obtain ⟨qe,qf,q4⟩:=u.ref;have kb:r≠q1:=q3;have ks:Dc w7 r Q xs' out want:=⟨⟨_,_,hq r _ _ _ kb q4⟩,h1,u.ow⟩;have q5:=mL h7 ks ⟨4,0,⟨#[]⟩,[]⟩ (Z6 Z0 0 0) ⟨_,_,_,rfl⟩ rfl (C:=λ_=>True) trivial;have HL:=au q5 K;clear E u J x K km kj kg g y i z l H I k0 k7 q7 h7 hj hq h1 kc kf q4 kb ks q5 q3 ky;rcases hn with rfl|rfl;all_goals (
       go_wp2_with fail;refine HL.out.1.mono ?_;rintro e w8 ⟨rfl,hM⟩;have X:=al hM;clear hM;go_wp2;go_ret;exact ⟨rfl,X.out.mono (by have:=HL.out.2;omega) λ_ q=>q⟩)
theorem CY (h:MB w0 w wb D L G nb t xs p r sa ar v Kind ps pg ob P A F out want cache) (hc:Dc w r Q xs out want) (o:nJ) (dv:ZV) (q4:∃ H m I,dv=.slice H m I) (q6:t<1000000) (hk:o.kind=3) :
 ZU ZT 13 #[Z7 (ZZ ⟨wb,0,Z0⟩),.agg #[Z8 Z9 o.kind,Z8 Z9 o.a,Z1 o.s,dv]] w λe w'=>e=Z4 (Z3 ZY)/\MS (λ_=>True) w0 w' wb D L G nb (t+2):=by
 obtain ⟨H,m,I,rfl⟩:=q4;have HB:=al (show w0.heap.size<=w.heap.size/\r<w.heap.size from ⟨h.base.size,by obtain ⟨_,_,hr⟩:=hc.ref;exact (TX.1 hr.top).1⟩);obtain ⟨w1,kj⟩:=nM (w.alloc (Z5 #[Z8 Z9 o.kind,Z8 Z9 o.a,Z1 o.s,.slice H m I] 33));have d:=OA h hc o _ kj;obtain ⟨x0,x1,x2,x3⟩:=d.op.cells;have r1:=d.b.wbA.cells.2.2.2.2.2.1;obtain ⟨rb,rv,hr⟩:=d.c.ref;have l:Q.length<=1000:=by
  rw [d.c.rel.len];have:=d.b.live.Sa.1;simpa [aY.os] using this
 have kr:=jS hr (by omega) d.c.rel.sl;obtain ⟨q0,g⟩:=nM (w.heap.size);have Y:=aE d g l;clear d h hc hr;rw [hk] at x0 kj ⊢;rw [g] at x0 x1 x2 x3;have HK:=al hk;clear hk;go_enter func13,ntmps13;go_wp2_with fail;clear g kj x1 x0;refine kr.mono ?_;rintro e w2 ⟨rfl,⟨u2,W⟩,E⟩;clear kr r1 x2 x3;obtain ⟨d,g,l⟩:=Y.out;have y:=d.b.below E;have z:iw w2 q0 o (.slice H m I):=by rw [<- g];exact aj.keep d.op (E.block _ d.lt)
 obtain ⟨y0,y1,y2,y3⟩:=z.cells;rw [HK.out] at y0;have s2:=y.wbA.cells.2.2.2.2.1;have N:bW w2 w2.drew:=(TY _ w2).drew;have k9:=y.below N;have hz:=Gc k9.box k9.live q6 o.s;have H2:=a6 y z E W N;clear d g l y z E W N k9;obtain ⟨q1,O⟩:=nM (w1.heap.size);rw [O];have HQ:=al O;clear O;go_upto_region 12 with fail;go_cut [9] from 57 to 63 (λv9 wx=>cC w2.drew ar v p ps D L G t xs A F (uV xs A.clean o.s) (Aj xs o.s) (Z4 v9) wx)
 case first=>
  go_region_with (go_at_call 21;refine hz.mono ?_;rintro e w3 kh;obtain ⟨rr,_,_,_,_,_,_,rfl,_⟩:=id kh;have H3:=al kh;clear kh);all_goals (go_wp2_with fail;go_meet;case rel=>exact H3.out)
 case rest=>
  obtain ⟨n,t',q9,q8,P',xs',B,hN,ks,hs,kk,x,i⟩:=Ak hcut;change MF n xs A.clean o.s xs' at i;obtain ⟨d,g,l⟩:=Y.out;obtain ⟨y,z,E,W,N⟩:=H2.out;have hf:aa (λj=>j=ar\/F.S j) w2 wc:=(aa.RS N _).trans kk;obtain ⟨J,kf⟩:=y.call hf ks hs.nb;have X:=kf.ref W lR;have V:=(d.c.keep (fa.below E _) lR).keep kf lR;have M:iw wc q0 o (.slice H m I):=aj.keep z (hf.block _ (aj.lt z) (λe=>by
   rcases e with e|e
   . have:=d.ar;omega
   . have:=d.f _ e;omega))
  have q2:=jU hN J.gl;have H3:=a7 J V X M i x;clear hN i d g l y z E W N hf J kf X V M ks hs x kk hcut hz y0 y1 y2 y3 s2;go_wp2_with fail;refine q2.mono ?_;rintro e w4 ⟨rfl,U⟩;clear q2;obtain ⟨J,V,X,M,i,x⟩:=H3.out;obtain ⟨d,g,l⟩:=Y.out;have K:=J.below U;have k:=V.keep (fa.below U _) lR;have u:=(fa.below U _).ref X lR;have km:iw w4 q0 o (.slice H m I):=aj.keep M (U.block _ (aj.lt M));obtain ⟨_,_,z2,_⟩:=km.cells;rw [HQ.out] at u;have kx:=qX u (by omega) k.rel.sl o.s;have H4:=a6 K k u i x;clear J V X M i x d g l K k u km U;go_wp2_with fail;refine kx.mono ?_;rintro e w7 k8;clear kx z2;obtain ⟨K,k,u,i,x⟩:=H4.out;obtain ⟨d,g,l⟩:=Y.out;have hv:=d.ar;have k0:=d.lt;have O:=HQ.out;have q3:=d.b.live.vlt;have ka:w0.heap.size<=w.heap.size:=HB.out.1;have ki:r≠q1:=by have:=HB.out.2;omega
  have kb:aa (λj=>j=q1) w4 w7:=by
   rcases k8 with ⟨_,_,rfl⟩|⟨_,_,_,rfl⟩|⟨_,_,_,_,_,hO⟩
   . exact aa.refl _ _
   . exact aa.refl _ _
   . exact hO
  obtain ⟨⟨f7,q5,ke⟩,_,kg,kc⟩:=MG u k8 i k.rel d.b.live.disk.up (T9 _) (T9 _);subst q5;obtain ⟨R,hi,hj⟩:=K.Tu u kb (B:=w.heap.size) (by omega) d.f (by omega) d.ar ka;have Z:=k.rel.keep hi;have k7:=R.wbA;by_cases n3:n=3
  . subst n3;have q7:xs'=xs:=by
     rcases i with ⟨e,_⟩|⟨e,_⟩
     . cases e
     . exact e
    subst q7;obtain ⟨qa,qb,ky⟩:=k.ref;have kp:Dc w7 r Q xs' out want:=⟨⟨_,_,hj r _ _ _ ki ky⟩,Z,k.ow⟩;have kz:=mL R kp ⟨4,0,⟨#[]⟩,[]⟩ (Z6 Z0 0 0) ⟨_,_,_,rfl⟩ rfl (C:=λ_=>True) trivial;have HL:=au kz x;clear K k u i x k8 kb d g l hv k0 O q3 R hi hj Z k7 ka ky kp kz ki kc ke;go_wp2_with fail;refine HL.out.1.mono ?_;rintro e w8 ⟨rfl,hM⟩;have HF:=al hM;clear hM;go_wp2;go_ret;exact ⟨rfl,HF.out.mono (by have:=HL.out.2;omega) λ_ q=>q⟩
  . obtain ⟨Q',ko,he⟩:=kc n3;obtain rfl:=ke n3;have kv:=R.ref ko (he _ Z) k.ow (T:=t+2) (by omega);have r7:=k7.cells.2.2.2.2.2.1;have hd:=aj.R3 k7 5;have HF:=al kv;have b3:(f7==(3:Int))=ZX:=(by simpa using n3);have hb:(f7==(10:Int))=ZX:=(by simpa using kg);clear kv K k u i x k8 kb d g l hv k0 O q3 R hi hj Z k7 ka ki kc ke ko he;go_wp2_with fail;refine (ja _ _).mono ?_;rintro e w8 ⟨rfl,rfl⟩;go_wp2;go_ret;exact ⟨rfl,HF.out⟩
theorem Al (h:MB w0 w wb D L G nb t xs p r sa ar v Kind ps pg ob P A F out want cache) (u:Dc w r Q xs out want) (o:nJ) (l:ZV) (C:∃ g m i,l=.slice g m i) (E:o.kind≠1) (H:o.kind≠3) :
 ZU ZT 13 #[Z7 (ZZ ⟨wb,0,Z0⟩),.agg #[Z8 Z9 o.kind,Z8 Z9 o.a,Z1 o.s,l]] w λe w'=>e=Z4 (Z3 ZY)/\MS (λ_=>True) w0 w' wb D L G nb (t+2):=by
 obtain ⟨g,m,i,rfl⟩:=C;obtain ⟨w1,k⟩:=nM (w.alloc (Z5 #[Z8 Z9 o.kind,Z8 Z9 o.a,Z1 o.s,.slice g m i] 33));have d:=OA h u o _ k;obtain ⟨y,K,M,N⟩:=d.op.cells;have J:=d.b.wbA.cells.2.2.2.2.2.1;obtain ⟨S,rv,x⟩:=d.c.ref;have R:Q.length<=1000:=by
  rw [d.c.rel.len];have:=d.b.live.Sa.1;simpa [aY.os] using this
 have q:=jS x (by omega) d.c.rel.sl;obtain ⟨kd,f⟩:=nM (o.kind);have B:=au d f;clear d h u x;rw [f] at E H y k ⊢;clear f;go_enter func13,ntmps13;go_wp2_with fail;clear k;refine q.mono ?_;rintro e w2 ⟨rfl,⟨u2,I⟩,j⟩;obtain ⟨d,f⟩:=B.out;have n:iw w2 w.heap.size o (.slice g m i):=aj.keep d.op (j.block _ d.lt);have O:=n.cells.1;rw [f] at O;have z:=al (show MS (λ_=>True) w0 w2 wb D L G nb (t+2) from ⟨_,_,_,_,_,_,_,_,_,_,_,_,_,_,_,_,_,_,d.b.below j,d.c.keep (fa.below j _) lR,by omega,trivial⟩);clear d f n I j q J y K M N;go_wp2;go_ret;exact ⟨rfl,z.out⟩
end
end
section
open Go.ChangeShapes Go.WideShapes Go.Joins
def Tryz.Sp:laidOutB ZT=ZY:=by kernel_rfl
def Tryz.S7:ZT.cellsOf 33=4:=by kernel_rfl
def Tryz.SA:ZT.cellsOf 3=1:=by kernel_rfl
def Tryz.Ta:ZT.cellsOf 9=1:=by kernel_rfl
def Tryz.SJ:ZT.cellsOf 31=1:=by kernel_rfl
def Tryz.SN:ZT.cellsOf 5=1:=by kernel_rfl
def Tryz.SY:ZT.bytesOf 5=1:=by kernel_rfl
instance:Inhabited nJ:=⟨⟨0,0,YD,[]⟩⟩
def yt:reachBytes=140737488351232:=rfl
def QO {l:List ZV} (h:l.length=4):∃ a b c d,l=[a,b,c,d]:=by
 match l,h with
 | [a,b,c,d],_=>exact ⟨a,b,c,d,rfl⟩
def lh {P:Program} {e:TypeId}:∀ {ds:List (DataW H)} {d:DataW H},d∈ds->∀ n∈d.weights P e,n∈DataW.weightsAll P e ds
 | b::ds,d,a,n,hn=>by
  simp only [DataW.weightsAll,Uf];rcases Ur.1 a with rfl|a
  . exact .inl hn
  . exact .inr (lh a n hn)
def Fi {enc:TypeId×ZV->H} {v:ZV} {x:DataW H×List MemPlace} (h:DataW.trod enc ZT W 0 (λ_=>ZY) ZY n 31 [v]=ZZ x) (t:∀ k∈x.1.weights ZT 31,k<=reachBytes):∃ l:a8,Bs W v l:=by
 rcases open_ints Uh W4 Tryz.SN h with ⟨c,_⟩|⟨a,len,cap,d,c,_,hl,F,C,A,g,m⟩
 . simp at c;exact ⟨[],Z0,0,c,by simp,by simp,by simp,λh=>absurd rfl h⟩
 . simp at c;simp only [if_true] at C;subst A;have w:=t (d.length*1) (by
    simp only [DataW.weights,Uh,lits,Tryz.SY];refine Ur.2 (.inl ?_);simp only [T7,Ui,Uj];omega)
   rw [yt] at w;have hll:((d.take len).map Int.toNat).length=len:=(by simp;omega);refine ⟨(d.take len).map Int.toNat,ZZ a,cap,by rw [hll];exact c,by rw [hll];exact hl,by rw [hll];omega,λy B=>?_,λr=>?_⟩
   . obtain ⟨z,u,rfl⟩:=T6.1 B;have:=bounds_u8 (m z (UN u));omega
   . have:0<len:=by
      rcases WS len with e|e
      . subst e;exact absurd rfl r
      . exact e
     obtain ⟨b,o,sp⟩:=a;have p:=g 0 (by omega);have s:sp=Z0:=(by simpa [Addr.add] using abf p);subst s;refine ⟨b,o,rfl,λk j=>?_⟩;have q:k<len:=(by rw [hll] at j;exact j);have f:k<d.length:=(by omega);have i:=g k f;rw [Ww] at i;rw [i];have:=bounds_u8 (m _ (T4 f));simp [f,q];omega
def Fj {enc:TypeId×ZV->H} {cs:List ZV} {x:DataW H×List MemPlace} (h:DataW.trod enc ZT W 0 (λ_=>ZY) ZY n 33 cs=ZZ x) (i:∀ k∈x.1.weights ZT 33,k<=reachBytes) :
 ∃ o:nJ×ZV,cs=[Z8 Z9 o.1.kind,Z8 Z9 o.1.a,Z1 o.1.s,o.2]/\Bs W o.2 o.1.d/\o.1.s.size<=140737488355328:=by
 obtain ⟨l,p,q,r,m,rfl,hl,t,u,w,j⟩:=trod_struct4 underlying33 h;rw [Tryz.S7] at hl;obtain ⟨a,b,c,d,rfl⟩:=QO hl;obtain ⟨B,e,_,w0⟩:=W5 Wv t;obtain ⟨C,f,_,w1⟩:=W5 Wv u;obtain ⟨s,g,y,_⟩:=DataW.trod_string YB w;rw [show ZT.cellsOf 3=1 from Tryz.SA] at e f;rw [show ZT.cellsOf 9=1 from Tryz.Ta] at g;rw [show ZT.cellsOf 31=1 from Tryz.SJ] at j;simp at e f g;subst e f g;simp only [DataW.weights,underlying33] at i;obtain ⟨dl,z⟩:=Fi (v:=d) (by simpa using j) (λk A=>i k (by
  show k∈l.1.weights ZT _++(p.1.weights ZT _++(q.1.weights ZT _++(r.1.weights ZT 31++[])));simp only [Uf];exact .inr (.inr (.inr (.inl A)))))
 refine ⟨(⟨B,C,s,dl⟩,d),rfl,z,?_⟩;have:=i s.size (by
  show s.size∈l.1.weights ZT _++(p.1.weights ZT _++(q.1.weights ZT 9++(r.1.weights ZT _++[])));simp only [Uf];refine .inr (.inr (.inl ?_));rw [y];simp only [DataW.weights,Ur];exact .inl (show s.data.size=s.data.toList.length from Wk.symm))
 rw [yt] at this;show s.size<=_;omega
def mb {enc:TypeId×ZV->H} {d:DataW H} {ps:List MemPlace} (h:DataW.Trod enc ZT W 0 (λ_=>ZY) ZY 22 (.slice ao len0 cap0) d ps) (B:∀ n∈d.weights ZT 22,n<=reachBytes) :
 ∃ l:List nJ,QM W (.slice ao len0 cap0) l/\∀ x∈l,x.s.size<=140737488355328/\x.d.length<=140737488355328:=by
 obtain ⟨fuel,g⟩:=h;rcases open_slice underlying22 g with ⟨r,_⟩|⟨a,len,cap,m,T,D,R,r,_,hl,S,A,q,z⟩
 . simp [Value.cells] at r;obtain ⟨rfl,rfl,rfl⟩:=r;exact ⟨[],⟨Z0,0,rfl,λh=>absurd rfl h⟩,λx q=>(by cases q)⟩
 . simp [Value.cells] at r;obtain ⟨rfl,rfl,rfl⟩:=r;simp only [WR] at q;obtain ⟨rfl,_⟩:=q;simp only [DataW.weights,underlying22] at B;simp only [if_true] at A;have K:=A.symm;subst K;rw [Tryz.S7] at z;obtain ⟨f,g⟩:=choose_lt (α:=nJ×ZV) (n:=len0) (p:=λi s=>(∀ j,j<4->W.cell? ((a.add (i*4)).add j)=([Z8 Z9 s.1.kind,Z8 Z9 s.1.a,Z1 s.1.s,s.2]:List ZV)[j]?)/\Bs W s.2 s.1.d/\s.1.s.size<=140737488355328) (λi t=>by
    obtain ⟨cs',I,J⟩:=z i (by omega);obtain ⟨s,rfl,v⟩:=Fj J (λk Q=>B k (UJ _ (UB _ (lh (d:=D i) (T6.2 ⟨i,Uy.2 t,rfl⟩) k Q))));obtain ⟨_,_,c⟩:=World.cells?_some I;exact ⟨s,c,v⟩)
   obtain ⟨b,o,sp⟩:=a;refine ⟨(YE len0).map λi=>(f i).1,⟨ZZ ⟨b,o,sp⟩,cap0,by simp,λO=>?_⟩,λx q=>?_⟩
   . have w:0<len0:=by
      rcases WS len0 with e|e
      . subst e;exact absurd rfl O
      . exact e
     have L:=(g 0 w).1 0 (by decide);have P:sp=Z0:=by
      have:W.cell? (((⟨b,o,sp⟩:Addr).add (0*4)).add 0)=ZZ (Z8 Z9 (f 0).1.kind):=L;simpa [Addr.add] using abf this
     subst P;have y:=(g 0 w).1 0 (by decide);rw [Ww,Ww] at y;refine ⟨b,o,rfl,Ub (show W.cell? _=ZZ _ from y),λi t=>?_⟩;have M:i<len0:=(by simpa using t);obtain ⟨c,u,_⟩:=g i M;have C:=c 0 (by decide);have E:=c 1 (by decide);have F:=c 2 (by decide);have G:=c 3 (by decide);rw [Ww,Ww] at C E F G;simp only [Ve,YF];exact ⟨(f i).2,C,E,F,G,u⟩
   . obtain ⟨i,t,rfl⟩:=T6.1 q;obtain ⟨_,u,v⟩:=g i (by simpa using t);obtain ⟨_,_,_,_,N,_⟩:=u;exact ⟨v,N⟩
end
section
open Go.ChangeShapes Go.WideShapes Go.Joins
structure OX where
 kind:Int
 drive:Int
 block:Int
 bit:Int
 at_:Int
def OX.cs (f:OX):List ZV:=[Z8 Z9 f.kind,Z8 Z9 f.drive,Z8 Z9 f.block,Z8 Z9 f.bit,Z8 Z9 f.at_]
def Fts (w:ZW) (v:ZV) (l:List OX):Prop:=
 ∃ ao c,v=.slice ao l.length c/\(l≠[]->∃ b off,ao=ZZ ⟨b,off,Z0⟩/\b<w.heap.size/\∀ i (hi:i<l.length),w.cell? ⟨b,off+i*5,Z0⟩=ZZ (Z8 Z9 l[i].kind)/\w.cell? ⟨b,off+i*5+1,Z0⟩=ZZ (Z8 Z9 l[i].drive)/\w.cell? ⟨b,off+i*5+2,Z0⟩=ZZ (Z8 Z9 l[i].block)/\w.cell? ⟨b,off+i*5+3,Z0⟩=ZZ (Z8 Z9 l[i].bit)/\w.cell? ⟨b,off+i*5+4,Z0⟩=ZZ (Z8 Z9 l[i].at_))
def Tryz.Ss:ZT.cellsOf 37=5:=by kernel_rfl
instance:Inhabited OX:=⟨⟨0,0,0,0,0⟩⟩
def MI {α:Type} {l:List α} (h:l.length=5):∃ a b c d e,l=[a,b,c,d,e]:=by
 match l,h with
 | [a,b,c,d,e],_=>exact ⟨a,b,c,d,e,rfl⟩
def vR {enc:TypeId×ZV->H} {cs:List ZV} {x:DataW H×List MemPlace} (h:DataW.trod enc ZT W 0 (λ_=>ZY) ZY n 37 cs=ZZ x):∃ o:OX,cs=o.cs:=by
 obtain ⟨xs,m,_,_,hl,p,f⟩:=DataW.trod_struct underlying37 h;rw [Tryz.Ss] at hl;obtain ⟨a,b,c,d,e,rfl⟩:=MI hl;obtain ⟨q,r,s,t,u,rfl⟩:=MI (show xs.length=5 from p);obtain ⟨v,g,_⟩:=W5 (x:=q) Wv (f 0 _ rfl);obtain ⟨w,i,_⟩:=W5 (x:=r) Wv (f 1 _ rfl);obtain ⟨y,j,_⟩:=W5 (x:=s) Wv (f 2 _ rfl);obtain ⟨z,k,_⟩:=W5 (x:=t) Wv (f 3 _ rfl);obtain ⟨A,l,_⟩:=W5 (x:=u) Wv (f 4 _ rfl);simp [Tryz.SA] at g i j k l;subst g i j k l;exact ⟨⟨v,w,y,z,A⟩,rfl⟩
def uW {enc:TypeId×ZV->H} {d:DataW H} {ps:List MemPlace} (h:DataW.Trod enc ZT W 0 (λ_=>ZY) ZY 23 (.slice ao len0 cap0) d ps) :
 ∃ l:List OX,Fts W (.slice ao len0 cap0) l:=by
 obtain ⟨fuel,k⟩:=h;rcases open_slice underlying23 k with ⟨g,_⟩|⟨a,len,cap,m,L,D,I,g,_,hl,J,t,K,r⟩
 . simp [Value.cells] at g;obtain ⟨rfl,rfl,rfl⟩:=g;exact ⟨[],Z0,0,rfl,λh=>absurd rfl h⟩
 . simp [Value.cells] at g;obtain ⟨rfl,rfl,rfl⟩:=g;simp only [if_true] at t;have C:=t.symm;subst C;rw [Tryz.Ss] at r;obtain ⟨f,k⟩:=choose_lt (α:=OX) (n:=len0) (p:=λi s=>∀ j,j<5->W.cell? ((a.add (i*5)).add j)=s.cs[j]?) (λi u=>by
    obtain ⟨cs',A,B⟩:=r i (by omega);obtain ⟨s,rfl⟩:=vR B;obtain ⟨_,_,c⟩:=World.cells?_some A;exact ⟨s,c⟩)
   obtain ⟨b,o,sp⟩:=a;refine ⟨(YE len0).map f,ZZ ⟨b,o,sp⟩,cap0,by simp,λF=>?_⟩;have E:0<len0:=by
    rcases WS len0 with e|e
    . subst e;exact absurd rfl F
    . exact e
   have q:=k 0 E 0 (by decide);have G:sp=Z0:=by
    have:W.cell? (((⟨b,o,sp⟩:Addr).add (0*5)).add 0)=ZZ (Z8 Z9 (f 0).kind):=q;simpa [Addr.add] using abf this
   subst G;rw [Ww,Ww] at q;refine ⟨b,o,rfl,Ub (show W.cell? _=ZZ _ from q),λi u=>?_⟩;have c:=k i (by simpa using u);have v:=c 0 (by decide);have w:=c 1 (by decide);have x:=c 2 (by decide);have y:=c 3 (by decide);have z:=c 4 (by decide);rw [Ww,Ww] at v w x y z;simp only [Ve,YF];exact ⟨v,w,x,y,z⟩
end
noncomputable def RRu:Array Oper:=((Tryz.f3.body.bind (pe · 21))).getD #[]
def Am:List (Op×Option Nat×a8):=[(Op.move (Z2 16),ZZ 89,[]),
 (Op.load 26 (Z2 15),ZZ 90,[]),
 (Op.call { callee:=Callee.value (Operand.func 9),args:=#[Z2 90],argTypes:=#[26] },ZZ 91,[1]),
 (Op.binOp BinOp.shl 39 (Operand.const (Value.int IntKind.u64 1)) (Z2 91) 3,ZZ 92,[2]),
 (Op.binOp BinOp.sub 39 (Z2 92) (Operand.const (Value.int IntKind.u64 1)) 39,ZZ 93,[3]),
 (Op.load 37 (Z2 21),ZZ 94,[]),
 (Op.buildSlice 23 1 #[(0,Z2 94)],ZZ 95,[5]),
 (Op.move (Z2 19),ZZ 96,[]),
 (Op.call { callee:=Callee.value (Operand.func 8),args:=#[Z2 89,Z2 93,Z2 95,Operand.const (Value.int IntKind.i64 0),Z2 96],argTypes:=#[28,39,23,3,35] },ZZ 97,[0,4,6,7,2]),
 (Op.assign (Z2 97),ZZ 19,[8,8,0,1,2,3,4,5,6,7,8])]
def Jl:aL RRu 19 98 Am:=bw (by kernel_rfl) (by kernel_rfl)
theorem vS {P:Program} {m lo hi:Nat} {sh:List (Op×Option Nat×a8)} (Y:P.follows .mixedOrders=ZY) (x:aL ops lo hi sh) (c:Act) (w0:ZW) (Z:hi<=c.tmps.size)
 (V:Nat->ZV->ZW->Prop) (B:(Nat->Bool)->ZW->Prop) (S:B (λ_=>ZX) w0.drew) (r s:Nat) (hu:∀ i,i<sh.length->(bB sh i).1=(bB sh r).1->i=r) (hs:∀ i,i<sh.length->(bB sh i).2.1=ZZ s->r∈(bB sh i).2.2)
 (H:∀ i,i<sh.length->Fq (λo a w K=>(o.op=(bB sh r).1->a.eval (.tmp s)=c.eval (.tmp s))->o.wp P a w K Q) lo hi sh c V B i)
 (U:∀ (a:Act) (w:ZW),dD lo hi c a->(∀ s,(∀ i,i<sh.length->(bB sh i).2.1≠ZZ s)->a.eval (.tmp s)=c.eval (.tmp s))->(∃ D,(∀ i,i<sh.length->D i=ZY)/\B D w)->(∀ i,i<sh.length->V i (dM (bB sh i).2.1 a) w)->Q .normal a w):(Code.region m ops ZY).wp P Q c w0:=
 wp_region_any Y (py (Q:=Q .normal) (λo a w K=>(o.op=(bB sh r).1->a.eval (.tmp s)=c.eval (.tmp s))->o.wp P a w (λg w'=>(∃ v,g=a.put o.dst v)/\K g w') Q) (λf l a w=>(l.getD r ZY=ZX->a.eval (.tmp s)=c.eval (.tmp s))->wpAny P .any ops Q f l a w) (λ_ _ _ h q _=>⟨h,q⟩) (λf l a w n p z=>⟨λe=>absurd e n,λi hi=>by
  obtain ⟨o,y,C,h⟩:=p i hi;obtain ⟨q1,A,q3⟩:=mj.1 hi;have u:i<sh.length:=by rw [<- x.size];exact q1
  obtain ⟨o',k,E,F,_,G⟩:=x.get i u;obtain rfl:o=o':=UI (y.symm.trans k);unfold wpOp;rw [y];show if Region.wanted o (yielded ops a.tmps)=ZY then _ else _;rw [if_pos (by simp [Region.wanted,C])];refine .inl (Ya ?_ (h λhr=>z ?_))
  . rintro g w' ⟨⟨v,rfl⟩,T⟩;refine T λhl=>?_;have hq:i≠r:=λe=>by
     subst e;rw [Vj,Array.getElem?_setIfInBounds_self] at hl;split at hl<;>cases hl
    have j:l.getD r ZY=ZX:=by
     rw [Vj,X6,if_neg hq,<- Vj] at hl;exact hl
    refine Xf ?_ (z j);cases hd:o.dst with
    | none=>rfl
    | some d=>
     refine jE _ _ _ _ λe=>?_;have:=q3 r (by rw [G];exact hs i u (by rw [<- e];exact F.symm.trans hd));rw [Vj] at this j;cases hx:l[r]? with
     | none=>rw [hx] at this;cases this
     | some b=>rw [hx] at this j;exact absurd (this.symm.trans j) (by decide)
  . rw [hu i u (E.symm.trans hr)] at A;exact A⟩) (λo a w K K' h W t=>Ya (λg w' q=>⟨q.1,h _ _ q.2⟩) (W t)) x c _ Z V B S (λi hi o a w D n p I J L M N O R X t=>Ya (λg w' ⟨v,e,q⟩=>⟨⟨v,e⟩,v,e,q⟩) (H i hi o a w D n p I J L M N O R X t)) U λ_=>rfl)
def VRu (w:ZW) (J:ZV->ZW->Prop) (vs row:List ZV) (i:Nat) (u:ZV) (w':ZW):Prop:=match i with
 | 6=>∃ fb,u=Z6 (ZZ ⟨fb,0,Z0⟩) 1 1/\w.heap.size<=fb/\aj w' fb 37 row
 | 8=>J u w'
 | 9=>J u w'
 | _=>u=vs.getD i undef
def Jm:∀ i,i<Am.length->(bB Am i).1=(bB Am 7).1->i=7
 | 0,_,h|1,_,h|2,_,h|3,_,h|4,_,h|5,_,h|6,_,h|8,_,h|9,_,h=>by cases h
 | 7,_,_=>rfl
 | n+10,hn,_=>absurd hn (by show ¬ n+10<10;omega)
def MJ:∀ i,i<Am.length->(bB Am i).2.1=ZZ 19->7∈(bB Am i).2.2
 | 0,_,h|1,_,h|2,_,h|3,_,h|4,_,h|5,_,h|6,_,h|7,_,h|8,_,h=>by cases h
 | 9,_,_=>by decide
 | n+10,hn,_=>absurd hn (by show ¬ n+10<10;omega)
def BRu (w:ZW) (Dn:Nat->Bool) (w':ZW):Prop:=Dn 8=ZX->bW w w'
def An (o:i<8) (a:Dn i=ZX) (b:∀ j,Dn j=ZY->j<Am.length/\∀ k∈(bB Am j).2.2,Dn k=ZY):Dn 8=ZX/\Dn 9=ZX:=by
 have c:Dn 8=ZX:=by
  cases c:Dn 8 with
  | false=>rfl
  | true=>
   have f:=(b 8 c).2 4 (by decide);have g:=(b 8 c).2 6 (by decide);have e:=(b 4 f).2 3 (by decide);have d:=(b 3 e).2 2 (by decide);have l:=(b 2 d).2 1 (by decide);have m:=(b 6 g).2 5 (by decide);have h:=(b 8 c).2 0 (by decide);have n:=(b 8 c).2 7 (by decide);match i,o with
   | 0,_=>rw [h] at a;cases a
   | 1,_=>rw [l] at a;cases a
   | 2,_=>rw [d] at a;cases a
   | 3,_=>rw [e] at a;cases a
   | 4,_=>rw [f] at a;cases a
   | 5,_=>rw [m] at a;cases a
   | 6,_=>rw [g] at a;cases a
   | 7,_=>rw [n] at a;cases a
 refine ⟨c,?_⟩;cases h9:Dn 9 with
 | false=>rfl
 | true=>have:=(b 9 h9).2 8 (by decide);rw [c] at this;cases this
def Ao (h:BRu w Dn w') (b:i≠8) (a:bW w' w''):BRu w (fI Dn i) w'':=λq=>by
 rw [bZ (λe=>b e.symm)] at q;exact (h q).trans (a.mono (h q).size)
def uX {J:ZV->ZW->Prop} {row:List ZV} {j:Nat} {u:ZV} (h:VRu w J vs row j u w') (a:j≠8) (b:j≠9) (c:∀ k,w.heap.size<=k->k<w'.heap.size->w''.heap[k]?=w'.heap[k]?):VRu w J vs row j u w'':=by
 match j,a,b,h with
 | 6,_,_,⟨fb,e,hf,hr⟩=>exact ⟨fb,e,hf,hr.keep (c _ hf hr.lt)⟩
 | 8,h,_,_=>exact absurd rfl h
 | 9,_,h,_=>exact absurd rfl h
 | 0,_,_,h|1,_,_,h|2,_,_,h|3,_,_,h|4,_,_,h|5,_,_,h|7,_,_,h|_+10,_,_,h=>exact h
theorem CZ {a:Act} {pb:Nat} {kd dr bl bt:Int} (J:ZV->ZW->Prop) (ha:RRu=ops) (k8:a.tmps.size=198) (M:yY D L G) (hp:aj w pb 26 [Z8 Z9 (D:Nat),Z8 Z9 (L:Nat),Z8 Z9 (G:Nat)]) (hf:aj w q 37 [Z8 Z9 kd,Z8 Z9 dr,Z8 Z9 bl,Z8 Z9 bt,Z8 Z9 0])
 (V:∀ X F,bW w X->w.heap.size<=F->aj X F 37 [Z8 Z9 kd,Z8 Z9 dr,Z8 Z9 bl,Z8 Z9 bt,Z8 Z9 0]->ZU ZT 8 #[Z7 (ZZ ⟨wb,0,Z0⟩),Z8 .u64 ((2^(D+L+G)-1:Nat):Int),Z6 (ZZ ⟨F,0,Z0⟩) 1 1,Z8 Z9 0,tv] X λe w'=>∃ A,e=Z4 A/\J A w'/\∀ k,w.heap.size<=k->k<X.heap.size->w'.heap[k]?=X.heap[k]?)
 (R:a.eval (Z2 16)=Z7 (ZZ ⟨wb,0,Z0⟩)) (P:a.eval (Z2 15)=Z7 (ZZ ⟨pb,0,Z0⟩)) (U:a.eval (Z2 21)=Z7 (ZZ ⟨q,0,Z0⟩)) (T:a.eval (Z2 19)=tv)
 (hQ:∀ (w':ZW) (vs:List ZV) (A:ZV),vs.length=9->J A w'->Q .normal (Act.RR (Act.RR a 19 [A]) 89 vs) w'):(Code.region 21 ops ZY).wp ZT Q a w:=by
 subst ha;obtain ⟨N,hN⟩:=nM (D+L+G);rw [hN] at V;have h8:N<=16:=by have:=M.s;omega
 have hq:2^N<=2^16:=Vq (by decide) h8;obtain ⟨S,W⟩:=nM (2^N);rw [W] at V hq;have k7:0<S:=by rw [<- W];exact VP N
 have hz:(2:Int)^N=(S:Nat):=by rw [<- W,XH];rfl
 have k0:IntKind.u64.wrap ((S:Int)-1)=((S-1:Nat):Int):=by rw [U5];omega
 have k5:(S:Int)%18446744073709551616=(S:Int):=by omega
 have k6:IntKind.u64.wrap (S:Int)=(S:Int):=by rw [U5];omega
 have hv:∀ X,ZU ZT 9 #[.agg #[Z8 Z9 (D:Nat),Z8 Z9 (L:Nat),Z8 Z9 (G:Nat)]] X λe w'=>e=Z4 (Z8 Z9 (N:Nat))/\bW X w':=λX=>by
  rw [<- hN,show ((D+L+G:Nat):Int)=(D:Int)+L+G by omega];have:=M.d;have:=M.l4;have:=M.g;exact dE (D:Int) (L:Int) (G:Int) X ⟨by omega,by omega⟩ ⟨by omega,by omega⟩ ⟨by omega,by omega⟩
 obtain ⟨row,Z⟩:∃ row,row=[Value.int .i64 kd,Z8 Z9 dr,Z8 Z9 bl,Z8 Z9 bt,Z8 Z9 0]:=⟨_,rfl⟩;obtain ⟨vs,y⟩:∃ vs,vs=[Value.pointer (ZZ ⟨wb,0,Z0⟩),.agg #[Z8 Z9 (D:Nat),Z8 Z9 (L:Nat),Z8 Z9 (G:Nat)],Z8 Z9 (N:Nat),Z8 .u64 (S:Nat),Z8 .u64 ((S-1:Nat):Int),.agg #[Z8 Z9 kd,Z8 Z9 dr,Z8 Z9 bl,Z8 Z9 bt,Z8 Z9 0],undef,tv]:=⟨_,rfl⟩;refine vS (by kernel_rfl) Jl a w (by omega) (VRu w J vs row) (BRu w) (λ_=>(TY _ w).drew) 7 19 Jm MJ ?_ ?_
 . have pure:∀ {i:Nat} {w':ZW} {Dn:Nat->Bool},i≠8->BRu w Dn w'->BRu w (fI Dn i) w':=λE h=>Ao h E (TY _ _);intro i E;match i,E with
   | 0,_=>exact λo b w' Dn C ho m B _ t x p c l _=>af (ag ho ((B.slot 16 (by omega)).trans R) w') m ⟨pure (by decide) c,by rw [y];rfl,kq⟩
   | 1,_=>
    intro o b w' Dn C ho m B _ t x p c l _;have u0:b.eval (Z2 15)=Z7 (ZZ ⟨pb,0,Z0⟩):=(B.slot 15 (by omega)).trans P;have Y:=hp.keep ((c (An (by decide) t x).1).block _ hp.lt);have c0:=Y.cell (j:=0) (u:=Z8 Z9 (D:Nat)) rfl;have c1:=Y.cell (j:=1) (u:=Z8 Z9 (L:Nat)) rfl;have c2:=Y.cell (j:=2) (u:=Z8 Z9 (G:Nat)) rfl;exact af (v:=.agg #[Z8 Z9 (D:Nat),Z8 Z9 (L:Nat),Z8 Z9 (G:Nat)]) (by (conv at ho=>rhs;whnf);simp only [execOp,ho,u0];go_simp) m ⟨pure (by decide) c,by rw [y];rfl,kq⟩
   | 2,_=>
    intro o b w' Dn C ho m B _ t x p c l _;have u0:b.eval (Z2 90)=.agg #[Z8 Z9 (D:Nat),Z8 Z9 (L:Nat),Z8 Z9 (G:Nat)]:=(by have:=l 1 (p 1 (by decide));rw [y] at this;exact this);refine gj (f:=9) (args:=#[.agg #[Z8 Z9 (D:Nat),Z8 Z9 (L:Nat),Z8 Z9 (G:Nat)]]) (w1:=w') (by (conv at ho=>rhs;whnf);simp only [execOp,ho];go_simp;simpa [Act.eval] using u0) m (hv w') ?_;rintro e w'' ⟨rfl,I⟩;obtain ⟨K,O⟩:=An (by decide) t x;exact ⟨_,rfl,Ao c (by decide) I,by rw [y];rfl,λj u z r=>uX r (λe=>by rw [e,K] at z;cases z) (λe=>by rw [e,O] at z;cases z) λk _ h=>I.block k h⟩
   | 3,_=>
    intro o b w' Dn C ho m B _ t x p c l _;have u0:b.eval (Z2 91)=Z8 Z9 (N:Nat):=(by have:=l 2 (p 2 (by decide));rw [y] at this;exact this);exact af (v:=Z8 .u64 (S:Nat)) (by (conv at ho=>rhs;whnf);simp only [execOp,ho,u0];go_simp) m ⟨pure (by decide) c,by rw [y];rfl,kq⟩
   | 4,_=>
    intro o b w' Dn C ho m B _ t x p c l _;have u0:b.eval (Z2 92)=Z8 .u64 (S:Nat):=(by have:=l 3 (p 3 (by decide));rw [y] at this;exact this);exact af (v:=Z8 .u64 ((S-1:Nat):Int)) (by (conv at ho=>rhs;whnf);simp only [execOp,ho,u0];go_simp) m ⟨pure (by decide) c,by rw [y];rfl,kq⟩
   | 5,_=>
    intro o b w' Dn C ho m B hx t x p c l _;have u0:b.eval (Z2 21)=Z7 (ZZ ⟨q,0,Z0⟩):=(hx 21 (by decide)).trans U;have H:=hf.keep ((c (An (by decide) t x).1).block _ hf.lt);have c0:=H.cell (j:=0) (u:=Z8 Z9 kd) rfl;have c1:=H.cell (j:=1) (u:=Z8 Z9 dr) rfl;have c2:=H.cell (j:=2) (u:=Z8 Z9 bl) rfl;have c3:=H.cell (j:=3) (u:=Z8 Z9 bt) rfl;have c4:=H.cell (j:=4) (u:=Z8 Z9 0) rfl;exact af (v:=.agg #[Z8 Z9 kd,Z8 Z9 dr,Z8 Z9 bl,Z8 Z9 bt,Z8 Z9 0]) (by (conv at ho=>rhs;whnf);simp only [execOp,ho,u0];go_simp) m ⟨pure (by decide) c,by rw [y];rfl,kq⟩
   | 6,_=>
    intro o b w' Dn C ho m B _ t x p c l _;have u0:b.eval (Z2 94)=.agg #[Z8 Z9 kd,Z8 Z9 dr,Z8 Z9 bl,Z8 Z9 bt,Z8 Z9 0]:=(by have:=l 5 (p 5 (by decide));rw [y] at this;exact this);obtain ⟨K,O⟩:=An (by decide) t x;have I:bW w' (w'.alloc (Z5 #[Z8 Z9 kd,Z8 Z9 dr,Z8 Z9 bl,Z8 Z9 bt,Z8 Z9 0] 37)):=bA w' _;exact af (v:=Z6 (ZZ ⟨w'.heap.size,0,Z0⟩) 1 1) (w':=w'.alloc (Z5 #[Z8 Z9 kd,Z8 Z9 dr,Z8 Z9 bl,Z8 Z9 bt,Z8 Z9 0] 37)) (by (conv at ho=>rhs;whnf);simp only [execOp,ho,Vr,Uu,UY,u0];go_simp) m ⟨Ao c (by decide) I,⟨_,rfl,(c K).size,by rw [Z];exact UG w' _⟩,λj u z r=>uX r (λe=>by rw [e,K] at z;cases z) (λe=>by rw [e,O] at z;cases z) λk _ h=>I.block k h⟩
   | 7,_=>
    intro o b w' Dn C ho m B _ t x p c l hs;exact af (ag ho ((hs ho).trans T) w') m ⟨pure (by decide) c,by rw [y];rfl,kq⟩
   | 8,_=>
    intro o b w' Dn C ho m B _ t x p c l _;have u0:b.eval (Z2 89)=Z7 (ZZ ⟨wb,0,Z0⟩):=(by have:=l 0 (p 0 (by decide));rw [y] at this;exact this);have u1:b.eval (Z2 93)=Z8 .u64 ((S-1:Nat):Int):=(by have:=l 4 (p 4 (by decide));rw [y] at this;exact this);obtain ⟨F,u2,hh,hr⟩:VRu w J vs row 6 (b.eval (Z2 95)) w':=l 6 (p 6 (by decide));have u3:b.eval (Z2 96)=tv:=(by have:=l 7 (p 7 (by decide));rw [y] at this;exact this);rw [Z] at hr;refine gj (f:=8) (args:=#[Z7 (ZZ ⟨wb,0,Z0⟩),Z8 .u64 ((S-1:Nat):Int),Z6 (ZZ ⟨F,0,Z0⟩) 1 1,Z8 Z9 0,tv]) (w1:=w') (by (conv at ho=>rhs;whnf);simp only [execOp,ho];go_simp;exact ⟨by simpa [Act.eval] using u0,by simpa [Act.eval] using u1,by simpa [Act.eval] using u2,by simpa [Act.eval] using u3⟩) m (V w' F (c t) hh hr) ?_;rintro e w'' ⟨A,rfl,hJ,hm⟩;exact ⟨_,rfl,λe=>by unfold fI at e;simp at e,hJ,λj u z r=>uX r (λe=>by rw [e,t] at z;cases z) (λe=>by have:=(x 9 (by rw [<- e];exact z)).2 8 (by decide);rw [t] at this;cases this) hm⟩
   | 9,_=>
    intro o b w' Dn C ho m B _ t x p c l _;have u0:J (b.eval (Z2 97)) w':=l 8 (p 8 (by decide));exact af (v:=b.eval (Z2 97)) (by (conv at ho=>rhs;whnf);simp only [execOp,ho];go_simp) m ⟨pure (by decide) c,u0,kq⟩
   | n+10,hn=>exact absurd hn (by show ¬ n+10<10;omega)
 . rintro b w' he h7 ⟨Dn,hy,c⟩ l;have e:b=Act.RR (Act.RR a 19 [b.eval (Z2 19)]) 89 ((YE 9).map λi=>b.eval (.tmp (89+i))):=PM he.size he.defers (ze h7) (by rfl) (by show 19+1<=89;omega) (by rw [T7,UC];omega) (λi E=>?_) (λi E=>?_)
   . rw [e];exact hQ w' _ _ (by rw [T7,UC]) (l 9 (by decide))
   . match i,E with
     | 0,_=>rfl
     | n+1,hn=>exact absurd hn (by simp)
   . rw [T7,UC] at E;rw [T5,Un,Vw E];rfl
def MK (h:MS aH.clean w0 w wb D L G nb T) (o:nJ) (b:ZV) (n:Bs w0 b o.d) (y:o.d.length<=100000) (B:T<1000000) (x:D<=6) (u:8<=nb) (C:o.kind<=5) :
 ZU ZT 7 #[Z7 (ZZ ⟨wb,0,Z0⟩),.agg #[Z8 Z9 o.kind,Z8 Z9 o.a,Z1 o.s,b]] w λe w'=>e=Z4 (Z3 ZY)/\MS aH.clean w0 w' wb D L G nb (T+1):=by
 obtain ⟨t,xs,Q,p,r,sa,ar,v,Kind,ps,pg,ob,P,A,F,out,want,cache,c,g,E,f⟩:=h;have j:∃ k m l,b=.slice k m l:=by obtain ⟨k,l,e,_⟩:=n;exact ⟨k,_,l,e⟩
 have i:∀ (e:Ending) (w':ZW),e=Z4 (Z3 ZY)/\MS aH.clean w0 w' wb D L G nb (t+1)->e=Z4 (Z3 ZY)/\MS aH.clean w0 w' wb D L G nb (T+1):=λe w' q=>⟨q.1,q.2.mono (by omega) λ_ q=>q⟩;by_cases z:o.kind<1
 . exact (Jh c g o b j z f).mono i
 by_cases k1:o.kind=1
 . exact (MC c g o b n y (by omega) x f k1).mono i
 by_cases k2:o.kind=2
 . exact (MD c g o b j k2 f).mono i
 by_cases k3:o.kind=3
 . exact (MH c g o b j (by omega) f k3).mono i
 by_cases k4:o.kind=4
 . exact (mL c g o b j k4 f).mono i
 . exact (Ji c g f (by rw [c.nb];exact u) o b j (by omega)).mono i
def C3 (h:MS C w0 w wb D L G nb T) (o:nJ) (b:ZV) (l:Bs w0 b o.d) (n:T<1000000) :
 ZU ZT 13 #[Z7 (ZZ ⟨wb,0,Z0⟩),.agg #[Z8 Z9 o.kind,Z8 Z9 o.a,Z1 o.s,b]] w λe w'=>e=Z4 (Z3 ZY)/\MS (λ_=>True) w0 w' wb D L G nb (T+2):=by
 obtain ⟨t,xs,Q,p,r,sa,ar,v,Kind,ps,pg,ob,P,A,F,out,want,cache,i,g,u,_⟩:=h;have k:∃ c m f,b=.slice c m f:=by obtain ⟨c,f,e,_⟩:=l;exact ⟨c,_,f,e⟩
 have j:∀ (e:Ending) (w':ZW),e=Z4 (Z3 ZY)/\MS (λ_=>True) w0 w' wb D L G nb (t+2)->e=Z4 (Z3 ZY)/\MS (λ_=>True) w0 w' wb D L G nb (T+2):=λe w' q=>⟨q.1,q.2.mono (by omega) λ_ q=>q⟩;by_cases k1:o.kind=1
 . exact (CX i g o b l (by omega) k1).mono j
 by_cases k3:o.kind=3
 . exact (CY i g o b k (by omega) k3).mono j
 . exact (Al i g o b k k1 k3).mono j
def MS.base (h:MS C w0 w wb D L G nb T):bW w0 w:=by
 obtain ⟨t,xs,Q,p,r,sa,ar,v,Kind,ps,pg,ob,P,A,F,out,want,cache,a,b,c⟩:=h;exact a.base
def RuR (C:aH->Prop) (w0:ZW) (wb D L G nb n T:Nat) (s:Nat) (ok i:ZV) (wr:ZW):Prop:=∃ k:Nat,k<=n/\i=Z8 Z9 (k:Nat)/\ok=Z3 ZY/\MS C w0 wr wb D L G nb (T+s*k)
def ObR (w0:ZW) (wb D L G T:Nat) (i:ZV) (wr:ZW):Prop:=∃ k:Nat,k<=1001/\i=Z8 Z9 (k:Nat)/\MS (λ_=>True) w0 wr wb D L G 200 T
def ObB (w0:ZW) (wb D L G T:Nat) (i ok:ZV) (wr:ZW):Prop:=ok=Z3 ZY/\ObR w0 wb D L G T i wr
def QM.below {v:ZV} (h:QM w v l) (a:bW w w'):QM w' v l:=by
 obtain ⟨ao,c,e,k⟩:=h;refine ⟨ao,c,e,λhl=>?_⟩;obtain ⟨b,off,g,d,j⟩:=k hl;refine ⟨b,off,g,TZ d a.size,λi m=>?_⟩;obtain ⟨f,n,o,p,q,r⟩:=j i m;exact ⟨f,(a.cell d).trans n,(a.cell d).trans o,(a.cell d).trans p,(a.cell d).trans q,r.mono a⟩
def OB (l:List nJ) (k:Nat) (a:k<l.length):l[k].d.length<=gh l:=by
 have:=rh l k a;have:=CR l (k+1);omega
def OpR (w0 w:ZW) (wb D L G:Nat) (e:Ending) (w2:ZW):Prop:=w2.heap[wb]?=w.heap[wb]?/\bD w2/\bW w0 w2/\((∃ sa,e=Z4 (.tuple #[Z7 (ZZ ⟨sa,0,Z0⟩),.nilIface])/\∀ w6,bW w2 w6->MS (λ_=>True) w0 (w6.setCell ⟨wb,4,Z0⟩ (Z7 (ZZ ⟨sa,0,Z0⟩))) wb D L G 200 300)\/e=Z4 (.tuple #[.pointer Z0,fJ]))
def OpR.two {w2:ZW} (h:OpR w0 w wb D L G e w2):∃ x y,e=Z4 (.tuple #[x,y]):=by
 rcases h.2.2.2 with ⟨sa,q,_⟩|q
 . exact ⟨_,_,q⟩
 . exact ⟨_,_,q⟩
def OC (h:MS C w0 w wb D L G nb T):ZU ZT 7 #[Z7 (ZZ ⟨wb,0,Z0⟩),.agg #[Z8 Z9 4,Z8 Z9 0,Z1 YD,Z6 Z0 0 0]] w λe w'=>e=Z4 (Z3 ZY)/\MS C w0 w' wb D L G nb (T+1):=by
 obtain ⟨t,xs,Q,p,r,sa,ar,v,Kind,ps,pg,ob,P,A,F,out,want,cache,b,a,d,c⟩:=h;exact (mL b a ⟨4,0,YD,[]⟩ (Z6 Z0 0 0) ⟨_,_,_,rfl⟩ rfl c).mono λe w' q=>⟨q.1,q.2.mono (by omega) λ_ q=>q⟩
def aan (h:vs.length=9):∃ a b c d e f g i j,vs=[a,b,c,d,e,f,g,i,j]:=by
 match vs,h with
 | [a,b,c,d,e,f,g,i,j],_=>exact ⟨_,_,_,_,_,_,_,_,_,rfl⟩
def QP (w:ZW) (e:Ending) (w':ZW):Prop:=e=Z4 (Z3 ZY)/\bW w w'
theorem Fk {sv fv bv:ZV} {l2:List nJ} {fl:List OX} (h:QM w sv l) (hs:∀ x∈l,x.s.size<=140737488355328/\x.d.length<=140737488355328) (a b c:Int) (hf:Fts w fv fl) (h2:QM w bv l2) (xg:∀ x∈l2,x.s.size<=140737488355328/\x.d.length<=140737488355328) (hg:bD w) (hv:bg w) (R:aG w) (hK:3<=w.heap.size) :
 ZU ZT 3 #[sv,Z8 Z9 a,Z8 Z9 b,Z8 Z9 c,fv,bv] w (QP w):=by
 have xi:=xY h hs;have kr:=λw' (hb:bW w w')=>xY (h2.below hb) xg;obtain ⟨ao,cp,rfl,h4⟩:=h;obtain ⟨bo,bp,xx,hi⟩:=id h2;subst xx;obtain ⟨fo,fp,rfl,qy⟩:=hf;have H:=hide7 h4 hi qy hg hv R kr;clear h4 hi qy hg hv R hs xg h2 kr;go_enter func3,ntmps3;go_wp2_with fail;refine xi.mono ?_;rintro e w1 ⟨bb,rfl,q8,ki⟩;clear xi;have ks:=H.out.2.2.2.2.2.2 w1 ki;have H1:=al ki;clear ki;go_wp2_with fail;refine ks.mono ?_;rintro e y9 ⟨hd,rfl,kb,ki⟩;have kk:=al (H1.out.trans (ki.mono H1.out.size));clear ks ki H1;by_cases qd:bb=ZY/\hd=ZY/\fl.length<=600;rotate_left
 . clear q8 kb;cases bb with
   | false=>
    go_wp2;go_ret;exact ⟨rfl,kk.out⟩
   | true=>
    cases hd with
    | false=>
     go_wp2;go_ret;exact ⟨rfl,kk.out⟩
    | true=>
     have hx:(600:Int)<(fl.length:Int):=by
      have:¬ fl.length<=600:=λq=>qd ⟨rfl,rfl,q⟩;omega
     clear qd;go_wp2;go_ret;exact ⟨rfl,kk.out⟩
 obtain ⟨rfl,rfl,y3⟩:=qd;obtain ⟨xa,qh⟩:=q8 rfl;obtain ⟨y6,xh⟩:=kb rfl;clear q8 kb;go_wp2_with fail;refine (Ot a b c y9).mono ?_;rintro e w2 ⟨D,L,G,rfl,hP,xq,qq⟩;have H2:=au hP (kk.out.trans (qq.mono kk.out.size));clear hP qq;go_wp2_with fail;obtain ⟨K,ky⟩:=nM (w2.alloc (Z5 #[Z8 Z9 (D:Nat),Z8 Z9 (L:Nat),Z8 Z9 (G:Nat)] 26));have kj:bW w K:=by rw [<- ky];exact H2.out.2.alloc H2.out.2.size _
 have qe:aj K w2.heap.size 26 [Z8 Z9 (D:Nat),Z8 Z9 (L:Nat),Z8 Z9 (G:Nat)]:=by rw [<- ky];exact UG w2 _
 rw [ky];have qs:=Jj (nb:=200) H2.out.1 (by omega) (by omega) 2 (H.out.2.2.2.1.below kj) (H.out.2.2.2.2.1.below kj H.out.2.2.2.2.1.lt) (H.out.2.2.2.2.2.1.keep (kj.block _ H.out.2.2.2.2.2.1.lt)) (TW hK kj.size);obtain ⟨pb,xf⟩:=nM (w2.heap.size);rw [xf] at qe ⊢;have E:=au kj qe;clear kj ky qe xf;refine qs.mono ?_;rintro e w4 ⟨wb,rfl,O⟩;have HM:=al O;clear O qs;go_wp2_with fail;go_loopw [17,18] (λok i wr=>RuR aH.clean K wb D L G 200 l.length 1 1 ok i wr) (λ_ i _=>l.length-(intOf i).toNat)
 case atStart=>exact ⟨0,T9 _,rfl,rfl,HM.out⟩
 case round=>
  obtain ⟨k,V,rfl,rfl,O⟩:=hrel;by_cases I:k<l.length
  . obtain ⟨sb,off,rfl,N,k7⟩:=H.out.1 (λe=>by rw [e] at I;simp at I);obtain ⟨dv,r1,r2,r3,r4,r5⟩:=k7 k I;have q9:l[k].d.length<=100000:=TW (OB l k I) qh;obtain ⟨o,ho⟩:=nM (l[k]);rw [ho] at r1 r2 r3 r5 q9;have z:bW w wr:=E.out.1.trans (O.base.mono E.out.1.size);have q1:=(z.cell (p:=⟨sb,off+k*4,Z0⟩) N).trans r1;have q2:=(z.cell (p:=⟨sb,off+k*4+1,Z0⟩) N).trans r2;have q3:=(z.cell (p:=⟨sb,off+k*4+2,Z0⟩) N).trans r3;have q4:=(z.cell (p:=⟨sb,off+k*4+3,Z0⟩) N).trans r4;obtain ⟨da,dc,qa,_⟩:=id r5;subst qa;obtain ⟨m,hm⟩:=nM (o.d.length);rw [hm] at q4 r5;have hh:(k:Int)<(l.length:Int):=(by omega);have k9:=λh5=>MK O o _ (r5.mono E.out.1) q9 (by omega) xq (by omega) h5;have qo:RuR aH.clean K wb D L G 200 l.length 1 1 (Z3 ZY) (Z8 Z9 ((k:Int)+1)) wr:=⟨k+1,by omega,rfl,rfl,O.mono (by omega) λ_ q=>q⟩;have H5:=au k9 qo;clear k9 qo z r1 r2 r3 r4 r5 q9 O k7 hm ho;by_cases h5:o.kind<=5
    . go_wp2_with fail;clear q1 q2 q3 q4;refine (H5.out.1 h5).mono ?_;rintro e w6 ⟨rfl,Y⟩;have H6:=al (show RuR aH.clean K wb D L G 200 l.length 1 1 (Z3 ZY) (Z8 Z9 ((k:Int)+1)) w6 from ⟨k+1,by omega,rfl,rfl,Y.mono (by omega) λ_ q=>q⟩);clear Y;go_wp2;exact ⟨H6.out,by simp [intOf];omega⟩
    . have y2:¬ o.kind<=(5:Int):=(by omega);clear h5;go_wp2;exact ⟨H5.out.2,by simp [intOf];omega⟩
  . have y0:k=l.length:=(by omega);subst y0;obtain ⟨t,xs,Q,p,r,sa,ar,v,Kind,ps,pg,ob,P,A,F,out,want,cache,y,J,R,qx⟩:=O;have U:=a5 y J R qx;clear y J R qx;go_wp2_with fail;go_loopw [19,20] (λtv i wx=>∃ k:Nat,k<=fl.length/\i=Z8 Z9 (k:Nat)/\FS wr wx p A F tv k) (λ_ i _=>fl.length-(intOf i).toNat)
    case atStart=>exact ⟨0,T9 _,rfl,A,[],aa.refl _ _,iM.of U.out.1.live.vol.arr (λi=>(U.out.2.2.2 i).2),⟨rfl,rfl,rfl,id⟩,UK _ _ _ _,TV _⟩
    case round=>
     rename ZW=>wy;obtain ⟨j,hj,rfl,kz⟩:=hrel;by_cases qc:j<fl.length
     . obtain ⟨W,off,xy,N,k7⟩:=H.out.2.2.1 (λe=>by rw [e] at qc;simp at qc);obtain ⟨r0,r1,r2,r3,r4⟩:=k7 j qc;obtain ⟨f,qz⟩:=nM (fl[j]);rw [qz] at r0 r1 r2 r3 r4;subst xy;obtain ⟨B,M,hO,k6,kh,k5,kv⟩:=id kz;have k0:bW K wy:=U.out.1.base.trans (hO.below λk V=>⟨TZ V U.out.1.base.size,λq=>by have:=U.out.1.fB k q;omega⟩);have z:bW w wy:=E.out.1.trans (k0.mono E.out.1.size);have q0:=(z.cell (p:=⟨W,off+j*5,Z0⟩) N).trans r0;have q1:=(z.cell (p:=⟨W,off+j*5+1,Z0⟩) N).trans r1;have q2:=(z.cell (p:=⟨W,off+j*5+2,Z0⟩) N).trans r2;have q3:=(z.cell (p:=⟨W,off+j*5+3,Z0⟩) N).trans r3;have q4:=(z.cell (p:=⟨W,off+j*5+4,Z0⟩) N).trans r4;have xz:(j:Int)<(fl.length:Int):=(by omega);have hz:bW wy (wy.alloc (Z5 #[Z8 Z9 f.kind,Z8 Z9 f.drive,Z8 Z9 f.block,Z8 Z9 f.bit,Z8 Z9 0] 37)):=bA wy _;have qf:aj (wy.alloc (Z5 #[Z8 Z9 f.kind,Z8 Z9 f.drive,Z8 Z9 f.block,Z8 Z9 f.bit,Z8 Z9 0] 37)) wy.heap.size 37 [Z8 Z9 f.kind,Z8 Z9 f.drive,Z8 Z9 f.block,Z8 Z9 f.bit,Z8 Z9 0]:=UG wy _;obtain ⟨w5,qi⟩:=nM (wy.alloc (Z5 #[Z8 Z9 f.kind,Z8 Z9 f.drive,Z8 Z9 f.block,Z8 Z9 f.bit,Z8 Z9 0] 37));rw [qi] at hz qf;obtain ⟨ta,tc,xm⟩:=bf k5;have k8:FS wr w5 p A F u19 (j+1):=⟨B,M,hO.trans (aa.RS hz _),k6.keep λk V=>hz.block k (k6.at.RU V),kh,k5.below hz,by omega⟩;have qp:f.kind≠1->∀ X fb,bW w5 X->w5.heap.size<=fb->aj X fb 37 [Z8 Z9 f.kind,Z8 Z9 f.drive,Z8 Z9 f.block,Z8 Z9 f.bit,Z8 Z9 0]->ZU ZT 8 #[Z7 (ZZ ⟨wb,0,Z0⟩),Z8 .u64 ((2^(D+L+G)-1:Nat):Int),Z6 (ZZ ⟨fb,0,Z0⟩) 1 1,Z8 Z9 0,u19] X λe w'=>∃ S,e=Z4 S/\FS wr w' p A F S (j+1)/\∀ k,w5.heap.size<=k->k<X.heap.size->w'.heap[k]?=X.heap[k]?:=λV X fb xv _ qg=>by
        have kc:bW wy X:=hz.trans (xv.mono hz.size);refine (Jk U.out.1 U.out.2.1 (hO.trans (aa.RS kc _)) (k6.keep λk V=>kc.block k (k6.at.RU V)) kh (k5.below kc) kv (by omega) (by decide) qg V _ rfl).mono ?_;rintro e w' ⟨S,he,hF,y1⟩;exact ⟨S,he,hF,λk h1 h2=>y1 k h2 (λq=>by have:=U.out.1.live.vol.arr.RU q;have:=hO.size;have:=hz.size;omega) λq=>by have:=(k5.lt k q).2;have:=hz.size;omega⟩
       have xe:aj w5 pb 26 _:=E.out.2.keep ((hz.block _ (TZ E.out.2.lt k0.size)).trans (k0.block _ E.out.2.lt));have HR:=a6 qp qf qi xe k8;clear kz hO k6 kh k5 kv z k0 r0 r1 r2 r3 r4 k7 qz qp hz qf qi xe k8;obtain ⟨tl,xk⟩:=nM (M.length);rw [xk] at xm;clear xk;by_cases x9:f.kind=1
       . have hN:∃ k:Nat,k<=fl.length/\Value.int .i64 ((j:Int)+1)=Z8 Z9 (k:Nat)/\FS wr (wy.alloc (Z5 #[Z8 Z9 f.kind,Z8 Z9 f.drive,Z8 Z9 f.block,Z8 Z9 f.bit,Z8 Z9 0] 37)) p A F u19 k:=⟨j+1,by omega,rfl,by rw [HR.out.2.2.1];exact HR.out.2.2.2.2⟩;rw [x9] at hN q0;have HN:=al hN;clear hN;go_wp2;exact ⟨HN.out,by simp [intOf];omega⟩
       . go_upto_region 21 with fail;rw [HR.out.2.2.1];clear q0 q1 q2 q3 q4;refine CZ (λS w'=>FS wr w' p A F S (j+1)) (by kernel_rfl) rfl H2.out.1 HR.out.2.2.2.1 HR.out.2.1 (HR.out.1 x9) rfl rfl rfl rfl ?_;intro w8 vs y8 xn h8;obtain ⟨x0,x1,x2,x3,x4,x5,x6,x7,x8,rfl⟩:=aan xn;have HN:=al (show ∃ k:Nat,k<=fl.length/\Value.int .i64 ((j:Int)+1)=Z8 Z9 (k:Nat)/\FS wr w8 p A F y8 k from ⟨j+1,by omega,rfl,h8⟩);clear h8 xn;try (rename_i qn;refine qn _ _ ?_;clear qn)
         simp only [Act.RR,Act.put,UW,UR,UX];go_wp2;exact ⟨HN.out,by simp [intOf];omega⟩
     . have y4:¬ (j:Int)<(fl.length:Int):=(by omega);obtain ⟨B,M,hO,k6,kh,k5,kv⟩:=kz;obtain ⟨ta,tc,xm⟩:=bf k5;obtain ⟨hB,qv⟩:=U.out.1.fault U.out.2.1 k6.at hO kh;have HB:=al (show MS (λ_=>True) K wy wb D L G 200 300 from ⟨t,xs,Q,p,r,sa,ar,v,Kind,ps,pg,ob,P,B,F,out,want,cache,hB,qv,by have:=U.out.2.2.1;omega,trivial⟩);clear hO k6 kh k5 kv hB qv U;go_wp2_with fail;go_loopw [17,22] (λok i wx=>ObB K wb D L G 300 i ok wx) (λ_ i _=>1001-(intOf i).toNat)
       case atStart=>exact ⟨rfl,0,T9 _,rfl,HB.out⟩
       case round=>
        rename ZW=>wz;clear HB;obtain ⟨rfl,k,V,rfl,t,xs,Q,p,r,sa,ar,v,Kind,ps,pg,ob,P,A,F,out,want,cache,y,J,R,_⟩:=hrel;obtain ⟨rb,rv,Z⟩:=J.ref;have c5:=y.wbA.cells.2.2.2.2.2.1;have c0:=Z.cell.1;have kf:=Z.shape;obtain ⟨ra,rc,rfl⟩:=bf Z.own;have ko:=J.rel.len;have km:Q.length<=1000:=by
         have:=y.live.Sa.1;have e:xs.os.length=xs.length:=(by simp [aY.os]);omega
        by_cases I:k<Q.length
        . obtain ⟨g,hg,n1⟩:∃ g,ra=ZZ ⟨g,0,Z0⟩/\wz.cell? ⟨g,k*2,Z0⟩=ZZ (Z1 Q[k].1):=by
           rcases kf with ⟨_,e⟩|⟨g,cap,e,_,_,h4⟩
           . rw [e] at I;simp at I
           . simp only [Vt] at e;exact ⟨g,e.1,(h4 k I).1⟩
          subst hg;obtain ⟨x,hx⟩:=nM (Q[k].1);rw [hx] at n1;have kp:=m7 (T:=300) y J R (C:=λ_=>True) trivial (T4 (show k<xs.length by omega)) ((J.rel.at k I (by omega)).1.symm.trans hx);obtain ⟨ql,hy⟩:=nM (Q.length);rw [hy] at c0 I km;have hh:(k:Int)<(ql:Int):=(by omega);have HL:=al kp;clear kp y J R Z kf ko hx hy;go_wp2_with fail;refine HL.out.mono ?_;rintro e w6 ⟨rfl,Y⟩;have H6:=al (show ObB K wb D L G 300 (Z8 Z9 ((k:Int)+1)) (Z3 ZY) w6 from ⟨rfl,k+1,by omega,rfl,Y⟩);clear Y c5 c0 n1;go_wp2;exact ⟨H6.out,by simp [intOf];omega⟩
        . obtain ⟨ql,hy⟩:=nM (Q.length);rw [hy] at c0 I km;have hh:¬ (k:Int)<(ql:Int):=(by omega);have c3:=y.wbA.cells.2.2.2.1;have z:=y.base;have kx:=aj.keep E.out.2 (z.block _ (aj.lt E.out.2));have p0:=aj.cell kx (j:=0) (u:=Z8 Z9 (D:Nat)) rfl;have p1:=aj.cell kx (j:=1) (u:=Z8 Z9 (L:Nat)) rfl;have p2:=aj.cell kx (j:=2) (u:=Z8 Z9 (G:Nat)) rfl;have kg:=y.live.vol;have k2:1<3:=(by decide);have q5:AB K wz wb D L G 200 t p r (Z7 (ZZ ⟨sa,0,Z0⟩)) xs A F out want cache 0:=⟨y.wbA,⟨_,rfl⟩,⟨kg.arr,kg.n,kg.par,by omega,by omega,by rw [y.nb];omega,y.live.nb,kg.laid,kg.tab,kg.room,λq=>by have:=y.fB _ q;have:=y.hK;omega,λq=>by have:=y.fB _ q;have:=y.hK;omega,.inr ⟨y.live.turn,P,y.live.disk⟩⟩,y.nb,y.base,y.TL,y.hK,y.TJ,y.fB⟩;have xd:ZU ZT 11 #[Z7 (ZZ ⟨p,0,Z0⟩),.agg #[Z8 Z9 (D:Nat),Z8 Z9 (L:Nat),Z8 Z9 (G:Nat)],.agg #[Z8 Z9 0]] wz.drew (OpR K wz wb D L G):=by
           refine (xX (q5.opn.below (TY _ wz).drew)).mono λe w2 hp=>?_;obtain ⟨q1,q2,q3⟩:=Gg q5 J (TY _ wz).drew hp;exact ⟨q1,q2,z.trans (((aa.RS (TY _ wz).drew _).trans hp.out).below λk V=>⟨TZ V z.size,λq=>by have:=y.fB k q;omega⟩),q3.imp (λ⟨sa,e1,e2⟩=>⟨sa,e1,λw6 h6=>(e2 w6 h6).mono R λ_ _=>trivial⟩) λq=>q.1⟩
          have s4:=y.wbA.cells.2.2.2.2.1;have f4:=aj.R3 y.wbA 4;have xo:=aj.lt y.wbA;have HO:=a5 xd s4 f4 xo;clear xd s4 f4 xo q5 kg k2 kx z y J Z kf ko hy R;go_upto_region 28 with fail;go_cut [23,24] from 125 to 134 (λqr y7 wx=>OpR K wz wb D L G (Z4 (.tuple #[qr,y7])) wx)
          case first=>
           go_region_with (go_at_call 11;refine HO.out.1.mono ?_;intro e w7 hq;obtain ⟨qr,y7,he⟩:=hq.two;subst he;have H7:=al hq;clear hq);all_goals (go_wp2_with fail;go_meet;case rel=>exact H7.out)
          case rest=>
           clear p0 p1 p2 c0 c3 c5;obtain ⟨hc,qb,q7,q6⟩:=hcut;rcases q6 with ⟨ya,he,y⟩|he
           . simp only [Ending.returned.injEq,Value.tuple.injEq,YG,YH,and_true] at he;obtain ⟨rfl,rfl⟩:=he;have s4:wc.cell? ⟨wb,4,Z0⟩=ZZ (Z7 (ZZ ⟨sa,0,Z0⟩)):=by
              have:=HO.out.2.1;unfold World.cell? at this ⊢;rw [hc];exact this
             have f4:wc.frozen? ⟨wb,4,Z0⟩=ZX:=by
              have:=HO.out.2.2.1;unfold World.frozen? at this ⊢;rw [hc];exact this
             have qm:=al y;clear y HO hc qb q7;go_wp2_with fail;refine (nS _).mono ?_;rintro e w8 ⟨rfl,ka⟩;have s8:w8.cell? ⟨wb,4,Z0⟩=ZZ (Z7 (ZZ ⟨sa,0,Z0⟩)):=(ka.cell (Ub s4)).trans s4;have f8:w8.frozen? ⟨wb,4,Z0⟩=ZX:=by
              have:w8.heap[wb]?=wc.heap[wb]?:=ka.block _ (Ub s4);unfold World.frozen? at f4 ⊢;rw [this];exact f4
             have xb:=OC (qm.out _ ka);have qk:=al xb;clear xb ka s4 f4 qm;go_wp2_with fail;refine qk.out.mono ?_;rintro e w9 ⟨rfl,xc⟩;have H9:=al xc;clear xc qk s8 f8;go_wp2_with fail;go_loopw [17,26] (λok i wx=>RuR (λ_=>True) K wb D L G 200 l2.length 301 2 ok i wx) (λ_ i _=>l2.length-(intOf i).toNat)
             case atStart=>exact ⟨0,T9 _,rfl,rfl,H9.out⟩
             case round=>
              rename ZW=>wv;clear H9;obtain ⟨k2,y5,rfl,rfl,O⟩:=hrel;by_cases ke:k2<l2.length
              . obtain ⟨sb,off,rfl,N,k7⟩:=H.out.2.1 (λe=>by rw [e] at ke;simp at ke);obtain ⟨dv,r1,r2,r3,r4,r5⟩:=k7 k2 ke;obtain ⟨o,ho⟩:=nM (l2[k2]);rw [ho] at r1 r2 r3 r5;have z:bW w wv:=E.out.1.trans (O.base.mono E.out.1.size);have q1:=(z.cell (p:=⟨sb,off+k2*4,Z0⟩) N).trans r1;have q2:=(z.cell (p:=⟨sb,off+k2*4+1,Z0⟩) N).trans r2;have q3:=(z.cell (p:=⟨sb,off+k2*4+2,Z0⟩) N).trans r3;have q4:=(z.cell (p:=⟨sb,off+k2*4+3,Z0⟩) N).trans r4;obtain ⟨da,dc,qa,_⟩:=id r5;subst qa;obtain ⟨m,hm⟩:=nM (o.d.length);rw [hm] at q4 r5;have hh:(k2:Int)<(l2.length:Int):=(by omega);have H5:=al (C3 O o _ (r5.mono E.out.1) (by omega));clear z r1 r2 r3 r4 r5 O k7 hm ho;go_wp2_with fail;clear q1 q2 q3 q4;refine H5.out.mono ?_;rintro e w6 ⟨rfl,Y⟩;have H6:=al (show RuR (λ_=>True) K wb D L G 200 l2.length 301 2 (Z3 ZY) (Z8 Z9 ((k2:Int)+1)) w6 from ⟨k2+1,by omega,rfl,rfl,Y.mono (by omega) λ_ q=>q⟩);clear Y;go_wp2;exact ⟨H6.out,by simp [intOf];omega⟩
              . have hh:¬ (k2:Int)<(l2.length:Int):=(by omega);have HB:=al (show MS (λ_=>True) K wv wb D L G 200 1000 from O.mono (by omega) λ_ q=>q);clear O;go_wp2_with fail;go_loopw [17,27] (λok i wx=>ObB K wb D L G 1000 i ok wx) (λ_ i _=>1001-(intOf i).toNat)
                case atStart=>exact ⟨rfl,0,T9 _,rfl,HB.out⟩
                case round=>
                 rename ZW=>wu;clear HB;obtain ⟨rfl,k,V,rfl,t,xs,Q,p,r,sa,ar,v,Kind,ps,pg,ob,P,A,F,out,want,cache,y,J,R,_⟩:=hrel;obtain ⟨rb,rv,Z⟩:=J.ref;have c5:=y.wbA.cells.2.2.2.2.2.1;have c0:=Z.cell.1;have kf:=Z.shape;obtain ⟨ra,rc,rfl⟩:=bf Z.own;have ko:=J.rel.len;have km:Q.length<=1000:=by
                  have:=y.live.Sa.1;have e:xs.os.length=xs.length:=(by simp [aY.os]);omega
                 have xp:=al (E.out.1.trans (y.base.mono E.out.1.size));by_cases I:k<Q.length
                 . obtain ⟨g,hg,n1⟩:∃ g,ra=ZZ ⟨g,0,Z0⟩/\wu.cell? ⟨g,k*2,Z0⟩=ZZ (Z1 Q[k].1):=by
                    rcases kf with ⟨_,e⟩|⟨g,cap,e,_,_,h4⟩
                    . rw [e] at I;simp at I
                    . simp only [Vt] at e;exact ⟨g,e.1,(h4 k I).1⟩
                   subst hg;obtain ⟨x,hx⟩:=nM (Q[k].1);rw [hx] at n1;have kp:=m7 (T:=1000) y J R (C:=λ_=>True) trivial (T4 (show k<xs.length by omega)) ((J.rel.at k I (by omega)).1.symm.trans hx);obtain ⟨ql,hy⟩:=nM (Q.length);rw [hy] at c0 I km;have hh:(k:Int)<(ql:Int):=(by omega);have HL:=al kp;clear kp y J R Z kf ko hx hy;go_wp2_with fail;refine HL.out.mono ?_;rintro e w6 ⟨rfl,Y⟩;have H6:=al (show ObB K wb D L G 1000 (Z8 Z9 ((k:Int)+1)) (Z3 ZY) w6 from ⟨rfl,k+1,by omega,rfl,Y⟩);clear Y c5 c0 n1;go_wp2;exact ⟨H6.out,by simp [intOf];omega⟩
                 . obtain ⟨ql,hy⟩:=nM (Q.length);rw [hy] at c0 I km;have hh:¬ (k:Int)<(ql:Int):=(by omega);clear y J R Z kf ko hy;go_wp2;go_ret;exact ⟨rfl,xp.out⟩
           . simp only [Ending.returned.injEq,Value.tuple.injEq,YG,YH,and_true] at he;obtain ⟨rfl,rfl⟩:=he;have xj:=sH 3 wc qb;have qj:=al q7;clear HO hc qb q7;unfold fJ;go_wp2_with fail;refine xj.mono ?_;rintro e w8 ⟨rfl,ka⟩;have H8:=al ka;clear ka xj;go_wp2;go_ret;exact ⟨rfl,(E.out.1.trans (qj.out.mono E.out.1.size)).trans (H8.out.mono (TW E.out.1.size qj.out.size))⟩
