import Derived.Test.YthibhmemkhmocaaGreatDoorM07
import Derived.SizedLaws
import Derived.BigRegionIn
set_option maxRecDepth 100000
set_option linter.all false
set_option maxHeartbeats 8000000
open Go.IntKind renaming i64 -> Z9, u64 -> Z8
open Go.Value renaming int -> Z7, pointer -> Z6, slice -> Z5, bool -> Z1, string -> Z0, tuple -> ZZ
open Go.Obj renaming cells -> Z4
open Go.Ending renaming returned -> Z3
open Go renaming undef -> ZY, World -> ZT, Value -> ZS, Calls -> ZR, Ending -> ZQ, TypeId -> ZP, Boxed -> ZO
open Option renaming none -> ZX, some -> ZW
open Bool renaming true -> ZV, false -> ZU
open List renaming range -> YE, getElem_range -> YG
open Exists renaming intro -> YF
open ByteArray renaming empty -> YH
open Go.Proofs.Tryz renaming prog -> ZN
open Go.Proofs.Tryz
namespace Go.Proofs.YthibhmemkhmocaaGreatDoor
def aaP:=@Go.World.cell?_spot
def V3:=@Go.WideShapes.add_plain
def WY:=@Go.DataW.trod_int
def abg:=@Go.World.cells?_some
end Go.Proofs.YthibhmemkhmocaaGreatDoor
namespace Go.Proofs.YthibhmemkhmocaaGreatDoor
open Go.RowKit Go.Deep Gf Go.Shelf
variable {cp:Array ZS} {x:ByteArray} {e:ZQ} {R:ZQ->ZT->Prop} {F F':aK} {cf:FuncId} {cache:Int} {ps:aN} {Q:List (ByteArray×ZS)} {M:List (Nat×Nat)} {P:a8} {os:List Ob} {q n D g k wb L G nb T B p r t v len0 cap0 S d ar b D' nn N gone sp D1 sa:Nat} {sg:Nat->Nat} {lo:Nat->Prop} {f:Nat->bE} {ao:Option Addr} {lk:Prop} {H:Type} {u a s out want pg ob:ZS} {w w' wx X wr KW w0 W Z:ZT} {J:ZT->Prop}
section
section
variable {KW w0 w:ZT} {wb D L G nb t:Nat} {xs:aL} {Q:List (ByteArray×ZS)} {p r sa ar v:Nat} {Kind:aN->Prop} {ps:aN} {pg ob:ZS} {P:a8} {A:aB} {F:aK} {out want:ZS} {cache:Int}
theorem I2 (h:MB w0 w wb D L G nb t xs p r sa ar v Kind ps pg ob P A F out want cache) (hc:Dc KW w r Q xs out want) (o:qB) (i:ZS) (q:∃ f m g,i=.slice f m g) (l:o.kind<1\/6<o.kind) {C:aB->Prop} (u:C A) :
 ZR ZN 13 #[Z6 (ZW ⟨wb,0,ZX⟩),.agg #[Z7 Z9 o.kind,Z7 Z9 o.a,Z0 o.s,i]] w λe w'=>e=Z3 (Z1 ZV)/\MS KW C w0 w' wb D L G nb (t+1):=by
 obtain ⟨f,m,g,rfl⟩:=q;obtain ⟨kd,j⟩:=nM (o.kind);obtain ⟨w1,k⟩:=nM (w.alloc (Z4 #[Z7 Z9 o.kind,Z7 Z9 o.a,Z0 o.s,.slice f m g] 47));have d:=QR h hc o _ k;obtain ⟨x,J,K,M⟩:=d.op.cells;have n:=ak (show MS KW C w0 w1 wb D L G nb (t+1) from ⟨_,_,_,_,_,_,_,_,_,_,_,_,_,_,_,_,_,_,d.b,d.c,by omega,u⟩);clear d h hc;rw [j] at x k l ⊢;have y:¬ kd=1:=by omega
 have z:¬ kd=2:=by omega
 have B:¬ kd=3:=by omega
 have E:¬ kd=4:=by omega
 have H:¬ kd=5:=by omega
 have I:¬ kd=6:=by omega
 clear l j;go_enter func13,ntmps13;go_wp2;go_ret;exact ⟨rfl,n.o⟩
end
end
section
def aae (n:Int) (xs:aL) (x:ByteArray) (xs':aL):Prop:=(n=0/\C4 xs x xs')\/(xs'=xs/\vY xs x n)
def QH {n0:Nat} {rb:Nat} {rv:ZS} {n:Int} {xs xs':aL} (l:rE w q rb rv Q) (h:RI w q Q x e w') (s:aae n xs x xs') (f:iT wx Q xs) (m:Up xs.names) (t:n0<=q) (y:n0<=w.heap.size) :
 e=Z3 (Z7 Z9 n)/\Below n0 w w'/\n≠10/\∃ i,(∃ rb rv,rE w' q rb rv i)/\∀ g,iT g Q xs->iT g i xs':=by
 have r:=np f x;have c:=kQ x;rcases s with ⟨rfl,a,d,rfl⟩|⟨rfl,⟨a,rfl⟩|⟨a,d,rfl⟩⟩
 . rcases h with ⟨q,_⟩|⟨_,q,_⟩|⟨_,k,q,b,⟨u,p⟩,o⟩
   . exact absurd (c.2 a) q
   . exact absurd d (r.1 q)
   . refine ⟨b,o.below λj v=>⟨by omega,by omega⟩,by decide,_,⟨_,u,p⟩,λg z=>?_⟩;rw [(kR f m q).1];exact (z.take k).app (z.drop (k+1))
 . rcases h with ⟨_,b,rfl⟩|⟨q,_⟩|⟨q,_⟩
   . exact ⟨b,TW _ _,by decide,Q,⟨_,_,l⟩,λ_ z=>z⟩
   . rw [c,a] at q;cases q
   . rw [c,a] at q;cases q
 . rcases h with ⟨q,_⟩|⟨_,_,b,rfl⟩|⟨_,k,q,_⟩
   . exact absurd (c.2 a) q
   . exact ⟨b,TW _ _,by decide,Q,⟨_,_,l⟩,λ_ z=>z⟩
   . exact absurd (kR f m q).2.2 d
section
variable {KW w0 w:ZT} {wb D L G nb t:Nat} {xs:aL} {Q:List (ByteArray×ZS)} {p r sa ar v:Nat} {Kind:aN->Prop} {ps:aN} {pg ob:ZS} {P:a8} {A:aB} {F:aK} {out want:ZS} {cache:Int}
theorem Mj (h:MB w0 w wb D L G nb t xs p r sa ar v Kind ps pg ob P A F out want cache) (hc:Dc KW w r Q xs out want) (o:qB) (dv:ZS) (kj:∃ x m y,dv=.slice x m y) (kp:t<1000000) (hk:o.kind=3) :
 ZR ZN 13 #[Z6 (ZW ⟨wb,0,ZX⟩),.agg #[Z7 Z9 o.kind,Z7 Z9 o.a,Z0 o.s,dv]] w λe w'=>e=Z3 (Z1 ZV)/\MS KW (dM A) w0 w' wb D L G nb (t+1):=by
 obtain ⟨x,m,y,rfl⟩:=kj;obtain ⟨w1,k5⟩:=nM (w.alloc (Z4 #[Z7 Z9 o.kind,Z7 Z9 o.a,Z0 o.s,.slice x m y] 47));have d:=QR h hc o _ k5;have M:bW w1 w1.drew:=(TW _ w1).drew;have Y:=d.b.below M;have hp:=Oq Y.box Y.live kp o.s;obtain ⟨x0,x1,x2,x3⟩:=d.op.cells;have s1:=d.b.wbA.cells.2.2.2.2.1;obtain ⟨q0,H⟩:=nM (w.heap.size);have HS:=al d H;clear d h hc M Y;rw [hk] at x0 k5 ⊢;rw [H] at x0 x1 x2 x3;clear hk;go_enter func13,ntmps13;go_upto_region 13 with fail;clear H k5 x0 x1 x3;go_cut [11] from 21 to 233 (λv11 wx=>di w1.drew ar v p ps D L G t xs A F (vY xs o.s) (C4 xs o.s) (Z3 v11) wx)
 case first=>
  go_region_with (go_at_call 31;refine hp.mono ?_;rintro e w2 Z;obtain ⟨rr,_,_,_,_,_,_,rfl,_⟩:=id Z;have i:=ak Z;clear Z);all_goals (go_wp2_with fail;go_meet;case rel=>exact i.o)
 case rest=>
  obtain ⟨n,t',hd,hb,P',xs',B,hN,ke,W,k6,kg,J⟩:=Mg hcut;change aae n xs o.s xs' at J;obtain ⟨d,H⟩:=HS.o;have M:bW w1 w1.drew:=(TW _ w1).drew;have V:aa (λj=>j=ar\/F.S j) w1 wc:=(aa.RL M _).trans k6;obtain ⟨z,kc⟩:=d.b.call V ke W.nb;have E:=d.c.keep kc lR;have R:=d.b.live.disk.up;have K:Q.length<=1000000:=by
   rw [E.rel.len];have:=d.b.live.Sj.1;have e:xs.os.length=xs.length:=(by simp [aL.os]);omega
  have C:lQ wc q0 o (.slice x m y):=by
   rw [<- H];exact ai.keep d.op (V.block _ d.lt (λe=>by
    rcases e with e|e
    . have:=d.ar;omega
    . have:=d.f _ e;omega))
  have kh:=vf hN z.gl;have i:=hide8 z E C J R K W kg;clear d H M V z kc E C hN J R K ke W kg k6 hp x2 s1 hcut;go_wp2_with fail;refine kh.mono ?_;rintro e w3 ⟨rfl,hs⟩;clear kh;obtain ⟨z,E,C,J,R,K,_⟩:=i.o;have l:=z.below hs;have g:=E.keep (iS.below hs _) lR;have k:lQ w3 q0 o (.slice x m y):=ai.keep C (hs.block _ (ai.lt C));obtain ⟨kr,ks,kf⟩:=g.ref;have ka:=yJ kf K g.rel.sl;have r3:=l.wbA.cells.2.2.2.2.2.1;have H3:=aE l g k;clear z E C J R K l g k kf hs;go_wp2_with fail;refine ka.mono ?_;rintro e w4 ⟨rfl,⟨u4,u⟩,q⟩;clear ka r3;obtain ⟨l,g,k⟩:=H3.o;have k0:=CZ u i.o.2.2.2.2.2.1 g.rel.sl o.s;have k7:lQ w4 q0 o (.slice x m y):=ai.keep k (q.block _ (ai.lt k));have y4:=k7.cells.2.2.1;obtain ⟨N,I⟩:=nM (w3.heap.size);rw [I] at k0 u ⊢;have H4:=aE u q I;clear l g k k7 u q I;go_wp2_with fail;refine k0.mono ?_;rintro e T kb;clear k0 y4;obtain ⟨u,q,I⟩:=H4.o;obtain ⟨l,g,k⟩:=H3.o;obtain ⟨kk,k9,ko,Q',k8,h4⟩:=QH u kb i.o.2.2.2.1 g.rel i.o.2.2.2.2.1 (Nat.le_of_eq I) q.size;subst kk;have X:bW w3 T:=q.trans k9;have U:=l.below X;have hv:=g.keep (iS.below X _) lR;have O:=U.wbA;have r5:=O.cells.2.2.2.2.2.1;have f5:=ai.R3 O 5;have hq:MS KW (dM A) w0 (T.setCell ⟨wb,5,ZX⟩ (Z6 (ZW ⟨N,0,ZX⟩))) wb D L G nb (t+1):=by
   have hW:ij (T.setCell ⟨wb,5,ZX⟩ (Z6 (ZW ⟨N,0,ZX⟩))) wb D L G (Z6 (ZW ⟨p,0,ZX⟩)) (Z6 (ZW ⟨sa,0,ZX⟩)) (Z6 (ZW ⟨N,0,ZX⟩)) nb out want cache:=ai.set O 5 [Z6 (ZW ⟨N,0,ZX⟩)] (by simp [OW]);obtain ⟨h6,km⟩:=U.write (aa.setCell (S:=λj=>j=wb) _ ⟨wb,5,ZX⟩ _ rfl) hW;have ki:Dc KW T N Q' xs' out want:=⟨k8,h4 _ hv.rel,hv.ow,hv.mks⟩;exact ⟨_,_,_,_,_,_,_,_,_,_,_,_,_,_,_,_,_,_,h6,ki.keep km lR,i.o.2.2.2.2.2.2.2,i.o.2.2.2.2.2.2.1⟩
  have HF:=ak hq;clear hq u q I l g k k9 k8 h4 X U hv O kb;go_wp2_with fail;refine (nJ _ _).mono ?_;rintro e w8 ⟨rfl,rfl⟩;go_wp2;go_ret;exact ⟨rfl,HF.o⟩
end
end
section
def C8 {xs:aL} (b:∀ x∈xs,kX D x) {X:Ob×a8} (a:X∈xs):bY X.1.name=ZV:=by
 have:=(b X a).fit.name;unfold bY;exact UY this
def Ml {xs:aL} {X:Ob×a8} (a:X∈xs):X.1.name∈xs.names:=T9.2 ⟨X.1,T9.2 ⟨X,a,rfl⟩,rfl⟩
def Mm {xs:aL} (h:x∈xs.names):∃ X∈xs,X.1.name=x:=by
 obtain ⟨o,ho,e⟩:=T9.1 h;obtain ⟨X,a,rfl⟩:=T9.1 ho;exact ⟨X,a,e⟩
def Ov {xs:aL} {X:Ob×a8} (a:iT wx Q xs) (i:Up xs.names) (p:∀ x∈xs,kX D x) (f:X∈xs):∃ c,(∀ e,P3 Q X.1.name e->e=Z3 (ZZ #[c,Z7 Z9 0]))/\Ow wx c X.2:=by
 have r:=np a X.1.name;obtain ⟨b,h,g⟩:=US f;have d:b<Q.length:=by rw [a.len];exact h
 obtain ⟨t,j⟩:=a.at b d h;rw [g] at t j;refine ⟨Q[b].2,λe o=>?_,j⟩;rcases o with ⟨q,_⟩|⟨_,q,_⟩|⟨_,k,q,l⟩
 . exact absurd ((kQ _).2 (C8 p f)) q
 . exact absurd (Ml f) (r.1 q)
 . have s:=(kR a i q).1;have hl:b<xs.names.length:=(by rw [<- a.names];unfold cD;rw [Ue];exact d);have n:=gZ i hl (x:=X.1.name) (by rw [<- g];simp [aL.names,aU,aL.os]);have m:k=b:=s.symm.trans n;subst m;rw [l,Ub,Uc d];rfl
def QI {base:Nat} {xs:aL} {rr:ZS} (v:uT xs x base u rr wx) (r:iT wx Q xs) (s:Up xs.names) (j:∀ x∈xs,kX D x) :
 ∃ n c l,isN rr n/\(∀ e,P3 Q x e->e=Z3 (ZZ #[c,Z7 Z9 n]))/\Ow wx u l/\Ow wx c l/\(n=0\/(n≠0/\u=Z5 ZX 0 0/\x∉xs.names)):=by
 have m:=kQ x;rcases v with ⟨d,⟨b,a⟩|⟨b,a,o⟩⟩|⟨b,a,X,f,w,ho⟩
 . refine ⟨6,Z5 ZX 0 0,[],.inl b,λe i=>?_,d▸Ow.nil _,Ow.nil _,.inr ⟨by decide,d,λq=>?_⟩⟩
   . rcases i with ⟨_,g⟩|⟨q,_⟩|⟨q,_⟩
     . exact g
     . rw [m,a] at q;cases q
     . rw [m,a] at q;cases q
   . obtain ⟨X,f,e⟩:=Mm q;have:=C8 j f;rw [e,a] at this;cases this
 . refine ⟨9,Z5 ZX 0 0,[],.inl b,λe i=>?_,d▸Ow.nil _,Ow.nil _,.inr ⟨by decide,d,o⟩⟩;rcases i with ⟨q,_⟩|⟨_,_,g⟩|⟨_,k,q,_⟩
   . exact absurd (m.2 a) q
   . exact g
   . exact absurd (kR r s q).2.2 o
 . obtain ⟨c,p,t⟩:=Ov r s j f;have h:=j _ f;rw [w] at p;exact ⟨0,c,X.2,.inr ⟨b,rfl⟩,p,⟨⟨base,ho⟩,h.byt,by rw [h.len];exact h.fit.size⟩,t,.inl rfl⟩
def aaf:¬ jP 47:=by unfold jP;decide
section
variable {KW w0 w:ZT} {wb D L G nb t:Nat} {xs:aL} {Q:List (ByteArray×ZS)} {p r sa ar v:Nat} {Kind:aN->Prop} {ps:aN} {pg ob:ZS} {P:a8} {A:aB} {F:aK} {out want:ZS} {cache:Int}
theorem Mn (h:MB w0 w wb D L G nb t xs p r sa ar v Kind ps pg ob P A F out want cache) (hc:Dc KW w r Q xs out want) (o:qB) (i:ZS) (hd:Bs w0 i o.d) (y:o.d.length<=100000) (B:t<1000000) (x:D<=6) (C:o.kind=1) :
 ZR ZN 13 #[Z6 (ZW ⟨wb,0,ZX⟩),.agg #[Z7 Z9 o.kind,Z7 Z9 o.a,Z0 o.s,i]] w λe w'=>e=Z3 (Z1 ZV)/\MS KW (dM A) w0 w' wb D L G nb (t+1):=by
 obtain ⟨q,u,z,_⟩:=id hd;subst z;obtain ⟨m,l⟩:=nM (o.d.length);rw [l] at hd ⊢;obtain ⟨w1,k⟩:=nM (w.alloc (Z4 #[Z7 Z9 o.kind,Z7 Z9 o.a,Z0 o.s,.slice q m u] 47));have f:=QR h hc o _ k;have g:=Mi f.b f.c o _ hd y B x;obtain ⟨E,H,I,J⟩:=f.op.cells;clear f h hc hd l;rw [C] at E k g ⊢;go_enter func13,ntmps13;go_wp2_with fail;refine g.mono ?_;rintro e w2 ⟨rfl,j⟩;have n:=ak j;clear j g;go_wp2;go_ret;exact ⟨rfl,n.o⟩
theorem C9 (h:MB w0 w wb D L G nb t xs p r sa ar v Kind ps pg ob P A F out want cache) (hc:Dc KW w r Q xs out want) (o:qB) (dv:ZS) (kv:∃ Y m Z,dv=.slice Y m Z) (hk:o.kind=2) :
 ZR ZN 13 #[Z6 (ZW ⟨wb,0,ZX⟩),.agg #[Z7 Z9 o.kind,Z7 Z9 o.a,Z0 o.s,dv]] w λe w'=>e=Z3 (Z1 ZV)/\(∃ ps' I H P' i d,MB w0 w' wb D L G nb t xs p r sa ar v Kind ps' I H P' A F i d cache/\Dc KW w' r Q xs i d):=by
 obtain ⟨Y,m,Z,rfl⟩:=kv;obtain ⟨w1,k9⟩:=nM (w.alloc (Z4 #[Z7 Z9 o.kind,Z7 Z9 o.a,Z0 o.s,.slice Y m Z] 47));have g:=QR h hc o _ k9;have hp:bW w1 w1.drew:=(TW _ w1).drew;have hg:=g.b.below hp;have hx:=aay hg.box hg.live o.s λwx kp=>N9 (hg.live.below kp) hg.shv o.s;obtain ⟨x0,x1,x2,x3⟩:=g.op.cells;have s1:=g.b.wbA.cells.2.2.2.2.1;obtain ⟨q0,W⟩:=nM (w.heap.size);have HS:=al g W;clear g h hc hp hg;rw [hk] at x0 k9 ⊢;rw [W] at x0 x1 x2 x3;clear hk;go_enter func13,ntmps13;go_upto_region 5 with fail;clear W k9 x0 x1 x3;go_cut [5,6] from 21 to 233 (λv5 v6 wx=>E8 w1.drew ar v p Kind ps D L G t xs A F o.s (Z3 (ZZ #[v5,v6])) wx)
 case first=>
  go_region_with (go_at_call 28;refine hx.mono ?_;rintro e w2 k8;obtain ⟨uu,rr,_,_,_,_,rfl,_⟩:=id k8;have X:=ak k8;clear k8);all_goals (go_wp2_with fail;go_meet;case rel=>exact X.o)
 case rest=>
  obtain ⟨u,rr,ps',I,H,P',he,⟨kg,k6,hq⟩,ka,ke⟩:=hcut;cases he;obtain ⟨g,W⟩:=HS.o;have hp:bW w1 w1.drew:=(TW _ w1).drew;have ha:aa (λj=>j=ar\/F.S j\/j=v\/ps.bl j) w1 wc:=(aa.RL hp _).trans ka;obtain ⟨x,kf⟩:=g.b.TA ha kg rfl k6 hq;have y:=g.c.keep kf lR;have C:lQ wc q0 o (.slice Y m Z):=by
   rw [<- W];exact ai.keep g.op (ha.block _ g.lt (λe=>by
    rcases e with e|e|e|e
    . have:=g.ar;omega
    . have:=g.f _ e;omega
    . have:=g.ar;have:=g.b.live.vlt;omega
    . exact bU g.b.live.kit g.op aaf e))
  obtain ⟨n,cv,l,hN,E,B,z,N⟩:=QI ke y.rel x.live.disk.up x.live.disk.fits;have kj:=vf hN x.gl;obtain ⟨⟨R,U,T,hu,_⟩,_⟩:=B.sl;obtain ⟨⟨J,M,K,ks,_⟩,_⟩:=z.sl;subst hu ks;have X:=hide7 x y C E B z N;clear k6 hq g W hp ha x kf y C hN E B z N kg ka ke hx x2 s1;go_wp2_with fail;refine kj.mono ?_;rintro e V ⟨rfl,hi⟩;clear kj;obtain ⟨x,y,C,E,B,z,N⟩:=X.o;have h3:=x.below hi;have k7:=y.keep (iS.below hi _) lR;have kb:lQ V q0 o (.slice Y m Z):=ai.keep C (hi.block _ (ai.lt C));have y3:=kb.cells.2.2.1;have r3:=h3.wbA.cells.2.2.2.2.2.1;have kc:Q.length<=1000000:=by
   rw [k7.rel.len];have:=h3.live.Sj.1;have e:xs.os.length=xs.length:=(by simp [aL.os]);omega
  have kh:∀ k,ZR ZN 14 #[Z6 (ZW ⟨r,0,ZX⟩),Z0 o.s] (V.drewN k) λe w'=>e=Z3 (ZZ #[.slice J M K,Z7 Z9 n])/\w'=V.drewN k:=λk=>by
   have ko:bW V (V.drewN k):=⟨rfl,rfl,rfl,TU _,λ_ _=>rfl⟩;obtain ⟨rb,rv,hr⟩:=(k7.keep (iS.below ko _) lR).ref;exact (BP hr kc o.s).mono λe w' q=>⟨E e q.2,q.1⟩
  have H3:=a5 h3 k7 kh hi;clear x y C E B z N h3 k7 kb kc kh hi;go_upto_region 7 with fail;go_quiet ((go_at_call 14;refine aaO (H3.o.2.2.1 _)));clear y3 r3;have hj:bW wc (V.drewN nq):=H3.o.2.2.2.trans ⟨rfl,rfl,rfl,TU _,λ_ _=>rfl⟩;obtain ⟨w4,kk⟩:=nM (V.drewN nq);rw [kk] at hj ⊢;clear kk;obtain ⟨x,y,C,E,B,z,N⟩:=X.o;have k0:=B.keep (Kd.below hj _ _);have hy:=z.keep (Kd.below hj _ _);have ki:=Fm _ _ l w4 k0.bs hy.bs;have H4:=ak hj;clear hj x y C E B z N k0 hy;go_wp2_with fail;refine ki.mono ?_;rintro e O ⟨rfl,m5,km⟩;have hm:bW wc O:=H4.o.trans (by rw [km];exact ⟨rfl,rfl,rfl,TU _,λ_ _=>rfl⟩);clear km ki;obtain ⟨x,y,C,E,B,z,N⟩:=X.o;have h5:=x.below hm;have hs:=y.keep (iS.below hm _) lR;have k5:=B.keep (Kd.below hm _ _);have hz:=z.keep (Kd.below hm _ _);have hh:=h5.wbA;obtain ⟨_,_,_,_,_,_,_,c7,c8,_⟩:=hh.cells;have f7:=ai.R3 hh 7;have f8:=ai.R3 hh 8;obtain ⟨⟨oa,om,oc,rfl,_⟩,wa,wm,wd,rfl,_⟩:=hs.ow;have hv:(∃ ps' I H P' i d,MB w0 ((O.setCell ⟨wb,7,ZX⟩ (.slice R U T)).setCell ⟨wb,8,ZX⟩ (.slice J M K)) wb D L G nb t xs p r sa ar v Kind ps' I H P' A F i d cache/\Dc KW ((O.setCell ⟨wb,7,ZX⟩ (.slice R U T)).setCell ⟨wb,8,ZX⟩ (.slice J M K)) r Q xs i d):=by
   have hO:aa (λj=>j=wb) O ((O.setCell ⟨wb,7,ZX⟩ (.slice R U T)).setCell ⟨wb,8,ZX⟩ (.slice J M K)):=(aa.setCell (S:=λj=>j=wb) O ⟨wb,7,ZX⟩ _ rfl).trans (aa.setCell (S:=λj=>j=wb) _ ⟨wb,8,ZX⟩ _ rfl);have hW:ij ((O.setCell ⟨wb,7,ZX⟩ (.slice R U T)).setCell ⟨wb,8,ZX⟩ (.slice J M K)) wb D L G (Z6 (ZW ⟨p,0,ZX⟩)) (Z6 (ZW ⟨sa,0,ZX⟩)) (Z6 (ZW ⟨r,0,ZX⟩)) nb (.slice R U T) (.slice J M K) cache:=ai.set hh 7 [.slice R U T,.slice J M K] (by simp [OW]);obtain ⟨h6,kx⟩:=h5.write hO hW;have kr:Dc KW O r Q xs (.slice R U T) (.slice J M K):=⟨hs.ref,hs.rel,⟨k5.sl.1,hz.sl.1⟩,hs.mks⟩;exact ⟨_,_,_,_,_,_,h6,kr.keep kx lR⟩
  have HF:=ak hv;clear hv x y C E B z h5 hs k5 hz hh hm;rcases N with rfl|⟨hn,hu,_⟩
  . go_wp2_with fail;refine (nJ 0 _).mono ?_;rintro e w8 ⟨rfl,rfl⟩;go_wp2;go_ret;exact ⟨rfl,HF.o⟩
  . cases hu;have ky:=λwx=>XF (P:=ZN) wx 40 5 ZX 0 0 0 0 Um;go_wp2_with fail;refine (nJ n _).mono ?_;rintro e w8 ⟨rfl,rfl⟩;go_wp2;go_ret;exact ⟨rfl,HF.o⟩
def Mo (h:MB w0 w wb D L G nb t xs p r sa ar v Kind ps pg ob P A F out want cache) (hc:Dc KW w r Q xs out want) (o:qB) (b:ZS) (i:∃ c m d,b=.slice c m d) (j:o.kind=2) :
 ZR ZN 13 #[Z6 (ZW ⟨wb,0,ZX⟩),.agg #[Z7 Z9 o.kind,Z7 Z9 o.a,Z0 o.s,b]] w λe w'=>e=Z3 (Z1 ZV)/\MS KW (dM A) w0 w' wb D L G nb (t+1):=(C9 h hc o b i j).mono (by
 rintro e w' ⟨rfl,_,_,_,_,_,_,f,g⟩;exact ⟨rfl,_,_,_,_,_,_,_,_,_,_,_,_,_,_,_,_,_,_,f,g,by omega,dM.refl A⟩)
end
end
section
def OY (w:ZT) (g:Nat) (os:List Ob) (i:ZS) (wr:ZT):Prop:=
 ∃ k:Nat,k<=os.length/\i=Z7 Z9 (k:Nat)/\bW w wr/\∃ cur:List ZS,ai wr g 99 cur/\os.length*2<=cur.length/\∀ j (hj:j<os.length),k<=j->cur[j*2]?=ZW (Z0 os[j].name)/\cur[j*2+1]?=ZW (Z7 Z9 (os[j].size:Nat))
def Da:∀ (os:List Ob) (j:Nat) (a:j<os.length),(lP os)[j*2]?=ZW (Z0 os[j].name)/\(lP os)[j*2+1]?=ZW (Z7 Z9 (os[j].size:Nat))
 | [],j,a=>absurd a (by simp)
 | o::os,0,_=>⟨rfl,rfl⟩
 | o::os,j+1,a=>by
  have e:lP (o::os)=[Z0 o.name,Z7 Z9 (o.size:Nat)]++lP os:=by unfold lP;rw [VE];rfl
  obtain ⟨b,c⟩:=Da os j (by simpa using a);rw [e];refine ⟨?_,?_⟩
  . rw [U6 (by simp;omega),show (j+1)*2-[Value.string o.name,Z7 Z9 (o.size:Nat)].length=j*2 by simp;omega];exact b
  . rw [U6 (by simp;omega),show (j+1)*2+1-[Value.string o.name,Z7 Z9 (o.size:Nat)].length=j*2+1 by simp;omega];exact c
def OY.start {base:Nat} (h:wr.ownsRow base 99 2 u n (lP os)) (p:os.length=n) (s:0<n) (m:bW w wr) (t:w.heap.size<=base):∃ g cap,u=Z5 (ZW ⟨g,0,ZX⟩) n cap/\w.heap.size<=g/\OY w g os (Z7 Z9 0) wr:=by
 rcases h.2 with ⟨_,e⟩|⟨g,cap,cur,c,q,d,f,r,i,k⟩
 . omega
 . refine ⟨g,cap,c,by omega,0,T8 _,rfl,m,cur.toList,?_,?_,λj o _=>?_⟩
   . unfold ai;rw [d,Array.toArray_toList]
   . have l:cur.toList.length=cap*2:=(by rw [WN];exact i);rw [l,p];exact WU 2 f
   . obtain ⟨a,b⟩:=Da os j o;have:j*2+1<n*2:=(by omega);rw [<- k] at a b;rw [VF (by omega)] at a b;exact ⟨a,b⟩
theorem OY.next {cur:List ZS} (x y:ZS) (r:k<os.length) (h:bW w wr) (a:w.heap.size<=g) (l:ai wr g 99 cur) (hl:os.length*2<=cur.length) (hc:∀ j (b:j<os.length),k<=j->cur[j*2]?=ZW (Z0 os[j].name)/\cur[j*2+1]?=ZW (Z7 Z9 (os[j].size:Nat))):OY w g os (Z7 Z9 ((k:Int)+1)) ((wr.setCell ⟨g,k*2,ZX⟩ x).setCell ⟨g,k*2+1,ZX⟩ y):=by
 have d:=ai.set l (k*2) [x,y] (by simp;omega);have c:bW w ((wr.setCell ⟨g,k*2,ZX⟩ x).setCell ⟨g,k*2+1,ZX⟩ y):=(h.setCell (p:=⟨g,k*2,ZX⟩) a _).setCell (p:=⟨g,k*2+1,ZX⟩) a _;refine ⟨k+1,by omega,rfl,c,_,d,?_,λj b o=>?_⟩
 . simp only [Ua,Uo,Un,UA,UT];omega
 . obtain ⟨m,n⟩:=hc j b (by omega);have e:∀ i,k*2+2<=i->(cur.take (k*2)++[x,y]++cur.drop (k*2+[x,y].length))[i]?=cur[i]?:=λi q=>by
    have f:(cur.take (k*2)++[x,y]).length=k*2+2:=(by rw [Ua,Uo];simp;omega);rw [U6 (by omega),f,Wi];congr 1;simp;omega
   exact ⟨(e _ (by omega)).trans m,(e _ (by omega)).trans n⟩
section
variable {KW w0 w:ZT} {wb D L G nb t:Nat} {xs:aL} {Q:List (ByteArray×ZS)} {p r sa ar v:Nat} {Kind:aN->Prop} {ps:aN} {pg ob:ZS} {P:a8} {A:aB} {F:aK} {out want:ZS} {cache:Int}
theorem yM (h:MB w0 w wb D L G nb t xs p r sa ar v Kind ps pg ob P A F out want cache) (hc:Dc KW w r Q xs out want) (o:qB) (dv:ZS) (kc:∃ W m X,dv=.slice W m X) (K:o.kind=4) {C:aB->Prop} (hC:C A) :
 ZR ZN 13 #[Z6 (ZW ⟨wb,0,ZX⟩),.agg #[Z7 Z9 o.kind,Z7 Z9 o.a,Z0 o.s,dv]] w λe w'=>e=Z3 (Z1 ZV)/\MS KW C w0 w' wb D L G nb (t+1):=by
 obtain ⟨W,m,X,rfl⟩:=kc;obtain ⟨w1,hz⟩:=nM (w.alloc (Z4 #[Z7 Z9 o.kind,Z7 Z9 o.a,Z0 o.s,.slice W m X] 47));have d:=QR h hc o _ hz;have k8:=aac d.b.box d.b.live;obtain ⟨x0,x1,x2,x3⟩:=d.op.cells;have s1:=d.b.wbA.cells.2.2.2.2.1;have l:∀ w',bW w1 w'->MS KW C w0 w' wb D L G nb (t+1):=λw' hb=>⟨_,_,_,_,_,_,_,_,_,_,_,_,_,_,_,_,_,_,d.b.below hb,d.c.keep (iS.below hb _) lR,by omega,hC⟩;obtain ⟨rb,rv,n⟩:=d.c.ref;obtain ⟨N,f⟩:=nM (xs.os.length);have j:Q.length=N:=by rw [d.c.rel.len,<- f];simp [aL.os]
 have kb:N<=1000:=by rw [<- f];exact d.b.live.Sj.1
 have HS:=a6 d l n f j;clear d h hc l n f j;rw [K] at x0 hz ⊢;clear K;go_enter func13,ntmps13;go_wp2_with fail;clear hz x0 x1 x2 x3;refine k8.mono ?_;rintro e w2 ⟨u,rfl,x,H⟩;clear k8 s1;have H2:=al x H;clear x H;go_wp2_with fail;refine (ll w2).mono ?_;rintro e w3 ⟨rfl,T⟩;obtain ⟨d,l,n,f,j⟩:=HS.o;obtain ⟨x,H⟩:=H2.o;have B:bW w1 w3:=x.trans (T.mono x.size);have J:=aq H T;rw [f] at J;have hq:ij w3 wb D L G (Z6 (ZW ⟨p,0,ZX⟩)) (Z6 (ZW ⟨sa,0,ZX⟩)) (Z6 (ZW ⟨r,0,ZX⟩)) nb out want cache:=ai.keep d.b.wbA (B.block _ (ai.lt d.b.wbA));have r3:=hq.cells.2.2.2.2.2.1;have M:rE w3 r rb rv Q:=ve.ref n (iS.below B _).SN lR;have t3:=M.cell.1;by_cases R:N=0
 . have hu:∃ U V,u=.slice U 0 V:=by
    obtain ⟨U,V,e⟩:=bj J;exact ⟨U,V,by rw [e,R]⟩
   have kf:∃ y I,rv=.slice y 0 I:=by
    obtain ⟨y,I,e⟩:=bj M.own;exact ⟨y,I,by rw [e,j,R]⟩
   obtain ⟨U,V,rfl⟩:=hu;obtain ⟨y,I,rfl⟩:=kf;have O:=ak (l _ B);clear d l n f j x H T B J hq M R kb;go_wp2;refine VD 1 ?_;rw [Vt];go_wp2;go_ret;exact ⟨rfl,O.o⟩
 . obtain ⟨g,cap,rfl,hg,k0⟩:=OY.start J f (by omega) B lR;obtain ⟨y,I,ka⟩:=bj M.own;rw [j] at ka;subst ka;have O:=al k0 hg;clear k0 hg d l n f j x H T B J hq M R;go_wp2_with fail;go_loopw [19] (λi wr=>OY w1 g xs.os i wr) (λi _=>N-(intOf i).toNat)
   case atStart=>exact O.o.1
   case round=>
    clear r3 t3;obtain ⟨k,K,rfl,E,cur,q,Z,S⟩:=hrel;obtain ⟨d,l,n,f,j⟩:=HS.o;rw [f] at K;by_cases ki:k<N
    . have kh:(k:Int)<(N:Int):=(by omega);have hx:k<xs.os.length:=(by omega);have Y:k<xs.length:=by
       have e:xs.os.length=xs.length:=(by simp [aL.os]);omega
      obtain ⟨q1,q2⟩:=S k hx lR;have e1:=ai.cell q q1;have e2:=ai.cell q q2;have g1:=ai.R3 q (k*2);have g2:=ai.R3 q (k*2+1);have k6:ij wr wb D L G (Z6 (ZW ⟨p,0,ZX⟩)) (Z6 (ZW ⟨sa,0,ZX⟩)) (Z6 (ZW ⟨r,0,ZX⟩)) nb out want cache:=ai.keep d.b.wbA (E.block _ (ai.lt d.b.wbA));have rr:=k6.cells.2.2.2.2.2.1;have hy:rE wr r rb (.slice y N I) Q:=ve.ref n (iS.below E _).SN lR;have tr:=hy.cell.1;obtain ⟨qn,qo⟩:=d.c.rel.at k (by omega) Y;obtain ⟨⟨ba,bn,bc,hs,_⟩,hv⟩:=qo.sl;rw [hs] at hv;have k7:bn=xs.os[k].size:=by
       have h1:=(d.b.live.disk.fits _ (T6 Y)).len;have h2:xs.os[k]=xs[k].1:=(by simp [aL.os]);rw [h2,<- h1];exact hv
      have k9:Q[k].1=xs.os[k].name:=(by rw [qn];simp [aL.os]);obtain ⟨z,kg,d1,d2⟩:∃ z,y=ZW ⟨z,0,ZX⟩/\wr.cell? ⟨z,k*2,ZX⟩=ZW (Z0 xs.os[k].name)/\wr.cell? ⟨z,k*2+1,ZX⟩=ZW (.slice ba bn bc):=by
       rcases hy.shape with ⟨_,e⟩|⟨z,hd,e,_,_,hh⟩
       . rw [e] at j;simp at j;omega
       . simp only [Vs] at e;obtain ⟨c1,c2⟩:=hh k (by omega);rw [k9] at c1;rw [hs] at c2;exact ⟨z,e.1,c1,c2⟩
      subst kg;rw [k7] at d2;have k5:∀ m,OY w1 g xs.os (Z7 Z9 ((k:Int)+1)) (((wr.drewN m).setCell ⟨g,k*2,ZX⟩ (.string ⟨#[109,105,110,101]⟩)).setCell ⟨g,k*2+1,ZX⟩ (Z7 Z9 0)):=λm=>OY.next _ _ hx (E.trans ⟨rfl,rfl,rfl,TU _,λ_ _=>rfl⟩) O.o.2 (ai.keep q rfl) Z S;obtain ⟨nm,hi⟩:=nM (xs.os[k].name);obtain ⟨sz,hn⟩:=nM (xs.os[k].size);rw [hi] at e1 d1;rw [hn] at e2 d2;have HN:=ak k5;clear k5 E q Z S q1 q2 d l n f j k6 hy qn qo hs hv k7 k9 hi hn hx Y K;go_upto_region 30 with fail;go_quiet (fail);go_wp2;exact ⟨HN.o _,by simp [intOf];omega⟩
    . have ke:k=N:=(by omega);subst ke;have HB:=ak (l _ E);clear E q Z S d l n f j;go_wp2;go_ret;exact ⟨rfl,HB.o⟩
end
end
def MS.RS {C:aB->Prop} (h:MS KW C w0 w wb D L G nb T):MS w C w0 w wb D L G nb T:=by
 obtain ⟨t,xs,Q,p,r,sa,ar,v,Kind,ps,pg,ob,P,A,F,out,want,cache,b,a,c⟩:=h;exact ⟨t,xs,Q,p,r,sa,ar,v,Kind,ps,pg,ob,P,A,F,out,want,cache,b,⟨a.ref,a.rel,a.ow,λ_ _ _ _ _=>rfl⟩,c⟩
def MS.base {C:aB->Prop} (h:MS KW C w0 w wb D L G nb T):bW w0 w:=by
 obtain ⟨t,xs,Q,p,r,sa,ar,v,Kind,ps,pg,ob,P,A,F,out,want,cache,a,_⟩:=h;exact a.base
def MS.marks {C:aB->Prop} (h:MS KW C w0 w wb D L G nb T) {k:Nat} {cs:Array ZS} (b:KW.heap[k]?=ZW (Z4 cs 82 (0,0))):w.heap[k]?=KW.heap[k]?:=by
 obtain ⟨t,xs,Q,p,r,sa,ar,v,Kind,ps,pg,ob,P,A,F,out,want,cache,_,a,_⟩:=h;exact a.mks k cs _ (.inl rfl) b
def HaR (KW w0:ZT) (C:aB->Prop) (wb D L G nb T:Nat) (i ok:ZS) (wr:ZT):Prop:=∃ k:Nat,k<=1001/\i=Z7 Z9 (k:Nat)/\ok=Z1 ZV/\MS KW C w0 wr wb D L G nb (T+k)
theorem E9 {C:aB->Prop} (h:MS KW C w0 w wb D L G nb T) (S:∀ A B,dM A B->C A->C B) :
 ZR ZN 15 #[Z6 (ZW ⟨wb,0,ZX⟩)] w λe w'=>e=Z3 (Z1 ZV)/\MS KW C w0 w' wb D L G nb (T+1002):=by
 obtain ⟨t,xs,Q,p,r,sa,ar,v,Kind,ps,pg,ob,P,A,F,out,want,cache,b,a,Z,hc⟩:=h;have z:=yM b a ⟨4,0,YH,[]⟩ (Z5 ZX 0 0) ⟨_,_,_,rfl⟩ rfl hc;clear b a hc;go_enter func15,ntmps15;go_wp2_with fail;refine z.mono ?_;rintro e w1 ⟨rfl,E⟩;have m:=ak (show MS KW C w0 w1 wb D L G nb (T+1) from E.mono (by omega) λ_ q=>q);clear z E;go_wp2_with fail;go_loopw [3,4] (λok i wx=>HaR KW w0 C wb D L G nb (T+1) i ok wx) (λ_ i _=>1001-(intOf i).toNat)
 case atStart=>exact ⟨0,T8 _,rfl,rfl,m.o⟩
 case round=>
  clear m;obtain ⟨k,Y,rfl,rfl,V,xs,Q,p,r,sa,ar,v,Kind,ps,pg,ob,P,A,F,out,want,cache,b,a,X,hc⟩:=hrel;obtain ⟨rb,rv,f⟩:=a.ref;have N:=b.wbA.cells.2.2.2.2.2.1;have c0:=f.cell.1;have j:=f.shape;obtain ⟨ra,rc,rfl⟩:=bj f.own;have y:=a.rel.len;have u:Q.length<=1000:=by
   have:=b.live.Sj.1;have e:xs.os.length=xs.length:=(by simp [aL.os]);omega
  have M:=ak (show MS KW C w0 wr wb D L G nb (T+1002) from ⟨V,xs,Q,p,r,sa,ar,v,Kind,ps,pg,ob,P,A,F,out,want,cache,b,a,by omega,hc⟩);by_cases c:k<Q.length
  . obtain ⟨g,U,J⟩:∃ g,ra=ZW ⟨g,0,ZX⟩/\wr.cell? ⟨g,k*2,ZX⟩=ZW (Z0 Q[k].1):=by
     rcases j with ⟨_,e⟩|⟨g,cap,e,_,_,O⟩
     . rw [e] at c;simp at c
     . simp only [Vs] at e;exact ⟨g,e.1,(O k c).1⟩
    subst U;obtain ⟨x,I⟩:=nM (Q[k].1);rw [I] at J;have H:=Mo b a ⟨2,0,x,[]⟩ (Z5 ZX 0 0) ⟨_,_,_,rfl⟩ rfl;obtain ⟨l,d⟩:=nM (Q.length);rw [d] at c0 c u;have R:(k:Int)<(l:Int):=(by omega);have n:=al H hc;clear H b a f j y I d hc;go_wp2_with fail;refine n.o.1.mono ?_;rintro e W ⟨rfl,s⟩;have K:=ak (show HaR KW w0 C wb D L G nb (T+1) (Z7 Z9 ((k:Int)+1)) (Z1 ZV) W from ⟨k+1,by omega,rfl,rfl,s.mono (by omega) λB q=>S _ B q n.o.2⟩);clear s N c0 J;go_wp2;exact ⟨K.o,by simp [intOf];omega⟩
  . obtain ⟨l,d⟩:=nM (Q.length);rw [d] at c0 c u;have R:¬ (k:Int)<(l:Int):=(by omega);clear b a f j y d hc;go_wp2;go_ret;exact ⟨rfl,M.o⟩
section
def iS.arr {A:aB} (e:az w p A F) (f:aa (F.S) w w'):iS B w w':=λT hT j cs _ d=>f.block j (T5.1 d).1 (λq=>by
 have b:T≠75/\T≠79/\T≠114/\T≠4:=by
  rcases hT with (rfl|rfl|rfl|rfl|rfl)|rfl|rfl<;>exact ⟨by decide,by decide,by decide,by decide⟩
 obtain ⟨cs',T',c,g⟩:=e.kind q;rw [d] at c;simp only [UD,UP] at c;have a:=c.2.1;rcases g with k|k|k|k
 . exact b.1 (a.trans k)
 . exact b.2.1 (a.trans k)
 . exact b.2.2.1 (a.trans k)
 . exact b.2.2.2 (a.trans k))
def yN {r:ZS} (d:ij w wb D L G a s r nb out want cache) (c:aa (λj=>j=wb) w w'):iS w.heap.size w w':=λT hT j cs hl b=>c.block j hl (λe=>by
 have f:w.heap[wb]?=ZW (Z4 _ 42 (0,0)):=d;subst e;rw [f] at b;simp only [UD,UP] at b;have e:=b.2.1;rcases hT with (q|q|q|q|q)|q|q<;>exact absurd (e.trans q) (by decide))
structure AB (w0 w:ZT) (wb D L G nb t p r:Nat) (s:ZS) (xs:aL) (A:aB) (F:aK) (out want:ZS) (cache kc:Int):Prop where
 wbA:ij w wb D L G (Z6 (ZW ⟨p,0,ZX⟩)) s (Z6 (ZW ⟨r,0,ZX⟩)) nb out want cache
 sp:∃ o,s=.pointer o
 TR:IR w p D L G t kc xs A F
 nb:A.nb=nb
 base:bW w0 w
 glob:bK w0
 hK:3<=w0.heap.size
 wbB:w0.heap.size<=wb
 fB:∀ k,F.S k->w0.heap.size<=k
def AB.wbF {xs:aL} {A:aB} {kc:Int} (h:AB w0 w wb D L G nb t p r s xs A F out want cache kc):¬ F.S wb:=λq=>by
 have b:w.heap[wb]?=ZW (Z4 _ 42 (0,0)):=h.wbA;obtain ⟨cs,T,hT,c⟩:=h.TR.arr.kind q;rw [b] at hT;simp only [UD,UP] at hT;have a:=hT.2.1;rcases c with k|k|k|k<;>exact absurd (a.trans k) (by decide)
def Ox {w3 w4 w2:ZT} {xs:aL} {A:aB} (h:AB w0 w3 wb D L G nb t p r s xs A F out want cache cache) (hc:Dc KW w3 r Q xs out want) (y:bW w3 w4) (E:L7 w4 p D L G t cache xs A F e w2):w2.heap[wb]?=w3.heap[wb]?/\bK w2/\∃ sa,e=Z3 (ZZ #[Z6 (ZW ⟨sa,0,ZX⟩),.nilIface])/\∀ a,bW w2 a->MS KW (dM A) w0 (a.setCell ⟨wb,4,ZX⟩ (Z6 (ZW ⟨sa,0,ZX⟩))) wb D L G nb t:=by
 have f:aa F.S w3 w2:=(aa.RL y _).trans E.out;have C:=ai.lt h.wbA;have z:=h.wbF;have l:=f.block _ C z;have M:=hc.keep (iS.arr (B:=w3.heap.size) h.TR.arr f) lR;have:=y.size;have g:bW w0 w2:=h.base.trans (f.below λk b=>⟨T7 b h.base.size,λq=>by have:=h.fB k q;omega⟩);obtain ⟨sa,ar,J,hs,o,v,sb,ps,pg,ob,P,B,hl,w,b,hv,U,i⟩:=E.ans;refine ⟨l,h.glob.below g,sa,J,λa c=>?_⟩;have n:ij a wb D L G (Z6 (ZW ⟨p,0,ZX⟩)) s (Z6 (ZW ⟨r,0,ZX⟩)) nb out want cache:=ai.keep h.wbA ((c.block _ (T7 C f.size)).trans l);have d:aa (λj=>j=wb) a (a.setCell ⟨wb,4,ZX⟩ (Z6 (ZW ⟨sa,0,ZX⟩))):=aa.setCell _ _ _ rfl;have K:ij (a.setCell ⟨wb,4,ZX⟩ (Z6 (ZW ⟨sa,0,ZX⟩))) wb D L G (Z6 (ZW ⟨p,0,ZX⟩)) (Z6 (ZW ⟨sa,0,ZX⟩)) (Z6 (ZW ⟨r,0,ZX⟩)) nb out want cache:=ai.set n 4 [Z6 (ZW ⟨sa,0,ZX⟩)] (by simp [OW]);have u:iS a.heap.size a (a.setCell ⟨wb,4,ZX⟩ (Z6 (ZW ⟨sa,0,ZX⟩))):=yN n d;have:=h.base.size;have I:ZO a sa 105 (Z6 (ZW ⟨ar,0,ZX⟩)):=(c.block _ o.lt).trans o;have O:=(hl.below c).other d.size (λj N R=>d.block j R N) (by omega) (by omega) z (TV h.hK h.wbB) (λq=>by have:=i _ q;omega);have m:bW w0 a:=g.trans (c.mono g.size);exact ⟨_,_,_,_,_,_,_,_,mR sb cache D L G,ps,_,_,_,B,F,_,_,_,⟨K,u.SN.box I lR,O,w.nb.trans h.nb,m.trans (d.below λk b=>⟨T7 b m.size,λq=>by have:=h.wbB;omega⟩),h.glob,h.hK,h.wbB,by omega,h.fB,by omega,λk q=>by have:=i k q;omega,⟨yG h.TR.par,λps x b=>by
  obtain ⟨H,T,ho,rfl⟩:=b;exact ⟨H,T,x,rfl⟩,Gg,b⟩,λq=>by have:=i _ q;omega,⟨h.TR.c0,h.TR.c1⟩⟩,(M.keep (iS.below c _) lR).keep u lR,TU _,w⟩
def vh {xs:aL} {A:aB} (h:AB w0 w wb D L G nb t p r s xs A F out want cache cache) (hc:Dc KW w r Q xs out want) :
 ZR ZN 11 #[Z6 (ZW ⟨wb,0,ZX⟩)] w λe w'=>e=Z3 (Z1 ZV)/\MS KW (dM A) w0 w' wb D L G nb t:=by
 have c:bW w w.drew:=(TW _ w).drew;refine (IU h.wbA h.sp (λsa w2=>w2.heap[wb]?=w.heap[wb]?/\∀ d,bW w2 d->MS KW (dM A) w0 (d.setCell ⟨wb,4,ZX⟩ (Z6 (ZW ⟨sa,0,ZX⟩))) wb D L G nb t) (λ_ _ q=>q.1) ((IS (h.TR.below c)).mono λe w2 i=>?_)).mono ?_
 . obtain ⟨hs,_,sa,b,a⟩:=Ox h hc c i;exact ⟨sa,b,hs,a⟩
 . rintro e w' ⟨b,sa,w2,j,⟨_,a⟩,g,_,rfl⟩;exact ⟨b,(a _ g).mono lR λB f=>f⟩
section
variable {KW w0 w:ZT} {wb D L G nb t:Nat} {xs:aL} {Q:List (ByteArray×ZS)} {p r sa ar v:Nat} {Kind:aN->Prop} {ps:aN} {pg ob:ZS} {P:a8} {A:aB} {F:aK} {out want:ZS} {cache:Int}
theorem I3 (h:MB w0 w wb D L G nb t xs p r sa ar v Kind ps pg ob P A F out want cache) (hc:Dc KW w r Q xs out want) (h7:8<=A.nb) (o:qB) (T:ZS) (hq:∃ H m I,T=.slice H m I) (g:o.kind=5) :
 ZR ZN 13 #[Z6 (ZW ⟨wb,0,ZX⟩),.agg #[Z7 Z9 o.kind,Z7 Z9 o.a,Z0 o.s,T]] w λe w'=>e=Z3 (Z1 ZV)/\MS KW (dM A) w0 w' wb D L G nb (t+1):=by
 obtain ⟨H,m,I,rfl⟩:=hq;obtain ⟨B,hs,C⟩:=jg o.a 65 (by decide) (by decide);have U:wrap64 ((IntKind.u64.wrap o.a).tmod 65)=(B:Int):=by simpa using C
 clear C;obtain ⟨w1,N⟩:=nM (w.alloc (Z4 #[Z7 Z9 o.kind,Z7 Z9 o.a,Z0 o.s,.slice H m I] 47));have f:=QR h hc o _ N;have hm:=CQ f.b.live.vol.arr f.b.live.n0;obtain ⟨R,x1,x2,x3⟩:=f.op.cells;have a1:=f.b.wbA.cells.2.2.2.1;obtain ⟨q0,x⟩:=nM (w.heap.size);have HS:=al f x;clear f h hc;rw [g] at R N ⊢;rw [x] at R x1 x2 x3;clear g;go_enter func13,ntmps13;go_wp2_with fail;clear x N R x1 x2 x3;refine hm.mono ?_;rintro e w2 ⟨E,rfl,u,J,z⟩;clear hm a1;obtain ⟨f,x⟩:=HS.o;have l:ij w2 wb D L G (Z6 (ZW ⟨p,0,ZX⟩)) (Z6 (ZW ⟨sa,0,ZX⟩)) (Z6 (ZW ⟨r,0,ZX⟩)) nb out want cache:=ai.keep f.b.wbA (u.block _ (ai.lt f.b.wbA));obtain ⟨_,_,_,c3,_,_,_,_,_,c9⟩:=l.cells;have f3:=ai.R3 l 3;have f9:=ai.R3 l 9;have X:lQ w2 q0 o (.slice H m I):=by rw [<- x];exact ai.keep f.op (u.block _ f.lt)
 have y1:=X.cells.2.1;obtain ⟨c,hj⟩:=nM (w1.heap.size);rw [hj] at J z ⊢;have ha:wb<w1.heap.size:=ai.lt f.b.wbA;obtain ⟨K,O⟩:=nM ((w2.setCell ⟨wb,3,ZX⟩ (Z6 (ZW ⟨c,0,ZX⟩))).setCell ⟨wb,9,ZX⟩ (Z7 Z9 (B:Nat)));have i:aa (λj=>j=wb) w2 K:=by rw [<- O];exact (aa.setCell (S:=λj=>j=wb) w2 ⟨wb,3,ZX⟩ _ rfl).trans (aa.setCell (S:=λj=>j=wb) _ ⟨wb,9,ZX⟩ _ rfl)
 have Y:ij K wb D L G (Z6 (ZW ⟨c,0,ZX⟩)) (Z6 (ZW ⟨sa,0,ZX⟩)) (Z6 (ZW ⟨r,0,ZX⟩)) nb out want (B:Int):=by
  rw [<- O];exact ai.set (ai.set l 3 [Z6 (ZW ⟨c,0,ZX⟩)] (by simp [OW])) 9 [Z7 Z9 (B:Nat)] (by simp [OW])
 have W:az K c A E:=J.keep λk g=>i.block k (J.RN g) (λe=>by have:=z k g;omega);have d:=f.b;have hi:=d.base.size;have hr:=TV d.hK d.wbB;have M:bW w0 w2:=d.base.trans (u.mono hi);have y:=d.live.vol.below u lR;have Z:AB w0 K wb D L G nb t c r (Z6 (ZW ⟨sa,0,ZX⟩)) xs A E out want (B:Int) (B:Int):=⟨Y,⟨_,rfl⟩,⟨W,d.live.vol.n,d.live.vol.par,by omega,by omega,h7,d.live.nb,y.laid.keep (i.block _ y.laid.lt (by omega)),y.tab.keep (i.block _ y.tab.lt (by omega)),TV y.room i.size,λq=>by have:=z _ q;have:=d.hK;omega,λq=>by have:=z _ q;have:=d.hK;omega,.inr ⟨d.live.turn,P,d.live.disk⟩,d.live.fine⟩,d.nb,M.trans (i.below λk g=>⟨by have:=M.size;omega,λq=>by have:=d.wbB;omega⟩),d.glob,d.hK,d.wbB,λk g=>by have:=z k g;omega⟩;have hn:=(f.c.keep (iS.below u _) lR).keep (yN l i) lR;have hp:=vh Z hn;clear f x u J z l X hj ha i Y W d hi M Z hn y hr;go_wp2_with fail;clear O;refine hp.mono ?_;rintro e w4 ⟨rfl,V⟩;have H4:=ak V;clear V hp;go_wp2;go_ret;exact ⟨rfl,H4.o.mono (by omega) λ_ q=>q⟩
end
end
section
open Go.ChangeShapes Go.WideShapes Go.Joins
def Tryz.Tt:laidOutB ZN=ZV:=by kernel_rfl
def Tryz.S5:ZN.cellsOf 47=4:=by kernel_rfl
def Tryz.Su:ZN.cellsOf 3=1:=by kernel_rfl
def Tryz.Tm:ZN.cellsOf 9=1:=by kernel_rfl
def Tryz.SI:ZN.cellsOf 40=1:=by kernel_rfl
def Tryz.SX:ZN.cellsOf 5=1:=by kernel_rfl
def Tryz.SY:ZN.bytesOf 5=1:=by kernel_rfl
instance:Inhabited qB:=⟨⟨0,0,YH,[]⟩⟩
def yO:reachBytes=140737488351232:=rfl
def Mp {l:List ZS} (h:l.length=4):∃ a b c d,l=[a,b,c,d]:=by
 match l,h with
 | [a,b,c,d],_=>exact ⟨a,b,c,d,rfl⟩
def gP {P:Program} {e:ZP}:∀ {ds:List (DataW H)} {d:DataW H},d∈ds->∀ n∈d.weights P e,n∈DataW.weightsAll P e ds
 | b::ds,d,hd,n,a=>by
  simp only [DataW.weightsAll,Ui];rcases Uw.1 hd with rfl|hd
  . exact .inl a
  . exact .inr (gP hd n a)
def Fa {enc:ZP×ZS->H} {v:ZS} {x:DataW H×List MemPlace} (h:DataW.trod enc ZN W 0 (λ_=>ZV) ZV n 40 [v]=ZW x) (t:∀ k∈x.1.weights ZN 40,k<=reachBytes):∃ l:a8,Bs W v l:=by
 rcases open_ints Um Xg Tryz.SX h with ⟨c,_⟩|⟨a,len,cap,d,c,_,hl,E,C,A,g,m⟩
 . simp at c;exact ⟨[],ZX,0,c,by simp,by simp,by simp,λh=>absurd rfl h⟩
 . simp at c;simp only [if_true] at C;subst A;have w:=t (d.length*1) (by
    simp only [DataW.weights,Um,lits,Tryz.SY];refine Uw.2 (.inl ?_);simp only [Ue,Uo,Un];omega)
   rw [yO] at w;have hll:((d.take len).map Int.toNat).length=len:=(by simp;omega);refine ⟨(d.take len).map Int.toNat,ZW a,cap,by rw [hll];exact c,by rw [hll];exact hl,by rw [hll];omega,λy B=>?_,λr=>?_⟩
   . obtain ⟨z,u,rfl⟩:=T9.1 B;have:=bounds_u8 (m z (UV u));omega
   . have:0<len:=by
      rcases WA len with e|e
      . subst e;exact absurd rfl r
      . exact e
     obtain ⟨b,o,sp⟩:=a;have p:=g 0 (by omega);have s:sp=ZX:=(by simpa [Addr.add] using aaP p);subst s;refine ⟨b,o,rfl,λk j=>?_⟩;have q:k<len:=(by rw [hll] at j;exact j);have f:k<d.length:=(by omega);have i:=g k f;rw [V3] at i;rw [i];have:=bounds_u8 (m _ (T6 f));simp [f,q];omega
def Fb {enc:ZP×ZS->H} {cs:List ZS} {x:DataW H×List MemPlace} (h:DataW.trod enc ZN W 0 (λ_=>ZV) ZV n 47 cs=ZW x) (i:∀ k∈x.1.weights ZN 47,k<=reachBytes) :
 ∃ o:qB×ZS,cs=[Z7 Z9 o.1.kind,Z7 Z9 o.1.a,Z0 o.1.s,o.2]/\Bs W o.2 o.1.d/\o.1.s.size<=140737488355328:=by
 obtain ⟨l,p,q,r,m,rfl,hl,t,u,w,j⟩:=trod_struct4 underlying47 h;rw [Tryz.S5] at hl;obtain ⟨a,b,c,d,rfl⟩:=Mp hl;obtain ⟨A,e,_,w0⟩:=WY WM t;obtain ⟨B,f,_,w1⟩:=WY WM u;obtain ⟨s,g,y,_⟩:=DataW.trod_string aaN w;rw [show ZN.cellsOf 3=1 from Tryz.Su] at e f;rw [show ZN.cellsOf 9=1 from Tryz.Tm] at g;rw [show ZN.cellsOf 40=1 from Tryz.SI] at j;simp at e f g;subst e f g;simp only [DataW.weights,underlying47] at i;obtain ⟨dl,hd⟩:=Fa (v:=d) (by simpa using j) (λk z=>i k (by
  show k∈l.1.weights ZN _++(p.1.weights ZN _++(q.1.weights ZN _++(r.1.weights ZN 40++[])));simp only [Ui];exact .inr (.inr (.inr (.inl z)))))
 refine ⟨(⟨A,B,s,dl⟩,d),rfl,hd,?_⟩;have:=i s.size (by
  show s.size∈l.1.weights ZN _++(p.1.weights ZN _++(q.1.weights ZN 9++(r.1.weights ZN _++[])));simp only [Ui];refine .inr (.inr (.inl ?_));rw [y];simp only [DataW.weights,Uw];exact .inl (show s.data.size=s.data.toList.length from WN.symm))
 rw [yO] at this;show s.size<=_;omega
def vk {enc:ZP×ZS->H} {d:DataW H} {ps:List MemPlace} (h:DataW.Trod enc ZN W 0 (λ_=>ZV) ZV 22 (.slice ao len0 cap0) d ps) (z:∀ n∈d.weights ZN 22,n<=reachBytes) :
 ∃ l:List qB,QQ W (.slice ao len0 cap0) l/\∀ x∈l,x.s.size<=140737488355328/\x.d.length<=140737488355328:=by
 obtain ⟨fuel,c⟩:=h;rcases open_slice underlying22 c with ⟨q,_⟩|⟨a,len,cap,m,R,D,P,q,_,hl,Q,y,g,w⟩
 . simp [Value.cells] at q;obtain ⟨rfl,rfl,rfl⟩:=q;exact ⟨[],⟨ZX,0,rfl,λh=>absurd rfl h⟩,λx g=>(by cases g)⟩
 . simp [Value.cells] at q;obtain ⟨rfl,rfl,rfl⟩:=q;simp only [Xm] at g;obtain ⟨rfl,_⟩:=g;simp only [DataW.weights,underlying22] at z;simp only [if_true] at y;have I:=y.symm;subst I;rw [Tryz.S5] at w;obtain ⟨f,c⟩:=choose_lt (α:=qB×ZS) (n:=len0) (p:=λi s=>(∀ j,j<4->W.cell? ((a.add (i*4)).add j)=([Z7 Z9 s.1.kind,Z7 Z9 s.1.a,Z0 s.1.s,s.2]:List ZS)[j]?)/\Bs W s.2 s.1.d/\s.1.s.size<=140737488355328) (λi r=>by
    obtain ⟨cs',F,G⟩:=w i (by omega);obtain ⟨s,rfl,hs⟩:=Fb G (λk O=>z k (UJ _ (UF _ (gP (d:=D i) (T9.2 ⟨i,Uu.2 r,rfl⟩) k O))));obtain ⟨_,_,hc⟩:=abg F;exact ⟨s,hc,hs⟩)
   obtain ⟨b,o,sp⟩:=a;refine ⟨(YE len0).map λi=>(f i).1,⟨ZW ⟨b,o,sp⟩,cap0,by simp,λM=>?_⟩,λx g=>?_⟩
   . have u:0<len0:=by
      rcases WA len0 with e|e
      . subst e;exact absurd rfl M
      . exact e
     have J:=(c 0 u).1 0 (by decide);have N:sp=ZX:=by
      have:W.cell? (((⟨b,o,sp⟩:Addr).add (0*4)).add 0)=ZW (Z7 Z9 (f 0).1.kind):=J;simpa [Addr.add] using aaP this
     subst N;have v:=(c 0 u).1 0 (by decide);rw [V3,V3] at v;refine ⟨b,o,rfl,Uf (show W.cell? _=ZW _ from v),λi r=>?_⟩;have K:i<len0:=(by simpa using r);obtain ⟨hc,t,_⟩:=c i K;have A:=hc 0 (by decide);have B:=hc 1 (by decide);have C:=hc 2 (by decide);have E:=hc 3 (by decide);rw [V3,V3] at A B C E;simp only [UN,YG];exact ⟨(f i).2,A,B,C,E,t⟩
   . obtain ⟨i,r,rfl⟩:=T9.1 g;obtain ⟨_,t,hs⟩:=c i (by simpa using r);obtain ⟨_,_,_,_,L,_⟩:=t;exact ⟨hs,L⟩
end
section
open Go.ChangeShapes Go.WideShapes Go.Joins
structure Mq where
 kind:Int
 drive:Int
 block:Int
 bit:Int
 at_:Int
def Mq.cs (f:Mq):List ZS:=[Z7 Z9 f.kind,Z7 Z9 f.drive,Z7 Z9 f.block,Z7 Z9 f.bit,Z7 Z9 f.at_]
def Fts (w:ZT) (v:ZS) (l:List Mq):Prop:=
 ∃ ao c,v=.slice ao l.length c/\(l≠[]->∃ b off,ao=ZW ⟨b,off,ZX⟩/\b<w.heap.size/\∀ i (hi:i<l.length),w.cell? ⟨b,off+i*5,ZX⟩=ZW (Z7 Z9 l[i].kind)/\w.cell? ⟨b,off+i*5+1,ZX⟩=ZW (Z7 Z9 l[i].drive)/\w.cell? ⟨b,off+i*5+2,ZX⟩=ZW (Z7 Z9 l[i].block)/\w.cell? ⟨b,off+i*5+3,ZX⟩=ZW (Z7 Z9 l[i].bit)/\w.cell? ⟨b,off+i*5+4,ZX⟩=ZW (Z7 Z9 l[i].at_))
def Tryz.Sq:ZN.cellsOf 60=5:=by kernel_rfl
instance:Inhabited Mq:=⟨⟨0,0,0,0,0⟩⟩
def Mr {α:Type} {l:List α} (h:l.length=5):∃ a b c d e,l=[a,b,c,d,e]:=by
 match l,h with
 | [a,b,c,d,e],_=>exact ⟨a,b,c,d,e,rfl⟩
def we {enc:ZP×ZS->H} {cs:List ZS} {x:DataW H×List MemPlace} (h:DataW.trod enc ZN W 0 (λ_=>ZV) ZV n 60 cs=ZW x):∃ o:Mq,cs=o.cs:=by
 obtain ⟨xs,m,_,_,hl,p,f⟩:=DataW.trod_struct underlying60 h;rw [Tryz.Sq] at hl;obtain ⟨a,b,c,d,e,rfl⟩:=Mr hl;obtain ⟨q,r,s,t,u,rfl⟩:=Mr (show xs.length=5 from p);obtain ⟨v,g,_⟩:=WY (x:=q) WM (f 0 _ rfl);obtain ⟨w,i,_⟩:=WY (x:=r) WM (f 1 _ rfl);obtain ⟨y,j,_⟩:=WY (x:=s) WM (f 2 _ rfl);obtain ⟨z,k,_⟩:=WY (x:=t) WM (f 3 _ rfl);obtain ⟨A,l,_⟩:=WY (x:=u) WM (f 4 _ rfl);simp [Tryz.Su] at g i j k l;subst g i j k l;exact ⟨⟨v,w,y,z,A⟩,rfl⟩
def vl {enc:ZP×ZS->H} {d:DataW H} {ps:List MemPlace} (h:DataW.Trod enc ZN W 0 (λ_=>ZV) ZV 24 (.slice ao len0 cap0) d ps) :
 ∃ l:List Mq,Fts W (.slice ao len0 cap0) l:=by
 obtain ⟨fuel,g⟩:=h;rcases open_slice underlying24 g with ⟨c,_⟩|⟨a,len,cap,m,K,D,G,c,_,hl,I,r,J,q⟩
 . simp [Value.cells] at c;obtain ⟨rfl,rfl,rfl⟩:=c;exact ⟨[],ZX,0,rfl,λh=>absurd rfl h⟩
 . simp [Value.cells] at c;obtain ⟨rfl,rfl,rfl⟩:=c;simp only [if_true] at r;have B:=r.symm;subst B;rw [Tryz.Sq] at q;obtain ⟨f,g⟩:=choose_lt (α:=Mq) (n:=len0) (p:=λi s=>∀ j,j<5->W.cell? ((a.add (i*5)).add j)=s.cs[j]?) (λi t=>by
    obtain ⟨cs',z,A⟩:=q i (by omega);obtain ⟨s,rfl⟩:=we A;obtain ⟨_,_,hc⟩:=abg z;exact ⟨s,hc⟩)
   obtain ⟨b,o,sp⟩:=a;refine ⟨(YE len0).map f,ZW ⟨b,o,sp⟩,cap0,by simp,λE=>?_⟩;have C:0<len0:=by
    rcases WA len0 with e|e
    . subst e;exact absurd rfl E
    . exact e
   have k:=g 0 C 0 (by decide);have F:sp=ZX:=by
    have:W.cell? (((⟨b,o,sp⟩:Addr).add (0*5)).add 0)=ZW (Z7 Z9 (f 0).kind):=k;simpa [Addr.add] using aaP this
   subst F;rw [V3,V3] at k;refine ⟨b,o,rfl,Uf (show W.cell? _=ZW _ from k),λi t=>?_⟩;have hc:=g i (by simpa using t);have u:=hc 0 (by decide);have v:=hc 1 (by decide);have w:=hc 2 (by decide);have x:=hc 3 (by decide);have y:=hc 4 (by decide);rw [V3,V3] at u v w x y;simp only [UN,YG];exact ⟨u,v,w,x,y⟩
end
section
def MN (M:List (Nat×Nat)):List ZS:=M.flatMap λm=>[Z7 Z9 (m.1:Nat),Z7 Z9 (m.2:Nat)]
def Mk (w0 w:ZT) (tv:ZS) (M:List (Nat×Nat)):Prop:=w.ownsRow w0.heap.size 82 2 tv M.length (MN M)
structure nt (lk:Prop) (S:Nat) (A B:aB):Prop where
 n:B.n=A.n
 nb:B.nb=A.nb
 rc:B.rc=A.rc
 sv:B.sv=A.sv
 gn:∀ b i,gnB B b i=ZV->gnB A b i=ZV\/S.testBit i=ZV
 lost:∀ i,B.lost i=ZV->A.lost i=ZV\/lk/\S.testBit i=ZV
def nt.refl (lk:Prop) (S:Nat) (A:aB):nt lk S A A:=⟨rfl,rfl,rfl,rfl,λ_ _=>.inl,λ_=>.inl⟩
def nt.trans {A B C:aB} (h:nt lk S A B) (k:nt lk S B C):nt lk S A C:=⟨k.n.trans h.n,k.nb.trans h.nb,k.rc.trans h.rc,k.sv.trans h.sv,λb i c=>(k.gn b i c).elim (h.gn b i) .inr,λi c=>(k.lost i c).elim (h.lost i) .inr⟩
def nt.Tq {A B:aB} (h:nt lk S A B) (a:A.sv=S):Rm A B:=⟨h.n,h.nb,h.sv,λb i q=>by rw [a];exact h.gn b i q⟩
def nt.fine {A B:aB} (h:nt lk S A B) (a:A.sv=S) (q:A.fine D L G):B.fine D L G:=⟨h.sv▸q.1,λi b e=>by rw [h.sv];exact (h.lost i e).elim (q.2 i (h.n▸b)) λe=>by rw [a];exact e.2⟩
def nt.of {A B:aB} (hd:S.testBit d=ZV) (c:B.n=A.n) (a:B.nb=A.nb) (f:B.rc=A.rc) (hs:B.sv=A.sv) (h:∀ b i,i≠d->gnB B b i=gnB A b i) (hl:∀ i,B.lost i=ZV->A.lost i=ZV\/lk/\i=d):nt lk S A B:=
 ⟨c,a,f,hs,λb i q=>by
  by_cases e:i=d
  . rw [e];exact .inr hd
  . rw [<- h b i e];exact .inl q,λi q=>(hl i q).imp_right λ(e:lk/\i=d)=>⟨e.1,by rw [e.2];exact hd⟩⟩
section
variable {lk:Prop} {S d:Nat} (A:aB) (b:Nat) (hd:S.testBit d=ZV)
include hd
def nt.SO:nt lk S A (A.SO d b):=.of hd rfl rfl rfl rfl (λm i e=>by simp [gnB,aB.SO,e]) λ_=>.inl
def nt.turn:nt lk S A (A.turn d b):=.of hd rfl rfl rfl rfl (λm i e=>by simp [gnB,aB.turn,e]) λ_=>.inl
def nt.Tc (a:lk):nt lk S A (A.Tc d):=.of hd rfl rfl rfl rfl (λm i e=>by simp [gnB,aB.Tc,e]) λi q=>by
 by_cases e:i=d
 . exact .inr ⟨a,e⟩
 . exact .inl (by simpa [aB.Tc,e] using q)
def nt.renew:nt lk S A (A.renew d):=.of hd rfl rfl rfl rfl (λm i e=>by simp [gnB,aB.renew,e]) λi q=>.inl (by
 by_cases e:i=d
 . simp [aB.renew,e] at q
 . simpa [aB.renew,e] using q)
end
def mkK (w0 w:ZT) (k:Nat):Prop:=w0.heap.size<=k/\∃ cs,w.heap[k]?=ZW (Z4 cs 82 (0,0))
def mkK.no {cs:Array ZS} {T:ZP} {z:Nat×Nat} (h:w.heap[k]?=ZW (Z4 cs T z)) (hT:T≠82):¬ mkK w0 w k:=λ⟨_,cs',e⟩=>by
 rw [h] at e;simp only [UD,UP] at e;exact hT e.2.1
def aS.ruin {xs:aL} {A B:aB} (h:aS w ar v p ps D L G t pg ob P xs A F) (s:3<=w0.heap.size) (o:az w' p B F') (r:∀ k,F'.S k->F.S k\/w.heap.size<=k) (d:aa (λk=>F.S k\/mkK w0 w k) w w') (a:nt lk S A B) (f:A.sv=S):aS w' ar v p ps D L G t pg ob P xs B F':=by
 have c:∀ k,k<w.heap.size->¬ F.S k->¬ F'.S k:=λk hl hs q=>(r k q).elim hs (by omega);have j:∀ k,(ar<k/\¬ F.S k/\¬ ps.bl k)->k<w.heap.size->((ar<k/\¬ F.S k/\¬ ps.bl k)/\¬ F'.S k):=λk q hl=>⟨q,c k hl q.2.1⟩;have hK:∀ k,Nm w k->((ar<k/\¬ F.S k/\¬ ps.bl k)/\¬ F'.S k)->w'.heap[k]?=w.heap[k]?:=λk c hK=>d.block k c.lt λq=>q.elim hK.1.2.1 λq=>by
  obtain ⟨cs,T,z,e,hT⟩:=c;exact mkK.no e hT q
 have l:w.heap[ar]?=ZW (Z4 _ 146 (0,0)):=h.arc;have m:w.heap[v]?=ZW (Z4 _ 139 (0,0)):=h.vol.vol;exact { h with fine:=a.fine f h.fine,nar:=c _ h.arc.lt h.nar,arc:=h.arc.keep (d.block _ h.arc.lt λq=>q.elim h.nar (mkK.no l (by decide))),vol:={ h.vol with vol:=h.vol.vol.keep (d.block _ h.vol.vol.lt λq=>q.elim h.vol.v (mkK.no m (by decide))),arr:=o,v:=c _ h.vol.vol.lt h.vol.v,g:=c _ h.vol.laid.lt h.vol.g,t:=c _ h.vol.tab.lt h.vol.t,laid:=h.vol.laid.keep (d.block _ h.vol.laid.lt λq=>q.elim h.vol.g λq=>by have:=q.1;omega),tab:=h.vol.tab.keep (d.block _ h.vol.tab.lt λq=>q.elim h.vol.t λq=>by have:=q.1;omega),room:=TV h.vol.room d.size,n:=a.n.trans h.vol.n },disk:=h.disk.off (a.Tq f) λb _ i=>by rw [a.rc],pgs:=((h.pgs.wk j).Sy hK).wk λk q _=>⟨q.1.1,q.2,q.1.2.2⟩,cat:=((h.cat.wk j).Sy hK).wk λk q _=>⟨q.1.1,q.2,q.1.2.2⟩,nb:=by rw [a.nb];exact h.nb,kit:=ps.keep _ _ h.kit λk a=>d.block k (ps.lt _ h.kit k a) λq=>q.elim (h.apt k a).2.2.2 λ⟨_,cs,e⟩=>bU h.kit e (by unfold jP;decide) a,apt:=λk a=>⟨(h.apt k a).1,(h.apt k a).2.1,(h.apt k a).2.2.1,c k (ps.lt _ h.kit k a) (h.apt k a).2.2.2⟩ }
def Mk.below {tv:ZS} (h:Mk w0 w tv M) (a:bW w w'):Mk w0 w' tv M:=aq h a
def Mk.apart {tv:ZS} {A:aB} (h:Mk w0 w tv M) (b:az w p A F) {k:Nat} (c:tv.ownBlock=ZW k):¬ F.S k:=λq=>by
 obtain ⟨cs,T,hT,a⟩:=b.kind q;obtain ⟨cur,hc⟩:=bw h c;rw [hT] at hc;simp only [UD,UP] at hc;have e:=hc.2.1;rcases a with q|q|q|q<;>exact absurd (q.symm.trans e) (by decide)
def Mk.arr {tv:ZS} {A:aB} (h:Mk w0 w tv M) (a:az w p A F) (b:aa F.S w w'):Mk w0 w' tv M:=bR h b λk c=>h.apart a c
def Mk.mkK {ws:ZT} {tv:ZS} (h:Mk w0 w tv M) (b:aa (λk=>F.S k\/mkK w0 ws k) ws w) {k:Nat} (a:tv.ownBlock=ZW k) (hl:k<ws.heap.size):F.S k\/mkK w0 ws k:=by
 obtain ⟨cur,hc⟩:=bw h a;by_cases q:F.S k\/(w0.heap.size<=k/\∃ cs,ws.heap[k]?=ZW (Z4 cs 82 (0,0)))
 . exact q
 . exact .inr ⟨ef h a,_,(b.block k hl q).symm.trans hc⟩
def Tryz.TC:(ZN.info? 82).map (λi=>(i.zero,i.size,i.bytes))=ZW (ZW (.agg #[Z7 Z9 0,Z7 Z9 0]),2,16):=by kernel_rfl
def Mt:∀ (M:List (Nat×Nat)) (k:Nat) (h:k<M.length),(MN M)[k*2]?=ZW (Z7 Z9 (M[k].1:Nat))/\(MN M)[k*2+1]?=ZW (Z7 Z9 (M[k].2:Nat))
 | [],k,h=>absurd h (by simp)
 | q::M,0,_=>⟨rfl,rfl⟩
 | q::M,k+1,h=>by
  obtain ⟨a,b⟩:=Mt M k (by simpa using h);have e:MN (q::M)=[Z7 Z9 (q.1:Nat),Z7 Z9 (q.2:Nat)]++MN M:=by unfold MN;rw [VE]
  rw [e];refine ⟨?_,?_⟩
  . rw [U6 (by simp;omega),show (k+1)*2-[Value.int .i64 (q.1:Nat),Z7 Z9 (q.2:Nat)].length=k*2 by simp;omega];exact a
  . rw [U6 (by simp;omega),show (k+1)*2+1-[Value.int .i64 (q.1:Nat),Z7 Z9 (q.2:Nat)].length=k*2+1 by simp;omega];exact b
def Mk.at {ta:Option Addr} {tc ml:Nat} (h:Mk w0 w (.slice ta ml tc) M) {k:Nat} (c:k<M.length):∃ g,ta=ZW ⟨g,0,ZX⟩/\w.cell? ⟨g,k*2,ZX⟩=ZW (Z7 Z9 (M[k].1:Nat))/\w.cell? ⟨g,k*2+1,ZX⟩=ZW (Z7 Z9 (M[k].2:Nat)):=by
 rcases h.2 with ⟨e,i⟩|⟨g,cap,cur,e,_⟩
 . omega
 . simp only [Vs] at e;obtain ⟨a,_,_⟩:=e;obtain ⟨d,f⟩:=Mt M k c;have c1:=h.cells (g:=g) (by rw [a];rfl) _ _ d;have b:=h.cells (g:=g) (by rw [a];rfl) _ _ f;rw [jy] at c1 b;exact ⟨g,a,c1,b⟩
theorem wg (a:k<M.length) (x:Nat×Nat):(x∈M.take (k+1))↔(x∈M.take k\/M[k]=x):=by
 rw [Vd,Uc a,Ui];exact or_congr Yc (by simp only [Option.toList,U5];exact eq_comm)
structure Fq (lk:Prop) (w0 w:ZT) (S:Nat) (A:aB) (F:aK) (B:aB) (F':aK) (wr:ZT):Prop where
 out:aa (λj=>F.S j\/mkK w0 w j) w wr
 rus:nt lk S A B
 TB:∀ j,F'.S j->F.S j\/w.heap.size<=j
def Fq.refl (lk:Prop) (w0 w:ZT) (S:Nat) (A:aB) (F:aK):Fq lk w0 w S A F A F w:=⟨aa.refl _ _,nt.refl lk S A,λ_ q=>.inl q⟩
def Fq.trans {w5:ZT} {A B C:aB} {F5:aK} (h:Fq lk w0 w S A F B F' wr) (k:Fq lk w0 wr S B F' C F5 w5):Fq lk w0 w S A F C F5 w5:=by
 refine ⟨h.out.later k.out λj a q=>?_,h.rus.trans k.rus,λj q=>?_⟩
 . rcases q with q|⟨b,cs,c⟩
   . exact (h.TB j q).elim .inl (by omega)
   . by_cases e:F.S j\/mkK w0 w j
     . exact e
     . exact .inr ⟨b,cs,(h.out.block j a e).symm.trans c⟩
 . rcases k.TB j q with q|q
   . exact h.TB j q
   . exact .inr (TV h.out.size q)
structure FW (w0 w:ZT) (wb D L G nb p:Nat) (A:aB) (F:aK) (M:List (Nat×Nat)) (tv:ZS):Prop where
 wb:∃ s r out want cache,ij w wb D L G (Z6 (ZW ⟨p,0,ZX⟩)) s r nb out want cache
 ru:pI w p A F M
 mrk:Mk w0 w tv M
 n:A.n=D+L+G
 nb:A.nb=nb
 sz:w0.heap.size<=w.heap.size
def Av {r:ZS} {A:aB} (h:ij w wb D L G a s r nb out want cache) (d:az w p A F) (e:aa (λj=>F.S j\/mkK w0 w j) w w'):ij w' wb D L G a s r nb out want cache:=by
 have b:w.heap[wb]?=ZW (Z4 _ 42 (0,0)):=h;refine ai.keep h (e.block _ (ai.lt h) λq=>q.elim (λq=>?_) (mkK.no b (by decide)));obtain ⟨cs,T,hT,f⟩:=d.kind q;rw [b] at hT;simp only [UD,UP] at hT;have c:=hT.2.1;rcases f with k|k|k|k<;>exact absurd (c.trans k) (by decide)
def FW.below {A:aB} {tv:ZS} (h:FW w0 w wb D L G nb p A F M tv) (a:bW w w'):FW w0 w' wb D L G nb p A F M tv:=by
 obtain ⟨s,r,out,want,cache,b⟩:=h.wb;exact { h with wb:=⟨s,r,out,want,cache,ai.keep b (a.block _ (ai.lt b))⟩,ru:=h.ru.keep λk c=>a.block k (h.ru.1.RN c),mrk:=h.mrk.below a,sz:=TV h.sz a.size }
def FW.next {A B:aB} {tv:ZS} (h:FW w0 w wb D L G nb p A F M tv) (a:aa F.S w w') (e:pI w' p B F' M) (b:nt lk S A B) (d:∀ j,F'.S j->F.S j\/w.heap.size<=j):FW w0 w' wb D L G nb p B F' M tv/\Fq lk w0 w S A F B F' w':=by
 obtain ⟨s,r,out,want,cache,f⟩:=h.wb;have c:aa (λj=>F.S j\/mkK w0 w j) w w':=a.mono λ_ _=>.inl;exact ⟨⟨⟨s,r,out,want,cache,Av f h.ru.1 c⟩,e,h.mrk.arr h.ru.1 a,b.n.trans h.n,b.nb.trans h.nb,TV h.sz a.size⟩,c,b,d⟩
def FR (lk:Prop) (w0 w:ZT) (wb D L G nb p S m n:Nat) (A:aB) (F:aK) (tv i:ZS) (wr:ZT):Prop:=∃ (k:Nat) (B:aB) (F':aK) (M:List (Nat×Nat)),k<=n/\i=Z7 Z9 (k:Nat)/\FW w0 wr wb D L G nb p B F' M tv/\Fq lk w0 w S A F B F' wr/\M.length<=m+k
section
variable {KW w0 ws w:ZT} {wb D L G nb t m:Nat} {xs:aL} {Q:List (ByteArray×ZS)} {p r sa ar v:Nat} {Kind:aN->Prop} {ps:aN} {pg ob:ZS} {P:a8} {A:aB} {F:aK} {out want:ZS} {cache:Int} {tv:ZS} {M:List (Nat×Nat)}
def MB.fault (h:MB w0 w wb D L G nb t xs p r sa ar v Kind ps pg ob P A F out want cache) (hc:Dc KW w r Q xs out want) {w':ZT} {B:aB} {F':aK} (l:az w' p B F') (a:Fq lk w0 w S A F B F' w') (m:A.sv=S):MB w0 w' wb D L G nb t xs p r sa ar v Kind ps pg ob P B F' out want cache/\Dc w' w' r Q xs out want:=by
 have b:=a.out;have d:ve w.heap.size w w':=λT hT j cs hl f=>b.block j hl λq=>by
  rcases q with q|q
  . obtain ⟨cs',T',c,i⟩:=h.live.vol.arr.kind q;rw [f] at c;simp only [UD,UP] at c;have g:=c.2.1;rcases hT with rfl|rfl|rfl|rfl|rfl<;>(rcases i with k|k|k|k<;>exact absurd (g.trans k) (by decide))
  . refine mkK.no f ?_ q;rcases hT with rfl|rfl|rfl|rfl|rfl<;>decide
 obtain ⟨u,rv,s⟩:=hc.ref;exact ⟨{ h with wbA:=Av h.wbA h.live.vol.arr b,box:=d.box h.box lR,live:=h.live.ruin h.hK l a.TB b a.rus m,nb:=a.rus.nb.trans h.nb,base:=h.base.trans (b.below λk n=>⟨T7 n h.base.size,λq=>q.elim (λq=>by have:=h.fB k q;omega) λq=>by have:=q.1;omega⟩),fB:=λk q=>(a.TB k q).elim (h.fB k) λe=>TV h.base.size e },⟨u,rv,d.ref s lR⟩,hc.rel.keep λ_ _ o=>d.ow o lR,hc.ow,λ_ _ _ _ _=>rfl⟩
theorem I4 (hW:FW w0 w wb D L G nb p A F M tv) (h8:vG D L G) (q7:0<nb) (xb:nb<=1000) {S:Nat} (hS:S<18446744073709551616) {fl:List Mq} {fv:ZS} (hf:∀ wr,aa (λj=>F.S j\/mkK w0 w j) w wr->Fts wr fv fl) (hm:M.length<=m) (xg:m+fl.length<=1000000) (at_:Int) (qn:∀ f∈fl,f.kind=0->lk) :
 ZR ZN 10 #[Z6 (ZW ⟨wb,0,ZX⟩),Z7 Z8 (S:Nat),fv,Z7 Z9 at_,tv] w λe w'=>∃ xj B F' c,e=Z3 xj/\FW w0 w' wb D L G nb p B F' c xj/\Fq lk w0 w S A F B F' w'/\c.length<=m+fl.length:=by
 obtain ⟨N,hN⟩:=nM (D+L+G);have qz:0<N/\N<=16:=by have:=h8.d1;have:=h8.s;omega
 have qo:∀ X,ZR ZN 9 #[.agg #[Z7 Z9 (D:Nat),Z7 Z9 (L:Nat),Z7 Z9 (G:Nat)]] X λe w'=>e=Z3 (Z7 Z9 (N:Nat))/\bW X w':=λX=>by
  rw [<- hN,show ((D+L+G:Nat):Int)=(D:Int)+L+G by omega];have:=h8.d;have:=h8.l4;have:=h8.g;exact dw (D:Int) (L:Int) (G:Int) X ⟨by omega,by omega⟩ ⟨by omega,by omega⟩ ⟨by omega,by omega⟩
 have hs:∀ x:Int,IntKind.i64.wrap x=wrap64 x:=λx=>by rw [Ux];unfold wrap64;omega
 have q8:IntKind.u64.wrap (nb:Int)=(nb:Int):=by rw [Va];omega
 have x3:IntKind.u64.wrap (N:Int)=(N:Int):=by rw [Va];omega
 obtain ⟨fo,fp,rfl,_⟩:=hf w (aa.refl _ _);obtain ⟨xy,xz,rfl⟩:=bj hW.mrk;have H:=a6 hW hf qo hN hS;have qx:=ak qn;clear hf qo hW hN hS h8 qn;go_enter func10,ntmps10;go_wp2_with fail;go_loopw [4,11] (λtv i wr=>FR lk w0 w wb D L G nb p S m fl.length A F tv i wr) (λ_ i _=>fl.length-(intOf i).toNat)
 case atStart=>exact ⟨0,A,F,M,T8 _,rfl,H.o.1,Fq.refl _ _ _ _ _ _,hm⟩
 case round=>
  obtain ⟨k,B,F',c,hk,rfl,k9,hq,ka⟩:=hrel;by_cases ko:k<fl.length;rotate_left
  . have q6:¬ (k:Int)<(fl.length:Int):=(by omega);have r:=aE k9 hq ka;clear k9 hq ka;go_wp2;go_ret;exact ⟨_,rfl,B,F',c,r.o.1,r.o.2.1,by have:=r.o.2.2;omega⟩
  obtain ⟨xp,xq,he,qj⟩:=H.o.2.1 wr hq.out;obtain ⟨fb,xn,x5,_,kg⟩:=qj (λe=>by rw [e] at ko;simp at ko);simp only [Vs] at he;obtain ⟨rfl,_,rfl⟩:=he;subst x5;obtain ⟨f0,f1,f2,f3,f4⟩:=kg k ko;obtain ⟨f,kz⟩:=nM (fl[k]);rw [kz] at f0 f1 f2 f3 f4;obtain ⟨d,hd,ed⟩:=jg f.drive N qz.1 (by omega);obtain ⟨b,hb,eb⟩:=jg f.block nb q7 (by omega);obtain ⟨kb,x8,W⟩:=jg f.bit 512 (by decide) (by decide);have q6:(k:Int)<(fl.length:Int):=by omega
  obtain ⟨kind,hg⟩:∃ x,f.kind=x:=⟨_,rfl⟩;obtain ⟨drive,hc⟩:∃ x,f.drive=x:=⟨_,rfl⟩;obtain ⟨block,ha⟩:∃ x,f.block=x:=⟨_,rfl⟩;obtain ⟨bit,h4⟩:∃ x,f.bit=x:=⟨_,rfl⟩;obtain ⟨Y,hv⟩:∃ x,f.at_=x:=⟨_,rfl⟩;have qv:=ak (λ(e:kind=0)=>qx.out f (by rw [<- kz];exact T6 ko) (hg.trans e));rw [hg] at f0;rw [hc] at f1 ed;rw [ha] at f2 eb;rw [h4] at f3 W;rw [hv] at f4;have HE:=ak (show IntKind.i64.wrap ((IntKind.u64.wrap drive).tmod (N:Int))=(d:Nat) from (hs _).trans ed);have xk:IntKind.i64.wrap ((IntKind.u64.wrap block).tmod (nb:Int))=(b:Nat):=(hs _).trans eb;have xo:IntKind.i64.wrap ((IntKind.u64.wrap bit).tmod 512)=(kb:Nat):=(hs _).trans W;obtain ⟨ta,tc,xc⟩:=bj k9.mrk;subst xc;obtain ⟨ml,K⟩:=nM (c.length);obtain ⟨w1,kp⟩:=nM (wr.alloc (Z4 #[Z7 Z9 kind,Z7 Z9 drive,Z7 Z9 block,Z7 Z9 bit,Z7 Z9 Y] 60));have q9:ai w1 wr.heap.size 60 [Z7 Z9 kind,Z7 Z9 drive,Z7 Z9 block,Z7 Z9 bit,Z7 Z9 Y]:=by rw [<- kp];exact UC wr _
  have ky:bW wr w1:=by rw [<- kp];exact bA wr _
  obtain ⟨q,qa⟩:=nM (wr.heap.size);rw [qa] at q9;have hr:=k9.below ky;rw [K] at hr;have ki:Fq lk w0 w S A F B F' w1:=⟨hq.out.trans (aa.RL ky _),hq.rus,hq.TB⟩;rw [K] at ka ⊢;have t:=a7 hr ki q9 K kp qa;have HL:=ak ka;have k5:∀ a R P M5 qr,FW w0 a wb D L G nb p R P M5 qr->Fq lk w0 w1 S B F' R P a->M5.length<=ml+1->FR lk w0 w wb D L G nb p S m fl.length A F qr (Z7 Z9 ((k:Int)+1)) a:=λa R P M5 qr E I g3=>⟨k+1,R,P,M5,by omega,rfl,E,t.o.2.1.trans I,by have:=HL.o;omega⟩;have HX:=ak k5;have qy:=ak (k5 w1 B F' c _ hr (Fq.refl _ _ _ _ _ _) (by omega));clear k9 hq ka kg qj ed eb W kz hg hc ha h4 hv hs q9 ky hr ki K kp qa k5;by_cases x4:Y=at_;rotate_left
  . go_wp2;rw [t.o.2.2.2.2.1];go_roundw
    case rel=>exact qy.out
    case measure=>simp only [intOf];omega
  subst x4;go_upto_region 6 with fail;clear f0 f1 f2 f3 f4;rw [t.o.2.2.2.2.1,t.o.2.2.2.2.2];have q1:=t.o.2.2.1.cell (j:=1) (u:=Z7 Z9 drive) rfl;obtain ⟨s0,r0,xi,xh,Q,kv⟩:=t.o.1.wb;obtain ⟨c0,c1,c2,_⟩:=kv.cells;have HW:=ak kv;clear kv;go_cut [13] from 33 to 43 (λxm wx=>xm=Z7 Z9 (d:Nat)/\bW w1 wx)
  case first=>
   go_region_with (go_at_call 9;refine (H.o.2.2.1 _).mono ?_;rintro e w2 ⟨rfl,hz⟩;have H2:=ak ((TW _ w1).drew.trans hz);have k6:ai w2 q 60 _:=t.o.2.2.1.keep (H2.o.block _ t.o.2.2.1.lt);have y1:=k6.cell (j:=1) (u:=Z7 Z9 drive) rfl;clear hz k6);all_goals (go_wp2_with fail;go_meet;case rel=>exact ⟨by rw [HE.o],H2.o⟩)
  case rest=>
   obtain ⟨rfl,hz⟩:=hcut;clear q1 c0 c1 c2 x3;have k6:ai wc q 60 _:=t.o.2.2.1.keep (hz.block _ t.o.2.2.1.lt);have y0:=k6.cell (j:=0) (u:=Z7 Z9 kind) rfl;have y2:=k6.cell (j:=2) (u:=Z7 Z9 block) rfl;have y3:=k6.cell (j:=3) (u:=Z7 Z9 bit) rfl;have h2:ij wc _ _ _ _ _ _ _ _ _ _ _:=ai.keep HW.o (hz.block _ (ai.lt HW.o));obtain ⟨_,_,_,c3,_,_,c6,_⟩:=h2.cells;clear h2 k6;have H2:=ak hz;clear hz;go_upto_region 7 with fail;go_quiet (fail);have ke:bW w1 (wc.drewN nq):=H2.o.trans ⟨rfl,rfl,rfl,TU _,λ_ _=>rfl⟩;obtain ⟨J,kj⟩:=nM (wc.drewN nq);have d0:J.cell? ⟨q,0,ZX⟩=ZW (Z7 Z9 kind):=(by rw [<- kj];exact y0);have d3:J.cell? ⟨q,3,ZX⟩=ZW (Z7 Z9 bit):=(by rw [<- kj];exact y3);have e3:J.cell? ⟨wb,3,ZX⟩=ZW (Z6 (ZW ⟨p,0,ZX⟩)):=(by rw [<- kj];exact c3);rw [kj] at ke ⊢;have v:=t.o.1.below ke;have h7:ZR ZN 17 #[Z7 Z8 (S:Nat),Z7 Z9 (d:Nat)] J λe w'=>e=Z3 (Z1 (S.testBit d))/\w'=J:=(rZ S d H.o.2.2.2.2 (by omega) J).mono λe w' h=>⟨by rw [h.1,Wu];rcases VG (S/2^d) with e|e<;>rw [e]<;>rfl,h.2⟩;have h5:∀ R P a,Fq lk w0 J S B F' R P a->Fq lk w0 w1 S B F' R P a:=λR P a g=>Fq.trans ⟨aa.RL ke _,nt.refl _ _ _,λ_=>.inl⟩ g;have qe:d<B.n:=(by rw [v.n,H.o.2.2.2.1];exact hd);have qd:b<B.nb:=(by rw [v.nb];exact hb);have l:=a6 ke v h5 qe qd;have HS:=ak (HX.o J B F' c _ v (h5 _ _ _ (Fq.refl _ _ _ _ _ _)) (by have:=t.o.2.2.2.1;omega));clear kj y0 y2 y3 c3 c6 ke H2 xk q8 v h5 qe qd;by_cases h4:S.testBit d=ZV;rotate_left
   . rw [Wn.2 h4] at h7;go_wp2_with fail;refine h7.mono ?_;rintro e w4 ⟨rfl,kk⟩;obtain rfl:J=w4:=kk.symm;clear kk h7;go_wp2;go_roundw
     case rel=>exact HS.o
     case measure=>simp only [intOf];omega
   rw [h4] at h7;have km:=ak h4;clear h4;go_wp2_with fail;refine h7.mono ?_;rintro e w4 ⟨rfl,kk⟩;obtain rfl:J=w4:=kk.symm;clear kk h7;by_cases k0:kind=0
   . have qs:=ak (qv.out k0);subst k0;have V:=KG l.o.2.1.ru d l.o.2.2.2.1;go_wp2_with fail;refine V.mono ?_;rintro e a ⟨rfl,y,z⟩;obtain ⟨E,I⟩:=l.o.2.1.next z y (nt.Tc B km.out qs.out) λ_=>.inl;have HF:=ak (HX.o a _ _ c _ E (l.o.2.2.1 _ _ _ I) (by have:=t.o.2.2.2.1;omega));clear y z V E I;go_wp2;go_roundw
     case rel=>exact HF.o
     case measure=>simp only [intOf];omega
   by_cases k1:kind=1
   . subst k1;have V:=xL l.o.2.1.ru d l.o.2.2.2.1;go_wp2_with fail;refine V.mono ?_;rintro e a ⟨rfl,z,P,y,qf⟩;obtain ⟨E,I⟩:=l.o.2.1.next z y (nt.renew B km.out) qf;have HF:=ak (HX.o a _ _ c _ E (l.o.2.2.1 _ _ _ I) (by have:=t.o.2.2.2.1;omega));clear y z V E I qf;go_wp2;go_roundw
     case rel=>exact HF.o
     case measure=>simp only [intOf];omega
   by_cases k2:kind=2
   . subst k2;have V:=Hn l.o.2.1.ru d b l.o.2.2.2.1 l.o.2.2.2.2;go_wp2_with fail;refine V.mono ?_;rintro e a ⟨rfl,y,z⟩;obtain ⟨E,I⟩:=l.o.2.1.next z y (nt.SO B b km.out) λ_=>.inl;have HF:=ak (HX.o a _ _ c _ E (l.o.2.2.1 _ _ _ I) (by have:=t.o.2.2.2.1;omega));clear y z V E I;go_wp2;go_roundw
     case rel=>exact HF.o
     case measure=>simp only [intOf];omega
   by_cases k3:kind=3;rotate_left
   . go_wp2;go_roundw
     case rel=>exact HS.o
     case measure=>simp only [intOf];omega
   subst k3;go_wp2_with fail;go_loopw [16,17] (λdn i wx=>∃ j:Nat,j<=ml/\i=Z7 Z9 (j:Nat)/\dn=Z1 (decide ((d,b)∈c.take j))/\wx=J) (λ_ i _=>ml-(intOf i).toNat)
   case atStart=>exact ⟨0,T8 _,rfl,by simp,rfl⟩
   case round=>
    rename ZT=>wx;obtain ⟨j,hj,rfl,rfl,rfl⟩:=hrel;by_cases x7:j<ml
    . have qk:j<c.length:=(by rw [t.o.2.2.2.1];exact x7);have qg:Mk w0 wx (.slice ta ml tc) c:=l.o.2.1.mrk;obtain ⟨g,rfl,E,I⟩:=qg.at qk;have O:=wg qk (d,b);obtain ⟨x1,qb⟩:=nM (c[j].1);obtain ⟨x2,qc⟩:=nM (c[j].2);have qh:c[j]=(x1,x2):=(by rw [<- qb,<- qc]);rw [qh] at O;simp only [Xm] at O;rw [qb] at E;rw [qc] at I;have xf:IntKind.i64.wrap ((j:Int)+1)=(j:Int)+1:=(by rw [Ux];have:=HL.o;omega);have xe:(j:Int)<(ml:Int):=(by omega);clear qg qb qc qh;by_cases C:(d,b)∈c.take j
      . rw [UY C];have r:=ak (O.2 (.inl C));clear O C;go_wp2;go_roundw
        case rel=>exact ⟨j+1,by omega,by go_num,by rw [UY r.o],by first|rfl|exact trivial⟩
        case measure=>simp only [intOf];omega
      . rw [Vc C];by_cases q1:x1=d
        . subst q1;by_cases q2:x2=b
          . subst q2;have r:=ak (O.2 (.inr ⟨rfl,rfl⟩));clear O C;go_wp2;go_roundw
            case rel=>exact ⟨j+1,by omega,by go_num,by rw [UY r.o],by first|rfl|exact trivial⟩
            case measure=>simp only [intOf];omega
          . have r:=ak (λe=>(O.1 e).elim C λe=>q2 e.2);have xx:¬ (x2:Int)=(b:Int):=(by omega);clear O C;go_wp2;go_roundw
            case rel=>exact ⟨j+1,by omega,by go_num,by first|(rw [Vc r.o];done)|(rw [Vc r.o];simp_all),by first|rfl|exact trivial⟩
            case measure=>simp only [intOf];omega
        . have r:=ak (λe=>(O.1 e).elim C λe=>q1 e.1);have xv:¬ (x1:Int)=(d:Int):=(by omega);clear O C;go_wp2;go_roundw
          case rel=>exact ⟨j+1,by omega,by go_num,by first|(rw [Vc r.o];done)|(rw [Vc r.o];simp_all),by first|rfl|exact trivial⟩
          case measure=>simp only [intOf];omega
    . have x9:j=ml:=(by omega);subst x9;have xa:c.take j=c:=UI (by rw [t.o.2.2.2.1];exact TU _);rw [xa];by_cases C:(d,b)∈c
      . rw [UY C];go_wp2;go_roundw
        case rel=>exact HS.o
        case measure=>simp only [intOf];omega
      . rw [Vc C];have qq:=KH l.o.2.1.ru d b kb l.o.2.2.2.1 l.o.2.2.2.2 x8 C;obtain ⟨im,x6,q3,q4,q5⟩:=Ut Tryz.TC;have HT:=ak qq;clear qq;go_wp2_with fail;refine HT.o.mono ?_;rintro e a ⟨rfl,y,z⟩;obtain ⟨_,v,h5,_,_⟩:=l.o;have K:=t.o.2.2.2.1;have k8:Mk w0 a (.slice ta j tc) c:=v.mrk.arr v.ru.1 z;have qi:ai (a.alloc (Z4 #[Z7 Z9 (d:Nat),Z7 Z9 (b:Nat)] 82)) a.heap.size 82 [Z7 Z9 (d:Nat),Z7 Z9 (b:Nat)]:=UC a _;have kf:bW a (a.alloc (Z4 #[Z7 Z9 (d:Nat),Z7 Z9 (b:Nat)] 82)):=bA a _;have k7:Src ZN 2 43 (Z5 (ZW ⟨a.heap.size,0,ZX⟩) 1 1) 1 [Z7 Z9 (d:Nat),Z7 Z9 (b:Nat)] (a.alloc (Z4 #[Z7 Z9 (d:Nat),Z7 Z9 (b:Nat)] 82)):=
         Vi _ underlying43 ⟨a.heap.size,0,ZX⟩ 1 1 [Z7 Z9 (d:Nat),Z7 Z9 (b:Nat)] rfl (λj u hj=>by rw [Vl,Uj];exact qi.cell hj) (λu hu=>by
          simp only [Uw,W5,or_false] at hu;rcases hu with rfl|rfl<;>rfl)
        have ks:=k8.below kf;have kr:w0.heap.size<=a.heap.size:=TV v.sz z.size;have r:=hide8 k8 y k7 ks kf K z kr;have xd:j<=1000000:=(by have:=HL.o;omega);clear v h5 K k8 y z qi k7 ks kf kr;go_wp2_with (at_builtin;refine ae _ rfl (.tmp 128) (.tmp 132) 43 43 rfl w0.heap.size 82 im _ 2 16 underlying43 x6 q3 q4 q5 rfl (.slice ta j tc) j (MN c) (by rfl) (by have h9:=r.o.2.2.2.1;unfold Mk at h9;rw [r.o.2.2.2.2.2.1] at h9;exact h9) _ (by rfl) 1 [Z7 Z9 (d:Nat),Z7 Z9 (b:Nat)] (by exact r.o.2.2.1) (by unfold maxLen;omega) (by omega) (by have h9:=r.o.2.2.2.2.2.2.2;simp;omega) ?_;intro v7 w7 kh U kx;obtain ⟨va,vc,rfl⟩:=bj kh;have H7:=al kh U;clear kh U kx);go_roundw
        case measure=>simp only [intOf];omega
        case rel=>
         obtain ⟨k8,y,k7,ks,kf,K,Z,kr⟩:=r.o;obtain ⟨_,v,h5,_,_⟩:=l.o;obtain ⟨kh,U⟩:=H7.o;have qp:a.heap.size<=w7.heap.size:=(by have:=U.size;simp at this;omega);have qm:∀ i,i<a.heap.size->(Value.slice ta j tc).ownBlock≠ZW i->w7.heap[i]?=a.heap[i]?:=λi T hn=>(U.block i (by simp;omega) (λe=>hn e.symm)).trans (kf.block i T);have kc:aa (λk=>F'.S k\/mkK w0 wx k) wx w7:=⟨U.os.trans Z.os,U.tape.trans Z.tape,U.output.trans Z.output,TV Z.size qp,λi T hn=>(qm i (T7 T Z.size) λe=>hn (k8.mkK (Z.mono λ_ _=>.inl) e T)).trans (Z.block i T λq=>hn (.inl q))⟩;obtain ⟨s0,r0,xi,xh,Q,x0⟩:=v.wb;have e:MN (c++[(d,b)])=MN c++[Z7 Z9 (d:Nat),Z7 Z9 (b:Nat)]:=(by unfold MN;rw [WL];rfl);exact HX.o w7 (B.turn d b) F' (c++[(d,b)]) _ ⟨⟨_,_,_,_,_,Av x0 v.ru.1 kc⟩,y.keep λi T=>qm i (y.1.RN T) λe=>k8.apart y.1 e T,by unfold Mk;rw [e,Ua,K];exact kh,v.n,v.nb,TV kr qp⟩ (h5 _ _ _ ⟨kc,nt.turn B b km.out,λ_=>.inl⟩) (by rw [Ua,K];exact TU _)
end
end
def mD (cf:FuncId) (cp:Array ZS):ZS:=.func (.func cf) #[] cp
def Cho (cf:FuncId) (cp:Array ZS) (sg:Nat->Nat) (X:ZT):Prop:=∀ bd:Nat,ZR ZN cf (#[Z7 Z8 bd]++cp) X λe X'=>e=Z3 (Z7 Z8 (sg bd:Nat))/\X'=X
def Ent (cf:FuncId):Prop:=∀ (args:Array ZS) (w:ZT),(callFunc cf args).run ZN w=.ok (.enter cf args) w
theorem Mu {A:aB} (h:A.at b f) {ds:a8} (hd:∀ i∈ds,i<A.n):(A.putAt ds b f).rc=A.rc:=funext λi=>funext λm=>by
 show (if m=b/\i∈ds then f i else A.rc i m)=_;split
 . rename_i q
   rw [q.1];exact (h i (hd i q.2)).1.symm
 . rfl
def Db {f:Nat->Bool} {l:a8} (h:∀ d∈l,f d=ZU):jA f l=0:=Xn λi=>by
 rw [V0,Wn];intro q;have a:=(jb f i l).1 q;rw [h i a.1] at a;cases a.2
def Sld (sg:Nat->Nat) (n i:Nat):Prop:=∀ x,x<2^n->x.testBit i=ZV->(sg x).testBit i=ZV
def QS (sg:Nat->Nat) (B:aB) (b:Nat):Prop:=∀ i,i<B.n->Sld sg B.n i->gnB B b i=ZU
def QS.To {A B:aB} (h:QS sg A b) (k:dM A B):QS sg B b:=λi c hs=>Wn.2 λe=>by
 have a:=k.gn b i e;rw [h i (k.n▸c) (k.n▸hs)] at a;cases a
def Gk {A:aB} {x:Nat} (h:A.n<=16) (j:x<2^A.n) (d:∀ i,i<A.n->gnB A b i=ZV->x.testBit i=ZV) (c:∀ i,i<A.n->A.lost i=ZU):QS sg (A.putAt (ab (sg x)) b f) b:=λi a hs=>Wn.2 λe=>by
 have g:i∈ab (sg x):=cE.2 ⟨T7 a h,hs x j (d i a (BU e))⟩;exact absurd (qV g e) (by rw [c i a];decide)
theorem vq {L' G' f:Nat} {A:aB} {r:bE} (ho:mB w ar v p ps D L G A F) (a:a9 w ar v D' L' G' t f nn pg ob ZU) (hE:Ent cf) (k:∀ X,aa F.S w X->Cho cf cp sg X) (hq:∀ x,x<2^A.n->sg x<2^A.n) (T:b<A.nb) (l:r.ok) (hc:L0 r) (h:A.at b λ_=>r) (Y:∀ i,i<A.n->A.lost i=ZU) :
 ZR ZN 87 #[Z6 (ZW ⟨ar,0,ZX⟩),Z7 Z9 b,dK r,mD cf cp] w λe w'=>e=Z3 (Z7 Z8 (0:Nat))/\(∃ B,(dM A B/\B.rc=A.rc/\QS sg B b)/\az w' p B F)/\aa F.S w w':=by
 have P:A.n<=16:=by rw [ho.vol.n];exact ho.vol.par.s
 have h2:2^A.n<=65536:=jc P;have ca:=mq a;have Z:=iK ho.vol b T;obtain ⟨tr,rv,E⟩:=iJ r;have C:=a7 ho a k l hc h;unfold Ent at hE;clear ho a k l hc h;unfold mD;rw [E];go_enter func87,ntmps87;go_wp2_with fail;refine Z.mono ?_;rintro e w1 ⟨g,rfl,hg,Q,m,d⟩;obtain ⟨ho,a,k,l,hc,h⟩:=C.o;have z:=uV (w:=w1) (R:=λi=>A.RX i b) (r:=r) (by omega) hc (λi j=>Au h j) Q;rw [E] at z;have hd:=mq (a.keep (d.block _ a.lt ho.nar));have u:=ho.vol.turn d m rfl;obtain ⟨N,c⟩:=nM (A.n);rw [c] at z;rw [c];have K:=a5 u d m c;clear ho a k l hc h u d m c Q Z ca;go_wp2_with fail;refine z.mono ?_;rintro e w2 ⟨x,rfl,J,hp,rfl⟩;clear z;obtain ⟨ho,a,k,l,hc,h⟩:=C.o;obtain ⟨u,d,m,c⟩:=K.o;have V:=k w2.drew (d.trans (aa.drew _)) x;have H:=hq x (by rw [c];exact J);have W:∀ i,i<A.n->gnB A b i=ZV->x.testBit i=ZV:=λi j q=>hp i (by rw [<- c];exact j) ((Et q).elim (λq=>.inl q.2) λq=>q.elim (λq=>.inl q.2) λq=>.inr q.2);have I:=eX (u.below ((TW _ w2).drew) lR) b (sg x) T (by omega) (λi j=>qA H j) r l;rw [E,Db λi j=>Y i (qA H j)] at I;have y:=a6 V I H W J;clear ho a k l hc h u d m c V I W hp J;go_upto_region 2 with fail;go_region_with (first
  | (go_at_call 118;refine y.o.2.1.mono ?_;rintro e w3 ⟨rfl,O,U⟩;have M:=al O U;clear O U)
  | (refine y.o.1.mono ?_;rintro e w3 ⟨rfl,rfl⟩))
 all_goals (
  go_wp2;go_ret;obtain ⟨ho,a,k,l,hc,h⟩:=C.o;obtain ⟨u,d,m,c⟩:=K.o;exact ⟨rfl,⟨_,⟨dM.put _ _ _ _,Mu h λi j=>qA y.o.2.2.1 j,Gk P (by rw [c];exact y.o.2.2.2.2) y.o.2.2.2.1 Y⟩,M.o.1⟩,d.trans ((aa.drew _).trans M.o.2)⟩)
section
def RwK (w w':ZT) (l:a8) (x:ZS):Prop:=∃ bl c,x=Z5 (ZW ⟨bl,0,ZX⟩) 44 c/\w.heap.size<=bl/\bl<w'.heap.size/\w'.rangeAt bl 0 (aJ l)
structure Oy (w:ZT) (r v b g N p D L G:Nat) (Kind:aN->Prop) (ps:aN) (A:aB) (F:aK) (dl:a8) (e:ZQ) (w':ZT):Prop where
 rd:∃ gone sp,eh w' r v b g N gone sp
 row:∃ f gn,w'.rowIs g 40 N f/\e=Z3 (ZZ #[Z5 (ZW ⟨g,0,ZX⟩) N N,Z7 Z8 (gn:Nat),.nilIface])/\gn<2^N/\(∀ i,i<N->gnB A b i=ZV->gn.testBit i=ZV)/\∀ i,i<N->RwK w w' (vv D L G dl i) (f i)
 kit:∃ (ps1:aN) (hl:Nat),Kind ps1/\ps1.ps=ps.ps/\ps1.S w'/\bg w' v p D L G ps.ps hl/\hl<2^N/\∀ k,ps1.bl k->ps.bl k\/w.heap.size<=k
 arr:az w' p A F
 out:aa (λk=>k=g\/k=r\/k=v\/F.S k\/ps.bl k) w w'
def C6 (r v ps D L G gn:Nat) (w:ZT):Prop:=w.cell? ⟨r,0,ZX⟩=ZW (Z6 (ZW ⟨v,0,ZX⟩))/\w.cell? ⟨v,1,ZX⟩=ZW (Z7 Z9 (D:Int))/\w.cell? ⟨v,2,ZX⟩=ZW (Z7 Z9 (L:Int))/\w.cell? ⟨v,3,ZX⟩=ZW (Z7 Z9 (G:Int))/\w.cell? ⟨v,4,ZX⟩=ZW (Z6 (ZW ⟨ps,0,ZX⟩))/\w.cell? ⟨r,3,ZX⟩=ZW (Z7 Z8 gn)
def Mw {ps ho:Nat} (a:eh w r v b g N gone sp) (hv:bg w v p D L G ps ho):C6 r v ps D L G gone w:=by
 obtain ⟨_,c,d,e,f,_⟩:=hv.cells;exact ⟨a.cells.1,c,d,e,f,a.cells.2.2.2.1⟩
section
variable {w:ZT} {r v b g N p D L G:Nat} {Kind:aN->Prop} {ps:aN} {A:aB} {F:aK} {dl:a8} (hs:qu w r v b g N p D L G Kind ps A F dl) (hSh:oM D L G Kind)
include hs hSh
theorem I5 {b0:Nat} {f0:Nat->ZS} (hr:eh w r v b0 g N gone sp) (hy:w.rowIs g 40 N f0) :
 ZR ZN 85 #[Z6 (ZW ⟨r,0,ZX⟩),Z7 Z9 b] w λe w'=>Oy w r v b g N p D L G Kind ps A F dl e w':=by
 have qd:=hs.vol;have k7:N<=16:=by rw [hs.nN];exact hs.vol.par.s
 have qv:2^N<=65536:=jc k7;have hp:ab (2^N-1)=YE N:=uP k7;have hS:2^N-1<65536:=by have:=VH N;omega
 obtain ⟨S,q8⟩:=nM (2^N-1);rw [q8] at hp hS;have qh:∀ i,i∈ab S->i<N:=λi K=>by rw [hp,Uu] at K;exact K
 have qc:=FM hr qd.vol hy (by have:=hs.nN;have:=hs.vol.par.d1;omega) (λe=>hs.rg e.symm) hs.vg b;have u:=bU hs.kit hr pX;have h:¬ ps.bl g:=by obtain ⟨cs,h1,_⟩:=hy;exact bU hs.kit h1 oJ
 have Y:=a7 hs (And.intro hSh.2 hs.fine) u h hr.lt hy.lt;clear hr hy hs hSh u h qd;go_enter func85,ntmps85;go_wp2_with fail;refine qc.mono ?_;rintro e w1 ⟨rfl,k9,hj,J⟩;obtain ⟨hs,hSh,u,h,T,X⟩:=Y.o;have d:=hs.turn u h J;have kx:qw w1 r v b g N p D L G A F Kind ps ps dl ps.ho 0 ps.ho [] vR w1:=⟨k9,d.vol,hj,Kn.nil _ _ _ _,d.kit,d.kind,rfl,λk q=>.inl q,aa.refl _ _,λi q=>(by cases q),YD (by decide),d.hol,d.hol,λi q=>(by rw [V0] at q;cases q)⟩;have I:=k9.lt;have H:=hj.lt;have B:=kx.SE d I H u h;obtain ⟨d0,d1,d2,d3,d4⟩:=k9.cells;have f4:=k9.free 4;obtain ⟨w2,qf⟩:=nM (w1.setCell ⟨r,4,ZX⟩ (Z7 Z8 0));rw [qf] at B;have qe:=B.vol;have kh:=j8 qe.vol hs.vol.par;rw [<- hs.nN,q8] at kh;obtain ⟨q0,_⟩:=B.rd.cells;have H1:=a6 B d I H J;clear qc hs hSh u h T X d kx B k9 hj J qe I H;go_wp2_with fail;clear qf d0 d1 d2 d3 d4 f4;refine kh.mono ?_;rintro e O ⟨rfl,ki⟩;obtain ⟨B,d,I,H,J⟩:=H1.o;obtain ⟨hs,hSh,u,h,T,X⟩:=Y.o;have ky:=B.SD (B.apart d I H u h) (aa.RL ki _) (ps.keep _ _ B.kit λk M=>ki.block k (ps.lt _ B.kit k M)) B.kind rfl (λk q=>.inl q);have km:=nl ky d I H u h S hS qh;obtain ⟨nw,kp⟩:=nM (QO S 0 0 []);rw [kp] at km;have HN:=ak kp;clear B d I H J hs hSh u h T X ky ki kh q0 kp;go_wp2_with fail;refine km.mono ?_;rintro e E ⟨rfl,f4,h1,a,_⟩;clear km;rw [Nat.zero_or,Uq] at a;obtain ⟨ds,kk⟩:=nM (Cl A b nw);obtain ⟨f,ko⟩:=nM (jA (gnB A b) nw);rw [kk,ko] at a;have qa:∀ i,i<N->gnB A b i=ZV->f.testBit i=ZV:=λi K hq=>by
  rw [<- ko];exact (jb _ i nw).2 ⟨by rw [<- HN.o];exact (oH (by omega) (by omega)).2 ⟨by rw [hp];exact Uu.2 K,V0 _,V0 _,by simp⟩,hq⟩
 have P:∀ i,i<N->f.testBit i=ZU->i∈ds:=λi K V=>by
  have P:i∈nw:=by rw [<- HN.o];exact (oH (by omega) (by omega)).2 ⟨by rw [hp];exact Uu.2 K,V0 _,V0 _,by simp⟩
  rw [<- kk];refine me.2 ⟨P,?_⟩;cases hq:gnB A b i
  . rfl
  . rw [<- ko,(jb _ i nw).2 ⟨P,hq⟩] at V;cases V
 have hn:=a.gol;obtain ⟨e0,_,e2,e3,_⟩:=a.rd.cells;have R:=al a P;have HG:=ak qa;clear a P kk qa;by_cases hz:f=0
 . have x6:E.cell? ⟨r,3,ZX⟩=ZW (Z7 Z8 0):=(by rw [e3,hz];rfl);clear e3 e0;go_wp2;refine Us (v:=ZZ #[Z5 (ZW ⟨g,0,ZX⟩) N N,Z7 Z8 0,.nilIface]) (by simp [results,results85,go_sem]) rfl ?_;obtain ⟨a,P⟩:=R.o;obtain ⟨hs,hSh,u,h,T,X⟩:=Y.o;have hv:=a.vol;obtain ⟨B,d,I,H,J⟩:=H1.o;have kc:=J.size;refine ⟨⟨_,_,a.rd⟩,⟨f4,0,a.row,rfl,VH _,λi K q=>(by rw [<- hz];exact HG.o i K q),λi K=>?_⟩,⟨ps,h1,a.kind,a.psE,a.kit,hv.vol,a.hll,λk q=>.inl q⟩,hv.arr,(J.mono λk _ q=>q.elim (λe=>.inr (.inl e)) .inl).trans a.out⟩;have Z:=P i K (by rw [hz];exact V0 _);obtain ⟨bl,q1,q2,Q,U⟩:=a.kn.2 i Z;exact ⟨bl,44,q1,by omega,Q,jf U⟩
 have qz:((f:Int)==0)=ZU:=by simp;omega
 have qb:∀ w',bW E w'->ZR ZN 113 #[Z6 (ZW ⟨ps.ps,0,ZX⟩),.agg #[Z7 Z9 D,Z7 Z9 L,Z7 Z9 G],Z7 Z8 f] w' λe qr=>PnA D L G Kind ps f w' e qr:=λw' V=>by
  obtain ⟨a,_⟩:=R.o;obtain ⟨hs,hSh,_⟩:=Y.o;have hv:=a.vol;exact hSh.1 ps a.kind w' (ps.keep _ _ a.kit λk M=>V.block k (ps.lt _ a.kit k M)) (hv.tab.keep (V.block _ hv.tab.lt)) (TV hv.room V.size) f (by rw [<- hs.nN];exact hn)
 have HB:=al qb (λk (M:ps.bl k)=>ps.lt _ R.o.1.kit k M);have ke:=R.o.1.vol;obtain ⟨_,y1,y2,y3,y4,_⟩:=ke.vol.cells;have kj:bW E (E.alloc (Z4 #[Z7 Z9 0,Z5 ZX 0 0] 206)):=bA E _;obtain ⟨_,x1,x2,x3,x4,_⟩:=(ke.vol.keep (kj.block _ ke.vol.lt)).cells;obtain ⟨x0,_,_,x5,_⟩:=(R.o.1.rd.keep (kj.block _ R.o.1.rd.lt)).cells;clear kj qb ke;have HY:b9 (∀ (w' O:ZT),bW E w'->aa ps.bl w' O->C6 r v ps.ps D L G f O/\(∀ o:Obj,C6 r v ps.ps D L G f (O.alloc o))/\(∀ k x y,E.heap.size<=k->C6 r v ps.ps D L G f ((O.setCell ⟨k,0,ZX⟩ x).setCell ⟨k,1,ZX⟩ y))):=ak λw' O V hO=>by
  have kz:=aa.after V hO;have hM:=R.o.1;obtain ⟨B,d,I,H,J⟩:=H1.o;obtain ⟨hs,hSh,u,h,T,X⟩:=Y.o;have ha:=hM.apart d I H u h;have hv:=hM.vol;have ka:=hM.rd.keep (kz.block _ hM.rd.lt λq=>(ha _ q).2.2.1 rfl);have hv3:=hv.vol.keep (kz.block _ hv.vol.lt λq=>(ha _ q).2.1 rfl);have T:=hM.rd.lt;have qx:=hv.vol.lt;exact ⟨Mw ka hv3,λo=>Mw (ka.keep (UB _ _ _ ka.lt)) (hv3.keep (UB _ _ _ hv3.lt)),λk x y M=>Mw (ka.keep ((fM O k 0 1 x y).block _ ka.lt (by omega))) (hv3.keep ((fM O k 0 1 x y).block _ hv3.lt (by omega)))⟩
 go_upto_region 6 with fail;go_cut [6,7] from 30 to 51 (λv6 v7 wx=>N5 D L G Kind ps f E v7 v6 wx)
 case first=>
  go_region_held3 (λw'=>w'.cell? ⟨r,0,ZX⟩=ZW (Z6 (ZW ⟨v,0,ZX⟩))/\w'.cell? ⟨v,1,ZX⟩=ZW (Z7 Z9 (D:Int))/\w'.cell? ⟨v,2,ZX⟩=ZW (Z7 Z9 (L:Int))/\w'.cell? ⟨v,3,ZX⟩=ZW (Z7 Z9 (G:Int))/\w'.cell? ⟨v,4,ZX⟩=ZW (Z6 (ZW ⟨ps.ps,0,ZX⟩))/\w'.cell? ⟨r,3,ZX⟩=ZW (Z7 Z8 (f:Int))) (first|exact ⟨e0,y1,y2,y3,y4,e3⟩|exact ⟨x0,x1,x2,x3,x4,x5⟩|exact Y0.out|exact Y1.out _|exact Y2.out _ _ _ lR|go_keep)
   (first|(go_at_call 113;refine (HB.o.1 _ ?_).mono ?_;(first|exact (TW _ _).drew|exact ((TW _ _).drew).alloc lR _);rintro e O k8;obtain ⟨z,ao,m,c,er,he,kg,H3⟩:=uQ k8;subst he;clear k8;(try (have Q:O.heap[E.heap.size]?=ZW (Z4 #[Z7 Z9 0,Z5 ZX 0 0] 206 (0,0)):=(kg.block E.heap.size (by simp) (λq=>by have:=HB.o.2 _ q;omega)).trans (Ug E.drew _);obtain ⟨r0,r1,x7,g0⟩:=ay Q;clear Q));obtain ⟨Y0,Y1,Y2⟩:b9 (C6 r v ps.ps D L G f O)/\b9 (∀ o:Obj,C6 r v ps.ps D L G f (O.alloc o))/\b9 (∀ k x y,E.heap.size<=k->C6 r v ps.ps D L G f ((O.setCell ⟨k,0,ZX⟩ x).setCell ⟨k,1,ZX⟩ y)):=HY.o _ O (by first|exact (TW _ E).drew|exact ((TW _ E).drew).alloc lR _) kg;clear kg))
  all_goals (go_wp2_with fail;go_meet;case rel=>first|(refine yF (w':=E.drew) H3.o ?_ rfl;exact (TW _ _).drew)|(refine uR (w2:=E.drew) H3.o HB.o.2 rfl ?_;exact (TW _ _).drew))
 case rest=>
  clear e0 e2 e3 y1 y2 y3 y4 x0 x1 x2 x3 x4 x5 HY HB;rename ZT=>w5;obtain ⟨a,P⟩:=R.o;obtain ⟨B,d,I,H,J⟩:=H1.o;obtain ⟨hs,hSh,u,h,T,X⟩:=Y.o;have hm:aa (λk=>k=g\/k=r\/k=v\/F.S k\/ps.bl k) w w1:=J.mono λk _ q=>q.elim (λe=>.inr (.inl e)) .inl;have kc:=J.size;rcases hcut with ⟨_,qp,_⟩|hcut
  . refine absurd (lG hSh.2.1 λi q=>(d.cw i ?_).2 (a.gb i q)) qp;rw [d.vol.n,<- d.nN];by_cases e:i<N
    . exact e
    . rw [Wz (T7 hn (UW (by decide) (by omega)))] at q;cases q
  . obtain ⟨rfl,gb,hd,s,C,ao,m,c,rfl,qn,ks,W,q7⟩:=hcut;have hc:=a.SD (a.apart d I H u h) q7 W.kit W.kind W.psE W.bl;obtain ⟨z,kv⟩:∃ z:Int,1+((ab (aw (D+L+G) s)).length:Int)=z:=⟨_,rfl⟩;rw [kv] at ks;have q9:=CU d hc W hz hn (λi K=>by
     obtain ⟨t,ht,h0,qs⟩:=(nZ _ _).1 K;obtain ⟨j,q1,q2,Q⟩:=jK hs.vol.par.s ht h0;have e:j=i:=(by rw [<- qs,q1];rfl);subst e;have U:j<N:=(by rw [hs.nN];exact q2);exact ⟨U,P j U (uC λe=>by rw [W.Tp j e] at Q;cases Q)⟩) kv
    obtain ⟨k0,k1,_,_⟩:=ay ks;have H5:=a5 hc q9 hm kc;have HP:=ak W.Tp;clear a P B d I H J hs hSh u h T X hm hc q9 W q7 kv ks kc;go_wp2_with fail;refine H5.o.2.1.mono ?_;rintro e w6 ⟨rfl,hF⟩;clear k0 k1;obtain ⟨_,_,d2,d3,_⟩:=hF.rd.cells;have H6:=ak hF;clear hF;go_wp2;go_region;go_wp2;refine Us (v:=ZZ #[Z5 (ZW ⟨g,0,ZX⟩) N N,Z7 Z8 (f:Int),.nilIface]) (by simp [results,results85,go_sem]) rfl ?_;obtain ⟨qq,⟨f6,kb,qk,qm⟩,qg⟩:=H6.o;obtain ⟨hc,_,hm,kc⟩:=H5.o;obtain ⟨a,P⟩:=R.o;obtain ⟨B,d,I,H,J⟩:=H1.o;obtain ⟨hs,hSh,u,h,T,X⟩:=Y.o;have hg:aa (λk=>k=g) w5 w6.drew:=qg.trans (aa.drew _);have qi:=hc.apart d I H u h;have qy:=hc.out.size;have kf:=hc.vol;refine ⟨⟨_,_,show eh w6.drew r v b g N f 0 from qq⟩,⟨f6,f,kb,rfl,hn,HG.o,λi K=>?_⟩,⟨hd,h1,hc.kind,hc.psE,hd.keep _ _ hc.kit (λk M=>hg.block k (hd.lt _ hc.kit k M) (λq=>(qi k M).2.2.2.1 q)),kf.vol.keep (hg.block _ kf.vol.lt hs.vg),hc.hll,λk M=>(hc.bl k M).imp id λq=>TV kc q⟩,kf.arr.keep (λk M=>hg.block k (kf.arr.RN M) λq=>hs.gF (q▸M)),(hm.trans hc.out).trans (hg.mono λk _ q=>.inl q)⟩;by_cases kr:s.testBit i=ZV
    . obtain ⟨bl,mm,l,q1,q2,Q,U,q5,q6⟩:=qm i ((bL hs.vol.par.s).2 ⟨by have:=hs.nN;omega,kr⟩);obtain ⟨h1,h2⟩:=yu U Q q5;rw [(pN hs.vol.par dl (by have:=hs.nN;omega)).1] at h2;subst h2;exact ⟨bl,l.length,q1,by omega,aM.lt U,h1⟩
    . have qo:i∉ab (aw (D+L+G) s):=λq=>kr ((bL hs.vol.par.s).1 q).2;have Z:i∈ds:=P i K (uC λe=>kr (HP.o i e));obtain ⟨bl,q1,q2,Q,U⟩:=hc.kn.2 i Z;have qj:bl≠g:=(by omega);exact ⟨bl,44,by rw [qk i qo];exact q1,by omega,T7 Q hg.size,jf ((hg.block bl Q qj).trans U)⟩
end
end
section
attribute [local go_sem] Oper.semAt_some
def Fe {f:Nat} {off:Bool} (h:a9 w ar v D L G t f nn pg ob off):(Instr.loadAt 142 (Z6 (ZW ⟨ar,1,ZX⟩))).run ZN w=.ok (.agg (aj D L G t f nn)) w:=by
 have b:w.heap[ar]?=ZW (Z4 (jE v D L G t f nn pg ob off) 146 (0,0)):=h;have c:w.rangeAt ar 1 (aj D L G t f nn).toList:=λj u a=>by
  unfold aj at a;match j with
  | 0|1|2|3|4|5=>simp at a;subst a;simp [World.cell?,b,jE]
  | j+6=>simp at a
 exact aaA (P:=ZN) w ar 1 142 (aj D L G t f nn).toList _ c Xy rfl (by kernel_rfl)
def I6 {fn:Func} {c u:Nat} {ty tz:ZP} {x y:ZS} {a:Act} (g:fn.results=#[.cell t ty,.cell u tz]) (hd:a.defers=[{ target:=.collected D',args:=#[] }]) (h8:a.tmps.getD t ZY=Z6 (ZW ⟨b,0,ZX⟩)) (h9:a.tmps.getD u ZY=Z6 (ZW ⟨c,0,ZX⟩))
 (hl:∀ w,w.heap[b]?=Z.heap[b]?->(loadVar ty ⟨b,0,ZX⟩).run ZN w=.ok x w) (hm:∀ w,w.heap[c]?=Z.heap[c]?->(loadVar tz ⟨c,0,ZX⟩).run ZN w=.ok y w) (hK:Z.heap[D']?=ZW (.deferred (ZW []))) (hD:b≠D') (hE:c≠D')
 (hR:R (Z3 (ZZ #[x,y])) (Z.putObj D' (.deferred ZX))):bodyPostM Fence.wide n ZN fn R .ret a Z:=by
 obtain ⟨d,h⟩:=a;simp only at hd h8 h9;subst hd;refine ⟨by simp,.inl ⟨_,_,rfl,Wv hK,?_⟩⟩;have c0:=hl (Z.putObj D' (.deferred ZX)) (UO hD);have c1:=hm (Z.putObj D' (.deferred ZX)) (UO hE);refine ⟨ZZ #[x,y],?_,hR⟩;have e:d[t]?.getD ZY=Z6 (ZW ⟨b,0,ZX⟩):=by simpa using h8
 have f:d[u]?.getD ZY=Z6 (ZW ⟨c,0,ZX⟩):=by simpa using h9
 simp [results,g,asAddr,e,f,c0,c1]
def ErL (x:ZS):Prop:=x=.nilIface
theorem Mx {x:ZS} (h:ZO Z b 64 x) (w:ZT) (e:w.heap[b]?=Z.heap[b]?):(loadVar 64 ⟨b,0,ZX⟩).run ZN w=.ok x w:=by
 have hc:w.cell? ⟨b,0,ZX⟩=ZW x:=(show ZO w b 64 x from e.trans h).cell;simp [go_sem,hc]
def MJ (w:ZT) (ar v p D L G:Nat) (Kind:aN->Prop) (ps:aN) (A:aB) (F:aK) (sg:Nat->Nat) (ls:a8) (X:ZT):Prop:=∃ ps' B,(Kind ps'/\ps'.ps=ps.ps/\∀ k,ps'.bl k->ps.bl k\/w.heap.size<=k)/\(dM A B/\B.rc=A.rc/\∀ b∈ls,QS sg B b)/\mB X ar v p ps' D L G B F
def mB.gotR {ps':aN} {A:aB} (h:mB w ar v p ps D L G A F) {Kind:aN->Prop} (b:w.heap.size<=w'.heap.size) (a:∀ k,k<3->¬ F.S k->k<w.heap.size->w'.heap[k]?=w.heap[k]?) (f:az w' p A F) (hK:mz w v p D L G Kind ps A ps' w'):mB w' ar v p ps' D L G A F:=by
 have c:2<3:=by decide
 have d:1<3:=by decide
 have:=h.vlt;exact { h with
  vol:={ h.vol with vol:=by rw [hK.psE];exact hK.vol,arr:=f,laid:=h.vol.laid.keep (a _ c h.vol.g h.vol.laid.lt),tab:=h.vol.tab.keep (a _ d h.vol.t h.vol.tab.lt),room:=TV h.vol.room b }
  arl:=T7 h.arl b
  kit:=hK.kit
  apt:=λk i=>by
   rcases hK.bl k i with q|q
   . exact h.apt k q
   . have:=h.arl;exact ⟨by omega,by omega,by omega,λe=>by have:=h.vol.arr.RN e;omega⟩
  hl:=hK.hol }
def Mv (v:Nat) (ps:aN) (F:aK) (j:Nat):Prop:=F.S j\/j=v\/ps.bl j
section
variable {w X Y:ZT} {ar v p D L G:Nat} {Kind:aN->Prop} {ps:aN} {A:aB} {F:aK} {sg:Nat->Nat} {ls:a8}
def MJ.own (h:MJ w ar v p D L G Kind ps A F sg ls X) (g:mB w ar v p ps D L G A F) (t:ps.ps<w.heap.size) {T:Nat->Prop} (b:aa T X Y) (hT:∀ k,T k->w.heap.size<=k/\∀ cs d z,X.heap[k]?=ZW (Z4 cs d z)->¬ jP d):MJ w ar v p D L G Kind ps A F sg ls Y:=by
 obtain ⟨ps',B,⟨j,l,m⟩,n,a⟩:=h;have:=g.vol.room;have c:∀ k,k<w.heap.size->k<X.heap.size->Y.heap[k]?=X.heap[k]?:=λk u o=>b.block k o (λq=>by have:=(hT k q).1;omega);have hv:=g.vol.vol.lt;refine ⟨ps',B,⟨j,l,m⟩,n,{ a with vol:={ a.vol with vol:=a.vol.vol.keep (c _ hv a.vol.vol.lt),arr:=a.vol.arr.keep λk q=>c k (g.vol.arr.RN q) (a.vol.arr.RN q),laid:=a.vol.laid.keep (c _ (by omega) a.vol.laid.lt),tab:=a.vol.tab.keep (c _ (by omega) a.vol.tab.lt),room:=TV a.vol.room b.size },arl:=T7 a.arl b.size,kit:=ps'.keep _ _ a.kit λk q=>b.block k (ps'.lt _ a.kit k q) (λe=>?_) }⟩;obtain ⟨r,i⟩:=hT k e;rcases ps'.cl _ a.kit k q with f|⟨cs,d,z,f⟩
 . omega
 . exact i _ _ _ f (ps'.kd _ a.kit k q _ _ _ f)
def MJ.below (h:MJ w ar v p D L G Kind ps A F sg ls X) (d:bW X Y):MJ w ar v p D L G Kind ps A F sg ls Y:=by
 obtain ⟨ps',B,a,b,c⟩:=h;exact ⟨ps',B,a,b,c.below d⟩
def mB.put {B C:aB} (h:mB X ar v p ps D L G B F) (c:az Y p C F) (b:dM B C) (a:aa F.S X Y):mB Y ar v p ps D L G C F:=
 { h with fine:=b.fine h.fine,vol:=h.vol.turn a c b.n,arl:=T7 h.arl a.size,kit:=ps.keep _ _ h.kit λk q=>a.block k (ps.lt _ h.kit k q) (h.apt k q).2.2.2 }
end
def cJ.data {A:aB} {xs:aL} (h:cJ A D L G t P xs) (e:1<=D) {b:Nat} (a:b∈P++af xs.os):∃ dl,A.at b (OO D L G dl)/\dl.length<=D*44/\∀ x∈dl,x<256:=by
 rcases Ui.1 a with a|a
 . obtain ⟨k,c,rfl⟩:=US a;have:=h.page k c;rw [ia c] at this;exact ⟨_,this,pO e _ _ _,tR (oO _) _ _⟩
 . obtain ⟨o,ho,f⟩:=XL.1 a;obtain ⟨x,d,rfl⟩:=T9.1 ho;obtain ⟨k,c,rfl⟩:=US f;have:=h.held x d k c;rw [ia c] at this;exact ⟨_,this,by unfold dA;exact List.length_take_le _ _,λy g=>(h.fits x d).byt y (UZ (UV g))⟩
structure OZ (w:ZT) (ar:Nat) (cf:FuncId) (cp:Array ZS) (D1:Nat) (M:Nat->Prop) (J:ZT->Prop) (X:ZT):Prop where
 b2:ZO X w.heap.size 103 (Z6 (ZW ⟨ar,0,ZX⟩))
 b3:ZO X (w.heap.size+1) 169 (mD cf cp)
 b4:ZO X (w.heap.size+1+1) 133 (Z7 Z8 (0:Nat))
 b5:∃ er,ErL er/\ZO X (w.heap.size+1+1+1) 64 er
 arr:J X
 out:aa M w X
 dk:X.heap[D1]?=ZW (.deferred (ZW []))
def Aw:¬ jP 133:=by unfold jP;decide
def Dd:¬ jP 64:=by unfold jP;decide
def OZ.next {M:Nat->Prop} {J0:ZT->Prop} (h:OZ w ar cf cp D1 M J0 X) (m:∀ k,M k->k<w.heap.size) (r:∀ X Y (T:Nat->Prop),J X->aa T X Y->(∀ k,T k->w.heap.size<=k/\∀ cs c z,X.heap[k]?=ZW (Z4 cs c z)->¬ jP c)->J Y) (x:w.heap.size+4<=D1)
 (s:J Z) (t:aa M X.drew Z):OZ w ar cf cp D1 M J (Z.setCell ⟨w.heap.size+1+1,0,ZX⟩ (Z7 Z8 ((0:Nat):Int))):=by
 have d:aa M X Z:=(aa.drew X).trans t;obtain ⟨W,b⟩:=nM (Z.setCell ⟨w.heap.size+1+1,0,ZX⟩ (Z7 Z8 ((0:Nat):Int)));have j:∀ k,k≠w.heap.size+1+1->W.heap[k]?=Z.heap[k]?:=λk a=>by rw [<- b];exact Ud _ _ _ _ a
 have:Z.heap.size=W.heap.size:=by rw [<- b];simp [World.setCell]
 have i:aa (λk=>k=w.heap.size+1+1) Z W:=⟨by rw [<- b];rfl,by rw [<- b];rfl,by rw [<- b];rfl,by omega,λk _ a=>j k a⟩;have a:∀ k,w.heap.size<=k->k<X.heap.size->k≠w.heap.size+1+1->W.heap[k]?=X.heap[k]?:=λk o e p=>(j k p).trans (d.block k e (λq=>by have:=m k q;omega));have f:ZO Z (w.heap.size+1+1) 133 (Z7 Z8 (0:Nat)):=(d.block _ h.b4.lt (λq=>by have:=m _ q;omega)).trans h.b4;have l:=f.set (Z7 Z8 ((0:Nat):Int));obtain ⟨n,u,g⟩:=h.b5;rw [b] at l ⊢;exact ⟨(a _ (by omega) h.b2.lt (by omega)).trans h.b2,(a _ (by omega) h.b3.lt (by omega)).trans h.b3,l,⟨n,u,(a _ (by omega) g.lt (by omega)).trans g⟩,r _ _ _ s i (λk a=>⟨by omega,λcs c z q=>by rw [a,show Z.heap[w.heap.size+1+1]?=ZW (Z4 _ 133 (0,0)) from f] at q;simp only [UD,UP] at q;rw [<- q.2.1];exact Aw⟩),(h.out.trans d).later i (λk o e=>by omega),(a _ (by omega) (T5.1 h.dk).1 (by omega)).trans h.dk⟩
def QJ {W3:ZT} {M:Nat->Prop} {er:ZS} {a:Act} (h:OZ w ar cf cp D1 M J W3) (_:∀ k,M k->k<w.heap.size) (v:∀ X Y (T:Nat->Prop),J X->aa T X Y->(∀ k,T k->w.heap.size<=k/\∀ cs j z,X.heap[k]?=ZW (Z4 cs j z)->¬ jP j)->J Y) (_:ErL er) (o:ZO W3 (w.heap.size+1+1+1) 64 er) (C:w.heap.size+4<=D1)
 (hd:a.defers=[{ target:=.collected D1,args:=#[] }]) (h8:a.tmps.getD 4 ZY=Z6 (ZW ⟨w.heap.size+1+1,0,ZX⟩)) (h9:a.tmps.getD 5 ZY=Z6 (ZW ⟨w.heap.size+1+1+1,0,ZX⟩)) (hR:∀ Y,J Y->aa M w Y->R (Z3 (ZZ #[Z7 Z8 ((0:Nat):Int),er])) Y) :
 bodyPostM Fence.wide n ZN Tryz.f60 R .ret a ((W3.setCell ⟨w.heap.size+1+1,0,ZX⟩ (Z7 Z8 ((0:Nat):Int))).setCell ⟨w.heap.size+1+1+1,0,ZX⟩ er).drew:=by
 obtain ⟨i,e⟩:=nM (W3.setCell ⟨w.heap.size+1+1,0,ZX⟩ (Z7 Z8 ((0:Nat):Int)));obtain ⟨d,f⟩:=nM (i.setCell ⟨w.heap.size+1+1+1,0,ZX⟩ er);have l:∀ k,k≠w.heap.size+1+1->i.heap[k]?=W3.heap[k]?:=λk g=>by rw [<- e];exact Ud _ _ _ _ g
 have m:∀ k,k≠w.heap.size+1+1+1->d.heap[k]?=i.heap[k]?:=λk g=>by rw [<- f];exact Ud _ _ _ _ g
 have p:ZO d (w.heap.size+1+1) 133 (Z7 Z8 (0:Nat)):=by
  have:=h.b4.set (Z7 Z8 ((0:Nat):Int));rw [e] at this;exact (m _ (by omega)).trans this
 have r:ZO d (w.heap.size+1+1+1) 64 er:=by
  have:=(show ZO i (w.heap.size+1+1+1) 64 er from (l _ (by omega)).trans o).set er;rwa [f] at this
 have D:W3.heap.size=d.heap.size:=by rw [<- f,<- e];simp [World.setCell]
 have y:aa (λk=>k=w.heap.size+1+1\/k=w.heap.size+1+1+1) W3 d:=⟨by rw [<- f,<- e];rfl,by rw [<- f,<- e];rfl,by rw [<- f,<- e];rfl,by omega,λk _ g=>(m k (by omega)).trans (l k (by omega))⟩;have x:d.heap[D1]?=ZW (.deferred (ZW [])):=((m _ (by omega)).trans (l _ (by omega))).trans h.dk;rw [e,f];have hc:aa (λk=>k=w.heap.size+1+1\/k=w.heap.size+1+1+1\/k=D1) W3 (d.drew.putObj D1 (.deferred ZX)):=((y.trans (aa.drew d)).mono λk _ q=>by omega).trans ⟨rfl,rfl,rfl,by simp [World.putObj],λk _ g=>UO (by omega)⟩;refine I6 (b:=w.heap.size+1+1) (c:=w.heap.size+1+1+1) (t:=4) (u:=5) (Z:=d.drew) results60 hd h8 h9 (Be (s:=0) (Z:=d.drew) p) (Mx (Z:=d.drew) r) x (by omega) (by omega) (hR _ ?_ ?_)
 . refine v _ _ _ h.arr hc λk g=>⟨by omega,λcs j z q=>?_⟩;rcases g with rfl|rfl|rfl
   . rw [show W3.heap[w.heap.size+1+1]?=ZW (Z4 _ 133 (0,0)) from h.b4] at q;simp only [UD,UP] at q;rw [<- q.2.1];exact Aw
   . rw [show W3.heap[w.heap.size+1+1+1]?=ZW (Z4 _ 64 (0,0)) from o] at q;simp only [UD,UP] at q;rw [<- q.2.1];exact Dd
   . rw [h.dk] at q;cases q
 . exact h.out.later hc (λk A B=>by omega)
structure MdI (w:ZT) (ar v:Nat) (cf:FuncId) (cp:Array ZS) (N b6 b7 r g B:Nat) (M:Nat->Prop) (J:a8->ZT->Prop) (X0:a8) (pre:List (Sn X0)) (X:ZT):Prop where
 b2:ZO X w.heap.size 103 (Z6 (ZW ⟨ar,0,ZX⟩))
 b3:ZO X (w.heap.size+1) 169 (mD cf cp)
 b4:ZO X (w.heap.size+1+1) 133 (Z7 Z8 (0:Nat))
 b5:∃ er,ErL er/\ZO X (w.heap.size+1+1+1) 64 er
 b6:ZO X b6 170 (Z6 (ZW ⟨r,0,ZX⟩))
 b7:ZO X b7 103 (Z6 (ZW ⟨ar,0,ZX⟩))
 rd:∃ b0 gone sp,eh X r v b0 g N gone sp
 row:∃ f0,X.rowIs g 40 N f0
 arr:J (pre.map (·.1)) X
 out:aa M w X
 size:B<=X.heap.size
def MdI.own {b6 b7:Nat} {M:Nat->Prop} {X0:a8} {J:a8->ZT->Prop} (y:∀ ls X Y (T:Nat->Prop),J ls X->aa T X Y->(∀ k,T k->w.heap.size<=k/\∀ cs c z,X.heap[k]?=ZW (Z4 cs c z)->¬ jP c)->J ls Y) (P:w.heap.size+4<=B) (s:b6<B) (t:b7<B) (L:r<B) (D:g<B):OwnFrom B (MdI w ar v cf cp N b6 b7 r g B M J X0):=by
 rintro pre X Y row ⟨d,m,n,⟨j,A,p⟩,F,G,⟨b0,gone,sp,H⟩,⟨l,u⟩,x,C,E⟩ b hc;have a:∀ k,k<B->Y.heap[k]?=X.heap[k]?:=λk a=>b.block k (by omega) (λe=>by have:=(hc k e.symm).1;omega);have f:aa (λk=>row=ZW k) X Y:=⟨b.os,b.tape,b.output,b.size,λk I K=>b.block k I (λe=>K e.symm)⟩;refine ⟨(a _ (by omega)).trans d,(a _ (by omega)).trans m,(a _ (by omega)).trans n,⟨j,A,(a _ (by omega)).trans p⟩,(a _ s).trans F,(a _ t).trans G,⟨b0,gone,sp,H.keep (a _ L)⟩,⟨l,u.of_block (a _ D)⟩,y _ _ _ _ x f (λk e=>?_),C.later f (λk O d=>by have:=(hc k d).1;omega),TV E b.size⟩;obtain ⟨Q,o,h,i⟩:=hc k e;refine ⟨by omega,λcs c z q=>?_⟩;rw [q] at h;have:=UM h;rw [<- this] at i;cases i
theorem De {Kind:aN->Prop} {xs:aL} {A:aB} (hl:aS w ar v p ps D L G t pg ob P xs A F) (hv:uS D L G Kind ps) (yc:ps.ps<w.heap.size) (z8:2<=A.nb) (hE:Ent cf) (qe:∀ X,aa (Mv v ps F) w X->Cho cf cp sg X) (yf:∀ x,x<2^A.n->sg x<2^A.n) (y7:∀ i,i<A.n->A.lost i=ZU) :
 ZR ZN 60 #[Z6 (ZW ⟨ar,0,ZX⟩),mD cf cp] w λe Y=>e=Z3 (ZZ #[Z7 Z8 (0:Nat),.nilIface])/\MJ w ar v p D L G Kind ps A F sg (1::0::(P++af xs.os)) Y/\aa (Mv v ps F) w Y:=by
 obtain ⟨m,HN⟩:∃ m:Nat,b9 (9<=m):=⟨9,TU _⟩;have u:mB w ar v p ps D L G A F:=⟨hl.vol,hl.nar,hl.vlt,hl.arc.lt,hl.kit,hl.apt,hl.hl,hl.fine⟩;have ha:=hl.arc;have hJ:MJ w ar v p D L G Kind ps A F sg [] w:=⟨ps,A,⟨hv.kind,rfl,λ_ q=>.inl q⟩,⟨dM.refl A,rfl,λ_ q=>(by cases q)⟩,u⟩;have hs:∀ k,Mv v ps F k->k<w.heap.size:=λk q=>by
  rcases q with q|q|q
  . exact hl.vol.arr.RN q
  . rw [q];exact hl.vol.vol.lt
  . exact ps.lt _ hl.kit k q
 have y8:¬ Mv v ps F ar:=λq=>by
  rcases q with q|q|q
  . exact hl.nar q
  . have:=hl.vlt;omega
  . exact (hl.apt _ q).2.1 rfl
 have x1:∀ k,(ar<k/\¬ F.S k/\¬ ps.bl k)->k<w.heap.size->(k<w.heap.size/\¬ Mv v ps F k):=λk q J=>⟨J,λe=>by
  rcases e with e|e|e
  . exact q.2.1 e
  . have:=hl.vlt;omega
  . exact q.2.2 e⟩
 have hP:=hl.pgs.wk x1;have hC:=hl.cat.wk x1;have qh:∀ ls X Y (T:Nat->Prop),MJ w ar v p D L G Kind ps A F sg ls X->aa T X Y->(∀ k,T k->w.heap.size<=k/\∀ cs Ty z,X.heap[k]?=ZW (Z4 cs Ty z)->¬ jP Ty)->MJ w ar v p D L G Kind ps A F sg ls Y:=λls X Y T J M h3=>J.own u yc M h3;have ks:=hl.disk.Tk;have xc:(bE.root D L G t (P.getD 0 0) (an xs.os).length).ok:=by
  have J:=hl.packL_le;have M:=hl.turn;have h3:=hl.vol.par.d;have h4:=hl.vol.par.l4;have U:=hl.vol.par.g;have h6:P.getD 0 0<4294967296:=by
   have xm:0<P.length:=(by rw [hl.disk.pl];unfold pgs;omega);have:=(hl.disk.Tk (P.getD 0 0) (UF _ (by rw [ia xm];exact T6 xm))).2;have:=hl.nb;omega
  exact ⟨by omega,by omega,by omega,by omega,h6,by omega⟩
 obtain ⟨os,xb⟩:=nM (xs.os);rw [xb] at hC ks;have c0:=ha.cells.1;have qc:=ha.lt;obtain ⟨N,ke⟩:=nM (A.n);have qg:A.n<=16:=by rw [u.vol.n];exact u.vol.par.s
 have O:=a7 u hJ ha qe hP hC;have kr:=λb hb=>hl.disk.data hl.vol.par.d1 (b:=b) hb;rw [xb] at kr;have ye:=hl.disk.root;have y1:=hl.disk.fill;have qy:=ak y7;clear y7;have HD:=aE kr ye y1;have H:=hide7 hs y8 qh ks hv yf yc;clear kr ye y1;clear u hJ ha qe hP hC hs y8 qh ks x1 hl yf;unfold mD;refine (Vm (n:=m)).1 ?_;refine Wc func60 rfl trivial ?_ rfl;simp only [ntmps60,UH,UA,UT,Nat.reduceAdd,Nat.reduceSub,Ve,Vf,Vg,Vh,Uq,UX];have c1:((((w.alloc (Z4 #[Z6 (ZW ⟨ar,0,ZX⟩)] 103)).alloc (Z4 #[.func (.func cf) #[] cp] 169)).alloc (Z4 #[Z7 Z8 0] 133)).alloc (Z4 #[.nilIface] 64)).cell? ⟨ar,0,ZX⟩=ZW (Z6 (ZW ⟨v,0,ZX⟩)):=(Uk (((((bA w _).alloc (by simp) _).alloc (by simp;omega) _).alloc (by simp;omega) _).block _ qc)).trans c0;gi_wp2;clear c1;obtain ⟨w4,km⟩:=nM ((((w.alloc (Z4 #[Z6 (ZW ⟨ar,0,ZX⟩)] 103)).alloc (Z4 #[mD cf cp] 169)).alloc (Z4 #[Z7 Z8 0] 133)).alloc (Z4 #[.nilIface] 64));have k9:bW w w4:=by rw [<- km];exact (((bA w _).alloc (by simp) _).alloc (by simp;omega) _).alloc (by simp;omega) _
 have xf:w4.heap.size=w.heap.size+4:=by rw [<- km];simp
 have xe:ZO w4 w.heap.size 103 (Z6 (ZW ⟨ar,0,ZX⟩)):=by rw [<- km];exact (((Ur w _ _).alloc _).alloc _).alloc _
 have yi:ZO w4 (w.heap.size+1) 169 (mD cf cp):=by
  rw [<- km];have:=Ur (w.alloc (Z4 #[Z6 (ZW ⟨ar,0,ZX⟩)] 103)) 169 (mD cf cp);rw [Ul] at this;exact (this.alloc _).alloc _
 have yj:ZO w4 (w.heap.size+1+1) 133 (Z7 Z8 (0:Nat)):=by
  rw [<- km];have:=Ur ((w.alloc (Z4 #[Z6 (ZW ⟨ar,0,ZX⟩)] 103)).alloc (Z4 #[mD cf cp] 169)) 133 (Z7 Z8 (0:Nat));rw [Ul,Ul] at this;exact this.alloc _
 have yk:ZO w4 (w.heap.size+1+1+1) 64 .nilIface:=by
  rw [<- km];have:=Ur (((w.alloc (Z4 #[Z6 (ZW ⟨ar,0,ZX⟩)] 103)).alloc (Z4 #[mD cf cp] 169)).alloc (Z4 #[Z7 Z8 0] 133)) 64 .nilIface;rw [Ul,Ul,Ul] at this;exact this
 have zp:=xe.cell;have qm:=O.o.2.1.below k9;have qi:=qt (O.o.1.vol.vol.keep (k9.block _ O.o.1.vol.vol.lt)) O.o.1.vol.par.d O.o.1.vol.par.l4 O.o.1.vol.par.g (ke.symm.trans O.o.1.vol.n);unfold mD at km;rw [km];have H4:=hide7 xe yi yj yk k9 qm qi;clear km xe yi yj yk k9 qm qi;refine cd H4.o.2.2.2.2.2.2 ?_;rintro e w5 ⟨rfl,ka,hm,x6⟩;obtain ⟨r,hr⟩:=nM (w4.heap.size+2);obtain ⟨g,hg⟩:=nM (w4.heap.size+1);rw [hr] at ka ⊢;rw [hg] at ka hm;have yn:=x6.size;have y5:=ka.lt;have y6:=hm.lt;obtain ⟨B,qv⟩:=nM (w5.alloc (Z4 #[Z6 (ZW ⟨r,0,ZX⟩)] 170));have ki:bW w5 B:=by rw [<- qv];exact bA w5 _
 have hc:=x6.trans (ki.mono yn);have qx:ZO B w5.heap.size 170 (Z6 (ZW ⟨r,0,ZX⟩)):=by rw [<- qv];exact Ur w5 _ _
 have kj:=ka.keep (ki.block _ y5);have hn:=hm.of_block (ki.block _ y6);have z6:B.heap.size=w5.heap.size+1:=by rw [<- qv];simp
 have zs:B.cell? ⟨w.heap.size,0,ZX⟩=ZW (Z6 (ZW ⟨ar,0,ZX⟩)):=(Uk (hc.block w.heap.size (by omega))).trans zp;have qf:w.heap.size+4<=g/\w.heap.size+4<=r/\r≠g/\g<B.heap.size/\r<B.heap.size/\w.heap.size+4<=w5.heap.size/\w5.heap.size<B.heap.size/\r<w5.heap.size/\g<w5.heap.size:=by omega
 have H5:=a7 kj hn hc qx qf xf;clear ka hm x6 c0 zp kj hn hc ki qx z6 yn y5 y6 hr hg xf qf;gi_wp2;clear zs qv;refine cd (lC ar B) ?_;rintro e w' ⟨rfl,rfl⟩;have h7:ZO (B.alloc (Z4 #[Z6 (ZW ⟨ar,0,ZX⟩)] 103)) B.heap.size 103 (Z6 (ZW ⟨ar,0,ZX⟩)):=Ur B _ _;have xg:(B.alloc (Z4 #[Z6 (ZW ⟨ar,0,ZX⟩)] 103)).heap.size=B.heap.size+1:=by simp
 have kp:bW B (B.alloc (Z4 #[Z6 (ZW ⟨ar,0,ZX⟩)] 103)):=bA B _;obtain ⟨w7,yg⟩:=nM (B.alloc (Z4 #[Z6 (ZW ⟨ar,0,ZX⟩)] 103));have H7:=aE h7 xg kp;clear h7 xg kp;gi_wp2;rw [yg] at H7;clear yg;obtain ⟨s1,s2,s3,s4,s5,s6,s7,s8,s9⟩:=H5.o.2.2.2.2.1;have xg:=H7.o.2.1;have y4:MdI w ar v cf cp N w5.heap.size B.heap.size r g w7.heap.size (Mv v ps F) (MJ w ar v p D L G Kind ps A F sg) (P++af os) [] w7:=by
  obtain ⟨x2,x3,x4,x5,k9,qm,_⟩:=H4.o;obtain ⟨kj,hn,hc,qx,_,xf⟩:=H5.o;have kp:=H7.o.2.2;have ko:=hc.trans (kp.mono hc.size);have I:∀ k,k<w4.heap.size->w7.heap[k]?=w4.heap[k]?:=λk I=>ko.block k I;exact ⟨(I _ (by omega)).trans x2,(I _ (by omega)).trans x3,(I _ (by omega)).trans x4,⟨_,rfl,(I _ (by omega)).trans x5⟩,(kp.block _ s7).trans qx,H7.o.1,⟨_,_,_,kj.keep (kp.block _ s5)⟩,⟨_,hn.of_block (kp.block _ s4)⟩,qm.below ko,(aa.RL k9 _).trans (aa.RL ko _),TU _⟩
 have x0:∀ {x':ZS} {l:a8},bf (λk=>k<w.heap.size/\¬ Mv v ps F k) w x' l->bf (λk=>(k<w.heap.size/\¬ Mv v ps F k)\/k=B.heap.size) w x' l:=λ⟨ao,c,q1,q2,q3⟩=>⟨ao,c,q1,q2,λhl=>by obtain ⟨b,off,r1,r2,r3⟩:=q3 hl;exact ⟨b,off,r1,.inl r2,r3⟩⟩;have xn:=x0 O.o.2.2.2.2.1;have xi:eO (λk=>(k<w.heap.size/\¬ Mv v ps F k)\/k=B.heap.size) w ob os:=by
  obtain ⟨ao,c,q1,q2,q3⟩:=O.o.2.2.2.2.2;refine ⟨ao,c,q1,q2,λhl=>?_⟩;obtain ⟨b,off,r1,r2,r3,r4⟩:=q3 hl;refine ⟨b,off,r1,.inl r2,r3,λi a=>?_⟩;obtain ⟨sv,t1,t2,t3,t4⟩:=r4 i a;exact ⟨sv,t1,t2,t3,x0 t4⟩
 have qd:bW w w7:=by
  have k9:=H4.o.2.2.2.2.1;have hc:=H5.o.2.2.1;exact (k9.trans (hc.mono k9.size)).trans (H7.o.2.2.mono (by omega))
 have HI:=a5 y4 xn xi qd;clear y4 x0 xn xi qd;refine Wd rfl (by have:=HN.o;omega) (gf:=108) (lb:=#[Z6 (ZW ⟨B.heap.size,0,ZX⟩)]) rfl trivial (U4 func108 (by kernel_rfl) rfl)
  (pK (λk=>(k<w.heap.size/\¬ Mv v ps F k)\/k=B.heap.size) (m-1) B.heap.size ar v D L G t (P.getD 0 0) (an xs.os).length pg ob ZU P os (.inr rfl) (.inl ⟨qc,H.o.2.1⟩) w7 H7.o.1 (O.o.2.2.1.keep (HI.o.2.2.2.block _ qc)) (HI.o.2.1.keep (eo.RM HI.o.2.2.2)) (HI.o.2.2.1.keep (eo.RM HI.o.2.2.2)))
  (λh k=>h.trans k) (λW l o o' hl _ _ _=>⟨by simp [World.putObj],λk _ I=>UO (by rcases I with I|I<;>omega)⟩) (TW _ _) (λ_=>rfl)
  (MdI w ar v cf cp N w5.heap.size B.heap.size r g w7.heap.size (Mv v ps F) (MJ w ar v p D L G Kind ps A F sg) (P++af os)) (λ_ _ _=>False) (MdI.own H.o.2.2.1 (by omega) (by omega) (by omega) (by omega) (by omega)) (λ_ _ _ _ _ h _ _=>h.elim) HI.o.1
  (λx=>{ tmps:=#[Z6 (ZW ⟨ar,0,ZX⟩),.func (.func cf) #[] cp,Z6 (ZW ⟨w.heap.size,0,ZX⟩),Z6 (ZW ⟨w.heap.size+1,0,ZX⟩),Z6 (ZW ⟨w.heap.size+1+1,0,ZX⟩),Z6 (ZW ⟨w.heap.size+1+1+1,0,ZX⟩),Z6 (ZW ⟨w5.heap.size,0,ZX⟩),Z7 Z9 (x.1:Nat),ZY,ZY,ZY,Z6 (ZW ⟨ar,0,ZX⟩),Z6 (ZW ⟨ar,0,ZX⟩),Z6 (ZW ⟨ar,0,ZX⟩),Z6 (ZW ⟨v,0,ZX⟩),Z6 (ZW ⟨r,0,ZX⟩),Z6 (ZW ⟨ar,0,ZX⟩),.func (.func 108) #[] #[Z6 (ZW ⟨B.heap.size,0,ZX⟩)],Z7 Z9 (x.1:Nat),ZY,ZY,ZY,ZY,ZY,ZY,ZY,ZY,ZY,ZY,ZY,ZY,ZY,ZY,ZY,ZY,ZY,ZY,ZY,ZY,ZY,ZY,ZY,ZY,ZY,ZY,ZY,ZY,ZY,ZY,ZY,ZY,ZY,ZY,ZY,ZY,ZY,ZY,ZY,ZY,ZY,ZY,ZY],defers:=[] }) ?assign ?body ?done ?stop
 case assign=>
  intro l2 x X Kk hK;unfold OM m7;gi_wp2;exact hK
 case body=>
  rintro l2 pre x X a x8;obtain ⟨er,qo,U⟩:=a.b5;obtain ⟨b0,gone,sp,qi⟩:=a.rd;obtain ⟨f0,qj⟩:=a.row;obtain ⟨hd,B0,hq,f,Q⟩:=id a.arr;have u:=O.o.1;obtain ⟨dl,qn,xy,xz⟩:=HD.o.1 x.1 x.2;have hp:B0.at x.1 (OO D L G dl):=qn.off f.1.Tq λi=>by rw [f.2.1]
  have hs:=H.o.1;have kk:qu X r v x.1 g N p D L G Kind hd B0 F dl:=
   { vol:=Q.vol,nN:=by rw [<- ke];exact u.vol.n,hol:=by rw [<- ke,u.vol.n];exact Q.hl,kit:=Q.kit,kind:=hq.1,apt:=λj hj=>⟨(Q.apt j hj).1,(Q.apt j hj).2.2.1,(Q.apt j hj).2.2.2⟩,vr:=by have:=u.vol.vol.lt;omega,vg:=by have:=u.vol.vol.lt;omega,rg:=s3,gF:=λe=>by have:=u.vol.arr.RN e;omega,rF:=λe=>by have:=u.vol.arr.RN e;omega,rK:=by have:=u.vol.room;omega,vK:=u.vlt.1,gK:=by have:=u.vol.room;omega,nb:=by rw [f.1.nb];exact (H.o.2.2.2.1 _ x.2).2,cw:=hp,len:=xy,byt:=xz,fine:=Q.fine }
  have yh:=I5 kk H.o.2.2.2.2.1.sh qi qj;have c6:=a.b6.cell;have HX:=hide8 a U qo yh hq hp f Q;have z9:=a.size;clear x8 a U qo qi qj yh kk hq qn hp xy xz f Q u hs;gi_wp2;refine dq HX.o.2.2.2.1 ?_;intro e Y kz;obtain ⟨a,U,qo,_,hq,hp,f,Q⟩:=HX.o;have u:=O.o.1;have hs:=H.o.1;have ky:=kz.out;have k8:∀ k,w.heap.size<=k->k<X.heap.size->k≠r->k≠g->(∀ cs Ty z,X.heap[k]?=ZW (Z4 cs Ty z)->¬ jP Ty)->Y.heap[k]?=X.heap[k]?:=λk J M h3 h4 h6=>ky.block k M (λq=>by
   rcases q with q|q|q|q|q
   . exact h4 q
   . exact h3 q
   . have:=u.vol.vol.lt;omega
   . have:=u.vol.arr.RN q;omega
   . rcases hd.cl _ Q.kit k q with e3|⟨cs,Ty,z,e3⟩
     . have:=hq.2.1;omega
     . exact h6 _ _ _ e3 (hd.kd _ Q.kit k q _ _ _ e3))
  have kv:∀ {k:Nat} {T:ZP} {x:ZS},ZO X k T x->¬ jP T->∀ cs Ty z,X.heap[k]?=ZW (Z4 cs Ty z)->¬ jP Ty:=λ{k T x} hb hT cs Ty z q=>by
   rw [show X.heap[k]?=ZW (Z4 #[x] T (0,0)) from hb] at q;simp only [UD,UP] at q;rw [<- q.2.1];exact hT
  have kg:aa (Mv v ps F) w Y:=a.out.later ky (λk J M=>by
   rcases M with q|q|q|q|q
   . omega
   . omega
   . exact .inr (.inl q)
   . exact .inl q
   . rcases hq.2.2 k q with q|q
     . exact .inr (.inr q)
     . omega)
  have d2:ZO Y w.heap.size 103 _:=(k8 _ (by omega) (by omega) (by omega) (by omega) (kv a.b2 (by unfold jP;decide))).trans a.b2;have d3:ZO Y (w.heap.size+1) 169 _:=(k8 _ (by omega) (by omega) (by omega) (by omega) (kv a.b3 (by unfold jP;decide))).trans a.b3;have d4:ZO Y (w.heap.size+1+1) 133 _:=(k8 _ (by omega) (by omega) (by omega) (by omega) (kv a.b4 Aw)).trans a.b4;have d5:ZO Y (w.heap.size+1+1+1) 64 _:=(k8 _ (by omega) (by omega) (by omega) (by omega) (kv U Dd)).trans U;have d7:ZO Y B.heap.size 103 _:=(k8 _ (by omega) (by omega) (by omega) (by omega) (kv a.b7 (by unfold jP;decide))).trans a.b7;have d6:ZO Y w5.heap.size 170 _:=(k8 _ (by omega) (by omega) (by omega) (by omega) (kv a.b6 (by unfold jP;decide))).trans a.b6;have xx:=kz.arr;obtain ⟨qr,qp,k1,k2,k3,k4,k5,k6⟩:=kz.kit;have qs:mB Y ar v p (qr.SG qp) D L G B0 F:=Q.gotR ky.size (λk J M h3=>ky.block k h3 (λq=>by
   have:=u.vol.room;rcases q with q|q|q|q|q
   . omega
   . omega
   . have:=u.vlt;omega
   . exact M q
   . have:=(Q.apt k q).1;omega)) xx (⟨H.o.2.2.2.2.1.re _ _ k1,k2,k3,k4,by rw [<- u.vol.n,ke];exact k5,k6⟩:mz X v p D L G Kind hd B0 (qr.SG qp) Y)
  have q9:MJ w ar v p D L G Kind ps A F sg (pre.map (·.1)) Y:=⟨qr.SG qp,B0,⟨H.o.2.2.2.2.1.re _ _ k1,k2.trans hq.2.1,λk q=>by
   rcases k6 k q with q|q
   . exact hq.2.2 k q
   . exact .inr (by omega)⟩,f,qs⟩
  obtain ⟨zz,bc,hz⟩:=kz.rd;obtain ⟨f1,gn,h8,rfl,y2,y3,yd⟩:=kz.row;have za:X.heap.size<=Y.heap.size:=ky.size;have qb:=O.o.2.2.1.keep (kg.block _ qc H.o.2.1);have HY:=hide12 a hz h8 q9 kg d2 d3 d4 d5 d6 d7 k8;have qa:((YE N).map (vv D L G dl)).length=N:=by simp
  have xo:ML Y w.heap.size g ((YE N).map (vv D L G dl)):=by
   refine ⟨by omega,h8.lt,λi a=>?_⟩;rw [qa] at a;obtain ⟨bl,c,q1,q2,q3,q6⟩:=yd i a;obtain ⟨q4,q5⟩:=pN u.vol.par dl (i:=i) (by have:=u.vol.n;omega);have cg:=h8.cell (i:=i) a;rw [q1] at cg;have e:((YE N).map (vv D L G dl))[i]'(by rw [qa];exact a)=vv D L G dl i:=(by simp);rw [e];exact ⟨bl,0,c,cg,by omega,q3,q6,q4,q5⟩
  have qe:=O.o.2.2.2.1 Y.drew (kg.trans (aa.drew Y)) gn;have z5:=H.o.2.2.2.2.2.1 gn (by rw [ke];exact y2);have q0:∀ i,i∈ab (sg gn)->i<B0.n:=λi a=>by rw [f.1.n];exact qA z5 a
  have xd:=kS (qs.vol.below ((TW _ Y).drew) lR) x.1 (sg gn) (by rw [f.1.nb];exact (H.o.2.2.2.1 _ x.2).2) (by have:=jc qg;omega) q0 (w:=Y.drew) (c:=N) (m:=N) (xo.keep lR λ_ _ _=>rfl) (λi a=>by rw [qa,<- ke,<- f.1.n];exact q0 i a) (Nat.le_of_eq qa) (λk I=>u.vol.arr.RN I);rw [Db λi a=>by rw [f.1.lost];exact qy.out i (by rw [<- f.1.n];exact q0 i a)] at xd;have qk:ZR ZN 86 #[Z6 (ZW ⟨v,0,ZX⟩),Z7 Z9 x.1,Z5 (ZW ⟨g,0,ZX⟩) N N,Z7 Z8 (sg gn)] Y.drew λe w'=>e=Z3 (Z7 Z8 (0:Nat))/\MJ w ar v p D L G Kind ps A F sg (pre.map (·.1)++[x.1]) w'/\aa F.S Y.drew w':=xd.mono λe Z h=>by
   obtain ⟨J,M,h3⟩:=h;have ep:B0.putAt (ab (sg gn)) x.1 (λi=>.shard (((YE N).map (vv D L G dl)).getD i []))=B0.putAt (ab (sg gn)) x.1 (OO D L G dl):=by
    unfold aB.putAt;congr 1;funext i m;by_cases q:m=x.1/\i∈ab (sg gn)
    . have z1:i<N:=(by rw [<- ke,<- f.1.n];exact q0 i q.2);simp [q,OO,Ub,z1]
    . rw [TS q,TS q]
   rw [ep] at M;exact ⟨J,⟨qr.SG qp,_,⟨H.o.2.2.2.2.1.re _ _ k1,k2.trans hq.2.1,λk q=>by
    rcases k6 k q with q|q
    . exact hq.2.2 k q
    . exact .inr (by omega)⟩,⟨f.1.trans (dM.put _ _ _ _),(Mu hp q0).trans f.2.1,λb hb=>by
    rcases Ui.1 hb with q|q
    . exact (f.2.2 b q).To (dM.put _ _ _ _)
    . obtain rfl:=U5.1 q;exact Gk (by rw [f.1.n];exact qg) (by rw [f.1.n,ke];exact y2) (λi a=>y3 i (by rw [<- ke,<- f.1.n];exact a)) λi a=>by rw [f.1.lost];exact qy.out i (by rw [<- f.1.n];exact a)⟩,(qs.below ((TW _ Y).drew)).put M (dM.put _ _ _ _) h3⟩,h3⟩
  have e3:=d3.cell;have e5:=qb.cells.1;unfold mD at e3;have x9:=d4.lt;have HC:=al qe qk;clear a U hq hp f Q hs ky k8 kv kg d2 d3 d4 d5 d6 d7 xx k1 k2 k3 k4 k5 k6 qs q9 hz h8 qb kz yd y3 qa xo qe xd qk u q0;gi_wp2;obtain ⟨a,hz,h8,q9,kg,d2,d3,d4,d5,d6,d7,k8⟩:=HY.o;have u:=O.o.1;have K:∀ k,w.heap.size<=k->¬ F.S k:=λk I q=>by have:=u.vol.arr.RN q;omega
  have hf:∀ Z,aa F.S Y Z->Z.cell? ⟨w.heap.size,0,ZX⟩=ZW (Z6 (ZW ⟨ar,0,ZX⟩))/\Z.cell? ⟨w.heap.size+1,0,ZX⟩=ZW (.func (.func cf) #[] cp)/\Z.cell? ⟨w.heap.size+1+1,0,ZX⟩=ZW (Z7 Z8 (0:Nat))/\Z.cell? ⟨ar,0,ZX⟩=ZW (Z6 (ZW ⟨v,0,ZX⟩)):=λZ R=>⟨We ((R.block _ d2.lt (K _ (by omega))).trans d2),We ((R.block _ d3.lt (K _ (by omega))).trans d3),We ((R.block _ d4.lt (K _ (by omega))).trans d4),(Uk (R.block _ (T7 qc kg.size) u.nar)).trans e5⟩;refine bB (dr _) 12 [(0,ZV),(1,ZV),(2,ZV),(3,ZV),(4,ZV),(5,ZV),(6,ZV),(7,ZV),(8,ZV),(9,ZU),(10,ZU),(11,ZV),(12,ZU)] (λZ=>Z.cell? ⟨w.heap.size,0,ZX⟩=ZW (Z6 (ZW ⟨ar,0,ZX⟩))/\Z.cell? ⟨w.heap.size+1,0,ZX⟩=ZW (.func (.func cf) #[] cp)/\Z.cell? ⟨w.heap.size+1+1,0,ZX⟩=ZW (Z7 Z8 (0:Nat))/\Z.cell? ⟨ar,0,ZX⟩=ZW (Z6 (ZW ⟨v,0,ZX⟩))) (by kernel_rfl) (by kernel_rfl) (hf _ (aa.drew Y)) ?_;iterate 9 (refine aC rfl rfl ?_;apply YF;refine ⟨λw' V=>?_,?_⟩;(obtain ⟨s1,s2,s3,s4⟩:=V;first|(go_simp;done)|(go_simp;exact rfl));simp only [Act.put,TX,TY,TZ])
  have yy:∀ (args:Array ZS) (w:ZT),(callFunc cf args).run ZN w=.ok (.enter cf args) w:=hE;refine dF (dr _) HC.o.1 rfl rfl nofun (by go_simp) ?_;rintro e Z ⟨rfl,rfl⟩;refine ⟨_,rfl,λ_=>hf _ (aa.drew Y),?_⟩;simp only [Act.put,TX,TY,TZ];refine dF (dr _) HC.o.2 rfl rfl nofun (by go_simp) ?_;rintro e Z ⟨rfl,kb,kx⟩;have xp:=hf _ ((aa.drew Y).trans kx);have yb:bits .or .u64 0 0=0:=by decide
  refine ⟨_,rfl,λ_=>xp,?_⟩;simp only [Act.put,TX,TY,TZ];refine aC rfl rfl ?_;apply YF;refine ⟨λw' V=>?_,?_⟩;(obtain ⟨s1,s2,s3,s4⟩:=V;first|(go_simp;done)|(go_simp;exact rfl));simp only [Act.put,TX,TY,TZ];have x7:ZO Z (w.heap.size+1+1) 133 _:=(((aa.drew Y).trans kx).block _ d4.lt (K _ (by omega))).trans d4;have f4:=x7.frozen;have c4:=x7.cell;refine dS (dr _) (w1:=Z.setCell ⟨w.heap.size+1+1,0,ZX⟩ (Z7 Z8 ((0:Nat):Int))) rfl rfl nofun (by go_simp) AR (cB ?_);have HZ:=aE kb kx K;clear a hz h8 q9 kg d2 d3 d4 d5 d6 d7 k8 u K kb kx e3 e5 hf xp x7 f4 c4 yy yb;simp only [Act.put];gi_wp2;obtain ⟨a,hz,h8,q9,kg,d2,d3,d4,d5,d6,d7,k8⟩:=HY.o;obtain ⟨kb,kx,K⟩:=HZ.o;have kf:aa F.S Y Z:=(aa.drew Y).trans kx;obtain ⟨W,E⟩:=nM (Z.setCell ⟨w.heap.size+1+1,0,ZX⟩ (Z7 Z8 ((0:Nat):Int)));rw [E];have xv:∀ k,k≠w.heap.size+1+1->W.heap[k]?=Z.heap[k]?:=λk I=>by rw [<- E];exact Ud _ _ _ _ I
  have z7:Z.heap.size=W.heap.size:=by rw [<- E];simp [World.setCell]
  have xj:aa (λk=>k=w.heap.size+1+1) Z W:=⟨by rw [<- E];rfl,by rw [<- E];rfl,by rw [<- E];rfl,by omega,λk _ I=>xv k I⟩;have zc:=kf.size;have kh:∀ k,w.heap.size<=k->k<Y.heap.size->k≠w.heap.size+1+1->W.heap[k]?=Y.heap[k]?:=λk J M h3=>(xv k h3).trans (kf.block k M (K k J));have zr:ZO Z (w.heap.size+1+1) 133 _:=(kf.block _ x9 (K _ (by omega))).trans d4;have yv:=H.o.2.2.1 _ _ _ _ kb xj (λk I=>⟨by omega,λcs Ty z q=>by rw [I,show Z.heap[w.heap.size+1+1]?=ZW (Z4 _ 133 (0,0)) from zr] at q;simp only [UD,UP] at q;rw [<- q.2.1];exact Aw⟩);have k9:ZO W (w.heap.size+1+1) 133 (Z7 Z8 (0:Nat)):=by rw [<- E];exact zr.set _
  have hh:aa (Mv v ps F) w Z:=kg.trans (kf.mono λk _ q=>.inl q);have xk:aa (Mv v ps F) w W:=hh.later xj (λk J M=>by omega);refine ⟨⟨by omega,λk o I ho z2=>?_⟩,⟨by omega,λk I hK=>?_⟩,?_⟩
  . exact (kh k (by omega) (by have:=(T5.1 ho).1;omega) (by omega)).trans ((k8 k (by omega) (T5.1 ho).1 (by omega) (by omega) (λcs Ty z q=>by rw [q] at ho;have:=UM ho;subst this;cases z2)).trans ho)
  . rcases hK with ⟨J,M⟩|J
    . exact (xk.block k J M).trans (a.out.block k J M).symm
    . subst J;exact (kh _ (by omega) (by omega) (by omega)).trans (d7.trans a.b7.symm)
  . exact ⟨(kh _ (by omega) (by omega) (by omega)).trans d2,(kh _ (by omega) (by omega) (by omega)).trans d3,k9,⟨_,qo,(kh _ (by omega) (by omega) (by omega)).trans d5⟩,(kh _ (by omega) (by omega) (by omega)).trans d6,(kh _ (by omega) (by omega) (by omega)).trans d7,⟨_,_,_,hz.keep (kh _ (by omega) (by omega) (by omega))⟩,⟨_,h8.of_block (kh _ (by omega) (by omega) (by omega))⟩,by rw [Uv];exact yv,xk,by omega⟩
 case done=>
  rintro D1 ba X ys ym a hK;have qz:w.heap.size+4<=D1:=by omega
  have k0:OZ w ar cf cp D1 (Mv v ps F) (MJ w ar v p D L G Kind ps A F sg (P++af os)) X:=⟨a.b2,a.b3,a.b4,a.b5,by have e:ba.map (·.1)=P++af os:=ym;rw [<- e];exact a.arr,a.out,hK⟩;have K:∀ k,w.heap.size<=k->¬ Mv v ps F k:=λk I q=>by have:=H.o.1 k q;omega
  have kc:∀ (ls:a8) (W:ZT) (b:Nat) (rc:bE),OZ w ar cf cp D1 (Mv v ps F) (MJ w ar v p D L G Kind ps A F sg ls) W->b<A.nb->rc.ok->L0 rc->A.at b (λ_=>rc)->ZR ZN 87 #[Z6 (ZW ⟨ar,0,ZX⟩),Z7 Z9 b,dK rc,mD cf cp] W.drew λe Y=>e=Z3 (Z7 Z8 (0:Nat))/\MJ w ar v p D L G Kind ps A F sg (b::ls) Y/\aa (Mv v ps F) W.drew Y:=λls W b rc E hb z3 yz qn=>by
   obtain ⟨hd,B0,hq,f,Q⟩:=E.arr;have ha:=O.o.2.2.1;have ya:=Q.below ((TW _ W).drew);have kc:=vq (w:=W.drew) (cf:=cf) (cp:=cp) (sg:=sg) (b:=b) (r:=rc) ya (ha.keep (w':=W.drew) (E.out.block _ ha.lt H.o.2.1)) hE (λX' R=>O.o.2.2.2.1 X' ((E.out.trans (aa.drew W)).trans (R.mono λk _ q=>.inl q))) (λy hy=>by rw [f.1.n] at hy ⊢;exact H.o.2.2.2.2.2.1 y hy) (by rw [f.1.nb];exact hb) z3 yz (qn.off f.1.Tq λi=>by rw [f.2.1]) λi a=>by rw [f.1.lost];exact qy.out i (by rw [<- f.1.n];exact a)
   refine kc.mono λe Y h=>?_;obtain ⟨J,⟨C,⟨hC,yr,yq⟩,yp⟩,R⟩:=h;exact ⟨J,⟨hd,C,hq,⟨f.1.trans hC,yr.trans f.2.1,λb' yx=>(Uw.1 yx).elim (λq=>q▸yq) λq=>(f.2.2 b' q).To hC⟩,ya.put yp hC R⟩,R.mono λk _ q=>.inl q⟩
  have HE:=aE k0 K kc;clear a hK k0 K kc ym;gi_wp2;obtain ⟨k0,K,kc⟩:=HE.o;obtain ⟨f1,y0⟩:=nM (P.getD 0 0);obtain ⟨n1,y9⟩:=nM ((an xs.os).length);have ha:=O.o.2.2.1;have qq:=kc _ X 0 _ k0 (by omega) xc trivial HD.o.2.1;rw [y0,y9] at ha qq;have hf:∀ (ls:a8) W Z,OZ w ar cf cp D1 (Mv v ps F) (MJ w ar v p D L G Kind ps A F sg ls) W->aa (Mv v ps F) W Z->Z.cell? ⟨w.heap.size,0,ZX⟩=ZW (Z6 (ZW ⟨ar,0,ZX⟩))/\Z.cell? ⟨w.heap.size+1,0,ZX⟩=ZW (.func (.func cf) #[] cp)/\Z.cell? ⟨w.heap.size+1+1,0,ZX⟩=ZW (Z7 Z8 (0:Nat))/\a9 Z ar v D L G t f1 n1 pg ob ZU:=λ_ W Z E R=>⟨We ((R.block _ E.b2.lt (K _ (by omega))).trans E.b2),We ((R.block _ E.b3.lt (K _ (by omega))).trans E.b3),We ((R.block _ E.b4.lt (K _ (by omega))).trans E.b4),ha.keep ((E.out.trans R).block _ ha.lt H.o.2.1)⟩;have kk:∀ (ls:a8) W Z,OZ w ar cf cp D1 (Mv v ps F) (MJ w ar v p D L G Kind ps A F sg ls) W->aa (Mv v ps F) W Z->Z.frozen? ⟨w.heap.size+1+1,0,ZX⟩=ZU:=λ_ W Z E R=>Boxed.frozen ((R.block _ E.b4.lt (K _ (by omega))).trans E.b4);have yb:bits .or .u64 0 0=0:=by decide
  change ZR ZN 87 #[Z6 (ZW ⟨ar,0,ZX⟩),Z7 Z9 (0:Nat),.iface 142 (.agg (aj D L G t f1 n1)),.func (.func cf) #[] cp] _ _ at qq;refine bB gQ 10 [(0,ZV),(1,ZV),(2,ZV),(3,ZV),(4,ZV),(5,ZV),(6,ZV),(7,ZV),(8,ZU),(9,ZV),(10,ZU)] (λZ=>Z.cell? ⟨w.heap.size,0,ZX⟩=ZW (Z6 (ZW ⟨ar,0,ZX⟩))/\Z.cell? ⟨w.heap.size+1,0,ZX⟩=ZW (.func (.func cf) #[] cp)/\Z.cell? ⟨w.heap.size+1+1,0,ZX⟩=ZW (Z7 Z8 (0:Nat))/\a9 Z ar v D L G t f1 n1 pg ob ZU) (by kernel_rfl) (by kernel_rfl) (hf _ X _ k0 (aa.drew X)) ?_;iterate 5 (refine aC rfl rfl ?_;apply YF;refine ⟨λw' V=>?_,?_⟩;(obtain ⟨s1,s2,s3,s4⟩:=V;first|(go_simp;done)|(go_simp;exact rfl));simp only [Act.put,TX,TY,TZ])
  refine aC rfl rfl ⟨.agg (aj D L G t f1 n1),λw' V=>by simp [execOp,Act.eval,Fe V.2.2.2],?_⟩;simp only [Act.put,TX,TY,TZ];iterate 2 (refine aC rfl rfl ?_;apply YF;refine ⟨λw' V=>?_,?_⟩;(obtain ⟨s1,s2,s3,s4⟩:=V;first|(go_simp;done)|(go_simp;exact rfl));simp only [Act.put,TX,TY,TZ])
  refine dF gQ qq rfl rfl nofun (by go_simp) ?_;rintro e Z ⟨rfl,kb,hh⟩;refine ⟨_,rfl,λ_=>hf _ X _ k0 ((aa.drew X).trans hh),?_⟩;simp only [Act.put,TX,TY,TZ];refine aC rfl rfl ?_;apply YF;refine ⟨λw' V=>?_,?_⟩;(obtain ⟨s1,s2,s3,s4⟩:=V;first|(go_simp;done)|(go_simp;exact rfl));simp only [Act.put,TX,TY,TZ];have f4:=kk _ X Z k0 ((aa.drew X).trans hh);have c4:=(hf _ X Z k0 ((aa.drew X).trans hh)).2.2.1;refine dS gQ (w1:=Z.setCell ⟨w.heap.size+1+1,0,ZX⟩ (Z7 Z8 ((0:Nat):Int))) rfl rfl nofun (by go_simp) AR (cB ?_);simp only [Act.put];clear f4 c4 qq;have HS:=al hf kk;clear hf kk;have k7:=k0.next H.o.1 (H.o.2.2.1 _) qz kb hh;obtain ⟨W,E⟩:=nM (Z.setCell ⟨w.heap.size+1+1,0,ZX⟩ (Z7 Z8 ((0:Nat):Int)));rw [E] at k7 ⊢;obtain ⟨er,z0,U⟩:=id k7.b5;have c5:=U.cell;have yo:=al k7 U;clear k0 K kc ha kb hh k7 E U y0 y9;obtain rfl:er=.nilIface:=z0;gi_wp2;clear c5;obtain ⟨k7,U⟩:=yo.out;obtain ⟨k0,K,kc⟩:=HE.o;obtain ⟨hf,kk⟩:=HS.o;have xa:=kc _ W 1 .filled k7 (by omega) trivial trivial HD.o.2.2;change ZR ZN 87 #[Z6 (ZW ⟨ar,0,ZX⟩),Z7 Z9 (1:Nat),.iface 180 (.agg #[]),.func (.func cf) #[] cp] _ _ at xa;refine bB gQ 7 [(0,ZV),(1,ZV),(2,ZV),(3,ZV),(4,ZV),(5,ZU),(6,ZV),(7,ZU)] (λZ=>Z.cell? ⟨w.heap.size,0,ZX⟩=ZW (Z6 (ZW ⟨ar,0,ZX⟩))/\Z.cell? ⟨w.heap.size+1,0,ZX⟩=ZW (.func (.func cf) #[] cp)/\Z.cell? ⟨w.heap.size+1+1,0,ZX⟩=ZW (Z7 Z8 (0:Nat))/\a9 Z ar v D L G t f1 n1 pg ob ZU) (by kernel_rfl) (by kernel_rfl) (hf _ W _ k7 (aa.drew W)) ?_;iterate 5 (refine aC rfl rfl ?_;apply YF;refine ⟨λw' V=>?_,?_⟩;(obtain ⟨s1,s2,s3,s4⟩:=V;first|(go_simp;done)|(go_simp;exact rfl));simp only [Act.put,TX,TY,TZ])
  refine dF gQ xa rfl rfl nofun (by go_simp) ?_;rintro e Z2 ⟨rfl,kb,hh⟩;refine ⟨_,rfl,λ_=>hf _ W _ k7 ((aa.drew W).trans hh),?_⟩;simp only [Act.put,TX,TY,TZ];refine aC rfl rfl ?_;apply YF;refine ⟨λw' V=>?_,?_⟩;(obtain ⟨s1,s2,s3,s4⟩:=V;first|(go_simp;done)|(go_simp;exact rfl));simp only [Act.put,TX,TY,TZ];have f4:=kk _ W Z2 k7 ((aa.drew W).trans hh);have c4:=(hf _ W Z2 k7 ((aa.drew W).trans hh)).2.2.1;refine dS gQ (w1:=Z2.setCell ⟨w.heap.size+1+1,0,ZX⟩ (Z7 Z8 ((0:Nat):Int))) rfl rfl nofun (by go_simp) AR (cB ?_);simp only [Act.put];clear f4 c4 xa hf kk;have q8:=k7.next H.o.1 (H.o.2.2.1 _) qz kb hh;have q7:ZO (Z2.setCell ⟨w.heap.size+1+1,0,ZX⟩ (Z7 Z8 ((0:Nat):Int))) (w.heap.size+1+1+1) 64 .nilIface:=(Ud _ _ _ _ (by show w.heap.size+1+1+1≠w.heap.size+1+1;omega)).trans ((((aa.drew W).trans hh).block _ U.lt (K _ (by omega))).trans U);obtain ⟨W3,xq⟩:=nM (Z2.setCell ⟨w.heap.size+1+1,0,ZX⟩ (Z7 Z8 ((0:Nat):Int)));rw [xq] at q8 q7 ⊢;have c4:=q8.b4.cell;have f4:=q8.b4.frozen;have c5:=q7.cell;have f5:=q7.frozen;have xh:=al q8 q7;clear k0 k7 U kc K kb hh q8 xq q7;gi_wp2;gi_region
  gi_wp2;exact QJ xh.out.1 H.o.1 (H.o.2.2.1 _) rfl xh.out.2 qz rfl rfl rfl (λY J M=>⟨rfl,by rw [xb];exact J,M⟩)
 case stop=>
  rintro D1 cc pre X ys z4 hx hK;exact hx.elim
end
section
def aB.Sb (A:aB) (S:Nat):aB:={ A with sv:=S }
def Alv (A:aB) (S:Nat) (B:aB):Prop:=B.sv=S/\dM A (B.Sb A.sv)
section
variable {w Y:ZT} {ar v p D L G t:Nat} {Kind:aN->Prop} {ps ps':aN} {pg ob:ZS} {P:a8} {xs:aL} {A B:aB} {F:aK}
def aS.TR (h:aS w ar v p ps D L G t pg ob P xs A F) (ho:mB Y ar v p ps' D L G B F) (f:dM A B) (n:B.rc=A.rc) (c:aa (Mv v ps F) w Y) (l:∀ k,ps'.bl k->ps.bl k\/w.heap.size<=k):aS Y ar v p ps' D L G t pg ob P xs B F:=by
 have:=h.vlt;have d:eo (λk=>ar<k/\¬ F.S k/\¬ ps.bl k/\¬ ps'.bl k) w Y:=⟨c.size,λk m a=>c.block k m (λq=>by
  rcases q with q|q|q
  . exact a.2.1 q
  . have:=a.1;omega
  . exact a.2.2.1 q)⟩
 have g:∀ k,(ar<k/\¬ F.S k/\¬ ps.bl k)->k<w.heap.size->(ar<k/\¬ F.S k/\¬ ps.bl k/\¬ ps'.bl k):=λk q o=>⟨q.1,q.2.1,q.2.2,λe=>(l k e).elim q.2.2 (by omega)⟩;have j:¬ Mv v ps F ar:=λq=>by
  rcases q with q|q|q
  . exact h.nar q
  . omega
  . exact (h.apt _ q).2.1 rfl
 exact { arc:=h.arc.keep (c.block _ h.arc.lt j),vol:=ho.vol,nar:=ho.nar,vlt:=ho.vlt,disk:=h.disk.off f.Tq λb _ i=>by rw [n],pgs:=((h.pgs.wk g).keep d).wk λk q _=>⟨q.1,q.2.1,q.2.2.2⟩,cat:=((h.cat.wk g).keep d).wk λk q _=>⟨q.1,q.2.1,q.2.2.2⟩,nb:=by rw [f.nb];exact h.nb,turn:=h.turn,kit:=ho.kit,apt:=ho.apt,hl:=ho.hl,fine:=ho.fine }
def Ay (h:A.at b f) (c:∀ i,i<A.n->gnB A b i=ZV->A.sv.testBit i=ZV->S.testBit i=ZV):(A.Sb S).at b f:=λi a=>⟨(h i a).1,λq=>c i a q ((h i a).2 q)⟩
def az.Sb (h:az X p A F):az X p (A.Sb S) F:=by
 obtain ⟨R,b,a⟩:=h;exact ⟨R,b,a.n,a.nb,a.lost,a.rd,a.tn⟩
def aS.Sb (h:aS w ar v p ps D L G t pg ob P xs A F) (hT:gq D L G S) (hlo:∀ i,i<A.n->A.lost i=ZV->S.testBit i=ZV) (d:∀ b,b∈1::0::(P++af xs.os)->∀ i,i<A.n->gnB A b i=ZV->A.sv.testBit i=ZV->S.testBit i=ZV):aS w ar v p ps D L G t pg ob P xs (A.Sb S) F:=by
 have hd:=h.disk;have f:∀ {l:a8} {c:Nat->a8},(∀ b∈l,b∈P++af xs.os)->A.holds D L G l c->(A.Sb S).holds D L G l c:=λhl q k e=>Ay (q k e) (d _ (UJ _ (UJ _ (hl _ (by rw [ia e];exact T6 e)))));exact { h with vol:={ h.vol with arr:=h.vol.arr.Sb },disk:=⟨hd.turn,Ay hd.root (d 0 (by simp)),Ay hd.fill (d 1 (by simp)),hd.pl,f (λb a=>UF _ a) hd.page,hd.nod,hd.Tk,hd.fits,hd.up,λx g=>f (λb a=>VM _ (ur g a)) (hd.held x g),hd.room⟩,fine:=⟨hT,hlo⟩ }
def vt (w:ZT) (ar v p D L G t:Nat) (Kind:aN->Prop) (ps:aN) (pg ob:ZS) (P:a8) (xs:aL) (A:aB) (F:aK) (S:Nat) (e:ZQ) (Y:ZT):Prop:=e=Z3 .nilIface/\(∃ ps' B,aS Y ar v p ps' D L G t pg ob P xs B F/\(Kind ps'/\∀ k,ps'.bl k->ps.bl k\/w.heap.size<=k)/\Alv A S B)/\aa (Mv v ps F) w Y
def MJ.TK {x:Nat} (l:MJ w ar v p D L G Kind ps A F sg (1::0::(P++af xs.os)) Y) (h:aS w ar v p ps D L G t pg ob P xs A F) (m:aa (Mv v ps F) w Y) (g:∀ ps h,Kind ps->Kind (ps.SG h)) (u:x<2^(D+L+G)) (hT:gq D L G S) (hlo:∀ i,i<A.n->A.lost i=ZU) (f:∀ i,i<A.n->A.sv.testBit i=ZV->¬ Sld sg A.n i->S.testBit i=ZV):vt w ar v p D L G t Kind ps pg ob P xs A F S (Z3 .nilIface) (Y.setCell ⟨v,5,ZX⟩ (Z7 Z8 (x:Nat))):=by
 obtain ⟨ps',B,⟨k1,k2,k3⟩,⟨a,s,r⟩,ho⟩:=l;have d:aa (Mv v ps F) w (Y.setCell ⟨v,5,ZX⟩ (Z7 Z8 (x:Nat))):=m.later (aa.setCell (S:=λk=>k=v) _ _ _ rfl) (λk _ e=>.inr (.inl e));refine ⟨rfl,⟨ps'.SG x,B.Sb S,(h.TR (ho.SG u) a s d k3).Sb hT (λi c q=>?_) (λb o i c q hs=>?_),⟨g _ _ k1,k3⟩,rfl,a.n,a.nb,a.tn,a.lost,rfl,a.gn⟩,d⟩
 . rw [a.lost,hlo i (a.n▸c)] at q;cases q
 . refine f i (a.n▸c) (a.sv▸hs) λj=>?_;rw [r b o i c (a.n.symm▸j)] at q;cases q
def My:Ent 61:=U4 func61 (by kernel_rfl) rfl
def Mz:Ent 79:=U4 func79 (by kernel_rfl) rfl
theorem MA (X:ZT):Cho 61 #[] (λx=>x) X:=λbd=>by
 show ZR ZN 61 #[Z7 Z8 bd] X _;go_enter func61,ntmps61;go_wp2;go_ret;exact ⟨rfl,rfl⟩
theorem MC {y:Nat} (h:ZO X q 133 (Z7 Z8 y)):Cho 79 #[Z6 (ZW ⟨q,0,ZX⟩)] (λ_=>y) X:=λbd=>by
 show ZR ZN 79 #[Z7 Z8 bd,Z6 (ZW ⟨q,0,ZX⟩)] X _;have c:=h.cell;clear h;go_enter func79,ntmps79;go_wp2;go_ret;exact ⟨rfl,rfl⟩
def O0 (h:aS w ar v p ps D L G t pg ob P xs A F) {k:Nat} (a:Mv v ps F k):k<w.heap.size:=by
 rcases a with q|q|q
 . exact h.vol.arr.RN q
 . rw [q];exact h.vol.vol.lt
 . exact ps.lt _ h.kit k q
variable {S:Nat} (h:aS w ar v p ps D L G t pg ob P xs A F) (hv:uS D L G Kind ps) (hnb:2<=A.nb) (hT:gq D L G S) (hlo:∀ i,i<A.n->A.lost i=ZU)
include h hv hnb hT hlo
theorem Ff (f:ZO w q 103 (Z6 (ZW ⟨ar,0,ZX⟩))) (m:¬ Mv v ps F q) :
 ZR ZN 59 #[Z6 (ZW ⟨q,0,ZX⟩)] w (vt w ar v p D L G t Kind ps pg ob P xs A F S):=by
 have d:=De h hv (hv.pk _ _ hv.kind h.kit) hnb My (λX _=>MA X) (λx n=>n) hlo;unfold mD at d;have g:=f.cell;have a:=a6 h hv f hT hlo;clear h hv f hT hlo;go_enter func59,ntmps59;go_wp2_with fail;refine d.mono ?_;rintro e Y ⟨rfl,c,b⟩;have l:Y.cell? ⟨q,0,ZX⟩=ZW (Z6 (ZW ⟨ar,0,ZX⟩)):=(Uk (b.block _ a.o.2.2.1.lt m)).trans g;obtain ⟨ps',B,⟨k1,k2,k3⟩,⟨j,k,_⟩,ho⟩:=id c;have hl:=a.o.1.TR ho j k b k3;have c0:=hl.arc.cells.1;obtain ⟨s,r⟩:=At hl.vol.vol;have H:=al c b;clear d k1 k2 k3 j k b ho hl g c;go_wp2;go_ret;exact H.o.1.TK a.o.1 H.o.2 a.o.2.1.re (VH _) a.o.2.2.2.1 a.o.2.2.2.2 λi _ _ q=>absurd (λ_ _ q=>q) q
theorem Df (d:Nat) (hd:d<D+L+G) (r:∀ i,i≠d->A.sv.testBit i=ZV->S.testBit i=ZV) :
 ZR ZN 54 #[Z6 (ZW ⟨ar,0,ZX⟩),Z7 Z9 d] w (vt w ar v p D L G t Kind ps pg ob P xs A F S):=by
 have c0:=h.arc.cells.1;have W:=fJ h.vol.vol;have hD:=h.vol.par.d;have hL:=h.vol.par.l4;have hG:=h.vol.par.g;have hN:=h.vol.n;have hs:=h.vol.par.s;have hk:=λw1:ZT=>pZ (D:Int) (L:Int) (G:Int) w1 ⟨by omega,by omega⟩ ⟨by omega,by omega⟩ ⟨by omega,by omega⟩;have hq:=λw1:ZT=>eS 0 d (by decide) (by omega) w1;have k0:=hv.pk _ _ hv.kind h.kit;have H:=hide8 W hk hq h hv hT hlo r;have E:2^d<2^A.n:=Vx (by decide) (by omega);have h8:2^A.n<=65536:=jc (by omega);clear W hk hq h hv hT hlo r;have h0:¬ (d:Int)<0:=by omega
 go_enter func54,ntmps54;go_wp2_with fail;refine H.o.1.mono ?_;rintro e w1 ⟨rfl,C,_⟩;go_wp2_with fail;refine (H.o.2.1 _).mono ?_;rintro e w2 ⟨rfl,hn⟩;have hc:bW w w2:=by rw [hn];exact C.alloc C.size _
 have u:=ak hc;clear hn C hc;go_wp2_with fail;refine (H.o.2.2.1 _).mono ?_;rintro e b ⟨rfl,rfl⟩;go_wp2_with fail;have f:ZO (b.alloc (Z4 #[Z7 Z8 ((2:Int)^d)] 133)) b.heap.size 133 (Z7 Z8 (2^d:Nat)):=by
  rw [Xk];exact Ur b _ _
 have a:bW w (b.alloc (Z4 #[Z7 Z8 ((2:Int)^d)] 133)):=u.o.alloc u.o.size _;obtain ⟨w4,hp⟩:=nM (b.alloc (Z4 #[Z7 Z8 ((2:Int)^d)] 133));rw [hp] at f a ⊢;have j:=H.o.2.2.2.1.below a;have hy:w.heap.size<=b.heap.size:=u.o.size;have I:¬ Mv v ps F b.heap.size:=λq=>by have:=O0 H.o.2.2.2.1 q;omega
 have J:=De j H.o.2.2.2.2.1 (T7 k0 a.size) hnb Mz (λX hX=>MC (y:=2^d) ((hX.block _ f.lt I).trans f)) (λ_ _=>E) H.o.2.2.2.2.2.2.1;unfold mD at J;refine J.mono ?_;rintro e Y ⟨rfl,m,l⟩;obtain ⟨ps',B,⟨k1,k2,k3⟩,⟨R,hr,_⟩,ho⟩:=id m;have hl:=j.TR ho R hr l k3;have Z:ZO Y b.heap.size 133 (Z7 Z8 (2^d:Nat)):=(l.block _ f.lt I).trans f;have cq:=Z.cell;have hb:=hl.arc.cells.1;obtain ⟨k5,f5⟩:=At hl.vol.vol;obtain ⟨c,hz⟩:=nM (ps'.ho);have V:=hl.hl;rw [hz] at k5 V;rw [hN] at h8 E;have T:=X4 c (2^d) (by omega) (by omega);have U:xS c (2^d)<2^(D+L+G):=WS (WH:xS c (2^d)<=c) V;have HY:=a5 m l j a;clear J m l hl Z f a j c0 hp I hy k1 k2 k3 R hr ho;have Q:bits .andNot .u64 (c:Int) ((2^d:Nat):Int)=((xS c (2^d):Nat):Int):=T;clear T;generalize xS c (2^d)=z at Q U;obtain ⟨O,hx⟩:∃ O:Nat,2^d=O:=⟨_,rfl⟩;rw [hx] at cq Q;clear E;go_wp2;go_region;go_wp2;go_ret;obtain ⟨m,l,j,a⟩:=HY.o;obtain ⟨_,_,_,_,hv,hT,hlo,r⟩:=H.o;obtain ⟨_,⟨K,B2,M,⟨N,q3⟩,q4⟩,q5⟩:=m.TK j l hv.re U hT hlo λi _ M N=>r i (λe=>N λx _ _=>by rw [e];exact abm) M;exact ⟨rfl,⟨K,B2,M.below (TW _ _).drew,⟨N,λk q=>(q3 k q).imp id λq=>TV a.size q⟩,q4⟩,((aa.RL a _).trans q5).trans (aa.drew _)⟩
theorem Az (d:Nat) (hd:d<D+L+G) (j:∀ i,i≠d->A.sv.testBit i=ZV->S.testBit i=ZV) {q1 g:Nat} (a:ZO w q1 103 (Z6 (ZW ⟨ar,0,ZX⟩))) (b:ZO w g 3 (Z7 Z9 d)) :
 ZR ZN 53 #[Z6 (ZW ⟨q1,0,ZX⟩),Z6 (ZW ⟨g,0,ZX⟩)] w (vt w ar v p D L G t Kind ps pg ob P xs A F S):=by
 have f:=Df h hv hnb hT hlo d hd j;have c1:=a.cell;have k:=b.cell;clear h hv a b hT hlo;go_enter func53,ntmps53;go_wp2_with fail;refine f.mono ?_;rintro e Y ⟨rfl,c⟩;have H:=ak c;clear c f;go_wp2;go_ret;exact ⟨rfl,H.o⟩
omit hv hnb hT hlo
def ik (w:ZT) (ar v p D L G t:Nat) (Kind:aN->Prop) (ps:aN) (xs:aL) (A:aB) (F:aK) (S:Nat) (e:ZQ) (w':ZT):Prop:=e=Z3 .nilIface/\(∃ pg ob P ps' B,aS w' ar v p ps' D L G t pg ob P xs B F/\(Kind ps'/\∀ k,ps'.bl k->ps.bl k\/w.heap.size<=k)/\Alv A S B)/\aa (λj=>j=ar\/F.S j\/j=v\/ps.bl j) w w'
def Gl (k:FuncId) (cap:Array ZS) (i:∀ (args:Array ZS) (w:ZT),(callFunc k args).run ZN w=.ok (.enter k args) w) (l:∀ w1,bW w w1->ZR ZN k cap w1 (vt w1 ar v p D L G t Kind ps pg ob P xs A F S)) :
 ZR ZN 52 #[Z6 (ZW ⟨ar,0,ZX⟩),.func (.func k) #[] cap] w (ik w ar v p D L G t Kind ps xs A F S):=by
 refine (Ar (R:=Alv A S) h k #[] cap i (λr g xs' B ps' w2=>r=.nilIface/\g=t/\xs'=xs/\(Kind ps'/\∀ k,ps'.bl k->ps.bl k\/w.heap.size<=k)) (λj=>j=v\/ps.bl j) (λj e=>by
  rcases e with e|e
  . have:=h.vol.vol.lt;omega
  . have:=ps.lt _ h.kit _ e;omega) (λ_ _ _ _ _ _ _ _ q=>q)
  (λw1 f o=>by
   rw [show (#[]:Array ZS)++cap=cap by simp];refine (l w1 f).mono ?_;rintro e w2 ⟨rfl,⟨ps',B,hl,⟨k1,k4⟩,b⟩,a⟩;exact ⟨.nilIface,t,pg,ob,P,xs,B,ps',rfl,.inl rfl,hl,b,a.mono λj _ n=>.inr n,rfl,rfl,rfl,k1,λk q=>(k4 k q).imp id λq=>TV f.size q⟩)).mono ?_
 rintro e w' ⟨r,g,d,c,P',xs',B,ps',rfl,s,hl,b,a,rfl,rfl,rfl,m⟩;exact ⟨rfl,⟨d,c,P',ps',B,hl,m,b⟩,a⟩
omit h in
def ik.before (a:bW w0 w) (q:ik w ar v p D L G t Kind ps xs A F S e w'):ik w0 ar v p D L G t Kind ps xs A F S e w':=by
 obtain ⟨rfl,⟨pg,ob,P,ps',B,hl,⟨k1,k4⟩,c⟩,b⟩:=q;exact ⟨rfl,⟨pg,ob,P,ps',B,hl,⟨k1,λk q=>(k4 k q).imp id λq=>TV a.size q⟩,c⟩,(aa.RL a _).trans b⟩
include hv hnb hT hlo
theorem QK:ZR ZN 41 #[Z6 (ZW ⟨ar,0,ZX⟩)] w (ik w ar v p D L G t Kind ps xs A F S):=by
 have j:∀ (args:Array ZS) (w:ZT),(callFunc 59 args).run ZN w=.ok (.enter 59 args) w:=U4 func59 (by kernel_rfl) rfl;have b:bW w (w.alloc (Z4 #[Z6 (ZW ⟨ar,0,ZX⟩)] 103)):=bA w _;have a:ZO (w.alloc (Z4 #[Z6 (ZW ⟨ar,0,ZX⟩)] 103)) w.heap.size 103 (Z6 (ZW ⟨ar,0,ZX⟩)):=Ur w _ _;obtain ⟨w1,l⟩:=nM (w.alloc (Z4 #[Z6 (ZW ⟨ar,0,ZX⟩)] 103));rw [l] at b a;have c:=h.below b;have k:¬ Mv v ps F w.heap.size:=λq=>by have:=O0 h q;omega
 have g:=Gl c 59 #[Z6 (ZW ⟨w.heap.size,0,ZX⟩)] j λw2 f=>Ff (c.below f) hv hnb hT hlo ((f.block _ a.lt).trans a) k;have m:=a.cell;have H:=al g b;clear g b a c h hv;go_enter func41,ntmps41;go_wp2_with fail;refine H.o.1.mono ?_;rintro e w' d;obtain rfl:=d.1;have i:=ak (d.before H.o.2);clear d;go_wp2;go_ret;exact i.o
theorem MD (d:Nat) (hd:d<D+L+G) (m:∀ i,i≠d->A.sv.testBit i=ZV->S.testBit i=ZV):ZR ZN 39 #[Z6 (ZW ⟨ar,0,ZX⟩),Z7 Z9 d] w (ik w ar v p D L G t Kind ps xs A F S):=by
 have n:∀ (args:Array ZS) (w:ZT),(callFunc 53 args).run ZN w=.ok (.enter 53 args) w:=U4 func53 (by kernel_rfl) rfl;have b:bW w ((w.alloc (Z4 #[Z6 (ZW ⟨ar,0,ZX⟩)] 103)).alloc (Z4 #[Z7 Z9 d] 3)):=(bA w _).alloc (by simp) _;have a:ZO ((w.alloc (Z4 #[Z6 (ZW ⟨ar,0,ZX⟩)] 103)).alloc (Z4 #[Z7 Z9 d] 3)) w.heap.size 103 (Z6 (ZW ⟨ar,0,ZX⟩)):=(Ur w _ _).alloc _;have c:ZO ((w.alloc (Z4 #[Z6 (ZW ⟨ar,0,ZX⟩)] 103)).alloc (Z4 #[Z7 Z9 d] 3)) (w.heap.size+1) 3 (Z7 Z9 d):=by
  have:=Ur (w.alloc (Z4 #[Z6 (ZW ⟨ar,0,ZX⟩)] 103)) 3 (Z7 Z9 d);rwa [Ul] at this
 obtain ⟨w1,q⟩:=nM ((w.alloc (Z4 #[Z6 (ZW ⟨ar,0,ZX⟩)] 103)).alloc (Z4 #[Z7 Z9 d] 3));rw [q] at b a c;have g:=h.below b;have k:=Gl g 53 #[Z6 (ZW ⟨w.heap.size,0,ZX⟩),Z6 (ZW ⟨w.heap.size+1,0,ZX⟩)] n λw2 f=>Az (g.below f) hv hnb hT hlo d hd m ((f.block _ a.lt).trans a) ((f.block _ c.lt).trans c);have r:=a.cell;have H:=al k b;clear k b a c g h hv;go_enter func39,ntmps39;go_wp2_with fail;refine H.o.1.mono ?_;rintro e w' j;obtain rfl:=j.1;have l:=ak (j.before H.o.2);clear j;go_wp2;go_ret;exact l.o
theorem QL (hs:ZO w sa 105 (Z6 (ZW ⟨ar,0,ZX⟩))):ZR ZN 21 #[Z6 (ZW ⟨sa,0,ZX⟩)] w (ik w ar v p D L G t Kind ps xs A F S):=by
 have cs:=hs.cell;have hc:=QK h hv hnb hT hlo;clear h hv hs;go_enter func21,ntmps21;go_wp2_with fail;refine hc.mono ?_;rintro e w' ⟨rfl,a⟩;have b:=ak a;clear a;go_wp2;go_ret;exact ⟨rfl,b.o⟩
theorem ME (hs:ZO w sa 105 (Z6 (ZW ⟨ar,0,ZX⟩))) (d:Nat) (hd:d<D+L+G) (c:∀ i,i≠d->A.sv.testBit i=ZV->S.testBit i=ZV):ZR ZN 19 #[Z6 (ZW ⟨sa,0,ZX⟩),Z7 Z9 d] w (ik w ar v p D L G t Kind ps xs A F S):=by
 have cs:=hs.cell;have hc:=MD h hv hnb hT hlo d hd c;clear h hv hs;go_enter func19,ntmps19;go_wp2_with fail;refine hc.mono ?_;rintro e w' ⟨rfl,a⟩;have b:=ak a;clear a;go_wp2;go_ret;exact ⟨rfl,b.o⟩
end
end
section
def Oz (l:List qB) (k:Nat) (a:k<l.length):l[k].d.length<=gx l:=by
 have:=rm l k a;have:=CY l (k+1);omega
def QT (M:List (Nat×Nat)) (A:aB):Prop:=∀ i b,A.tn i b=ZV->(i,b)∈M
def Dg (lo:Nat->Prop) (S:Nat) (M:List (Nat×Nat)) (A:aB):Prop:=A.sv=S/\QT M A/\∀ i,i<A.n->A.lost i=ZV->lo i
def HlR (k S:Nat) (M:List (Nat×Nat)) (A:aB):Prop:=(∀ i,A.sv.testBit i=ZV->k<=i/\S.testBit i=ZV)/\QT M A/\∀ i,i<A.n->A.lost i=ZU
def Gm (M:List (Nat×Nat)) (A:aB):Prop:=(∀ i,i<A.n->A.sv.testBit i=ZU)/\QT M A
section
variable {M:List (Nat×Nat)} {A B:aB} {S:Nat}
def QT.To (h:QT M A) (k:dM A B):QT M B:=λi b q=>h i b (by rw [<- k.tn];exact q)
def Dg.To (h:Dg lo S M A) (k:dM A B):Dg lo S M B:=⟨k.sv.trans h.1,h.2.1.To k,λi a q=>h.2.2 i (k.n▸a) (by rw [<- k.lost];exact q)⟩
def Gm.To (h:Gm M A) (k:dM A B):Gm M B:=⟨λi a=>by rw [k.sv];exact h.1 i (k.n▸a),h.2.To k⟩
end
section
variable {KW w w0 wr:ZT} {C:aB->Prop} {wb D L G nb T:Nat}
def MS.turns (h:MS KW C w0 w wb D L G nb T) {k:Nat} {cs:Array ZS} (a:KW.heap[k]?=ZW (Z4 cs 58 (0,0))):w.heap[k]?=ZW (Z4 cs 58 (0,0)):=by
 obtain ⟨t,xs,Q,p,r,sa,ar,v,Kind,ps,pg,ob,P,A,F,out,want,cache,_,b,_⟩:=h;exact (b.mks k cs _ (.inr rfl) a).trans a
def MS.below (h:MS KW C w0 w wb D L G nb T) (a:bW w w'):MS KW C w0 w' wb D L G nb T:=by
 obtain ⟨t,xs,Q,p,r,sa,ar,v,Kind,ps,pg,ob,P,A,F,out,want,cache,c,b,d⟩:=h;exact ⟨t,xs,Q,p,r,sa,ar,v,Kind,ps,pg,ob,P,A,F,out,want,cache,c.below a,b.keep (iS.below a _) lR,d⟩
def Trn (w w':ZT):Prop:=∀ (k:Nat) (cs:Array ZS),w.heap[k]?=ZW (Z4 cs 58 (0,0))->w'.heap[k]?=ZW (Z4 cs 58 (0,0))
def MF {A:aB} (e:az w p A F) (f:aa (λj=>F.S j\/mkK w0 w j) w w'):Trn w w':=λk cs a=>(f.block k (T5.1 a).1 λq=>q.elim (λq=>by
 obtain ⟨cs',T',b,d⟩:=e.kind q;rw [a] at b;simp only [UD,UP] at b;have c:=b.2.1;rcases d with k|k|k|k<;>exact absurd (c.trans k) (by decide)) (mkK.no a (by decide))).trans a
def MS.Sb (h:MS KW (Gm M) w0 w wb D L G nb T) (hT:gq D L G S) (lo:Nat->Prop):MS KW (Dg lo S M) w0 w wb D L G nb T:=by
 obtain ⟨t,xs,Q,p,r,sa,ar,v,Kind,ps,pg,ob,P,A,F,out,want,cache,b,f,g,c⟩:=h;have d:∀ i,i<A.n->A.sv.testBit i=ZV->∀ {q:Prop},q:=λi a e=>by rw [c.1 i a] at e;cases e
 have hl:∀ i,i<A.n->A.lost i=ZV->∀ {q:Prop},q:=λi a e=>d i a (b.live.fine.2 i a e);exact ⟨t,xs,Q,p,r,sa,ar,v,Kind,ps,pg,ob,P,A.Sb S,F,out,want,cache,{ b with live:=b.live.Sb hT (λi a e=>hl i a e) λ_ _ i a _ e=>d i a e,nb:=b.nb },f,g,rfl,c.2,λi a e=>hl i a e⟩
def MS.here (h:MS KW (Dg lo S M) w0 w wb D L G nb T) (hd:S.testBit d=ZU):MS KW (Dg (λi=>lo i/\i≠d) S M) w0 w wb D L G nb T:=by
 obtain ⟨t,xs,Q,p,r,sa,ar,v,Kind,ps,pg,ob,P,A,F,out,want,cache,b,j,k,a,f,g⟩:=h;exact ⟨t,xs,Q,p,r,sa,ar,v,Kind,ps,pg,ob,P,A,F,out,want,cache,b,j,k,a,f,λi c e=>⟨g i c e,λq=>by
  have:=b.live.fine.2 i c e;rw [a,q,hd] at this;cases this⟩⟩
def MS.all (h:MS KW (Dg (λi=>D+L+G<=i) S M) w0 w wb D L G nb T):MS KW (HlR 0 S M) w0 w wb D L G nb T:=by
 obtain ⟨t,xs,Q,p,r,sa,ar,v,Kind,ps,pg,ob,P,A,F,out,want,cache,a,f,j,b,c,d⟩:=h;exact ⟨t,xs,Q,p,r,sa,ar,v,Kind,ps,pg,ob,P,A,F,out,want,cache,a,f,j,λi e=>⟨T8 _,b▸e⟩,c,λi g=>Wn.2 λe=>by
  have:=d i g e;have:=a.live.vol.n;omega⟩
def MS.done (h:MS KW (HlR (D+L+G) S M) w0 w wb D L G nb T):MS KW (Gm M) w0 w wb D L G nb T:=by
 obtain ⟨t,xs,Q,p,r,sa,ar,v,Kind,ps,pg,ob,P,A,F,out,want,cache,a,d,f,b,c,g⟩:=h;exact ⟨t,xs,Q,p,r,sa,ar,v,Kind,ps,pg,ob,P,A,F,out,want,cache,a,d,f,λi j=>Wn.2 λe=>by
  have:=(b i e).1;have:=a.live.vol.n;omega,c⟩
def MG {m:Nat} {tv:ZS} (h:MS KW (Dg (λ_=>lk) S M) w0 wr wb D L G nb T) (R:Mk w0 wr tv M) (K:M.length<=m) (O:S<18446744073709551616) (f:Mq) (w:ai wr q 60 f.cs) (V:m+1<=1000000) (z:0<nb) (C:nb<=1000) (at_:Int) (U:f.kind=0->lk) :
 ZR ZN 10 #[Z6 (ZW ⟨wb,0,ZX⟩),Z7 Z8 (S:Nat),Z5 (ZW ⟨q,0,ZX⟩) 1 1,Z7 Z9 at_,tv] wr λe w'=>∃ b d,e=Z3 b/\MS w' (Dg (λ_=>lk) S d) w0 w' wb D L G nb T/\Mk w0 w' b d/\d.length<=m+1/\Trn wr w':=by
 obtain ⟨t,xs,Q,p,r,sa,ar,v,Kind,ps,pg,ob,P,A,F,out,want,cache,a,J,X,l⟩:=h;have I:FW w0 wr wb D L G nb p A F M tv:=⟨⟨_,_,_,_,_,a.wbA⟩,⟨a.live.vol.arr,l.2.1⟩,R,a.live.vol.n,a.nb,a.base.size⟩;have x:wr.heap[q]?=ZW (Z4 _ 60 (0,0)):=w;refine (I4 (fl:=[f]) I a.live.vol.par z C O (λwx N=>?_) K V at_ λg W=>by rw [U5.1 W];exact U).mono ?_
 . have c:ai wx q 60 f.cs:=w.keep (N.block _ w.lt λe=>e.elim (λe=>by
    obtain ⟨cs',T',o,hc⟩:=a.live.vol.arr.kind e;rw [x] at o;simp only [UD,UP] at o;have y:=o.2.1;rcases hc with k|k|k|k<;>exact absurd (y.trans k) (by decide)) (mkK.no x (by decide)))
   refine ⟨_,_,rfl,λ_=>⟨q,0,rfl,c.lt,λi u=>?_⟩⟩;obtain rfl:i=0:=(by simp at u;omega);exact ⟨c.cell rfl,c.cell rfl,c.cell rfl,c.cell rfl,c.cell rfl⟩
 rintro e w' ⟨b,B,F',d,rfl,s,j,hl⟩;obtain ⟨E,H⟩:=a.fault J s.ru.1 j l.1;exact ⟨b,d,rfl,⟨_,_,_,_,_,_,_,_,_,_,_,_,_,_,_,_,_,_,E,H,X,j.rus.sv.trans l.1,s.ru.2,λi u e=>(j.rus.lost i e).elim (l.2.2 i (j.rus.n▸u)) And.left⟩,s.mrk,hl,MF a.live.vol.arr j.out⟩
def OA (y:∀ A B,dM A B->C A->C B) (h:MS KW C w0 w wb D L G nb T) (o:qB) (b:ZS) (hd:Bs w0 b o.d) (H:o.d.length<=100000) (hT:T<1000000) (z:D<=6) (x:8<=nb) (J:o.kind<=5) :
 ZR ZN 13 #[Z6 (ZW ⟨wb,0,ZX⟩),.agg #[Z7 Z9 o.kind,Z7 Z9 o.a,Z0 o.s,b]] w λe w'=>e=Z3 (Z1 ZV)/\MS KW C w0 w' wb D L G nb (T+1):=by
 obtain ⟨t,xs,Q,p,r,sa,ar,v,Kind,ps,pg,ob,P,A,F,out,want,cache,c,f,K,n⟩:=h;have g:∃ j m l,b=.slice j m l:=by obtain ⟨j,l,e,_⟩:=hd;exact ⟨j,_,l,e⟩
 have i:∀ (e:ZQ) (w':ZT),e=Z3 (Z1 ZV)/\MS KW (dM A) w0 w' wb D L G nb (t+1)->e=Z3 (Z1 ZV)/\MS KW C w0 w' wb D L G nb (T+1):=λe w' q=>⟨q.1,q.2.mono (by omega) λB k=>y A B k n⟩;by_cases I:o.kind<1\/6<o.kind
 . exact (I2 c f o b g I (dM.refl A)).mono i
 by_cases k1:o.kind=1
 . exact (Mn c f o b hd H (by omega) z k1).mono i
 by_cases k2:o.kind=2
 . refine (C9 c f o b g k2).mono ?_;rintro e w' ⟨rfl,_,_,_,_,_,_,u,E⟩;exact ⟨rfl,_,_,_,_,_,_,_,_,_,_,_,_,_,_,_,_,_,_,u,E,by omega,n⟩
 by_cases k3:o.kind=3
 . exact (Mj c f o b g (by omega) k3).mono i
 by_cases k4:o.kind=4
 . exact (yM c f o b g k4 (dM.refl A)).mono i
 . exact (I3 c f (by rw [c.nb];exact x) o b g (by omega)).mono i
end
section
variable {KW w0 w:ZT} {wb D L G nb t:Nat} {xs:aL} {Q:List (ByteArray×ZS)} {p r sa ar v:Nat} {Kind:aN->Prop} {ps:aN} {pg ob:ZS} {P:a8} {A:aB} {F:aK} {out want:ZS} {cache:Int} {M:List (Nat×Nat)} {S:Nat} (h:MB w0 w wb D L G nb t xs p r sa ar v Kind ps pg ob P A F out want cache) (hc:Dc KW w r Q xs out want)
include h hc
def Fg (a:8<=nb) :
 ZR ZN 11 #[Z6 (ZW ⟨wb,0,ZX⟩)] w λe w'=>e=Z3 (Z1 ZV)/\MS KW (dM A) w0 w' wb D L G nb t:=
 vh ⟨h.wbA,⟨_,rfl⟩,⟨h.live.vol.arr,h.live.vol.n,h.live.vol.par,h.cb.1,h.cb.2,by rw [h.nb];exact a,h.live.nb,h.live.vol.laid,h.live.vol.tab,h.live.vol.room,h.live.vol.g,h.live.vol.t,.inr ⟨h.live.turn,P,h.live.disk⟩,h.live.fine⟩,h.nb,h.base,h.glob,h.hK,h.wbB,h.fB⟩ hc
def yP (q:ik w ar v p D L G t Kind ps xs A F S e w'):e=Z3 .nilIface/\MS KW (Alv A S) w0 w' wb D L G nb t:=by
 obtain ⟨rfl,⟨g,f,P',ps',B,hl,⟨k1,k2⟩,a⟩,d⟩:=q;obtain ⟨c,b⟩:=h.TA d hl a.2.nb k1 k2;exact ⟨rfl,_,_,_,_,_,_,_,_,_,_,_,_,_,_,_,_,_,_,c,hc.keep b lR,TU _,a⟩
def MH (a:Dg (λ_=>False) S M A) :
 ZR ZN 21 #[Z6 (ZW ⟨sa,0,ZX⟩)] w λe w'=>e=Z3 .nilIface/\MS KW (Gm M) w0 w' wb D L G nb t:=
 (QL h.live h.shv (by have:=h.live.disk.room;omega) (lG h.live.fine.1 λi q=>(by rw [V0] at q;cases q)) (λi c=>Wn.2 (a.2.2 i c)) h.box).mono λe w' q=>by
  obtain ⟨rfl,d⟩:=yP h hc q;exact ⟨rfl,d.mono lR λB k=>⟨λi _=>by rw [k.1];exact V0 i,λi b e=>a.2.1 i b (by rw [<- k.2.tn];exact e)⟩⟩
def Fh (a:HlR d S M A) (hd:d<D+L+G) :
 ZR ZN 19 #[Z6 (ZW ⟨sa,0,ZX⟩),Z7 Z9 d] w λe w'=>e=Z3 .nilIface/\MS KW (HlR (d+1) S M) w0 w' wb D L G nb t:=
 (ME (S:=cZ A.sv d) h.live h.shv (by have:=h.live.disk.room;omega) (lG h.live.fine.1 λi q=>(by rw [ft,VK] at q;exact q.2)) a.2.2 h.box d hd λi c q=>by
  rw [ft,q,Bool.and_true,VW];have:=(a.1 i q).1;omega).mono λe w' q=>by
  obtain ⟨rfl,f⟩:=yP h hc q;refine ⟨rfl,f.mono lR λB k=>⟨λi e=>?_,λi b e=>a.2.1 i b (by rw [<- k.2.tn];exact e),λi c=>?_⟩⟩
  . rw [k.1,ft,VK,VW] at e;exact ⟨e.1,(a.1 i e.2).2⟩
  . have e:B.lost=A.lost:=k.2.lost;rw [e];exact a.2.2 i (k.2.n▸c)
def MI (a:Dg (λi=>d<=i) S M A) (hd:d<D+L+G) (m:S.testBit d=ZV) :
 ZR ZN 18 #[Z6 (ZW ⟨p,0,ZX⟩),Z7 Z9 d] w λe w'=>e=Z3 (ZZ #[])/\MS w' (Dg (λi=>d+1<=i) S M) w0 w' wb D L G nb t/\Trn w w'/\(∀ {tv},Mk w0 w tv M->Mk w0 w' tv M):=by
 refine (xL ⟨h.live.vol.arr,a.2.1⟩ d (by rw [h.live.vol.n];exact hd)).mono ?_;rintro e w' ⟨rfl,b,F',c,l⟩;have f:Fq False w0 w S A F (A.renew d) F' w':=⟨b.mono λ_ _=>.inl,nt.renew A m,l⟩;obtain ⟨j,k⟩:=h.fault hc c.1 f a.1;refine ⟨rfl,⟨_,_,_,_,_,_,_,_,_,_,_,_,_,_,_,_,_,_,j,k,TU _,a.1,c.2,λi o e=>?_⟩,MF h.live.vol.arr f.out,λq=>q.arr h.live.vol.arr b⟩;by_cases q:i=d
 . simp [aB.renew,q] at e
 . have g:A.lost i=ZV:=(by simpa [aB.renew,q] using e);have:=a.2.2 i o g;omega
end
end
def aaz (w5:ZT) (N:Nat) (sv iv:ZS) (wr:ZT):Prop:=∃ S k:Nat,sv=Z7 Z8 (S:Nat)/\S<18446744073709551616/\k<=N/\iv=Z7 Z9 (k:Nat)/\bW w5 wr
def OB (D L G:Nat) (w:ZT) (e:ZQ) (w':ZT):Prop:=∃ S:Nat,e=Z3 (Z7 Z8 (S:Nat))/\S<18446744073709551616/\gq D L G S/\bW w w'
theorem Fi (a:vG D L G) (f:Nat) (R:f<18446744073709551616) (w:ZT) :
 ZR ZN 7 #[.agg #[Z7 Z9 (D:Nat),Z7 Z9 (L:Nat),Z7 Z9 (G:Nat)],Z7 Z8 (f:Nat)] w (OB D L G w):=by
 have F:bW w (w.alloc (Z4 #[Z7 Z9 (D:Nat),Z7 Z9 (L:Nat),Z7 Z9 (G:Nat)] 27)):=bA w _;have b:ai (w.alloc (Z4 #[Z7 Z9 (D:Nat),Z7 Z9 (L:Nat),Z7 Z9 (G:Nat)] 27)) w.heap.size 27 [Z7 Z9 (D:Nat),Z7 Z9 (L:Nat),Z7 Z9 (G:Nat)]:=UC w _;obtain ⟨w1,k5⟩:=nM (w.alloc (Z4 #[Z7 Z9 (D:Nat),Z7 Z9 (L:Nat),Z7 Z9 (G:Nat)] 27));rw [k5] at F b;obtain ⟨q,hq⟩:=nM (w.heap.size);have K:=ak F;rw [hq] at b;have p0:=b.cell (j:=0) (u:=Z7 Z9 (D:Nat)) rfl;have p1:=b.cell (j:=1) (u:=Z7 Z9 (L:Nat)) rfl;have p2:=b.cell (j:=2) (u:=Z7 Z9 (G:Nat)) rfl;have k0:=DD (D:Int) (L:Int) (G:Int) w1;have M:=ak b;clear b F;go_enter func7,ntmps7;go_wp2_with fail;clear p0 p1 p2;refine k0.mono ?_;rintro e w2 ⟨rfl,p⟩;clear k0 k5;have H:=M.o.keep (p.block _ M.o.lt);have t:bW w2 (w2.alloc (Z4 #[Z7 Z9 (D:Int),Z7 Z9 (L:Int),Z7 Z9 (G:Int)] 70)):=bA w2 _;have x:ai (w2.alloc (Z4 #[Z7 Z9 (D:Int),Z7 Z9 (L:Int),Z7 Z9 (G:Int)] 70)) w2.heap.size 70 [Z7 Z9 (D:Int),Z7 Z9 (L:Int),Z7 Z9 (G:Int)]:=UC w2 _;obtain ⟨J,k6⟩:=nM (w2.alloc (Z4 #[Z7 Z9 (D:Int),Z7 Z9 (L:Int),Z7 Z9 (G:Int)] 70));rw [k6] at t x;obtain ⟨q2,ke⟩:=nM (w2.heap.size);rw [ke] at x;have v:=H.keep (t.block _ H.lt);have c0:=v.cell (j:=0) (u:=Z7 Z9 (D:Nat)) rfl;have c1:=v.cell (j:=1) (u:=Z7 Z9 (L:Nat)) rfl;have c2:=v.cell (j:=2) (u:=Z7 Z9 (G:Nat)) rfl;have Q:=ak (K.o.trans ((p.trans (t.mono p.size)).mono K.o.size));have HT:=ak x;obtain ⟨N,hN⟩:=nM (D+L+G);have O:N<=16:=by have:=a.s;omega
 have hz:ZR ZN 9 #[.agg #[Z7 Z9 (D:Nat),Z7 Z9 (L:Nat),Z7 Z9 (G:Nat)]] J λe w'=>e=Z3 (Z7 Z9 (N:Nat))/\bW J w':=by
  rw [<- hN,show ((D+L+G:Nat):Int)=(D:Int)+L+G by omega];have:=a.d;have:=a.l4;have:=a.g;exact dw (D:Int) (L:Int) (G:Int) J ⟨by omega,by omega⟩ ⟨by omega,by omega⟩ ⟨by omega,by omega⟩
 clear H v p t x;go_wp2_with fail;clear k6 c0 c1 c2;refine hz.mono ?_;rintro e w4 ⟨rfl,V⟩;have l:=ak V;clear hz V;have hy:2^N<=2^16:=UW (by decide) O;obtain ⟨X,E⟩:=nM (2^N);rw [E] at hy;have k7:(2:Int)^N=(X:Nat):=by rw [<- E,Xk];rfl
 have ka:0<X:=by rw [<- E];exact VH N
 have k8:IntKind.u64.wrap ((X:Int)-1)=((X-1:Nat):Int):=by rw [Va];omega
 have k9:IntKind.u64.wrap (X:Int)=(X:Int):=by rw [Va];omega
 have U:=fG f (X-1) R (by omega);have C:f &&& (X-1)<18446744073709551616:=WS WH R;obtain ⟨S1,T⟩:=nM (f &&& (X-1));rw [T] at U C;clear T;go_wp2_with fail;go_loopw [1,7] (λsv I wr=>aaz w4 N sv I wr) (λ_ I _=>N-(intOf I).toNat)
 case atStart=>exact ⟨S1,0,rfl,C,T8 _,rfl,TW _ _⟩
 case round=>
  clear U k7 k8 k9 hy ka C;obtain ⟨S,k,rfl,A,hk,rfl,h⟩:=hrel;have m:bW w wr:=Q.out.trans ((l.out.trans (h.mono l.out.size)).mono Q.out.size);by_cases kc:k<N
  . have y:=HT.o.keep ((h.block _ (T7 HT.o.lt l.out.size)).trans (l.out.block _ HT.o.lt));have t0:=y.cell (j:=0) (u:=Z7 Z9 (D:Int)) rfl;have t1:=y.cell (j:=1) (u:=Z7 Z9 (L:Int)) rfl;have t2:=y.cell (j:=2) (u:=Z7 Z9 (G:Int)) rfl;have hs:=pC D L G S a.r a.d a.l1 a.l4 a.g a.div A wr;have c:=al h m;have he:(k:Int)<(N:Int):=(by omega);clear h m y;go_wp2_with fail;clear t0 t1 t2;refine hs.mono ?_;rintro e w5 ⟨bb,rfl,Z,W⟩;have B:=al Z W;clear Z W hs;cases bb
    . have kb:2^k<65536:=T7 (Vx (by decide) kc) (UW (n:=2) (i:=N) (j:=16) (by decide) O);obtain ⟨Y,P⟩:=nM (2^k);rw [P] at kb;have kf:(2:Int)^k=(Y:Nat):=(by rw [<- P,Xk];rfl);have kg:IntKind.u64.wrap (Y:Int)=(Y:Int):=(by rw [Va];omega);have hv:=X4 S Y A (by omega);have hx:xS S Y<18446744073709551616:=WS (WH:xS S Y<=S) A;have hc:bits .andNot .u64 (S:Int) (Y:Int)=((xS S Y:Nat):Int):=hv;clear hv;generalize xS S Y=z at hc hx;go_wp2;go_roundw
      case rel=>exact ⟨z,k+1,rfl,hx,by omega,by go_num,c.o.1.trans (B.o.2.mono c.o.1.size)⟩
      case measure=>simp [intOf];omega
    . go_wp2;go_ret;exact ⟨S,rfl,A,B.o.1.1 (by trivial),c.o.2.trans (B.o.2.mono c.o.2.size)⟩
  . have he:¬ (k:Int)<(N:Int):=(by omega);have c:=ak m;clear h m;go_wp2;go_ret;exact ⟨0,rfl,by decide,yI a.d a.g λi _=>by rw [Nat.zero_div],c.o⟩
theorem I7 (h:vG D L G) (k6:8<=nb) (Z:nb<=1000) (c:Int) (Y:bK w) (hv:bV w) (P:aG w) (hK:3<=w.heap.size) :
 ZR ZN 16 #[.agg #[Z7 Z9 (D:Nat),Z7 Z9 (L:Nat),Z7 Z9 (G:Nat)],Z7 Z9 (nb:Nat),Z7 Z9 c] w λe w'=>∃ wb,e=Z3 (ZZ #[Z6 (ZW ⟨wb,0,ZX⟩),Z1 ZV])/\MS w (dM (pG (D+L+G) nb 0)) w w' wb D L G nb 1:=by
 obtain ⟨v,k7,y⟩:=jg c 65 (by decide) (by decide);have J:wrap64 ((IntKind.u64.wrap c).tmod 65)=(v:Int):=by simpa using y
 clear y;obtain ⟨w1,I⟩:=nM (w.alloc (Z4 #[Z7 Z9 (D:Nat),Z7 Z9 (L:Nat),Z7 Z9 (G:Nat)] 27));have z:ai w1 w.heap.size 27 [Z7 Z9 (D:Nat),Z7 Z9 (L:Nat),Z7 Z9 (G:Nat)]:=by rw [<- I];exact UC w _
 have x0:=z.cell (j:=0) (u:=Z7 Z9 (D:Nat)) rfl;have x1:=z.cell (j:=1) (u:=Z7 Z9 (L:Nat)) rfl;have x2:=z.cell (j:=2) (u:=Z7 Z9 (G:Nat)) rfl;have hs:bW w w1:=by rw [<- I];exact bA w _
 have T:=pZ (D:Int) (L:Int) (G:Int) w1 ⟨by omega,by have:=h.d;omega⟩ ⟨by omega,by have:=h.l4;omega⟩ ⟨by omega,by have:=h.g;omega⟩;have x:=al z hs;clear z hs;go_enter func16,ntmps16;go_wp2_with fail;refine T.mono ?_;rintro e w2 ⟨rfl,U⟩;have hc:bW w1 w2:=by rw [U];exact bA w1 _
 clear U I x0 x1 x2 T;have H:=zI (D+L+G) nb 0 w2 (by have:=h.d1;omega) (by have:=h.s;omega) (by omega);rw [show ((D+L+G:Nat):Int)=(D:Int)+(L:Int)+(G:Int) by omega] at H;go_wp2_with fail;refine H.mono ?_;rintro e a ⟨rfl,t,F,r,f⟩;have l:bW w w2:=x.o.2.trans (hc.mono x.o.2.size);have m:bW w a:=l.trans (t.mono l.size);have C:ai a w.heap.size 27 _:=x.o.1.keep ((t.block _ (T7 x.o.1.lt hc.size)).trans (hc.block _ x.o.1.lt));have y0:=C.cell (j:=0) (u:=Z7 Z9 (D:Nat)) rfl;have y1:=C.cell (j:=1) (u:=Z7 Z9 (L:Nat)) rfl;have y2:=C.cell (j:=2) (u:=Z7 Z9 (G:Nat)) rfl;obtain ⟨p,B⟩:=nM (w2.heap.size);rw [B] at r f ⊢;have V:=a7 r f m t B l;clear r f m t B l C H hc;dsimp only;go_wp2_with fail;obtain ⟨b,A⟩:=nM ((a.alloc (Z4 #[Z5 ZX 0 0] 38)).alloc (Z4 #[Z7 Z9 (D:Nat),Z7 Z9 (L:Nat),Z7 Z9 (G:Nat),Z6 (ZW ⟨p,0,ZX⟩),.pointer ZX,Z6 (ZW ⟨a.heap.size,0,ZX⟩),Z7 Z9 (nb:Nat),Z5 ZX 0 0,Z5 ZX 0 0,Z7 Z9 (v:Nat)] 42));have S:b.heap[a.heap.size]?=ZW (Z4 #[Z5 ZX 0 0] 38 (0,0)):=by rw [<- A];exact (UB _ _ _ (by simp)).trans (UC a _)
 have N:ij b (a.heap.size+1) D L G (Z6 (ZW ⟨p,0,ZX⟩)) (.pointer ZX) (Z6 (ZW ⟨a.heap.size,0,ZX⟩)) nb (Z5 ZX 0 0) (Z5 ZX 0 0) (v:Int):=by
  rw [<- A];have:=UC (a.alloc (Z4 #[Z5 ZX 0 0] 38)) (Z4 #[Z7 Z9 (D:Nat),Z7 Z9 (L:Nat),Z7 Z9 (G:Nat),Z6 (ZW ⟨p,0,ZX⟩),.pointer ZX,Z6 (ZW ⟨a.heap.size,0,ZX⟩),Z7 Z9 (nb:Nat),Z5 ZX 0 0,Z5 ZX 0 0,Z7 Z9 (v:Nat)] 42);rw [Ul] at this;exact this
 have E:bW a b:=by rw [<- A];exact (bA a _).alloc (by simp) _
 obtain ⟨r,f,m,t,B,l⟩:=V.o;have n:bW w b:=m.trans (E.mono m.size);have X:bW b b.drew:=(TW _ b).drew;have hj:=l.size;have hm:=m.size;have K:az b p (pG (D+L+G) nb 0) F:=r.below E lR;have O:AB w b (a.heap.size+1) D L G nb 1 p a.heap.size (.pointer ZX) [] (pG (D+L+G) nb 0) F (Z5 ZX 0 0) (Z5 ZX 0 0) (v:Int) (v:Int):=⟨N,⟨_,rfl⟩,⟨K,rfl,h,by omega,by omega,k6,Z,hv.below n hv.lt,P.keep (n.block _ P.lt),TV hK n.size,λq=>by have:=f _ q;omega,λq=>by have:=f _ q;omega,.inl ⟨rfl,rfl,λi _=>⟨rfl,λq=>(by cases q)⟩⟩,yI h.d h.g λi _=>by simp [pG],λi _ q=>(by cases q)⟩,rfl,n,Y,hK,by omega,λk hk=>by have:=f k hk;omega⟩;have Q:Dc w b a.heap.size [] [] (Z5 ZX 0 0) (Z5 ZX 0 0):=⟨⟨a.heap.size+1,Z5 ZX 0 0,S,UK _ _ _ _⟩,trivial,⟨⟨_,_,_,rfl,by decide⟩,⟨_,_,_,rfl,by decide⟩⟩,λk _ _ _ q=>n.block k (T5.1 q).1⟩;have R:=vh O Q;clear S N E r f m t B l n X hj hm K O Q;rw [A];refine R.mono ?_;rintro e w6 ⟨rfl,M⟩;have W:=ak M;clear M R A;dsimp only;go_wp2;go_ret2;exact ⟨_,rfl,W.o⟩
section
open Go.ChangeShapes Go.WideShapes Go.Joins
structure Tn where
 set:Nat
 fl:List Mq
 sc:List qB
 rep:Bool
def Tn.at (w:ZT) (t:Tn) (cs:List ZS):Prop:=∃ fv sv,cs=[Z7 Z8 (t.set:Nat),fv,sv,Z1 t.rep]/\t.set<18446744073709551616/\Fts w fv t.fl/\QQ w sv t.sc/\∀ x∈t.sc,x.s.size<=140737488355328/\x.d.length<=140737488355328
def Tns (w:ZT) (v:ZS) (l:List Tn):Prop:=
 ∃ ao c,v=.slice ao l.length c/\(l≠[]->∃ b off,ao=ZW ⟨b,off,ZX⟩/\b<w.heap.size/\∀ i (hi:i<l.length),∃ cs,l[i].at w cs/\∀ j,j<4->w.cell? ⟨b,off+i*4+j,ZX⟩=cs[j]?)
def Tryz.Sx:ZN.cellsOf 58=4:=by kernel_rfl
def Tryz.Tj:ZN.cellsOf 23=1:=by kernel_rfl
def Tryz.SV:ZN.cellsOf 4=1:=by kernel_rfl
def Tryz.Td:ZN.cellsOf 22=1:=by kernel_rfl
def Tryz.SC:ZN.cellsOf 24=1:=by kernel_rfl
instance:Inhabited Tn:=⟨⟨0,[],[],ZU⟩⟩
def vu {enc:ZP×ZS->H} {t e:ZP} {v:ZS} {x:DataW H×List MemPlace} (d:ZN.underlying t=ZW (.slice e)) (h:DataW.trod enc ZN W 0 (λ_=>ZV) ZV n t [v]=ZW x):∃ ao m c,v=.slice ao m c:=by
 rcases open_slice d h with ⟨b,_⟩|⟨a,len,cap,m,g,D,f,b,_⟩
 . exact ⟨_,_,_,by simpa using b⟩
 . exact ⟨_,_,_,by simpa using b⟩
def AA {enc:ZP×ZS->H} {cs:List ZS} {x:DataW H×List MemPlace} (h:DataW.trod enc ZN W 0 (λ_=>ZV) ZV n 58 cs=ZW x) (s:∀ k∈x.1.weights ZN 58,k<=reachBytes):∃ o:Tn×List ZS,cs=o.2/\o.1.at W cs:=by
 obtain ⟨B,e,f,C,m,rfl,hl,t,l,p,u⟩:=trod_struct4 underlying58 h;rw [Tryz.Sx] at hl;obtain ⟨a,b,c,d,rfl⟩:=Mp hl;obtain ⟨g,i,_,w0⟩:=WY underlying23 t;obtain ⟨D,j,_⟩:=DataW.trod_bool underlying4 u;rw [show ZN.cellsOf 23=1 from Tryz.Tj] at i;rw [show ZN.cellsOf 4=1 from Tryz.SV] at j;rw [show ZN.cellsOf 24=1 from Tryz.SC] at l;rw [show ZN.cellsOf 22=1 from Tryz.Td] at p;simp at i j;subst i j;have q:DataW.trod enc ZN W 0 (λ_=>ZV) ZV m 24 [b]=ZW e:=by simpa using l
 have r:DataW.trod enc ZN W 0 (λ_=>ZV) ZV m 22 [c]=ZW f:=by simpa using p
 obtain ⟨ao,G,cl,rfl⟩:=vu underlying24 q;obtain ⟨E,mk,ck,rfl⟩:=vu underlying22 r;simp only [DataW.weights,underlying58] at s;obtain ⟨fl,v⟩:=vl (d:=e.1) (ps:=e.2) ⟨m,q⟩;obtain ⟨sc,w,y⟩:=vk (d:=f.1) (ps:=f.2) ⟨m,r⟩ (λk A=>s k (by
  show k∈B.1.weights ZN _++(e.1.weights ZN _++(f.1.weights ZN 22++(C.1.weights ZN _++[])));simp only [Ui];exact .inr (.inr (.inl A))))
 have:(0:Int)<=g/\g<=18446744073709551615:=by simpa [Lit.wf,IntKind.min,IntKind.max,IntKind.bits,IntKind.signed] using w0
 obtain ⟨S,z,rfl⟩:∃ S:Nat,S<18446744073709551616/\g=(S:Int):=⟨g.toNat,by omega,by omega⟩;exact ⟨(⟨S,fl,sc,D⟩,_),rfl,_,_,rfl,z,v,w,y⟩
def wh {enc:ZP×ZS->H} {d:DataW H} {ps:List MemPlace} (h:DataW.Trod enc ZN W 0 (λ_=>ZV) ZV 54 (.slice ao len0 cap0) d ps) (w:∀ n∈d.weights ZN 54,n<=reachBytes) :
 ∃ l:List Tn,Tns W (.slice ao len0 cap0) l:=by
 obtain ⟨fuel,q⟩:=h;rcases open_slice underlying54 q with ⟨c,_⟩|⟨a,len,cap,m,N,D,L,c,_,hl,M,u,x,t⟩
 . simp [Value.cells] at c;obtain ⟨rfl,rfl,rfl⟩:=c;exact ⟨[],ZX,0,rfl,λh=>absurd rfl h⟩
 . simp [Value.cells] at c;obtain ⟨rfl,rfl,rfl⟩:=c;simp only [Xm] at x;obtain ⟨rfl,_⟩:=x;simp only [DataW.weights,underlying54] at w;simp only [if_true] at u;have A:=u.symm;subst A;rw [Tryz.Sx] at t;obtain ⟨f,q⟩:=choose_lt (α:=Tn×List ZS) (n:=len0) (p:=λi s=>s.1.at W s.2/\∀ j,j<4->W.cell? ((a.add (i*4)).add j)=s.2[j]?) (λi r=>by
    obtain ⟨cs',y,z⟩:=t i (by omega);obtain ⟨s,v,G⟩:=AA z (λk J=>w k (UJ _ (UF _ (gP (d:=D i) (T9.2 ⟨i,Uu.2 r,rfl⟩) k J))));obtain ⟨_,_,hc⟩:=abg y;exact ⟨s,v▸G,v▸hc⟩)
   obtain ⟨b,o,sp⟩:=a;refine ⟨(YE len0).map λi=>(f i).1,ZW ⟨b,o,sp⟩,cap0,by simp,λF=>?_⟩;have B:0<len0:=by
    rcases WA len0 with e|e
    . subst e;exact absurd rfl F
    . exact e
   obtain ⟨⟨_,_,c,_⟩,g⟩:=q 0 B;have g:=g 0 (by decide);rw [c] at g;have K:sp=ZX:=by
    have:W.cell? (((⟨b,o,sp⟩:Addr).add (0*4)).add 0)=ZW (Z7 Z8 ((f 0).1.set:Nat)):=g;simpa [Addr.add] using aaP this
   subst K;rw [V3,V3] at g;refine ⟨b,o,rfl,Uf (show W.cell? _=ZW _ from g),λi r=>?_⟩;have E:i<len0:=(by simpa using r);obtain ⟨C,hc⟩:=q i E;simp only [UN,YG];refine ⟨(f i).2,C,λj I=>?_⟩;have:=hc j I;rwa [V3,V3] at this
end
def MK (w:ZT) (e:ZQ) (w':ZT):Prop:=e=Z3 (Z1 ZV)/\bW w w'
def QQ.below {v:ZS} {l:List qB} (h:QQ w v l) (a:bW w w'):QQ w' v l:=by
 obtain ⟨ao,c,e,hc⟩:=h;refine ⟨ao,c,e,λhl=>?_⟩;obtain ⟨b,off,g,d,j⟩:=hc hl;refine ⟨b,off,g,T7 d a.size,λi k=>?_⟩;obtain ⟨f,m,n,o,p,q⟩:=j i k;exact ⟨f,(a.cell d).trans m,(a.cell d).trans n,(a.cell d).trans o,(a.cell d).trans p,q.mono a⟩
def HT (w0:ZT) (wb D L G n:Nat) (ok steps tv i:ZS) (wr:ZT):Prop:=∃ (k s:Nat) (M:List (Nat×Nat)),k<=n/\i=Z7 Z9 (k:Nat)/\ok=Z1 ZV/\s<=200/\steps=Z7 Z9 (s:Nat)/\Mk w0 wr tv M/\M.length<=40200*k/\MS wr (Gm M) w0 wr wb D L G 300 (1+1300*k)
def HK (w0:ZT) (wb D L G S T m n tb:Nat) (lk:Prop) (cs:List ZS) (ok tv i:ZS) (wr:ZT):Prop:=∃ (j:Nat) (M:List (Nat×Nat)),j<=n+1/\i=Z7 Z9 ((j:Int)-1)/\ok=Z1 ZV/\Mk w0 wr tv M/\M.length<=m+200*j/\MS wr (Dg (λ_=>lk) S M) w0 wr wb D L G 300 (T+j)/\ai wr tb 58 cs
def HF (w0:ZT) (wb D L G S T m n tb:Nat) (lk:Prop) (cs:List ZS) (tv i:ZS) (wr:ZT):Prop:=∃ (j:Nat) (M:List (Nat×Nat)),j<=n/\i=Z7 Z9 (j:Nat)/\Mk w0 wr tv M/\M.length<=m+j/\MS wr (Dg (λ_=>lk) S M) w0 wr wb D L G 300 T/\ai wr tb 58 cs
def HN (w0:ZT) (wb D L G S T n:Nat) (M:List (Nat×Nat)) (tv:ZS) (i:ZS) (wr:ZT):Prop:=∃ j:Nat,j<=n/\i=Z7 Z9 (j:Nat)/\Mk w0 wr tv M/\MS wr (Dg (λi=>j<=i) S M) w0 wr wb D L G 300 T
def HP (w0:ZT) (wb D L G S T n:Nat) (M:List (Nat×Nat)) (tv:ZS) (ok i:ZS) (wr:ZT):Prop:=∃ j:Nat,j<=n/\i=Z7 Z9 (j:Nat)/\ok=Z1 ZV/\Mk w0 wr tv M/\MS wr (HlR j S M) w0 wr wb D L G 300 T
def MS.mk {C:aB->Prop} {tv:ZS} (h:MS KW C w0 w wb D L G nb T) (a:Mk w0 KW tv M):Mk w0 w tv M:=xN a λk b=>by
 obtain ⟨cur,hc⟩:=bw a b;exact h.marks hc
def ai.turns {C:aB->Prop} {tb:Nat} {cs:List ZS} (h:ai KW tb 58 cs) (a:MS KW C w0 w wb D L G nb T):ai w tb 58 cs:=a.turns h
theorem I8 {tv0:ZS} {l:List Tn} (h:Tns w tv0 l) (a b c:Int) (hg:bK w) (hv:bV w) (ht:aG w) (hK:3<=w.heap.size) :
 ZR ZN 4 #[tv0,Z7 Z9 a,Z7 Z9 b,Z7 Z9 c] w (MK w):=by
 obtain ⟨ao,cp,rfl,k6⟩:=h;have H:=a5 k6 hg hv ht;clear k6 hg hv ht;go_enter func4,ntmps4;by_cases yz:l.length<=20;rotate_left
 . have hx:(20:Int)<(l.length:Int):=(by omega);go_wp2;go_ret;exact ⟨rfl,TW _ _⟩
 have hx:¬ (20:Int)<(l.length:Int):=by omega
 go_wp2_with fail;refine (Oj a b c w).mono ?_;rintro e w2 ⟨D,L,G,rfl,hP,ye,xx⟩;have H2:=al hP xx;clear hP xx hx;obtain ⟨y,xk⟩:=nM (w2.alloc (Z4 #[Z7 Z9 (D:Nat),Z7 Z9 (L:Nat),Z7 Z9 (G:Nat)] 27));have ki:bW w y:=by rw [<- xk];exact H2.o.2.alloc H2.o.2.size _
 have kj:ai y w2.heap.size 27 [Z7 Z9 (D:Nat),Z7 Z9 (L:Nat),Z7 Z9 (G:Nat)]:=by rw [<- xk];exact UC w2 _
 have p0:=kj.cell (j:=0) (u:=Z7 Z9 (D:Nat)) rfl;have p1:=kj.cell (j:=1) (u:=Z7 Z9 (L:Nat)) rfl;have p2:=kj.cell (j:=2) (u:=Z7 Z9 (G:Nat)) rfl;go_wp2_with fail;clear p0 p1 p2;obtain ⟨pb,y5⟩:=nM (w2.heap.size);rw [y5] at kj ⊢;have xy:=I7 (w:=y) (nb:=300) H2.o.1 (by omega) (by omega) 4 (H.o.2.1.below ki) (H.o.2.2.1.below ki H.o.2.2.1.lt) (H.o.2.2.2.keep (ki.block _ H.o.2.2.2.lt)) (TV hK ki.size);have Y:=al ki kj;clear ki xk kj y5;refine xy.mono ?_;rintro e w4 ⟨wb,rfl,x⟩;clear xy;have HM:=ak (show MS w4 (Gm []) y w4 wb D L G 300 1 from (x.mono lR λB hB=>⟨λi _=>by rw [hB.sv];exact V0 i,λi m q=>by rw [hB.tn] at q;cases q⟩).RS);clear x;go_wp2_with fail;go_loopw [11,12,13,14] (λok steps tv i wr=>HT y wb D L G l.length ok steps tv i wr) (λ_ _ _ i _=>l.length-(intOf i).toNat)
 case atStart=>exact ⟨0,200,[],T8 _,rfl,rfl,TU _,rfl,UK _ _ _ _,TU _,HM.o⟩
 case round=>
  clear HM;obtain ⟨k,s,M,hk,rfl,rfl,hs,rfl,I,yf,x⟩:=hrel;by_cases xd:k<l.length
  . obtain ⟨z6,off,rfl,qs,xv⟩:=H.o.1 (λe=>by rw [e] at xd;simp at xd);obtain ⟨cs,⟨fv,sv,rfl,x8,hf,kk,km⟩,ke⟩:=xv k xd;obtain ⟨⟨S0,fl,sc,C⟩,yb⟩:∃ tn,l[k]=tn:=⟨_,rfl⟩;rw [yb] at x8 hf kk km ke;dsimp only at x8 hf kk km ke;have O:bW w wr:=Y.o.1.trans (x.base.mono Y.o.1.size);have q0:=(O.cell (p:=⟨z6,off+k*4,ZX⟩) qs).trans (ke 0 (by decide));have q1:=(O.cell (p:=⟨z6,off+k*4+1,ZX⟩) qs).trans (ke 1 (by decide));have q2:=(O.cell (p:=⟨z6,off+k*4+2,ZX⟩) qs).trans (ke 2 (by decide));have q3:=(O.cell (p:=⟨z6,off+k*4+3,ZX⟩) qs).trans (ke 3 (by decide));obtain ⟨fo,fc,y1,xz⟩:=id hf;obtain ⟨so,sp,ya,qh⟩:=id kk;obtain ⟨J,qd⟩:=nM (fl.length);obtain ⟨n,qe⟩:=nM (sc.length);rw [qd] at y1;rw [qe] at ya;subst y1 ya;simp only [List.getElem?_cons_zero,List.getElem?_cons_succ] at q0 q1 q2 q3;obtain ⟨w5,qx⟩:=nM (wr.alloc (Z4 #[Z7 Z8 (S0:Nat),.slice fo J fc,.slice so n sp,Z1 C] 58));have qn:bW wr w5:=(by rw [<- qx];exact bA wr _);have xi:ai w5 wr.heap.size 58 [Z7 Z8 (S0:Nat),.slice fo J fc,.slice so n sp,Z1 C]:=(by rw [<- qx];exact UC wr _);have qa:=(x.below qn).RS;have kr:=I.below qn;have kc:bW w w5:=O.trans (qn.mono O.size);have y9:=IT (kk.below kc) km;obtain ⟨tb,R⟩:=nM (wr.heap.size);rw [R] at xi;have k5:=hide8 xi qa kr kc hf kk xz qh;have xp:=al qx R;have xe:(k:Int)<(l.length:Int):=(by omega);clear x I qn xi qa kr O kc hf kk km xz qh xv ke qx R yb;go_wp2_with fail;rw [xp.out.1,xp.out.2];refine y9.mono ?_;rintro e w6 ⟨bb,rfl,kz,ky⟩;have qi:=k5.out.1.keep (ky.block _ k5.out.1.lt);have kf:=(k5.out.2.1.below ky).RS;have ks:=k5.out.2.2.1.below ky;have q4:bW w w6:=k5.out.2.2.2.1.trans (ky.mono k5.out.2.2.2.1.size);have qf:ai w6 pb 27 _:=Y.o.2.keep (kf.base.block _ Y.o.2.lt);have x0:=qi.cell (j:=0) (u:=Z7 Z8 (S0:Nat)) rfl;have x1:=qi.cell (j:=1) (u:=.slice fo J fc) rfl;have x2:=qi.cell (j:=2) (u:=.slice so n sp) rfl;have H6:=a6 qi kf ks q4 qf;have p0:=qf.cell (j:=0) (u:=Z7 Z9 (D:Nat)) rfl;have p1:=qf.cell (j:=1) (u:=Z7 Z9 (L:Nat)) rfl;have p2:=qf.cell (j:=2) (u:=Z7 Z9 (G:Nat)) rfl;clear y9 ky qi kf ks q4 qf q0 q1 q2 q3;by_cases k0:bb=ZV/\n<=s/\J<=200;rotate_left
    . have HQ:=ak (show MK w (Z3 (Z1 ZV)) w6 from ⟨rfl,H6.o.2.2.2.1⟩);clear p0 p1 p2 x0;cases bb with
      | false=>
       go_wp2;go_ret;exact HQ.o
      | true=>
       obtain ⟨he,_⟩:=kz rfl;rw [qe] at he;have yc:IntKind.i64.wrap ((s:Int)-(n:Int))=(s:Int)-(n:Int):=(by rw [Ux];omega);by_cases km:n<=s
       . have h1:¬ (s:Int)-(n:Int)<0:=(by omega);have h2:(200:Int)<(J:Int):=by
          have:¬ J<=200:=λq=>k0 ⟨rfl,km,q⟩;omega
         clear k0 kz;go_wp2;go_ret;exact HQ.o
       . have h1:(s:Int)-(n:Int)<0:=(by omega);clear k0 kz;go_wp2;go_ret;exact HQ.o
    obtain ⟨rfl,yr,yq⟩:=k0;obtain ⟨he,xh⟩:=kz rfl;rw [qe] at he;have yc:IntKind.i64.wrap ((s:Int)-(n:Int))=((s-n:Nat):Int):=(by rw [Ux];omega);have h1:¬ ((s-n:Nat):Int)<0:=(by omega);have h2:¬ (200:Int)<(J:Int):=(by omega);clear kz;go_wp2_with fail;refine (Fi H2.o.1 S0 x8 _).mono ?_;rintro e w7 ⟨S,rfl,hS,xq,qo⟩;have HH:=ak (show HK y wb D L G S (1+1300*k) (40200*k) n tb (C=ZV) [Z7 Z8 (S0:Nat),.slice fo J fc,.slice so n sp,Z1 C] (Z1 ZV) _ (Z7 Z9 (-1)) w7 from ⟨0,M,T8 _,rfl,rfl,H6.o.2.2.1.below qo,by omega,((H6.o.2.1.below qo).Sb xq _).RS,H6.o.1.keep (qo.block _ H6.o.1.lt)⟩);clear p0 p1 p2 x0 x1 x2 qo xq yc h1 h2;go_wp2_with fail;go_loopw [11,13,18] (λok tv i wr=>HK y wb D L G S (1+1300*k) (40200*k) n tb (C=ZV) [Z7 Z8 (S0:Nat),.slice fo J fc,.slice so n sp,Z1 C] ok tv i wr) (λ_ _ i _=>n+1-(intOf i+1).toNat)
    case atStart=>exact HH.o
    case round=>
     rename ZT=>wx;clear HH;obtain ⟨j,z,hj,rfl,rfl,I,k8,x,R⟩:=hrel;by_cases yy:j<=n
     . have ym:(j:Int)-1<(n:Int):=(by omega);have x2:=R.cell (j:=2) (u:=.slice so n sp) rfl;have H7:=ak (show HF y wb D L G S (1+1300*k+j) (40200*k+200*j) J tb (C=ZV) [Z7 Z8 (S0:Nat),.slice fo J fc,.slice so n sp,Z1 C] _ (Z7 Z9 0) wx from ⟨0,z,T8 _,rfl,I,k8,x,R⟩);clear I k8 x R;go_wp2_with fail;go_loopw [13,19] (λtv i wr=>HF y wb D L G S (1+1300*k+j) (40200*k+200*j) J tb (C=ZV) [Z7 Z8 (S0:Nat),.slice fo J fc,.slice so n sp,Z1 C] tv i wr) (λ_ i _=>J-(intOf i).toNat)
       case atStart=>exact H7.o
       case round=>
        rename ZT=>U;clear H7 x2;obtain ⟨m,M3,hm,rfl,I,k9,x,R⟩:=hrel;have x1:=R.cell (j:=1) (u:=.slice fo J fc) rfl;by_cases y4:m<J
        . obtain ⟨fb,K,rfl,q7,q5⟩:=k5.out.2.2.2.2.2.2.1 (λe=>by rw [e] at qd;simp at qd;omega);obtain ⟨r0,r1,r2,r3,r4⟩:=q5 m (by rw [qd];exact y4);obtain ⟨f,y0⟩:∃ f,fl[m]'(by rw [qd];exact y4)=f:=⟨_,rfl⟩;rw [y0] at r0 r1 r2 r3 r4;have O:bW w U:=Y.o.1.trans (x.base.mono Y.o.1.size);have g0:=(O.cell (p:=⟨fb,K+m*5,ZX⟩) q7).trans r0;have g1:=(O.cell (p:=⟨fb,K+m*5+1,ZX⟩) q7).trans r1;have g2:=(O.cell (p:=⟨fb,K+m*5+2,ZX⟩) q7).trans r2;have g3:=(O.cell (p:=⟨fb,K+m*5+3,ZX⟩) q7).trans r3;have g4:=(O.cell (p:=⟨fb,K+m*5+4,ZX⟩) q7).trans r4;obtain ⟨kind,drive,block,bit,qr⟩:=f;dsimp only at g0 g1 g2 g3 g4;obtain ⟨w8,qy⟩:=nM (U.alloc (Z4 #[Z7 Z9 kind,Z7 Z9 drive,Z7 Z9 block,Z7 Z9 bit,Z7 Z9 qr] 60));have qp:bW U w8:=(by rw [<- qy];exact bA U _);have xf:ai w8 U.heap.size 60 [Z7 Z9 kind,Z7 Z9 drive,Z7 Z9 block,Z7 Z9 bit,Z7 Z9 qr]:=(by rw [<- qy];exact UC U _);obtain ⟨q,xg⟩:=nM (U.heap.size);rw [xg] at xf;have xj:=R.keep (qp.block _ R.lt);have hc:=(x.below qp).RS;have k7:=I.below qp;have yp:(m:Int)<(J:Int):=(by omega);have x6:=ak (show HF y wb D L G S (1+1300*k+j) (40200*k+200*j) J tb (C=ZV) [Z7 Z8 (S0:Nat),Z5 (ZW ⟨fb,K,ZX⟩) J fc,.slice so n sp,Z1 C] _ (Z7 Z9 ((m:Int)+1)) w8 from ⟨m+1,M3,by omega,by simp,k7,by omega,hc,xj⟩);have Z:=hide7 xf xj hc k7 k9 qy xg;clear xf xj hc k7 k9 qy xg x I R qp O r0 r1 r2 r3 r4 q5 y0;go_upto_region 23 with fail;clear g0 g1 g2 g3 g4 x1;rw [Z.o.2.2.2.2.2.1,Z.o.2.2.2.2.2.2];have y3:=Z.o.2.1.cell (j:=3) (u:=Z1 C) rfl;have z0:=Z.o.1.cell (j:=0) (u:=Z7 Z9 kind) rfl;have z4:=Z.o.1.cell (j:=4) (u:=Z7 Z9 qr) rfl;by_cases hy:qr=(j:Int)-1/\(C=ZV\/1<kind);rotate_left
          . by_cases yj:qr=(j:Int)-1
            . subst yj;have yn:¬ (1:Int)<kind:=λq=>hy ⟨rfl,.inr q⟩;obtain rfl:C=ZU:=Wn.2 λq=>hy ⟨rfl,.inl q⟩;clear hy;go_wp2;go_roundw
              case rel=>exact x6.out
              case measure=>simp only [intOf];omega
            . clear hy y3;go_wp2;go_roundw
              case rel=>exact x6.out
              case measure=>simp only [intOf];omega
          obtain ⟨rfl,hy⟩:=hy;have yd:=ak (show kind=0->C=ZV from λe=>hy.elim id λq=>by omega);have z1:=Z.o.1.cell (j:=1) (u:=Z7 Z9 drive) rfl;have z2:=Z.o.1.cell (j:=2) (u:=Z7 Z9 block) rfl;have z3:=Z.o.1.cell (j:=3) (u:=Z7 Z9 bit) rfl;obtain ⟨w9,qz⟩:=nM (w8.alloc (Z4 #[Z7 Z9 kind,Z7 Z9 drive,Z7 Z9 block,Z7 Z9 bit,Z7 Z9 ((j:Int)-1)] 60));have qq:bW w8 w9:=(by rw [<- qz];exact bA w8 _);have y7:ai w9 w8.heap.size 60 (Mq.cs ⟨kind,drive,block,bit,(j:Int)-1⟩):=(by rw [<- qz];exact UC w8 _);have kx:=MG (Z.o.2.2.1.below qq).RS (Z.o.2.2.2.1.below qq) Z.o.2.2.2.2.1 hS _ y7 (by omega) (by omega) (by omega) ((j:Int)-1) yd.out;have H9:=aE kx qz (Z.o.2.1.keep (qq.block _ Z.o.2.1.lt));clear kx qz qq y7;have ys:C=ZV\/C=ZU/\1<kind:=by
           cases C
           . exact .inr ⟨rfl,hy.elim (λq=>by cases q) id⟩
           . exact .inl rfl
          clear hy;rcases ys with rfl|⟨rfl,yn⟩;all_goals
           clear x6;go_wp2_with fail;rw [H9.o.2.1];refine H9.o.1.mono ?_;rintro e E ⟨z7,M4,rfl,hh,kp,kv,qm⟩;have qk:=a5 hh kp kv (qm _ _ H9.o.2.2);clear hh kp kv qm;go_wp2;go_roundw
           case rel=>exact ⟨m+1,M4,by omega,by simp,qk.out.2.1,by have:=qk.out.2.2.1;omega,qk.out.1,qk.out.2.2.2⟩
           case measure=>simp only [intOf];omega
        . have yp:¬ (m:Int)<(J:Int):=(by omega);have hq:∀ E,MS U (Dg (λ_=>C=ZV) S M3) y E wb D L G 300 (1+1300*k+j+1)->HK y wb D L G S (1+1300*k) (40200*k) n tb (C=ZV) [Z7 Z8 (S0:Nat),.slice fo J fc,.slice so n sp,Z1 C] (Z1 ZV) _ (Z7 Z9 ((j:Int)-1+1)) E:=λE hz=>⟨j+1,M3,by omega,by simp,rfl,hz.mk I,by omega,hz.RS.mono (by omega) λ_ q=>q,R.turns hz⟩;have x2:=R.cell (j:=2) (u:=.slice so n sp) rfl;have x4:=a5 x I R hq;have x7:=ak (hq U (x.mono (by omega) λ_ q=>q));clear x I R hq k9;by_cases yk:j=0
          . subst yk;clear x2;go_wp2;go_roundw
            case rel=>exact x7.out
            case measure=>simp only [intOf];omega
          obtain ⟨j',rfl⟩:∃ j',j=j'+1:=⟨j-1,by omega⟩;have ej:((j'+1:Nat):Int)-1=(j':Int):=(by omega);obtain ⟨sb,W,rfl,qv,qg⟩:=k5.out.2.2.2.2.2.2.2 (λe=>by rw [e] at qe;simp at qe;omega);obtain ⟨dv,r1,r2,r3,r4,r5⟩:=qg j' (by omega);have xa:(sc[j']'(by omega)).d.length<=100000:=TV (Oz sc j' (by omega)) xh;obtain ⟨o,ho⟩:=nM (sc[j']'(by omega));rw [ho] at r1 r2 r3 r5 xa;have O:bW w U:=Y.o.1.trans (x4.out.1.base.mono Y.o.1.size);have g0:=(O.cell (p:=⟨sb,W+j'*4,ZX⟩) qv).trans r1;have g1:=(O.cell (p:=⟨sb,W+j'*4+1,ZX⟩) qv).trans r2;have g2:=(O.cell (p:=⟨sb,W+j'*4+2,ZX⟩) qv).trans r3;have g3:=(O.cell (p:=⟨sb,W+j'*4+3,ZX⟩) qv).trans r4;rw [ej] at x7 ⊢;have xo:=ak (λh5=>OA (λA B k q=>Dg.To q k) x4.out.1 o dv (r5.mono Y.o.1) xa (by omega) ye (by omega) h5);clear r1 r2 r3 r4 r5 xa O qg ho;obtain ⟨z5,oa,os,od⟩:=o;dsimp only at g0 g1 g2 xo;by_cases xc:z5<=5;rotate_left
          . have yo:¬ z5<=5:=xc;clear xc g1 g2 g3;go_wp2;go_roundw
            case rel=>exact x7.out
            case measure=>simp only [intOf];omega
          go_wp2_with fail;refine (xo.out xc).mono ?_;rintro e E ⟨rfl,hh⟩;have HX:=ak (x4.out.2.2.2 E hh);rw [ej] at HX;clear hh g0 g1 g2 g3 x2;go_wp2;go_roundw
          case rel=>exact HX.o
          case measure=>simp only [intOf];omega
     . have ym:¬ (j:Int)-1<(n:Int):=(by omega);have x2:=R.cell (j:=2) (u:=.slice so n sp) rfl;have x3:=R.cell (j:=3) (u:=Z1 C) rfl;obtain ⟨ta,tc,yv⟩:=bj I;subst yv;have q6:∀ E U,MS E (Gm z) y E wb D L G 300 (1+1300*k+j)->Mk y E (.slice ta z.length tc) z->MS E (Gm z) y U wb D L G 300 (1+1300*k+j+1002)->HT y wb D L G l.length (Z1 ZV) (Z7 Z9 ((s-n:Nat):Int)) (.slice ta z.length tc) (Z7 Z9 ((k:Int)+1)) U:=λE U _ h2 h3=>⟨k+1,s-n,z,by omega,by simp,rfl,by omega,rfl,h3.mk h2,by omega,h3.RS.mono (by omega) λ_ q=>q⟩;have ko:=ak q6;have kg:=al x I;clear x I R q6 k8;cases C with
       | false=>
        obtain ⟨t,xs,Q,p,r,sa,ar,v,Kind,ps,pg,ob,P,A,F,out,want,cache,V,hC,ht,hA⟩:=id kg.out.1;have s1:=V.wbA.cells.2.2.2.2.1;have HS:=al (MH V hC (S:=S) (M:=z) ⟨hA.1,hA.2.1,λi hi e=>by have:=hA.2.2 i hi e;cases this⟩) ht;clear V hC ht hA;go_wp2_with fail;refine HS.o.1.mono ?_;rintro e U ⟨rfl,q9⟩;have hr:=ak (q9.mono HS.o.2 λ_ q=>q);clear q9 HS s1 x2 x3;go_wp2_with fail;refine (ll _).mono ?_;rintro e E ⟨rfl,hb⟩;have ha:=hr.out.below hb;have T:=al ha.RS (ha.mk kg.out.2);have kh:=ak (E9 ha.RS λA B k q=>Gm.To q k);clear hb ha hr kg;go_wp2_with fail;refine kh.out.mono ?_;rintro e wu ⟨rfl,qc⟩;have HQ:=ak qc;clear qc kh;go_wp2;go_roundw
        case rel=>exact ko.out E wu T.out.1 T.out.2 HQ.o
        case measure=>simp only [intOf];omega
       | true=>
        obtain ⟨N,hN⟩:=nM (D+L+G);have yg:N<=16:=(by rw [<- hN];exact H2.o.1.s);have y8:∀ X,ZR ZN 9 #[.agg #[Z7 Z9 (D:Nat),Z7 Z9 (L:Nat),Z7 Z9 (G:Nat)]] X λe w'=>e=Z3 (Z7 Z9 (N:Nat))/\bW X w':=λX=>by
         rw [<- hN,show ((D+L+G:Nat):Int)=(D:Int)+L+G by omega];have:=H2.o.1.d;have:=H2.o.1.l4;have:=H2.o.1.g;exact dw (D:Int) (L:Int) (G:Int) X ⟨by omega,by omega⟩ ⟨by omega,by omega⟩ ⟨by omega,by omega⟩
        have q8:∀ (X:ZT) (d:Nat),d<=16->ZR ZN 17 #[Z7 Z8 (S:Nat),Z7 Z9 (d:Nat)] X λe w'=>e=Z3 (Z1 (S.testBit d))/\w'=X:=λX d hd=>(rZ S d hS (by omega) X).mono λe w' h=>⟨by rw [h.1,Wu];rcases VG (S/2^d) with e|e<;>rw [e]<;>rfl,h.2⟩;have y6:∀ E,bW y E->E.cell? ⟨pb,0,ZX⟩=ZW (Z7 Z9 (D:Nat))/\E.cell? ⟨pb,1,ZX⟩=ZW (Z7 Z9 (L:Nat))/\E.cell? ⟨pb,2,ZX⟩=ZW (Z7 Z9 (G:Nat)):=λE hb=>by
         have hp:ai E pb 27 _:=Y.o.2.keep (hb.block _ Y.o.2.lt);exact ⟨hp.cell (j:=0) rfl,hp.cell (j:=1) rfl,hp.cell (j:=2) rfl⟩
        have HU:=a5 y8 q8 y6 hN;have xm:=ak (show HN y wb D L G S (1+1300*k+j) N z (.slice ta z.length tc) (Z7 Z9 0) wx from ⟨0,T8 _,rfl,kg.out.2,kg.out.1.mono lR λA q=>⟨q.1,q.2.1,λi _ _=>T8 i⟩⟩);clear y8 q8 y6 hN kg;go_wp2_with fail;go_loopw [21] (λi wr=>HN y wb D L G S (1+1300*k+j) N z (.slice ta z.length tc) i wr) (λi _=>N-(intOf i).toNat)
        case atStart=>exact xm.out
        case round=>
         rename ZT=>U;clear xm x2 x3;obtain ⟨d,hd,rfl,I,x⟩:=hrel;obtain ⟨p0,p1,p2⟩:=HU.o.2.2.1 U x.base;have hr:=al I x;clear I x;go_wp2_with fail;refine (HU.o.1 _).mono ?_;rintro e w1 ⟨rfl,ka⟩;have T:=al (hr.out.1.below ka) (hr.out.2.below ka).RS;clear p0 p1 p2 ka hr;by_cases yi:d<N
         . have yh:(d:Int)<(N:Int):=(by omega);go_wp2_with fail;refine (HU.o.2.1 _ d (by omega)).mono ?_;rintro e w2 ⟨rfl,qj⟩;obtain rfl:w1=w2:=qj.symm;clear qj;by_cases h6:S.testBit d=ZV
           . rw [h6];obtain ⟨t,xs,Q,p,r,sa,ar,v,Kind,ps,pg,ob,P,A,F,out,want,cache,V,hC,ht,hA⟩:=id T.out.2;have c3:=V.wbA.cells.2.2.2.1;have HR:=al (MI V hC hA (by rw [HU.o.2.2.2];exact yi) h6) ht;clear V hC ht hA h6;go_wp2_with fail;refine HR.o.1.mono ?_;rintro e E ⟨rfl,hn,qm,y2⟩;have HX:=ak (show HN y wb D L G S (1+1300*k+j) N z (.slice ta z.length tc) (Z7 Z9 ((d:Int)+1)) E from ⟨d+1,by omega,by simp,y2 T.out.1,hn.mono HR.o.2 λ_ q=>q⟩);clear hn qm y2 HR c3;go_wp2;go_roundw
             case rel=>exact HX.o
             case measure=>simp only [intOf];omega
           . have kb:S.testBit d=ZU:=Wn.2 h6;rw [kb];have HX:=ak (show HN y wb D L G S (1+1300*k+j) N z (.slice ta z.length tc) (Z7 Z9 ((d:Int)+1)) w1 from ⟨d+1,by omega,by simp,T.out.1,(T.out.2.here kb).mono lR λA q=>⟨q.1,q.2.1,λi hi e=>by have:=q.2.2 i hi e;omega⟩⟩);clear h6 kb;go_wp2;go_roundw
             case rel=>exact HX.o
             case measure=>simp only [intOf];omega
         . have yh:¬ (d:Int)<(N:Int):=(by omega);have xn:=ak (show HP y wb D L G S (1+1300*k+j) N z (.slice ta z.length tc) (Z1 ZV) (Z7 Z9 0) w1 from ⟨0,T8 _,rfl,rfl,T.out.1,by
            have h:=T.out.2;obtain rfl:d=N:=(by omega);rw [<- HU.o.2.2.2] at h;exact h.all⟩)
           clear T;go_wp2_with fail;go_loopw [11,23] (λok i wr=>HP y wb D L G S (1+1300*k+j) N z (.slice ta z.length tc) ok i wr) (λ_ i _=>N-(intOf i).toNat)
           case atStart=>exact xn.out
           case round=>
            rename ZT=>wv;clear xn;obtain ⟨d2,yx,rfl,rfl,I,x⟩:=hrel;obtain ⟨p0,p1,p2⟩:=HU.o.2.2.1 wv x.base;have hr:=al I x;clear I x;go_wp2_with fail;refine (HU.o.1 _).mono ?_;rintro e w1 ⟨rfl,ka⟩;have T:=al (hr.out.1.below ka) (hr.out.2.below ka).RS;clear p0 p1 p2 ka hr;by_cases xb:d2<N
            . have x9:(d2:Int)<(N:Int):=(by omega);go_wp2_with fail;refine (HU.o.2.1 _ d2 (by omega)).mono ?_;rintro e w2 ⟨rfl,qj⟩;obtain rfl:w1=w2:=qj.symm;clear qj;by_cases h6:S.testBit d2=ZV
              . rw [h6];obtain ⟨t,xs,Q,p,r,sa,ar,v,Kind,ps,pg,ob,P,A,F,out,want,cache,V,hC,ht,hA⟩:=id T.out.2;have c4:=V.wbA.cells.2.2.2.2.1;have HR:=al (Fh V hC hA (by rw [HU.o.2.2.2];exact xb)) ht;clear V hC ht hA h6;go_wp2_with fail;refine HR.o.1.mono ?_;rintro e E ⟨rfl,hn⟩;have x5:=ak (hn.mono HR.o.2 λ_ q=>q);clear hn HR c4;go_wp2_with fail;refine (ll _).mono ?_;rintro e wu ⟨rfl,hb⟩;have HX:=ak (show HP y wb D L G S (1+1300*k+j) N z (.slice ta z.length tc) (Z1 ZV) (Z7 Z9 ((d2:Int)+1)) wu from ⟨d2+1,by omega,by simp,rfl,(x5.out.below hb).mk T.out.1,(x5.out.below hb).RS⟩);clear hb x5;go_wp2;go_roundw
                case rel=>exact HX.o
                case measure=>simp only [intOf];omega
              . have kb:S.testBit d2=ZU:=Wn.2 h6;rw [kb];have HX:=ak (show HP y wb D L G S (1+1300*k+j) N z (.slice ta z.length tc) (Z1 ZV) (Z7 Z9 ((d2:Int)+1)) w1 from ⟨d2+1,by omega,by simp,rfl,T.out.1,T.out.2.mono lR λA q=>⟨λi e=>⟨(by
                 have q1:=q.1 i e;rcases XX d2 i with c|c
                 . exact c
                 . obtain rfl:i=d2:=(by omega);rw [kb] at q1;cases q1.2),(q.1 i e).2⟩,q.2⟩⟩)
                clear h6 kb;go_wp2;go_roundw
                case rel=>exact HX.o
                case measure=>simp only [intOf];omega
            . have x9:¬ (d2:Int)<(N:Int):=(by omega);have ha:MS w1 (Gm z) y w1 wb D L G 300 (1+1300*k+j):=by
               have h:=T.out.2;obtain rfl:d2=N:=(by omega);rw [<- HU.o.2.2.2] at h;exact h.done
              have kh:=al (E9 ha λA B k q=>Gm.To q k) ha;clear ha;go_wp2_with fail;refine kh.out.1.mono ?_;rintro e wu ⟨rfl,qc⟩;have HQ:=ak (ko.out w1 wu kh.out.2 T.out.1 qc);clear qc kh;go_wp2;go_roundw
              case rel=>exact HQ.o
              case measure=>simp only [intOf];omega
  . have xe:¬ (k:Int)<(l.length:Int):=(by omega);obtain ⟨t,xs,Q,p,r,sa,ar,v,Kind,ps,pg,ob,P,A,F,out,want,cache,V,hC,ht,hA⟩:=x;have HO:=al (Fg V hC (by omega)) hA;clear V hC ht hA I yf;go_wp2_with fail;refine HO.o.1.mono ?_;rintro e w7 ⟨rfl,qb⟩;have HB:=ak (E9 (qb.mono lR λB hB=>HO.o.2.To hB) λA B k q=>Gm.To q k);clear HO qb;go_wp2_with fail;refine HB.o.mono ?_;rintro e w8 ⟨rfl,hc⟩;have HF:=ak hc.base;clear HB hc;go_wp2;go_ret;exact ⟨rfl,Y.o.1.trans (HF.o.mono Y.o.1.size)⟩
