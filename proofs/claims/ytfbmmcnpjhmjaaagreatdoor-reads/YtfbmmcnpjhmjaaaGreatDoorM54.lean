import Derived.Test.YtfbmmcnpjhmjaaaGreatDoorM53
set_option maxRecDepth 100000
set_option maxHeartbeats 8000000
open Go.IntKind renaming i64 -> Z9
open Go.Value renaming int -> Z8, pointer -> Z7, slice -> Z6, string -> Z4
open Go.Ending renaming returned -> Z5
open Option renaming none -> Z3, some -> Z2
open Go renaming World -> Z1, Value -> Z0
open Go.RowKit renaming Below -> ZZ
open Nat renaming le_refl -> Tm, le_trans -> Tn, zero_le -> Tp, div_le_self -> Tu, mul_le_mul -> Tv
open List renaming mem_map -> To, getElem_mem -> Tq, length_map -> Tr, getD_eq_getElem?_getD -> Ts, getElem?_eq_getElem -> Tt
open Int renaming natCast_mul -> Tw
open Go.Proofs.Tryz renaming prog -> ZY
namespace Go.Proofs.YtfbmmcnpjhmjaaaGreatDoor
open Go.RowKit Go.Deep Gf
variable {A:aB} {x:ByteArray} {Q:List (ByteArray×Z0)} {D L G nb:Nat} {xs:bg} {wx w w0:Z1}
section
theorem OQ {base:Nat} {u rr:Z0} (A:qS xs x base u rr wx) (d:jf wx Q xs) (r:Up xs.names) (z:∀ x∈xs,kX D x) :
 ∃ n c l,P9 rr n/\(∀ e,Oy Q x e->e=Z5 (.tuple #[c,Z8 Z9 n]))/\Ow wx u l/\Ow wx c l/\(n=0\/(n≠0/\u=Z6 Z3 0 0)):=by
 have m:=nD x;have B:=kM d x;rcases A with ⟨g,h,b⟩|⟨g,h,b,v⟩|⟨g,b,a,j,s,ho⟩
 . refine ⟨6,Z6 Z3 0 0,[],.inl g,λe i=>?_,h▸Ow.nil _,Ow.nil _,.inr ⟨by decide,h⟩⟩;rcases i with ⟨_,f⟩|⟨q,_⟩|⟨q,_⟩
   . exact f
   . rw [m,b] at q;cases q
   . rw [m,b] at q;cases q
 . refine ⟨9,Z6 Z3 0 0,[],.inl g,λe i=>?_,h▸Ow.nil _,Ow.nil _,.inr ⟨by decide,h⟩⟩;rcases i with ⟨q,_⟩|⟨_,_,f⟩|⟨_,k,q,_⟩
   . exact absurd (m.2 b) q
   . exact f
   . exact absurd (fV d r q).2.2 v
 . have p:a<Q.length:=(by rw [d.len];exact j);obtain ⟨G,F⟩:=d.at a p j;have o:=z _ (Tq j);have w:x∈xs.names:=(by rw [<- s];exact To.2 ⟨xs[a].1,To.2 ⟨xs[a],Tq j,rfl⟩,rfl⟩);refine ⟨0,Q[a].2,xs[a].2,.inr ⟨g,rfl⟩,λe i=>?_,⟨⟨base,ho⟩,o.byt,by rw [o.len];exact o.fit.size⟩,F,.inl rfl⟩;rcases i with ⟨q,_⟩|⟨_,q,_⟩|⟨_,k,q,f⟩
   . exact absurd (m.2 b) q
   . exact absurd w (B.1 q)
   . have E:=(fV d r q).1;have C:a<xs.names.length:=(by rw [<- d.names];unfold cy;rw [Tr];exact p);have y:=fy r C (x:=x) (by simpa [bg.names,aZ,bg.os] using s);have t:k=a:=E.symm.trans y;subst t;rw [f,Ts,Tt p];rfl
def GX (D:Nat) (x:ByteArray) (xs:bg) (A:aB):Prop:=∃ c:Nat->Nat,(∀ i,A.reads i=(c i:Int))/\sm c A.n<=tY D xs x*D
theorem PY:¬ BM 40:=by unfold BM;decide
section
variable {wz w0 w:Z1} {wb D L G nb t:Nat} {xs:bg} {Q:List (ByteArray×Z0)} {p r sa ar v:Nat} {Kind:dD->Prop} {ok:Nat->Prop} {ps:dD} {pg ob:Z0} {P:List Nat} {A:aB} {F:bx} {out want:Z0} {cache:Int}
theorem KW (h:MB w0 w wb D L G nb t xs p r sa ar v Kind ok ps pg ob P A F out want cache) (n:Dc wz w r Q xs out want) (o:oS) (j:Z0) (g:Bs w0 j o.d) (B:o.d.length<=100000) (E:t+1<=1000000) (z:D<=6) (H:o.kind=1) :
 Calls ZY 11 #[Z7 (Z2 ⟨wb,0,Z3⟩),.agg #[Z8 Z9 o.kind,Z8 Z9 o.a,Z4 o.s,j]] w λe w'=>e=Z5 (.bool true)/\MS Kind ok (λ_ _=>True) wz w0 w' wb D L G nb (t+1):=by
 obtain ⟨x,y,C,_⟩:=id g;subst C;obtain ⟨m,q⟩:=nM (o.d.length);rw [q] at g ⊢;obtain ⟨w1,l⟩:=nM (w.alloc (.cells #[Z8 Z9 o.kind,Z8 Z9 o.a,Z4 o.s,.slice x m y] 40));have f:=PX h n o _ l;have i:=KV f.b f.c o _ g B E z;obtain ⟨I,J,K,M⟩:=f.op.cells;clear f h n g q;rw [H] at I l i ⊢;go_enter Tryz.func11,Tryz.ntmps11;go_wp2_with fail;refine i.mono ?_;rintro e w2 ⟨rfl,k⟩;have u:=hide k;clear k i;go_wp2;go_ret;exact ⟨rfl,u.out⟩
theorem KX (h:MB w0 w wb D L G nb t xs p r sa ar v Kind ok ps pg ob P A F out want cache) (hc:Dc wz w r Q xs out want) (o:oS) (dv:Z0) (ky:∃ W m X,dv=.slice W m X) (hk:o.kind=2) (h0:∀ i,A.reads i=0) :
 Calls ZY 11 #[Z7 (Z2 ⟨wb,0,Z3⟩),.agg #[Z8 Z9 o.kind,Z8 Z9 o.a,Z4 o.s,dv]] w λe w'=>e=Z5 (.bool true)/\MS Kind ok (GX D o.s) wz w0 w' wb D L G nb (t+1):=by
 obtain ⟨W,m,X,rfl⟩:=ky;obtain ⟨w1,kc⟩:=nM (w.alloc (.cells #[Z8 Z9 o.kind,Z8 Z9 o.a,Z4 o.s,.slice W m X] 40));have d:=PX h hc o _ kc;have hq:ZZ w1.heap.size w1 w1.drew:=(Below.refl _ w1).drew;have k9:=d.b.below hq;have hy:=QS k9.box k9.live k9.shv o.s;obtain ⟨x0,x1,x2,x3⟩:=d.op.cells;have s1:=d.b.wbA.cells.2.2.2.2.1;obtain ⟨q0,U⟩:=nM (w.heap.size);have HS:=hide2 d U;clear d h hc hq k9;rw [hk] at x0 kc ⊢;rw [U] at x0 x1 x2 x3;have HK:=hide hk;clear hk;go_enter Tryz.func11,Tryz.ntmps11;go_upto_region 5 with fail;clear U kc x0 x1 x3;go_cut [5,6] from 21 to 233 (λv5 v6 wx=>DW w1.drew ar v p Kind ok ps D L G t xs A F o.s (Z5 (.tuple #[v5,v6])) wx)
 case first=>
  go_region_with (go_at_call 17;refine hy.mono ?_;rintro e w2 kb;obtain ⟨uu,rr,_,_,_,_,_,rfl,_⟩:=id kb;have V:=hide kb;clear kb);all_goals (go_wp2_with fail;go_meet;case rel=>exact V.out)
 case rest=>
  obtain ⟨u,rr,rs,q6,q5,q4,P',he,⟨kj,k8,k7,_,hs⟩,ke,kh⟩:=hcut;cases he;obtain ⟨d,U⟩:=HS.out;have hq:ZZ w1.heap.size w1 w1.drew:=(Below.refl _ w1).drew;have hf:aa (λj=>j=ar\/F.has p A.n j\/j=v\/ps.bl j) w1 wc:=(aa.of_all hq _).trans ke;obtain ⟨g,ki⟩:=d.b.callK hf kj rfl rfl k8 hs;have T:GX D o.s xs (A.rd rs):=by
   obtain ⟨c,q1,q2⟩:=k7 h0;exact ⟨c,λi=>(q1 i).1,q2⟩
  have x:=d.c.keep ki lR;have B:kN wc q0 o (.slice W m X):=by
   rw [<- U];exact aw.keep d.op (hf.block _ d.lt (λe=>by
    rcases e with e|e|e|e
    . have:=d.ar;omega
    . have:=d.f _ e;omega
    . have:=d.ar;have:=d.b.live.vlt;omega
    . exact eG d.b.live.kit d.op PY e))
  obtain ⟨n,cv,l,hN,I,z,y,J⟩:=OQ kh x.rel g.live.disk.up g.live.disk.fits;have ko:=tZ hN g.gl;obtain ⟨⟨C,H,E,hu,_⟩,_⟩:=z.sl;obtain ⟨⟨M,O,N,kx,_⟩,_⟩:=y.sl;subst hu kx;have V:=hide8 g x B I z y J T;clear T k8 k7 hs d U hq hf g ki x B hN I z y J kj ke kh hy x2 s1;go_wp2_with fail;refine ko.mono ?_;rintro e K ⟨rfl,Z⟩;clear ko;obtain ⟨g,x,B,I,z,y,J,T⟩:=V.out;have h3:=g.below Z;have ka:=x.keep (gY.below Z _) lR;have kf:kN K q0 o (.slice W m X):=aw.keep B (Z.block _ (aw.lt B));have y3:=kf.cells.2.2.1;have r3:=h3.wbA.cells.2.2.2.2.2.1;have kg:Q.length<=1000000:=by
   rw [ka.rel.len];have:=h3.live.few.1;have e:xs.os.length=xs.length:=(by simp [bg.os]);omega
  have kk:∀ k,Calls ZY 12 #[Z7 (Z2 ⟨r,0,Z3⟩),Z4 o.s] (K.drewN k) λe w'=>e=Z5 (.tuple #[.slice M O N,Z8 Z9 n])/\w'=K.drewN k:=λk=>by
   have ks:ZZ K.heap.size K (K.drewN k):=⟨rfl,rfl,rfl,Tm _,λ_ _=>rfl⟩;obtain ⟨rb,rv,hr⟩:=(ka.keep (gY.below ks _) lR).ref;exact (tI hr kg o.s).mono λe w' q=>⟨I e q.2,q.1⟩
  have H3:=hide4 h3 ka kk Z;clear g x B I z y J h3 ka kf kg kk Z;go_upto_region 7 with fail;go_quiet ((go_at_call 12;refine Calls.quiet_of_same (H3.out.2.2.1 _)));clear y3 r3;have hm:ZZ wc.heap.size wc (K.drewN nq):=H3.out.2.2.2.trans ⟨rfl,rfl,rfl,Tm _,λ_ _=>rfl⟩;obtain ⟨w4,kp⟩:=nM (K.drewN nq);rw [kp] at hm ⊢;clear kp;obtain ⟨g,x,B,I,z,y,J,T⟩:=V.out;have k5:=z.keep (Kd.below hm _ _);have hz:=y.keep (Kd.below hm _ _);have km:=D3 _ _ l w4 k5.bs hz.bs;have H4:=hide hm;clear hm g x B I z y J k5 hz;go_wp2_with fail;refine km.mono ?_;rintro e R ⟨rfl,m5,kr⟩;have hp:ZZ wc.heap.size wc R:=H4.out.trans (by rw [kr];exact ⟨rfl,rfl,rfl,Tm _,λ_ _=>rfl⟩);clear kr km;obtain ⟨g,x,B,I,z,y,J,T⟩:=V.out;have h5:=g.below hp;have hv:=x.keep (gY.below hp _) lR;have k6:=z.keep (Kd.below hp _ _);have k0:=y.keep (Kd.below hp _ _);have Y:=h5.wbA;obtain ⟨_,_,_,_,_,_,_,c7,c8,_⟩:=Y.cells;have f7:=aw.thaw Y 7;have f8:=aw.thaw Y 8;obtain ⟨lo,hb,hd⟩:=hv.ow;obtain ⟨oa,om,oc,rfl⟩:∃ oa om oc,out=.slice oa om oc:=by obtain ⟨⟨C,H,E,e,_⟩,_⟩:=hb.sl;exact ⟨C,H,E,e⟩
  obtain ⟨wa,wm,wd,rfl⟩:∃ wa wm wd,want=.slice wa wm wd:=by obtain ⟨⟨C,H,E,e,_⟩,_⟩:=hd.sl;exact ⟨C,H,E,e⟩
  have hx:MS Kind ok (GX D o.s) wz w0 ((R.setCell ⟨wb,7,Z3⟩ (.slice C H E)).setCell ⟨wb,8,Z3⟩ (.slice M O N)) wb D L G nb (t+1):=by
   have hO:aa (λj=>j=wb) R ((R.setCell ⟨wb,7,Z3⟩ (.slice C H E)).setCell ⟨wb,8,Z3⟩ (.slice M O N)):=(aa.setCell (S:=λj=>j=wb) R ⟨wb,7,Z3⟩ _ rfl).trans (aa.setCell (S:=λj=>j=wb) _ ⟨wb,8,Z3⟩ _ rfl);have hW:nB ((R.setCell ⟨wb,7,Z3⟩ (.slice C H E)).setCell ⟨wb,8,Z3⟩ (.slice M O N)) wb D L G (Z7 (Z2 ⟨p,0,Z3⟩)) (Z7 (Z2 ⟨sa,0,Z3⟩)) (Z7 (Z2 ⟨r,0,Z3⟩)) nb (.slice C H E) (.slice M O N) cache:=aw.set Y 7 [.slice C H E,.slice M O N] (by simp [PP]);obtain ⟨h6,kz⟩:=h5.write hO hW;have kv:Dc wz R r Q xs (.slice C H E) (.slice M O N):=⟨hv.op,hv.ref,hv.rel,l,k6,k0⟩;exact ⟨_,_,_,_,_,_,_,_,_,_,_,_,_,_,_,_,_,h6,kv.keep kz lR,by omega,T⟩
  have HF:=hide hx;clear hx g x B I z y h5 hv k6 k0 Y hb hd hp;rcases J with rfl|⟨hn,hu⟩
  . go_wp2_with fail;refine (od 0 _).mono ?_;rintro e w8 ⟨rfl,rfl⟩;go_wp2;go_ret;exact ⟨rfl,HF.out⟩
  . cases hu;have q3:=λwx=>Lib.run_eql_slice_nil (P:=ZY) wx 34 5 Z3 0 0 0 0 Tryz.underlying34;go_wp2_with fail;refine (od n _).mono ?_;rintro e w8 ⟨rfl,rfl⟩;go_wp2;go_ret;exact ⟨rfl,HF.out⟩
end
end
section
def Hm (A:aB):Nat->Int
 | 0=>0
 | k+1=>wrap64 (Hm A k+A.reads k)
theorem BI (h:∀ i,A.reads i=0):∀ k,Hm A k=0
 | 0=>rfl
 | k+1=>by
  show wrap64 (Hm A k+A.reads k)=0;rw [BI h k,h k];exact fH (n:=0) (by omega)
theorem K2 {c:Nat->Nat} (h:∀ i,A.reads i=(c i:Int)):∀ k,sm c k<=1000000->Hm A k=(sm c k:Nat)
 | 0,_=>rfl
 | k+1,hb=>by
  have e:sm c (k+1)=sm c k+c k:=rfl;show wrap64 (Hm A k+A.reads k)=_;rw [K2 h k (by omega),h k,show ((sm c k:Nat):Int)+(c k:Int)=((sm c k+c k:Nat):Int) by omega,e];exact fH (by omega)
theorem Hd (h:x∉xs.names):tY D xs x=0:=by
 have e:xs.find? (λo=>decide (o.1.name=x))=Z3:=List.find?_eq_none.2 λo ho q=>h (by
  have a:o.1.name=x:=of_decide_eq_true q;rw [<- a];exact To.2 ⟨o.1,To.2 ⟨o,ho,rfl⟩,rfl⟩)
 unfold tY;rw [e]
theorem MG (x:ByteArray) (b:jf wx Q xs) (h:Up xs.names) (A:∀ x∈xs,kX D x) (F:1<=D) :
 ∃ a m c n,(∀ e,Oy Q x e->e=Z5 (.tuple #[.slice a m c,Z8 Z9 n]))/\m<=1500/\tY D xs x<=m/(D*44)+1:=by
 have B:=kM b x;by_cases g:x∈xs.names
 . obtain ⟨k,t,w⟩:=List.getElem_of_mem g;have l:k<Q.length:=by
    have i:=t;rw [<- b.names] at i;unfold cy at i;rwa [Tr] at i
   have p:k<xs.length:=(by rw [<- b.len];exact l);have r:xs[k].1.name=x:=(by simpa [bg.names,aZ,bg.os] using w);obtain ⟨G,E⟩:=b.at k l p;obtain ⟨⟨a,m,c,y,_⟩,v⟩:=E.sl;have j:=A _ (Tq p);have u:m=xs[k].2.length:=(by rw [y] at v;exact v);refine ⟨a,m,c,0,λe f=>?_,?_,?_⟩
   . rcases f with ⟨q,_⟩|⟨_,q,_⟩|⟨_,C,q,d⟩
     . exact absurd (show bX x from r▸j.fit.name) q
     . exact absurd g (B.1 q)
     . have z:C=k:=(fV b h q).1.symm.trans (fy h t w);subst z;rw [d,Ts,Tt l,<- y];rfl
   . rw [u,j.len];exact j.fit.size
   . rw [<- r,EL h p,u];exact AX (D*44) _ (by omega)
 . have s:=Hd (D:=D) g;by_cases o:bX x
   . refine ⟨Z3,0,0,9,λe f=>?_,by omega,by rw [s];exact Tp _⟩;rcases f with ⟨q,_⟩|⟨_,_,d⟩|⟨_,k,q,_⟩
     . exact absurd o q
     . exact d
     . exact absurd (fV b h q).2.2 g
   . refine ⟨Z3,0,0,6,λe f=>?_,by omega,by rw [s];exact Tp _⟩;rcases f with ⟨_,d⟩|⟨q,_⟩|⟨q,_⟩
     . exact d
     . exact absurd q o
     . exact absurd q o
section
variable {Kind:dD->Prop} {ok:Nat->Prop} {X Y:bg->aB->Prop} {wz w0 w w':Z1} {wb D L G nb T:Nat}
theorem MS.weak {T':Nat} (h:MS Kind ok X wz w0 w wb D L G nb T) (f:T<=T') (d:∀ xs A,X xs A->Y xs A):MS Kind ok Y wz w0 w wb D L G nb T':=by
 obtain ⟨t,xs,Q,p,r,sa,ar,v,ps,pg,ob,P,A,F,out,want,cache,a,b,e,c⟩:=h;exact ⟨t,xs,Q,p,r,sa,ar,v,ps,pg,ob,P,A,F,out,want,cache,a,b,by omega,d _ _ c⟩
theorem MS.below (h:MS Kind ok X wz w0 w wb D L G nb T) (a:ZZ w.heap.size w w'):MS Kind ok X wz w0 w' wb D L G nb T:=by
 obtain ⟨t,xs,Q,p,r,sa,ar,v,ps,pg,ob,P,A,F,out,want,cache,c,b,d⟩:=h;exact ⟨t,xs,Q,p,r,sa,ar,v,ps,pg,ob,P,A,F,out,want,cache,c.below a,b.keep (gY.below a _) lR,d⟩
theorem MS.base (h:MS Kind ok X wz w0 w wb D L G nb T):ZZ w0.heap.size w0 w:=by
 obtain ⟨t,xs,Q,p,r,sa,ar,v,ps,pg,ob,P,A,F,out,want,cache,a,b,c⟩:=h;exact a.base
theorem MS.mark (h:MS Kind ok X wz w0 w wb D L G nb T):MS Kind ok X w w0 w wb D L G nb T:=by
 obtain ⟨t,xs,Q,p,r,sa,ar,v,ps,pg,ob,P,A,F,out,want,cache,b,a,c⟩:=h;exact ⟨t,xs,Q,p,r,sa,ar,v,ps,pg,ob,P,A,F,out,want,cache,b,⟨λ_ _ _ _=>rfl,a.ref,a.rel,a.ow⟩,c⟩
theorem MS.op (h:MS Kind ok X wz w0 w wb D L G nb T) {b:Nat} {o:oS} {dv:Z0} (a:kN wz b o dv):kN w b o dv:=by
 obtain ⟨t,xs,Q,p,r,sa,ar,v,ps,pg,ob,P,A,F,out,want,cache,d,c,e⟩:=h;exact aw.keep a (c.op _ _ (aw.lt a) a)
theorem He {base n:Nat} {v:Z0} (h:w.ownsRow base 3 1 v n (ub A n)) (d:0<n):∃ g cap,v=Z6 (Z2 ⟨g,0,Z3⟩) n cap/\∀ j,j<n->w.cell? ⟨g,j,Z3⟩=Z2 (Z8 Z9 (A.reads j)):=by
 rcases h.2 with ⟨_,c⟩|⟨g,cap,cur,rfl,_⟩
 . omega
 . refine ⟨g,cap,rfl,λj b=>?_⟩;have a:=h.cells (g:=g) rfl j (Z8 Z9 (A.reads j)) (by simp [ub,b]);rwa [mw] at a
theorem MS.reads (h:MS Kind ok X wz w0 w wb D L G nb T):∃ p,w.cell? ⟨wb,3,Z3⟩=Z2 (Z7 (Z2 ⟨p,0,Z3⟩)) /\
 Calls ZY 10 #[Z7 (Z2 ⟨p,0,Z3⟩)] w λe w'=>∃ v xs A,e=Z5 v/\(∃ g cap,v=Z6 (Z2 ⟨g,0,Z3⟩) A.n cap/\∀ j,j<A.n->w'.cell? ⟨g,j,Z3⟩=Z2 (Z8 Z9 (A.reads j)))/\A.n<=16/\X xs A/\MS Kind ok (λb c=>b=xs/\∀ i,c.reads i=0) wz w0 w' wb D L G nb T:=by
 obtain ⟨t,xs,Q,p,r,sa,ar,v,ps,pg,ob,P,A,F,out,want,cache,a,l,x,o⟩:=h;have q:A.n<=16:=by rw [a.live.disk.n];exact a.live.par.s
 refine ⟨p,a.wbA.cells.2.2.2.1,(DY a.live.vol.arr (by omega)).mono ?_⟩;rintro e w' ⟨u,rfl,ho,k,m⟩;obtain ⟨d,f⟩:=a.zero m k;exact ⟨u,xs,A,rfl,He ho (by have:=a.live.disk.n;have:=a.live.par.d1;omega),q,o,t,xs,Q,p,r,sa,ar,v,ps,pg,ob,P,_,F,out,want,cache,d,l.keep f lR,x,rfl,λ_=>rfl⟩
theorem MS.got (h:MS Kind ok (λb g=>b=xs/\Y b g) wz w0 w wb D L G nb T) (x:ByteArray):∃ r a m c n,w.cell? ⟨wb,5,Z3⟩=Z2 (Z7 (Z2 ⟨r,0,Z3⟩))/\m<=1500/\tY D xs x<=m/(D*44)+1 /\
 ∀ wx,ZZ w.heap.size w wx->Calls ZY 12 #[Z7 (Z2 ⟨r,0,Z3⟩),Z4 x] wx λe w'=>e=Z5 (.tuple #[.slice a m c,Z8 Z9 n])/\w'=wx:=by
 obtain ⟨t,b,Q,p,r,sa,ar,v,ps,pg,ob,P,A,F,out,want,cache,d,f,u,rfl,_⟩:=h;obtain ⟨a,m,c,n,j,k,l⟩:=MG x f.rel d.live.disk.up d.live.disk.fits d.live.par.d1;refine ⟨r,a,m,c,n,d.wbA.cells.2.2.2.2.2.1,k,l,λwx o=>?_⟩;obtain ⟨y,rv,s⟩:=(f.keep (gY.below o _) lR).ref;have i:Q.length<=1000000:=by
  rw [f.rel.len];have:=d.live.few.1;have e:b.os.length=b.length:=by simp [bg.os]
  omega
 exact (tI s i x).mono λe w' q=>⟨j e q.2,q.1⟩
end
def RS (w0 w:Z1) (wb D L G nb T:Nat):Prop:=∃ Kind ok wz,MS Kind ok (λ_ _=>True) wz w0 w wb D L G nb T
theorem K3 {w':Z1} {e:Ending} (c:yT D L G) (h:KZ w D L G nb 8 e w') (x:ZZ w0.heap.size w0 w) (O:cE w0) (hK:3<=w0.heap.size) :
 ∃ wb p,e=Z5 (.tuple #[Z7 (Z2 ⟨wb,0,Z3⟩),.bool true])/\w'.cell? ⟨wb,3,Z3⟩=Z2 (Z7 (Z2 ⟨p,0,Z3⟩))/\RS w0 w' wb D L G nb 1 /\
  ∀ wx,ZZ w'.heap.size w' wx->∀ d,d<D+L+G->Calls ZY 8 #[Z7 (Z2 ⟨p,0,Z3⟩),Z8 Z9 (d:Nat)] wx λe a=>e=Z5 (.tuple #[])/\RS w0 a wb D L G nb 1:=by
 obtain ⟨wb,p,r,sa,ar,v,j,cache,F,pg,A,rfl,u,K,I,B,S,hp,J,k0,k6,E,U,V,W,X,Y,Z,h8,h9,hq,hv,P,hx,f,k5⟩:=h;have T:=x.size;have C:=B.disk.n;have hs:=c.s;have hy:=c.d1;have o:∀ d,d<A.n->MB w0 w' wb D L G nb 1 [] p r sa ar v (tE j 8 D L G (2^d)) (λl=>l=2^d) (tC j 8 0) pg (Z6 Z3 0 0) [2] A F (Z6 Z3 0 0) (Z6 Z3 0 0) cache:=λd z=>
  ⟨u,I,B,S,x.trans (P.mono T),O,hK,by omega,E,λk g=>by have:=J k g;omega,by omega,λk (g:j<=k/\_)=>by have:=g.1;omega,BH c C z (λi q=>by rw [f i] at q;cases q)⟩
 have m:Dc w' w' r [] [] (Z6 Z3 0 0) (Z6 Z3 0 0):=⟨λ_ _ _ _=>rfl,⟨_,_,K⟩,trivial,[],Ow.nil _,Ow.nil _⟩;refine ⟨wb,p,rfl,u.cells.2.2.2.1,⟨_,_,_,1,[],[],p,r,sa,ar,v,_,pg,_,[2],A,F,_,_,cache,o 0 (by omega),m,Tm _,trivial⟩,λwx y d z=>?_⟩;have b:=(o d (by omega)).below y;have M:=m.keep (gY.below y _) lR;refine (JP b.live.vol.arr b.live.fit d (by omega)).mono ?_;rintro e a ⟨rfl,H,t⟩;have R:=b.live.lose f (by omega) t H;obtain ⟨N,Q⟩:=b.callK (t.mono λ_ _ q=>.inr (.inl q)) R rfl rfl (BH c C (show d<A.n by omega) (λi (q:(if i=d then true else A.lost i)=true)=>by
  by_cases e:i=d
  . exact e
  . rw [if_neg e,f i] at q;cases q)) λ_ q=>.inl q
 exact ⟨rfl,_,_,_,1,[],[],p,r,sa,ar,v,_,pg,_,[2],_,F,_,_,cache,N,M.keep Q lR,Tm _,trivial⟩
theorem MH (l:List oS) (k:Nat) (a:k<l.length):l[k].d.length<=fU l:=by
 have b:=qF l k a;have c:=Bd l (k+1);omega
def RX (D:Nat) (o:oS) (xs:bg) (A:aB):Prop:=(o.kind=4->∀ i,A.reads i=0)/\(o.kind=2->GX D o.s xs A)
theorem RX.sum {o:oS} {m:Nat} (h:RX D o xs A) (a:D<=6) (f:m<=1500) (d:tY D xs o.s<=m/(D*44)+1):(o.kind=4->Hm A A.n=0)/\(o.kind=2->Hm A A.n<=((D*(m/(D*44)+1):Nat):Int)):=by
 refine ⟨λe=>BI (h.1 e) _,λe=>?_⟩;obtain ⟨c,b,g⟩:=h.2 e;have i:tY D xs o.s*D<=(m/(D*44)+1)*D:=Nat.mul_le_mul_right _ d;have j:m/(D*44)<=1500:=Tn (Tu _ _) f;have k:(m/(D*44)+1)*D<=1501*6:=Tv (by omega) a;rw [K2 b _ (by omega),Nat.mul_comm D];omega
theorem MI {Kind:dD->Prop} {ok:Nat->Prop} {Y:bg->aB->Prop} {wz:Z1} {wb T:Nat} (h:MS Kind ok (λxs A=>Y xs A/\∀ i,A.reads i=0) wz w0 w wb D L G nb T) (o:oS) (b:Z0) (u:Bs w0 b o.d) (y:o.d.length<=100000) (C:T+1<=1000000) (x:D<=6) (E:o.kind<=4) :
 Calls ZY 11 #[Z7 (Z2 ⟨wb,0,Z3⟩),.agg #[Z8 Z9 o.kind,Z8 Z9 o.a,Z4 o.s,b]] w λe w'=>e=Z5 (.bool true)/\MS Kind ok (RX D o) wz w0 w' wb D L G nb (T+1):=by
 obtain ⟨t,xs,Q,p,r,sa,ar,v,ps,pg,ob,P,A,F,out,want,cache,f,c,H,_,n⟩:=h;have j:∃ k m l,b=.slice k m l:=by obtain ⟨k,l,e,_⟩:=u;exact ⟨k,_,l,e⟩
 have g:∀ (X:bg->aB->Prop),(∀ xs A,X xs A->RX D o xs A)->∀ (e:Ending) (w':Z1),e=Z5 (.bool true)/\MS Kind ok X wz w0 w' wb D L G nb (t+1)->e=Z5 (.bool true)/\MS Kind ok (RX D o) wz w0 w' wb D L G nb (T+1):=λX z e w' q=>⟨q.1,q.2.weak (by omega) z⟩;by_cases B:o.kind<1
 . exact (G9 f c o b j B (X:=λ_ _=>True) trivial).mono (g _ λ_ _ _=>⟨λ_=>by omega,λ_=>by omega⟩)
 by_cases k1:o.kind=1
 . exact (KW f c o b u y (by omega) x k1).mono (g _ λ_ _ _=>⟨λ_=>by omega,λ_=>by omega⟩)
 by_cases k2:o.kind=2
 . exact (KX f c o b j k2 n).mono (g _ λ_ _ q=>⟨λ_=>by omega,λ_=>q⟩)
 by_cases k3:o.kind=3
 . exact (KY f c o b j (by omega) k3).mono (g _ λ_ _ _=>⟨λ_=>by omega,λ_=>by omega⟩)
 . exact (G8 f c o b j (by omega) (X:=λ_ A=>∀ i,A.reads i=0) n).mono (g _ λ_ _ q=>⟨λ_=>q,λ_=>by omega⟩)
end
def OS (w0:Z1) (wb D L G nb:Nat) (l:List oS) (ok i:Z0) (wr:Z1):Prop:=∃ k:Nat,k<=l.length/\i=Z8 Z9 (k:Nat)/\ok=.bool true/\RS w0 wr wb D L G nb (1+k)
def OT (w:Z1) (e:Ending) (w':Z1):Prop:=e=Z5 (.bool true)/\ZZ w.heap.size w w'
theorem K4 {x:Int} (b:0<=x) {n:Nat} (a:0<n):∃ d:Nat,d<n/\x.tmod (n:Int)=(d:Int):=by
 refine ⟨x.toNat%n,Nat.mod_lt _ a,?_⟩;obtain ⟨m,rfl⟩:=Int.eq_ofNat_of_zero_le b;rw [Int.toNat_natCast];rfl
theorem Hf {sv:Z0} {l:List oS} (h:QI w sv l) (hs:∀ x∈l,x.s.size<=140737488355328/\x.d.length<=140737488355328) (a b c blocks lone:Int) (hg:cE w) (hv:bj w) (ht:aJ w) (hK:3<=w.heap.size) :
 Calls ZY 3 #[sv,Z8 Z9 a,Z8 Z9 b,Z8 Z9 c,Z8 Z9 blocks,Z8 Z9 lone] w (OT w):=by
 obtain ⟨t,x6,I⟩:=oM blocks 400 (by decide) (by decide);have x8:wrap64 ((IntKind.u64.wrap blocks).tmod 400)=(t:Int):=by simpa using I
 clear I;have qe:=GF h hs;obtain ⟨ao,cp,rfl,h2⟩:=h;have H:=hide4 h2 hg hv ht;clear h2 hg hv ht hs;go_enter Tryz.func3,Tryz.ntmps3;go_wp2_with fail;refine qe.mono ?_;rintro e w1 ⟨bb,rfl,A,Z⟩;clear qe;cases bb with
 | false=>
  have V:=hide Z;clear Z A;go_wp2;go_ret;exact ⟨rfl,V.out⟩
 | true=>
  obtain ⟨q6,ki⟩:=A rfl;have V:=hide Z;clear Z A;go_wp2_with fail;refine (Mg a b c w1).mono ?_;rintro e w2 ⟨D,L,G,rfl,hP,ka,kx⟩;have v:=hide2 hP (V.out.trans (kx.mono V.out.size));clear hP kx;go_wp2_with fail;obtain ⟨u,k9⟩:=nM (w2.alloc (.cells #[Z8 Z9 (D:Nat),Z8 Z9 (L:Nat),Z8 Z9 (G:Nat)] 25));have M:ZZ w.heap.size w u:=by rw [<- k9];exact v.out.2.alloc v.out.2.size _
  have q7:aw u w2.heap.size 25 [Z8 Z9 (D:Nat),Z8 Z9 (L:Nat),Z8 Z9 (G:Nat)]:=by rw [<- k9];exact heap_alloc_last w2 _
  rw [k9];have kc:=Ha (nb:=8+t) v.out.1 (by omega) (by omega) 8 (H.out.2.2.1.below M H.out.2.2.1.lt) (H.out.2.2.2.keep (M.block _ H.out.2.2.2.lt)) (Tn hK M.size);rw [show ((8+t:Nat):Int)=8+(t:Int) by omega] at kc;have f:=hide2 M q7;clear M k9 q7;refine kc.mono ?_;rintro e S ⟨c0,_,qn,q8⟩;obtain rfl:=qn 8 (by decide) rfl;obtain ⟨wb,p,rfl,c3,kh,h3⟩:=K3 v.out.1 q8 (Below.refl _ _) (H.out.2.1.below f.out.1) (Tn hK f.out.1.size);have hh:ZZ u.heap.size u S:=by obtain ⟨_,_,_,Y⟩:=id kh;exact Y.base
  have X:=aw.keep f.out.2 (hh.block _ (aw.lt f.out.2));have R:=aw.cell X (j:=0) rfl;have p1:=aw.cell X (j:=1) rfl;have p2:=aw.cell X (j:=2) rfl;obtain ⟨pb,qa⟩:=nM (w2.heap.size);rw [qa] at R p1 p2 f ⊢;have HM:=hide2 kh h3;have qi:(0:Int)<(D:Int):=by have:=v.out.1.d1;omega
  clear kh h3 q8 kc hh X qa;go_upto_region 6 with fail;go_cut [48] from 42 to 47 (λhb wx=>∃ bb,hb=.bool bb/\(bb=true->0<=lone)/\wx=S)
  case first=>
   by_cases qy:0<=lone
   . go_wp2_with fail;go_meet
     case rel=>exact ⟨_,rfl,λ_=>qy,rfl⟩
   . go_wp2_with fail;go_meet
     case rel=>exact ⟨false,rfl,λe=>(by cases e),rfl⟩
  case rest=>
   obtain ⟨bb,rfl,A,kk⟩:=hcut;have kk:=kk.symm;subst kk;go_upto_if 48 with fail;go_cut [] from 49 to 57 (λwx=>RS u wx wb D L G (8+t) 1)
   case first=>
    cases bb with
    | false=>
     go_wp2_with fail;go_meet
     case rel=>exact HM.out.1
    | true=>
     obtain ⟨N,hN⟩:∃ N,N=D+L+G:=⟨_,rfl⟩;have F:=v.out.1;have x4:¬ (N:Int)=0:=(by have:=F.d1;omega);have qk:N<=16:=(by rw [hN];exact F.s);obtain ⟨d,hd,ed⟩:=K4 (A rfl) (n:=N) (by omega);have qd:∀ W,Calls ZY 9 #[.agg #[Z8 Z9 (D:Int),Z8 Z9 (L:Int),Z8 Z9 (G:Int)]] W λe W'=>e=Z5 (Z8 Z9 (N:Int))/\ZZ W.heap.size W W':=λW=>by
      have:=F.d;have:=F.l4;have:=F.g;rw [show (N:Int)=(D:Int)+L+G by omega];exact ea (D:Int) (L:Int) (G:Int) W ⟨by omega,by omega⟩ ⟨by omega,by omega⟩ ⟨by omega,by omega⟩
     have HC:=hide qd;have qo:d<D+L+G:=(by omega);clear qd F A hN hd;go_upto_region 7 with fail;go_region_with (first
      | (go_at_call 9;refine (HC.out _).mono ?_;rintro e w7 ⟨rfl,kz⟩;have h5:ZZ S.heap.size S w7:=((Below.refl _ S).drew).trans kz;have x9:=(h5.cell (block_lt_of_cell c3)).trans c3;have H7:=hide h5;clear kz h5)
      | (go_at_call 8;refine (HM.out.2 _ H7.out d qo).mono ?_;rintro e U ⟨rfl,qb⟩;have q:=hide qb;clear qb))
     all_goals (go_wp2_with fail;go_meet;case rel=>exact q.out)
   case rest=>
    have HS:=hide hcut;clear c3 R p1 p2 qi A hcut HM;rename Z1=>wx;go_wp2_with fail;go_loopw [16,17] (λok i wr=>OS u wb D L G (8+t) l ok i wr) (λ_ i _=>l.length-(intOf i).toNat)
    case atStart=>exact ⟨0,Tp _,rfl,rfl,HS.out⟩
    case round=>
     obtain ⟨k,hk,rfl,rfl,Kind,ok,wz,k8⟩:=hrel;have ke:=k8.base;have B:ZZ w.heap.size w wr:=f.out.1.trans (ke.mono f.out.1.size);by_cases k7:k<l.length
     . obtain ⟨sb,off,rfl,k5,kv⟩:=H.out.1 (λe=>by rw [e] at k7;simp at k7);obtain ⟨dv,r1,r2,r3,r4,r5⟩:=kv k k7;have kf:l[k].d.length<=100000:=Tn (MH l k k7) ki;obtain ⟨o,ho⟩:=nM (l[k]);rw [ho] at r1 r2 r3 r5 kf;have q1:=(B.cell (p:=⟨sb,off+k*4,Z3⟩) k5).trans r1;have q2:=(B.cell (p:=⟨sb,off+k*4+1,Z3⟩) k5).trans r2;have q3:=(B.cell (p:=⟨sb,off+k*4+2,Z3⟩) k5).trans r3;have q4:=(B.cell (p:=⟨sb,off+k*4+3,Z3⟩) k5).trans r4;obtain ⟨da,dc,qp,_⟩:=id r5;subst qp;have C:=r5.mono f.out.1;obtain ⟨m,Y⟩:=nM (o.d.length);rw [Y] at q4 C;have qz:(k:Int)<(l.length:Int):=(by omega);obtain ⟨T,kj⟩:=nM (wr.alloc (.cells #[Z8 Z9 o.kind,Z8 Z9 o.a,Z4 o.s,.slice da m dc] 40));have ky:ZZ wr.heap.size wr T:=(by rw [<- kj];exact bA wr _);have h8:=(k8.below ky).mark;have ha:kN T wr.heap.size o (.slice da m dc):=(by rw [<- kj];exact heap_alloc_last wr _);obtain ⟨y0,y1,y2,y3⟩:=ha.cells;obtain ⟨p5,c5,qc⟩:=h8.reads;have kp:OS u wb D L G (8+t) l (.bool true) (Z8 Z9 ((k:Int)+1)) T:=⟨k+1,by omega,rfl,rfl,Kind,ok,T,h8.mono (by omega)⟩;have E:=hide5 qc kp ha C kf;clear kp ha h8 ky ke B r1 r2 r3 r4 r5 C kf k8 kv Y ho qc;by_cases h4:o.kind<=4
       . have qh:¬ (4:Int)<o.kind:=(by omega);go_wp2_with fail;clear q1 q2 q3 q4 y0 y1 y2 y3 kj;refine E.out.1.mono ?_;rintro e w6 ⟨v6,xa,A6,rfl,_,_,_,h9⟩;have qf:=MI h9 o _ E.out.2.2.2.1 E.out.2.2.2.2 (by omega) ka h4;obtain ⟨y0,y1,y2,y3⟩:=(h9.op E.out.2.2.1).cells;clear h9 c5;go_wp2_with fail;refine qf.mono ?_;rintro e w7 ⟨rfl,hn⟩;obtain ⟨p7,c7,hy⟩:=hn.reads;clear qf y0 y1 y2 y3 hn;go_wp2_with fail;refine hy.mono ?_;rintro e U ⟨v8,xb,r,rfl,⟨g8,qr,rfl,kg⟩,x1,ks,K⟩;obtain ⟨z0,z1,z2,z3⟩:=(K.op E.out.2.2.1).cells;have q9:=aw.keep f.out.2 (K.base.block _ (aw.lt f.out.2));have R:=aw.cell q9 (j:=0) rfl;obtain ⟨ra,ga,gm,gc,gn,r8,q5,q0,hi⟩:=K.got o.s;have hc:=RX.sum ks ka q5 q0;have kr:∀ wx,ZZ U.heap.size U wx->OS u wb D L G (8+t) l (.bool true) (Z8 Z9 ((k:Int)+1)) wx:=λwx qm=>⟨k+1,by omega,rfl,rfl,Kind,ok,T,(K.below qm).weak (by omega) (λ_ _ _=>trivial)⟩;obtain ⟨Q,hp⟩:=nM (r.n);rw [hp] at x1 kg hc ⊢;have q:=hide4 kr hc hi kg;clear hy c7 ks K q9 q0 kr hc hi hp kg;go_wp2_with fail;go_loopw [20,21] (λs i wr=>∃ j:Nat,j<=Q/\i=Z8 Z9 (j:Nat)/\s=Z8 Z9 (Hm r j)/\wr=U) (λ_ i _=>Q-(intOf i).toNat)
         case atStart=>exact ⟨0,Tp _,rfl,rfl,rfl⟩
         case round=>
          obtain ⟨j,hj,rfl,rfl,km⟩:=hrel;have km:=km.symm;subst km;by_cases qv:j<Q
          . have c1:=q.out.2.2.2 j qv;have x5:(j:Int)<(Q:Int):=(by omega);have x2:Hm r (j+1)=wrap64 (Hm r j+r.reads j):=rfl;generalize r.reads j=x at *;generalize Hm r j=y at *;clear z0 z1 z2 z3 R r8;go_wp2;go_roundw
            case rel=>exact ⟨j+1,by omega,by go_num,by rw [x2],trivial⟩
            case measure=>simp [intOf];omega
          . have qs:j=Q:=(by omega);subst qs;obtain ⟨x,hx⟩:=nM (Hm r j);have P:=q.out.2.1.1;have O:=q.out.2.1.2;rw [hx] at P O ⊢;clear hx;by_cases k4:o.kind=4
            . have x0:=P k4;subst x0;clear O P;have k2:¬ o.kind=2:=(by omega);go_wp2;go_roundw
              case rel=>exact q.out.1 _ (Below.refl _ _)
              case measure=>simp [intOf];omega
            by_cases k2:o.kind=2
            . have qg:=O k2;clear O P;obtain ⟨J,k6⟩:=nM (gm/(D*44));have x3:=v.out.1.d1;have e4:(gm:Int).tdiv ((D:Int)*44)=(J:Int):=by
               rw [Int.tdiv_eq_ediv_of_nonneg (by omega),<- k6,Int.natCast_ediv,Tw];rfl
              have qq:J<=1500:=(by rw [<- k6];exact Tn (Tu _ _) q5);rw [k6] at qg;clear k6;have hz:D*(J+1)<=6*1501:=Tv ka (by omega);obtain ⟨zz,ko⟩:=nM (D*(J+1));have e5:(D:Int)*((J:Int)+1)=(zz:Int):=(by rw [<- ko,Tw];rfl);rw [ko] at qg hz;clear ko;have qj:¬ (D:Int)*44=0:=(by omega);have x7:¬ (zz:Int)<x:=(by omega);have HG:=hide (λz=>q.out.2.2.1 (U.drewN z) ⟨rfl,rfl,rfl,Tm _,λ_ _=>rfl⟩);go_upto_region 24 with fail;go_quiet ((go_at_call 12;refine Calls.quiet_of_same (HG.out _)));clear z0 z1 z2 z3 r8;go_upto_region 25 with fail;go_quiet (fail);clear R;go_wp2;go_roundw
              case rel=>exact q.out.1 _ ⟨rfl,rfl,rfl,Tm _,λ_ _=>rfl⟩
              case measure=>simp [intOf];omega
            . clear O P;go_wp2;go_roundw
              case rel=>exact q.out.1 _ (Below.refl _ _)
              case measure=>simp [intOf];omega
       . have qh:(4:Int)<o.kind:=(by omega);clear h4;go_wp2;exact ⟨E.out.2.1,by simp [intOf];omega⟩
     . have qx:k=l.length:=(by omega);subst qx;have HB:=hide B;clear k8 B ke;go_wp2;go_ret;exact ⟨rfl,HB.out⟩
end Go.Proofs.YtfbmmcnpjhmjaaaGreatDoor
