import Derived.Test.YtfbmmcnpjhmjaaaGreatDoorM06
set_option maxRecDepth 100000
set_option linter.defProp false
set_option maxHeartbeats 8000000
open Bool renaming true -> Z9
open Option.some renaming inj -> XG
open Nat renaming xor_zero -> XH
open Option renaming map_eq_some_iff -> XI
open List renaming mem_singleton -> XJ
open Bool renaming or_false -> XK
namespace Go.Proofs.YtfbmmcnpjhmjaaaGreatDoor.Gf
variable {t r n i D P s0:Nat} {f:Nat->Bool} {m M:Nat->Nat->Nat}
section
def LI (m:Nat->Nat->Nat) (n:Nat):Prop:=∀ a,bq a->(∀ j,xs (λr=>gm (a r) (m r j)) n=0)->∀ r,r<n->a r=0
theorem Pu {f:Nat->Nat} (l:t<n) (j:r<n) (g:t≠r):xs f n=xs (λk=>if k=t\/k=r then 0 else f k) n^^^(f t^^^f r):=by
 have e:f=λk=>(if k=t\/k=r then 0 else f k)^^^((if k=t then f t else 0)^^^(if k=r then f r else 0)):=by
  funext k;by_cases a:k=t
  . subst a;rw [if_pos (.inl rfl),if_pos rfl,if_neg g];simp
  . by_cases b:k=r
    . subst b;rw [if_pos (.inr rfl),if_neg a,if_pos rfl];simp
    . rw [if_neg (λq=>q.elim a b),if_neg a,if_neg b];simp
 have c:=eZ (f:=λk=>if k=t then f t else 0) n l (λi _ h=>if_neg h);have d:=eZ (f:=λk=>if k=r then f r else 0) n j (λi _ h=>if_neg h);rw [if_pos rfl] at c d;conv=>lhs;rw [e]
 rw [iH,iH,c,d]
theorem LI.swap (h:LI m n) (i:t<n) (g:r<n):LI (bV m t r) n:=by
 by_cases b:t=r
 . subst b;have e:bV m t t=m:=(by funext k;unfold bV;by_cases q:k=t<;>simp [q]);rw [e];exact h
 intro a f x k v;have u:bq (λk=>if k=t then a r else if k=r then a t else a k):=λk=>by
  show (if k=t then a r else if k=r then a t else a k)<256;split;exact f _;split;exact f _;exact f _
 have w:∀ j,xs (λk=>gm (if k=t then a r else if k=r then a t else a k) (m k j)) n=0:=λj=>by
  have c:=x j;rw [Pu i g b] at c ⊢;have e:(λk=>if k=t\/k=r then 0 else gm (if k=t then a r else if k=r then a t else a k) (m k j))=λk=>if k=t\/k=r then 0 else gm (a k) (bV m t r k j):=by
   funext k;by_cases q:k=t\/k=r
   . rw [if_pos q,if_pos q]
   . rw [if_neg q,if_neg q,if_neg (λe=>q (.inl e)),if_neg (λe=>q (.inr e)),oy (λe=>q (.inl e)) (λe=>q (.inr e))]
  rw [e];have p:bV m t r t=m r:=by unfold bV;rw [if_pos rfl]
  have s:bV m t r r=m t:=by unfold bV;rw [if_neg (λq=>b q.symm),if_pos rfl]
  rw [p,s] at c;rw [if_pos rfl,if_neg (λq:r=t=>b q.symm),if_pos rfl,Nat.xor_comm (gm (a r) _)];exact c
 have d:=h _ u w;by_cases l:k=t
 . subst l;have:=d r g;rwa [if_neg (λq:r=k=>b q.symm),if_pos rfl] at this
 . by_cases o:k=r
   . subst o;have:=d t i;rwa [if_pos rfl] at this
   . have:=d k v;rwa [if_neg l,if_neg o] at this
def QU {a u:Nat} (d:a<256) (b:u<256) (e:u≠0) (h:gm a (gi u)=0):a=0:=by
 have c:=aZ d (dh b) b;rw [h,bC,bK (dh b) b,jO u b e,cD a d] at c;exact c.symm
theorem LI.scale (h:LI m n) (b:∀ k,bq (m k)) (e:m t i≠0):LI (dS m t i) n:=by
 intro a c l k g;have f:bq (λk=>if k=t then gm (a t) (gi (m t i)) else a k):=λk=>by
  show (if k=t then gm (a t) (gi (m t i)) else a k)<256;split
  . exact aV _ (c t)
  . exact c _
 have d:=h _ f λj=>by
  rw [<- l j];refine dJ n λk _=>?_;unfold dS;by_cases q:k=t
  . subst q;rw [if_pos rfl,if_pos rfl,aZ (c k) (dh (b k i)) (b k j),bK (dh (b k i)) (b k j)]
  . rw [if_neg q,if_neg q]
 have:=d k g;by_cases q:k=t
 . subst q;rw [if_pos rfl] at this;exact QU (c k) (b k i) e this
 . rwa [if_neg q] at this
theorem LI.off (h:LI m n) (g:∀ k,bq (m k)) (C:t<n):LI (cK m n t i) n:=by
 intro a b D k d;obtain ⟨c,w⟩:∃ c:Nat->Nat,c=λk=>gm (m k i) (gi (m t i)):=⟨_,rfl⟩;have z:∀ k,c k<256:=λk=>by rw [w];exact aV _ (g k i)
 obtain ⟨s,p⟩:∃ s,s=xs (λk=>if k=t then 0 else gm (a k) (c k)) n:=⟨_,rfl⟩;have l:s<256:=by rw [p];exact E0 n λk _=>by split;decide;exact aV _ (b k)
 have B:bq (λk=>a k^^^if k=t then s else 0):=λk=>by
  show (a k^^^if k=t then s else 0)<256;exact j8 (b k) (by split;exact l;decide)
 have u:=h _ B λj=>by
  refine Eq.trans ?_ (D j);have x:xs (λr=>gm (a r^^^if r=t then s else 0) (m r j)) n=xs (λr=>gm (a r) (m r j)) n^^^gm s (m t j):=by
   have:(λr=>gm (a r^^^if r=t then s else 0) (m r j))=λr=>gm (a r) (m r j)^^^gm (if r=t then s else 0) (m r j):=by
    funext r;exact eh _ (b r) (by split;exact l;decide)
   rw [this,iH,eZ (f:=λr=>gm (if r=t then s else 0) (m r j)) n C (λr _ q=>by rw [if_neg q,bC]),if_pos rfl]
  have y:xs (λr=>gm (a r) (cK m n t i r j)) n=xs (λr=>gm (a r) (m r j)) n^^^gm s (m t j):=by
   have:∀ r,r<n->gm (a r) (cK m n t i r j)=gm (a r) (m r j)^^^gm (m t j) (if r=t then 0 else gm (a r) (c r)):=λr o=>by
    by_cases q:r=t
    . rw [mr (λe=>e.2 q),if_pos q,bm,XH]
    . rw [gv ⟨o,q⟩,if_neg q];show gm (a r) (m r j^^^gm (gm (m r i) (gi (m t i))) (m t j))=_;rw [ef,show gm (m r i) (gi (m t i))=c r by rw [w],<- aZ (b r) (z r) (g t j),bK (aV _ (b r)) (g t j)]
   rw [dJ n this,iH,EZ,<- p,bK (g t j) l]
  rw [x,y]
 have v:∀ k,k<n->k≠t->a k=0:=λk d q=>by
  have:=u k d;rwa [if_neg q,XH] at this
 by_cases q:k=t
 . subst q;have A:s=0:=by
    rw [p];exact dg n λr o=>by
     by_cases e:r=k
     . rw [if_pos e]
     . rw [if_neg e,v r o e,bC]
   have:=u k d;rwa [if_pos rfl,A,XH] at this
 . exact v k d q
def LI.step {C C':Ck} (h:LI C.m C.count) (b:we C) (a:ku C i=some C'):LI C'.m C'.count:=by
 unfold ku at a;rw [XI] at a;obtain ⟨r,f,rfl⟩:=a;obtain ⟨j,c,d⟩:=eK f;have g:=h.swap (t:=C.told) (r:=r) (by omega) c;have e:bV C.m C.told r C.told i=C.m r i:=by unfold bV;rw [if_pos rfl]
 exact ((g.scale (fR b) (by rw [e];exact d)).off (ny (fR b)) (by omega))
def LI.first (M:Nat->Nat->Nat) (D P:Nat):LI (ck0 M D P).m P:=by
 intro a c f k b;have:=f (D+k);rw [eZ (k:=k) P b (λr d q=>by
  show gm (a r) (if r<P then (if D+k<D then M (D+r) (D+k) else if D+k=D+r then 1 else 0) else 0)=0;rw [if_pos d,if_neg (by omega),if_neg (by omega),bm])] at this
 have e:(Gf.ck0 M D P).m k (D+k)=1:=by
  show (if k<P then (if D+k<D then M (D+k) (D+k) else if D+k=D+k then 1 else 0) else 0)=1;rw [if_pos b,if_neg (by omega),if_pos rfl]
 rwa [e,cD _ (c k)] at this
def jH (a:Nat×Ck) (i:Nat):Nat×Ck:=if a.1.testBit i=Z9 then a else match ku a.2 i with|some C'=>(a.1|||2^i,C')|none=>a
def rdTo (n:Nat) (a:Nat×Ck):Nat->Nat×Ck
 | 0=>a
 | k+1=>jH (rdTo n a k) (n-1-k)
def or_pow (s i j:Nat):(s|||2^i).testBit j=(s.testBit j || decide (i=j)):=by rw [Nat.testBit_or,Nat.testBit_two_pow]
def Code.void (h:Code M D P) {v:Nat->Nat} (a:rJ M D (D+P) v) (c:∀ i,D<=i->i<D+P->v i=0) (j:Nat):v j=0:=by
 by_cases b:j<D
 . have:=a.2.2 j b;rw [eZ (k:=j) (D+P) (by omega) (λi f q=>by
    by_cases e:i<D
    . rw [h.unit i e,if_neg (λe=>q e.symm),bm]
    . rw [c i (by omega) f,bC]),h.unit j b,if_pos rfl,cD _ (a.1 j)] at this
   exact this
 . by_cases d:j<D+P
   . exact c j (by omega) d
   . exact a.2.1 j (by omega)
def LI.row (h:LI m n) (a:r<n) (b:∀ j,m r j=0):False:=by
 have:=h (dt r) (j9 r) (λj=>dg n λk _=>by
  by_cases e:k=r
  . rw [e,b j,bm]
  . show gm (if k=r then 1 else 0) _=0;rw [if_neg e,bC]) r a
 unfold dt at this;rw [if_pos rfl] at this;exact absurd this (by decide)
structure KT (M:Nat->Nat->Nat) (D P s0 j:Nat) (a:Nat×Ck):Prop where
 l:∃ L,tells (ck0 M D P) L=some a.2/\dU (ck0 M D P) (rJ M D (D+P)) L a.2/\L.Nodup/\∀ i,i∈L↔i<D+P/\a.1.testBit i=Z9
 li:LI a.2.m a.2.count
 dead:∀ i,j<=i->i<D+P->sK a.2 i
 sub:∀ i,s0.testBit i=Z9->a.1.testBit i=Z9
 dat:∀ i,i<D->a.1.testBit i=Z9->s0.testBit i=Z9
 lt:a.1<2^(D+P)
def dU.dead {C0 C:Ck} {X:(Nat->Nat)->Prop} {L:List Nat} (h:dU C0 X L C) {i:Nat} (c:i∈L):sK C i:=λr a b=>((h.spare (C.m r)).1 (aM.mem (h.byt r) ⟨r,a,b,rfl⟩)).2 i c
theorem KT.step {a:Nat×Ck} (F:Code M D P) (h:KT M D P s0 (i+1) a) (w:i<D+P):KT M D P s0 i (jH a i):=by
 obtain ⟨⟨L,u,b,t,d⟩,p,v,A,o,s⟩:=h;have more:sK a.2 i->∀ k,i<=k->k<D+P->sK a.2 k:=λq k l c=>by
  by_cases e:k=i
  . rw [e];exact q
  . exact v k (by omega) c
 unfold jH;by_cases g:a.1.testBit i=Z9
 . rw [if_pos g];exact ⟨⟨L,u,b,t,d⟩,p,more (b.dead ((d i).2 ⟨w,g⟩)),A,o,s⟩
 . rw [if_neg g];cases hT:ku a.2 i with
   | none=>
    unfold ku at hT;rw [Option.map_eq_none_iff] at hT;exact ⟨⟨L,u,b,t,d⟩,p,more (ot hT),A,o,s⟩
   | some H=>
    have f:=b.snoc (sN M D (D+P) F.byt) hT;refine ⟨⟨L++[i],?_,f,?_,λk=>?_⟩,p.step b.byt hT,λk l c=>?_,λk z=>?_,λk z n=>?_,?_⟩
    . rw [iD,u];exact hT
    . rw [List.nodup_append];exact ⟨t,by simp,λx B y G e=>g (by rw [XJ] at G;rw [<- G,<- e];exact ((d x).1 B).2)⟩
    . rw [List.mem_append,d,XJ,or_pow];constructor
      . rintro (⟨C,j⟩|rfl)
        . exact ⟨C,by rw [j];rfl⟩
        . exact ⟨w,by simp⟩
      . rintro ⟨C,j⟩;by_cases e:i=k
        . exact .inr e.symm
        . rw [decide_eq_false e,XK] at j;exact .inl ⟨C,j⟩
    . by_cases e:k=i
      . rw [e];exact f.dead (by simp)
      . intro r K N;have E:=(f.spare (H.m r)).1 (aM.mem (f.byt r) ⟨r,K,N,rfl⟩);exact (v k (by omega) c).span ((b.spare _).2 ⟨E.1,λx B=>E.2 x (List.mem_append_left _ B)⟩)
    . rw [or_pow,A k z];rfl
    . rw [or_pow] at n;by_cases e:i=k
      . subst e;unfold ku at hT;rw [XI] at hT;obtain ⟨r,J,_⟩:=hT;obtain ⟨l,c,I⟩:=eK J;exact absurd (F.void (b.all r c) (λx Q O=>v x (by omega) O r l c) i) I
      . rw [decide_eq_false e,XK] at n;exact o k z n
    . exact Nat.or_lt_two_pow s (Nat.pow_lt_pow_right (by decide) w)
def KT.to {a:Nat×Ck} (b:Code M D P) (h:KT M D P s0 (D+P) a):∀ k,k<=D+P->KT M D P s0 (D+P-k) (rdTo (D+P) a k)
 | 0,_=>h
 | k+1,hk=>by
  have ih:=KT.to b h k (by omega);rw [show D+P-k=(D+P-(k+1))+1 by omega] at ih;rw [show D+P-(k+1)=D+P-1-k by omega] at ih ⊢;exact ih.step b (by omega)
def KT.full {a:Nat×Ck} (d:Code M D P) (h:KT M D P s0 0 a):a.2.told=P:=by
 obtain ⟨⟨L,n,b,m,o⟩,c,f,p,k,l⟩:=h;have i:=b.le;have j:a.2.count=P:=b.count;by_cases e:a.2.told=P
 . exact e
 . exact (c.row (r:=a.2.told) (by omega) (d.void (b.all _ (by omega)) (λx q g=>f x (by omega) g _ lR (by omega)))).elim
def Fq:∀ n,(∀ i,i<n->f i=false)->cp f n=0
 | 0,_=>rfl
 | n+1,h=>by
  have ih:=Fq n (λi a=>h i (by omega));show cp f n+(if f n=Z9 then 1 else 0)=0;rw [ih,h n (by omega)];rfl
def KU {g:Nat->Bool} (h:n<=16) (a:∀ i,i<n->f i=g i) (b:∀ i,n<=i->f i=false):cp f 16=cp g n:=by
 have:=Jq f n (16-n);rw [show n+(16-n)=16 by omega,sQ n a,Fq (16-n) (λi _=>b _ (by omega))] at this;exact this
def wY (n lost:Nat) (h:n<=16):(ab (av n lost)).length+(ab (bz n lost)).length=n:=by
 have b:=Fl (av n lost) (λ_=>Z9);have c:=Fl (bz n lost) (λ_=>Z9);rw [List.filter_eq_self.2 (λ_ _=>rfl)] at b c;rw [b,c,KU (g:=λi=>lost.testBit i) h (λi a=>by rw [jZ,decide_eq_true a];simp) (λi a=>by rw [jZ,decide_eq_false (by omega)];simp),
  KU (g:=λi=>!lost.testBit i) h (λi a=>by rw [j0 lost i h,decide_eq_true a];simp) (λi a=>by rw [j0 lost i h,decide_eq_false (by omega)];simp)]
 exact Jr (λi=>lost.testBit i) n
def Pv (D L G lost:Nat) (C:Ck):Nat:=(rdTo (D+L+G) (lost,C) (D+L+G)).1
structure D5 (D L G lost s:Nat):Prop where
 sub:∀ i,lost.testBit i=Z9->s.testBit i=Z9
 dat:∀ i,i<D->s.testBit i=Z9->lost.testBit i=Z9
 lt:s<2^(D+L+G)
 told:∃ C,tells (fw D L G) (ab (av (D+L+G) s))=some C
 kept:(ab (bz (D+L+G) s)).length=D
 fn:∃ C,tells (fw D L G) (ab lost)=some C/\s=Pv D L G lost C
def D5.same {L G lost s s':Nat} (h:D5 D L G lost s) (b:D5 D L G lost s'):s=s':=by
 obtain ⟨C,c,d⟩:=h.fn;obtain ⟨f,a,e⟩:=b.fn;rw [c] at a;rw [d,e,XG a]
section
variable {D L G lost:Nat} {C:Ck} (hD:D<=12) (hL4:L<=4) (hG:G<=4) (h16:D+L+G<=16) (hl:lost<2^(D+L+G)) (hC:tells (fw D L G) (ab lost)=some C)
include hD hG h16 hl hC
theorem KV (k:Nat) (z:k<=D+L+G):KT (mf (aO D L G)) D (L+G) lost (D+L+G-k) (rdTo (D+L+G) (lost,C) k):=by
 have l:=iQ D L G hD hG;have e:D+(L+G)=D+L+G:=by omega
 have w:∀ i,i∈ab lost↔i<D+(L+G)/\lost.testBit i=Z9:=λi=>by
  rw [bX];constructor
  . rintro ⟨_,q⟩;refine ⟨?_,q⟩;by_cases x:i<D+(L+G)
    . exact x
    . rw [Nat.testBit_lt_two_pow (Nat.lt_of_lt_of_le hl (Nat.pow_le_pow_right (by decide) (by omega)))] at q;cases q
  . rintro ⟨A,y⟩;exact ⟨by omega,y⟩
 rcases l.told (ab lost) with ⟨o,d,n⟩|⟨d,_⟩
 . have b:tells (fw D L G) (ab lost)=some o:=d;rw [hC] at b;obtain rfl:=XG b;have v:∀ (K:List Nat) (a:Ck),tells (fw D L G) K=some a->LI a.m a.count:=by
    intro K;obtain ⟨f,rfl⟩:∃ f,K=f.reverse:=⟨K.reverse,by simp⟩;induction f with
    | nil=>
     intro a h;have:fw D L G=a:=XG h;subst this;exact LI.first _ D (L+G)
    | cons i K ih=>
     intro a h;rw [List.reverse_cons,iD] at h;obtain ⟨p,g,t⟩:=Option.bind_eq_some_iff.1 h;rcases l.told K.reverse with ⟨r,j,u⟩|⟨j,_⟩
     . have c:tells (fw D L G) K.reverse=some r:=j;rw [g] at c;obtain rfl:=XG c;exact (ih p g).step u.byt t
     . have c:tells (fw D L G) K.reverse=none:=j;rw [g] at c;cases c
   have s:KT (mf (aO D L G)) D (L+G) lost (D+(L+G)) (lost,C):=⟨⟨ab lost,hC,n,nK _,w⟩,v _ _ hC,λi d n=>by omega,λ_ q=>q,λ_ _ q=>q,by rw [e];exact hl⟩;have:=s.to l k (by omega);rw [e] at this;exact this
 . have b:tells (fw D L G) (ab lost)=none:=d;rw [hC] at b;cases b
include hL4 in
def Pw (k:Nat) (a:k<=D+L+G):dY (rdTo (D+L+G) (lost,C) k).2:=by
 obtain ⟨K,h,_⟩:=(KV hD hG h16 hl hC k a).l;exact zm hD hL4 hG h
theorem Px:D5 D L G lost (Pv D L G lost C):=by
 have a:=iQ D L G hD hG;have h:=KV hD hG h16 hl hC (D+L+G) lR;rw [Nat.sub_self] at h;have q:=h.full a;obtain ⟨⟨K,hK,c,g,j⟩,o,p,k,d,f⟩:=h;have e:D+(L+G)=D+L+G:=by omega
 have b:K.Perm (ab (av (D+L+G) (Pv D L G lost C))):=(List.perm_ext_iff_of_nodup g (nK _)).2 λi=>by rw [j,cM h16,e];rfl
 refine ⟨k,d,by rw [<- e];exact f,?_,?_,C,hC,rfl⟩
 . rw [<- tF hD hG h16];unfold qt;rw [Bn _ _ _ h16];have:=a.full c;rw [e] at this;rw [show (λi=>i∉ab (av (D+L+G) (Pv D L G lost C)))=λi=>i∉K from funext λi=>by rw [b.mem_iff]];exact this
 . have l:=wY (D+L+G) (Pv D L G lost C) h16;have m:=b.length_eq;have n:=c.told;omega
end
end
