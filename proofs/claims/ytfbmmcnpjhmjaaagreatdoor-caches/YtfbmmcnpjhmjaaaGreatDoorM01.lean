set_option maxRecDepth 100000
set_option linter.defProp false
set_option maxHeartbeats 8000000
open Bool renaming true -> Z9
open Nat renaming xor_self -> XG, xor_assoc -> XH, zero_xor -> XJ, xor_comm -> XK, xor_zero -> XL, le_refl -> XM, mod_two_eq_zero_or_one -> XP, le_trans -> XT, mul_comm -> XU, xor_mod_two_pow -> XW, lt_of_lt_of_le -> XX, pow_lt_pow_right -> XY
open List renaming mem_cons_of_mem -> XI, mem_cons_self -> XN, getElem_mem -> XO, mem_range -> XQ, getElem_of_mem -> XR, range -> XS, nodup_cons -> XV, getElem?_eq_none -> XZ, find?_eq_none -> X0, foldl_append -> X1, getElem_append_right -> X3, getElem_append_left -> X4, filter_append -> X5, foldl_cons -> X6
open Option renaming map_eq_some_iff -> X2
namespace Go.Proofs.YtfbmmcnpjhmjaaaGreatDoor.Gf
variable {R R' X:(Nat->Nat)->Prop} {T T':List (List Nat)} {L:List Nat} {x y a i b c r n k D j cnt s P:Nat} {u f:Nat->Nat} {m M:Nat->Nat->Nat} {Q:Nat->Prop}
def tx (a:Nat):Nat:=if a<128 then 2*a else (2*a-256)^^^29
def yv:Nat->Nat->Nat->Nat->Nat
 | 0,_,_,p=>p
 | n+1,a,b,p=>yv n (tx a) (b/2) (if b%2=1 then p^^^a else p)
def gm (a b:Nat):Nat:=yv 8 a b 0
def NX:Nat->Nat->Nat->Nat
 | 0,_,v=>v
 | n+1,p,v=>NX n (gm p p) (gm v (gm p p))
def gi (a:Nat):Nat:=NX 7 a 1
def j8 (a:x<256) (b:y<256):x^^^y<256:=Nat.xor_lt_two_pow (n:=8) a b
theorem Ad (h:a<256):tx a<256:=by
 unfold tx;split
 . omega
 . exact j8 (by omega) (by decide)
theorem On (n:Nat):∀ a b p,a<256->p<256->yv n a b p<256:=by
 induction n with
 | zero=>intro a b p _ c;exact c
 | succ n ih=>
  intro a b p d c;unfold yv;refine ih _ _ _ (Ad d) ?_;split
  . exact j8 c d
  . exact c
def aV (b:Nat) (c:a<256):gm a b<256:=On 8 a b 0 c (by decide)
def Oo (n:Nat):∀ p v,p<256->v<256->NX n p v<256:=by
 induction n with
 | zero=>intro p v _ a;exact a
 | succ n ih=>intro p v b a;unfold NX;exact ih _ _ (aV _ b) (aV _ a)
def dh (h:a<256):gi a<256:=Oo 7 a 1 h (by decide)
def Ae (x y:Nat):2*(x^^^y)=(2*x)^^^(2*y):=by
 have:=Nat.shiftLeft_xor_distrib (a:=x) (b:=y) (i:=1);simp only [Nat.shiftLeft_eq,Nat.pow_one] at this;rw [XU,this,XU x,XU y]
def IX (x y:Nat):(x^^^y)/2=(x/2)^^^(y/2):=Nat.xor_div_two
def Af (x y:Nat):(x^^^y)%2=(x%2+y%2)%2:=by
 have h:=XW (a:=x) (b:=y) (n:=1);simp only [Nat.pow_one] at h;rw [h];have c:=XP x;have d:=XP y;rcases c with c|c<;>rcases d with d|d<;>rw [c,d]<;>rfl
def IY (a b c d:Nat):(a^^^b)^^^(c^^^d)=(a^^^c)^^^(b^^^d):=by
 rw [XH,XH,<- XH b c d,XK b c,XH c b d]
def IZ:∀ a,a<256->tx a=(2*a)%256^^^(if a/128%2=1 then 29 else 0):=by decide +kernel
def Oq (x y:Nat):(x^^^y)/128%2=(x/128%2+y/128%2)%2:=by
 have:(x^^^y)/128=(x/128)^^^(y/128):=Nat.xor_div_two_pow (n:=7);rw [this];exact Af _ _
theorem Ot (c:x<256) (d:y<256):tx (x^^^y)=tx x^^^tx y:=by
 rw [IZ _ (j8 c d),IZ _ c,IZ _ d,IY,Ae];have h:=XW (a:=2*x) (b:=2*y) (n:=8);have e:(2:Nat)^8=256:=rfl;rw [e] at h;rw [h,Oq];congr 1;have c:=XP (x/128);have d:=XP (y/128);rcases c with c|c<;>rcases d with d|d<;>rw [c,d]<;>rfl
theorem FK (n:Nat):∀ a b c p q,yv n a (b^^^c) (p^^^q)=yv n a b p^^^yv n a c q:=by
 induction n with
 | zero=>intro a b c p q;rfl
 | succ n ih=>
  intro a b c p q;simp only [yv];rw [IX,<- ih,Af];congr 1;have d:=XP b;have e:=XP c;rcases d with d|d<;>rcases e with e|e<;>rw [d,e]<;>simp
  . rw [XH]
  . rw [XH,XK q a,<- XH]
  . rw [IY,XG,XL]
theorem FL (n:Nat):∀ a d b p q,a<256->d<256->yv n (a^^^d) b (p^^^q)=yv n a b p^^^yv n d b q:=by
 induction n with
 | zero=>intro a d b p q _ _;rfl
 | succ n ih=>
  intro a d b p q c e;simp only [yv];rw [Ot c e,<- ih _ _ _ _ _ (Ad c) (Ad e)];congr 1;by_cases h:b%2=1
  . simp only [h,if_true];exact IY _ _ _ _
  . simp only [h,if_false]
def ef (a b c:Nat):gm a (b^^^c)=gm a b^^^gm a c:=FK 8 a b c 0 0
def eh {d:Nat} (b:Nat) (c:a<256) (e:d<256):gm (a^^^d) b=gm a b^^^gm d b:=FL 8 a d b 0 0 c e
def Ql:∀ x,x<256->x=(if x%2=1 then 1 else 0)^^^((if x/2%2=1 then 2 else 0)^^^((if x/4%2=1 then 4 else 0)^^^((if x/8%2=1 then 8 else 0)^^^((if x/16%2=1 then 16 else 0)^^^((if x/32%2=1 then 32 else 0)^^^((if x/64%2=1 then 64 else 0)^^^(if x/128%2=1 then 128 else 0))))))):=by
 decide +kernel
theorem fx (f g:Nat->Nat) (d:∀ x y,x<256->y<256->f (x^^^y)=f x^^^f y) (j:∀ x y,x<256->y<256->g (x^^^y)=g x^^^g y)
 (h:∀ i,i<8->f (2^i)=g (2^i)) (x:Nat) (C:x<256):f x=g x:=by
 have A:f 0=0:=by have:=d 0 0 (by decide) (by decide);rw [XG,XG] at this;exact this
 have B:g 0=0:=by have:=j 0 0 (by decide) (by decide);rw [XG,XG] at this;exact this
 have one:∀ (c:Prop) [Decidable c] (i:Nat),i<8->f (if c then 2^i else 0)=g (if c then 2^i else 0):=by
  intro c _ i a;split
  . exact h i a
  . rw [A,B]
 have lt:∀ (c:Prop) [Decidable c] (i:Nat),i<8->(if c then 2^i else 0)<256:=by
  intro c _ i a;split
  . exact XX (XY (by decide) a) (by decide)
  . decide
 have st:∀ (c:Prop) [Decidable c] (i y:Nat),i<8->y<256->f y=g y->f ((if c then 2^i else 0)^^^y)=g ((if c then 2^i else 0)^^^y):=by
  intro c _ i y a k e;rw [d _ _ (lt c i a) k,j _ _ (lt c i a) k,one c i a,e]
 have p:=lt (x/128%2=1) 7 (by decide);have o:=j8 (lt (x/64%2=1) 6 (by decide)) p;have n:=j8 (lt (x/32%2=1) 5 (by decide)) o;have l4:=j8 (lt (x/16%2=1) 4 (by decide)) n;have m:=j8 (lt (x/8%2=1) 3 (by decide)) l4;have l:=j8 (lt (x/4%2=1) 2 (by decide)) m;have l1:=j8 (lt (x/2%2=1) 1 (by decide)) l;have z:=one (x/128%2=1) 7 (by decide);have w:=st (x/64%2=1) 6 _ (by decide) p z;have v:=st (x/32%2=1) 5 _ (by decide) o w;have u:=st (x/16%2=1) 4 _ (by decide) n v;have t:=st (x/8%2=1) 3 _ (by decide) l4 u;have r:=st (x/4%2=1) 2 _ (by decide) m t;have q:=st (x/2%2=1) 1 _ (by decide) l r;have b:=st (x%2=1) 0 _ (by decide) l1 q;have s:=Ql x C;simp only [Nat.reducePow] at b;rw [<- s] at b;exact b
def CH:∀ i,i<8->∀ j,j<8->gm (2^i) (2^j)=gm (2^j) (2^i):=by decide +kernel
def Ag:∀ i,i<8->∀ j,j<8->∀ k,k<8->gm (gm (2^i) (2^j)) (2^k)=gm (2^i) (gm (2^j) (2^k)):=by decide +kernel
def I0 (a:i<8):2^i<256:=XX (XY (by decide) a) (by decide)
def bK (e:a<256) (f:b<256):gm a b=gm b a:=by
 refine fx (λx=>gm a x) (λx=>gm x a) (λx y _ _=>ef a x y) (λx y c d=>eh a c d) (λi g=>?_) b f;refine fx (λx=>gm x (2^i)) (λx=>gm (2^i) x) (λx y c d=>eh _ c d) (λx y _ _=>ef _ x y) (λj h=>?_) a e;exact CH j h i g
def aZ (g:a<256) (h:b<256) (l:c<256):gm (gm a b) c=gm a (gm b c):=by
 refine fx (λx=>gm (gm x b) c) (λx=>gm x (gm b c)) (λx y d e=>?_) (λx y d e=>eh _ d e) (λi f=>?_) a g
 . show gm (gm (x^^^y) b) c=_;rw [eh _ d e,eh _ (aV _ d) (aV _ e)]
 refine fx (λx=>gm (gm (2^i) x) c) (λx=>gm (2^i) (gm x c)) (λx y d e=>?_) (λx y d e=>?_) (λj m=>?_) b h
 . show gm (gm (2^i) (x^^^y)) c=_;rw [ef,eh _ (aV _ (I0 f)) (aV _ (I0 f))]
 . show gm (2^i) (gm (x^^^y) c)=_;rw [eh _ d e,ef]
 refine fx (λx=>gm (gm (2^i) (2^j)) x) (λx=>gm (2^i) (gm (2^j) x)) (λx y _ _=>ef _ x y) (λx y _ _=>?_) (λk n=>?_) c l
 . show gm (2^i) (gm (2^j) (x^^^y))=_;rw [ef,ef]
 exact Ag i f j m k n
def cD:∀ a,a<256->gm a 1=a:=by decide +kernel
def jO:∀ a,a<256->a≠0->gm a (gi a)=1:=by decide +kernel
def bm (a:Nat):gm a 0=0:=by have:=ef a 0 0;rw [XG,XG] at this;exact this
def bC (b:Nat):gm 0 b=0:=by have:=eh (a:=0) (d:=0) b (by decide) (by decide);rw [XG,XG] at this;exact this
def bq (v:Nat->Nat):Prop:=∀ j,v j<256
def cH (u:Nat->Nat) (a:Nat) (r:Nat->Nat):Nat->Nat:=λj=>u j^^^gm a (r j)
def aM (R:(Nat->Nat)->Prop) (v:Nat->Nat):Prop:=∀ S:(Nat->Nat)->Prop,S (λ_=>0)->(∀ a r u,a<256->R r->S u->S (cH u a r))->S v
def aM.zero (R:(Nat->Nat)->Prop):aM R (λ_=>0):=λ_ a _=>a
def aM.step {r:Nat->Nat} (f:aM R u) (d:a<256) (e:R r):aM R (cH u a r):=λS c b=>b a r u d e (f S c b)
def aM.byte {v:Nat->Nat} (h:aM R v):bq v:=
 h bq (λ_=>by show 0<256;decide) (λ_ _ _ a _ b j=>j8 (b j) (aV _ a))
theorem vV (u:Nat->Nat) (r:Nat->Nat):cH u 0 r=u:=by funext j;simp [cH,bC]
theorem aM.mem {r:Nat->Nat} (b:bq r) (c:R r):aM R r:=by
 have:=aM.step (aM.zero R) (a:=1) (by decide) c;have e:cH (λ_=>0) 1 r=r:=by
  funext j;show 0^^^gm 1 (r j)=r j;rw [bK (by decide) (b j),cD _ (b j),XJ]
 rw [e] at this;exact this
theorem aM.add (f:∀ r,R r->bq r) {u v:Nat->Nat} (h:aM R u) {b:Nat} (c:b<256) (i:aM R v):aM R (cH u b v):=by
 refine i (λx=>aM R (cH u b x)) ?_ ?_
 . have e:cH u b (λ_=>0)=u:=(by funext j;simp [cH,bm]);show aM R (cH u b (λ_=>0));rw [e];exact h
 . intro a r x g d k;have e:cH u b (cH x a r)=cH (cH u b x) (gm b a) r:=by
    funext j;show u j^^^gm b (x j^^^gm a (r j))=(u j^^^gm b (x j))^^^gm (gm b a) (r j);rw [ef,aZ c g (f r d j),XH]
   show aM R (cH u b (cH x a r));rw [e];exact k.step (aV _ c) d
def aM.sub (a:∀ r,R r->bq r) (h:∀ r,R' r->aM R r) {v:Nat->Nat} (e:aM R' v):aM R v:=
 e (aM R) (aM.zero R) (λ_ r _ b c d=>aM.add a d b (h r c))
def aM.TT (h:∀ r,R r->r c=0) {v:Nat->Nat} (b:aM R v):v c=0:=
 b (λx=>x c=0) rfl (λa r u _ hr (hu:u c=0)=>by show u c^^^gm a (r c)=0;rw [hu,h r hr,bm];exact XG 0)
theorem aM.UG {R1:(Nat->Nat)->Prop} {p:Nat->Nat} (m:∀ r,R r->bq r) (B:R p) (I:p c≠0)
 (o:∀ r,R1 r->∃ q f,R q/\f<256/\r=cH q f p/\r c=0)
 (F:∀ q,R q->q=p\/∃ f r,f<256/\R1 r/\q=cH r f p) (v:Nat->Nat):aM R1 v↔aM R v/\v c=0:=by
 have L:∀ r,R1 r->bq r:=by
  intro r d;obtain ⟨q,f,l,n,rfl,_⟩:=o r d;exact λj=>j8 (m q l j) (aV _ n)
 constructor
 . intro w;refine ⟨aM.sub m (λr d=>?_) w,aM.TT (λr d=>?_) w⟩
   . obtain ⟨q,f,l,n,rfl,_⟩:=o r d;exact (aM.mem (m q l) l).step n B
   . obtain ⟨q,f,_,_,_,h⟩:=o r d;exact h
 . rintro ⟨w,J⟩;have key:∃ b,b<256/\aM R1 (cH v b p):=by
    refine w (λx=>∃ b,b<256/\aM R1 (cH x b p)) ⟨0,by decide,by rw [vV];exact aM.zero R1⟩ ?_;rintro a q u k l ⟨b,g,D⟩;rcases F q l with rfl|⟨f,r,n,d,rfl⟩
    . refine ⟨b^^^a,j8 g k,?_⟩;have e:cH (cH u a q) (b^^^a) q=cH u b q:=by
       funext j;show (u j^^^gm a (q j))^^^gm (b^^^a) (q j)=u j^^^gm b (q j);rw [eh _ g k,XH,XK (gm b (q j)),<- XH (gm a (q j)),XG,XJ]
      rw [e];exact D
    . refine ⟨b^^^gm a f,j8 g (aV _ k),?_⟩;have e:cH (cH u a (cH r f p)) (b^^^gm a f) p=cH (cH u b p) a r:=by
       funext j;show (u j^^^gm a (r j^^^gm f (p j)))^^^gm (b^^^gm a f) (p j)=(u j^^^gm b (p j))^^^gm a (r j);rw [ef,eh _ g (aV _ k),aZ k n (m p B j)];generalize gm a (gm f (p j))=t;generalize gm b (p j)=s;generalize gm a (r j)=y;generalize u j=z;apply Nat.eq_of_testBit_eq;intro i;simp only [Nat.testBit_xor];cases z.testBit i<;>cases y.testBit i<;>cases t.testBit i<;>cases s.testBit i<;>rfl
      rw [e];exact D.step k d
   obtain ⟨b,g,C⟩:=key;have E:=aM.TT (λr d=>by obtain ⟨q,f,_,_,_,h⟩:=o r d;exact h) C;have G:gm b (p c)=0:=by
    have:v c^^^gm b (p c)=0:=E;rwa [J,XJ] at this
   have H:b=0:=by
    have A:=m p B c;have K:=dh A;have e:=aZ g A K;rw [G,bC,jO _ A I,cD b g] at e;exact e.symm
   rw [H,vV] at C;exact C
def dI:Nat->((Nat->Nat)->Prop)->Nat->Nat->Prop
 | 0,_,_,k=>k=0
 | n+1,R,c,k=>((∀ r,R r->r c=0)/\dI n R (c+1) k)\/(∃ p,R p/\p c≠0)/\∃ R1,(∀ r,R1 r->bq r)/\(∀ v,aM R1 v↔aM R v/\v c=0)/\∃ k',k=k'+1/\dI n R1 (c+1) k'
def lh (l:List Nat):Nat->Nat:=λj=>l.getD j 0
def oe (T:List (List Nat)) (r:Nat):(Nat->Nat)->Prop:=λv=>∃ i,∃ h:i<T.length,r<=i/\v=lh T[i]
def I1 {l:List Nat} (h:∀ x∈l,x<256):bq (lh l):=by
 intro j;unfold lh;by_cases a:j<l.length
 . have e:l.getD j 0=l[j]:=(by simp [a]);rw [e];exact h _ (XO a)
 . have e:l.getD j 0=0:=(by simp [XZ (Nat.not_lt.1 a)]);rw [e];decide
def og (h:∀ l∈T,∀ x∈l,x<256) (r:Nat):∀ v,oe T r v->bq v:=by
 rintro v ⟨i,a,_,rfl⟩;exact I1 (h _ (XO a))
theorem iA (q p:Nat->Nat) (f:Nat):cH (cH q f p) f p=q:=by
 funext j;show (q j^^^gm f (p j))^^^gm f (p j)=q j;rw [XH,XG,XL]
def CJ (h:∀ i (a:i<T.length),r<=i->lh T[i] c=0) (d:dI n (oe T r) (c+1) k):dI (n+1) (oe T r) c k:=
 .inl ⟨by rintro v ⟨i,a,b,rfl⟩;exact h i a b,d⟩
theorem Ah {p:Nat} (y:∀ l∈T,∀ x∈l,x<256) (t:∀ l∈T',∀ x∈l,x<256) (B:T'.length=T.length) (m:r<=p) (o:p<T.length) (j:lh T[p] c≠0)
 (d:∀ i (g:i<T'.length),r<i->∃ f,∃ h:(if i=p then r else i)<T.length,f<256/\lh T'[i]=cH (lh T[if i=p then r else i]) f (lh T[p])/\lh T'[i] c=0)
 (A:dI n (oe T' (r+1)) (c+1) k):dI (n+1) (oe T r) c (k+1):=by
 have w:=og y r;refine .inr ⟨⟨lh T[p],⟨p,o,m,rfl⟩,j⟩,oe T' (r+1),og t (r+1),?_,k,rfl,A⟩;refine aM.UG (p:=lh T[p]) w ⟨p,o,m,rfl⟩ j ?_ ?_
 . rintro v ⟨i,g,u,rfl⟩;obtain ⟨f,h,b,e,z⟩:=d i g (by omega);exact ⟨_,f,⟨_,h,by split<;>omega,rfl⟩,b,e,z⟩
 . rintro q ⟨i,g,u,rfl⟩;by_cases e:i=p
   . subst e;exact .inl rfl
   . right;by_cases s:i=r
     . subst s;obtain ⟨f,h,b,a,_⟩:=d p (by omega) (by omega);simp only [if_pos] at a;refine ⟨f,lh T'[p],b,⟨p,by omega,by omega,rfl⟩,?_⟩;rw [a,iA]
     . obtain ⟨f,h,b,a,_⟩:=d i (by omega) (by omega);simp only [if_neg e] at a;refine ⟨f,lh T'[i],b,⟨i,by omega,by omega,rfl⟩,?_⟩;rw [a,iA]
def sA (b:x<256) (a:y<256) (h:y≠0):x^^^gm (gm x (gi y)) y=0:=by
 rw [aZ b (dh a) a,bK (dh a) a,jO y a h,cD x b,XG]
def sB (D:List (List Nat)) (k:Nat):Prop:=dI 64 (oe D 0) 0 k
theorem FM (e:T.length=T'.length) (h:∀ i (c:i<T.length) (d:i<T'.length),lh T[i]=lh T'[i]) (r:Nat):oe T r=oe T' r:=by
 funext v;apply propext;constructor
 . rintro ⟨i,a,b,rfl⟩;exact ⟨i,by omega,b,h i a (by omega)⟩
 . rintro ⟨i,a,b,rfl⟩;exact ⟨i,by omega,b,(h i (by omega) a).symm⟩
def mP (R:(Nat->Nat)->Prop) (c m:Nat):Prop:=∀ v,bq v->(∀ j,j<c\/c+m<=j->v j=0)->aM R v
def dt (m:Nat):Nat->Nat:=λj=>if j=m then 1 else 0
theorem j9 (m:Nat):bq (dt m):=λj=>by unfold dt;split<;>decide
def dI.le:∀ n (R:(Nat->Nat)->Prop) (c k m:Nat),(∀ j,c+m<=j->∀ r,R r->r j=0)->dI n R c k->k<=m
 | 0,_,_,_,_,_,h=>by rw [h];exact Nat.zero_le _
 | n+1,R,c,k,m,hz,h=>by
  rcases h with ⟨_,h⟩|⟨⟨p,i,g⟩,d,e,f,k1,rfl,h⟩
  . cases m with
    | zero=>exact dI.le n R (c+1) k 0 (λj a=>hz j (by omega)) h
    | succ m=>exact Nat.le_succ_of_le (dI.le n R (c+1) k m (λj a=>hz j (by omega)) h)
  . cases m with
    | zero=>exact absurd (hz c (by omega) p i) g
    | succ m=>
     have:=dI.le n d (c+1) k1 m (λj a r b=>aM.TT (hz j (by omega)) ((f r).1 (aM.mem (e r b) b)).1) h;omega
theorem dI.US:∀ n (R:(Nat->Nat)->Prop) (c m:Nat),(∀ r,R r->bq r)->(∀ j,c+m<=j->∀ r,R r->r j=0)->(∀ j,j<c->∀ r,R r->r j=0)->dI n R c m->mP R c m
 | 0,R,c,m,hb,hz,hl,h=>by
  intro v _ d;obtain rfl:m=0:=h;have e:v=λ_=>0:=by funext j;exact d j (by omega)
  rw [e];exact aM.zero R
 | n+1,R,c,m,hb,hz,hl,h=>by
  cases m with
  | zero=>
   intro v _ d;have e:v=λ_=>0:=(by funext j;exact d j (by omega));rw [e];exact aM.zero R
  | succ m=>
   rcases h with ⟨y,h⟩|⟨⟨p,f,t⟩,g,k,i,k1,e,h⟩
   . have:=dI.le n R (c+1) (m+1) m (λj b=>hz j (by omega)) h;omega
   . obtain rfl:k1=m:=(by omega);have sub:=λr (a:g r)=>(i r).1 (aM.mem (k r a) a);have ih:=dI.US n g (c+1) k1 k (λj b r a=>aM.TT (hz j (by omega)) (sub r a).1)
      (λj b r a=>by
       by_cases e:j=c
       . rw [e];exact (sub r a).2
       . exact aM.TT (hl j (by omega)) (sub r a).1) h
     intro v d w;have o:=d c;have u:=hb p f c;have l:=aV (gi (p c)) o;have x:=ih (cH v (gm (v c) (gi (p c))) p) (λj=>j8 (d j) (aV _ l)) (by
      intro j b;show v j^^^gm (gm (v c) (gi (p c))) (p j)=0;by_cases e:j=c
      . rw [e];exact sA o u t
      . have q:v j=0:=w j (by omega);have s:p j=0:=by
         rcases b with b|b
         . exact hl j (by omega) p f
         . exact hz j (by omega) p f
        rw [q,s,bm,XG])
     have:=((i _).1 x).1.step l f;rwa [iA] at this
def dI.UQ:∀ n (R:(Nat->Nat)->Prop) (c k m:Nat),m<=n->(∀ j,c+m<=j->∀ r,R r->r j=0)->mP R c m->dI n R c k->k=m
 | 0,_,_,_,m,hm,_,_,h=>by rw [h];omega
 | n+1,R,c,k,m,hm,hz,hF,h=>by
  cases m with
  | zero=>have:=dI.le (n+1) R c k 0 hz h;omega
  | succ m=>
   rcases h with ⟨g,h⟩|⟨⟨p,s,q⟩,f,l,a,k1,rfl,h⟩
   . have i:=hF (dt c) (j9 c) (λj d=>if_neg (by omega));have:=aM.TT g i;simp [dt] at this
   . have:=dI.UQ n f (c+1) k1 m (by omega) (λj d r e=>aM.TT (hz j (by omega)) ((a r).1 (aM.mem (l r e) e)).1)
      (λv o b=>(a v).2 ⟨hF v o (λj d=>b j (by omega)),b c (by omega)⟩) h
     omega
theorem FN {D:List (List Nat)} {m:Nat} (d:∀ l∈D,∀ x∈l,x<256) (f:∀ l∈D,l.length<=m) (g:m<=64) (h:sB D k):k=m↔mP (oe D 0) 0 m:=by
 have b:∀ j,0+m<=j->∀ r,oe D 0 r->r j=0:=by
  rintro j a r ⟨i,e,_,rfl⟩;unfold lh;have:=f _ (XO e);simp [XZ (show (D[i]).length<=j by omega)]
 constructor
 . rintro rfl;exact dI.US 64 _ 0 k (og d 0) b (λj a=>absurd a (by omega)) h
 . intro c;exact dI.UQ 64 _ 0 k m g b c h
def mP.mono {m:Nat} (h:mP R c m) (g:∀ r,R r->R' r):mP R' c m:=
 λv j k S b d=>h v j k S b (λa r u e f i=>d a r u e (g r f) i)
theorem mP.Vz (f:∀ r,R r->bq r) {m:Nat} (h:∀ j,j<m->aM R (dt j)):mP R 0 m:=by
 intro v d g;have key:∀ t,t<=m->aM R (λj=>if j<t then v j else 0):=by
  intro t;induction t with
  | zero=>intro _;exact aM.zero R
  | succ t ih=>
   intro i;have:=aM.add f (ih (by omega)) (d t) (h t (by omega));have e:cH (λj=>if j<t then v j else 0) (v t) (dt t)=λj=>if j<t+1 then v j else 0:=by
    funext j;show (if j<t then v j else 0)^^^gm (v t) (if j=t then 1 else 0)=if j<t+1 then v j else 0;by_cases a:j=t
    . subst a;simp [cD _ (d j)]
    . rw [if_neg a,bm,XL];by_cases b:j<t
      . rw [if_pos b,if_pos (by omega)]
      . rw [if_neg b,if_neg (by omega)]
   rwa [e] at this
 have:=key m (XM _);have e:(λj=>if j<m then v j else 0)=v:=by
  funext j;by_cases c:j<m
  . rw [if_pos c]
  . rw [if_neg c];exact (g j (by omega)).symm
 rwa [e] at this
def jt (L:List Nat) (u:Nat->Nat) (x:Nat):Nat->Nat:=λj=>if j∈L then gm (u j) (gi (x^^^j)) else 0
theorem ju (h:x≠y):x^^^y≠0:=λe=>h (by
 have:=congrArg (λt=>t^^^y) e;simpa [XH] using this)
def I2 (d:a<256) (c:b<256) (f:a≠0) (g:b≠0):gm a b≠0:=by
 intro e;have:=aZ d c (dh c);rw [e,bC,jO b c g,cD a d] at this;exact f this.symm
def I3 (b:a<256) (h:a≠0):gi a≠0:=by
 intro e;have:=jO a b h;rw [e,bm] at this;exact absurd this (by decide)
def ET (d:a<256) (c:b<256) (h:b≠0):gm a (gi b)=1^^^gm (a^^^b) (gi b):=by
 rw [eh _ d c,jO b c h,XK (gm a (gi b)) 1,<- XH,XG,XJ]
def Ou (e:a<256) (f:b<256) (g:a≠0) (h:b≠0):gi a^^^gi b=gm (a^^^b) (gm (gi a) (gi b)):=by
 have c:=dh e;have d:=dh f;rw [eh _ e f,<- aZ e c d,jO a e g,bK c d,<- aZ f d c,jO b f h,bK (by decide) d,bK (by decide) c,cD _ c,cD _ d,XK]
def nr (x y z:Nat):(x^^^z)^^^(y^^^z)=x^^^y:=by
 rw [XK y z,XH,<- XH z z,XG,XJ]
theorem I4 {x0 m u:Nat} (n:x<256) (h:x0<256) (k:m<256) (i:j<256) (e:u<256) (C:x≠x0) (s:x≠j) (v:x0≠j) :
 gm (gi (x^^^x0)) (gm (x^^^m) (gm u (gi (x^^^j)))^^^gm (x0^^^m) (gm u (gi (x0^^^j))))=gm (gm u (gm (j^^^m) (gi (x0^^^j)))) (gi (x^^^j)):=by
 have b1:=j8 n h;have b2:=j8 n i;have b3:=j8 h i;have p:=j8 n k;have q:=j8 h k;have b:=j8 i k;have c:=dh b1;have d:=dh b2;have o:=dh b3;have sw:∀ t g,t<256->g<256->gm t (gm u g)=gm u (gm t g):=λt g l w=>by
  rw [<- aZ l e w,bK l e,aZ e l w]
 rw [sw _ _ p d,sw _ _ q o,<- ef,ET p b2 (ju s),ET q b3 (ju v)];have z:(x^^^m)^^^(x^^^j)=j^^^m:=by rw [XK x m,XK x j,nr,XK]
 have A:(x0^^^m)^^^(x0^^^j)=j^^^m:=by rw [XK x0 m,XK x0 j,nr,XK]
 rw [z,A,IY,XG,XJ,<- ef,Ou b2 b3 (ju s) (ju v),nr];have f:gm (gi (x^^^j)) (gi (x0^^^j))<256:=aV _ d;have r:gm (x^^^x0) (gm (gi (x^^^j)) (gi (x0^^^j)))<256:=aV _ b1;have y:gm (j^^^m) (gi (x0^^^j))<256:=aV _ b;rw [sw _ _ c (aV _ b),aZ e y d,aZ b o d];refine congrArg (gm u) ?_;have B:gm (gi (x^^^x0)) (gm (x^^^x0) (gm (gi (x^^^j)) (gi (x0^^^j))))=gm (gi (x^^^j)) (gi (x0^^^j)):=by
  rw [<- aZ c b1 f,bK c b1,jO _ b1 (ju C),bK (a:=1) (by decide) f,cD _ f]
 rw [<- aZ c b r,bK c b,aZ b c r,B,bK d o]
theorem I5 (R:(Nat->Nat)->Prop) (s:∀ r,R r->bq r):∀ (L X:List Nat) (u:Nat->Nat),L.Nodup->X.Nodup->L.length<=X.length->(∀ j∈L,j<256/\u j<256/\u j≠0)->(∀ x∈X,x<256/\∀ j∈L,x≠j) ->
 (∀ x∈X,aM R (jt L u x))->∀ j∈L,aM R (dt j)
 | [],_,_,_,_,_,_,_,_=>λj c=>by cases c
 | m::L,[],_,_,_,h,_,_,_=>by simp at h
 | m::L,a::X,u,S,T,Z,D,A,N=>by
  obtain ⟨J,G⟩:=XV.1 S;obtain ⟨Q,U⟩:=XV.1 T;obtain ⟨v,f,hp⟩:=D m XN;obtain ⟨q,y⟩:=A a XN;have F:=N a XN;have ih:=I5 R s L X (λj=>gm (u j) (gm (j^^^m) (gi (a^^^j)))) G U (by simpa using Z)
   (λj c=>by
    obtain ⟨g,p,O⟩:=D j (XI _ c);have b1:=j8 g v;have b2:=j8 q g;have w:j≠m:=λe=>J (e▸c);exact ⟨g,aV _ p,I2 p (aV _ b1) O (I2 b1 (dh b2) (ju w) (I3 b2 (ju (y j (XI _ c)))))⟩)
   (λx l=>⟨(A x (XI _ l)).1,λj c=>(A x (XI _ l)).2 j (XI _ c)⟩)
   (λx l=>by
    obtain ⟨g,p⟩:=A x (XI _ l);have w:x≠a:=λe=>Q (e▸l);have b1:=j8 g q;have o:=dh b1;have b2:=j8 g v;have b3:=j8 q v;have t1:=aM.add s (aM.add s (aM.zero R) (aV (x^^^m) o) (N x (XI _ l))) (aV (a^^^m) o) F;have e:cH (cH (λ_=>0) (gm (gi (x^^^a)) (x^^^m)) (jt (m::L) u x)) (gm (gi (x^^^a)) (a^^^m)) (jt (m::L) u a)=jt L (λj=>gm (u j) (gm (j^^^m) (gi (a^^^j)))) x:=by
     funext j;show (0^^^gm (gm (gi (x^^^a)) (x^^^m)) (jt (m::L) u x j))^^^gm (gm (gi (x^^^a)) (a^^^m)) (jt (m::L) u a j)=_;rw [XJ];by_cases c:j∈L
     . obtain ⟨c1,B,c3⟩:=D j (XI _ c);have d1:=p j (XI _ c);have C:=y j (XI _ c);unfold jt;rw [if_pos (XI _ c),if_pos (XI _ c),if_pos c,aZ o b2 (aV _ B),aZ o b3 (aV _ B),<- ef,I4 g q v c1 B w d1 C]
     . by_cases I:j=m
       . subst I;unfold jt;have d1:=p j XN;have C:=y j XN;have sw:∀ t,t<256->t≠0->gm t (gm (u j) (gi t))=u j:=λt n h=>by
          rw [<- aZ n f (dh n),bK n f,aZ f n (dh n),jO t n h,cD _ f]
         rw [if_pos XN,if_pos XN,if_neg c,aZ o b2 (aV _ f),aZ o b3 (aV _ f),sw _ b2 (ju d1),sw _ b3 (ju C),XG]
       . unfold jt;have M:j∉m::L:=(by simp [I,c]);rw [if_neg M,if_neg M,if_neg c,bm,bm,XG]
    rwa [e] at t1)
  have hi:aM R (dt m):=by
   have key:∀ K:List Nat,(∀ j∈K,j∈L)->K.Nodup->aM R (λj=>if j∈K then 0 else jt (m::L) u a j):=by
    intro K;induction K with
    | nil=>intro _ _;simpa using F
    | cons k K E=>
     intro hK hk;obtain ⟨W,P⟩:=XV.1 hk;have Y:=hK k XN;have H:jt (m::L) u a k<256:=F.byte k;have t:=aM.add s (E (λj c=>hK j (XI _ c)) P) H (ih k Y);have e:cH (λj=>if j∈K then 0 else jt (m::L) u a j) (jt (m::L) u a k) (dt k)=λj=>if j∈k::K then 0 else jt (m::L) u a j:=by
      funext j;show (if j∈K then 0 else jt (m::L) u a j)^^^gm (jt (m::L) u a k) (if j=k then 1 else 0)=_;by_cases i:j=k
      . subst i;rw [if_neg W,if_pos rfl,cD _ H,XG,if_pos XN]
      . rw [if_neg i,bm,XL];by_cases d:j∈K
        . rw [if_pos d,if_pos (XI _ d)]
        . rw [if_neg d,if_neg (by simp [i,d])]
     rwa [e] at t
   have t:=key L (λ_ h=>h) G;have b:=j8 q v;have w:=ju (y m XN);have z:gm (u m) (gi (a^^^m))<256:=aV _ f;have V:gm (u m) (gi (a^^^m))≠0:=I2 f (dh b) hp (I3 b w);have t2:=aM.add s (aM.zero R) (dh z) t;have e:cH (λ_=>0) (gi (gm (u m) (gi (a^^^m)))) (λj=>if j∈L then 0 else jt (m::L) u a j)=dt m:=by
    funext j;show 0^^^gm (gi (gm (u m) (gi (a^^^m)))) (if j∈L then 0 else jt (m::L) u a j)=dt m j;rw [XJ];unfold dt jt;by_cases i:j=m
    . subst i;rw [if_neg J,if_pos XN,if_pos rfl,bK (dh z) z,jO _ z V]
    . rw [if_neg i];by_cases d:j∈L
      . rw [if_pos d,bm]
      . rw [if_neg d,if_neg (by simp [i,d]),bm]
   rwa [e] at t2
  intro j c;rcases List.mem_cons.1 c with rfl|c
  . exact hi
  . exact ih j c
structure Ck where
 m:Nat->Nat->Nat
 told:Nat
 count:Nat
def dX (C:Ck) (i:Nat):Option Nat:=(XS C.count).find? (λr=>decide (C.told<=r)&&decide (C.m r i≠0))
def eK {C:Ck} (h:dX C i=some r):C.told<=r/\r<C.count/\C.m r i≠0:=by
 unfold dX at h;have a:=List.find?_some h;have b:=List.mem_of_find?_eq_some h;simp at a b;exact ⟨a.1,b,a.2⟩
def ot {C:Ck} (h:dX C i=none) (r:Nat) (a:C.told<=r) (b:r<C.count):C.m r i=0:=by
 unfold dX at h;rw [X0] at h;have:=h r (XQ.2 b);simp [a] at this;exact this
def uY {C:Ck} (a:C.told<=r) (b:r<C.count) (c:C.m r i≠0) (d:∀ k,C.told<=k->k<r->C.m k i=0):dX C i=some r:=by
 unfold dX;rw [List.find?_range_eq_some];refine ⟨by simp [a,c],XQ.2 b,λj e=>?_⟩;by_cases h:C.told<=j
 . simp [d j h e]
 . simp [h]
def uZ {C:Ck} (h:∀ r,C.told<=r->r<C.count->C.m r i=0):dX C i=none:=by
 unfold dX;rw [X0];intro r b;by_cases a:C.told<=r
 . simp [h r a (XQ.1 b)]
 . simp [a]
def cK (m:Nat->Nat->Nat) (cnt r i:Nat):Nat->Nat->Nat:=λk j=>if k<cnt/\k≠r then m k j^^^gm (gm (m k i) (gi (m r i))) (m r j) else m k j
def bV (m:Nat->Nat->Nat) (a b:Nat):Nat->Nat->Nat:=λk=>if k=a then m b else if k=b then m a else m k
def dS (m:Nat->Nat->Nat) (r i:Nat):Nat->Nat->Nat:=λk j=>if k=r then gm (m r j) (gi (m r i)) else m k j
def jx (C:Ck) (i r:Nat):Ck:=⟨cK (dS (bV C.m C.told r) C.told i) C.count C.told i,C.told+1,C.count⟩
def gW (C:Ck) (i r:Nat):Ck:=⟨λk=>if k=r then cK C.m C.count r i (C.count-1) else cK C.m C.count r i k,C.told,C.count-1⟩
def ku (C:Ck) (i:Nat):Option Ck:=(dX C i).map (jx C i)
def iC (C:Ck) (i:Nat):Option Ck:=(dX C i).map (gW C i)
def we (C:Ck):Prop:=∀ r,bq (C.m r)
def mQ (C:Ck) (t:Nat):(Nat->Nat)->Prop:=λv=>∃ r,t<=r/\r<C.count/\v=C.m r
def wg {r:Nat->Nat} (c:bq u) (b:a<256):bq (cH u a r):=λj=>j8 (c j) (aV _ b)
theorem gv (h:k<cnt/\k≠r):cK m cnt r i k=cH (m k) (gm (m k i) (gi (m r i))) (m r):=by
 funext j;unfold cK cH;rw [if_pos h]
theorem mr (h:¬ (k<cnt/\k≠r)):cK m cnt r i k=m k:=by
 funext j;unfold cK;rw [if_neg h]
def ou (h:∀ k,bq (m k)) (k:Nat):bq (cK m cnt r i k):=by
 by_cases a:k<cnt/\k≠r
 . rw [gv a];exact wg (h k) (aV _ (h k i))
 . rw [mr a];exact h k
theorem fR (h:∀ k,bq (m k)) (k:Nat):bq (bV m a b k):=by
 unfold bV;split
 . exact h b
 . split
   . exact h a
   . exact h k
theorem ny (h:∀ k,bq (m k)) (k:Nat):bq (dS m r i k):=λj=>by
 unfold dS;split
 . exact aV _ (h r j)
 . exact h k j
def Ga {C:Ck} (h:we C):we (jx C i r):=ou (ny (fR h))
theorem nz {C:Ck} (h:we C):we (gW C i r):=λk=>by
 show bq (if k=r then _ else _);split
 . exact ou h _
 . exact ou h _
def wh {C:Ck} (h:we C) (t:Nat):∀ r,mQ C t r->bq r:=by
 rintro r ⟨k,_,_,rfl⟩;exact h k
def C6 (a:x<256) (b:y<256) (h:y≠0):x^^^gm (gm x (gi y)) y=0:=sA a b h
theorem C7 {C:Ck} {t:Nat} (b:we C) (s:t<=C.told) (n:C.told<=r) (l:r<C.count) (g:C.m r i≠0) (v:Nat->Nat) :
 aM (mQ (gW C i r) t) v↔aM (mQ C t) v/\v i=0:=by
 refine aM.UG (p:=C.m r) (wh b t) ⟨r,by omega,l,rfl⟩ g ?_ ?_ v
 . rintro q ⟨k,k1,k2,rfl⟩;have o:k<C.count-1:=k2;have key:∀ a,t<=a->a<C.count->a≠r->∃ q f,mQ C t q/\f<256/\cK C.m C.count r i a=cH q f (C.m r)/\cK C.m C.count r i a i=0:=by
    intro a g1 c d;refine ⟨C.m a,gm (C.m a i) (gi (C.m r i)),⟨a,g1,c,rfl⟩,aV _ (b a i),gv ⟨c,d⟩,?_⟩;rw [gv ⟨c,d⟩];exact C6 (b a i) (b r i) g
   show ∃ q f,mQ C t q/\f<256/\(if k=r then cK C.m C.count r i (C.count-1) else cK C.m C.count r i k)=cH q f (C.m r)/\(if k=r then cK C.m C.count r i (C.count-1) else cK C.m C.count r i k) i=0;by_cases e:k=r
   . rw [if_pos e];exact key (C.count-1) (by omega) (by omega) (by omega)
   . rw [if_neg e];exact key k k1 (by omega) e
 . rintro q ⟨k,k1,k2,rfl⟩;by_cases e:k=r
   . left;rw [e]
   . right;have j:cK C.m C.count r i k=cH (C.m k) (gm (C.m k i) (gi (C.m r i))) (C.m r):=gv ⟨k2,e⟩;refine ⟨gm (C.m k i) (gi (C.m r i)),cK C.m C.count r i k,aV _ (b k i),?_,?_⟩
     . by_cases h:k=C.count-1
       . refine ⟨r,by omega,by show r<C.count-1;omega,?_⟩;show _=(if r=r then cK C.m C.count r i (C.count-1) else cK C.m C.count r i r);rw [if_pos rfl,h]
       . refine ⟨k,k1,by show k<C.count-1;omega,?_⟩;show _=(if k=r then cK C.m C.count r i (C.count-1) else cK C.m C.count r i k);rw [if_neg e]
     . rw [j,iA]
def C8 {C:Ck} (c:k<C.told) (a:C.told<=r) (b:r<C.count):(gW C i r).m k=cH (C.m k) (gm (C.m k i) (gi (C.m r i))) (C.m r):=by
 show (if k=r then cK C.m C.count r i (C.count-1) else cK C.m C.count r i k)=_;rw [if_neg (by omega),gv ⟨by omega,by omega⟩]
def OE:gi 1=1:=by decide +kernel
theorem ox {C:Ck} (c:we C) (p:k<C.count) (d:k≠C.told) (o:C.m r i≠0) :
 (jx C i r).m k=cH (bV C.m C.told r k) (gm (bV C.m C.told r k i) (gi (C.m r i))) (C.m r):=by
 have h:bV C.m C.told r C.told=C.m r:=by unfold bV;rw [if_pos rfl]
 have l:dS (bV C.m C.told r) C.told i k=bV C.m C.told r k:=by funext j;unfold dS;rw [if_neg d]
 have n:dS (bV C.m C.told r) C.told i C.told=λj=>gm (C.m r j) (gi (C.m r i)):=by funext j;unfold dS;rw [if_pos rfl,h]
 show cK (dS (bV C.m C.told r) C.told i) C.count C.told i k=_;rw [gv ⟨p,d⟩,l,n];funext j;show _^^^gm (gm _ (gi (gm (C.m r i) (gi (C.m r i))))) (gm (C.m r j) (gi (C.m r i)))=_^^^gm (gm _ (gi (C.m r i))) (C.m r j);have g:=fR (a:=C.told) (b:=r) c k i;have f:=c r i;have e:=dh f;rw [jO _ f o,OE,cD _ g,bK (c r j) e,<- aZ g e (c r j)]
theorem As {C:Ck}:(jx C i r).m C.told=λj=>gm (C.m r j) (gi (C.m r i)):=by
 have a:bV C.m C.told r C.told=C.m r:=by unfold bV;rw [if_pos rfl]
 show cK (dS (bV C.m C.told r) C.told i) C.count C.told i C.told=_;rw [mr (by omega)];funext j;unfold dS;rw [if_pos rfl,a]
def oy (c:k≠a) (d:k≠b):bV m a b k=m k:=by unfold bV;rw [if_neg c,if_neg d]
theorem Gb {C:Ck} (b:we C) (n:C.told<=r) (l:r<C.count) (f:C.m r i≠0) (v:Nat->Nat) :
 aM (mQ (jx C i r) (C.told+1)) v↔aM (mQ C C.told) v/\v i=0:=by
 have o:∀ k,C.told+1<=k->k<C.count->∃ a,C.told<=a/\a<C.count/\a≠r/\bV C.m C.told r k=C.m a:=by
  intro k g1 c;by_cases e:k=r
  . refine ⟨C.told,by omega,by omega,by omega,?_⟩;unfold bV;rw [if_neg (by omega),if_pos e]
  . exact ⟨k,by omega,c,e,oy (by omega) e⟩
 refine aM.UG (p:=C.m r) (wh b _) ⟨r,n,l,rfl⟩ f ?_ ?_ v
 . rintro q ⟨k,k1,k2,rfl⟩;have j:k<C.count:=k2;obtain ⟨a,g1,c,s,e⟩:=o k k1 j;have d:=ox (i:=i) (r:=r) b j (by omega) f;rw [e] at d;refine ⟨C.m a,gm (C.m a i) (gi (C.m r i)),⟨a,g1,c,rfl⟩,aV _ (b a i),d,?_⟩;rw [d];exact C6 (b a i) (b r i) f
 . rintro q ⟨k,k1,k2,rfl⟩;by_cases e:k=r
   . left;rw [e]
   . right;have g:∃ a,C.told+1<=a/\a<C.count/\bV C.m C.told r a=C.m k:=by
      by_cases h:k=C.told
      . refine ⟨r,by omega,l,?_⟩;unfold bV;rw [if_neg (by omega),if_pos rfl,h]
      . exact ⟨k,by omega,k2,oy h e⟩
     obtain ⟨a,g1,c,ge⟩:=g;have d:=ox (i:=i) (r:=r) b c (by omega) f;rw [ge] at d;refine ⟨gm (C.m k i) (gi (C.m r i)),(jx C i r).m a,aV _ (b k i),⟨a,g1,c,rfl⟩,?_⟩;rw [d,iA]
def Qh (X:(Nat->Nat)->Prop):Prop:=X (λ_=>0)/\∀ a r u,a<256->X r->X u->X (cH u a r)
theorem Gc (c:Qh X) {C:Ck} {i r:Nat} (d:we C) (b:r<C.count) (h:∀ k,k<C.count->X (C.m k)):∀ k,k<(gW C i r).count->X ((gW C i r).m k):=by
 have key:∀ k,k<C.count->X (cK C.m C.count r i k):=by
  intro k a;by_cases e:k=r
  . rw [mr (by omega)];exact h k a
  . rw [gv ⟨a,e⟩];exact c.2 _ _ _ (aV _ (d k i)) (h r b) (h k a)
 intro k a;have f:k<C.count-1:=a;show X (if k=r then _ else _);split
 . exact key _ (by omega)
 . exact key _ (by omega)
theorem Jn (c:Qh X) {C:Ck} {i r:Nat} (a:we C) (n:C.told<=r) (b:r<C.count) (f:C.m r i≠0) (h:∀ k,k<C.count->X (C.m k)):∀ k,k<(jx C i r).count->X ((jx C i r).m k):=by
 intro k g;have d:k<C.count:=g;by_cases e:k=C.told
 . rw [e,As];have l:X (cH (λ_=>0) (gi (C.m r i)) (C.m r)):=c.2 _ _ _ (dh (a r i)) (h r b) c.1;have e:cH (λ_=>0) (gi (C.m r i)) (C.m r)=λj=>gm (C.m r j) (gi (C.m r i)):=by
    funext j;show 0^^^gm (gi (C.m r i)) (C.m r j)=_;rw [XJ,bK (dh (a r i)) (a r j)]
   rwa [e] at l
 . rw [ox a d e f];refine c.2 _ _ _ (aV _ (fR a _ _)) (h r b) ?_;unfold bV;split
   . exact h r b
   . split
     . exact h _ (by omega)
     . exact h k d
def tells (C:Ck) (L:List Nat):Option Ck:=L.foldl (λo i=>o.bind (λc=>ku c i)) (some C)
def iD (C:Ck) (L:List Nat) (i:Nat):tells C (L++[i])=(tells C L).bind (λc=>ku c i):=by unfold tells;rw [X1];rfl
def je (C:Ck) (L b:List Nat) (h:tells C L=none):tells C (L++b)=none:=by
 unfold tells at *;rw [X1,h];induction b with
 | nil=>rfl
 | cons a l ih=>exact ih
structure dU (C0:Ck) (X:(Nat->Nat)->Prop) (L:List Nat) (C:Ck):Prop where
 told:C.told=L.length
 count:C.count=C0.count
 le:C.told<=C.count
 byt:we C
 all:∀ k,k<C.count->X (C.m k)
 one:∀ k,k<L.length->∀ k' (h:k'<L.length),C.m k L[k']=if k=k' then 1 else 0
 spare:∀ v,aM (mQ C C.told) v↔aM (mQ C0 0) v/\∀ i∈L,v i=0
def dU.nil {C0:Ck} (a:C0.told=0) (c:we C0) (b:∀ k,k<C0.count->X (C0.m k)):dU C0 X [] C0:=
 ⟨a,rfl,by omega,c,b,λk d=>absurd d (by simp),λv=>by rw [a];simp⟩
theorem dU.snoc {C0 C C':Ck} (y:Qh X) (h:dU C0 X L C) (s:ku C i=some C'):dU C0 X (L++[i]) C':=by
 unfold ku at s;rw [X2] at s;obtain ⟨r,A,rfl⟩:=s;obtain ⟨p,q,g⟩:=eK A;have t:∀ j,j∈L->C.m r j=0:=λj d=>((h.spare (C.m r)).1 (aM.mem (h.byt r) ⟨r,p,q,rfl⟩)).2 j d;have u:=h.told;refine ⟨?_,h.count,by show C.told+1<=C.count;omega,Ga h.byt,Jn y h.byt p q g h.all,?_,?_⟩
 . show C.told+1=_;simp [u]
 . intro k z f x;simp at z x;by_cases e:k=L.length
   . have w:k=C.told:=(by omega);rw [w,As];by_cases n:f=L.length
     . subst n;rw [X3 (by omega)];simp [u,jO _ (h.byt r i) g]
     . have l:f<L.length:=(by omega);rw [X4 l];show gm (C.m r L[f]) _=_;rw [t _ (XO l),bC,if_neg (by omega)]
   . have l:k<L.length:=(by omega);rw [ox h.byt (by omega) (by omega) g,oy (by omega) (by omega)];by_cases n:f=L.length
     . subst n;rw [X3 (by omega)];simp only [Nat.sub_self,List.getElem_singleton];show C.m k i^^^gm (gm (C.m k i) (gi (C.m r i))) (C.m r i)=_;rw [C6 (h.byt k i) (h.byt r i) g,if_neg e]
     . have o:f<L.length:=(by omega);rw [X4 o];show C.m k L[f]^^^gm _ (C.m r L[f])=_;rw [t _ (XO o),bm,XL,h.one k l f o]
 . intro v;have:=Gb (i:=i) h.byt p q g v;show aM (mQ (jx C i r) (C.told+1)) v↔_;rw [this,h.spare v];constructor
   . rintro ⟨⟨a,b⟩,c⟩;exact ⟨a,λj d=>by rcases List.mem_append.1 d with d|d;exact b j d;rw [List.mem_singleton.1 d];exact c⟩
   . rintro ⟨a,b⟩;exact ⟨⟨a,λj d=>b j (List.mem_append_left _ d)⟩,b i (by simp)⟩
theorem dU.of {C0:Ck} (f:Qh X) (l:C0.told=0) (o:we C0) (n:∀ k,k<C0.count->X (C0.m k)):∀ (a L:List Nat) (C:Ck),dU C0 X L C->tells C0 L=some C ->
 (∃ b,tells C0 (L++a)=some b/\dU C0 X (L++a) b)\/(tells C0 (L++a)=none/\∃ pre i,(pre++[i])<+:(L++a)/\∀ v,aM (mQ C0 0) v->(∀ j∈pre,v j=0)->v i=0)
 | [],L,C,h,e=>.inl ⟨C,by simpa using e,by simpa using h⟩
 | i::a,L,C,h,e=>by
  have c:L++i::a=(L++[i])++a:=by simp
  cases ht:ku C i with
  | none=>
   right;have d:tells C0 (L++[i])=none:=(by rw [iD,e];exact ht);refine ⟨by rw [c];exact je _ _ _ d,L,i,by rw [c];exact List.prefix_append _ _,?_⟩;intro v s t;have p:dX C i=none:=by
    unfold ku at ht;exact Option.map_eq_none_iff.1 ht
   exact aM.TT (λr q=>by obtain ⟨k,k1,k2,rfl⟩:=q;exact ot p k k1 k2) ((h.spare v).2 ⟨s,t⟩)
  | some b=>
   have g:=h.snoc f ht;have d:tells C0 (L++[i])=some b:=(by rw [iD,e];exact ht);rw [c];exact dU.of f l o n a (L++[i]) b g d
def cP (C:Ck) (i:Nat):Bool:=(XS C.told).any (λr=>decide (C.m r i≠0))
theorem gX {C:Ck}:cP C i=false↔∀ r,r<C.told->C.m r i=0:=by
 unfold cP;rw [List.any_eq_false];constructor
 . intro h r a;have:=h r (XQ.2 a);simpa using this
 . intro h r a;simp [h r (XQ.1 a)]
def qW {C:Ck} (a:r<C.told) (b:C.m r i≠0):cP C i=Z9:=by
 cases h:cP C i with
 | true=>rfl
 | false=>exact absurd (gX.1 h r a) b
def iF (K:List Nat) (C:Ck):Nat:=(K.filter (cP C)).length
abbrev cI:=Ck×Nat
def fs (K:List Nat) (s:cI) (C:Ck):cI:=if iF K C=0\/iF K C<s.2 then (C,iF K C) else s
def ab (s:Nat):List Nat:=(XS 16).filter (λi=>s.testBit i)
def bO (s i:Nat):Nat:=s/2^(i+1)*2^(i+1)
def lG (s i j:Nat):(bO s i).testBit j=(decide (i<j)&&s.testBit j):=by
 unfold bO;rw [Nat.testBit_mul_two_pow];by_cases h:i+1<=j
 . simp only [Nat.testBit_div_two_pow];rw [show j-(i+1)+(i+1)=j by omega];simp [h,show i<j by omega]
 . simp [h,show ¬ i<j by omega]
def qX (s:Nat):(ab s).Pairwise (· < ·):=(List.pairwise_lt_range (n:=16)).filter _
def bX:i∈ab s↔i<16/\s.testBit i=Z9:=by unfold ab;rw [List.mem_filter,XQ]
theorem At {pre R:List Nat} (h:ab s=pre++i::R):ab (bO s i)=R:=by
 have e:ab (bO s i)=(ab s).filter (λj=>decide (i<j)):=by
  unfold ab;rw [List.filter_filter];apply List.filter_congr;intro j _;rw [lG]
 have b:=qX s;rw [h] at b;rw [e,h,X5,List.filter_cons];obtain ⟨l,f,g⟩:=List.pairwise_append.1 b;obtain ⟨k,m⟩:=List.pairwise_cons.1 f;have c:pre.filter (λj=>decide (i<j))=[]:=List.filter_eq_nil_iff.2 (λj a=>by have:=g j a i (by simp);simp;omega);have d:R.filter (λj=>decide (i<j))=R:=List.filter_eq_self.2 (λj a=>by have:=k j a;simp;omega);rw [c,d];simp
def gY (rec:Ck->Nat->Nat->cI->cI) (C:Ck) (of:Nat) (a:Nat×cI×Bool) (i:Nat):Nat×cI×Bool:=
 if a.2.2=Z9 then a else if ¬ a.1<a.2.1.2 then (a.1,a.2.1,Z9) else
  match iC C i with
  | none=>a
  | some C'=>(a.1+1,rec C' (bO of i) a.1 a.2.1,false)
def iG (K:List Nat):Nat->Ck->Nat->Nat->cI->cI
 | 0,C,of,p,st=>((ab of).foldl (gY (λ_ _ _ s=>s) C of) (p,fs K st C,false)).2.1
 | n+1,C,of,p,st=>((ab of).foldl (gY (iG K n) C of) (p,fs K st C,false)).2.1
def yF (K:List Nat):Nat->Ck->Nat->Nat->cI->cI
 | 0=>λ_ _ _ s=>s
 | n+1=>iG K n
def pP (K:List Nat) (n:Nat) (C:Ck) (of p:Nat) (st:cI):iG K n C of p st=((ab of).foldl (gY (yF K n) C of) (p,fs K st C,false)).2.1:=by
 cases n<;>rfl
theorem Au (K:List Nat) (s:cI) (C:Ck):(fs K s C).2<=s.2:=by
 unfold fs;split
 . show iF K C<=s.2;omega
 . exact XM _
theorem Gd (K:List Nat) (s:cI) (C:Ck):(fs K s C).2<=iF K C:=by
 unfold fs;split
 . exact XM _
 . show s.2<=iF K C;omega
theorem Mp {rec:Ck->Nat->Nat->cI->cI} (h:∀ C of p s,(rec C of p s).2<=s.2) (C:Ck) (of:Nat) (a:Nat×cI×Bool) (i:Nat):(gY rec C of a i).2.1.2<=a.2.1.2:=by
 unfold gY;split
 . exact XM _
 . split
   . exact XM _
   . split
     . exact XM _
     . exact h _ _ _ _
def oz {rec:Ck->Nat->Nat->cI->cI} (h:∀ C of p s,(rec C of p s).2<=s.2) (C:Ck) (of:Nat):∀ (L:List Nat) (a:Nat×cI×Bool),(L.foldl (gY rec C of) a).2.1.2<=a.2.1.2
 | [],_=>XM _
 | i::L,a=>XT (oz h C of L (gY rec C of a i)) (Mp h C of a i)
def wt (K:List Nat):∀ n C of p s,(iG K n C of p s).2<=s.2
 | 0,C,of,_,s=>XT (oz (λ_ _ _ _=>XM _) C of _ _) (Au K s C)
 | n+1,C,of,_,s=>XT (oz (wt K n) C of _ _) (Au K s C)
def Mq (K:List Nat) (n:Nat):∀ C of p s,(yF K n C of p s).2<=s.2:=by
 cases n with
 | zero=>exact λ_ _ _ _=>XM _
 | succ n=>exact wt K n
def wu (rec:Ck->Nat->Nat->cI->cI) (C:Ck) (of:Nat) (p:Nat) (s:cI):∀ L:List Nat,L.foldl (gY rec C of) (p,s,Z9)=(p,s,Z9)
 | []=>rfl
 | i::L=>by
  have e:gY rec C of (p,s,Z9) i=(p,s,Z9):=by unfold gY;rw [if_pos rfl]
  rw [X6,e];exact wu rec C of p s L
def sK (C:Ck) (j:Nat):Prop:=∀ r,C.told<=r->r<C.count->C.m r j=0
def sK.span {C:Ck} (h:sK C j) {v:Nat->Nat} (b:aM (mQ C C.told) v):v j=0:=
 aM.TT (λr a=>by obtain ⟨k,k1,k2,rfl⟩:=a;exact h k k1 k2) b
def gw {C C':Ck} (h:iC C i=some C'):∃ r,C'=gW C i r/\C.told<=r/\r<C.count/\C.m r i≠0:=by
 unfold iC at h;rw [X2] at h;obtain ⟨r,d,rfl⟩:=h;obtain ⟨a,b,c⟩:=eK d;exact ⟨r,rfl,a,b,c⟩
def C9 {C C':Ck} (b:we C) (h:iC C i=some C') (a:sK C j\/j=i):sK C' j:=by
 obtain ⟨r,rfl,c,d,e⟩:=gw h;intro k k1 k2;have:=(C7 (t:=C.told) b (XM _) c d e ((gW C i r).m k)).1 (aM.mem (nz b k) ⟨k,k1,k2,rfl⟩);rcases a with a|rfl
 . exact a.span this.1
 . exact this.2
theorem Da (h:x^^^y=0):x=y:=by
 have:=congrArg (·^^^y) h;simp only [XJ] at this;rwa [XH,XG,XL] at this
inductive jR (C:Ck):Ck->Prop
 | refl:jR C C
 | step {C1 C2:Ck} {i:Nat}:jR C C1->iC C1 i=some C2->jR C C2
def jR.trans {A B C:Ck} (h:jR A B) (a:jR B C):jR A C:=by
 induction a with
 | refl=>exact h
 | step _ b ih=>exact .step ih b
def sL (K:List Nat) (C:Ck) (s s':cI):Prop:=s'=s\/(jR C s'.1/\s'.2=iF K s'.1)
theorem Av (K:List Nat) (s:cI) (C:Ck):sL K C s (fs K s C):=by
 unfold fs;split
 . exact .inr ⟨.refl,rfl⟩
 . exact .inl rfl
theorem sM {K:List Nat} {rec:Ck->Nat->Nat->cI->cI} (h:∀ C of p s,sL K C s (rec C of p s)) (C:Ck) (of:Nat):∀ (L:List Nat) (a:Nat×cI×Bool),sL K C a.2.1 (L.foldl (gY rec C of) a).2.1
 | [],_=>.inl rfl
 | i::L,a=>by
  have d:sL K C a.2.1 (gY rec C of a i).2.1:=by
   unfold gY;split
   . exact .inl rfl
   . split
     . exact .inl rfl
     . split
       . exact .inl rfl
       . rename_i c g
         rcases h c (bO of i) a.1 a.2.1 with e|⟨b,f⟩
         . exact .inl e
         . exact .inr ⟨jR.trans (.step .refl g) b,f⟩
  rcases sM h C of L (gY rec C of a i) with e|b
  . rw [X6,e];exact d
  . exact .inr b
def yG (K:List Nat):∀ n C of p s,sL K C s (iG K n C of p s):=by
 have comb:∀ {rec:Ck->Nat->Nat->cI->cI} (_:∀ C of p s,sL K C s (rec C of p s)) C of p s,sL K C s ((ab of).foldl (gY rec C of) (p,fs K s C,false)).2.1:=by
  intro rec h C of p s;rcases sM h C of (ab of) (p,fs K s C,false) with e|a
  . rw [e];exact Av K s C
  . exact .inr a
 intro n;induction n with
 | zero=>exact comb (λ_ _ _ _=>.inl rfl)
 | succ n ih=>exact comb ih
def aT (n:Nat) (C:Ck) (kept:Nat):cI:=iG (ab kept) n C kept 0 (C,(ab kept).length)
def Mr (K:List Nat) (C:Ck):iF K C<=K.length:=List.length_filter_le _ _
def yH (n:Nat) (C:Ck) (kept:Nat):jR C (aT n C kept).1/\(aT n C kept).2=iF (ab kept) (aT n C kept).1:=by
 rcases yG (ab kept) n C kept 0 (C,(ab kept).length) with e|h
 . have a:(aT n C kept).2<=iF (ab kept) C:=by
    unfold aT;rw [pP];exact XT (oz (Mq _ n) C kept _ _) (Gd _ _ C)
   have b:aT n C kept=(C,(ab kept).length):=e;rw [b] at a ⊢;exact ⟨.refl,Nat.le_antisymm a (Mr _ _)⟩
 . exact h
theorem jR.Wd {C C':Ck} (p:Qh X) (u:jR C C') (q:we C) (n:C.told<=C.count) (l:∀ k,k<C.count->X (C.m k))
 (o:∀ j∈L,sK C j) :
 we C'/\C'.told=C.told/\C'.told<=C'.count/\C'.count<=C.count/\(∀ k,k<C'.count->X (C'.m k))/\(∀ k,k<C.told->∀ j∈L,C'.m k j=C.m k j)/\∀ j∈L,sK C' j:=by
 induction u with
 | refl=>exact ⟨q,rfl,n,XM _,l,λ_ _ _ _=>rfl,o⟩
 | step _ g ih=>
  obtain ⟨b,t,le,x,h,v,sp⟩:=ih;rename_i c w i _
  obtain ⟨r,a,f,e,y⟩:=gw g;refine ⟨by rw [a];exact nz b,by rw [a];exact t,by rw [a];show c.told<=c.count-1;omega,by rw [a];show c.count-1<=_;omega,by rw [a];exact Gc p b e h,?_,λj d=>C9 b g (.inl (sp j d))⟩;intro k s j d;rw [a,C8 (by omega) f e];show c.m k j^^^gm _ (c.m r j)=_;rw [sp j d r f e,bm,XL,v k s j d]
def xs (f:Nat->Nat):Nat->Nat
 | 0=>0
 | n+1=>xs f n^^^f n
def dJ {g:Nat->Nat}:∀ n,(∀ i,i<n->f i=g i)->xs f n=xs g n
 | 0,_=>rfl
 | n+1,h=>by show xs f n^^^f n=xs g n^^^g n;rw [dJ n (λi a=>h i (by omega)),h n (by omega)]
def iH (f g:Nat->Nat):∀ n,xs (λi=>f i^^^g i) n=xs f n^^^xs g n
 | 0=>(XG 0).symm
 | n+1=>by show xs _ n^^^(f n^^^g n)=(xs f n^^^f n)^^^(xs g n^^^g n);rw [iH f g n,IY]
def dg:∀ n,(∀ i,i<n->f i=0)->xs f n=0
 | 0,_=>rfl
 | n+1,h=>by show xs f n^^^f n=0;rw [dg n (λi a=>h i (by omega)),h n (by omega)];rfl
def EZ (c:Nat) (f:Nat->Nat):∀ n,xs (λi=>gm c (f i)) n=gm c (xs f n)
 | 0=>(bm c).symm
 | n+1=>by show xs _ n^^^gm c (f n)=gm c (xs f n^^^f n);rw [EZ c f n,ef]
def eZ:∀ n,k<n->(∀ i,i<n->i≠k->f i=0)->xs f n=f k
 | 0,h,_=>absurd h (by omega)
 | n+1,h,hz=>by
  show xs f n^^^f n=f k;by_cases e:k=n
  . rw [dg n (λi a=>hz i (by omega) (by omega)),e,XJ]
  . rw [eZ n (by omega) (λi a=>hz i (by omega)),hz n (by omega) (by omega),XL]
def E0:∀ n,(∀ i,i<n->f i<256)->xs f n<256
 | 0,_=>by show 0<256;decide
 | n+1,h=>j8 (E0 n (λi a=>h i (by omega))) (h n (by omega))
def yI (f:Nat->Nat) (a:Nat):∀ b,xs f (a+b)=xs f a^^^xs (λi=>f (a+i)) b
 | 0=>(XL _).symm
 | b+1=>by show xs f (a+b)^^^f (a+b)=xs f a^^^(xs _ b^^^f (a+b));rw [yI f a b,XH]
def rJ (M:Nat->Nat->Nat) (D n:Nat) (v:Nat->Nat):Prop:=bq v/\(∀ i,n<=i->v i=0)/\∀ j,j<D->xs (λi=>gm (v i) (M i j)) n=0
def sN (M:Nat->Nat->Nat) (D n:Nat) (f:∀ i,bq (M i)):Qh (rJ M D n):=by
 refine ⟨⟨λ_=>by show 0<256;decide,λ_ _=>rfl,λj _=>dg n (λi _=>bC _)⟩,?_⟩;rintro a r u b ⟨g,h,k⟩ ⟨u1,u2,u3⟩;refine ⟨wg u1 b,λi c=>?_,λj d=>?_⟩
 . show u i^^^gm a (r i)=0;rw [u2 i c,h i c,bm];rfl
 . have e:xs (λi=>gm (cH u a r i) (M i j)) n=xs (λi=>gm (u i) (M i j)^^^gm a (gm (r i) (M i j))) n:=
    dJ n (λi _=>by show gm (u i^^^gm a (r i)) (M i j)=_;rw [eh _ (u1 i) (aV _ b),aZ b (g i) (f i j)])
   rw [e,iH,EZ,u3 j d,k j d,bm];rfl
def ck0 (M:Nat->Nat->Nat) (D P:Nat):Ck:=⟨λr j=>if r<P then (if j<D then M (D+r) j else if j=D+r then 1 else 0) else 0,0,P⟩
theorem sO (a:∀ i,bq (M i)):we (ck0 M D P):=λr j=>by
 show (if r<P then _ else _)<256;split
 . split
   . exact a _ _
   . split<;>decide
 . decide
theorem Aw (a:∀ i,bq (M i)) (d:∀ i,i<D->∀ j,M i j=if j=i then 1 else 0) (k:Nat) (f:k<P):rJ M D (D+P) ((ck0 M D P).m k):=by
 have e:∀ i,(ck0 M D P).m k i=if i<D then M (D+k) i else if i=D+k then 1 else 0:=λi=>by show (if k<P then _ else _)=_;rw [if_pos f]
 refine ⟨sO a k,λi b=>by rw [e,if_neg (by omega),if_neg (by omega)],λj c=>?_⟩;rw [yI];have h:xs (λi=>gm ((ck0 M D P).m k i) (M i j)) D=M (D+k) j:=by
  rw [eZ (k:=j) D c]
  . rw [e,if_pos c,d j c,if_pos rfl,cD _ (a _ _)]
  . intro i b g;rw [d i b,if_neg (Ne.symm g),bm]
 have l:xs (λi=>gm ((ck0 M D P).m k (D+i)) (M (D+i) j)) P=M (D+k) j:=by
  rw [eZ (k:=k) P f]
  . rw [e,if_neg (by omega),if_pos rfl,bK (by decide) (a _ _),cD _ (a _ _)]
  . intro i b g;rw [e,if_neg (by omega),if_neg (by omega),bC]
 rw [h,l,XG]
theorem sP (f:Nat->Nat->Nat) (a:Nat->Nat) (b:bq a):∀ n,(∀ i,i<n->a i≠0->R (f i))->aM R (λj=>xs (λi=>gm (a i) (f i j)) n)
 | 0,_=>aM.zero R
 | n+1,h=>by
  have ih:=sP f a b n (λi d=>h i (by omega));by_cases e:a n=0
  . have c:(λj=>xs (λi=>gm (a i) (f i j)) (n+1))=λj=>xs (λi=>gm (a i) (f i j)) n:=by
     funext j;show _^^^gm (a n) (f n j)=_;rw [e,bC,XL]
    rw [c];exact ih
  . exact ih.step (b n) (h n (by omega) e)
theorem Jo (f:∀ i,i<D->∀ j,M i j=if j=i then 1 else 0) {v:Nat->Nat} (o:rJ M D (D+P) v):aM (mQ (ck0 M D P) 0) v:=by
 obtain ⟨d,p,q⟩:=o;have h:=sP (R:=mQ (ck0 M D P) 0) (ck0 M D P).m (λi=>v (D+i)) (λi=>d _) P (λi a _=>⟨i,Nat.zero_le _,a,rfl⟩);have e:(λj=>xs (λi=>gm (v (D+i)) ((ck0 M D P).m i j)) P)=v:=by
  funext j;by_cases b:j<D
  . have l:xs (λi=>gm (v (D+i)) ((ck0 M D P).m i j)) P=xs (λi=>gm (v (D+i)) (M (D+i) j)) P:=dJ P (λi a=>by
     show gm _ (if i<P then _ else _)=_;rw [if_pos a,if_pos b])
    rw [l];have c:=q j b;rw [yI] at c;have n:xs (λi=>gm (v i) (M i j)) D=v j:=by
     rw [eZ (k:=j) D b]
     . rw [f j b,if_pos rfl,cD _ (d j)]
     . intro i a g;rw [f i a,if_neg (Ne.symm g),bm]
    rw [n] at c;exact (Da c).symm
  . by_cases r:j<D+P
    . rw [eZ (k:=j-D) P (by omega)]
      . show gm _ (if j-D<P then _ else _)=_;rw [if_pos (by omega),if_neg b,if_pos (by omega),show D+(j-D)=j by omega,cD _ (d j)]
      . intro i a g;show gm _ (if i<P then _ else _)=_;rw [if_pos a,if_neg b,if_neg (by omega),bm]
    . rw [p j (by omega)];exact dg P (λi a=>by
       show gm _ (if i<P then _ else _)=_;rw [if_pos a,if_neg b,if_neg (by omega),bm])
 rwa [e] at h
def Jp (M:Nat->Nat->Nat) (n:Nat) (Q:Nat->Prop):(Nat->Nat)->Prop:=λv=>∃ i,i<n/\Q i/\v=M i
theorem Db {x:Nat->Nat} (o:aM (Jp M n Q) x) :
 ∃ a,bq a/\(∀ i,¬ (i<n/\Q i)->a i=0)/\∀ j,x j=xs (λi=>gm (a i) (M i j)) n:=by
 refine o (λx=>∃ a,bq a/\(∀ i,¬ (i<n/\Q i)->a i=0)/\∀ j,x j=xs (λi=>gm (a i) (M i j)) n)
  ⟨λ_=>0,λ_=>by show 0<256;decide,λ_ _=>rfl,λj=>(dg n (λi _=>bC _)).symm⟩ ?_
 rintro b r u m ⟨k,k1,k2,rfl⟩ ⟨a,c,g,h⟩;have d:bq (λi=>if i=k then b else 0):=λi=>by show (if i=k then b else 0)<256;split;exact m;decide
 refine ⟨λi=>a i^^^(if i=k then b else 0),λi=>j8 (c i) (d i),λi f=>?_,λj=>?_⟩
 . have:i≠k:=λe=>f (by rw [e];exact ⟨k1,k2⟩);show a i^^^(if i=k then b else 0)=0;rw [g i f,if_neg this];rfl
 . have e:xs (λi=>gm (a i^^^(if i=k then b else 0)) (M i j)) n=xs (λi=>gm (a i) (M i j)^^^gm (if i=k then b else 0) (M i j)) n:=
    dJ n (λi _=>eh _ (c i) (d i))
   rw [e,iH,<- h j];have l:xs (λi=>gm (if i=k then b else 0) (M i j)) n=gm b (M k j):=by
    rw [eZ (k:=k) n k1]
    . rw [if_pos rfl]
    . intro i _ p;rw [if_neg p,bC]
   rw [l];rfl
theorem yJ (f:∀ i,bq (M i)) (p:k<n) (o:¬ Q k) (h:aM (Jp M n Q) (M k)) :
 ∃ u,rJ M D n u/\u k=1/\∀ i,i≠k->¬ Q i->u i=0:=by
 obtain ⟨a,c,b,l⟩:=Db h;have m:a k=0:=b k (λh=>o h.2);have d:bq (dt k):=j9 k;refine ⟨λi=>a i^^^dt k i,⟨λi=>j8 (c i) (d i),λi g=>?_,λj _=>?_⟩,?_,λi g q=>?_⟩
 . show a i^^^(if i=k then 1 else 0)=0;rw [b i (by omega),if_neg (by omega)];rfl
 . have e:xs (λi=>gm (a i^^^dt k i) (M i j)) n=xs (λi=>gm (a i) (M i j)^^^gm (dt k i) (M i j)) n:=dJ n (λi _=>eh _ (c i) (d i));rw [e,iH,<- l j,eZ (k:=k) n p]
   . show M k j^^^gm (if k=k then 1 else 0) (M k j)=0;rw [if_pos rfl,bK (by decide) (f k j),cD _ (f k j),XG]
   . intro i _ r;show gm (if i=k then 1 else 0) (M i j)=0;rw [if_neg r,bC]
 . show a k^^^(if k=k then 1 else 0)=1;rw [m,if_pos rfl];rfl
 . show a i^^^(if i=k then 1 else 0)=0;rw [b i (λh=>q h.2),if_neg g];rfl
theorem oA (c:∀ i,bq (M i)) (g:∀ i j,D<=j->M i j=0) (r:k<n) {u:Nat->Nat} (s:rJ M D n u) (o:u k=1) (m:∀ i,i<n->i≠k->u i≠0->Q i) :
 aM (Jp M n Q) (M k):=by
 obtain ⟨u1,u2,u3⟩:=s;have p:bq (λi=>if i=k then 0 else u i):=λi=>by show (if i=k then 0 else u i)<256;split;decide;exact u1 i
 have h:=sP (R:=Jp M n Q) M (λi=>if i=k then 0 else u i) p n (λi d a=>by
  by_cases e:i=k
  . simp [e] at a
  . exact ⟨i,d,m i d e (by simpa [e] using a),rfl⟩)
 have e:(λj=>xs (λi=>gm (if i=k then 0 else u i) (M i j)) n)=M k:=by
  funext j;by_cases q:j<D
  . have l:xs (λi=>gm (u i) (M i j)) n=xs (λi=>gm (if i=k then 0 else u i) (M i j)^^^gm (dt k i) (M i j)) n:=dJ n (λi _=>by
     by_cases e:i=k
     . rw [if_pos e,bC,XJ,e,o];show _=gm (if k=k then 1 else 0) _;rw [if_pos rfl]
     . rw [if_neg e];show _=_^^^gm (if i=k then 1 else 0) _;rw [if_neg e,bC,XL])
    have b:=u3 j q;rw [l,iH,eZ (f:=λi=>gm (dt k i) (M i j)) (k:=k) n r] at b
    . have:=Da b;rw [this];show gm (if k=k then 1 else 0) (M k j)=_;rw [if_pos rfl,bK (by decide) (c k j),cD _ (c k j)]
    . intro i _ t;show gm (if i=k then 1 else 0) (M i j)=0;rw [if_neg t,bC]
  . rw [g k j (by omega)];exact dg n (λi _=>by rw [g i j (by omega),bm])
 rwa [e] at h
structure Code (M:Nat->Nat->Nat) (D P:Nat):Prop where
 byt:∀ i,bq (M i)
 unit:∀ i,i<D->∀ j,M i j=if j=i then 1 else 0
 TT:∀ i j,D<=j->M i j=0
def Code.told (h:Code M D P) (L:List Nat) :
 (∃ C,tells (ck0 M D P) L=some C/\dU (ck0 M D P) (rJ M D (D+P)) L C)\/(tells (ck0 M D P) L=none/\∃ pre i,(pre++[i])<+:L/\∀ v,aM (mQ (ck0 M D P) 0) v->(∀ j∈pre,v j=0)->v i=0):=by
 have:=dU.of (sN M D (D+P) h.byt) (C0:=ck0 M D P) rfl (sO h.byt) (λk a=>Aw h.byt h.unit k a) L [] (ck0 M D P) (dU.nil rfl (sO h.byt) (λk a=>Aw h.byt h.unit k a)) rfl;simpa using this
theorem Code.full (h:Code M D P) {L:List Nat} {C:Ck} (a:dU (ck0 M D P) (rJ M D (D+P)) L C):mP (Jp M (D+P) (λi=>i∉L)) 0 D:=by
 have n:∀ r,Jp M (D+P) (λi=>i∉L) r->bq r:=by rintro r ⟨i,_,_,rfl⟩;exact h.byt i
 have m:∀ i,i<D+P->aM (Jp M (D+P) (λi=>i∉L)) (M i):=by
  intro i f;by_cases g:i∈L
  . obtain ⟨k,d,rfl⟩:=XR g;have q:k<C.count:=(by have:=a.told;have:=a.le;omega);refine oA h.byt h.TT f (a.all k q) ?_ ?_
    . rw [a.one k d k d,if_pos rfl]
    . intro j _ c b o;obtain ⟨l,p,rfl⟩:=XR o;rw [a.one k d l p] at b;by_cases e:k=l
      . subst e;exact c rfl
      . rw [if_neg e] at b;exact b rfl
  . exact aM.mem (h.byt i) ⟨i,f,g,rfl⟩
 refine mP.Vz n (λj c=>?_);have e:M j=dt j:=by funext x;rw [h.unit j c];rfl
 rw [<- e];exact m j (by omega)
def Code.Vk (h:Code M D P) {L:List Nat} (c:L.Nodup) (g:∀ i∈L,i<D+P) (k:∃ pre i,(pre++[i])<+:L/\∀ v,aM (mQ (ck0 M D P) 0) v->(∀ j∈pre,v j=0)->v i=0) :
 ¬ mP (Jp M (D+P) (λi=>i∉L)) 0 D:=by
 obtain ⟨pre,i,⟨R,rfl⟩,m⟩:=k;intro f;have d:i∈pre++[i]++R:=by simp
 obtain ⟨u,l,u1,u0⟩:=yJ (D:=D) h.byt (g i d) (λb=>b d) (f (M i) (h.byt i) (λj a=>h.TT i j (by omega)));have:=m u (Jo h.unit l) (λj a=>u0 j (λe=>by
  subst e;rw [List.append_assoc] at c;have:=(List.nodup_append.1 c).2.2 j a j (by simp);exact this rfl) (λb=>b (by simp [a])))
 rw [u1] at this;exact absurd this (by decide)
structure Ge (M:Nat->Nat->Nat) (D P:Nat) (L:List Nat) (B:Ck):Prop where
 told:B.told=L.length
 le:B.told<=B.count
 T2:B.count<=P
 byt:we B
 We:∀ k,k<B.told->rJ M D (D+P) (B.m k)
 one:∀ k,k<L.length->∀ k' (h:k'<L.length),B.m k L[k']=if k=k' then 1 else 0
def Code.Vm (h:Code M D P) {L:List Nat} {C B:Ck} (a:dU (ck0 M D P) (rJ M D (D+P)) L C) (n:jR C B):Ge M D P L B:=by
 have i:∀ j∈L,sK C j:=λj l r d c=>((a.spare (C.m r)).1 (aM.mem (a.byt r) ⟨r,d,c,rfl⟩)).2 j l;obtain ⟨b,t,le,q,g,p,_⟩:=n.Wd (sN M D (D+P) h.byt) a.byt a.le a.all i;have d:=a.told;have c:=a.count;refine ⟨by omega,le,by have:C.count=P:=c;omega,b,λk f=>g k (by omega),λk f o e=>?_⟩;rw [p k (by omega) _ (XO e),a.one k f o e]
def Ge.tells {B:Ck} (d:Code M D P) (h:Ge M D P L B) (o:∀ i∈L,i<D+P):∀ i∈L,aM (Jp M (D+P) (λj=>j∉L/\cP B j=Z9)) (M i):=by
 intro i f;obtain ⟨k,b,rfl⟩:=XR f;have c:k<B.told:=by have:=h.told;omega
 refine oA d.byt d.TT (o _ f) (h.We k c) (by rw [h.one k b k b,if_pos rfl]) ?_;intro j _ n a;refine ⟨λl=>?_,qW c a⟩;obtain ⟨g,m,rfl⟩:=XR l;rw [h.one k b g m] at a;by_cases e:k=g
 . subst e;exact n rfl
 . rw [if_neg e] at a;exact a rfl
theorem Ge.sum {B:Ck} (s:Code M D P) (h:Ge M D P L B) (x:∀ i∈L,i<D+P) (d:Nat->Nat) (u:bq d) (k:Nat) (b:k<L.length) :
 xs (λi=>if i∈L then 0 else gm (B.m k i) (xs (λj=>gm (M i j) (d j)) D)) (D+P)=xs (λj=>gm (M L[k] j) (d j)) D:=by
 have t:k<B.told:=by have:=h.told;omega
 obtain ⟨o,A,z⟩:=h.We k t;have v:=x _ (XO b);have r:∀ i,xs (λj=>gm (M i j) (d j)) D<256:=λi=>E0 D (λj _=>aV _ (s.byt i j));have swap:∀ n,xs (λi=>gm (B.m k i) (xs (λj=>gm (M i j) (d j)) D)) n=xs (λj=>gm (xs (λi=>gm (B.m k i) (M i j)) n) (d j)) D:=by
  intro n;induction n with
  | zero=>exact (dg D (λj _=>bC _)).symm
  | succ n ih=>
   show xs _ n^^^gm (B.m k n) (xs (λj=>gm (M n j) (d j)) D)=_;rw [ih,<- EZ,<- iH];apply dJ;intro j _;show _=gm (xs _ n^^^gm (B.m k n) (M n j)) (d j);rw [eh _ (E0 n (λi _=>aV _ (o i))) (aV _ (o n)),aZ (o n) (s.byt n j) (u j)]
 have l:xs (λi=>gm (B.m k i) (xs (λj=>gm (M i j) (d j)) D)) (D+P)=0:=by
  rw [swap];exact dg D (λj w=>by rw [z j w,bC])
 have e:xs (λi=>gm (B.m k i) (xs (λj=>gm (M i j) (d j)) D)) (D+P)=xs (λi=>(if i∈L then 0 else gm (B.m k i) (xs (λj=>gm (M i j) (d j)) D))^^^(if i=L[k] then xs (λj=>gm (M L[k] j) (d j)) D else 0)) (D+P):=by
  apply dJ;intro i _;by_cases c:i∈L
  . obtain ⟨g,q,rfl⟩:=XR c;rw [if_pos c,XJ,h.one k b g q];by_cases e:L[g]=L[k]
    . rw [if_pos e,e];by_cases a:k=g
      . rw [if_pos a,bK (by decide) (r _),cD _ (r _)]
      . have c1:=h.one k b k b;have p:=h.one k b g q;rw [e,c1,if_pos rfl,if_neg a] at p;exact absurd p (by decide)
    . rw [if_neg e,if_neg (λa=>e (by subst a;rfl)),bC]
  . rw [if_neg c,if_neg (show ¬ i=L[k] from λa=>c (by rw [a];exact XO b)),XL]
 rw [e,iH,eZ (f:=λi=>if i=L[k] then xs (λj=>gm (M L[k] j) (d j)) D else 0) (k:=L[k]) _ v] at l
 . rw [if_pos rfl] at l;exact Da l
 . intro i _ y;rw [if_neg y]
def cp (f:Nat->Bool):Nat->Nat
 | 0=>0
 | n+1=>cp f n+(if f n=Z9 then 1 else 0)
def Jq (f:Nat->Bool) (a:Nat):∀ b,cp f (a+b)=cp f a+cp (λi=>f (a+i)) b
 | 0=>rfl
 | b+1=>by show cp f (a+b)+(if f (a+b)=Z9 then 1 else 0)=cp f a+(cp _ b+(if f (a+b)=Z9 then 1 else 0));rw [Jq f a b,Nat.add_assoc]
theorem wA (f:Nat->Bool):∀ n,((XS n).filter f).length=cp f n
 | 0=>rfl
 | n+1=>by
  rw [List.range_succ,X5,List.length_append,wA f n];show _=cp f n+_;congr 1;by_cases h:f n=Z9
  . simp [h]
  . simp [h]
def sQ {f g:Nat->Bool}:∀ n,(∀ i,i<n->f i=g i)->cp f n=cp g n
 | 0,_=>rfl
 | n+1,h=>by show cp f n+_=cp g n+_;rw [sQ n (λi a=>h i (by omega)),h n (by omega)]
def Jr (f:Nat->Bool):∀ n,cp f n+cp (λi=>!f i) n=n
 | 0=>rfl
 | n+1=>by
  have:=Jr f n;show (cp f n+(if f n=Z9 then 1 else 0))+(cp (λi=>!f i) n+(if (!f n)=Z9 then 1 else 0))=n+1;cases h:f n<;>simp<;>omega
