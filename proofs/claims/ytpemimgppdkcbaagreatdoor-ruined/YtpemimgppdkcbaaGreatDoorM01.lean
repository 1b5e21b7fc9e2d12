set_option maxRecDepth 100000
set_option linter.all false
set_option maxHeartbeats 8000000
open List renaming range -> YD, find?_eq_none -> YF
open Nat renaming xor_mod_two_pow -> YE
namespace Go.Proofs.YtpemimgppdkcbaaGreatDoor
variable {p q:Prop}
abbrev a8:=List Nat
end Go.Proofs.YtpemimgppdkcbaaGreatDoor
namespace Go.Proofs.YtpemimgppdkcbaaGreatDoor
def V8:=@Nat.xor_lt_two_pow
def Wl:=@Nat.mul_comm
def WJ:=@Nat.mod_two_eq_zero_or_one
def Vo:=@Nat.xor_assoc
def Xr:=@Nat.xor_comm
def U4:=@Nat.xor_self
def U8:=@Nat.xor_zero
def TZ:=@Nat.lt_of_lt_of_le
def V0:=@Nat.pow_lt_pow_right
def VL:=@Nat.zero_xor
def W9:=@Nat.eq_of_testBit_eq
def aaS:=@Nat.testBit_xor
def T4:=@List.getElem_mem
def VM:=@List.getElem?_eq_none
def Xs:=@Nat.not_lt
def T9:=@Nat.zero_le
def TV:=@Nat.le_refl
def Uy:=@List.mem_range
def V9:=@List.foldl_append
def Wc:=@Option.map_eq_some_iff
def Xt:=@List.getElem_append_right
def Xu:=@List.getElem_append_left
def Wx:=@Nat.sub_self
def Uf:=@List.mem_append
def Vp:=@List.mem_singleton
def UB:=@List.mem_append_left
def Xw:=@List.prefix_append
def Vz:=@List.mem_filter
def Wd:=@List.filter_append
def aaT:=@List.pairwise_append
def aaU:=@List.filter_eq_nil_iff
def TW:=@Nat.le_trans
def Wy:=@List.foldl_cons
def Wz:=@List.length_filter_le
def V1:=@Ne.symm
def U0:=@List.getElem_of_mem
end Go.Proofs.YtpemimgppdkcbaaGreatDoor
namespace Go.Proofs.YtpemimgppdkcbaaGreatDoor.Gf
variable {R X:(Nat->Nat)->Prop} {T T':List a8} {L:a8} {x y a i b c r n k D cnt s j P:Nat} {u f:Nat->Nat} {m M:Nat->Nat->Nat}
def tx (a:Nat):Nat:=if a<128 then 2*a else (2*a-256)^^^29
def yu:Nat->Nat->Nat->Nat->Nat
 | 0,_,_,p=>p
 | n+1,a,b,p=>yu n (tx a) (b/2) (if b%2=1 then p^^^a else p)
def gm (a b:Nat):Nat:=yu 8 a b 0
def OD:Nat->Nat->Nat->Nat
 | 0,_,v=>v
 | n+1,p,v=>OD n (gm p p) (gm v (gm p p))
def gi (a:Nat):Nat:=OD 7 a 1
def uY (a:x<256) (b:y<256):x^^^y<256:=V8 (n:=8) a b
theorem At (h:a<256):tx a<256:=by
 unfold tx;split
 . omega
 . exact uY (by omega) (by decide)
theorem OY (n:Nat):∀ a b p,a<256->p<256->yu n a b p<256:=by
 induction n with
 | zero=>intro a b p _ c;exact c
 | succ n ih=>
  intro a b p d c;unfold yu;refine ih _ _ _ (At d) ?_;split
  . exact uY c d
  . exact c
def bE (b:Nat) (c:a<256):gm a b<256:=OY 8 a b 0 c (by decide)
def OZ (n:Nat):∀ p v,p<256->v<256->OD n p v<256:=by
 induction n with
 | zero=>intro p v _ a;exact a
 | succ n ih=>intro p v b a;unfold OD;exact ih _ _ (bE _ b) (bE _ a)
def ln (h:a<256):gi a<256:=OZ 7 a 1 h (by decide)
def Au (x y:Nat):2*(x^^^y)=(2*x)^^^(2*y):=by
 have:=Nat.shiftLeft_xor_distrib (a:=x) (b:=y) (i:=1);simp only [Nat.shiftLeft_eq,Nat.pow_one] at this;rw [Wl,this,Wl x,Wl y]
def Jq (x y:Nat):(x^^^y)/2=(x/2)^^^(y/2):=Nat.xor_div_two
def Av (x y:Nat):(x^^^y)%2=(x%2+y%2)%2:=by
 have h:=YE (a:=x) (b:=y) (n:=1);simp only [Nat.pow_one] at h;rw [h];have c:=WJ x;have d:=WJ y;rcases c with c|c<;>rcases d with d|d<;>rw [c,d]<;>rfl
def MP (a b c d:Nat):(a^^^b)^^^(c^^^d)=(a^^^c)^^^(b^^^d):=by
 rw [Vo,Vo,<- Vo b c d,Xr b c,Vo c b d]
def Jr:∀ a,a<256->tx a=(2*a)%256^^^(if a/128%2=1 then 29 else 0):=by decide +kernel
def O0 (x y:Nat):(x^^^y)/128%2=(x/128%2+y/128%2)%2:=by
 have:(x^^^y)/128=(x/128)^^^(y/128):=Nat.xor_div_two_pow (n:=7);rw [this];exact Av _ _
theorem O1 (c:x<256) (d:y<256):tx (x^^^y)=tx x^^^tx y:=by
 rw [Jr _ (uY c d),Jr _ c,Jr _ d,MP,Au];have h:=YE (a:=2*x) (b:=2*y) (n:=8);have e:(2:Nat)^8=256:=rfl;rw [e] at h;rw [h,O0];congr 1;have c:=WJ (x/128);have d:=WJ (y/128);rcases c with c|c<;>rcases d with d|d<;>rw [c,d]<;>rfl
theorem Gi (n:Nat):∀ a b c p q,yu n a (b^^^c) (p^^^q)=yu n a b p^^^yu n a c q:=by
 induction n with
 | zero=>intro a b c p q;rfl
 | succ n ih=>
  intro a b c p q;simp only [yu];rw [Jq,<- ih,Av];congr 1;have d:=WJ b;have e:=WJ c;rcases d with d|d<;>rcases e with e|e<;>rw [d,e]<;>simp
  . rw [Vo]
  . rw [Vo,Xr q a,<- Vo]
  . rw [MP,U4,U8]
theorem Gj (n:Nat):∀ a d b p q,a<256->d<256->yu n (a^^^d) b (p^^^q)=yu n a b p^^^yu n d b q:=by
 induction n with
 | zero=>intro a d b p q _ _;rfl
 | succ n ih=>
  intro a d b p q c e;simp only [yu];rw [O1 c e,<- ih _ _ _ _ _ (At c) (At e)];congr 1;by_cases h:b%2=1
  . simp only [h,if_true];exact MP _ _ _ _
  . simp only [h,if_false]
def fO (a b c:Nat):gm a (b^^^c)=gm a b^^^gm a c:=Gi 8 a b c 0 0
def gH {d:Nat} (b:Nat) (c:a<256) (e:d<256):gm (a^^^d) b=gm a b^^^gm d b:=Gj 8 a d b 0 0 c e
def QT:∀ x,x<256->x=(if x%2=1 then 1 else 0)^^^((if x/2%2=1 then 2 else 0)^^^((if x/4%2=1 then 4 else 0)^^^((if x/8%2=1 then 8 else 0)^^^((if x/16%2=1 then 16 else 0)^^^((if x/32%2=1 then 32 else 0)^^^((if x/64%2=1 then 64 else 0)^^^(if x/128%2=1 then 128 else 0))))))):=by
 decide +kernel
theorem fh (f g:Nat->Nat) (d:∀ x y,x<256->y<256->f (x^^^y)=f x^^^f y) (j:∀ x y,x<256->y<256->g (x^^^y)=g x^^^g y)
 (h:∀ i,i<8->f (2^i)=g (2^i)) (x:Nat) (C:x<256):f x=g x:=by
 have A:f 0=0:=by have:=d 0 0 (by decide) (by decide);rw [U4,U4] at this;exact this
 have B:g 0=0:=by have:=j 0 0 (by decide) (by decide);rw [U4,U4] at this;exact this
 have one:∀ (c:Prop) [Decidable c] (i:Nat),i<8->f (if c then 2^i else 0)=g (if c then 2^i else 0):=by
  intro c _ i a;split
  . exact h i a
  . rw [A,B]
 have lt:∀ (c:Prop) [Decidable c] (i:Nat),i<8->(if c then 2^i else 0)<256:=by
  intro c _ i a;split
  . exact TZ (V0 (by decide) a) (by decide)
  . decide
 have st:∀ (c:Prop) [Decidable c] (i y:Nat),i<8->y<256->f y=g y->f ((if c then 2^i else 0)^^^y)=g ((if c then 2^i else 0)^^^y):=by
  intro c _ i y a k e;rw [d _ _ (lt c i a) k,j _ _ (lt c i a) k,one c i a,e]
 have p:=lt (x/128%2=1) 7 (by decide);have o:=uY (lt (x/64%2=1) 6 (by decide)) p;have n:=uY (lt (x/32%2=1) 5 (by decide)) o;have l4:=uY (lt (x/16%2=1) 4 (by decide)) n;have m:=uY (lt (x/8%2=1) 3 (by decide)) l4;have l:=uY (lt (x/4%2=1) 2 (by decide)) m;have l1:=uY (lt (x/2%2=1) 1 (by decide)) l;have z:=one (x/128%2=1) 7 (by decide);have w:=st (x/64%2=1) 6 _ (by decide) p z;have v:=st (x/32%2=1) 5 _ (by decide) o w;have u:=st (x/16%2=1) 4 _ (by decide) n v;have t:=st (x/8%2=1) 3 _ (by decide) l4 u;have r:=st (x/4%2=1) 2 _ (by decide) m t;have q:=st (x/2%2=1) 1 _ (by decide) l r;have b:=st (x%2=1) 0 _ (by decide) l1 q;have s:=QT x C;simp only [Nat.reducePow] at b;rw [<- s] at b;exact b
def C9:∀ i,i<8->∀ j,j<8->gm (2^i) (2^j)=gm (2^j) (2^i):=by decide +kernel
def Aw:∀ i,i<8->∀ j,j<8->∀ k,k<8->gm (gm (2^i) (2^j)) (2^k)=gm (2^i) (gm (2^j) (2^k)):=by decide +kernel
def Js (a:i<8):2^i<256:=TZ (V0 (by decide) a) (by decide)
def iW (e:a<256) (f:b<256):gm a b=gm b a:=by
 refine fh (λx=>gm a x) (λx=>gm x a) (λx y _ _=>fO a x y) (λx y c d=>gH a c d) (λi g=>?_) b f;refine fh (λx=>gm x (2^i)) (λx=>gm (2^i) x) (λx y c d=>gH _ c d) (λx y _ _=>fO _ x y) (λj h=>?_) a e;exact C9 j h i g
def gq (g:a<256) (h:b<256) (l:c<256):gm (gm a b) c=gm a (gm b c):=by
 refine fh (λx=>gm (gm x b) c) (λx=>gm x (gm b c)) (λx y d e=>?_) (λx y d e=>gH _ d e) (λi f=>?_) a g
 . show gm (gm (x^^^y) b) c=_;rw [gH _ d e,gH _ (bE _ d) (bE _ e)]
 refine fh (λx=>gm (gm (2^i) x) c) (λx=>gm (2^i) (gm x c)) (λx y d e=>?_) (λx y d e=>?_) (λj m=>?_) b h
 . show gm (gm (2^i) (x^^^y)) c=_;rw [fO,gH _ (bE _ (Js f)) (bE _ (Js f))]
 . show gm (2^i) (gm (x^^^y) c)=_;rw [gH _ d e,fO]
 refine fh (λx=>gm (gm (2^i) (2^j)) x) (λx=>gm (2^i) (gm (2^j) x)) (λx y _ _=>fO _ x y) (λx y _ _=>?_) (λk n=>?_) c l
 . show gm (2^i) (gm (2^j) (x^^^y))=_;rw [fO,fO]
 exact Aw i f j m k n
def gI:∀ a,a<256->gm a 1=a:=by decide +kernel
def Ay:∀ a,a<256->a≠0->gm a (gi a)=1:=by decide +kernel
def de (a:Nat):gm a 0=0:=by have:=fO a 0 0;rw [U4,U4] at this;exact this
def cT (b:Nat):gm 0 b=0:=by have:=gH (a:=0) (d:=0) b (by decide) (by decide);rw [U4,U4] at this;exact this
def cK (v:Nat->Nat):Prop:=∀ j,v j<256
def cY (u:Nat->Nat) (a:Nat) (r:Nat->Nat):Nat->Nat:=λj=>u j^^^gm a (r j)
def a9 (R:(Nat->Nat)->Prop) (v:Nat->Nat):Prop:=∀ S:(Nat->Nat)->Prop,S (λ_=>0)->(∀ a r u,a<256->R r->S u->S (cY u a r))->S v
def a9.zero (R:(Nat->Nat)->Prop):a9 R (λ_=>0):=λ_ a _=>a
def a9.step {r:Nat->Nat} (f:a9 R u) (d:a<256) (e:R r):a9 R (cY u a r):=λS c b=>b a r u d e (f S c b)
theorem vT (u:Nat->Nat) (r:Nat->Nat):cY u 0 r=u:=by funext j;simp [cY,cT]
theorem a9.mem {r:Nat->Nat} (b:cK r) (c:R r):a9 R r:=by
 have:=a9.step (a9.zero R) (a:=1) (by decide) c;have e:cY (λ_=>0) 1 r=r:=by
  funext j;show 0^^^gm 1 (r j)=r j;rw [iW (by decide) (b j),gI _ (b j),VL]
 rw [e] at this;exact this
theorem a9.add (f:∀ r,R r->cK r) {u v:Nat->Nat} (h:a9 R u) {b:Nat} (c:b<256) (i:a9 R v):a9 R (cY u b v):=by
 refine i (λx=>a9 R (cY u b x)) ?_ ?_
 . have e:cY u b (λ_=>0)=u:=(by funext j;simp [cY,de]);show a9 R (cY u b (λ_=>0));rw [e];exact h
 . intro a r x g d k;have e:cY u b (cY x a r)=cY (cY u b x) (gm b a) r:=by
    funext j;show u j^^^gm b (x j^^^gm a (r j))=(u j^^^gm b (x j))^^^gm (gm b a) (r j);rw [fO,gq c g (f r d j),Vo]
   show a9 R (cY u b (cY x a r));rw [e];exact k.step (bE _ c) d
def a9.sub {R':(Nat->Nat)->Prop} (a:∀ r,R r->cK r) (h:∀ r,R' r->a9 R r) {v:Nat->Nat} (e:a9 R' v):a9 R v:=
 e (a9 R) (a9.zero R) (λ_ r _ b c d=>a9.add a d b (h r c))
def a9.R2 (h:∀ r,R r->r c=0) {v:Nat->Nat} (b:a9 R v):v c=0:=
 b (λx=>x c=0) rfl (λa r u _ hr (hu:u c=0)=>by show u c^^^gm a (r c)=0;rw [hu,h r hr,de];exact U4 0)
theorem a9.SO {R1:(Nat->Nat)->Prop} {p:Nat->Nat} (m:∀ r,R r->cK r) (B:R p) (I:p c≠0)
 (o:∀ r,R1 r->∃ q f,R q/\f<256/\r=cY q f p/\r c=0)
 (F:∀ q,R q->q=p\/∃ f r,f<256/\R1 r/\q=cY r f p) (v:Nat->Nat):a9 R1 v↔a9 R v/\v c=0:=by
 have L:∀ r,R1 r->cK r:=by
  intro r d;obtain ⟨q,f,l,n,rfl,_⟩:=o r d;exact λj=>uY (m q l j) (bE _ n)
 constructor
 . intro w;refine ⟨a9.sub m (λr d=>?_) w,a9.R2 (λr d=>?_) w⟩
   . obtain ⟨q,f,l,n,rfl,_⟩:=o r d;exact (a9.mem (m q l) l).step n B
   . obtain ⟨q,f,_,_,_,h⟩:=o r d;exact h
 . rintro ⟨w,J⟩;have key:∃ b,b<256/\a9 R1 (cY v b p):=by
    refine w (λx=>∃ b,b<256/\a9 R1 (cY x b p)) ⟨0,by decide,by rw [vT];exact a9.zero R1⟩ ?_;rintro a q u k l ⟨b,g,D⟩;rcases F q l with rfl|⟨f,r,n,d,rfl⟩
    . refine ⟨b^^^a,uY g k,?_⟩;have e:cY (cY u a q) (b^^^a) q=cY u b q:=by
       funext j;show (u j^^^gm a (q j))^^^gm (b^^^a) (q j)=u j^^^gm b (q j);rw [gH _ g k,Vo,Xr (gm b (q j)),<- Vo (gm a (q j)),U4,VL]
      rw [e];exact D
    . refine ⟨b^^^gm a f,uY g (bE _ k),?_⟩;have e:cY (cY u a (cY r f p)) (b^^^gm a f) p=cY (cY u b p) a r:=by
       funext j;show (u j^^^gm a (r j^^^gm f (p j)))^^^gm (b^^^gm a f) (p j)=(u j^^^gm b (p j))^^^gm a (r j);rw [fO,gH _ g (bE _ k),gq k n (m p B j)];generalize gm a (gm f (p j))=t;generalize gm b (p j)=s;generalize gm a (r j)=y;generalize u j=z;apply W9;intro i;simp only [aaS];cases z.testBit i<;>cases y.testBit i<;>cases t.testBit i<;>cases s.testBit i<;>rfl
      rw [e];exact D.step k d
   obtain ⟨b,g,C⟩:=key;have E:=a9.R2 (λr d=>by obtain ⟨q,f,_,_,_,h⟩:=o r d;exact h) C;have G:gm b (p c)=0:=by
    have:v c^^^gm b (p c)=0:=E;rwa [J,VL] at this
   have H:b=0:=by
    have A:=m p B c;have K:=ln A;have e:=gq g A K;rw [G,cT,Ay _ A I,gI b g] at e;exact e.symm
   rw [H,vT] at C;exact C
def dL:Nat->((Nat->Nat)->Prop)->Nat->Nat->Prop
 | 0,_,_,k=>k=0
 | n+1,R,c,k=>((∀ r,R r->r c=0)/\dL n R (c+1) k)\/(∃ p,R p/\p c≠0)/\∃ R1,(∀ r,R1 r->cK r)/\(∀ v,a9 R1 v↔a9 R v/\v c=0)/\∃ k',k=k'+1/\dL n R1 (c+1) k'
def mM (l:a8):Nat->Nat:=λj=>l.getD j 0
def vU (T:List a8) (r:Nat):(Nat->Nat)->Prop:=λv=>∃ i,∃ h:i<T.length,r<=i/\v=mM T[i]
def Jt {l:a8} (h:∀ x∈l,x<256):cK (mM l):=by
 intro j;unfold mM;by_cases a:j<l.length
 . have e:l.getD j 0=l[j]:=(by simp [a]);rw [e];exact h _ (T4 a)
 . have e:l.getD j 0=0:=(by simp [VM (Xs.1 a)]);rw [e];decide
def nK (h:∀ l∈T,∀ x∈l,x<256) (r:Nat):∀ v,vU T r v->cK v:=by
 rintro v ⟨i,a,_,rfl⟩;exact Jt (h _ (T4 a))
theorem iA (q p:Nat->Nat) (f:Nat):cY (cY q f p) f p=q:=by
 funext j;show (q j^^^gm f (p j))^^^gm f (p j)=q j;rw [Vo,U4,U8]
def Da (h:∀ i (a:i<T.length),r<=i->mM T[i] c=0) (d:dL n (vU T r) (c+1) k):dL (n+1) (vU T r) c k:=
 .inl ⟨by rintro v ⟨i,a,b,rfl⟩;exact h i a b,d⟩
theorem Az {p:Nat} (y:∀ l∈T,∀ x∈l,x<256) (t:∀ l∈T',∀ x∈l,x<256) (B:T'.length=T.length) (m:r<=p) (o:p<T.length) (j:mM T[p] c≠0)
 (d:∀ i (g:i<T'.length),r<i->∃ f,∃ h:(if i=p then r else i)<T.length,f<256/\mM T'[i]=cY (mM T[if i=p then r else i]) f (mM T[p])/\mM T'[i] c=0)
 (A:dL n (vU T' (r+1)) (c+1) k):dL (n+1) (vU T r) c (k+1):=by
 have w:=nK y r;refine .inr ⟨⟨mM T[p],⟨p,o,m,rfl⟩,j⟩,vU T' (r+1),nK t (r+1),?_,k,rfl,A⟩;refine a9.SO (p:=mM T[p]) w ⟨p,o,m,rfl⟩ j ?_ ?_
 . rintro v ⟨i,g,u,rfl⟩;obtain ⟨f,h,b,e,z⟩:=d i g (by omega);exact ⟨_,f,⟨_,h,by split<;>omega,rfl⟩,b,e,z⟩
 . rintro q ⟨i,g,u,rfl⟩;by_cases e:i=p
   . subst e;exact .inl rfl
   . right;by_cases s:i=r
     . subst s;obtain ⟨f,h,b,a,_⟩:=d p (by omega) (by omega);simp only [if_pos] at a;refine ⟨f,mM T'[p],b,⟨p,by omega,by omega,rfl⟩,?_⟩;rw [a,iA]
     . obtain ⟨f,h,b,a,_⟩:=d i (by omega) (by omega);simp only [if_neg e] at a;refine ⟨f,mM T'[i],b,⟨i,by omega,by omega,rfl⟩,?_⟩;rw [a,iA]
def sj (b:x<256) (a:y<256) (h:y≠0):x^^^gm (gm x (gi y)) y=0:=by
 rw [gq b (ln a) a,iW (ln a) a,Ay y a h,gI x b,U4]
def sm (D:List a8) (k:Nat):Prop:=dL 64 (vU D 0) 0 k
theorem Gk (hl:T.length=T'.length) (h:∀ i (c:i<T.length) (d:i<T'.length),mM T[i]=mM T'[i]) (r:Nat):vU T r=vU T' r:=by
 funext v;apply propext;constructor
 . rintro ⟨i,a,b,rfl⟩;exact ⟨i,by omega,b,h i a (by omega)⟩
 . rintro ⟨i,a,b,rfl⟩;exact ⟨i,by omega,b,(h i (by omega) a).symm⟩
def AA (R:(Nat->Nat)->Prop) (c m:Nat):Prop:=∀ v,cK v->(∀ j,j<c\/c+m<=j->v j=0)->a9 R v
def kX (m:Nat):Nat->Nat:=λj=>if j=m then 1 else 0
theorem m8 (m:Nat):cK (kX m):=λj=>by unfold kX;split<;>decide
def dL.le:∀ n (R:(Nat->Nat)->Prop) (c k m:Nat),(∀ j,c+m<=j->∀ r,R r->r j=0)->dL n R c k->k<=m
 | 0,_,_,_,_,_,h=>by rw [h];exact T9 _
 | n+1,R,c,k,m,hz,h=>by
  rcases h with ⟨_,h⟩|⟨⟨p,i,g⟩,d,e,f,k1,rfl,h⟩
  . cases m with
    | zero=>exact dL.le n R (c+1) k 0 (λj a=>hz j (by omega)) h
    | succ m=>exact Nat.le_succ_of_le (dL.le n R (c+1) k m (λj a=>hz j (by omega)) h)
  . cases m with
    | zero=>exact absurd (hz c (by omega) p i) g
    | succ m=>
     have:=dL.le n d (c+1) k1 m (λj a r b=>a9.R2 (hz j (by omega)) ((f r).1 (a9.mem (e r b) b)).1) h;omega
theorem dL.S4:∀ n (R:(Nat->Nat)->Prop) (c m:Nat),(∀ r,R r->cK r)->(∀ j,c+m<=j->∀ r,R r->r j=0)->(∀ j,j<c->∀ r,R r->r j=0)->dL n R c m->AA R c m
 | 0,R,c,m,hb,hz,hl,h=>by
  intro v _ d;obtain rfl:m=0:=h;have e:v=λ_=>0:=by funext j;exact d j (by omega)
  rw [e];exact a9.zero R
 | n+1,R,c,m,hb,hz,hl,h=>by
  cases m with
  | zero=>
   intro v _ d;have e:v=λ_=>0:=(by funext j;exact d j (by omega));rw [e];exact a9.zero R
  | succ m=>
   rcases h with ⟨y,h⟩|⟨⟨p,f,t⟩,g,k,i,k1,e,h⟩
   . have:=dL.le n R (c+1) (m+1) m (λj b=>hz j (by omega)) h;omega
   . obtain rfl:k1=m:=(by omega);have sub:=λr (a:g r)=>(i r).1 (a9.mem (k r a) a);have ih:=dL.S4 n g (c+1) k1 k (λj b r a=>a9.R2 (hz j (by omega)) (sub r a).1)
      (λj b r a=>by
       by_cases e:j=c
       . rw [e];exact (sub r a).2
       . exact a9.R2 (hl j (by omega)) (sub r a).1) h
     intro v d w;have o:=d c;have u:=hb p f c;have l:=bE (gi (p c)) o;have x:=ih (cY v (gm (v c) (gi (p c))) p) (λj=>uY (d j) (bE _ l)) (by
      intro j b;show v j^^^gm (gm (v c) (gi (p c))) (p j)=0;by_cases e:j=c
      . rw [e];exact sj o u t
      . have q:v j=0:=w j (by omega);have s:p j=0:=by
         rcases b with b|b
         . exact hl j (by omega) p f
         . exact hz j (by omega) p f
        rw [q,s,de,U4])
     have:=((i _).1 x).1.step l f;rwa [iA] at this
def dL.S3:∀ n (R:(Nat->Nat)->Prop) (c k m:Nat),m<=n->(∀ j,c+m<=j->∀ r,R r->r j=0)->AA R c m->dL n R c k->k=m
 | 0,_,_,_,m,hm,_,_,h=>by rw [h];omega
 | n+1,R,c,k,m,hm,hz,hF,h=>by
  cases m with
  | zero=>have:=dL.le (n+1) R c k 0 hz h;omega
  | succ m=>
   rcases h with ⟨g,h⟩|⟨⟨p,s,q⟩,f,l,a,k1,rfl,h⟩
   . have i:=hF (kX c) (m8 c) (λj d=>if_neg (by omega));have:=a9.R2 g i;simp [kX] at this
   . have:=dL.S3 n f (c+1) k1 m (by omega) (λj d r e=>a9.R2 (hz j (by omega)) ((a r).1 (a9.mem (l r e) e)).1)
      (λv o b=>(a v).2 ⟨hF v o (λj d=>b j (by omega)),b c (by omega)⟩) h
     omega
theorem Gl {D:List a8} {m:Nat} (d:∀ l∈D,∀ x∈l,x<256) (hl:∀ l∈D,l.length<=m) (f:m<=64) (h:sm D k):k=m↔AA (vU D 0) 0 m:=by
 have b:∀ j,0+m<=j->∀ r,vU D 0 r->r j=0:=by
  rintro j a r ⟨i,e,_,rfl⟩;unfold mM;have:=hl _ (T4 e);simp [VM (show (D[i]).length<=j by omega)]
 constructor
 . rintro rfl;exact dL.S4 64 _ 0 k (nK d 0) b (λj a=>absurd a (by omega)) h
 . intro c;exact dL.S3 64 _ 0 k m f b c h
theorem AA.units (f:∀ r,R r->cK r) {m:Nat} (h:∀ j,j<m->a9 R (kX j)):AA R 0 m:=by
 intro v d g;have key:∀ t,t<=m->a9 R (λj=>if j<t then v j else 0):=by
  intro t;induction t with
  | zero=>intro _;exact a9.zero R
  | succ t ih=>
   intro i;have:=a9.add f (ih (by omega)) (d t) (h t (by omega));have e:cY (λj=>if j<t then v j else 0) (v t) (kX t)=λj=>if j<t+1 then v j else 0:=by
    funext j;show (if j<t then v j else 0)^^^gm (v t) (if j=t then 1 else 0)=if j<t+1 then v j else 0;by_cases a:j=t
    . subst a;simp [gI _ (d j)]
    . rw [if_neg a,de,U8];by_cases b:j<t
      . rw [if_pos b,if_pos (by omega)]
      . rw [if_neg b,if_neg (by omega)]
   rwa [e] at this
 have:=key m (TV _);have e:(λj=>if j<m then v j else 0)=v:=by
  funext j;by_cases c:j<m
  . rw [if_pos c]
  . rw [if_neg c];exact (g j (by omega)).symm
 rwa [e] at this
def QU (b:a<256) (h:a≠0):gi a≠0:=by
 intro e;have:=Ay a b h;rw [e,de] at this;exact absurd this (by decide)
structure Ck where
 m:Nat->Nat->Nat
 told:Nat
 count:Nat
def dZ (C:Ck) (i:Nat):Option Nat:=(YD C.count).find? (λr=>decide (C.told<=r)&&decide (C.m r i≠0))
def gX {C:Ck} (h:dZ C i=some r):C.told<=r/\r<C.count/\C.m r i≠0:=by
 unfold dZ at h;have a:=List.find?_some h;have b:=List.mem_of_find?_eq_some h;simp at a b;exact ⟨a.1,b,a.2⟩
def yw {C:Ck} (h:dZ C i=none) (r:Nat) (a:C.told<=r) (b:r<C.count):C.m r i=0:=by
 unfold dZ at h;rw [YF] at h;have:=h r (Uy.2 b);simp [a] at this;exact this
def ve {C:Ck} (a:C.told<=r) (b:r<C.count) (c:C.m r i≠0) (d:∀ k,C.told<=k->k<r->C.m k i=0):dZ C i=some r:=by
 unfold dZ;rw [List.find?_range_eq_some];refine ⟨by simp [a,c],Uy.2 b,λj e=>?_⟩;by_cases h:C.told<=j
 . simp [d j h e]
 . simp [h]
def vh {C:Ck} (h:∀ r,C.told<=r->r<C.count->C.m r i=0):dZ C i=none:=by
 unfold dZ;rw [YF];intro r b;by_cases a:C.told<=r
 . simp [h r a (Uy.1 b)]
 . simp [a]
def cM (m:Nat->Nat->Nat) (cnt r i:Nat):Nat->Nat->Nat:=λk j=>if k<cnt/\k≠r then m k j^^^gm (gm (m k i) (gi (m r i))) (m r j) else m k j
def dz (m:Nat->Nat->Nat) (a b:Nat):Nat->Nat->Nat:=λk=>if k=a then m b else if k=b then m a else m k
def eE (m:Nat->Nat->Nat) (r i:Nat):Nat->Nat->Nat:=λk j=>if k=r then gm (m r j) (gi (m r i)) else m k j
def jk (C:Ck) (i r:Nat):Ck:=⟨cM (eE (dz C.m C.told r) C.told i) C.count C.told i,C.told+1,C.count⟩
def gY (C:Ck) (i r:Nat):Ck:=⟨λk=>if k=r then cM C.m C.count r i (C.count-1) else cM C.m C.count r i k,C.told,C.count-1⟩
def ph (C:Ck) (i:Nat):Option Ck:=(dZ C i).map (jk C i)
def iB (C:Ck) (i:Nat):Option Ck:=(dZ C i).map (gY C i)
def yz (C:Ck):Prop:=∀ r,cK (C.m r)
def pj (C:Ck) (t:Nat):(Nat->Nat)->Prop:=λv=>∃ r,t<=r/\r<C.count/\v=C.m r
def vV {r:Nat->Nat} (c:cK u) (b:a<256):cK (cY u a r):=λj=>uY (c j) (bE _ b)
theorem iC (h:k<cnt/\k≠r):cM m cnt r i k=cY (m k) (gm (m k i) (gi (m r i))) (m r):=by
 funext j;unfold cM cY;rw [if_pos h]
theorem nL (h:¬ (k<cnt/\k≠r)):cM m cnt r i k=m k:=by
 funext j;unfold cM;rw [if_neg h]
def nO (h:∀ k,cK (m k)) (k:Nat):cK (cM m cnt r i k):=by
 by_cases a:k<cnt/\k≠r
 . rw [iC a];exact vV (h k) (bE _ (h k i))
 . rw [nL a];exact h k
theorem jA (h:∀ k,cK (m k)) (k:Nat):cK (dz m a b k):=by
 unfold dz;split
 . exact h b
 . split
   . exact h a
   . exact h k
theorem sn (h:∀ k,cK (m k)) (k:Nat):cK (eE m r i k):=λj=>by
 unfold eE;split
 . exact bE _ (h r j)
 . exact h k j
def Gm {C:Ck} (h:yz C):yz (jk C i r):=nO (sn (jA h))
theorem m9 {C:Ck} (h:yz C):yz (gY C i r):=λk=>by
 show cK (if k=r then _ else _);split
 . exact nO h _
 . exact nO h _
def vW {C:Ck} (h:yz C) (t:Nat):∀ r,pj C t r->cK r:=by
 rintro r ⟨k,_,_,rfl⟩;exact h k
def Db (a:x<256) (b:y<256) (h:y≠0):x^^^gm (gm x (gi y)) y=0:=sj a b h
def Dd {C:Ck} {t:Nat} (b:yz C) (u:t<=C.told) (o:C.told<=r) (n:r<C.count) (g:C.m r i≠0) (v:Nat->Nat) :
 a9 (pj (gY C i r) t) v↔a9 (pj C t) v/\v i=0:=by
 refine a9.SO (p:=C.m r) (vW b t) ⟨r,by omega,n,rfl⟩ g ?_ ?_ v
 . rintro q ⟨k,k1,k2,rfl⟩;have:k<C.count-1:=k2;have key:∀ a,t<=a->a<C.count->a≠r->∃ q f,pj C t q/\f<256/\cM C.m C.count r i a=cY q f (C.m r)/\cM C.m C.count r i a i=0:=by
    intro a j c d;refine ⟨C.m a,gm (C.m a i) (gi (C.m r i)),⟨a,j,c,rfl⟩,bE _ (b a i),iC ⟨c,d⟩,?_⟩;rw [iC ⟨c,d⟩];exact Db (b a i) (b r i) g
   show ∃ q f,pj C t q/\f<256/\(if k=r then cM C.m C.count r i (C.count-1) else cM C.m C.count r i k)=cY q f (C.m r)/\(if k=r then cM C.m C.count r i (C.count-1) else cM C.m C.count r i k) i=0;by_cases e:k=r
   . rw [if_pos e];exact key (C.count-1) (by omega) (by omega) (by omega)
   . rw [if_neg e];exact key k k1 (by omega) e
 . rintro q ⟨k,k1,k2,rfl⟩;by_cases e:k=r
   . left;rw [e]
   . right;have l:cM C.m C.count r i k=cY (C.m k) (gm (C.m k i) (gi (C.m r i))) (C.m r):=iC ⟨k2,e⟩;refine ⟨gm (C.m k i) (gi (C.m r i)),cM C.m C.count r i k,bE _ (b k i),?_,?_⟩
     . by_cases h:k=C.count-1
       . refine ⟨r,by omega,by show r<C.count-1;omega,?_⟩;show _=(if r=r then cM C.m C.count r i (C.count-1) else cM C.m C.count r i r);rw [if_pos rfl,h]
       . refine ⟨k,k1,by show k<C.count-1;omega,?_⟩;show _=(if k=r then cM C.m C.count r i (C.count-1) else cM C.m C.count r i k);rw [if_neg e]
     . rw [l,iA]
def De {C:Ck} (c:k<C.told) (a:C.told<=r) (b:r<C.count):(gY C i r).m k=cY (C.m k) (gm (C.m k i) (gi (C.m r i))) (C.m r):=by
 show (if k=r then cM C.m C.count r i (C.count-1) else cM C.m C.count r i k)=_;rw [if_neg (by omega),iC ⟨by omega,by omega⟩]
def O2:gi 1=1:=by decide +kernel
theorem nP {C:Ck} (c:yz C) (p:k<C.count) (d:k≠C.told) (o:C.m r i≠0) :
 (jk C i r).m k=cY (dz C.m C.told r k) (gm (dz C.m C.told r k i) (gi (C.m r i))) (C.m r):=by
 have h:dz C.m C.told r C.told=C.m r:=by unfold dz;rw [if_pos rfl]
 have l:eE (dz C.m C.told r) C.told i k=dz C.m C.told r k:=by funext j;unfold eE;rw [if_neg d]
 have n:eE (dz C.m C.told r) C.told i C.told=λj=>gm (C.m r j) (gi (C.m r i)):=by funext j;unfold eE;rw [if_pos rfl,h]
 show cM (eE (dz C.m C.told r) C.told i) C.count C.told i k=_;rw [iC ⟨p,d⟩,l,n];funext j;show _^^^gm (gm _ (gi (gm (C.m r i) (gi (C.m r i))))) (gm (C.m r j) (gi (C.m r i)))=_^^^gm (gm _ (gi (C.m r i))) (C.m r j);have g:=jA (a:=C.told) (b:=r) c k i;have f:=c r i;have e:=ln f;rw [Ay _ f o,O2,gI _ g,iW (c r j) e,<- gq g e (c r j)]
theorem AC {C:Ck}:(jk C i r).m C.told=λj=>gm (C.m r j) (gi (C.m r i)):=by
 have a:dz C.m C.told r C.told=C.m r:=by unfold dz;rw [if_pos rfl]
 show cM (eE (dz C.m C.told r) C.told i) C.count C.told i C.told=_;rw [nL (by omega)];funext j;unfold eE;rw [if_pos rfl,a]
def sq (c:k≠a) (d:k≠b):dz m a b k=m k:=by unfold dz;rw [if_neg c,if_neg d]
def Gn {C:Ck} (b:yz C) (o:C.told<=r) (n:r<C.count) (g:C.m r i≠0) (v:Nat->Nat) :
 a9 (pj (jk C i r) (C.told+1)) v↔a9 (pj C C.told) v/\v i=0:=by
 have s:∀ k,C.told+1<=k->k<C.count->∃ a,C.told<=a/\a<C.count/\a≠r/\dz C.m C.told r k=C.m a:=by
  intro k f c;by_cases e:k=r
  . refine ⟨C.told,by omega,by omega,by omega,?_⟩;unfold dz;rw [if_neg (by omega),if_pos e]
  . exact ⟨k,by omega,c,e,sq (by omega) e⟩
 refine a9.SO (p:=C.m r) (vW b _) ⟨r,o,n,rfl⟩ g ?_ ?_ v
 . rintro q ⟨k,k1,k2,rfl⟩;have l:k<C.count:=k2;obtain ⟨a,f,c,t,e⟩:=s k k1 l;have d:=nP (i:=i) (r:=r) b l (by omega) g;rw [e] at d;refine ⟨C.m a,gm (C.m a i) (gi (C.m r i)),⟨a,f,c,rfl⟩,bE _ (b a i),d,?_⟩;rw [d];exact Db (b a i) (b r i) g
 . rintro q ⟨k,k1,k2,rfl⟩;by_cases e:k=r
   . left;rw [e]
   . right;have h:∃ a,C.told+1<=a/\a<C.count/\dz C.m C.told r a=C.m k:=by
      by_cases j:k=C.told
      . refine ⟨r,by omega,n,?_⟩;unfold dz;rw [if_neg (by omega),if_pos rfl,j]
      . exact ⟨k,by omega,k2,sq j e⟩
     obtain ⟨a,f,c,ge⟩:=h;have d:=nP (i:=i) (r:=r) b c (by omega) g;rw [ge] at d;refine ⟨gm (C.m k i) (gi (C.m r i)),(jk C i r).m a,bE _ (b k i),⟨a,f,c,rfl⟩,?_⟩;rw [d,iA]
def QQ (X:(Nat->Nat)->Prop):Prop:=X (λ_=>0)/\∀ a r u,a<256->X r->X u->X (cY u a r)
theorem Gp (c:QQ X) {C:Ck} {i r:Nat} (d:yz C) (b:r<C.count) (h:∀ k,k<C.count->X (C.m k)):∀ k,k<(gY C i r).count->X ((gY C i r).m k):=by
 have key:∀ k,k<C.count->X (cM C.m C.count r i k):=by
  intro k a;by_cases e:k=r
  . rw [nL (by omega)];exact h k a
  . rw [iC ⟨a,e⟩];exact c.2 _ _ _ (bE _ (d k i)) (h r b) (h k a)
 intro k a;have:k<C.count-1:=a;show X (if k=r then _ else _);split
 . exact key _ (by omega)
 . exact key _ (by omega)
theorem Ju (c:QQ X) {C:Ck} {i r:Nat} (a:yz C) (n:C.told<=r) (b:r<C.count) (f:C.m r i≠0) (h:∀ k,k<C.count->X (C.m k)):∀ k,k<(jk C i r).count->X ((jk C i r).m k):=by
 intro k g;have d:k<C.count:=g;by_cases e:k=C.told
 . rw [e,AC];have l:X (cY (λ_=>0) (gi (C.m r i)) (C.m r)):=c.2 _ _ _ (ln (a r i)) (h r b) c.1;have e:cY (λ_=>0) (gi (C.m r i)) (C.m r)=λj=>gm (C.m r j) (gi (C.m r i)):=by
    funext j;show 0^^^gm (gi (C.m r i)) (C.m r j)=_;rw [VL,iW (ln (a r i)) (a r j)]
   rwa [e] at l
 . rw [nP a d e f];refine c.2 _ _ _ (bE _ (jA a _ _)) (h r b) ?_;unfold dz;split
   . exact h r b
   . split
     . exact h _ (by omega)
     . exact h k d
def tells (C:Ck) (L:a8):Option Ck:=L.foldl (λo i=>o.bind (λc=>ph c i)) (some C)
def jW (C:Ck) (L:a8) (i:Nat):tells C (L++[i])=(tells C L).bind (λc=>ph c i):=by unfold tells;rw [V9];rfl
def iX (C:Ck) (L b:a8) (h:tells C L=none):tells C (L++b)=none:=by
 unfold tells at *;rw [V9,h];induction b with
 | nil=>rfl
 | cons a l ih=>exact ih
structure fj (C0:Ck) (X:(Nat->Nat)->Prop) (L:a8) (C:Ck):Prop where
 told:C.told=L.length
 count:C.count=C0.count
 le:C.told<=C.count
 byt:yz C
 all:∀ k,k<C.count->X (C.m k)
 one:∀ k,k<L.length->∀ k' (h:k'<L.length),C.m k L[k']=if k=k' then 1 else 0
 spare:∀ v,a9 (pj C C.told) v↔a9 (pj C0 0) v/\∀ i∈L,v i=0
def fj.nil {C0:Ck} (a:C0.told=0) (c:yz C0) (b:∀ k,k<C0.count->X (C0.m k)):fj C0 X [] C0:=
 ⟨a,rfl,by omega,c,b,λk d=>absurd d (by simp),λv=>by rw [a];simp⟩
theorem fj.snoc {C0 C C':Ck} (y:QQ X) (h:fj C0 X L C) (s:ph C i=some C'):fj C0 X (L++[i]) C':=by
 unfold ph at s;rw [Wc] at s;obtain ⟨r,A,rfl⟩:=s;obtain ⟨p,q,g⟩:=gX A;have t:∀ j,j∈L->C.m r j=0:=λj d=>((h.spare (C.m r)).1 (a9.mem (h.byt r) ⟨r,p,q,rfl⟩)).2 j d;have u:=h.told;refine ⟨?_,h.count,by show C.told+1<=C.count;omega,Gm h.byt,Ju y h.byt p q g h.all,?_,?_⟩
 . show C.told+1=_;simp [u]
 . intro k z f x;simp at z x;by_cases e:k=L.length
   . have w:k=C.told:=(by omega);rw [w,AC];by_cases n:f=L.length
     . subst n;rw [Xt (by omega)];simp [u,Ay _ (h.byt r i) g]
     . have l:f<L.length:=(by omega);rw [Xu l];show gm (C.m r L[f]) _=_;rw [t _ (T4 l),cT,if_neg (by omega)]
   . have l:k<L.length:=(by omega);rw [nP h.byt (by omega) (by omega) g,sq (by omega) (by omega)];by_cases n:f=L.length
     . subst n;rw [Xt (by omega)];simp only [Wx,List.getElem_singleton];show C.m k i^^^gm (gm (C.m k i) (gi (C.m r i))) (C.m r i)=_;rw [Db (h.byt k i) (h.byt r i) g,if_neg e]
     . have o:f<L.length:=(by omega);rw [Xu o];show C.m k L[f]^^^gm _ (C.m r L[f])=_;rw [t _ (T4 o),de,U8,h.one k l f o]
 . intro v;have:=Gn (i:=i) h.byt p q g v;show a9 (pj (jk C i r) (C.told+1)) v↔_;rw [this,h.spare v];constructor
   . rintro ⟨⟨a,b⟩,c⟩;exact ⟨a,λj d=>by rcases Uf.1 d with d|d;exact b j d;rw [Vp.1 d];exact c⟩
   . rintro ⟨a,b⟩;exact ⟨⟨a,λj d=>b j (UB _ d)⟩,b i (by simp)⟩
def fj.of {C0:Ck} (f:QQ X) (l:C0.told=0) (o:yz C0) (n:∀ k,k<C0.count->X (C0.m k)):∀ (a L:a8) (C:Ck),fj C0 X L C->tells C0 L=some C ->
 (∃ b,tells C0 (L++a)=some b/\fj C0 X (L++a) b)\/(tells C0 (L++a)=none/\∃ pre i,(pre++[i])<+:(L++a)/\∀ v,a9 (pj C0 0) v->(∀ j∈pre,v j=0)->v i=0)
 | [],L,C,h,e=>.inl ⟨C,by simpa using e,by simpa using h⟩
 | i::a,L,C,h,e=>by
  have c:L++i::a=(L++[i])++a:=by simp
  cases ht:ph C i with
  | none=>
   right;have d:tells C0 (L++[i])=none:=(by rw [jW,e];exact ht);refine ⟨by rw [c];exact iX _ _ _ d,L,i,by rw [c];exact Xw _ _,?_⟩;intro v q s;have hn:dZ C i=none:=by
    unfold ph at ht;exact Option.map_eq_none_iff.1 ht
   exact a9.R2 (λr p=>by obtain ⟨k,k1,k2,rfl⟩:=p;exact yw hn k k1 k2) ((h.spare v).2 ⟨q,s⟩)
  | some b=>
   have g:=h.snoc f ht;have d:tells C0 (L++[i])=some b:=(by rw [jW,e];exact ht);rw [c];exact fj.of f l o n a (L++[i]) b g d
def cF (C:Ck) (i:Nat):Bool:=(YD C.told).any (λr=>decide (C.m r i≠0))
theorem gZ {C:Ck}:cF C i=false↔∀ r,r<C.told->C.m r i=0:=by
 unfold cF;rw [List.any_eq_false];constructor
 . intro h r a;have:=h r (Uy.2 a);simpa using this
 . intro h r a;simp [h r (Uy.1 a)]
def qC {C:Ck} (a:r<C.told) (b:C.m r i≠0):cF C i=true:=by
 cases h:cF C i with
 | true=>rfl
 | false=>exact absurd (gZ.1 h r a) b
def iD (K:a8) (C:Ck):Nat:=(K.filter (cF C)).length
abbrev cd:=Ck×Nat
def eS (K:a8) (s:cd) (C:Ck):cd:=if iD K C=0\/iD K C<s.2 then (C,iD K C) else s
def ab (s:Nat):a8:=(YD 16).filter (λi=>s.testBit i)
def bH (s i:Nat):Nat:=s/2^(i+1)*2^(i+1)
def lq (s i j:Nat):(bH s i).testBit j=(decide (i<j)&&s.testBit j):=by
 unfold bH;rw [Nat.testBit_mul_two_pow];by_cases h:i+1<=j
 . simp only [Nat.testBit_div_two_pow];rw [show j-(i+1)+(i+1)=j by omega];simp [h,show i<j by omega]
 . simp [h,show ¬ i<j by omega]
def qD (s:Nat):(ab s).Pairwise (· < ·):=(List.pairwise_lt_range (n:=16)).filter _
def cO:i∈ab s↔i<16/\s.testBit i=true:=by unfold ab;rw [Vz,Uy]
theorem AD {pre R:a8} (h:ab s=pre++i::R):ab (bH s i)=R:=by
 have e:ab (bH s i)=(ab s).filter (λj=>decide (i<j)):=by
  unfold ab;rw [List.filter_filter];apply List.filter_congr;intro j _;rw [lq]
 have b:=qD s;rw [h] at b;rw [e,h,Wd,List.filter_cons];obtain ⟨l,f,g⟩:=aaT.1 b;obtain ⟨k,m⟩:=List.pairwise_cons.1 f;have c:pre.filter (λj=>decide (i<j))=[]:=aaU.2 (λj a=>by have:=g j a i (by simp);simp;omega);have d:R.filter (λj=>decide (i<j))=R:=List.filter_eq_self.2 (λj a=>by have:=k j a;simp;omega);rw [c,d];simp
def ia (rec:Ck->Nat->Nat->cd->cd) (C:Ck) (of:Nat) (a:Nat×cd×Bool) (i:Nat):Nat×cd×Bool:=
 if a.2.2=true then a else if ¬ a.1<a.2.1.2 then (a.1,a.2.1,true) else
  match iB C i with
  | none=>a
  | some C'=>(a.1+1,rec C' (bH of i) a.1 a.2.1,false)
def iF (K:a8):Nat->Ck->Nat->Nat->cd->cd
 | 0,C,of,p,st=>((ab of).foldl (ia (λ_ _ _ s=>s) C of) (p,eS K st C,false)).2.1
 | n+1,C,of,p,st=>((ab of).foldl (ia (iF K n) C of) (p,eS K st C,false)).2.1
def yA (K:a8):Nat->Ck->Nat->Nat->cd->cd
 | 0=>λ_ _ _ s=>s
 | n+1=>iF K n
def pr (K:a8) (n:Nat) (C:Ck) (of p:Nat) (st:cd):iF K n C of p st=((ab of).foldl (ia (yA K n) C of) (p,eS K st C,false)).2.1:=by
 cases n<;>rfl
theorem AE (K:a8) (s:cd) (C:Ck):(eS K s C).2<=s.2:=by
 unfold eS;split
 . show iD K C<=s.2;omega
 . exact TV _
theorem Gq (K:a8) (s:cd) (C:Ck):(eS K s C).2<=iD K C:=by
 unfold eS;split
 . exact TV _
 . show s.2<=iD K C;omega
theorem MQ {rec:Ck->Nat->Nat->cd->cd} (h:∀ C of p s,(rec C of p s).2<=s.2) (C:Ck) (of:Nat) (a:Nat×cd×Bool) (i:Nat):(ia rec C of a i).2.1.2<=a.2.1.2:=by
 unfold ia;split
 . exact TV _
 . split
   . exact TV _
   . split
     . exact TV _
     . exact h _ _ _ _
def nQ {rec:Ck->Nat->Nat->cd->cd} (h:∀ C of p s,(rec C of p s).2<=s.2) (C:Ck) (of:Nat):∀ (L:a8) (a:Nat×cd×Bool),(L.foldl (ia rec C of) a).2.1.2<=a.2.1.2
 | [],_=>TV _
 | i::L,a=>TW (nQ h C of L (ia rec C of a i)) (MQ h C of a i)
def vX (K:a8):∀ n C of p s,(iF K n C of p s).2<=s.2
 | 0,C,of,_,s=>TW (nQ (λ_ _ _ _=>TV _) C of _ _) (AE K s C)
 | n+1,C,of,_,s=>TW (nQ (vX K n) C of _ _) (AE K s C)
def MR (K:a8) (n:Nat):∀ C of p s,(yA K n C of p s).2<=s.2:=by
 cases n with
 | zero=>exact λ_ _ _ _=>TV _
 | succ n=>exact vX K n
def vY (rec:Ck->Nat->Nat->cd->cd) (C:Ck) (of:Nat) (p:Nat) (s:cd):∀ L:a8,L.foldl (ia rec C of) (p,s,true)=(p,s,true)
 | []=>rfl
 | i::L=>by
  have e:ia rec C of (p,s,true) i=(p,s,true):=by unfold ia;rw [if_pos rfl]
  rw [Wy,e];exact vY rec C of p s L
def Df (C:Ck) (j:Nat):Prop:=∀ r,C.told<=r->r<C.count->C.m r j=0
def Df.span {C:Ck} (h:Df C j) {v:Nat->Nat} (b:a9 (pj C C.told) v):v j=0:=
 a9.R2 (λr a=>by obtain ⟨k,k1,k2,rfl⟩:=a;exact h k k1 k2) b
def gu {C C':Ck} (h:iB C i=some C'):∃ r,C'=gY C i r/\C.told<=r/\r<C.count/\C.m r i≠0:=by
 unfold iB at h;rw [Wc] at h;obtain ⟨r,d,rfl⟩:=h;obtain ⟨a,b,c⟩:=gX d;exact ⟨r,rfl,a,b,c⟩
def Dg {C C':Ck} (b:yz C) (h:iB C i=some C') (a:Df C j\/j=i):Df C' j:=by
 obtain ⟨r,rfl,c,d,e⟩:=gu h;intro k k1 k2;have:=(Dd (t:=C.told) b (TV _) c d e ((gY C i r).m k)).1 (a9.mem (m9 b k) ⟨k,k1,k2,rfl⟩);rcases a with a|rfl
 . exact a.span this.1
 . exact this.2
theorem Jv (h:x^^^y=0):x=y:=by
 have:=congrArg (·^^^y) h;simp only [VL] at this;rwa [Vo,U4,U8] at this
inductive jB (C:Ck):Ck->Prop
 | refl:jB C C
 | step {C1 C2:Ck} {i:Nat}:jB C C1->iB C1 i=some C2->jB C C2
def jB.trans {A B C:Ck} (h:jB A B) (a:jB B C):jB A C:=by
 induction a with
 | refl=>exact h
 | step _ hl ih=>exact .step ih hl
def sr (K:a8) (C:Ck) (s s':cd):Prop:=s'=s\/(jB C s'.1/\s'.2=iD K s'.1)
theorem AF (K:a8) (s:cd) (C:Ck):sr K C s (eS K s C):=by
 unfold eS;split
 . exact .inr ⟨.refl,rfl⟩
 . exact .inl rfl
theorem su {K:a8} {rec:Ck->Nat->Nat->cd->cd} (h:∀ C of p s,sr K C s (rec C of p s)) (C:Ck) (of:Nat):∀ (L:a8) (a:Nat×cd×Bool),sr K C a.2.1 (L.foldl (ia rec C of) a).2.1
 | [],_=>.inl rfl
 | i::L,a=>by
  have d:sr K C a.2.1 (ia rec C of a i).2.1:=by
   unfold ia;split
   . exact .inl rfl
   . split
     . exact .inl rfl
     . split
       . exact .inl rfl
       . rename_i c hl
         rcases h c (bH of i) a.1 a.2.1 with e|⟨b,f⟩
         . exact .inl e
         . exact .inr ⟨jB.trans (.step .refl hl) b,f⟩
  rcases su h C of L (ia rec C of a i) with e|b
  . rw [Wy,e];exact d
  . exact .inr b
def yB (K:a8):∀ n C of p s,sr K C s (iF K n C of p s):=by
 have comb:∀ {rec:Ck->Nat->Nat->cd->cd} (_:∀ C of p s,sr K C s (rec C of p s)) C of p s,sr K C s ((ab of).foldl (ia rec C of) (p,eS K s C,false)).2.1:=by
  intro rec h C of p s;rcases su h C of (ab of) (p,eS K s C,false) with e|a
  . rw [e];exact AF K s C
  . exact .inr a
 intro n;induction n with
 | zero=>exact comb (λ_ _ _ _=>.inl rfl)
 | succ n ih=>exact comb ih
def aP (n:Nat) (C:Ck) (kept:Nat):cd:=iF (ab kept) n C kept 0 (C,(ab kept).length)
def MT (K:a8) (C:Ck):iD K C<=K.length:=Wz _ _
def yC (n:Nat) (C:Ck) (kept:Nat):jB C (aP n C kept).1/\(aP n C kept).2=iD (ab kept) (aP n C kept).1:=by
 rcases yB (ab kept) n C kept 0 (C,(ab kept).length) with e|h
 . have a:(aP n C kept).2<=iD (ab kept) C:=by
    unfold aP;rw [pr];exact TW (nQ (MR _ n) C kept _ _) (Gq _ _ C)
   have b:aP n C kept=(C,(ab kept).length):=e;rw [b] at a ⊢;exact ⟨.refl,Nat.le_antisymm a (MT _ _)⟩
 . exact h
theorem jB.good {C C':Ck} (o:QQ X) (s:jB C C') (p:yz C) (l:C.told<=C.count) (h:∀ k,k<C.count->X (C.m k))
 (n:∀ j∈L,Df C j) :
 yz C'/\C'.told=C.told/\C'.told<=C'.count/\C'.count<=C.count/\(∀ k,k<C'.count->X (C'.m k))/\(∀ k,k<C.told->∀ j∈L,C'.m k j=C.m k j)/\∀ j∈L,Df C' j:=by
 induction s with
 | refl=>exact ⟨p,rfl,l,TV _,h,λ_ _ _ _=>rfl,n⟩
 | step _ hl ih=>
  obtain ⟨b,t,le,v,g,on,sp⟩:=ih;rename_i c u i _
  obtain ⟨r,a,f,e,w⟩:=gu hl;refine ⟨by rw [a];exact m9 b,by rw [a];exact t,by rw [a];show c.told<=c.count-1;omega,by rw [a];show c.count-1<=_;omega,by rw [a];exact Gp o b e g,?_,λj d=>Dg b hl (.inl (sp j d))⟩;intro k q j d;rw [a,De (by omega) f e];show c.m k j^^^gm _ (c.m r j)=_;rw [sp j d r f e,de,U8,on k q j d]
def xs (f:Nat->Nat):Nat->Nat
 | 0=>0
 | n+1=>xs f n^^^f n
def iG {g:Nat->Nat}:∀ n,(∀ i,i<n->f i=g i)->xs f n=xs g n
 | 0,_=>rfl
 | n+1,h=>by show xs f n^^^f n=xs g n^^^g n;rw [iG n (λi a=>h i (by omega)),h n (by omega)]
def sy (f g:Nat->Nat):∀ n,xs (λi=>f i^^^g i) n=xs f n^^^xs g n
 | 0=>(U4 0).symm
 | n+1=>by show xs _ n^^^(f n^^^g n)=(xs f n^^^f n)^^^(xs g n^^^g n);rw [sy f g n,MP]
def eU:∀ n,(∀ i,i<n->f i=0)->xs f n=0
 | 0,_=>rfl
 | n+1,h=>by show xs f n^^^f n=0;rw [eU n (λi a=>h i (by omega)),h n (by omega)];rfl
def Jw (c:Nat) (f:Nat->Nat):∀ n,xs (λi=>gm c (f i)) n=gm c (xs f n)
 | 0=>(de c).symm
 | n+1=>by show xs _ n^^^gm c (f n)=gm c (xs f n^^^f n);rw [Jw c f n,fO]
def pt:∀ n,k<n->(∀ i,i<n->i≠k->f i=0)->xs f n=f k
 | 0,h,_=>absurd h (by omega)
 | n+1,h,hz=>by
  show xs f n^^^f n=f k;by_cases e:k=n
  . rw [eU n (λi a=>hz i (by omega) (by omega)),e,VL]
  . rw [pt n (by omega) (λi a=>hz i (by omega)),hz n (by omega) (by omega),U8]
def Jy:∀ n,(∀ i,i<n->f i<256)->xs f n<256
 | 0,_=>by show 0<256;decide
 | n+1,h=>uY (Jy n (λi a=>h i (by omega))) (h n (by omega))
def Dh (f:Nat->Nat) (a:Nat):∀ b,xs f (a+b)=xs f a^^^xs (λi=>f (a+i)) b
 | 0=>(U8 _).symm
 | b+1=>by show xs f (a+b)^^^f (a+b)=xs f a^^^(xs _ b^^^f (a+b));rw [Dh f a b,Vo]
def Di (M:Nat->Nat->Nat) (D n:Nat) (v:Nat->Nat):Prop:=cK v/\(∀ i,n<=i->v i=0)/\∀ j,j<D->xs (λi=>gm (v i) (M i j)) n=0
def AG (M:Nat->Nat->Nat) (D n:Nat) (f:∀ i,cK (M i)):QQ (Di M D n):=by
 refine ⟨⟨λ_=>by show 0<256;decide,λ_ _=>rfl,λj _=>eU n (λi _=>cT _)⟩,?_⟩;rintro a r u b ⟨g,h,k⟩ ⟨u1,u2,u3⟩;refine ⟨vV u1 b,λi c=>?_,λj d=>?_⟩
 . show u i^^^gm a (r i)=0;rw [u2 i c,h i c,de];rfl
 . have e:xs (λi=>gm (cY u a r i) (M i j)) n=xs (λi=>gm (u i) (M i j)^^^gm a (gm (r i) (M i j))) n:=
    iG n (λi _=>by show gm (u i^^^gm a (r i)) (M i j)=_;rw [gH _ (u1 i) (bE _ b),gq b (g i) (f i j)])
   rw [e,sy,Jw,u3 j d,k j d,de];rfl
def mR (M:Nat->Nat->Nat) (D P:Nat):Ck:=⟨λr j=>if r<P then (if j<D then M (D+r) j else if j=D+r then 1 else 0) else 0,0,P⟩
theorem sA (a:∀ i,cK (M i)):yz (mR M D P):=λr j=>by
 show (if r<P then _ else _)<256;split
 . split
   . exact a _ _
   . split<;>decide
 . decide
def AH (a:∀ i,cK (M i)) (d:∀ i,i<D->∀ j,M i j=if j=i then 1 else 0) (k:Nat) (f:k<P):Di M D (D+P) ((mR M D P).m k):=by
 have e:∀ i,(mR M D P).m k i=if i<D then M (D+k) i else if i=D+k then 1 else 0:=λi=>by show (if k<P then _ else _)=_;rw [if_pos f]
 refine ⟨sA a k,λi b=>by rw [e,if_neg (by omega),if_neg (by omega)],λj c=>?_⟩;rw [Dh];have h:xs (λi=>gm ((mR M D P).m k i) (M i j)) D=M (D+k) j:=by
  rw [pt (k:=j) D c]
  . rw [e,if_pos c,d j c,if_pos rfl,gI _ (a _ _)]
  . intro i b g;rw [d i b,if_neg (V1 g),de]
 have l:xs (λi=>gm ((mR M D P).m k (D+i)) (M (D+i) j)) P=M (D+k) j:=by
  rw [pt (k:=k) P f]
  . rw [e,if_neg (by omega),if_pos rfl,iW (by decide) (a _ _),gI _ (a _ _)]
  . intro i b g;rw [e,if_neg (by omega),if_neg (by omega),cT]
 rw [h,l,U4]
theorem AI (f:Nat->Nat->Nat) (a:Nat->Nat) (b:cK a):∀ n,(∀ i,i<n->a i≠0->R (f i))->a9 R (λj=>xs (λi=>gm (a i) (f i j)) n)
 | 0,_=>a9.zero R
 | n+1,h=>by
  have ih:=AI f a b n (λi d=>h i (by omega));by_cases e:a n=0
  . have c:(λj=>xs (λi=>gm (a i) (f i j)) (n+1))=λj=>xs (λi=>gm (a i) (f i j)) n:=by
     funext j;show _^^^gm (a n) (f n j)=_;rw [e,cT,U8]
    rw [c];exact ih
  . exact ih.step (b n) (h n (by omega) e)
def Sel (M:Nat->Nat->Nat) (n:Nat) (Q:Nat->Prop):(Nat->Nat)->Prop:=λv=>∃ i,i<n/\Q i/\v=M i
theorem yD {Q:Nat->Prop} (c:∀ i,cK (M i)) (g:∀ i j,D<=j->M i j=0) (r:k<n) {u:Nat->Nat} (s:Di M D n u) (o:u k=1) (m:∀ i,i<n->i≠k->u i≠0->Q i) :
 a9 (Sel M n Q) (M k):=by
 obtain ⟨u1,u2,u3⟩:=s;have p:cK (λi=>if i=k then 0 else u i):=λi=>by show (if i=k then 0 else u i)<256;split;decide;exact u1 i
 have h:=AI (R:=Sel M n Q) M (λi=>if i=k then 0 else u i) p n (λi d a=>by
  by_cases e:i=k
  . simp [e] at a
  . exact ⟨i,d,m i d e (by simpa [e] using a),rfl⟩)
 have e:(λj=>xs (λi=>gm (if i=k then 0 else u i) (M i j)) n)=M k:=by
  funext j;by_cases q:j<D
  . have l:xs (λi=>gm (u i) (M i j)) n=xs (λi=>gm (if i=k then 0 else u i) (M i j)^^^gm (kX k i) (M i j)) n:=iG n (λi _=>by
     by_cases e:i=k
     . rw [if_pos e,cT,VL,e,o];show _=gm (if k=k then 1 else 0) _;rw [if_pos rfl]
     . rw [if_neg e];show _=_^^^gm (if i=k then 1 else 0) _;rw [if_neg e,cT,U8])
    have b:=u3 j q;rw [l,sy,pt (f:=λi=>gm (kX k i) (M i j)) (k:=k) n r] at b
    . have:=Jv b;rw [this];show gm (if k=k then 1 else 0) (M k j)=_;rw [if_pos rfl,iW (by decide) (c k j),gI _ (c k j)]
    . intro i _ t;show gm (if i=k then 1 else 0) (M i j)=0;rw [if_neg t,cT]
  . rw [g k j (by omega)];exact eU n (λi _=>by rw [g i j (by omega),de])
 rwa [e] at h
structure Code (M:Nat->Nat->Nat) (D P:Nat):Prop where
 byt:∀ i,cK (M i)
 unit:∀ i,i<D->∀ j,M i j=if j=i then 1 else 0
 R2:∀ i j,D<=j->M i j=0
def Code.told (h:Code M D P) (L:a8) :
 (∃ C,tells (mR M D P) L=some C/\fj (mR M D P) (Di M D (D+P)) L C)\/(tells (mR M D P) L=none/\∃ pre i,(pre++[i])<+:L/\∀ v,a9 (pj (mR M D P) 0) v->(∀ j∈pre,v j=0)->v i=0):=by
 have:=fj.of (AG M D (D+P) h.byt) (C0:=mR M D P) rfl (sA h.byt) (λk a=>AH h.byt h.unit k a) L [] (mR M D P) (fj.nil rfl (sA h.byt) (λk a=>AH h.byt h.unit k a)) rfl;simpa using this
structure Gr (M:Nat->Nat->Nat) (D P:Nat) (L:a8) (B:Ck):Prop where
 told:B.told=L.length
 le:B.told<=B.count
 Sg:B.count<=P
 byt:yz B
 dual:∀ k,k<B.told->Di M D (D+P) (B.m k)
 one:∀ k,k<L.length->∀ k' (h:k'<L.length),B.m k L[k']=if k=k' then 1 else 0
def Code.Tb (h:Code M D P) {L:a8} {C B:Ck} (a:fj (mR M D P) (Di M D (D+P)) L C) (n:jB C B):Gr M D P L B:=by
 have i:∀ j∈L,Df C j:=λj l r d c=>((a.spare (C.m r)).1 (a9.mem (a.byt r) ⟨r,d,c,rfl⟩)).2 j l;obtain ⟨b,t,le,p,g,on,_⟩:=n.good (AG M D (D+P) h.byt) a.byt a.le a.all i;have:=a.told;have c:=a.count;refine ⟨by omega,le,by have:C.count=P:=c;omega,b,λk f=>g k (by omega),λk f o e=>?_⟩;rw [on k (by omega) _ (T4 e),a.one k f o e]
def Gr.tells {B:Ck} (d:Code M D P) (h:Gr M D P L B) (hn:∀ i∈L,i<D+P):∀ i∈L,a9 (Sel M (D+P) (λj=>j∉L/\cF B j=true)) (M i):=by
 intro i f;obtain ⟨k,b,rfl⟩:=U0 f;have c:k<B.told:=by have:=h.told;omega
 refine yD d.byt d.R2 (hn _ f) (h.dual k c) (by rw [h.one k b k b,if_pos rfl]) ?_;intro j _ n a;refine ⟨λl=>?_,qC c a⟩;obtain ⟨g,m,rfl⟩:=U0 l;rw [h.one k b g m] at a;by_cases e:k=g
 . subst e;exact n rfl
 . rw [if_neg e] at a;exact a rfl
theorem Gr.sum {B:Ck} (s:Code M D P) (h:Gr M D P L B) (hn:∀ i∈L,i<D+P) (d:Nat->Nat) (u:cK d) (k:Nat) (b:k<L.length) :
 xs (λi=>if i∈L then 0 else gm (B.m k i) (xs (λj=>gm (M i j) (d j)) D)) (D+P)=xs (λj=>gm (M L[k] j) (d j)) D:=by
 have t:k<B.told:=by have:=h.told;omega
 obtain ⟨o,z,y⟩:=h.dual k t;have v:=hn _ (T4 b);have r:∀ i,xs (λj=>gm (M i j) (d j)) D<256:=λi=>Jy D (λj _=>bE _ (s.byt i j));have swap:∀ n,xs (λi=>gm (B.m k i) (xs (λj=>gm (M i j) (d j)) D)) n=xs (λj=>gm (xs (λi=>gm (B.m k i) (M i j)) n) (d j)) D:=by
  intro n;induction n with
  | zero=>exact (eU D (λj _=>cT _)).symm
  | succ n ih=>
   show xs _ n^^^gm (B.m k n) (xs (λj=>gm (M n j) (d j)) D)=_;rw [ih,<- Jw,<- sy];apply iG;intro j _;show _=gm (xs _ n^^^gm (B.m k n) (M n j)) (d j);rw [gH _ (Jy n (λi _=>bE _ (o i))) (bE _ (o n)),gq (o n) (s.byt n j) (u j)]
 have l:xs (λi=>gm (B.m k i) (xs (λj=>gm (M i j) (d j)) D)) (D+P)=0:=by
  rw [swap];exact eU D (λj w=>by rw [y j w,cT])
 have e:xs (λi=>gm (B.m k i) (xs (λj=>gm (M i j) (d j)) D)) (D+P)=xs (λi=>(if i∈L then 0 else gm (B.m k i) (xs (λj=>gm (M i j) (d j)) D))^^^(if i=L[k] then xs (λj=>gm (M L[k] j) (d j)) D else 0)) (D+P):=by
  apply iG;intro i _;by_cases c:i∈L
  . obtain ⟨g,q,rfl⟩:=U0 c;rw [if_pos c,VL,h.one k b g q];by_cases e:L[g]=L[k]
    . rw [if_pos e,e];by_cases a:k=g
      . rw [if_pos a,iW (by decide) (r _),gI _ (r _)]
      . have c1:=h.one k b k b;have p:=h.one k b g q;rw [e,c1,if_pos rfl,if_neg a] at p;exact absurd p (by decide)
    . rw [if_neg e,if_neg (λa=>e (by subst a;rfl)),cT]
  . rw [if_neg c,if_neg (show ¬ i=L[k] from λa=>c (by rw [a];exact T4 b)),U8]
 rw [e,sy,pt (f:=λi=>if i=L[k] then xs (λj=>gm (M L[k] j) (d j)) D else 0) (k:=L[k]) _ v] at l
 . rw [if_pos rfl] at l;exact Jv l
 . intro i _ x;rw [if_neg x]
