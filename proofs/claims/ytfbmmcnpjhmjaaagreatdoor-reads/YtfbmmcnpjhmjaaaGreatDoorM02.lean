set_option maxRecDepth 100000
set_option maxHeartbeats 8000000
open Nat renaming xor_self -> Tm, xor_assoc -> Tn, mod_two_eq_zero_or_one -> To, mul_comm -> Tp, xor_mod_two_pow -> Tq, lt_of_lt_of_le -> Tr, pow_lt_pow_right -> Ts
namespace Go.Proofs.YtfbmmcnpjhmjaaaGreatDoor.Gf
variable {x y a b:Nat}
def tx (a:Nat):Nat:=if a<128 then 2*a else (2*a-256)^^^29
def wN:Nat->Nat->Nat->Nat->Nat
 | 0,_,_,p=>p
 | n+1,a,b,p=>wN n (tx a) (b/2) (if b%2=1 then p^^^a else p)
def gm (a b:Nat):Nat:=wN 8 a b 0
def MJ:Nat->Nat->Nat->Nat
 | 0,_,v=>v
 | n+1,p,v=>MJ n (gm p p) (gm v (gm p p))
def gi (a:Nat):Nat:=MJ 7 a 1
theorem jU (a:x<256) (b:y<256):x^^^y<256:=Nat.xor_lt_two_pow (n:=8) a b
theorem zo (h:a<256):tx a<256:=by
 unfold tx;split
 . omega
 . exact jU (by omega) (by decide)
theorem M7 (n:Nat):∀ a b p,a<256->p<256->wN n a b p<256:=by
 induction n with
 | zero=>intro a b p _ c;exact c
 | succ n ih=>
  intro a b p d c;unfold wN;refine ih _ _ _ (zo d) ?_;split
  . exact jU c d
  . exact c
theorem aU (b:Nat) (c:a<256):gm a b<256:=M7 8 a b 0 c (by decide)
theorem M8 (n:Nat):∀ p v,p<256->v<256->MJ n p v<256:=by
 induction n with
 | zero=>intro p v _ a;exact a
 | succ n ih=>intro p v b a;unfold MJ;exact ih _ _ (aU _ b) (aU _ a)
theorem cY (h:a<256):gi a<256:=M8 7 a 1 h (by decide)
theorem zq (x y:Nat):2*(x^^^y)=(2*x)^^^(2*y):=by
 have:=Nat.shiftLeft_xor_distrib (a:=x) (b:=y) (i:=1);simp only [Nat.shiftLeft_eq,Nat.pow_one] at this;rw [Tp,this,Tp x,Tp y]
theorem Ho (x y:Nat):(x^^^y)/2=(x/2)^^^(y/2):=Nat.xor_div_two
theorem zt (x y:Nat):(x^^^y)%2=(x%2+y%2)%2:=by
 have h:=Tq (a:=x) (b:=y) (n:=1);simp only [Nat.pow_one] at h;rw [h];have c:=To x;have d:=To y;rcases c with c|c<;>rcases d with d|d<;>rw [c,d]<;>rfl
theorem Hp (a b c d:Nat):(a^^^b)^^^(c^^^d)=(a^^^c)^^^(b^^^d):=by
 rw [Tn,Tn,<- Tn b c d,Nat.xor_comm b c,Tn c b d]
theorem Hr:∀ a,a<256->tx a=(2*a)%256^^^(if a/128%2=1 then 29 else 0):=by decide +kernel
theorem M9 (x y:Nat):(x^^^y)/128%2=(x/128%2+y/128%2)%2:=by
 have:(x^^^y)/128=(x/128)^^^(y/128):=Nat.xor_div_two_pow (n:=7);rw [this];exact zt _ _
theorem Na (c:x<256) (d:y<256):tx (x^^^y)=tx x^^^tx y:=by
 rw [Hr _ (jU c d),Hr _ c,Hr _ d,Hp,zq];have h:=Tq (a:=2*x) (b:=2*y) (n:=8);have e:(2:Nat)^8=256:=rfl;rw [e] at h;rw [h,M9];congr 1;have c:=To (x/128);have d:=To (y/128);rcases c with c|c<;>rcases d with d|d<;>rw [c,d]<;>rfl
theorem EP (n:Nat):∀ a b c p q,wN n a (b^^^c) (p^^^q)=wN n a b p^^^wN n a c q:=by
 induction n with
 | zero=>intro a b c p q;rfl
 | succ n ih=>
  intro a b c p q;simp only [wN];rw [Ho,<- ih,zt];congr 1;have d:=To b;have e:=To c;rcases d with d|d<;>rcases e with e|e<;>rw [d,e]<;>simp
  . rw [Tn]
  . rw [Tn,Nat.xor_comm q a,<- Tn]
  . rw [Hp,Tm,Nat.xor_zero]
theorem ER (n:Nat):∀ a d b p q,a<256->d<256->wN n (a^^^d) b (p^^^q)=wN n a b p^^^wN n d b q:=by
 induction n with
 | zero=>intro a d b p q _ _;rfl
 | succ n ih=>
  intro a d b p q c e;simp only [wN];rw [Na c e,<- ih _ _ _ _ _ (zo c) (zo e)];congr 1;by_cases h:b%2=1
  . simp only [h,if_true];exact Hp _ _ _ _
  . simp only [h,if_false]
theorem dX (a b c:Nat):gm a (b^^^c)=gm a b^^^gm a c:=EP 8 a b c 0 0
theorem dY {d:Nat} (b:Nat) (c:a<256) (e:d<256):gm (a^^^d) b=gm a b^^^gm d b:=ER 8 a d b 0 0 c e
theorem O1:∀ x,x<256->x=(if x%2=1 then 1 else 0)^^^((if x/2%2=1 then 2 else 0)^^^((if x/4%2=1 then 4 else 0)^^^((if x/8%2=1 then 8 else 0)^^^((if x/16%2=1 then 16 else 0)^^^((if x/32%2=1 then 32 else 0)^^^((if x/64%2=1 then 64 else 0)^^^(if x/128%2=1 then 128 else 0))))))):=by
 decide +kernel
theorem fq (f g:Nat->Nat) (d:∀ x y,x<256->y<256->f (x^^^y)=f x^^^f y) (j:∀ x y,x<256->y<256->g (x^^^y)=g x^^^g y)
 (h:∀ i,i<8->f (2^i)=g (2^i)) (x:Nat) (C:x<256):f x=g x:=by
 have A:f 0=0:=by have:=d 0 0 (by decide) (by decide);rw [Tm,Tm] at this;exact this
 have B:g 0=0:=by have:=j 0 0 (by decide) (by decide);rw [Tm,Tm] at this;exact this
 have one:∀ (c:Prop) [Decidable c] (i:Nat),i<8->f (if c then 2^i else 0)=g (if c then 2^i else 0):=by
  intro c _ i a;split
  . exact h i a
  . rw [A,B]
 have lt:∀ (c:Prop) [Decidable c] (i:Nat),i<8->(if c then 2^i else 0)<256:=by
  intro c _ i a;split
  . exact Tr (Ts (by decide) a) (by decide)
  . decide
 have st:∀ (c:Prop) [Decidable c] (i y:Nat),i<8->y<256->f y=g y->f ((if c then 2^i else 0)^^^y)=g ((if c then 2^i else 0)^^^y):=by
  intro c _ i y a k e;rw [d _ _ (lt c i a) k,j _ _ (lt c i a) k,one c i a,e]
 have p:=lt (x/128%2=1) 7 (by decide);have o:=jU (lt (x/64%2=1) 6 (by decide)) p;have n:=jU (lt (x/32%2=1) 5 (by decide)) o;have l4:=jU (lt (x/16%2=1) 4 (by decide)) n;have m:=jU (lt (x/8%2=1) 3 (by decide)) l4;have l:=jU (lt (x/4%2=1) 2 (by decide)) m;have l1:=jU (lt (x/2%2=1) 1 (by decide)) l;have z:=one (x/128%2=1) 7 (by decide);have w:=st (x/64%2=1) 6 _ (by decide) p z;have v:=st (x/32%2=1) 5 _ (by decide) o w;have u:=st (x/16%2=1) 4 _ (by decide) n v;have t:=st (x/8%2=1) 3 _ (by decide) l4 u;have r:=st (x/4%2=1) 2 _ (by decide) m t;have q:=st (x/2%2=1) 1 _ (by decide) l r;have b:=st (x%2=1) 0 _ (by decide) l1 q;have s:=O1 x C;simp only [Nat.reducePow] at b;rw [<- s] at b;exact b
theorem BR:∀ i,i<8->∀ j,j<8->gm (2^i) (2^j)=gm (2^j) (2^i):=by decide +kernel
theorem zu:∀ i,i<8->∀ j,j<8->∀ k,k<8->gm (gm (2^i) (2^j)) (2^k)=gm (2^i) (gm (2^j) (2^k)):=by decide +kernel
theorem Hs {i:Nat} (a:i<8):2^i<256:=Tr (Ts (by decide) a) (by decide)
theorem bH (e:a<256) (f:b<256):gm a b=gm b a:=by
 refine fq (λx=>gm a x) (λx=>gm x a) (λx y _ _=>dX a x y) (λx y c d=>dY a c d) (λi g=>?_) b f;refine fq (λx=>gm x (2^i)) (λx=>gm (2^i) x) (λx y c d=>dY _ c d) (λx y _ _=>dX _ x y) (λj h=>?_) a e;exact BR j h i g
theorem aX {c:Nat} (g:a<256) (h:b<256) (l:c<256):gm (gm a b) c=gm a (gm b c):=by
 refine fq (λx=>gm (gm x b) c) (λx=>gm x (gm b c)) (λx y d e=>?_) (λx y d e=>dY _ d e) (λi f=>?_) a g
 . show gm (gm (x^^^y) b) c=_;rw [dY _ d e,dY _ (aU _ d) (aU _ e)]
 refine fq (λx=>gm (gm (2^i) x) c) (λx=>gm (2^i) (gm x c)) (λx y d e=>?_) (λx y d e=>?_) (λj m=>?_) b h
 . show gm (gm (2^i) (x^^^y)) c=_;rw [dX,dY _ (aU _ (Hs f)) (aU _ (Hs f))]
 . show gm (2^i) (gm (x^^^y) c)=_;rw [dY _ d e,dX]
 refine fq (λx=>gm (gm (2^i) (2^j)) x) (λx=>gm (2^i) (gm (2^j) x)) (λx y _ _=>dX _ x y) (λx y _ _=>?_) (λk n=>?_) c l
 . show gm (2^i) (gm (2^j) (x^^^y))=_;rw [dX,dX]
 exact zu i f j m k n
theorem cj:∀ a,a<256->gm a 1=a:=by decide +kernel
theorem jD:∀ a,a<256->a≠0->gm a (gi a)=1:=by decide +kernel
theorem bk (a:Nat):gm a 0=0:=by have:=dX a 0 0;rw [Tm,Tm] at this;exact this
theorem Si (b:Nat):gm 0 b=0:=by have:=dY (a:=0) (d:=0) b (by decide) (by decide);rw [Tm,Tm] at this;exact this
end Go.Proofs.YtfbmmcnpjhmjaaaGreatDoor.Gf
