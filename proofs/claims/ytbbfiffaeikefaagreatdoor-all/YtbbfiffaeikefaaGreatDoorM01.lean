set_option maxRecDepth 100000
set_option linter.all false
set_option maxHeartbeats 8000000
open List renaming range -> YE, find?_eq_none -> YI
open Nat renaming shiftLeft_xor_distrib -> YF, shiftLeft_eq -> YG, xor_mod_two_pow -> YH
namespace Go.Proofs.YtbbfiffaeikefaaGreatDoor
variable {p q:Prop}
abbrev a8:=List Nat
end Go.Proofs.YtbbfiffaeikefaaGreatDoor
namespace Go.Proofs.YtbbfiffaeikefaaGreatDoor
def V7:=@Nat.xor_lt_two_pow
def Wx:=@Nat.mul_comm
def VS:=@Nat.mod_two_eq_zero_or_one
def U3:=@Nat.xor_assoc
def W0:=@Nat.xor_comm
def abE:=@Nat.xor_div_two_pow
def UV:=@Nat.xor_self
def U4:=@Nat.xor_zero
def TZ:=@Nat.lt_of_lt_of_le
def V8:=@Nat.pow_lt_pow_right
def ab8:=@Nat.mul_lt_mul_of_pos_right
def Vz:=@Nat.two_pow_pos
def U8:=@Nat.pow_le_pow_right
def VT:=@Nat.zero_xor
def Xw:=@Nat.eq_of_testBit_eq
def abF:=@Nat.testBit_xor
def TV:=@Nat.le_refl
def TY:=@List.getElem_mem
def Vo:=@List.getElem?_eq_none
def WJ:=@Nat.not_lt
def TT:=@if_pos
def TS:=@if_neg
def T5:=@Nat.zero_le
def Uu:=@List.mem_range
def Wq:=@List.foldl_append
def Wi:=@Option.map_eq_some_iff
def XU:=@List.getElem_append_right
def XV:=@List.getElem_append_left
def WK:=@Nat.sub_self
def Uj:=@List.mem_append
def Vp:=@List.mem_singleton
def UL:=@List.mem_append_left
def XW:=@List.prefix_append
def Vt:=@List.mem_filter
def Wr:=@List.filter_append
def abG:=@List.pairwise_append
def abH:=@List.filter_eq_nil_iff
def TU:=@Nat.le_trans
def W4:=@List.foldl_cons
def Uy:=@congrArg
def WL:=@List.length_filter_le
def Vq:=@Ne.symm
def UT:=@List.getElem_of_mem
def Uz:=@List.append_assoc
def U9:=@List.nodup_append
end Go.Proofs.YtbbfiffaeikefaaGreatDoor
namespace Go.Proofs.YtbbfiffaeikefaaGreatDoor.Gf
variable {R R' X:(Nat->Nat)->Prop} {T T':List a8} {L:a8} {x y a i b c r n k D cnt s j P:Nat} {u f:Nat->Nat} {m M:Nat->Nat->Nat} {Q:Nat->Prop}
def tx (a:Nat):Nat:=if a<128 then 2*a else (2*a-256)^^^29
def ze:Nat->Nat->Nat->Nat->Nat
 | 0,_,_,p=>p
 | n+1,a,b,p=>ze n (tx a) (b/2) (if b%2=1 then p^^^a else p)
def gm (a b:Nat):Nat:=ze 8 a b 0
def Pg:Nat->Nat->Nat->Nat
 | 0,_,v=>v
 | n+1,p,v=>Pg n (gm p p) (gm v (gm p p))
def gi (a:Nat):Nat:=Pg 7 a 1
def rJ (a:x<256) (b:y<256):x^^^y<256:=V7 (n:=8) a b
theorem AO (h:a<256):tx a<256:=by
 unfold tx;split
 . omega
 . exact rJ (by omega) (by decide)
theorem PJ (n:Nat):∀ a b p,a<256->p<256->ze n a b p<256:=by
 induction n with
 | zero=>intro a b p _ c;exact c
 | succ n ih=>
  intro a b p d c;unfold ze;refine ih _ _ _ (AO d) ?_;split
  . exact rJ c d
  . exact c
def bx (b:Nat) (c:a<256):gm a b<256:=PJ 8 a b 0 c (by decide)
def PK (n:Nat):∀ p v,p<256->v<256->Pg n p v<256:=by
 induction n with
 | zero=>intro p v _ a;exact a
 | succ n ih=>intro p v b a;unfold Pg;exact ih _ _ (bx _ b) (bx _ a)
def iu (h:a<256):gi a<256:=PK 7 a 1 h (by decide)
def AP (x y:Nat):2*(x^^^y)=(2*x)^^^(2*y):=by
 have:=YF (a:=x) (b:=y) (i:=1);simp only [YG,Nat.pow_one] at this;rw [Wx,this,Wx x,Wx y]
def JS (x y:Nat):(x^^^y)/2=(x/2)^^^(y/2):=Nat.xor_div_two
def sL (x y:Nat):(x^^^y)%2=(x%2+y%2)%2:=by
 have h:=YH (a:=x) (b:=y) (n:=1);simp only [Nat.pow_one] at h;rw [h];have c:=VS x;have d:=VS y;rcases c with c|c<;>rcases d with d|d<;>rw [c,d]<;>rfl
def DE (a b c d:Nat):(a^^^b)^^^(c^^^d)=(a^^^c)^^^(b^^^d):=by
 rw [U3,U3,<- U3 b c d,W0 b c,U3 c b d]
def JT:∀ a,a<256->tx a=(2*a)%256^^^(if a/128%2=1 then 29 else 0):=by decide +kernel
def PL (x y:Nat):(x^^^y)/128%2=(x/128%2+y/128%2)%2:=by
 have:(x^^^y)/128=(x/128)^^^(y/128):=abE (n:=7);rw [this];exact sL _ _
theorem PM (c:x<256) (d:y<256):tx (x^^^y)=tx x^^^tx y:=by
 rw [JT _ (rJ c d),JT _ c,JT _ d,DE,AP];have h:=YH (a:=2*x) (b:=2*y) (n:=8);have e:(2:Nat)^8=256:=rfl;rw [e] at h;rw [h,PL];congr 1;have c:=VS (x/128);have d:=VS (y/128);rcases c with c|c<;>rcases d with d|d<;>rw [c,d]<;>rfl
theorem GT (n:Nat):∀ a b c p q,ze n a (b^^^c) (p^^^q)=ze n a b p^^^ze n a c q:=by
 induction n with
 | zero=>intro a b c p q;rfl
 | succ n ih=>
  intro a b c p q;simp only [ze];rw [JS,<- ih,sL];congr 1;have d:=VS b;have e:=VS c;rcases d with d|d<;>rcases e with e|e<;>rw [d,e]<;>simp
  . rw [U3]
  . rw [U3,W0 q a,<- U3]
  . rw [DE,UV,U4]
theorem GU (n:Nat):∀ a d b p q,a<256->d<256->ze n (a^^^d) b (p^^^q)=ze n a b p^^^ze n d b q:=by
 induction n with
 | zero=>intro a d b p q _ _;rfl
 | succ n ih=>
  intro a d b p q c e;simp only [ze];rw [PM c e,<- ih _ _ _ _ _ (AO c) (AO e)];congr 1;by_cases h:b%2=1
  . simp only [h,if_true];exact DE _ _ _ _
  . simp only [h,if_false]
def fw (a b c:Nat):gm a (b^^^c)=gm a b^^^gm a c:=GT 8 a b c 0 0
def eZ {d:Nat} (b:Nat) (c:a<256) (e:d<256):gm (a^^^d) b=gm a b^^^gm d b:=GU 8 a d b 0 0 c e
def aaa:∀ x,x<256->x=(if x%2=1 then 1 else 0)^^^((if x/2%2=1 then 2 else 0)^^^((if x/4%2=1 then 4 else 0)^^^((if x/8%2=1 then 8 else 0)^^^((if x/16%2=1 then 16 else 0)^^^((if x/32%2=1 then 32 else 0)^^^((if x/64%2=1 then 64 else 0)^^^(if x/128%2=1 then 128 else 0))))))):=by
 decide +kernel
theorem dJ (f g:Nat->Nat) (d:∀ x y,x<256->y<256->f (x^^^y)=f x^^^f y) (j:∀ x y,x<256->y<256->g (x^^^y)=g x^^^g y)
 (h:∀ i,i<8->f (2^i)=g (2^i)) (x:Nat) (C:x<256):f x=g x:=by
 have A:f 0=0:=by have:=d 0 0 (by decide) (by decide);rw [UV,UV] at this;exact this
 have B:g 0=0:=by have:=j 0 0 (by decide) (by decide);rw [UV,UV] at this;exact this
 have one:∀ (c:Prop) [Decidable c] (i:Nat),i<8->f (if c then 2^i else 0)=g (if c then 2^i else 0):=by
  intro c _ i a;split
  . exact h i a
  . rw [A,B]
 have lt:∀ (c:Prop) [Decidable c] (i:Nat),i<8->(if c then 2^i else 0)<256:=by
  intro c _ i a;split
  . exact TZ (V8 (by decide) a) (by decide)
  . decide
 have st:∀ (c:Prop) [Decidable c] (i y:Nat),i<8->y<256->f y=g y->f ((if c then 2^i else 0)^^^y)=g ((if c then 2^i else 0)^^^y):=by
  intro c _ i y a k e;rw [d _ _ (lt c i a) k,j _ _ (lt c i a) k,one c i a,e]
 have p:=lt (x/128%2=1) 7 (by decide);have o:=rJ (lt (x/64%2=1) 6 (by decide)) p;have n:=rJ (lt (x/32%2=1) 5 (by decide)) o;have l4:=rJ (lt (x/16%2=1) 4 (by decide)) n;have m:=rJ (lt (x/8%2=1) 3 (by decide)) l4;have l:=rJ (lt (x/4%2=1) 2 (by decide)) m;have l1:=rJ (lt (x/2%2=1) 1 (by decide)) l;have z:=one (x/128%2=1) 7 (by decide);have w:=st (x/64%2=1) 6 _ (by decide) p z;have v:=st (x/32%2=1) 5 _ (by decide) o w;have u:=st (x/16%2=1) 4 _ (by decide) n v;have t:=st (x/8%2=1) 3 _ (by decide) l4 u;have r:=st (x/4%2=1) 2 _ (by decide) m t;have q:=st (x/2%2=1) 1 _ (by decide) l r;have b:=st (x%2=1) 0 _ (by decide) l1 q;have s:=aaa x C;simp only [Nat.reducePow] at b;rw [<- s] at b;exact b
def DF:∀ i,i<8->∀ j,j<8->gm (2^i) (2^j)=gm (2^j) (2^i):=by decide +kernel
def AQ:∀ i,i<8->∀ j,j<8->∀ k,k<8->gm (gm (2^i) (2^j)) (2^k)=gm (2^i) (gm (2^j) (2^k)):=by decide +kernel
def JU (a:i<8):2^i<256:=TZ (V8 (by decide) a) (by decide)
def fx (e:a<256) (f:b<256):gm a b=gm b a:=by
 refine dJ (λx=>gm a x) (λx=>gm x a) (λx y _ _=>fw a x y) (λx y c d=>eZ a c d) (λi g=>?_) b f;refine dJ (λx=>gm x (2^i)) (λx=>gm (2^i) x) (λx y c d=>eZ _ c d) (λx y _ _=>fw _ x y) (λj h=>?_) a e;exact DF j h i g
def fy (g:a<256) (h:b<256) (l:c<256):gm (gm a b) c=gm a (gm b c):=by
 refine dJ (λx=>gm (gm x b) c) (λx=>gm x (gm b c)) (λx y d e=>?_) (λx y d e=>eZ _ d e) (λi f=>?_) a g
 . show gm (gm (x^^^y) b) c=_;rw [eZ _ d e,eZ _ (bx _ d) (bx _ e)]
 refine dJ (λx=>gm (gm (2^i) x) c) (λx=>gm (2^i) (gm x c)) (λx y d e=>?_) (λx y d e=>?_) (λj m=>?_) b h
 . show gm (gm (2^i) (x^^^y)) c=_;rw [fw,eZ _ (bx _ (JU f)) (bx _ (JU f))]
 . show gm (2^i) (gm (x^^^y) c)=_;rw [eZ _ d e,fw]
 refine dJ (λx=>gm (gm (2^i) (2^j)) x) (λx=>gm (2^i) (gm (2^j) x)) (λx y _ _=>fw _ x y) (λx y _ _=>?_) (λk n=>?_) c l
 . show gm (2^i) (gm (2^j) (x^^^y))=_;rw [fw,fw]
 exact AQ i f j m k n
def eA:∀ a,a<256->gm a 1=a:=by decide +kernel
def sM:∀ a,a<256->a≠0->gm a (gi a)=1:=by decide +kernel
def Nt:gi 0=0:=by decide +kernel
def bG (a:Nat):gm a 0=0:=by have:=fw a 0 0;rw [UV,UV] at this;exact this
def bK (b:Nat):gm 0 b=0:=by have:=eZ (a:=0) (d:=0) b (by decide) (by decide);rw [UV,UV] at this;exact this
def GV (c:a<256) (d:b<256) (h:gm a b=1):b=gi a:=by
 have i:a≠0:=by intro e;rw [e,bK] at h;exact absurd h (by decide)
 have f:=iu c;have g:=fy f c d;rw [h,eA _ f,fx f c,sM a c i,fx (by decide) d,eA b d] at g;exact g
def pm (a b:Nat):Nat->Nat
 | 0=>0
 | n+1=>if b/2^n%2=1 then pm a b n^^^(a*2^n) else pm a b n
def rd:Nat->Nat->Nat
 | 0,p=>p
 | k+1,p=>rd k (if p/2^(k+8)%2=1 then p^^^(285*2^k) else p)
def FQ (x y n:Nat):(x^^^y)/2^n%2=(x/2^n%2+y/2^n%2)%2:=by
 rw [abE];exact sL _ _
def AR (x y n:Nat):(x^^^y)*2^n=(x*2^n)^^^(y*2^n):=by
 have:=YF (a:=x) (b:=y) (i:=n);simpa only [YG] using this
def JV (a b c n:Nat):pm a (b^^^c) n=pm a b n^^^pm a c n:=by
 induction n with
 | zero=>simp [pm]
 | succ n ih=>
  simp only [pm];rw [FQ,ih];have d:=VS (b/2^n);have e:=VS (c/2^n);rcases d with d|d<;>rcases e with e|e<;>rw [d,e]<;>simp
  . rw [U3]
  . rw [U3,W0 (pm a c n),<- U3]
  . rw [DE,UV,U4]
def JW (a d b n:Nat):pm (a^^^d) b n=pm a b n^^^pm d b n:=by
 induction n with
 | zero=>simp [pm]
 | succ n ih=>
  simp only [pm];rw [ih];by_cases h:b/2^n%2=1
  . simp only [h,if_true];rw [AR];exact DE _ _ _ _
  . simp only [h,if_false]
theorem JX (k:Nat):∀ p q,rd k (p^^^q)=rd k p^^^rd k q:=by
 induction k with
 | zero=>intro p q;rfl
 | succ k ih=>
  intro p q;simp only [rd];rw [<- ih,FQ];congr 1;have a:=VS (p/2^(k+8));have b:=VS (q/2^(k+8));rcases a with a|a<;>rcases b with b|b<;>rw [a,b]<;>simp
  . rw [U3]
  . rw [U3,W0 q,<- U3]
  . rw [DE,UV,U4]
def GW:∀ i,i<8->∀ j,j<8->rd 7 (pm (2^i) (2^j) 8)=gm (2^i) (2^j):=by decide +kernel
def PN (c:a<256) (d:b<256):rd 7 (pm a b 8)=gm a b:=by
 refine dJ (λx=>rd 7 (pm a x 8)) (λx=>gm a x) (λx y _ _=>?_) (λx y _ _=>fw a x y) (λi e=>?_) b d
 . show rd 7 (pm a (x^^^y) 8)=_;rw [JV,JX]
 refine dJ (λx=>rd 7 (pm x (2^i) 8)) (λx=>gm x (2^i)) (λx y _ _=>?_) (λx y g h=>eZ _ g h) (λj f=>?_) a c
 . show rd 7 (pm (x^^^y) (2^i) 8)=_;rw [JW,JX]
 exact GW j f i e
theorem Ph (a b:Nat) (c:a<256):∀ n,n<=8->pm a b n<65536:=by
 intro n;induction n with
 | zero=>intro _;exact (by decide:(0:Nat)<65536)
 | succ n ih=>
  intro e;have h:=ih (by omega);unfold pm;split
  . refine V7 (n:=16) h ?_;have:a*2^n<256*2^n:=ab8 c (Vz n);have:2^n<=2^7:=U8 (by decide) (by omega);omega
  . exact h
def bR (v:Nat->Nat):Prop:=∀ j,v j<256
def cy (u:Nat->Nat) (a:Nat) (r:Nat->Nat):Nat->Nat:=λj=>u j^^^gm a (r j)
def aW (R:(Nat->Nat)->Prop) (v:Nat->Nat):Prop:=∀ S:(Nat->Nat)->Prop,S (λ_=>0)->(∀ a r u,a<256->R r->S u->S (cy u a r))->S v
def aW.zero (R:(Nat->Nat)->Prop):aW R (λ_=>0):=λ_ a _=>a
def aW.step {r:Nat->Nat} (f:aW R u) (d:a<256) (e:R r):aW R (cy u a r):=λS c b=>b a r u d e (f S c b)
theorem py (u:Nat->Nat) (r:Nat->Nat):cy u 0 r=u:=by funext j;simp [cy,bK]
theorem aW.mem {r:Nat->Nat} (b:bR r) (c:R r):aW R r:=by
 have:=aW.step (aW.zero R) (a:=1) (by decide) c;have e:cy (λ_=>0) 1 r=r:=by
  funext j;show 0^^^gm 1 (r j)=r j;rw [fx (by decide) (b j),eA _ (b j),VT]
 rw [e] at this;exact this
theorem aW.add (f:∀ r,R r->bR r) {u v:Nat->Nat} (h:aW R u) {b:Nat} (c:b<256) (i:aW R v):aW R (cy u b v):=by
 refine i (λx=>aW R (cy u b x)) ?_ ?_
 . have e:cy u b (λ_=>0)=u:=(by funext j;simp [cy,bG]);show aW R (cy u b (λ_=>0));rw [e];exact h
 . intro a r x g d k;have e:cy u b (cy x a r)=cy (cy u b x) (gm b a) r:=by
    funext j;show u j^^^gm b (x j^^^gm a (r j))=(u j^^^gm b (x j))^^^gm (gm b a) (r j);rw [fw,fy c g (f r d j),U3]
   show aW R (cy u b (cy x a r));rw [e];exact k.step (bx _ c) d
def aW.sub (a:∀ r,R r->bR r) (h:∀ r,R' r->aW R r) {v:Nat->Nat} (e:aW R' v):aW R v:=
 e (aW R) (aW.zero R) (λ_ r _ b c d=>aW.add a d b (h r c))
def aW.RS (h:∀ r,R r->r c=0) {v:Nat->Nat} (b:aW R v):v c=0:=
 b (λx=>x c=0) rfl (λa r u _ hr (hu:u c=0)=>by show u c^^^gm a (r c)=0;rw [hu,h r hr,bG];exact UV 0)
theorem aW.Sp {R1:(Nat->Nat)->Prop} {p:Nat->Nat} (m:∀ r,R r->bR r) (B:R p) (I:p c≠0)
 (o:∀ r,R1 r->∃ q f,R q/\f<256/\r=cy q f p/\r c=0)
 (F:∀ q,R q->q=p\/∃ f r,f<256/\R1 r/\q=cy r f p) (v:Nat->Nat):aW R1 v↔aW R v/\v c=0:=by
 have L:∀ r,R1 r->bR r:=by
  intro r d;obtain ⟨q,f,l,n,rfl,_⟩:=o r d;exact λj=>rJ (m q l j) (bx _ n)
 constructor
 . intro w;refine ⟨aW.sub m (λr d=>?_) w,aW.RS (λr d=>?_) w⟩
   . obtain ⟨q,f,l,n,rfl,_⟩:=o r d;exact (aW.mem (m q l) l).step n B
   . obtain ⟨q,f,_,_,_,h⟩:=o r d;exact h
 . rintro ⟨w,J⟩;have key:∃ b,b<256/\aW R1 (cy v b p):=by
    refine w (λx=>∃ b,b<256/\aW R1 (cy x b p)) ⟨0,by decide,by rw [py];exact aW.zero R1⟩ ?_;rintro a q u k l ⟨b,g,D⟩;rcases F q l with rfl|⟨f,r,n,d,rfl⟩
    . refine ⟨b^^^a,rJ g k,?_⟩;have e:cy (cy u a q) (b^^^a) q=cy u b q:=by
       funext j;show (u j^^^gm a (q j))^^^gm (b^^^a) (q j)=u j^^^gm b (q j);rw [eZ _ g k,U3,W0 (gm b (q j)),<- U3 (gm a (q j)),UV,VT]
      rw [e];exact D
    . refine ⟨b^^^gm a f,rJ g (bx _ k),?_⟩;have e:cy (cy u a (cy r f p)) (b^^^gm a f) p=cy (cy u b p) a r:=by
       funext j;show (u j^^^gm a (r j^^^gm f (p j)))^^^gm (b^^^gm a f) (p j)=(u j^^^gm b (p j))^^^gm a (r j);rw [fw,eZ _ g (bx _ k),fy k n (m p B j)];generalize gm a (gm f (p j))=t;generalize gm b (p j)=s;generalize gm a (r j)=y;generalize u j=z;apply Xw;intro i;simp only [abF];cases z.testBit i<;>cases y.testBit i<;>cases t.testBit i<;>cases s.testBit i<;>rfl
      rw [e];exact D.step k d
   obtain ⟨b,g,C⟩:=key;have E:=aW.RS (λr d=>by obtain ⟨q,f,_,_,_,h⟩:=o r d;exact h) C;have G:gm b (p c)=0:=by
    have:v c^^^gm b (p c)=0:=E;rwa [J,VT] at this
   have H:b=0:=by
    have A:=m p B c;have K:=iu A;have e:=fy g A K;rw [G,bK,sM _ A I,eA b g] at e;exact e.symm
   rw [H,py] at C;exact C
def cU:Nat->((Nat->Nat)->Prop)->Nat->Nat->Prop
 | 0,_,_,k=>k=0
 | n+1,R,c,k=>((∀ r,R r->r c=0)/\cU n R (c+1) k)\/(∃ p,R p/\p c≠0)/\∃ R1,(∀ r,R1 r->bR r)/\(∀ v,aW R1 v↔aW R v/\v c=0)/\∃ k',k=k'+1/\cU n R1 (c+1) k'
def cU.none:∀ n (R:(Nat->Nat)->Prop) (c:Nat),(∀ j,c<=j->∀ r,R r->r j=0)->cU n R c 0
 | 0,_,_,_=>rfl
 | n+1,R,c,h=>.inl ⟨h c (TV _),cU.none n R (c+1) (λj a=>h j (by omega))⟩
def dG (l:a8):Nat->Nat:=λj=>l.getD j 0
def nK (T:List a8) (r:Nat):(Nat->Nat)->Prop:=λv=>∃ i,∃ h:i<T.length,r<=i/\v=dG T[i]
def JY {l:a8} (h:∀ x∈l,x<256):bR (dG l):=by
 intro j;unfold dG;by_cases a:j<l.length
 . have e:l.getD j 0=l[j]:=(by simp [a]);rw [e];exact h _ (TY a)
 . have e:l.getD j 0=0:=(by simp [Vo (WJ.1 a)]);rw [e];decide
def nL (h:∀ l∈T,∀ x∈l,x<256) (r:Nat):∀ v,nK T r v->bR v:=by
 rintro v ⟨i,a,_,rfl⟩;exact JY (h _ (TY a))
theorem iw (q p:Nat->Nat) (f:Nat):cy (cy q f p) f p=q:=by
 funext j;show (q j^^^gm f (p j))^^^gm f (p j)=q j;rw [U3,UV,U4]
def sN (h:∀ i (a:i<T.length),r<=i->dG T[i] c=0) (d:cU n (nK T r) (c+1) k):cU (n+1) (nK T r) c k:=
 .inl ⟨by rintro v ⟨i,a,b,rfl⟩;exact h i a b,d⟩
theorem qQ {p:Nat} (y:∀ l∈T,∀ x∈l,x<256) (t:∀ l∈T',∀ x∈l,x<256) (B:T'.length=T.length) (m:r<=p) (o:p<T.length) (j:dG T[p] c≠0)
 (d:∀ i (g:i<T'.length),r<i->∃ f,∃ h:(if i=p then r else i)<T.length,f<256/\dG T'[i]=cy (dG T[if i=p then r else i]) f (dG T[p])/\dG T'[i] c=0)
 (A:cU n (nK T' (r+1)) (c+1) k):cU (n+1) (nK T r) c (k+1):=by
 have w:=nL y r;refine .inr ⟨⟨dG T[p],⟨p,o,m,rfl⟩,j⟩,nK T' (r+1),nL t (r+1),?_,k,rfl,A⟩;refine aW.Sp (p:=dG T[p]) w ⟨p,o,m,rfl⟩ j ?_ ?_
 . rintro v ⟨i,g,u,rfl⟩;obtain ⟨f,h,b,e,z⟩:=d i g (by omega);exact ⟨_,f,⟨_,h,by split<;>omega,rfl⟩,b,e,z⟩
 . rintro q ⟨i,g,u,rfl⟩;by_cases e:i=p
   . subst e;exact .inl rfl
   . right;by_cases s:i=r
     . subst s;obtain ⟨f,h,b,a,_⟩:=d p (by omega) (by omega);simp only [TT] at a;refine ⟨f,dG T'[p],b,⟨p,by omega,by omega,rfl⟩,?_⟩;rw [a,iw]
     . obtain ⟨f,h,b,a,_⟩:=d i (by omega) (by omega);simp only [TS e] at a;refine ⟨f,dG T'[i],b,⟨i,by omega,by omega,rfl⟩,?_⟩;rw [a,iw]
def sO (h:∀ l∈T,l.length<=c):cU n (nK T r) c 0:=
 cU.none n _ c (by
  rintro j b v ⟨i,a,_,rfl⟩;unfold dG;have:=h _ (TY a);simp [Vo (show (T[i]).length<=j by omega)])
def nO (b:x<256) (a:y<256) (h:y≠0):x^^^gm (gm x (gi y)) y=0:=by
 rw [fy b (iu a) a,fx (iu a) a,sM y a h,eA x b,UV]
def nf (D:List a8) (k:Nat):Prop:=cU 64 (nK D 0) 0 k
theorem wM (hl:T.length=T'.length) (h:∀ i (c:i<T.length) (d:i<T'.length),dG T[i]=dG T'[i]) (r:Nat):nK T r=nK T' r:=by
 funext v;apply propext;constructor
 . rintro ⟨i,a,b,rfl⟩;exact ⟨i,by omega,b,h i a (by omega)⟩
 . rintro ⟨i,a,b,rfl⟩;exact ⟨i,by omega,b,(h i (by omega) a).symm⟩
def mM (R:(Nat->Nat)->Prop) (c m:Nat):Prop:=∀ v,bR v->(∀ j,j<c\/c+m<=j->v j=0)->aW R v
def gq (m:Nat):Nat->Nat:=λj=>if j=m then 1 else 0
theorem jW (m:Nat):bR (gq m):=λj=>by unfold gq;split<;>decide
def cU.le:∀ n (R:(Nat->Nat)->Prop) (c k m:Nat),(∀ j,c+m<=j->∀ r,R r->r j=0)->cU n R c k->k<=m
 | 0,_,_,_,_,_,h=>by rw [h];exact T5 _
 | n+1,R,c,k,m,hz,h=>by
  rcases h with ⟨_,h⟩|⟨⟨p,i,g⟩,d,e,f,k1,rfl,h⟩
  . cases m with
    | zero=>exact cU.le n R (c+1) k 0 (λj a=>hz j (by omega)) h
    | succ m=>exact Nat.le_succ_of_le (cU.le n R (c+1) k m (λj a=>hz j (by omega)) h)
  . cases m with
    | zero=>exact absurd (hz c (by omega) p i) g
    | succ m=>
     have:=cU.le n d (c+1) k1 m (λj a r b=>aW.RS (hz j (by omega)) ((f r).1 (aW.mem (e r b) b)).1) h;omega
theorem cU.S6:∀ n (R:(Nat->Nat)->Prop) (c m:Nat),(∀ r,R r->bR r)->(∀ j,c+m<=j->∀ r,R r->r j=0)->(∀ j,j<c->∀ r,R r->r j=0)->cU n R c m->mM R c m
 | 0,R,c,m,hb,hz,hl,h=>by
  intro v _ d;obtain rfl:m=0:=h;have e:v=λ_=>0:=by funext j;exact d j (by omega)
  rw [e];exact aW.zero R
 | n+1,R,c,m,hb,hz,hl,h=>by
  cases m with
  | zero=>
   intro v _ d;have e:v=λ_=>0:=(by funext j;exact d j (by omega));rw [e];exact aW.zero R
  | succ m=>
   rcases h with ⟨y,h⟩|⟨⟨p,f,t⟩,g,k,i,k1,e,h⟩
   . have:=cU.le n R (c+1) (m+1) m (λj b=>hz j (by omega)) h;omega
   . obtain rfl:k1=m:=(by omega);have sub:=λr (a:g r)=>(i r).1 (aW.mem (k r a) a);have ih:=cU.S6 n g (c+1) k1 k (λj b r a=>aW.RS (hz j (by omega)) (sub r a).1)
      (λj b r a=>by
       by_cases e:j=c
       . rw [e];exact (sub r a).2
       . exact aW.RS (hl j (by omega)) (sub r a).1) h
     intro v d w;have o:=d c;have u:=hb p f c;have l:=bx (gi (p c)) o;have x:=ih (cy v (gm (v c) (gi (p c))) p) (λj=>rJ (d j) (bx _ l)) (by
      intro j b;show v j^^^gm (gm (v c) (gi (p c))) (p j)=0;by_cases e:j=c
      . rw [e];exact nO o u t
      . have q:v j=0:=w j (by omega);have s:p j=0:=by
         rcases b with b|b
         . exact hl j (by omega) p f
         . exact hz j (by omega) p f
        rw [q,s,bG,UV])
     have:=((i _).1 x).1.step l f;rwa [iw] at this
def cU.S3:∀ n (R:(Nat->Nat)->Prop) (c k m:Nat),m<=n->(∀ j,c+m<=j->∀ r,R r->r j=0)->mM R c m->cU n R c k->k=m
 | 0,_,_,_,m,hm,_,_,h=>by rw [h];omega
 | n+1,R,c,k,m,hm,hz,hF,h=>by
  cases m with
  | zero=>have:=cU.le (n+1) R c k 0 hz h;omega
  | succ m=>
   rcases h with ⟨g,h⟩|⟨⟨p,s,q⟩,f,l,a,k1,rfl,h⟩
   . have i:=hF (gq c) (jW c) (λj d=>TS (by omega));have:=aW.RS g i;simp [gq] at this
   . have:=cU.S3 n f (c+1) k1 m (by omega) (λj d r e=>aW.RS (hz j (by omega)) ((a r).1 (aW.mem (l r e) e)).1)
      (λv o b=>(a v).2 ⟨hF v o (λj d=>b j (by omega)),b c (by omega)⟩) h
     omega
theorem GX {D:List a8} {m:Nat} (d:∀ l∈D,∀ x∈l,x<256) (hl:∀ l∈D,l.length<=m) (f:m<=64) (h:nf D k):k=m↔mM (nK D 0) 0 m:=by
 have b:∀ j,0+m<=j->∀ r,nK D 0 r->r j=0:=by
  rintro j a r ⟨i,e,_,rfl⟩;unfold dG;have:=hl _ (TY e);simp [Vo (show (D[i]).length<=j by omega)]
 constructor
 . rintro rfl;exact cU.S6 64 _ 0 k (nL d 0) b (λj a=>absurd a (by omega)) h
 . intro c;exact cU.S3 64 _ 0 k m f b c h
def mM.mono {m:Nat} (h:mM R c m) (g:∀ r,R r->R' r):mM R' c m:=
 λv j k S b d=>h v j k S b (λa r u e f i=>d a r u e (g r f) i)
theorem mM.units (f:∀ r,R r->bR r) {m:Nat} (h:∀ j,j<m->aW R (gq j)):mM R 0 m:=by
 intro v d g;have key:∀ t,t<=m->aW R (λj=>if j<t then v j else 0):=by
  intro t;induction t with
  | zero=>intro _;exact aW.zero R
  | succ t ih=>
   intro i;have:=aW.add f (ih (by omega)) (d t) (h t (by omega));have e:cy (λj=>if j<t then v j else 0) (v t) (gq t)=λj=>if j<t+1 then v j else 0:=by
    funext j;show (if j<t then v j else 0)^^^gm (v t) (if j=t then 1 else 0)=if j<t+1 then v j else 0;by_cases a:j=t
    . subst a;simp [eA _ (d j)]
    . rw [TS a,bG,U4];by_cases b:j<t
      . rw [TT b,TT (by omega)]
      . rw [TS b,TS (by omega)]
   rwa [e] at this
 have:=key m (TV _);have e:(λj=>if j<m then v j else 0)=v:=by
  funext j;by_cases c:j<m
  . rw [TT c]
  . rw [TS c];exact (g j (by omega)).symm
 rwa [e] at this
def aab (b:a<256) (h:a≠0):gi a≠0:=by
 intro e;have:=sM a b h;rw [e,bG] at this;exact absurd this (by decide)
structure Ck where
 m:Nat->Nat->Nat
 told:Nat
 count:Nat
def eo (C:Ck) (i:Nat):Option Nat:=(YE C.count).find? (λr=>decide (C.told<=r)&&decide (C.m r i≠0))
def gT {C:Ck} (h:eo C i=some r):C.told<=r/\r<C.count/\C.m r i≠0:=by
 unfold eo at h;have a:=List.find?_some h;have b:=List.mem_of_find?_eq_some h;simp at a b;exact ⟨a.1,b,a.2⟩
def zf {C:Ck} (h:eo C i=none) (r:Nat) (a:C.told<=r) (b:r<C.count):C.m r i=0:=by
 unfold eo at h;rw [YI] at h;have:=h r (Uu.2 b);simp [a] at this;exact this
def vT {C:Ck} (a:C.told<=r) (b:r<C.count) (c:C.m r i≠0) (d:∀ k,C.told<=k->k<r->C.m k i=0):eo C i=some r:=by
 unfold eo;rw [List.find?_range_eq_some];refine ⟨by simp [a,c],Uu.2 b,λj e=>?_⟩;by_cases h:C.told<=j
 . simp [d j h e]
 . simp [h]
def vU {C:Ck} (h:∀ r,C.told<=r->r<C.count->C.m r i=0):eo C i=none:=by
 unfold eo;rw [YI];intro r b;by_cases a:C.told<=r
 . simp [h r a (Uu.1 b)]
 . simp [a]
def cV (m:Nat->Nat->Nat) (cnt r i:Nat):Nat->Nat->Nat:=λk j=>if k<cnt/\k≠r then m k j^^^gm (gm (m k i) (gi (m r i))) (m r j) else m k j
def dD (m:Nat->Nat->Nat) (a b:Nat):Nat->Nat->Nat:=λk=>if k=a then m b else if k=b then m a else m k
def eJ (m:Nat->Nat->Nat) (r i:Nat):Nat->Nat->Nat:=λk j=>if k=r then gm (m r j) (gi (m r i)) else m k j
def jh (C:Ck) (i r:Nat):Ck:=⟨cV (eJ (dD C.m C.told r) C.told i) C.count C.told i,C.told+1,C.count⟩
def gU (C:Ck) (i r:Nat):Ck:=⟨λk=>if k=r then cV C.m C.count r i (C.count-1) else cV C.m C.count r i k,C.told,C.count-1⟩
def pA (C:Ck) (i:Nat):Option Ck:=(eo C i).map (jh C i)
def ix (C:Ck) (i:Nat):Option Ck:=(eo C i).map (gU C i)
def zg (C:Ck):Prop:=∀ r,bR (C.m r)
def mN (C:Ck) (t:Nat):(Nat->Nat)->Prop:=λv=>∃ r,t<=r/\r<C.count/\v=C.m r
def wN {r:Nat->Nat} (c:bR u) (b:a<256):bR (cy u a r):=λj=>rJ (c j) (bx _ b)
theorem iy (h:k<cnt/\k≠r):cV m cnt r i k=cy (m k) (gm (m k i) (gi (m r i))) (m r):=by
 funext j;unfold cV cy;rw [TT h]
theorem nP (h:¬ (k<cnt/\k≠r)):cV m cnt r i k=m k:=by
 funext j;unfold cV;rw [TS h]
def nQ (h:∀ k,bR (m k)) (k:Nat):bR (cV m cnt r i k):=by
 by_cases a:k<cnt/\k≠r
 . rw [iy a];exact wN (h k) (bx _ (h k i))
 . rw [nP a];exact h k
theorem jz (h:∀ k,bR (m k)) (k:Nat):bR (dD m a b k):=by
 unfold dD;split
 . exact h b
 . split
   . exact h a
   . exact h k
theorem sP (h:∀ k,bR (m k)) (k:Nat):bR (eJ m r i k):=λj=>by
 unfold eJ;split
 . exact bx _ (h r j)
 . exact h k j
def GY {C:Ck} (h:zg C):zg (jh C i r):=nQ (sP (jz h))
theorem ng {C:Ck} (h:zg C):zg (gU C i r):=λk=>by
 show bR (if k=r then _ else _);split
 . exact nQ h _
 . exact nQ h _
def wO {C:Ck} (h:zg C) (t:Nat):∀ r,mN C t r->bR r:=by
 rintro r ⟨k,_,_,rfl⟩;exact h k
def DG (a:x<256) (b:y<256) (h:y≠0):x^^^gm (gm x (gi y)) y=0:=nO a b h
def DH {C:Ck} {t:Nat} (b:zg C) (u:t<=C.told) (o:C.told<=r) (n:r<C.count) (g:C.m r i≠0) (v:Nat->Nat) :
 aW (mN (gU C i r) t) v↔aW (mN C t) v/\v i=0:=by
 refine aW.Sp (p:=C.m r) (wO b t) ⟨r,by omega,n,rfl⟩ g ?_ ?_ v
 . rintro q ⟨k,k1,k2,rfl⟩;have:k<C.count-1:=k2;have key:∀ a,t<=a->a<C.count->a≠r->∃ q f,mN C t q/\f<256/\cV C.m C.count r i a=cy q f (C.m r)/\cV C.m C.count r i a i=0:=by
    intro a j c d;refine ⟨C.m a,gm (C.m a i) (gi (C.m r i)),⟨a,j,c,rfl⟩,bx _ (b a i),iy ⟨c,d⟩,?_⟩;rw [iy ⟨c,d⟩];exact DG (b a i) (b r i) g
   show ∃ q f,mN C t q/\f<256/\(if k=r then cV C.m C.count r i (C.count-1) else cV C.m C.count r i k)=cy q f (C.m r)/\(if k=r then cV C.m C.count r i (C.count-1) else cV C.m C.count r i k) i=0;by_cases e:k=r
   . rw [TT e];exact key (C.count-1) (by omega) (by omega) (by omega)
   . rw [TS e];exact key k k1 (by omega) e
 . rintro q ⟨k,k1,k2,rfl⟩;by_cases e:k=r
   . left;rw [e]
   . right;have l:cV C.m C.count r i k=cy (C.m k) (gm (C.m k i) (gi (C.m r i))) (C.m r):=iy ⟨k2,e⟩;refine ⟨gm (C.m k i) (gi (C.m r i)),cV C.m C.count r i k,bx _ (b k i),?_,?_⟩
     . by_cases h:k=C.count-1
       . refine ⟨r,by omega,by show r<C.count-1;omega,?_⟩;show _=(if r=r then cV C.m C.count r i (C.count-1) else cV C.m C.count r i r);rw [TT rfl,h]
       . refine ⟨k,k1,by show k<C.count-1;omega,?_⟩;show _=(if k=r then cV C.m C.count r i (C.count-1) else cV C.m C.count r i k);rw [TS e]
     . rw [l,iw]
def DI {C:Ck} (c:k<C.told) (a:C.told<=r) (b:r<C.count):(gU C i r).m k=cy (C.m k) (gm (C.m k i) (gi (C.m r i))) (C.m r):=by
 show (if k=r then cV C.m C.count r i (C.count-1) else cV C.m C.count r i k)=_;rw [TS (by omega),iy ⟨by omega,by omega⟩]
def PO:gi 1=1:=by decide +kernel
theorem nR {C:Ck} (c:zg C) (p:k<C.count) (d:k≠C.told) (o:C.m r i≠0) :
 (jh C i r).m k=cy (dD C.m C.told r k) (gm (dD C.m C.told r k i) (gi (C.m r i))) (C.m r):=by
 have h:dD C.m C.told r C.told=C.m r:=by unfold dD;rw [TT rfl]
 have l:eJ (dD C.m C.told r) C.told i k=dD C.m C.told r k:=by funext j;unfold eJ;rw [TS d]
 have n:eJ (dD C.m C.told r) C.told i C.told=λj=>gm (C.m r j) (gi (C.m r i)):=by funext j;unfold eJ;rw [TT rfl,h]
 show cV (eJ (dD C.m C.told r) C.told i) C.count C.told i k=_;rw [iy ⟨p,d⟩,l,n];funext j;show _^^^gm (gm _ (gi (gm (C.m r i) (gi (C.m r i))))) (gm (C.m r j) (gi (C.m r i)))=_^^^gm (gm _ (gi (C.m r i))) (C.m r j);have g:=jz (a:=C.told) (b:=r) c k i;have f:=c r i;have e:=iu f;rw [sM _ f o,PO,eA _ g,fx (c r j) e,<- fy g e (c r j)]
theorem AS {C:Ck}:(jh C i r).m C.told=λj=>gm (C.m r j) (gi (C.m r i)):=by
 have a:dD C.m C.told r C.told=C.m r:=by unfold dD;rw [TT rfl]
 show cV (eJ (dD C.m C.told r) C.told i) C.count C.told i C.told=_;rw [nP (by omega)];funext j;unfold eJ;rw [TT rfl,a]
def sQ (c:k≠a) (d:k≠b):dD m a b k=m k:=by unfold dD;rw [TS c,TS d]
def GZ {C:Ck} (b:zg C) (o:C.told<=r) (n:r<C.count) (g:C.m r i≠0) (v:Nat->Nat) :
 aW (mN (jh C i r) (C.told+1)) v↔aW (mN C C.told) v/\v i=0:=by
 have s:∀ k,C.told+1<=k->k<C.count->∃ a,C.told<=a/\a<C.count/\a≠r/\dD C.m C.told r k=C.m a:=by
  intro k f c;by_cases e:k=r
  . refine ⟨C.told,by omega,by omega,by omega,?_⟩;unfold dD;rw [TS (by omega),TT e]
  . exact ⟨k,by omega,c,e,sQ (by omega) e⟩
 refine aW.Sp (p:=C.m r) (wO b _) ⟨r,o,n,rfl⟩ g ?_ ?_ v
 . rintro q ⟨k,k1,k2,rfl⟩;have l:k<C.count:=k2;obtain ⟨a,f,c,t,e⟩:=s k k1 l;have d:=nR (i:=i) (r:=r) b l (by omega) g;rw [e] at d;refine ⟨C.m a,gm (C.m a i) (gi (C.m r i)),⟨a,f,c,rfl⟩,bx _ (b a i),d,?_⟩;rw [d];exact DG (b a i) (b r i) g
 . rintro q ⟨k,k1,k2,rfl⟩;by_cases e:k=r
   . left;rw [e]
   . right;have h:∃ a,C.told+1<=a/\a<C.count/\dD C.m C.told r a=C.m k:=by
      by_cases j:k=C.told
      . refine ⟨r,by omega,n,?_⟩;unfold dD;rw [TS (by omega),TT rfl,j]
      . exact ⟨k,by omega,k2,sQ j e⟩
     obtain ⟨a,f,c,ge⟩:=h;have d:=nR (i:=i) (r:=r) b c (by omega) g;rw [ge] at d;refine ⟨gm (C.m k i) (gi (C.m r i)),(jh C i r).m a,bx _ (b k i),⟨a,f,c,rfl⟩,?_⟩;rw [d,iw]
def RH (X:(Nat->Nat)->Prop):Prop:=X (λ_=>0)/\∀ a r u,a<256->X r->X u->X (cy u a r)
theorem G0 (c:RH X) {C:Ck} {i r:Nat} (d:zg C) (b:r<C.count) (h:∀ k,k<C.count->X (C.m k)):∀ k,k<(gU C i r).count->X ((gU C i r).m k):=by
 have key:∀ k,k<C.count->X (cV C.m C.count r i k):=by
  intro k a;by_cases e:k=r
  . rw [nP (by omega)];exact h k a
  . rw [iy ⟨a,e⟩];exact c.2 _ _ _ (bx _ (d k i)) (h r b) (h k a)
 intro k a;have:k<C.count-1:=a;show X (if k=r then _ else _);split
 . exact key _ (by omega)
 . exact key _ (by omega)
theorem JZ (c:RH X) {C:Ck} {i r:Nat} (a:zg C) (n:C.told<=r) (b:r<C.count) (f:C.m r i≠0) (h:∀ k,k<C.count->X (C.m k)):∀ k,k<(jh C i r).count->X ((jh C i r).m k):=by
 intro k g;have d:k<C.count:=g;by_cases e:k=C.told
 . rw [e,AS];have l:X (cy (λ_=>0) (gi (C.m r i)) (C.m r)):=c.2 _ _ _ (iu (a r i)) (h r b) c.1;have e:cy (λ_=>0) (gi (C.m r i)) (C.m r)=λj=>gm (C.m r j) (gi (C.m r i)):=by
    funext j;show 0^^^gm (gi (C.m r i)) (C.m r j)=_;rw [VT,fx (iu (a r i)) (a r j)]
   rwa [e] at l
 . rw [nR a d e f];refine c.2 _ _ _ (bx _ (jz a _ _)) (h r b) ?_;unfold dD;split
   . exact h r b
   . split
     . exact h _ (by omega)
     . exact h k d
def tells (C:Ck) (L:a8):Option Ck:=L.foldl (λo i=>o.bind (λc=>pA c i)) (some C)
def jX (C:Ck) (L:a8) (i:Nat):tells C (L++[i])=(tells C L).bind (λc=>pA c i):=by unfold tells;rw [Wq];rfl
def iV (C:Ck) (L b:a8) (h:tells C L=none):tells C (L++b)=none:=by
 unfold tells at *;rw [Wq,h];induction b with
 | nil=>rfl
 | cons a l ih=>exact ih
structure fa (C0:Ck) (X:(Nat->Nat)->Prop) (L:a8) (C:Ck):Prop where
 told:C.told=L.length
 count:C.count=C0.count
 le:C.told<=C.count
 byt:zg C
 all:∀ k,k<C.count->X (C.m k)
 one:∀ k,k<L.length->∀ k' (h:k'<L.length),C.m k L[k']=if k=k' then 1 else 0
 spare:∀ v,aW (mN C C.told) v↔aW (mN C0 0) v/\∀ i∈L,v i=0
def fa.nil {C0:Ck} (a:C0.told=0) (c:zg C0) (b:∀ k,k<C0.count->X (C0.m k)):fa C0 X [] C0:=
 ⟨a,rfl,by omega,c,b,λk d=>absurd d (by simp),λv=>by rw [a];simp⟩
theorem fa.snoc {C0 C C':Ck} (y:RH X) (h:fa C0 X L C) (s:pA C i=some C'):fa C0 X (L++[i]) C':=by
 unfold pA at s;rw [Wi] at s;obtain ⟨r,A,rfl⟩:=s;obtain ⟨p,q,g⟩:=gT A;have t:∀ j,j∈L->C.m r j=0:=λj d=>((h.spare (C.m r)).1 (aW.mem (h.byt r) ⟨r,p,q,rfl⟩)).2 j d;have u:=h.told;refine ⟨?_,h.count,by show C.told+1<=C.count;omega,GY h.byt,JZ y h.byt p q g h.all,?_,?_⟩
 . show C.told+1=_;simp [u]
 . intro k z f x;simp at z x;by_cases e:k=L.length
   . have w:k=C.told:=(by omega);rw [w,AS];by_cases n:f=L.length
     . subst n;rw [XU (by omega)];simp [u,sM _ (h.byt r i) g]
     . have l:f<L.length:=(by omega);rw [XV l];show gm (C.m r L[f]) _=_;rw [t _ (TY l),bK,TS (by omega)]
   . have l:k<L.length:=(by omega);rw [nR h.byt (by omega) (by omega) g,sQ (by omega) (by omega)];by_cases n:f=L.length
     . subst n;rw [XU (by omega)];simp only [WK,List.getElem_singleton];show C.m k i^^^gm (gm (C.m k i) (gi (C.m r i))) (C.m r i)=_;rw [DG (h.byt k i) (h.byt r i) g,TS e]
     . have o:f<L.length:=(by omega);rw [XV o];show C.m k L[f]^^^gm _ (C.m r L[f])=_;rw [t _ (TY o),bG,U4,h.one k l f o]
 . intro v;have:=GZ (i:=i) h.byt p q g v;show aW (mN (jh C i r) (C.told+1)) v↔_;rw [this,h.spare v];constructor
   . rintro ⟨⟨a,b⟩,c⟩;exact ⟨a,λj d=>by rcases Uj.1 d with d|d;exact b j d;rw [Vp.1 d];exact c⟩
   . rintro ⟨a,b⟩;exact ⟨⟨a,λj d=>b j (UL _ d)⟩,b i (by simp)⟩
def fa.of {C0:Ck} (f:RH X) (l:C0.told=0) (o:zg C0) (n:∀ k,k<C0.count->X (C0.m k)):∀ (a L:a8) (C:Ck),fa C0 X L C->tells C0 L=some C ->
 (∃ b,tells C0 (L++a)=some b/\fa C0 X (L++a) b)\/(tells C0 (L++a)=none/\∃ pre i,(pre++[i])<+:(L++a)/\∀ v,aW (mN C0 0) v->(∀ j∈pre,v j=0)->v i=0)
 | [],L,C,h,e=>.inl ⟨C,by simpa using e,by simpa using h⟩
 | i::a,L,C,h,e=>by
  have c:L++i::a=(L++[i])++a:=by simp
  cases ht:pA C i with
  | none=>
   right;have d:tells C0 (L++[i])=none:=(by rw [jX,e];exact ht);refine ⟨by rw [c];exact iV _ _ _ d,L,i,by rw [c];exact XW _ _,?_⟩;intro v s t;have p:eo C i=none:=by
    unfold pA at ht;exact Option.map_eq_none_iff.1 ht
   exact aW.RS (λr q=>by obtain ⟨k,k1,k2,rfl⟩:=q;exact zf p k k1 k2) ((h.spare v).2 ⟨s,t⟩)
  | some b=>
   have g:=h.snoc f ht;have d:tells C0 (L++[i])=some b:=(by rw [jX,e];exact ht);rw [c];exact fa.of f l o n a (L++[i]) b g d
def cH (C:Ck) (i:Nat):Bool:=(YE C.told).any (λr=>decide (C.m r i≠0))
theorem gV {C:Ck}:cH C i=false↔∀ r,r<C.told->C.m r i=0:=by
 unfold cH;rw [List.any_eq_false];constructor
 . intro h r a;have:=h r (Uu.2 a);simpa using this
 . intro h r a;simp [h r (Uu.1 a)]
def qR {C:Ck} (a:r<C.told) (b:C.m r i≠0):cH C i=true:=by
 cases h:cH C i with
 | true=>rfl
 | false=>exact absurd (gV.1 h r a) b
def iz (K:a8) (C:Ck):Nat:=(K.filter (cH C)).length
abbrev cE:=Ck×Nat
def fq (K:a8) (s:cE) (C:Ck):cE:=if iz K C=0\/iz K C<s.2 then (C,iz K C) else s
def ab (s:Nat):a8:=(YE 16).filter (λi=>s.testBit i)
def bH (s i:Nat):Nat:=s/2^(i+1)*2^(i+1)
def lq (s i j:Nat):(bH s i).testBit j=(decide (i<j)&&s.testBit j):=by
 unfold bH;rw [Nat.testBit_mul_two_pow];by_cases h:i+1<=j
 . simp only [Nat.testBit_div_two_pow];rw [show j-(i+1)+(i+1)=j by omega];simp [h,show i<j by omega]
 . simp [h,show ¬ i<j by omega]
def qS (s:Nat):(ab s).Pairwise (· < ·):=(List.pairwise_lt_range (n:=16)).filter _
def cW:i∈ab s↔i<16/\s.testBit i=true:=by unfold ab;rw [Vt,Uu]
theorem AT {pre R:a8} (h:ab s=pre++i::R):ab (bH s i)=R:=by
 have e:ab (bH s i)=(ab s).filter (λj=>decide (i<j)):=by
  unfold ab;rw [List.filter_filter];apply List.filter_congr;intro j _;rw [lq]
 have b:=qS s;rw [h] at b;rw [e,h,Wr,List.filter_cons];obtain ⟨l,f,g⟩:=abG.1 b;obtain ⟨k,m⟩:=List.pairwise_cons.1 f;have c:pre.filter (λj=>decide (i<j))=[]:=abH.2 (λj a=>by have:=g j a i (by simp);simp;omega);have d:R.filter (λj=>decide (i<j))=R:=List.filter_eq_self.2 (λj a=>by have:=k j a;simp;omega);rw [c,d];simp
def gW (rec:Ck->Nat->Nat->cE->cE) (C:Ck) (of:Nat) (a:Nat×cE×Bool) (i:Nat):Nat×cE×Bool:=
 if a.2.2=true then a else if ¬ a.1<a.2.1.2 then (a.1,a.2.1,true) else
  match ix C i with
  | none=>a
  | some C'=>(a.1+1,rec C' (bH of i) a.1 a.2.1,false)
def iA (K:a8):Nat->Ck->Nat->Nat->cE->cE
 | 0,C,of,p,st=>((ab of).foldl (gW (λ_ _ _ s=>s) C of) (p,fq K st C,false)).2.1
 | n+1,C,of,p,st=>((ab of).foldl (gW (iA K n) C of) (p,fq K st C,false)).2.1
def zh (K:a8):Nat->Ck->Nat->Nat->cE->cE
 | 0=>λ_ _ _ s=>s
 | n+1=>iA K n
def pB (K:a8) (n:Nat) (C:Ck) (of p:Nat) (st:cE):iA K n C of p st=((ab of).foldl (gW (zh K n) C of) (p,fq K st C,false)).2.1:=by
 cases n<;>rfl
theorem AU (K:a8) (s:cE) (C:Ck):(fq K s C).2<=s.2:=by
 unfold fq;split
 . show iz K C<=s.2;omega
 . exact TV _
theorem G2 (K:a8) (s:cE) (C:Ck):(fq K s C).2<=iz K C:=by
 unfold fq;split
 . exact TV _
 . show s.2<=iz K C;omega
theorem Nu {rec:Ck->Nat->Nat->cE->cE} (h:∀ C of p s,(rec C of p s).2<=s.2) (C:Ck) (of:Nat) (a:Nat×cE×Bool) (i:Nat):(gW rec C of a i).2.1.2<=a.2.1.2:=by
 unfold gW;split
 . exact TV _
 . split
   . exact TV _
   . split
     . exact TV _
     . exact h _ _ _ _
def nS {rec:Ck->Nat->Nat->cE->cE} (h:∀ C of p s,(rec C of p s).2<=s.2) (C:Ck) (of:Nat):∀ (L:a8) (a:Nat×cE×Bool),(L.foldl (gW rec C of) a).2.1.2<=a.2.1.2
 | [],_=>TV _
 | i::L,a=>TU (nS h C of L (gW rec C of a i)) (Nu h C of a i)
def wP (K:a8):∀ n C of p s,(iA K n C of p s).2<=s.2
 | 0,C,of,_,s=>TU (nS (λ_ _ _ _=>TV _) C of _ _) (AU K s C)
 | n+1,C,of,_,s=>TU (nS (wP K n) C of _ _) (AU K s C)
def Nv (K:a8) (n:Nat):∀ C of p s,(zh K n C of p s).2<=s.2:=by
 cases n with
 | zero=>exact λ_ _ _ _=>TV _
 | succ n=>exact wP K n
def wQ (rec:Ck->Nat->Nat->cE->cE) (C:Ck) (of:Nat) (p:Nat) (s:cE):∀ L:a8,L.foldl (gW rec C of) (p,s,true)=(p,s,true)
 | []=>rfl
 | i::L=>by
  have e:gW rec C of (p,s,true) i=(p,s,true):=by unfold gW;rw [TT rfl]
  rw [W4,e];exact wQ rec C of p s L
def DJ (C:Ck) (j:Nat):Prop:=∀ r,C.told<=r->r<C.count->C.m r j=0
def DJ.span {C:Ck} (h:DJ C j) {v:Nat->Nat} (b:aW (mN C C.told) v):v j=0:=
 aW.RS (λr a=>by obtain ⟨k,k1,k2,rfl⟩:=a;exact h k k1 k2) b
def gu {C C':Ck} (h:ix C i=some C'):∃ r,C'=gU C i r/\C.told<=r/\r<C.count/\C.m r i≠0:=by
 unfold ix at h;rw [Wi] at h;obtain ⟨r,d,rfl⟩:=h;obtain ⟨a,b,c⟩:=gT d;exact ⟨r,rfl,a,b,c⟩
def DK {C C':Ck} (b:zg C) (h:ix C i=some C') (a:DJ C j\/j=i):DJ C' j:=by
 obtain ⟨r,rfl,c,d,e⟩:=gu h;intro k k1 k2;have:=(DH (t:=C.told) b (TV _) c d e ((gU C i r).m k)).1 (aW.mem (ng b k) ⟨k,k1,k2,rfl⟩);rcases a with a|rfl
 . exact a.span this.1
 . exact this.2
def DL (h:x^^^y=0):x=y:=by
 have:=Uy (·^^^y) h;simp only [VT] at this;rwa [U3,UV,U4] at this
inductive jA (C:Ck):Ck->Prop
 | refl:jA C C
 | step {C1 C2:Ck} {i:Nat}:jA C C1->ix C1 i=some C2->jA C C2
def jA.trans {A B C:Ck} (h:jA A B) (a:jA B C):jA A C:=by
 induction a with
 | refl=>exact h
 | step _ hl ih=>exact .step ih hl
def sR (K:a8) (C:Ck) (s s':cE):Prop:=s'=s\/(jA C s'.1/\s'.2=iz K s'.1)
theorem AV (K:a8) (s:cE) (C:Ck):sR K C s (fq K s C):=by
 unfold fq;split
 . exact .inr ⟨.refl,rfl⟩
 . exact .inl rfl
theorem sS {K:a8} {rec:Ck->Nat->Nat->cE->cE} (h:∀ C of p s,sR K C s (rec C of p s)) (C:Ck) (of:Nat):∀ (L:a8) (a:Nat×cE×Bool),sR K C a.2.1 (L.foldl (gW rec C of) a).2.1
 | [],_=>.inl rfl
 | i::L,a=>by
  have d:sR K C a.2.1 (gW rec C of a i).2.1:=by
   unfold gW;split
   . exact .inl rfl
   . split
     . exact .inl rfl
     . split
       . exact .inl rfl
       . rename_i c hl
         rcases h c (bH of i) a.1 a.2.1 with e|⟨b,f⟩
         . exact .inl e
         . exact .inr ⟨jA.trans (.step .refl hl) b,f⟩
  rcases sS h C of L (gW rec C of a i) with e|b
  . rw [W4,e];exact d
  . exact .inr b
def zi (K:a8):∀ n C of p s,sR K C s (iA K n C of p s):=by
 have comb:∀ {rec:Ck->Nat->Nat->cE->cE} (_:∀ C of p s,sR K C s (rec C of p s)) C of p s,sR K C s ((ab of).foldl (gW rec C of) (p,fq K s C,false)).2.1:=by
  intro rec h C of p s;rcases sS h C of (ab of) (p,fq K s C,false) with e|a
  . rw [e];exact AV K s C
  . exact .inr a
 intro n;induction n with
 | zero=>exact comb (λ_ _ _ _=>.inl rfl)
 | succ n ih=>exact comb ih
def aP (n:Nat) (C:Ck) (kept:Nat):cE:=iA (ab kept) n C kept 0 (C,(ab kept).length)
def Nw (K:a8) (C:Ck):iz K C<=K.length:=WL _ _
def zj (n:Nat) (C:Ck) (kept:Nat):jA C (aP n C kept).1/\(aP n C kept).2=iz (ab kept) (aP n C kept).1:=by
 rcases zi (ab kept) n C kept 0 (C,(ab kept).length) with e|h
 . have a:(aP n C kept).2<=iz (ab kept) C:=by
    unfold aP;rw [pB];exact TU (nS (Nv _ n) C kept _ _) (G2 _ _ C)
   have b:aP n C kept=(C,(ab kept).length):=e;rw [b] at a ⊢;exact ⟨.refl,Nat.le_antisymm a (Nw _ _)⟩
 . exact h
theorem jA.good {C C':Ck} (o:RH X) (s:jA C C') (p:zg C) (l:C.told<=C.count) (h:∀ k,k<C.count->X (C.m k))
 (n:∀ j∈L,DJ C j) :
 zg C'/\C'.told=C.told/\C'.told<=C'.count/\C'.count<=C.count/\(∀ k,k<C'.count->X (C'.m k))/\(∀ k,k<C.told->∀ j∈L,C'.m k j=C.m k j)/\∀ j∈L,DJ C' j:=by
 induction s with
 | refl=>exact ⟨p,rfl,l,TV _,h,λ_ _ _ _=>rfl,n⟩
 | step _ hl ih=>
  obtain ⟨b,t,le,v,g,on,sp⟩:=ih;rename_i c u i _
  obtain ⟨r,a,f,e,w⟩:=gu hl;refine ⟨by rw [a];exact ng b,by rw [a];exact t,by rw [a];show c.told<=c.count-1;omega,by rw [a];show c.count-1<=_;omega,by rw [a];exact G0 o b e g,?_,λj d=>DK b hl (.inl (sp j d))⟩;intro k q j d;rw [a,DI (by omega) f e];show c.m k j^^^gm _ (c.m r j)=_;rw [sp j d r f e,bG,U4,on k q j d]
def xs (f:Nat->Nat):Nat->Nat
 | 0=>0
 | n+1=>xs f n^^^f n
def eO {g:Nat->Nat}:∀ n,(∀ i,i<n->f i=g i)->xs f n=xs g n
 | 0,_=>rfl
 | n+1,h=>by show xs f n^^^f n=xs g n^^^g n;rw [eO n (λi a=>h i (by omega)),h n (by omega)]
def nh (f g:Nat->Nat):∀ n,xs (λi=>f i^^^g i) n=xs f n^^^xs g n
 | 0=>(UV 0).symm
 | n+1=>by show xs _ n^^^(f n^^^g n)=(xs f n^^^f n)^^^(xs g n^^^g n);rw [nh f g n,DE]
def dX:∀ n,(∀ i,i<n->f i=0)->xs f n=0
 | 0,_=>rfl
 | n+1,h=>by show xs f n^^^f n=0;rw [dX n (λi a=>h i (by omega)),h n (by omega)];rfl
def J0 (c:Nat) (f:Nat->Nat):∀ n,xs (λi=>gm c (f i)) n=gm c (xs f n)
 | 0=>(bG c).symm
 | n+1=>by show xs _ n^^^gm c (f n)=gm c (xs f n^^^f n);rw [J0 c f n,fw]
def ji:∀ n,k<n->(∀ i,i<n->i≠k->f i=0)->xs f n=f k
 | 0,h,_=>absurd h (by omega)
 | n+1,h,hz=>by
  show xs f n^^^f n=f k;by_cases e:k=n
  . rw [dX n (λi a=>hz i (by omega) (by omega)),e,VT]
  . rw [ji n (by omega) (λi a=>hz i (by omega)),hz n (by omega) (by omega),U4]
def J1:∀ n,(∀ i,i<n->f i<256)->xs f n<256
 | 0,_=>by show 0<256;decide
 | n+1,h=>rJ (J1 n (λi a=>h i (by omega))) (h n (by omega))
def zk (f:Nat->Nat) (a:Nat):∀ b,xs f (a+b)=xs f a^^^xs (λi=>f (a+i)) b
 | 0=>(U4 _).symm
 | b+1=>by show xs f (a+b)^^^f (a+b)=xs f a^^^(xs _ b^^^f (a+b));rw [zk f a b,U3]
def vV (M:Nat->Nat->Nat) (D n:Nat) (v:Nat->Nat):Prop:=bR v/\(∀ i,n<=i->v i=0)/\∀ j,j<D->xs (λi=>gm (v i) (M i j)) n=0
def AW (M:Nat->Nat->Nat) (D n:Nat) (f:∀ i,bR (M i)):RH (vV M D n):=by
 refine ⟨⟨λ_=>by show 0<256;decide,λ_ _=>rfl,λj _=>dX n (λi _=>bK _)⟩,?_⟩;rintro a r u b ⟨g,h,k⟩ ⟨u1,u2,u3⟩;refine ⟨wN u1 b,λi c=>?_,λj d=>?_⟩
 . show u i^^^gm a (r i)=0;rw [u2 i c,h i c,bG];rfl
 . have e:xs (λi=>gm (cy u a r i) (M i j)) n=xs (λi=>gm (u i) (M i j)^^^gm a (gm (r i) (M i j))) n:=
    eO n (λi _=>by show gm (u i^^^gm a (r i)) (M i j)=_;rw [eZ _ (u1 i) (bx _ b),fy b (g i) (f i j)])
   rw [e,nh,J0,u3 j d,k j d,bG];rfl
def jY (M:Nat->Nat->Nat) (D P:Nat):Ck:=⟨λr j=>if r<P then (if j<D then M (D+r) j else if j=D+r then 1 else 0) else 0,0,P⟩
theorem sU (a:∀ i,bR (M i)):zg (jY M D P):=λr j=>by
 show (if r<P then _ else _)<256;split
 . split
   . exact a _ _
   . split<;>decide
 . decide
def AX (a:∀ i,bR (M i)) (d:∀ i,i<D->∀ j,M i j=if j=i then 1 else 0) (k:Nat) (f:k<P):vV M D (D+P) ((jY M D P).m k):=by
 have e:∀ i,(jY M D P).m k i=if i<D then M (D+k) i else if i=D+k then 1 else 0:=λi=>by show (if k<P then _ else _)=_;rw [TT f]
 refine ⟨sU a k,λi b=>by rw [e,TS (by omega),TS (by omega)],λj c=>?_⟩;rw [zk];have g:xs (λi=>gm ((jY M D P).m k i) (M i j)) D=M (D+k) j:=by
  rw [ji (k:=j) D c]
  . rw [e,TT c,d j c,TT rfl,eA _ (a _ _)]
  . intro i b ne;rw [d i b,TS (Vq ne),bG]
 have h:xs (λi=>gm ((jY M D P).m k (D+i)) (M (D+i) j)) P=M (D+k) j:=by
  rw [ji (k:=k) P f]
  . rw [e,TS (by omega),TT rfl,fx (by decide) (a _ _),eA _ (a _ _)]
  . intro i b ne;rw [e,TS (by omega),TS (by omega),bK]
 rw [g,h,UV]
theorem sV (f:Nat->Nat->Nat) (a:Nat->Nat) (b:bR a):∀ n,(∀ i,i<n->a i≠0->R (f i))->aW R (λj=>xs (λi=>gm (a i) (f i j)) n)
 | 0,_=>aW.zero R
 | n+1,h=>by
  have ih:=sV f a b n (λi d=>h i (by omega));by_cases e:a n=0
  . have c:(λj=>xs (λi=>gm (a i) (f i j)) (n+1))=λj=>xs (λi=>gm (a i) (f i j)) n:=by
     funext j;show _^^^gm (a n) (f n j)=_;rw [e,bK,U4]
    rw [c];exact ih
  . exact ih.step (b n) (h n (by omega) e)
theorem J2 (f:∀ i,i<D->∀ j,M i j=if j=i then 1 else 0) {v:Nat->Nat} (n:vV M D (D+P) v):aW (mN (jY M D P) 0) v:=by
 obtain ⟨d,o,p⟩:=n;have h:=sV (R:=mN (jY M D P) 0) (jY M D P).m (λi=>v (D+i)) (λi=>d _) P (λi a _=>⟨i,T5 _,a,rfl⟩);have e:(λj=>xs (λi=>gm (v (D+i)) ((jY M D P).m i j)) P)=v:=by
  funext j;by_cases b:j<D
  . have g:xs (λi=>gm (v (D+i)) ((jY M D P).m i j)) P=xs (λi=>gm (v (D+i)) (M (D+i) j)) P:=eO P (λi a=>by
     show gm _ (if i<P then _ else _)=_;rw [TT a,TT b])
    rw [g];have c:=p j b;rw [zk] at c;have l:xs (λi=>gm (v i) (M i j)) D=v j:=by
     rw [ji (k:=j) D b]
     . rw [f j b,TT rfl,eA _ (d j)]
     . intro i a ne;rw [f i a,TS (Vq ne),bG]
    rw [l] at c;exact (DL c).symm
  . by_cases q:j<D+P
    . rw [ji (k:=j-D) P (by omega)]
      . show gm _ (if j-D<P then _ else _)=_;rw [TT (by omega),TS b,TT (by omega),show D+(j-D)=j by omega,eA _ (d j)]
      . intro i a ne;show gm _ (if i<P then _ else _)=_;rw [TT a,TS b,TS (by omega),bG]
    . rw [o j (by omega)];exact dX P (λi a=>by
       show gm _ (if i<P then _ else _)=_;rw [TT a,TS b,TS (by omega),bG])
 rwa [e] at h
def J3 (M:Nat->Nat->Nat) (n:Nat) (Q:Nat->Prop):(Nat->Nat)->Prop:=λv=>∃ i,i<n/\Q i/\v=M i
theorem DM {x:Nat->Nat} (o:aW (J3 M n Q) x) :
 ∃ a,bR a/\(∀ i,¬ (i<n/\Q i)->a i=0)/\∀ j,x j=xs (λi=>gm (a i) (M i j)) n:=by
 refine o (λx=>∃ a,bR a/\(∀ i,¬ (i<n/\Q i)->a i=0)/\∀ j,x j=xs (λi=>gm (a i) (M i j)) n)
  ⟨λ_=>0,λ_=>by show 0<256;decide,λ_ _=>rfl,λj=>(dX n (λi _=>bK _)).symm⟩ ?_
 rintro b r u m ⟨k,k1,k2,rfl⟩ ⟨a,c,g,h⟩;have d:bR (λi=>if i=k then b else 0):=λi=>by show (if i=k then b else 0)<256;split;exact m;decide
 refine ⟨λi=>a i^^^(if i=k then b else 0),λi=>rJ (c i) (d i),λi f=>?_,λj=>?_⟩
 . have:i≠k:=λe=>f (by rw [e];exact ⟨k1,k2⟩);show a i^^^(if i=k then b else 0)=0;rw [g i f,TS this];rfl
 . have e:xs (λi=>gm (a i^^^(if i=k then b else 0)) (M i j)) n=xs (λi=>gm (a i) (M i j)^^^gm (if i=k then b else 0) (M i j)) n:=
    eO n (λi _=>eZ _ (c i) (d i))
   rw [e,nh,<- h j];have l:xs (λi=>gm (if i=k then b else 0) (M i j)) n=gm b (M k j):=by
    rw [ji (k:=k) n k1]
    . rw [TT rfl]
    . intro i _ ne;rw [TS ne,bK]
   rw [l];rfl
def zl (f:∀ i,bR (M i)) (p:k<n) (o:¬ Q k) (h:aW (J3 M n Q) (M k)) :
 ∃ u,vV M D n u/\u k=1/\∀ i,i≠k->¬ Q i->u i=0:=by
 obtain ⟨a,c,b,l⟩:=DM h;have m:a k=0:=b k (λh=>o h.2);have d:bR (gq k):=jW k;refine ⟨λi=>a i^^^gq k i,⟨λi=>rJ (c i) (d i),λi g=>?_,λj _=>?_⟩,?_,λi g q=>?_⟩
 . show a i^^^(if i=k then 1 else 0)=0;rw [b i (by omega),TS (by omega)];rfl
 . have e:xs (λi=>gm (a i^^^gq k i) (M i j)) n=xs (λi=>gm (a i) (M i j)^^^gm (gq k i) (M i j)) n:=eO n (λi _=>eZ _ (c i) (d i));rw [e,nh,<- l j,ji (k:=k) n p]
   . show M k j^^^gm (if k=k then 1 else 0) (M k j)=0;rw [TT rfl,fx (by decide) (f k j),eA _ (f k j),UV]
   . intro i _ ne;show gm (if i=k then 1 else 0) (M i j)=0;rw [TS ne,bK]
 . show a k^^^(if k=k then 1 else 0)=1;rw [m,TT rfl];rfl
 . show a i^^^(if i=k then 1 else 0)=0;rw [b i (λh=>q h.2),TS g];rfl
theorem nT (c:∀ i,bR (M i)) (g:∀ i j,D<=j->M i j=0) (r:k<n) {u:Nat->Nat} (s:vV M D n u) (o:u k=1) (m:∀ i,i<n->i≠k->u i≠0->Q i) :
 aW (J3 M n Q) (M k):=by
 obtain ⟨u1,u2,u3⟩:=s;have p:bR (λi=>if i=k then 0 else u i):=λi=>by show (if i=k then 0 else u i)<256;split;decide;exact u1 i
 have h:=sV (R:=J3 M n Q) M (λi=>if i=k then 0 else u i) p n (λi d a=>by
  by_cases e:i=k
  . simp [e] at a
  . exact ⟨i,d,m i d e (by simpa [e] using a),rfl⟩)
 have e:(λj=>xs (λi=>gm (if i=k then 0 else u i) (M i j)) n)=M k:=by
  funext j;by_cases q:j<D
  . have l:xs (λi=>gm (u i) (M i j)) n=xs (λi=>gm (if i=k then 0 else u i) (M i j)^^^gm (gq k i) (M i j)) n:=eO n (λi _=>by
     by_cases e:i=k
     . rw [TT e,bK,VT,e,o];show _=gm (if k=k then 1 else 0) _;rw [TT rfl]
     . rw [TS e];show _=_^^^gm (if i=k then 1 else 0) _;rw [TS e,bK,U4])
    have b:=u3 j q;rw [l,nh,ji (f:=λi=>gm (gq k i) (M i j)) (k:=k) n r] at b
    . have:=DL b;rw [this];show gm (if k=k then 1 else 0) (M k j)=_;rw [TT rfl,fx (by decide) (c k j),eA _ (c k j)]
    . intro i _ ne;show gm (if i=k then 1 else 0) (M i j)=0;rw [TS ne,bK]
  . rw [g k j (by omega)];exact dX n (λi _=>by rw [g i j (by omega),bG])
 rwa [e] at h
structure Code (M:Nat->Nat->Nat) (D P:Nat):Prop where
 byt:∀ i,bR (M i)
 unit:∀ i,i<D->∀ j,M i j=if j=i then 1 else 0
 RS:∀ i j,D<=j->M i j=0
def Code.told (h:Code M D P) (L:a8) :
 (∃ C,tells (jY M D P) L=some C/\fa (jY M D P) (vV M D (D+P)) L C)\/(tells (jY M D P) L=none/\∃ pre i,(pre++[i])<+:L/\∀ v,aW (mN (jY M D P) 0) v->(∀ j∈pre,v j=0)->v i=0):=by
 have:=fa.of (AW M D (D+P) h.byt) (C0:=jY M D P) rfl (sU h.byt) (λk a=>AX h.byt h.unit k a) L [] (jY M D P) (fa.nil rfl (sU h.byt) (λk a=>AX h.byt h.unit k a)) rfl;simpa using this
theorem Code.full (h:Code M D P) {L:a8} {C:Ck} (a:fa (jY M D P) (vV M D (D+P)) L C):mM (J3 M (D+P) (λi=>i∉L)) 0 D:=by
 have n:∀ r,J3 M (D+P) (λi=>i∉L) r->bR r:=by rintro r ⟨i,_,_,rfl⟩;exact h.byt i
 have m:∀ i,i<D+P->aW (J3 M (D+P) (λi=>i∉L)) (M i):=by
  intro i f;by_cases g:i∈L
  . obtain ⟨k,d,rfl⟩:=UT g;have q:k<C.count:=(by have:=a.told;have:=a.le;omega);refine nT h.byt h.RS f (a.all k q) ?_ ?_
    . rw [a.one k d k d,TT rfl]
    . intro j _ c b o;obtain ⟨l,p,rfl⟩:=UT o;rw [a.one k d l p] at b;by_cases e:k=l
      . subst e;exact c rfl
      . rw [TS e] at b;exact b rfl
  . exact aW.mem (h.byt i) ⟨i,f,g,rfl⟩
 refine mM.units n (λj c=>?_);have e:M j=gq j:=by funext x;rw [h.unit j c];rfl
 rw [<- e];exact m j (by omega)
def Code.To (h:Code M D P) {L:a8} (c:L.Nodup) (g:∀ i∈L,i<D+P) (k:∃ pre i,(pre++[i])<+:L/\∀ v,aW (mN (jY M D P) 0) v->(∀ j∈pre,v j=0)->v i=0) :
 ¬ mM (J3 M (D+P) (λi=>i∉L)) 0 D:=by
 obtain ⟨pre,i,⟨R,rfl⟩,m⟩:=k;intro f;have d:i∈pre++[i]++R:=by simp
 obtain ⟨u,l,u1,u0⟩:=zl (D:=D) h.byt (g i d) (λb=>b d) (f (M i) (h.byt i) (λj a=>h.RS i j (by omega)));have:=m u (J2 h.unit l) (λj a=>u0 j (λe=>by
  subst e;rw [Uz] at c;have:=(U9.1 c).2.2 j a j (by simp);exact this rfl) (λb=>b (by simp [a])))
 rw [u1] at this;exact absurd this (by decide)
structure G3 (M:Nat->Nat->Nat) (D P:Nat) (L:a8) (B:Ck):Prop where
 told:B.told=L.length
 le:B.told<=B.count
 Sd:B.count<=P
 byt:zg B
 dual:∀ k,k<B.told->vV M D (D+P) (B.m k)
 one:∀ k,k<L.length->∀ k' (h:k'<L.length),B.m k L[k']=if k=k' then 1 else 0
def Code.SC (h:Code M D P) {L:a8} {C B:Ck} (a:fa (jY M D P) (vV M D (D+P)) L C) (n:jA C B):G3 M D P L B:=by
 have i:∀ j∈L,DJ C j:=λj l r d c=>((a.spare (C.m r)).1 (aW.mem (a.byt r) ⟨r,d,c,rfl⟩)).2 j l;obtain ⟨b,t,le,p,g,on,_⟩:=n.good (AW M D (D+P) h.byt) a.byt a.le a.all i;have:=a.told;have c:=a.count;refine ⟨by omega,le,by have:C.count=P:=c;omega,b,λk f=>g k (by omega),λk f o e=>?_⟩;rw [on k (by omega) _ (TY e),a.one k f o e]
def G3.tells {B:Ck} (d:Code M D P) (h:G3 M D P L B) (o:∀ i∈L,i<D+P):∀ i∈L,aW (J3 M (D+P) (λj=>j∉L/\cH B j=true)) (M i):=by
 intro i f;obtain ⟨k,b,rfl⟩:=UT f;have c:k<B.told:=by have:=h.told;omega
 refine nT d.byt d.RS (o _ f) (h.dual k c) (by rw [h.one k b k b,TT rfl]) ?_;intro j _ n a;refine ⟨λl=>?_,qR c a⟩;obtain ⟨g,m,rfl⟩:=UT l;rw [h.one k b g m] at a;by_cases e:k=g
 . subst e;exact n rfl
 . rw [TS e] at a;exact a rfl
theorem G3.sum {B:Ck} (s:Code M D P) (h:G3 M D P L B) (x:∀ i∈L,i<D+P) (d:Nat->Nat) (u:bR d) (k:Nat) (b:k<L.length) :
 xs (λi=>if i∈L then 0 else gm (B.m k i) (xs (λj=>gm (M i j) (d j)) D)) (D+P)=xs (λj=>gm (M L[k] j) (d j)) D:=by
 have t:k<B.told:=by have:=h.told;omega
 obtain ⟨o,z,y⟩:=h.dual k t;have v:=x _ (TY b);have r:∀ i,xs (λj=>gm (M i j) (d j)) D<256:=λi=>J1 D (λj _=>bx _ (s.byt i j));have swap:∀ n,xs (λi=>gm (B.m k i) (xs (λj=>gm (M i j) (d j)) D)) n=xs (λj=>gm (xs (λi=>gm (B.m k i) (M i j)) n) (d j)) D:=by
  intro n;induction n with
  | zero=>exact (dX D (λj _=>bK _)).symm
  | succ n ih=>
   show xs _ n^^^gm (B.m k n) (xs (λj=>gm (M n j) (d j)) D)=_;rw [ih,<- J0,<- nh];apply eO;intro j _;show _=gm (xs _ n^^^gm (B.m k n) (M n j)) (d j);rw [eZ _ (J1 n (λi _=>bx _ (o i))) (bx _ (o n)),fy (o n) (s.byt n j) (u j)]
 have l:xs (λi=>gm (B.m k i) (xs (λj=>gm (M i j) (d j)) D)) (D+P)=0:=by
  rw [swap];exact dX D (λj w=>by rw [y j w,bK])
 have e:xs (λi=>gm (B.m k i) (xs (λj=>gm (M i j) (d j)) D)) (D+P)=xs (λi=>(if i∈L then 0 else gm (B.m k i) (xs (λj=>gm (M i j) (d j)) D))^^^(if i=L[k] then xs (λj=>gm (M L[k] j) (d j)) D else 0)) (D+P):=by
  apply eO;intro i _;by_cases c:i∈L
  . obtain ⟨g,q,rfl⟩:=UT c;rw [TT c,VT,h.one k b g q];by_cases e:L[g]=L[k]
    . rw [TT e,e];by_cases a:k=g
      . rw [TT a,fx (by decide) (r _),eA _ (r _)]
      . have c1:=h.one k b k b;have p:=h.one k b g q;rw [e,c1,TT rfl,TS a] at p;exact absurd p (by decide)
    . rw [TS e,TS (λa=>e (by subst a;rfl)),bK]
  . rw [TS c,TS (show ¬ i=L[k] from λa=>c (by rw [a];exact TY b)),U4]
 rw [e,nh,ji (f:=λi=>if i=L[k] then xs (λj=>gm (M L[k] j) (d j)) D else 0) (k:=L[k]) _ v] at l
 . rw [TT rfl] at l;exact DL l
 . intro i _ ne;rw [TS ne]
