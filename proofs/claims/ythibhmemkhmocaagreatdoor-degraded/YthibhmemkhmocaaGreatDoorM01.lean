set_option maxRecDepth 100000
set_option linter.all false
set_option maxHeartbeats 8000000
open List renaming range -> YF, find?_eq_none -> YJ
open Nat renaming shiftLeft_xor_distrib -> YG, shiftLeft_eq -> YH, xor_mod_two_pow -> YI
namespace Go.Proofs.YthibhmemkhmocaaGreatDoor
variable {p q:Prop}
abbrev a8:=List Nat
end Go.Proofs.YthibhmemkhmocaaGreatDoor
namespace Go.Proofs.YthibhmemkhmocaaGreatDoor
def Wc:=@Nat.xor_lt_two_pow
def Ww:=@Nat.mul_comm
def V0:=@Nat.mod_two_eq_zero_or_one
def U4:=@Nat.xor_assoc
def WZ:=@Nat.xor_comm
def abL:=@Nat.xor_div_two_pow
def UW:=@Nat.xor_self
def U5:=@Nat.xor_zero
def T9:=@Nat.lt_of_lt_of_le
def VS:=@Nat.pow_lt_pow_right
def ack:=@Nat.mul_lt_mul_of_pos_right
def Wh:=@Nat.two_pow_pos
def U9:=@Nat.pow_le_pow_right
def V1:=@Nat.zero_xor
def XR:=@Nat.eq_of_testBit_eq
def abM:=@Nat.testBit_xor
def TY:=@Nat.le_refl
def T8:=@List.getElem_mem
def Vm:=@List.getElem?_eq_none
def WK:=@Nat.not_lt
def TX:=@if_pos
def TW:=@if_neg
def T7:=@Nat.zero_le
def UA:=@List.mem_range
def Wq:=@List.foldl_append
def Wi:=@Option.map_eq_some_iff
def XS:=@List.getElem_append_right
def XT:=@List.getElem_append_left
def WL:=@Nat.sub_self
def Un:=@List.mem_append
def Vn:=@List.mem_singleton
def UO:=@List.mem_append_left
def XU:=@List.prefix_append
def Vv:=@List.mem_filter
def Wr:=@List.filter_append
def abN:=@List.pairwise_append
def abO:=@List.filter_eq_nil_iff
def TZ:=@Nat.le_trans
def W0:=@List.foldl_cons
def UB:=@congrArg
def WM:=@List.length_filter_le
def Vo:=@Ne.symm
def UZ:=@List.getElem_of_mem
def UC:=@List.append_assoc
def Vb:=@List.nodup_append
end Go.Proofs.YthibhmemkhmocaaGreatDoor
namespace Go.Proofs.YthibhmemkhmocaaGreatDoor.Gf
variable {R R' X:(Nat->Nat)->Prop} {T T':List a8} {L:a8} {x y a i b c r n k D cnt s j P:Nat} {u f:Nat->Nat} {m M:Nat->Nat->Nat} {Q:Nat->Prop}
def tx (a:Nat):Nat:=if a<128 then 2*a else (2*a-256)^^^29
def zk:Nat->Nat->Nat->Nat->Nat
 | 0,_,_,p=>p
 | n+1,a,b,p=>zk n (tx a) (b/2) (if b%2=1 then p^^^a else p)
def gm (a b:Nat):Nat:=zk 8 a b 0
def PH:Nat->Nat->Nat->Nat
 | 0,_,v=>v
 | n+1,p,v=>PH n (gm p p) (gm v (gm p p))
def gi (a:Nat):Nat:=PH 7 a 1
def rp (a:x<256) (b:y<256):x^^^y<256:=Wc (n:=8) a b
theorem A4 (h:a<256):tx a<256:=by
 unfold tx;split
 . omega
 . exact rp (by omega) (by decide)
theorem P4 (n:Nat):∀ a b p,a<256->p<256->zk n a b p<256:=by
 induction n with
 | zero=>intro a b p _ c;exact c
 | succ n ih=>
  intro a b p d c;unfold zk;refine ih _ _ _ (A4 d) ?_;split
  . exact rp c d
  . exact c
def bB (b:Nat) (c:a<256):gm a b<256:=P4 8 a b 0 c (by decide)
def P6 (n:Nat):∀ p v,p<256->v<256->PH n p v<256:=by
 induction n with
 | zero=>intro p v _ a;exact a
 | succ n ih=>intro p v b a;unfold PH;exact ih _ _ (bB _ b) (bB _ a)
def iF (h:a<256):gi a<256:=P6 7 a 1 h (by decide)
def A5 (x y:Nat):2*(x^^^y)=(2*x)^^^(2*y):=by
 have:=YG (a:=x) (b:=y) (i:=1);simp only [YH,Nat.pow_one] at this;rw [Ww,this,Ww x,Ww y]
def Kc (x y:Nat):(x^^^y)/2=(x/2)^^^(y/2):=Nat.xor_div_two
def sH (x y:Nat):(x^^^y)%2=(x%2+y%2)%2:=by
 have h:=YI (a:=x) (b:=y) (n:=1);simp only [Nat.pow_one] at h;rw [h];have c:=V0 x;have d:=V0 y;rcases c with c|c<;>rcases d with d|d<;>rw [c,d]<;>rfl
def DU (a b c d:Nat):(a^^^b)^^^(c^^^d)=(a^^^c)^^^(b^^^d):=by
 rw [U4,U4,<- U4 b c d,WZ b c,U4 c b d]
def Ke:∀ a,a<256->tx a=(2*a)%256^^^(if a/128%2=1 then 29 else 0):=by decide +kernel
def P8 (x y:Nat):(x^^^y)/128%2=(x/128%2+y/128%2)%2:=by
 have:(x^^^y)/128=(x/128)^^^(y/128):=abL (n:=7);rw [this];exact sH _ _
theorem P9 (c:x<256) (d:y<256):tx (x^^^y)=tx x^^^tx y:=by
 rw [Ke _ (rp c d),Ke _ c,Ke _ d,DU,A5];have h:=YI (a:=2*x) (b:=2*y) (n:=8);have e:(2:Nat)^8=256:=rfl;rw [e] at h;rw [h,P8];congr 1;have c:=V0 (x/128);have d:=V0 (y/128);rcases c with c|c<;>rcases d with d|d<;>rw [c,d]<;>rfl
theorem Hd (n:Nat):∀ a b c p q,zk n a (b^^^c) (p^^^q)=zk n a b p^^^zk n a c q:=by
 induction n with
 | zero=>intro a b c p q;rfl
 | succ n ih=>
  intro a b c p q;simp only [zk];rw [Kc,<- ih,sH];congr 1;have d:=V0 b;have e:=V0 c;rcases d with d|d<;>rcases e with e|e<;>rw [d,e]<;>simp
  . rw [U4]
  . rw [U4,WZ q a,<- U4]
  . rw [DU,UW,U5]
theorem He (n:Nat):∀ a d b p q,a<256->d<256->zk n (a^^^d) b (p^^^q)=zk n a b p^^^zk n d b q:=by
 induction n with
 | zero=>intro a d b p q _ _;rfl
 | succ n ih=>
  intro a d b p q c e;simp only [zk];rw [P9 c e,<- ih _ _ _ _ _ (A4 c) (A4 e)];congr 1;by_cases h:b%2=1
  . simp only [h,if_true];exact DU _ _ _ _
  . simp only [h,if_false]
def fC (a b c:Nat):gm a (b^^^c)=gm a b^^^gm a c:=Hd 8 a b c 0 0
def fm {d:Nat} (b:Nat) (c:a<256) (e:d<256):gm (a^^^d) b=gm a b^^^gm d b:=He 8 a d b 0 0 c e
def aaj:∀ x,x<256->x=(if x%2=1 then 1 else 0)^^^((if x/2%2=1 then 2 else 0)^^^((if x/4%2=1 then 4 else 0)^^^((if x/8%2=1 then 8 else 0)^^^((if x/16%2=1 then 16 else 0)^^^((if x/32%2=1 then 32 else 0)^^^((if x/64%2=1 then 64 else 0)^^^(if x/128%2=1 then 128 else 0))))))):=by
 decide +kernel
theorem dO (f g:Nat->Nat) (d:∀ x y,x<256->y<256->f (x^^^y)=f x^^^f y) (j:∀ x y,x<256->y<256->g (x^^^y)=g x^^^g y)
 (h:∀ i,i<8->f (2^i)=g (2^i)) (x:Nat) (C:x<256):f x=g x:=by
 have A:f 0=0:=by have:=d 0 0 (by decide) (by decide);rw [UW,UW] at this;exact this
 have B:g 0=0:=by have:=j 0 0 (by decide) (by decide);rw [UW,UW] at this;exact this
 have one:∀ (c:Prop) [Decidable c] (i:Nat),i<8->f (if c then 2^i else 0)=g (if c then 2^i else 0):=by
  intro c _ i a;split
  . exact h i a
  . rw [A,B]
 have lt:∀ (c:Prop) [Decidable c] (i:Nat),i<8->(if c then 2^i else 0)<256:=by
  intro c _ i a;split
  . exact T9 (VS (by decide) a) (by decide)
  . decide
 have st:∀ (c:Prop) [Decidable c] (i y:Nat),i<8->y<256->f y=g y->f ((if c then 2^i else 0)^^^y)=g ((if c then 2^i else 0)^^^y):=by
  intro c _ i y a k e;rw [d _ _ (lt c i a) k,j _ _ (lt c i a) k,one c i a,e]
 have p:=lt (x/128%2=1) 7 (by decide);have o:=rp (lt (x/64%2=1) 6 (by decide)) p;have n:=rp (lt (x/32%2=1) 5 (by decide)) o;have l4:=rp (lt (x/16%2=1) 4 (by decide)) n;have m:=rp (lt (x/8%2=1) 3 (by decide)) l4;have l:=rp (lt (x/4%2=1) 2 (by decide)) m;have l1:=rp (lt (x/2%2=1) 1 (by decide)) l;have z:=one (x/128%2=1) 7 (by decide);have w:=st (x/64%2=1) 6 _ (by decide) p z;have v:=st (x/32%2=1) 5 _ (by decide) o w;have u:=st (x/16%2=1) 4 _ (by decide) n v;have t:=st (x/8%2=1) 3 _ (by decide) l4 u;have r:=st (x/4%2=1) 2 _ (by decide) m t;have q:=st (x/2%2=1) 1 _ (by decide) l r;have b:=st (x%2=1) 0 _ (by decide) l1 q;have s:=aaj x C;simp only [Nat.reducePow] at b;rw [<- s] at b;exact b
def DV:∀ i,i<8->∀ j,j<8->gm (2^i) (2^j)=gm (2^j) (2^i):=by decide +kernel
def A6:∀ i,i<8->∀ j,j<8->∀ k,k<8->gm (gm (2^i) (2^j)) (2^k)=gm (2^i) (gm (2^j) (2^k)):=by decide +kernel
def Kf (a:i<8):2^i<256:=T9 (VS (by decide) a) (by decide)
def fD (e:a<256) (f:b<256):gm a b=gm b a:=by
 refine dO (λx=>gm a x) (λx=>gm x a) (λx y _ _=>fC a x y) (λx y c d=>fm a c d) (λi g=>?_) b f;refine dO (λx=>gm x (2^i)) (λx=>gm (2^i) x) (λx y c d=>fm _ c d) (λx y _ _=>fC _ x y) (λj h=>?_) a e;exact DV j h i g
def fE (g:a<256) (h:b<256) (l:c<256):gm (gm a b) c=gm a (gm b c):=by
 refine dO (λx=>gm (gm x b) c) (λx=>gm x (gm b c)) (λx y d e=>?_) (λx y d e=>fm _ d e) (λi f=>?_) a g
 . show gm (gm (x^^^y) b) c=_;rw [fm _ d e,fm _ (bB _ d) (bB _ e)]
 refine dO (λx=>gm (gm (2^i) x) c) (λx=>gm (2^i) (gm x c)) (λx y d e=>?_) (λx y d e=>?_) (λj m=>?_) b h
 . show gm (gm (2^i) (x^^^y)) c=_;rw [fC,fm _ (bB _ (Kf f)) (bB _ (Kf f))]
 . show gm (2^i) (gm (x^^^y) c)=_;rw [fm _ d e,fC]
 refine dO (λx=>gm (gm (2^i) (2^j)) x) (λx=>gm (2^i) (gm (2^j) x)) (λx y _ _=>fC _ x y) (λx y _ _=>?_) (λk n=>?_) c l
 . show gm (2^i) (gm (2^j) (x^^^y))=_;rw [fC,fC]
 exact A6 i f j m k n
def eA:∀ a,a<256->gm a 1=a:=by decide +kernel
def sI:∀ a,a<256->a≠0->gm a (gi a)=1:=by decide +kernel
def NQ:gi 0=0:=by decide +kernel
def bI (a:Nat):gm a 0=0:=by have:=fC a 0 0;rw [UW,UW] at this;exact this
def bM (b:Nat):gm 0 b=0:=by have:=fm (a:=0) (d:=0) b (by decide) (by decide);rw [UW,UW] at this;exact this
def Hf (c:a<256) (d:b<256) (h:gm a b=1):b=gi a:=by
 have i:a≠0:=by intro e;rw [e,bM] at h;exact absurd h (by decide)
 have f:=iF c;have g:=fE f c d;rw [h,eA _ f,fD f c,sI a c i,fD (by decide) d,eA b d] at g;exact g
def pm (a b:Nat):Nat->Nat
 | 0=>0
 | n+1=>if b/2^n%2=1 then pm a b n^^^(a*2^n) else pm a b n
def rd:Nat->Nat->Nat
 | 0,p=>p
 | k+1,p=>rd k (if p/2^(k+8)%2=1 then p^^^(285*2^k) else p)
def Ge (x y n:Nat):(x^^^y)/2^n%2=(x/2^n%2+y/2^n%2)%2:=by
 rw [abL];exact sH _ _
def A8 (x y n:Nat):(x^^^y)*2^n=(x*2^n)^^^(y*2^n):=by
 have:=YG (a:=x) (b:=y) (i:=n);simpa only [YH] using this
def Kg (a b c n:Nat):pm a (b^^^c) n=pm a b n^^^pm a c n:=by
 induction n with
 | zero=>simp [pm]
 | succ n ih=>
  simp only [pm];rw [Ge,ih];have d:=V0 (b/2^n);have e:=V0 (c/2^n);rcases d with d|d<;>rcases e with e|e<;>rw [d,e]<;>simp
  . rw [U4]
  . rw [U4,WZ (pm a c n),<- U4]
  . rw [DU,UW,U5]
def Kh (a d b n:Nat):pm (a^^^d) b n=pm a b n^^^pm d b n:=by
 induction n with
 | zero=>simp [pm]
 | succ n ih=>
  simp only [pm];rw [ih];by_cases h:b/2^n%2=1
  . simp only [h,if_true];rw [A8];exact DU _ _ _ _
  . simp only [h,if_false]
theorem Ki (k:Nat):∀ p q,rd k (p^^^q)=rd k p^^^rd k q:=by
 induction k with
 | zero=>intro p q;rfl
 | succ k ih=>
  intro p q;simp only [rd];rw [<- ih,Ge];congr 1;have a:=V0 (p/2^(k+8));have b:=V0 (q/2^(k+8));rcases a with a|a<;>rcases b with b|b<;>rw [a,b]<;>simp
  . rw [U4]
  . rw [U4,WZ q,<- U4]
  . rw [DU,UW,U5]
def Hg:∀ i,i<8->∀ j,j<8->rd 7 (pm (2^i) (2^j) 8)=gm (2^i) (2^j):=by decide +kernel
def Qa (c:a<256) (d:b<256):rd 7 (pm a b 8)=gm a b:=by
 refine dO (λx=>rd 7 (pm a x 8)) (λx=>gm a x) (λx y _ _=>?_) (λx y _ _=>fC a x y) (λi e=>?_) b d
 . show rd 7 (pm a (x^^^y) 8)=_;rw [Kg,Ki]
 refine dO (λx=>rd 7 (pm x (2^i) 8)) (λx=>gm x (2^i)) (λx y _ _=>?_) (λx y g h=>fm _ g h) (λj f=>?_) a c
 . show rd 7 (pm (x^^^y) (2^i) 8)=_;rw [Kh,Ki]
 exact Hg j f i e
theorem PI (a b:Nat) (c:a<256):∀ n,n<=8->pm a b n<65536:=by
 intro n;induction n with
 | zero=>intro _;exact (by decide:(0:Nat)<65536)
 | succ n ih=>
  intro e;have h:=ih (by omega);unfold pm;split
  . refine Wc (n:=16) h ?_;have:a*2^n<256*2^n:=ack c (Wh n);have:2^n<=2^7:=U9 (by decide) (by omega);omega
  . exact h
def bS (v:Nat->Nat):Prop:=∀ j,v j<256
def cC (u:Nat->Nat) (a:Nat) (r:Nat->Nat):Nat->Nat:=λj=>u j^^^gm a (r j)
def aV (R:(Nat->Nat)->Prop) (v:Nat->Nat):Prop:=∀ S:(Nat->Nat)->Prop,S (λ_=>0)->(∀ a r u,a<256->R r->S u->S (cC u a r))->S v
def aV.zero (R:(Nat->Nat)->Prop):aV R (λ_=>0):=λ_ a _=>a
def aV.step {r:Nat->Nat} (f:aV R u) (d:a<256) (e:R r):aV R (cC u a r):=λS c b=>b a r u d e (f S c b)
theorem pf (u:Nat->Nat) (r:Nat->Nat):cC u 0 r=u:=by funext j;simp [cC,bM]
theorem aV.mem {r:Nat->Nat} (b:bS r) (c:R r):aV R r:=by
 have:=aV.step (aV.zero R) (a:=1) (by decide) c;have e:cC (λ_=>0) 1 r=r:=by
  funext j;show 0^^^gm 1 (r j)=r j;rw [fD (by decide) (b j),eA _ (b j),V1]
 rw [e] at this;exact this
theorem aV.add (f:∀ r,R r->bS r) {u v:Nat->Nat} (h:aV R u) {b:Nat} (c:b<256) (i:aV R v):aV R (cC u b v):=by
 refine i (λx=>aV R (cC u b x)) ?_ ?_
 . have e:cC u b (λ_=>0)=u:=(by funext j;simp [cC,bI]);show aV R (cC u b (λ_=>0));rw [e];exact h
 . intro a r x g d k;have e:cC u b (cC x a r)=cC (cC u b x) (gm b a) r:=by
    funext j;show u j^^^gm b (x j^^^gm a (r j))=(u j^^^gm b (x j))^^^gm (gm b a) (r j);rw [fC,fE c g (f r d j),U4]
   show aV R (cC u b (cC x a r));rw [e];exact k.step (bB _ c) d
def aV.sub (a:∀ r,R r->bS r) (h:∀ r,R' r->aV R r) {v:Nat->Nat} (e:aV R' v):aV R v:=
 e (aV R) (aV.zero R) (λ_ r _ b c d=>aV.add a d b (h r c))
def aV.RZ (h:∀ r,R r->r c=0) {v:Nat->Nat} (b:aV R v):v c=0:=
 b (λx=>x c=0) rfl (λa r u _ hr (hu:u c=0)=>by show u c^^^gm a (r c)=0;rw [hu,h r hr,bI];exact UW 0)
theorem aV.Sw {R1:(Nat->Nat)->Prop} {p:Nat->Nat} (m:∀ r,R r->bS r) (B:R p) (I:p c≠0)
 (o:∀ r,R1 r->∃ q f,R q/\f<256/\r=cC q f p/\r c=0)
 (F:∀ q,R q->q=p\/∃ f r,f<256/\R1 r/\q=cC r f p) (v:Nat->Nat):aV R1 v↔aV R v/\v c=0:=by
 have L:∀ r,R1 r->bS r:=by
  intro r d;obtain ⟨q,f,l,n,rfl,_⟩:=o r d;exact λj=>rp (m q l j) (bB _ n)
 constructor
 . intro w;refine ⟨aV.sub m (λr d=>?_) w,aV.RZ (λr d=>?_) w⟩
   . obtain ⟨q,f,l,n,rfl,_⟩:=o r d;exact (aV.mem (m q l) l).step n B
   . obtain ⟨q,f,_,_,_,h⟩:=o r d;exact h
 . rintro ⟨w,J⟩;have key:∃ b,b<256/\aV R1 (cC v b p):=by
    refine w (λx=>∃ b,b<256/\aV R1 (cC x b p)) ⟨0,by decide,by rw [pf];exact aV.zero R1⟩ ?_;rintro a q u k l ⟨b,g,D⟩;rcases F q l with rfl|⟨f,r,n,d,rfl⟩
    . refine ⟨b^^^a,rp g k,?_⟩;have e:cC (cC u a q) (b^^^a) q=cC u b q:=by
       funext j;show (u j^^^gm a (q j))^^^gm (b^^^a) (q j)=u j^^^gm b (q j);rw [fm _ g k,U4,WZ (gm b (q j)),<- U4 (gm a (q j)),UW,V1]
      rw [e];exact D
    . refine ⟨b^^^gm a f,rp g (bB _ k),?_⟩;have e:cC (cC u a (cC r f p)) (b^^^gm a f) p=cC (cC u b p) a r:=by
       funext j;show (u j^^^gm a (r j^^^gm f (p j)))^^^gm (b^^^gm a f) (p j)=(u j^^^gm b (p j))^^^gm a (r j);rw [fC,fm _ g (bB _ k),fE k n (m p B j)];generalize gm a (gm f (p j))=t;generalize gm b (p j)=s;generalize gm a (r j)=y;generalize u j=z;apply XR;intro i;simp only [abM];cases z.testBit i<;>cases y.testBit i<;>cases t.testBit i<;>cases s.testBit i<;>rfl
      rw [e];exact D.step k d
   obtain ⟨b,g,C⟩:=key;have E:=aV.RZ (λr d=>by obtain ⟨q,f,_,_,_,h⟩:=o r d;exact h) C;have G:gm b (p c)=0:=by
    have:v c^^^gm b (p c)=0:=E;rwa [J,V1] at this
   have H:b=0:=by
    have A:=m p B c;have K:=iF A;have e:=fE g A K;rw [G,bM,sI _ A I,eA b g] at e;exact e.symm
   rw [H,pf] at C;exact C
def cW:Nat->((Nat->Nat)->Prop)->Nat->Nat->Prop
 | 0,_,_,k=>k=0
 | n+1,R,c,k=>((∀ r,R r->r c=0)/\cW n R (c+1) k)\/(∃ p,R p/\p c≠0)/\∃ R1,(∀ r,R1 r->bS r)/\(∀ v,aV R1 v↔aV R v/\v c=0)/\∃ k',k=k'+1/\cW n R1 (c+1) k'
def cW.none:∀ n (R:(Nat->Nat)->Prop) (c:Nat),(∀ j,c<=j->∀ r,R r->r j=0)->cW n R c 0
 | 0,_,_,_=>rfl
 | n+1,R,c,h=>.inl ⟨h c (TY _),cW.none n R (c+1) (λj a=>h j (by omega))⟩
def dM (l:a8):Nat->Nat:=λj=>l.getD j 0
def nH (T:List a8) (r:Nat):(Nat->Nat)->Prop:=λv=>∃ i,∃ h:i<T.length,r<=i/\v=dM T[i]
def Kj {l:a8} (h:∀ x∈l,x<256):bS (dM l):=by
 intro j;unfold dM;by_cases a:j<l.length
 . have e:l.getD j 0=l[j]:=(by simp [a]);rw [e];exact h _ (T8 a)
 . have e:l.getD j 0=0:=(by simp [Vm (WK.1 a)]);rw [e];decide
def nI (h:∀ l∈T,∀ x∈l,x<256) (r:Nat):∀ v,nH T r v->bS v:=by
 rintro v ⟨i,a,_,rfl⟩;exact Kj (h _ (T8 a))
theorem iG (q p:Nat->Nat) (f:Nat):cC (cC q f p) f p=q:=by
 funext j;show (q j^^^gm f (p j))^^^gm f (p j)=q j;rw [U4,UW,U5]
def sJ (h:∀ i (a:i<T.length),r<=i->dM T[i] c=0) (d:cW n (nH T r) (c+1) k):cW (n+1) (nH T r) c k:=
 .inl ⟨by rintro v ⟨i,a,b,rfl⟩;exact h i a b,d⟩
theorem qF {p:Nat} (y:∀ l∈T,∀ x∈l,x<256) (t:∀ l∈T',∀ x∈l,x<256) (B:T'.length=T.length) (m:r<=p) (o:p<T.length) (j:dM T[p] c≠0)
 (d:∀ i (g:i<T'.length),r<i->∃ f,∃ h:(if i=p then r else i)<T.length,f<256/\dM T'[i]=cC (dM T[if i=p then r else i]) f (dM T[p])/\dM T'[i] c=0)
 (A:cW n (nH T' (r+1)) (c+1) k):cW (n+1) (nH T r) c (k+1):=by
 have w:=nI y r;refine .inr ⟨⟨dM T[p],⟨p,o,m,rfl⟩,j⟩,nH T' (r+1),nI t (r+1),?_,k,rfl,A⟩;refine aV.Sw (p:=dM T[p]) w ⟨p,o,m,rfl⟩ j ?_ ?_
 . rintro v ⟨i,g,u,rfl⟩;obtain ⟨f,h,b,e,z⟩:=d i g (by omega);exact ⟨_,f,⟨_,h,by split<;>omega,rfl⟩,b,e,z⟩
 . rintro q ⟨i,g,u,rfl⟩;by_cases e:i=p
   . subst e;exact .inl rfl
   . right;by_cases s:i=r
     . subst s;obtain ⟨f,h,b,a,_⟩:=d p (by omega) (by omega);simp only [TX] at a;refine ⟨f,dM T'[p],b,⟨p,by omega,by omega,rfl⟩,?_⟩;rw [a,iG]
     . obtain ⟨f,h,b,a,_⟩:=d i (by omega) (by omega);simp only [TW e] at a;refine ⟨f,dM T'[i],b,⟨i,by omega,by omega,rfl⟩,?_⟩;rw [a,iG]
def sK (h:∀ l∈T,l.length<=c):cW n (nH T r) c 0:=
 cW.none n _ c (by
  rintro j b v ⟨i,a,_,rfl⟩;unfold dM;have:=h _ (T8 a);simp [Vm (show (T[i]).length<=j by omega)])
def nJ (b:x<256) (a:y<256) (h:y≠0):x^^^gm (gm x (gi y)) y=0:=by
 rw [fE b (iF a) a,fD (iF a) a,sI y a h,eA x b,UW]
def nf (D:List a8) (k:Nat):Prop:=cW 64 (nH D 0) 0 k
theorem wH (hl:T.length=T'.length) (h:∀ i (c:i<T.length) (d:i<T'.length),dM T[i]=dM T'[i]) (r:Nat):nH T r=nH T' r:=by
 funext v;apply propext;constructor
 . rintro ⟨i,a,b,rfl⟩;exact ⟨i,by omega,b,h i a (by omega)⟩
 . rintro ⟨i,a,b,rfl⟩;exact ⟨i,by omega,b,(h i (by omega) a).symm⟩
def mP (R:(Nat->Nat)->Prop) (c m:Nat):Prop:=∀ v,bS v->(∀ j,j<c\/c+m<=j->v j=0)->aV R v
def gC (m:Nat):Nat->Nat:=λj=>if j=m then 1 else 0
theorem jX (m:Nat):bS (gC m):=λj=>by unfold gC;split<;>decide
def cW.le:∀ n (R:(Nat->Nat)->Prop) (c k m:Nat),(∀ j,c+m<=j->∀ r,R r->r j=0)->cW n R c k->k<=m
 | 0,_,_,_,_,_,h=>by rw [h];exact T7 _
 | n+1,R,c,k,m,hz,h=>by
  rcases h with ⟨_,h⟩|⟨⟨p,i,g⟩,d,e,f,k1,rfl,h⟩
  . cases m with
    | zero=>exact cW.le n R (c+1) k 0 (λj a=>hz j (by omega)) h
    | succ m=>exact Nat.le_succ_of_le (cW.le n R (c+1) k m (λj a=>hz j (by omega)) h)
  . cases m with
    | zero=>exact absurd (hz c (by omega) p i) g
    | succ m=>
     have:=cW.le n d (c+1) k1 m (λj a r b=>aV.RZ (hz j (by omega)) ((f r).1 (aV.mem (e r b) b)).1) h;omega
theorem cW.Td:∀ n (R:(Nat->Nat)->Prop) (c m:Nat),(∀ r,R r->bS r)->(∀ j,c+m<=j->∀ r,R r->r j=0)->(∀ j,j<c->∀ r,R r->r j=0)->cW n R c m->mP R c m
 | 0,R,c,m,hb,hz,hl,h=>by
  intro v _ d;obtain rfl:m=0:=h;have e:v=λ_=>0:=by funext j;exact d j (by omega)
  rw [e];exact aV.zero R
 | n+1,R,c,m,hb,hz,hl,h=>by
  cases m with
  | zero=>
   intro v _ d;have e:v=λ_=>0:=(by funext j;exact d j (by omega));rw [e];exact aV.zero R
  | succ m=>
   rcases h with ⟨y,h⟩|⟨⟨p,f,t⟩,g,k,i,k1,e,h⟩
   . have:=cW.le n R (c+1) (m+1) m (λj b=>hz j (by omega)) h;omega
   . obtain rfl:k1=m:=(by omega);have sub:=λr (a:g r)=>(i r).1 (aV.mem (k r a) a);have ih:=cW.Td n g (c+1) k1 k (λj b r a=>aV.RZ (hz j (by omega)) (sub r a).1)
      (λj b r a=>by
       by_cases e:j=c
       . rw [e];exact (sub r a).2
       . exact aV.RZ (hl j (by omega)) (sub r a).1) h
     intro v d w;have o:=d c;have u:=hb p f c;have l:=bB (gi (p c)) o;have x:=ih (cC v (gm (v c) (gi (p c))) p) (λj=>rp (d j) (bB _ l)) (by
      intro j b;show v j^^^gm (gm (v c) (gi (p c))) (p j)=0;by_cases e:j=c
      . rw [e];exact nJ o u t
      . have q:v j=0:=w j (by omega);have s:p j=0:=by
         rcases b with b|b
         . exact hl j (by omega) p f
         . exact hz j (by omega) p f
        rw [q,s,bI,UW])
     have:=((i _).1 x).1.step l f;rwa [iG] at this
def cW.Ta:∀ n (R:(Nat->Nat)->Prop) (c k m:Nat),m<=n->(∀ j,c+m<=j->∀ r,R r->r j=0)->mP R c m->cW n R c k->k=m
 | 0,_,_,_,m,hm,_,_,h=>by rw [h];omega
 | n+1,R,c,k,m,hm,hz,hF,h=>by
  cases m with
  | zero=>have:=cW.le (n+1) R c k 0 hz h;omega
  | succ m=>
   rcases h with ⟨g,h⟩|⟨⟨p,s,q⟩,f,l,a,k1,rfl,h⟩
   . have i:=hF (gC c) (jX c) (λj d=>TW (by omega));have:=aV.RZ g i;simp [gC] at this
   . have:=cW.Ta n f (c+1) k1 m (by omega) (λj d r e=>aV.RZ (hz j (by omega)) ((a r).1 (aV.mem (l r e) e)).1)
      (λv o b=>(a v).2 ⟨hF v o (λj d=>b j (by omega)),b c (by omega)⟩) h
     omega
theorem Hh {D:List a8} {m:Nat} (d:∀ l∈D,∀ x∈l,x<256) (hl:∀ l∈D,l.length<=m) (f:m<=64) (h:nf D k):k=m↔mP (nH D 0) 0 m:=by
 have b:∀ j,0+m<=j->∀ r,nH D 0 r->r j=0:=by
  rintro j a r ⟨i,e,_,rfl⟩;unfold dM;have:=hl _ (T8 e);simp [Vm (show (D[i]).length<=j by omega)]
 constructor
 . rintro rfl;exact cW.Td 64 _ 0 k (nI d 0) b (λj a=>absurd a (by omega)) h
 . intro c;exact cW.Ta 64 _ 0 k m f b c h
def mP.mono {m:Nat} (h:mP R c m) (g:∀ r,R r->R' r):mP R' c m:=
 λv j k S b d=>h v j k S b (λa r u e f i=>d a r u e (g r f) i)
theorem mP.units (f:∀ r,R r->bS r) {m:Nat} (h:∀ j,j<m->aV R (gC j)):mP R 0 m:=by
 intro v d g;have key:∀ t,t<=m->aV R (λj=>if j<t then v j else 0):=by
  intro t;induction t with
  | zero=>intro _;exact aV.zero R
  | succ t ih=>
   intro i;have:=aV.add f (ih (by omega)) (d t) (h t (by omega));have e:cC (λj=>if j<t then v j else 0) (v t) (gC t)=λj=>if j<t+1 then v j else 0:=by
    funext j;show (if j<t then v j else 0)^^^gm (v t) (if j=t then 1 else 0)=if j<t+1 then v j else 0;by_cases a:j=t
    . subst a;simp [eA _ (d j)]
    . rw [TW a,bI,U5];by_cases b:j<t
      . rw [TX b,TX (by omega)]
      . rw [TW b,TW (by omega)]
   rwa [e] at this
 have:=key m (TY _);have e:(λj=>if j<m then v j else 0)=v:=by
  funext j;by_cases c:j<m
  . rw [TX c]
  . rw [TW c];exact (g j (by omega)).symm
 rwa [e] at this
def aak (b:a<256) (h:a≠0):gi a≠0:=by
 intro e;have:=sI a b h;rw [e,bI] at this;exact absurd this (by decide)
structure Ck where
 m:Nat->Nat->Nat
 told:Nat
 count:Nat
def ew (C:Ck) (i:Nat):Option Nat:=(YF C.count).find? (λr=>decide (C.told<=r)&&decide (C.m r i≠0))
def ia {C:Ck} (h:ew C i=some r):C.told<=r/\r<C.count/\C.m r i≠0:=by
 unfold ew at h;have a:=List.find?_some h;have b:=List.mem_of_find?_eq_some h;simp at a b;exact ⟨a.1,b,a.2⟩
def zl {C:Ck} (h:ew C i=none) (r:Nat) (a:C.told<=r) (b:r<C.count):C.m r i=0:=by
 unfold ew at h;rw [YJ] at h;have:=h r (UA.2 b);simp [a] at this;exact this
def vM {C:Ck} (a:C.told<=r) (b:r<C.count) (c:C.m r i≠0) (d:∀ k,C.told<=k->k<r->C.m k i=0):ew C i=some r:=by
 unfold ew;rw [List.find?_range_eq_some];refine ⟨by simp [a,c],UA.2 b,λj e=>?_⟩;by_cases h:C.told<=j
 . simp [d j h e]
 . simp [h]
def vN {C:Ck} (h:∀ r,C.told<=r->r<C.count->C.m r i=0):ew C i=none:=by
 unfold ew;rw [YJ];intro r b;by_cases a:C.told<=r
 . simp [h r a (UA.1 b)]
 . simp [a]
def cY (m:Nat->Nat->Nat) (cnt r i:Nat):Nat->Nat->Nat:=λk j=>if k<cnt/\k≠r then m k j^^^gm (gm (m k i) (gi (m r i))) (m r j) else m k j
def dG (m:Nat->Nat->Nat) (a b:Nat):Nat->Nat->Nat:=λk=>if k=a then m b else if k=b then m a else m k
def eO (m:Nat->Nat->Nat) (r i:Nat):Nat->Nat->Nat:=λk j=>if k=r then gm (m r j) (gi (m r i)) else m k j
def jk (C:Ck) (i r:Nat):Ck:=⟨cY (eO (dG C.m C.told r) C.told i) C.count C.told i,C.told+1,C.count⟩
def ig (C:Ck) (i r:Nat):Ck:=⟨λk=>if k=r then cY C.m C.count r i (C.count-1) else cY C.m C.count r i k,C.told,C.count-1⟩
def ph (C:Ck) (i:Nat):Option Ck:=(ew C i).map (jk C i)
def iH (C:Ck) (i:Nat):Option Ck:=(ew C i).map (ig C i)
def zm (C:Ck):Prop:=∀ r,bS (C.m r)
def mQ (C:Ck) (t:Nat):(Nat->Nat)->Prop:=λv=>∃ r,t<=r/\r<C.count/\v=C.m r
def wI {r:Nat->Nat} (c:bS u) (b:a<256):bS (cC u a r):=λj=>rp (c j) (bB _ b)
theorem iI (h:k<cnt/\k≠r):cY m cnt r i k=cC (m k) (gm (m k i) (gi (m r i))) (m r):=by
 funext j;unfold cY cC;rw [TX h]
theorem nK (h:¬ (k<cnt/\k≠r)):cY m cnt r i k=m k:=by
 funext j;unfold cY;rw [TW h]
def nL (h:∀ k,bS (m k)) (k:Nat):bS (cY m cnt r i k):=by
 by_cases a:k<cnt/\k≠r
 . rw [iI a];exact wI (h k) (bB _ (h k i))
 . rw [nK a];exact h k
theorem jC (h:∀ k,bS (m k)) (k:Nat):bS (dG m a b k):=by
 unfold dG;split
 . exact h b
 . split
   . exact h a
   . exact h k
theorem sL (h:∀ k,bS (m k)) (k:Nat):bS (eO m r i k):=λj=>by
 unfold eO;split
 . exact bB _ (h r j)
 . exact h k j
def Hi {C:Ck} (h:zm C):zm (jk C i r):=nL (sL (jC h))
theorem ng {C:Ck} (h:zm C):zm (ig C i r):=λk=>by
 show bS (if k=r then _ else _);split
 . exact nL h _
 . exact nL h _
def wJ {C:Ck} (h:zm C) (t:Nat):∀ r,mQ C t r->bS r:=by
 rintro r ⟨k,_,_,rfl⟩;exact h k
def DW (a:x<256) (b:y<256) (h:y≠0):x^^^gm (gm x (gi y)) y=0:=nJ a b h
def DX {C:Ck} {t:Nat} (b:zm C) (u:t<=C.told) (o:C.told<=r) (n:r<C.count) (g:C.m r i≠0) (v:Nat->Nat) :
 aV (mQ (ig C i r) t) v↔aV (mQ C t) v/\v i=0:=by
 refine aV.Sw (p:=C.m r) (wJ b t) ⟨r,by omega,n,rfl⟩ g ?_ ?_ v
 . rintro q ⟨k,k1,k2,rfl⟩;have:k<C.count-1:=k2;have key:∀ a,t<=a->a<C.count->a≠r->∃ q f,mQ C t q/\f<256/\cY C.m C.count r i a=cC q f (C.m r)/\cY C.m C.count r i a i=0:=by
    intro a j c d;refine ⟨C.m a,gm (C.m a i) (gi (C.m r i)),⟨a,j,c,rfl⟩,bB _ (b a i),iI ⟨c,d⟩,?_⟩;rw [iI ⟨c,d⟩];exact DW (b a i) (b r i) g
   show ∃ q f,mQ C t q/\f<256/\(if k=r then cY C.m C.count r i (C.count-1) else cY C.m C.count r i k)=cC q f (C.m r)/\(if k=r then cY C.m C.count r i (C.count-1) else cY C.m C.count r i k) i=0;by_cases e:k=r
   . rw [TX e];exact key (C.count-1) (by omega) (by omega) (by omega)
   . rw [TW e];exact key k k1 (by omega) e
 . rintro q ⟨k,k1,k2,rfl⟩;by_cases e:k=r
   . left;rw [e]
   . right;have l:cY C.m C.count r i k=cC (C.m k) (gm (C.m k i) (gi (C.m r i))) (C.m r):=iI ⟨k2,e⟩;refine ⟨gm (C.m k i) (gi (C.m r i)),cY C.m C.count r i k,bB _ (b k i),?_,?_⟩
     . by_cases h:k=C.count-1
       . refine ⟨r,by omega,by show r<C.count-1;omega,?_⟩;show _=(if r=r then cY C.m C.count r i (C.count-1) else cY C.m C.count r i r);rw [TX rfl,h]
       . refine ⟨k,k1,by show k<C.count-1;omega,?_⟩;show _=(if k=r then cY C.m C.count r i (C.count-1) else cY C.m C.count r i k);rw [TW e]
     . rw [l,iG]
def DY {C:Ck} (c:k<C.told) (a:C.told<=r) (b:r<C.count):(ig C i r).m k=cC (C.m k) (gm (C.m k i) (gi (C.m r i))) (C.m r):=by
 show (if k=r then cY C.m C.count r i (C.count-1) else cY C.m C.count r i k)=_;rw [TW (by omega),iI ⟨by omega,by omega⟩]
def Qb:gi 1=1:=by decide +kernel
theorem nO {C:Ck} (c:zm C) (p:k<C.count) (d:k≠C.told) (o:C.m r i≠0) :
 (jk C i r).m k=cC (dG C.m C.told r k) (gm (dG C.m C.told r k i) (gi (C.m r i))) (C.m r):=by
 have h:dG C.m C.told r C.told=C.m r:=by unfold dG;rw [TX rfl]
 have l:eO (dG C.m C.told r) C.told i k=dG C.m C.told r k:=by funext j;unfold eO;rw [TW d]
 have n:eO (dG C.m C.told r) C.told i C.told=λj=>gm (C.m r j) (gi (C.m r i)):=by funext j;unfold eO;rw [TX rfl,h]
 show cY (eO (dG C.m C.told r) C.told i) C.count C.told i k=_;rw [iI ⟨p,d⟩,l,n];funext j;show _^^^gm (gm _ (gi (gm (C.m r i) (gi (C.m r i))))) (gm (C.m r j) (gi (C.m r i)))=_^^^gm (gm _ (gi (C.m r i))) (C.m r j);have g:=jC (a:=C.told) (b:=r) c k i;have f:=c r i;have e:=iF f;rw [sI _ f o,Qb,eA _ g,fD (c r j) e,<- fE g e (c r j)]
theorem A9 {C:Ck}:(jk C i r).m C.told=λj=>gm (C.m r j) (gi (C.m r i)):=by
 have a:dG C.m C.told r C.told=C.m r:=by unfold dG;rw [TX rfl]
 show cY (eO (dG C.m C.told r) C.told i) C.count C.told i C.told=_;rw [nK (by omega)];funext j;unfold eO;rw [TX rfl,a]
def sM (c:k≠a) (d:k≠b):dG m a b k=m k:=by unfold dG;rw [TW c,TW d]
def Hk {C:Ck} (b:zm C) (o:C.told<=r) (n:r<C.count) (g:C.m r i≠0) (v:Nat->Nat) :
 aV (mQ (jk C i r) (C.told+1)) v↔aV (mQ C C.told) v/\v i=0:=by
 have s:∀ k,C.told+1<=k->k<C.count->∃ a,C.told<=a/\a<C.count/\a≠r/\dG C.m C.told r k=C.m a:=by
  intro k f c;by_cases e:k=r
  . refine ⟨C.told,by omega,by omega,by omega,?_⟩;unfold dG;rw [TW (by omega),TX e]
  . exact ⟨k,by omega,c,e,sM (by omega) e⟩
 refine aV.Sw (p:=C.m r) (wJ b _) ⟨r,o,n,rfl⟩ g ?_ ?_ v
 . rintro q ⟨k,k1,k2,rfl⟩;have l:k<C.count:=k2;obtain ⟨a,f,c,t,e⟩:=s k k1 l;have d:=nO (i:=i) (r:=r) b l (by omega) g;rw [e] at d;refine ⟨C.m a,gm (C.m a i) (gi (C.m r i)),⟨a,f,c,rfl⟩,bB _ (b a i),d,?_⟩;rw [d];exact DW (b a i) (b r i) g
 . rintro q ⟨k,k1,k2,rfl⟩;by_cases e:k=r
   . left;rw [e]
   . right;have h:∃ a,C.told+1<=a/\a<C.count/\dG C.m C.told r a=C.m k:=by
      by_cases j:k=C.told
      . refine ⟨r,by omega,n,?_⟩;unfold dG;rw [TW (by omega),TX rfl,j]
      . exact ⟨k,by omega,k2,sM j e⟩
     obtain ⟨a,f,c,ge⟩:=h;have d:=nO (i:=i) (r:=r) b c (by omega) g;rw [ge] at d;refine ⟨gm (C.m k i) (gi (C.m r i)),(jk C i r).m a,bB _ (b k i),⟨a,f,c,rfl⟩,?_⟩;rw [d,iG]
def Lin (X:(Nat->Nat)->Prop):Prop:=X (λ_=>0)/\∀ a r u,a<256->X r->X u->X (cC u a r)
theorem Hl (c:Lin X) {C:Ck} {i r:Nat} (d:zm C) (b:r<C.count) (h:∀ k,k<C.count->X (C.m k)):∀ k,k<(ig C i r).count->X ((ig C i r).m k):=by
 have key:∀ k,k<C.count->X (cY C.m C.count r i k):=by
  intro k a;by_cases e:k=r
  . rw [nK (by omega)];exact h k a
  . rw [iI ⟨a,e⟩];exact c.2 _ _ _ (bB _ (d k i)) (h r b) (h k a)
 intro k a;have:k<C.count-1:=a;show X (if k=r then _ else _);split
 . exact key _ (by omega)
 . exact key _ (by omega)
theorem Kl (c:Lin X) {C:Ck} {i r:Nat} (a:zm C) (n:C.told<=r) (b:r<C.count) (f:C.m r i≠0) (h:∀ k,k<C.count->X (C.m k)):∀ k,k<(jk C i r).count->X ((jk C i r).m k):=by
 intro k g;have d:k<C.count:=g;by_cases e:k=C.told
 . rw [e,A9];have l:X (cC (λ_=>0) (gi (C.m r i)) (C.m r)):=c.2 _ _ _ (iF (a r i)) (h r b) c.1;have e:cC (λ_=>0) (gi (C.m r i)) (C.m r)=λj=>gm (C.m r j) (gi (C.m r i)):=by
    funext j;show 0^^^gm (gi (C.m r i)) (C.m r j)=_;rw [V1,fD (iF (a r i)) (a r j)]
   rwa [e] at l
 . rw [nO a d e f];refine c.2 _ _ _ (bB _ (jC a _ _)) (h r b) ?_;unfold dG;split
   . exact h r b
   . split
     . exact h _ (by omega)
     . exact h k d
def tells (C:Ck) (L:a8):Option Ck:=L.foldl (λo i=>o.bind (λc=>ph c i)) (some C)
def jY (C:Ck) (L:a8) (i:Nat):tells C (L++[i])=(tells C L).bind (λc=>ph c i):=by unfold tells;rw [Wq];rfl
def jb (C:Ck) (L b:a8) (h:tells C L=none):tells C (L++b)=none:=by
 unfold tells at *;rw [Wq,h];induction b with
 | nil=>rfl
 | cons a l ih=>exact ih
structure fq (C0:Ck) (X:(Nat->Nat)->Prop) (L:a8) (C:Ck):Prop where
 told:C.told=L.length
 count:C.count=C0.count
 le:C.told<=C.count
 byt:zm C
 all:∀ k,k<C.count->X (C.m k)
 one:∀ k,k<L.length->∀ k' (h:k'<L.length),C.m k L[k']=if k=k' then 1 else 0
 spare:∀ v,aV (mQ C C.told) v↔aV (mQ C0 0) v/\∀ i∈L,v i=0
def fq.nil {C0:Ck} (a:C0.told=0) (c:zm C0) (b:∀ k,k<C0.count->X (C0.m k)):fq C0 X [] C0:=
 ⟨a,rfl,by omega,c,b,λk d=>absurd d (by simp),λv=>by rw [a];simp⟩
theorem fq.snoc {C0 C C':Ck} (y:Lin X) (h:fq C0 X L C) (s:ph C i=some C'):fq C0 X (L++[i]) C':=by
 unfold ph at s;rw [Wi] at s;obtain ⟨r,A,rfl⟩:=s;obtain ⟨p,q,g⟩:=ia A;have t:∀ j,j∈L->C.m r j=0:=λj d=>((h.spare (C.m r)).1 (aV.mem (h.byt r) ⟨r,p,q,rfl⟩)).2 j d;have u:=h.told;refine ⟨?_,h.count,by show C.told+1<=C.count;omega,Hi h.byt,Kl y h.byt p q g h.all,?_,?_⟩
 . show C.told+1=_;simp [u]
 . intro k z f x;simp at z x;by_cases e:k=L.length
   . have w:k=C.told:=(by omega);rw [w,A9];by_cases n:f=L.length
     . subst n;rw [XS (by omega)];simp [u,sI _ (h.byt r i) g]
     . have l:f<L.length:=(by omega);rw [XT l];show gm (C.m r L[f]) _=_;rw [t _ (T8 l),bM,TW (by omega)]
   . have l:k<L.length:=(by omega);rw [nO h.byt (by omega) (by omega) g,sM (by omega) (by omega)];by_cases n:f=L.length
     . subst n;rw [XS (by omega)];simp only [WL,List.getElem_singleton];show C.m k i^^^gm (gm (C.m k i) (gi (C.m r i))) (C.m r i)=_;rw [DW (h.byt k i) (h.byt r i) g,TW e]
     . have o:f<L.length:=(by omega);rw [XT o];show C.m k L[f]^^^gm _ (C.m r L[f])=_;rw [t _ (T8 o),bI,U5,h.one k l f o]
 . intro v;have:=Hk (i:=i) h.byt p q g v;show aV (mQ (jk C i r) (C.told+1)) v↔_;rw [this,h.spare v];constructor
   . rintro ⟨⟨a,b⟩,c⟩;exact ⟨a,λj d=>by rcases Un.1 d with d|d;exact b j d;rw [Vn.1 d];exact c⟩
   . rintro ⟨a,b⟩;exact ⟨⟨a,λj d=>b j (UO _ d)⟩,b i (by simp)⟩
def fq.of {C0:Ck} (f:Lin X) (l:C0.told=0) (o:zm C0) (n:∀ k,k<C0.count->X (C0.m k)):∀ (a L:a8) (C:Ck),fq C0 X L C->tells C0 L=some C ->
 (∃ b,tells C0 (L++a)=some b/\fq C0 X (L++a) b)\/(tells C0 (L++a)=none/\∃ pre i,(pre++[i])<+:(L++a)/\∀ v,aV (mQ C0 0) v->(∀ j∈pre,v j=0)->v i=0)
 | [],L,C,h,e=>.inl ⟨C,by simpa using e,by simpa using h⟩
 | i::a,L,C,h,e=>by
  have c:L++i::a=(L++[i])++a:=by simp
  cases ht:ph C i with
  | none=>
   right;have d:tells C0 (L++[i])=none:=(by rw [jY,e];exact ht);refine ⟨by rw [c];exact jb _ _ _ d,L,i,by rw [c];exact XU _ _,?_⟩;intro v s t;have p:ew C i=none:=by
    unfold ph at ht;exact Option.map_eq_none_iff.1 ht
   exact aV.RZ (λr q=>by obtain ⟨k,k1,k2,rfl⟩:=q;exact zl p k k1 k2) ((h.spare v).2 ⟨s,t⟩)
  | some b=>
   have g:=h.snoc f ht;have d:tells C0 (L++[i])=some b:=(by rw [jY,e];exact ht);rw [c];exact fq.of f l o n a (L++[i]) b g d
def cI (C:Ck) (i:Nat):Bool:=(YF C.told).any (λr=>decide (C.m r i≠0))
theorem ij {C:Ck}:cI C i=false↔∀ r,r<C.told->C.m r i=0:=by
 unfold cI;rw [List.any_eq_false];constructor
 . intro h r a;have:=h r (UA.2 a);simpa using this
 . intro h r a;simp [h r (UA.1 a)]
def qG {C:Ck} (a:r<C.told) (b:C.m r i≠0):cI C i=true:=by
 cases h:cI C i with
 | true=>rfl
 | false=>exact absurd (ij.1 h r a) b
def iJ (K:a8) (C:Ck):Nat:=(K.filter (cI C)).length
abbrev cA:=Ck×Nat
def fw (K:a8) (s:cA) (C:Ck):cA:=if iJ K C=0\/iJ K C<s.2 then (C,iJ K C) else s
def ab (s:Nat):a8:=(YF 16).filter (λi=>s.testBit i)
def bJ (s i:Nat):Nat:=s/2^(i+1)*2^(i+1)
def lu (s i j:Nat):(bJ s i).testBit j=(decide (i<j)&&s.testBit j):=by
 unfold bJ;rw [Nat.testBit_mul_two_pow];by_cases h:i+1<=j
 . simp only [Nat.testBit_div_two_pow];rw [show j-(i+1)+(i+1)=j by omega];simp [h,show i<j by omega]
 . simp [h,show ¬ i<j by omega]
def qH (s:Nat):(ab s).Pairwise (· < ·):=(List.pairwise_lt_range (n:=16)).filter _
def cZ:i∈ab s↔i<16/\s.testBit i=true:=by unfold ab;rw [Vv,UA]
theorem Ba {pre R:a8} (h:ab s=pre++i::R):ab (bJ s i)=R:=by
 have e:ab (bJ s i)=(ab s).filter (λj=>decide (i<j)):=by
  unfold ab;rw [List.filter_filter];apply List.filter_congr;intro j _;rw [lu]
 have b:=qH s;rw [h] at b;rw [e,h,Wr,List.filter_cons];obtain ⟨l,f,g⟩:=abN.1 b;obtain ⟨k,m⟩:=List.pairwise_cons.1 f;have c:pre.filter (λj=>decide (i<j))=[]:=abO.2 (λj a=>by have:=g j a i (by simp);simp;omega);have d:R.filter (λj=>decide (i<j))=R:=List.filter_eq_self.2 (λj a=>by have:=k j a;simp;omega);rw [c,d];simp
def ik (rec:Ck->Nat->Nat->cA->cA) (C:Ck) (of:Nat) (a:Nat×cA×Bool) (i:Nat):Nat×cA×Bool:=
 if a.2.2=true then a else if ¬ a.1<a.2.1.2 then (a.1,a.2.1,true) else
  match iH C i with
  | none=>a
  | some C'=>(a.1+1,rec C' (bJ of i) a.1 a.2.1,false)
def iK (K:a8):Nat->Ck->Nat->Nat->cA->cA
 | 0,C,of,p,st=>((ab of).foldl (ik (λ_ _ _ s=>s) C of) (p,fw K st C,false)).2.1
 | n+1,C,of,p,st=>((ab of).foldl (ik (iK K n) C of) (p,fw K st C,false)).2.1
def zn (K:a8):Nat->Ck->Nat->Nat->cA->cA
 | 0=>λ_ _ _ s=>s
 | n+1=>iK K n
def pj (K:a8) (n:Nat) (C:Ck) (of p:Nat) (st:cA):iK K n C of p st=((ab of).foldl (ik (zn K n) C of) (p,fw K st C,false)).2.1:=by
 cases n<;>rfl
theorem Bb (K:a8) (s:cA) (C:Ck):(fw K s C).2<=s.2:=by
 unfold fw;split
 . show iJ K C<=s.2;omega
 . exact TY _
theorem Hm (K:a8) (s:cA) (C:Ck):(fw K s C).2<=iJ K C:=by
 unfold fw;split
 . exact TY _
 . show s.2<=iJ K C;omega
theorem NR {rec:Ck->Nat->Nat->cA->cA} (h:∀ C of p s,(rec C of p s).2<=s.2) (C:Ck) (of:Nat) (a:Nat×cA×Bool) (i:Nat):(ik rec C of a i).2.1.2<=a.2.1.2:=by
 unfold ik;split
 . exact TY _
 . split
   . exact TY _
   . split
     . exact TY _
     . exact h _ _ _ _
def nP {rec:Ck->Nat->Nat->cA->cA} (h:∀ C of p s,(rec C of p s).2<=s.2) (C:Ck) (of:Nat):∀ (L:a8) (a:Nat×cA×Bool),(L.foldl (ik rec C of) a).2.1.2<=a.2.1.2
 | [],_=>TY _
 | i::L,a=>TZ (nP h C of L (ik rec C of a i)) (NR h C of a i)
def wK (K:a8):∀ n C of p s,(iK K n C of p s).2<=s.2
 | 0,C,of,_,s=>TZ (nP (λ_ _ _ _=>TY _) C of _ _) (Bb K s C)
 | n+1,C,of,_,s=>TZ (nP (wK K n) C of _ _) (Bb K s C)
def NS (K:a8) (n:Nat):∀ C of p s,(zn K n C of p s).2<=s.2:=by
 cases n with
 | zero=>exact λ_ _ _ _=>TY _
 | succ n=>exact wK K n
def wL (rec:Ck->Nat->Nat->cA->cA) (C:Ck) (of:Nat) (p:Nat) (s:cA):∀ L:a8,L.foldl (ik rec C of) (p,s,true)=(p,s,true)
 | []=>rfl
 | i::L=>by
  have e:ik rec C of (p,s,true) i=(p,s,true):=by unfold ik;rw [TX rfl]
  rw [W0,e];exact wL rec C of p s L
def DZ (C:Ck) (j:Nat):Prop:=∀ r,C.told<=r->r<C.count->C.m r j=0
def DZ.span {C:Ck} (h:DZ C j) {v:Nat->Nat} (b:aV (mQ C C.told) v):v j=0:=
 aV.RZ (λr a=>by obtain ⟨k,k1,k2,rfl⟩:=a;exact h k k1 k2) b
def gD {C C':Ck} (h:iH C i=some C'):∃ r,C'=ig C i r/\C.told<=r/\r<C.count/\C.m r i≠0:=by
 unfold iH at h;rw [Wi] at h;obtain ⟨r,d,rfl⟩:=h;obtain ⟨a,b,c⟩:=ia d;exact ⟨r,rfl,a,b,c⟩
def D0 {C C':Ck} (b:zm C) (h:iH C i=some C') (a:DZ C j\/j=i):DZ C' j:=by
 obtain ⟨r,rfl,c,d,e⟩:=gD h;intro k k1 k2;have:=(DX (t:=C.told) b (TY _) c d e ((ig C i r).m k)).1 (aV.mem (ng b k) ⟨k,k1,k2,rfl⟩);rcases a with a|rfl
 . exact a.span this.1
 . exact this.2
def D3 (h:x^^^y=0):x=y:=by
 have:=UB (·^^^y) h;simp only [V1] at this;rwa [U4,UW,U5] at this
inductive jD (C:Ck):Ck->Prop
 | refl:jD C C
 | step {C1 C2:Ck} {i:Nat}:jD C C1->iH C1 i=some C2->jD C C2
def jD.trans {A B C:Ck} (h:jD A B) (a:jD B C):jD A C:=by
 induction a with
 | refl=>exact h
 | step _ hl ih=>exact .step ih hl
def sN (K:a8) (C:Ck) (s s':cA):Prop:=s'=s\/(jD C s'.1/\s'.2=iJ K s'.1)
theorem Bd (K:a8) (s:cA) (C:Ck):sN K C s (fw K s C):=by
 unfold fw;split
 . exact .inr ⟨.refl,rfl⟩
 . exact .inl rfl
theorem sO {K:a8} {rec:Ck->Nat->Nat->cA->cA} (h:∀ C of p s,sN K C s (rec C of p s)) (C:Ck) (of:Nat):∀ (L:a8) (a:Nat×cA×Bool),sN K C a.2.1 (L.foldl (ik rec C of) a).2.1
 | [],_=>.inl rfl
 | i::L,a=>by
  have d:sN K C a.2.1 (ik rec C of a i).2.1:=by
   unfold ik;split
   . exact .inl rfl
   . split
     . exact .inl rfl
     . split
       . exact .inl rfl
       . rename_i c hl
         rcases h c (bJ of i) a.1 a.2.1 with e|⟨b,f⟩
         . exact .inl e
         . exact .inr ⟨jD.trans (.step .refl hl) b,f⟩
  rcases sO h C of L (ik rec C of a i) with e|b
  . rw [W0,e];exact d
  . exact .inr b
def zo (K:a8):∀ n C of p s,sN K C s (iK K n C of p s):=by
 have comb:∀ {rec:Ck->Nat->Nat->cA->cA} (_:∀ C of p s,sN K C s (rec C of p s)) C of p s,sN K C s ((ab of).foldl (ik rec C of) (p,fw K s C,false)).2.1:=by
  intro rec h C of p s;rcases sO h C of (ab of) (p,fw K s C,false) with e|a
  . rw [e];exact Bd K s C
  . exact .inr a
 intro n;induction n with
 | zero=>exact comb (λ_ _ _ _=>.inl rfl)
 | succ n ih=>exact comb ih
def aP (n:Nat) (C:Ck) (kept:Nat):cA:=iK (ab kept) n C kept 0 (C,(ab kept).length)
def NT (K:a8) (C:Ck):iJ K C<=K.length:=WM _ _
def zq (n:Nat) (C:Ck) (kept:Nat):jD C (aP n C kept).1/\(aP n C kept).2=iJ (ab kept) (aP n C kept).1:=by
 rcases zo (ab kept) n C kept 0 (C,(ab kept).length) with e|h
 . have a:(aP n C kept).2<=iJ (ab kept) C:=by
    unfold aP;rw [pj];exact TZ (nP (NS _ n) C kept _ _) (Hm _ _ C)
   have b:aP n C kept=(C,(ab kept).length):=e;rw [b] at a ⊢;exact ⟨.refl,Nat.le_antisymm a (NT _ _)⟩
 . exact h
theorem jD.good {C C':Ck} (o:Lin X) (s:jD C C') (p:zm C) (l:C.told<=C.count) (h:∀ k,k<C.count->X (C.m k))
 (n:∀ j∈L,DZ C j) :
 zm C'/\C'.told=C.told/\C'.told<=C'.count/\C'.count<=C.count/\(∀ k,k<C'.count->X (C'.m k))/\(∀ k,k<C.told->∀ j∈L,C'.m k j=C.m k j)/\∀ j∈L,DZ C' j:=by
 induction s with
 | refl=>exact ⟨p,rfl,l,TY _,h,λ_ _ _ _=>rfl,n⟩
 | step _ hl ih=>
  obtain ⟨b,t,le,v,g,on,sp⟩:=ih;rename_i c u i _
  obtain ⟨r,a,f,e,w⟩:=gD hl;refine ⟨by rw [a];exact ng b,by rw [a];exact t,by rw [a];show c.told<=c.count-1;omega,by rw [a];show c.count-1<=_;omega,by rw [a];exact Hl o b e g,?_,λj d=>D0 b hl (.inl (sp j d))⟩;intro k q j d;rw [a,DY (by omega) f e];show c.m k j^^^gm _ (c.m r j)=_;rw [sp j d r f e,bI,U5,on k q j d]
def xs (f:Nat->Nat):Nat->Nat
 | 0=>0
 | n+1=>xs f n^^^f n
def eS {g:Nat->Nat}:∀ n,(∀ i,i<n->f i=g i)->xs f n=xs g n
 | 0,_=>rfl
 | n+1,h=>by show xs f n^^^f n=xs g n^^^g n;rw [eS n (λi a=>h i (by omega)),h n (by omega)]
def nh (f g:Nat->Nat):∀ n,xs (λi=>f i^^^g i) n=xs f n^^^xs g n
 | 0=>(UW 0).symm
 | n+1=>by show xs _ n^^^(f n^^^g n)=(xs f n^^^f n)^^^(xs g n^^^g n);rw [nh f g n,DU]
def ef:∀ n,(∀ i,i<n->f i=0)->xs f n=0
 | 0,_=>rfl
 | n+1,h=>by show xs f n^^^f n=0;rw [ef n (λi a=>h i (by omega)),h n (by omega)];rfl
def Km (c:Nat) (f:Nat->Nat):∀ n,xs (λi=>gm c (f i)) n=gm c (xs f n)
 | 0=>(bI c).symm
 | n+1=>by show xs _ n^^^gm c (f n)=gm c (xs f n^^^f n);rw [Km c f n,fC]
def jl:∀ n,k<n->(∀ i,i<n->i≠k->f i=0)->xs f n=f k
 | 0,h,_=>absurd h (by omega)
 | n+1,h,hz=>by
  show xs f n^^^f n=f k;by_cases e:k=n
  . rw [ef n (λi a=>hz i (by omega) (by omega)),e,V1]
  . rw [jl n (by omega) (λi a=>hz i (by omega)),hz n (by omega) (by omega),U5]
def Ko:∀ n,(∀ i,i<n->f i<256)->xs f n<256
 | 0,_=>by show 0<256;decide
 | n+1,h=>rp (Ko n (λi a=>h i (by omega))) (h n (by omega))
def zt (f:Nat->Nat) (a:Nat):∀ b,xs f (a+b)=xs f a^^^xs (λi=>f (a+i)) b
 | 0=>(U5 _).symm
 | b+1=>by show xs f (a+b)^^^f (a+b)=xs f a^^^(xs _ b^^^f (a+b));rw [zt f a b,U4]
def vP (M:Nat->Nat->Nat) (D n:Nat) (v:Nat->Nat):Prop:=bS v/\(∀ i,n<=i->v i=0)/\∀ j,j<D->xs (λi=>gm (v i) (M i j)) n=0
def Be (M:Nat->Nat->Nat) (D n:Nat) (f:∀ i,bS (M i)):Lin (vP M D n):=by
 refine ⟨⟨λ_=>by show 0<256;decide,λ_ _=>rfl,λj _=>ef n (λi _=>bM _)⟩,?_⟩;rintro a r u b ⟨g,h,k⟩ ⟨u1,u2,u3⟩;refine ⟨wI u1 b,λi c=>?_,λj d=>?_⟩
 . show u i^^^gm a (r i)=0;rw [u2 i c,h i c,bI];rfl
 . have e:xs (λi=>gm (cC u a r i) (M i j)) n=xs (λi=>gm (u i) (M i j)^^^gm a (gm (r i) (M i j))) n:=
    eS n (λi _=>by show gm (u i^^^gm a (r i)) (M i j)=_;rw [fm _ (u1 i) (bB _ b),fE b (g i) (f i j)])
   rw [e,nh,Km,u3 j d,k j d,bI];rfl
def jZ (M:Nat->Nat->Nat) (D P:Nat):Ck:=⟨λr j=>if r<P then (if j<D then M (D+r) j else if j=D+r then 1 else 0) else 0,0,P⟩
theorem sP (a:∀ i,bS (M i)):zm (jZ M D P):=λr j=>by
 show (if r<P then _ else _)<256;split
 . split
   . exact a _ _
   . split<;>decide
 . decide
def Bh (a:∀ i,bS (M i)) (d:∀ i,i<D->∀ j,M i j=if j=i then 1 else 0) (k:Nat) (f:k<P):vP M D (D+P) ((jZ M D P).m k):=by
 have e:∀ i,(jZ M D P).m k i=if i<D then M (D+k) i else if i=D+k then 1 else 0:=λi=>by show (if k<P then _ else _)=_;rw [TX f]
 refine ⟨sP a k,λi b=>by rw [e,TW (by omega),TW (by omega)],λj c=>?_⟩;rw [zt];have g:xs (λi=>gm ((jZ M D P).m k i) (M i j)) D=M (D+k) j:=by
  rw [jl (k:=j) D c]
  . rw [e,TX c,d j c,TX rfl,eA _ (a _ _)]
  . intro i b ne;rw [d i b,TW (Vo ne),bI]
 have h:xs (λi=>gm ((jZ M D P).m k (D+i)) (M (D+i) j)) P=M (D+k) j:=by
  rw [jl (k:=k) P f]
  . rw [e,TW (by omega),TX rfl,fD (by decide) (a _ _),eA _ (a _ _)]
  . intro i b ne;rw [e,TW (by omega),TW (by omega),bM]
 rw [g,h,UW]
theorem sQ (f:Nat->Nat->Nat) (a:Nat->Nat) (b:bS a):∀ n,(∀ i,i<n->a i≠0->R (f i))->aV R (λj=>xs (λi=>gm (a i) (f i j)) n)
 | 0,_=>aV.zero R
 | n+1,h=>by
  have ih:=sQ f a b n (λi d=>h i (by omega));by_cases e:a n=0
  . have c:(λj=>xs (λi=>gm (a i) (f i j)) (n+1))=λj=>xs (λi=>gm (a i) (f i j)) n:=by
     funext j;show _^^^gm (a n) (f n j)=_;rw [e,bM,U5]
    rw [c];exact ih
  . exact ih.step (b n) (h n (by omega) e)
theorem Kp (f:∀ i,i<D->∀ j,M i j=if j=i then 1 else 0) {v:Nat->Nat} (n:vP M D (D+P) v):aV (mQ (jZ M D P) 0) v:=by
 obtain ⟨d,o,p⟩:=n;have h:=sQ (R:=mQ (jZ M D P) 0) (jZ M D P).m (λi=>v (D+i)) (λi=>d _) P (λi a _=>⟨i,T7 _,a,rfl⟩);have e:(λj=>xs (λi=>gm (v (D+i)) ((jZ M D P).m i j)) P)=v:=by
  funext j;by_cases b:j<D
  . have g:xs (λi=>gm (v (D+i)) ((jZ M D P).m i j)) P=xs (λi=>gm (v (D+i)) (M (D+i) j)) P:=eS P (λi a=>by
     show gm _ (if i<P then _ else _)=_;rw [TX a,TX b])
    rw [g];have c:=p j b;rw [zt] at c;have l:xs (λi=>gm (v i) (M i j)) D=v j:=by
     rw [jl (k:=j) D b]
     . rw [f j b,TX rfl,eA _ (d j)]
     . intro i a ne;rw [f i a,TW (Vo ne),bI]
    rw [l] at c;exact (D3 c).symm
  . by_cases q:j<D+P
    . rw [jl (k:=j-D) P (by omega)]
      . show gm _ (if j-D<P then _ else _)=_;rw [TX (by omega),TW b,TX (by omega),show D+(j-D)=j by omega,eA _ (d j)]
      . intro i a ne;show gm _ (if i<P then _ else _)=_;rw [TX a,TW b,TW (by omega),bI]
    . rw [o j (by omega)];exact ef P (λi a=>by
       show gm _ (if i<P then _ else _)=_;rw [TX a,TW b,TW (by omega),bI])
 rwa [e] at h
def Kq (M:Nat->Nat->Nat) (n:Nat) (Q:Nat->Prop):(Nat->Nat)->Prop:=λv=>∃ i,i<n/\Q i/\v=M i
theorem D4 {x:Nat->Nat} (o:aV (Kq M n Q) x) :
 ∃ a,bS a/\(∀ i,¬ (i<n/\Q i)->a i=0)/\∀ j,x j=xs (λi=>gm (a i) (M i j)) n:=by
 refine o (λx=>∃ a,bS a/\(∀ i,¬ (i<n/\Q i)->a i=0)/\∀ j,x j=xs (λi=>gm (a i) (M i j)) n)
  ⟨λ_=>0,λ_=>by show 0<256;decide,λ_ _=>rfl,λj=>(ef n (λi _=>bM _)).symm⟩ ?_
 rintro b r u m ⟨k,k1,k2,rfl⟩ ⟨a,c,g,h⟩;have d:bS (λi=>if i=k then b else 0):=λi=>by show (if i=k then b else 0)<256;split;exact m;decide
 refine ⟨λi=>a i^^^(if i=k then b else 0),λi=>rp (c i) (d i),λi f=>?_,λj=>?_⟩
 . have:i≠k:=λe=>f (by rw [e];exact ⟨k1,k2⟩);show a i^^^(if i=k then b else 0)=0;rw [g i f,TW this];rfl
 . have e:xs (λi=>gm (a i^^^(if i=k then b else 0)) (M i j)) n=xs (λi=>gm (a i) (M i j)^^^gm (if i=k then b else 0) (M i j)) n:=
    eS n (λi _=>fm _ (c i) (d i))
   rw [e,nh,<- h j];have l:xs (λi=>gm (if i=k then b else 0) (M i j)) n=gm b (M k j):=by
    rw [jl (k:=k) n k1]
    . rw [TX rfl]
    . intro i _ ne;rw [TW ne,bM]
   rw [l];rfl
def zu (f:∀ i,bS (M i)) (p:k<n) (o:¬ Q k) (h:aV (Kq M n Q) (M k)) :
 ∃ u,vP M D n u/\u k=1/\∀ i,i≠k->¬ Q i->u i=0:=by
 obtain ⟨a,c,b,l⟩:=D4 h;have m:a k=0:=b k (λh=>o h.2);have d:bS (gC k):=jX k;refine ⟨λi=>a i^^^gC k i,⟨λi=>rp (c i) (d i),λi g=>?_,λj _=>?_⟩,?_,λi g q=>?_⟩
 . show a i^^^(if i=k then 1 else 0)=0;rw [b i (by omega),TW (by omega)];rfl
 . have e:xs (λi=>gm (a i^^^gC k i) (M i j)) n=xs (λi=>gm (a i) (M i j)^^^gm (gC k i) (M i j)) n:=eS n (λi _=>fm _ (c i) (d i));rw [e,nh,<- l j,jl (k:=k) n p]
   . show M k j^^^gm (if k=k then 1 else 0) (M k j)=0;rw [TX rfl,fD (by decide) (f k j),eA _ (f k j),UW]
   . intro i _ ne;show gm (if i=k then 1 else 0) (M i j)=0;rw [TW ne,bM]
 . show a k^^^(if k=k then 1 else 0)=1;rw [m,TX rfl];rfl
 . show a i^^^(if i=k then 1 else 0)=0;rw [b i (λh=>q h.2),TW g];rfl
theorem nQ (c:∀ i,bS (M i)) (g:∀ i j,D<=j->M i j=0) (r:k<n) {u:Nat->Nat} (s:vP M D n u) (o:u k=1) (m:∀ i,i<n->i≠k->u i≠0->Q i) :
 aV (Kq M n Q) (M k):=by
 obtain ⟨u1,u2,u3⟩:=s;have p:bS (λi=>if i=k then 0 else u i):=λi=>by show (if i=k then 0 else u i)<256;split;decide;exact u1 i
 have h:=sQ (R:=Kq M n Q) M (λi=>if i=k then 0 else u i) p n (λi d a=>by
  by_cases e:i=k
  . simp [e] at a
  . exact ⟨i,d,m i d e (by simpa [e] using a),rfl⟩)
 have e:(λj=>xs (λi=>gm (if i=k then 0 else u i) (M i j)) n)=M k:=by
  funext j;by_cases q:j<D
  . have l:xs (λi=>gm (u i) (M i j)) n=xs (λi=>gm (if i=k then 0 else u i) (M i j)^^^gm (gC k i) (M i j)) n:=eS n (λi _=>by
     by_cases e:i=k
     . rw [TX e,bM,V1,e,o];show _=gm (if k=k then 1 else 0) _;rw [TX rfl]
     . rw [TW e];show _=_^^^gm (if i=k then 1 else 0) _;rw [TW e,bM,U5])
    have b:=u3 j q;rw [l,nh,jl (f:=λi=>gm (gC k i) (M i j)) (k:=k) n r] at b
    . have:=D3 b;rw [this];show gm (if k=k then 1 else 0) (M k j)=_;rw [TX rfl,fD (by decide) (c k j),eA _ (c k j)]
    . intro i _ ne;show gm (if i=k then 1 else 0) (M i j)=0;rw [TW ne,bM]
  . rw [g k j (by omega)];exact ef n (λi _=>by rw [g i j (by omega),bI])
 rwa [e] at h
structure Code (M:Nat->Nat->Nat) (D P:Nat):Prop where
 byt:∀ i,bS (M i)
 unit:∀ i,i<D->∀ j,M i j=if j=i then 1 else 0
 RZ:∀ i j,D<=j->M i j=0
def Code.told (h:Code M D P) (L:a8) :
 (∃ C,tells (jZ M D P) L=some C/\fq (jZ M D P) (vP M D (D+P)) L C)\/(tells (jZ M D P) L=none/\∃ pre i,(pre++[i])<+:L/\∀ v,aV (mQ (jZ M D P) 0) v->(∀ j∈pre,v j=0)->v i=0):=by
 have:=fq.of (Be M D (D+P) h.byt) (C0:=jZ M D P) rfl (sP h.byt) (λk a=>Bh h.byt h.unit k a) L [] (jZ M D P) (fq.nil rfl (sP h.byt) (λk a=>Bh h.byt h.unit k a)) rfl;simpa using this
theorem Code.full (h:Code M D P) {L:a8} {C:Ck} (a:fq (jZ M D P) (vP M D (D+P)) L C):mP (Kq M (D+P) (λi=>i∉L)) 0 D:=by
 have n:∀ r,Kq M (D+P) (λi=>i∉L) r->bS r:=by rintro r ⟨i,_,_,rfl⟩;exact h.byt i
 have m:∀ i,i<D+P->aV (Kq M (D+P) (λi=>i∉L)) (M i):=by
  intro i f;by_cases g:i∈L
  . obtain ⟨k,d,rfl⟩:=UZ g;have q:k<C.count:=(by have:=a.told;have:=a.le;omega);refine nQ h.byt h.RZ f (a.all k q) ?_ ?_
    . rw [a.one k d k d,TX rfl]
    . intro j _ c b o;obtain ⟨l,p,rfl⟩:=UZ o;rw [a.one k d l p] at b;by_cases e:k=l
      . subst e;exact c rfl
      . rw [TW e] at b;exact b rfl
  . exact aV.mem (h.byt i) ⟨i,f,g,rfl⟩
 refine mP.units n (λj c=>?_);have e:M j=gC j:=by funext x;rw [h.unit j c];rfl
 rw [<- e];exact m j (by omega)
def Code.Tp (h:Code M D P) {L:a8} (c:L.Nodup) (g:∀ i∈L,i<D+P) (k:∃ pre i,(pre++[i])<+:L/\∀ v,aV (mQ (jZ M D P) 0) v->(∀ j∈pre,v j=0)->v i=0) :
 ¬ mP (Kq M (D+P) (λi=>i∉L)) 0 D:=by
 obtain ⟨pre,i,⟨R,rfl⟩,m⟩:=k;intro f;have d:i∈pre++[i]++R:=by simp
 obtain ⟨u,l,u1,u0⟩:=zu (D:=D) h.byt (g i d) (λb=>b d) (f (M i) (h.byt i) (λj a=>h.RZ i j (by omega)));have:=m u (Kp h.unit l) (λj a=>u0 j (λe=>by
  subst e;rw [UC] at c;have:=(Vb.1 c).2.2 j a j (by simp);exact this rfl) (λb=>b (by simp [a])))
 rw [u1] at this;exact absurd this (by decide)
structure Hn (M:Nat->Nat->Nat) (D P:Nat) (L:a8) (B:Ck):Prop where
 told:B.told=L.length
 le:B.told<=B.count
 Sl:B.count<=P
 byt:zm B
 dual:∀ k,k<B.told->vP M D (D+P) (B.m k)
 one:∀ k,k<L.length->∀ k' (h:k'<L.length),B.m k L[k']=if k=k' then 1 else 0
def Code.SY (h:Code M D P) {L:a8} {C B:Ck} (a:fq (jZ M D P) (vP M D (D+P)) L C) (n:jD C B):Hn M D P L B:=by
 have i:∀ j∈L,DZ C j:=λj l r d c=>((a.spare (C.m r)).1 (aV.mem (a.byt r) ⟨r,d,c,rfl⟩)).2 j l;obtain ⟨b,t,le,p,g,on,_⟩:=n.good (Be M D (D+P) h.byt) a.byt a.le a.all i;have:=a.told;have c:=a.count;refine ⟨by omega,le,by have:C.count=P:=c;omega,b,λk f=>g k (by omega),λk f o e=>?_⟩;rw [on k (by omega) _ (T8 e),a.one k f o e]
def Hn.tells {B:Ck} (d:Code M D P) (h:Hn M D P L B) (o:∀ i∈L,i<D+P):∀ i∈L,aV (Kq M (D+P) (λj=>j∉L/\cI B j=true)) (M i):=by
 intro i f;obtain ⟨k,b,rfl⟩:=UZ f;have c:k<B.told:=by have:=h.told;omega
 refine nQ d.byt d.RZ (o _ f) (h.dual k c) (by rw [h.one k b k b,TX rfl]) ?_;intro j _ n a;refine ⟨λl=>?_,qG c a⟩;obtain ⟨g,m,rfl⟩:=UZ l;rw [h.one k b g m] at a;by_cases e:k=g
 . subst e;exact n rfl
 . rw [TW e] at a;exact a rfl
theorem Hn.sum {B:Ck} (s:Code M D P) (h:Hn M D P L B) (x:∀ i∈L,i<D+P) (d:Nat->Nat) (u:bS d) (k:Nat) (b:k<L.length) :
 xs (λi=>if i∈L then 0 else gm (B.m k i) (xs (λj=>gm (M i j) (d j)) D)) (D+P)=xs (λj=>gm (M L[k] j) (d j)) D:=by
 have t:k<B.told:=by have:=h.told;omega
 obtain ⟨o,z,y⟩:=h.dual k t;have v:=x _ (T8 b);have r:∀ i,xs (λj=>gm (M i j) (d j)) D<256:=λi=>Ko D (λj _=>bB _ (s.byt i j));have swap:∀ n,xs (λi=>gm (B.m k i) (xs (λj=>gm (M i j) (d j)) D)) n=xs (λj=>gm (xs (λi=>gm (B.m k i) (M i j)) n) (d j)) D:=by
  intro n;induction n with
  | zero=>exact (ef D (λj _=>bM _)).symm
  | succ n ih=>
   show xs _ n^^^gm (B.m k n) (xs (λj=>gm (M n j) (d j)) D)=_;rw [ih,<- Km,<- nh];apply eS;intro j _;show _=gm (xs _ n^^^gm (B.m k n) (M n j)) (d j);rw [fm _ (Ko n (λi _=>bB _ (o i))) (bB _ (o n)),fE (o n) (s.byt n j) (u j)]
 have l:xs (λi=>gm (B.m k i) (xs (λj=>gm (M i j) (d j)) D)) (D+P)=0:=by
  rw [swap];exact ef D (λj w=>by rw [y j w,bM])
 have e:xs (λi=>gm (B.m k i) (xs (λj=>gm (M i j) (d j)) D)) (D+P)=xs (λi=>(if i∈L then 0 else gm (B.m k i) (xs (λj=>gm (M i j) (d j)) D))^^^(if i=L[k] then xs (λj=>gm (M L[k] j) (d j)) D else 0)) (D+P):=by
  apply eS;intro i _;by_cases c:i∈L
  . obtain ⟨g,q,rfl⟩:=UZ c;rw [TX c,V1,h.one k b g q];by_cases e:L[g]=L[k]
    . rw [TX e,e];by_cases a:k=g
      . rw [TX a,fD (by decide) (r _),eA _ (r _)]
      . have c1:=h.one k b k b;have p:=h.one k b g q;rw [e,c1,TX rfl,TW a] at p;exact absurd p (by decide)
    . rw [TW e,TW (λa=>e (by subst a;rfl)),bM]
  . rw [TW c,TW (show ¬ i=L[k] from λa=>c (by rw [a];exact T8 b)),U5]
 rw [e,nh,jl (f:=λi=>if i=L[k] then xs (λj=>gm (M L[k] j) (d j)) D else 0) (k:=L[k]) _ v] at l
 . rw [TX rfl] at l;exact D3 l
 . intro i _ ne;rw [TW ne]
