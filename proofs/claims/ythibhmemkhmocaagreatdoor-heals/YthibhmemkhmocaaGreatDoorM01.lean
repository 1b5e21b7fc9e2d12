set_option maxRecDepth 100000
set_option linter.all false
set_option maxHeartbeats 8000000
open List renaming range -> YE, find?_eq_none -> YI
open Nat renaming shiftLeft_xor_distrib -> YF, shiftLeft_eq -> YG, xor_mod_two_pow -> YH
namespace Go.Proofs.YthibhmemkhmocaaGreatDoor
variable {p q:Prop}
abbrev a8:=List Nat
end Go.Proofs.YthibhmemkhmocaaGreatDoor
namespace Go.Proofs.YthibhmemkhmocaaGreatDoor
def V4:=@Nat.xor_lt_two_pow
def Wx:=@Nat.mul_comm
def VG:=@Nat.mod_two_eq_zero_or_one
def U2:=@Nat.xor_assoc
def WZ:=@Nat.xor_comm
def aaQ:=@Nat.xor_div_two_pow
def UR:=@Nat.xor_self
def U3:=@Nat.xor_zero
def T7:=@Nat.lt_of_lt_of_le
def Vx:=@Nat.pow_lt_pow_right
def abh:=@Nat.mul_lt_mul_of_pos_right
def VH:=@Nat.two_pow_pos
def UW:=@Nat.pow_le_pow_right
def VO:=@Nat.zero_xor
def Xn:=@Nat.eq_of_testBit_eq
def aaR:=@Nat.testBit_xor
def TU:=@Nat.le_refl
def T6:=@List.getElem_mem
def Vj:=@List.getElem?_eq_none
def Wy:=@Nat.not_lt
def TT:=@if_pos
def TS:=@if_neg
def T8:=@Nat.zero_le
def Uu:=@List.mem_range
def Wp:=@List.foldl_append
def Wq:=@Option.map_eq_some_iff
def XO:=@List.getElem_append_right
def XP:=@List.getElem_append_left
def W0:=@Nat.sub_self
def Ui:=@List.mem_append
def U5:=@List.mem_singleton
def UF:=@List.mem_append_left
def XQ:=@List.prefix_append
def Vy:=@List.mem_filter
def Wr:=@List.filter_append
def aaS:=@List.pairwise_append
def TV:=@Nat.le_trans
def W4:=@List.foldl_cons
def Uy:=@congrArg
def WO:=@List.length_filter_le
def Vk:=@Ne.symm
def US:=@List.getElem_of_mem
def Uz:=@List.append_assoc
def U8:=@List.nodup_append
end Go.Proofs.YthibhmemkhmocaaGreatDoor
namespace Go.Proofs.YthibhmemkhmocaaGreatDoor.Gf
variable {R R' X:(Nat->Nat)->Prop} {T T':List a8} {L:a8} {x y a i b c r n k D cnt s j P:Nat} {u f:Nat->Nat} {m M:Nat->Nat->Nat} {Q:Nat->Prop}
def tx (a:Nat):Nat:=if a<128 then 2*a else (2*a-256)^^^29
def yQ:Nat->Nat->Nat->Nat->Nat
 | 0,_,_,p=>p
 | n+1,a,b,p=>yQ n (tx a) (b/2) (if b%2=1 then p^^^a else p)
def gm (a b:Nat):Nat:=yQ 8 a b 0
def OC:Nat->Nat->Nat->Nat
 | 0,_,v=>v
 | n+1,p,v=>OC n (gm p p) (gm v (gm p p))
def gi (a:Nat):Nat:=OC 7 a 1
def rq (a:x<256) (b:y<256):x^^^y<256:=V4 (n:=8) a b
theorem AE (h:a<256):tx a<256:=by
 unfold tx;split
 . omega
 . exact rq (by omega) (by decide)
theorem O1 (n:Nat):∀ a b p,a<256->p<256->yQ n a b p<256:=by
 induction n with
 | zero=>intro a b p _ c;exact c
 | succ n ih=>
  intro a b p d c;unfold yQ;refine ih _ _ _ (AE d) ?_;split
  . exact rq c d
  . exact c
def bt (b:Nat) (c:a<256):gm a b<256:=O1 8 a b 0 c (by decide)
def O2 (n:Nat):∀ p v,p<256->v<256->OC n p v<256:=by
 induction n with
 | zero=>intro p v _ a;exact a
 | succ n ih=>intro p v b a;unfold OC;exact ih _ _ (bt _ b) (bt _ a)
def iu (h:a<256):gi a<256:=O2 7 a 1 h (by decide)
def AF (x y:Nat):2*(x^^^y)=(2*x)^^^(2*y):=by
 have:=YF (a:=x) (b:=y) (i:=1);simp only [YG,Nat.pow_one] at this;rw [Wx,this,Wx x,Wx y]
def Jc (x y:Nat):(x^^^y)/2=(x/2)^^^(y/2):=Nat.xor_div_two
def sq (x y:Nat):(x^^^y)%2=(x%2+y%2)%2:=by
 have h:=YH (a:=x) (b:=y) (n:=1);simp only [Nat.pow_one] at h;rw [h];have c:=VG x;have d:=VG y;rcases c with c|c<;>rcases d with d|d<;>rw [c,d]<;>rfl
def Dj (a b c d:Nat):(a^^^b)^^^(c^^^d)=(a^^^c)^^^(b^^^d):=by
 rw [U2,U2,<- U2 b c d,WZ b c,U2 c b d]
def Jd:∀ a,a<256->tx a=(2*a)%256^^^(if a/128%2=1 then 29 else 0):=by decide +kernel
def O3 (x y:Nat):(x^^^y)/128%2=(x/128%2+y/128%2)%2:=by
 have:(x^^^y)/128=(x/128)^^^(y/128):=aaQ (n:=7);rw [this];exact sq _ _
theorem O4 (c:x<256) (d:y<256):tx (x^^^y)=tx x^^^tx y:=by
 rw [Jd _ (rq c d),Jd _ c,Jd _ d,Dj,AF];have h:=YH (a:=2*x) (b:=2*y) (n:=8);have e:(2:Nat)^8=256:=rfl;rw [e] at h;rw [h,O3];congr 1;have c:=VG (x/128);have d:=VG (y/128);rcases c with c|c<;>rcases d with d|d<;>rw [c,d]<;>rfl
theorem Gn (n:Nat):∀ a b c p q,yQ n a (b^^^c) (p^^^q)=yQ n a b p^^^yQ n a c q:=by
 induction n with
 | zero=>intro a b c p q;rfl
 | succ n ih=>
  intro a b c p q;simp only [yQ];rw [Jc,<- ih,sq];congr 1;have d:=VG b;have e:=VG c;rcases d with d|d<;>rcases e with e|e<;>rw [d,e]<;>simp
  . rw [U2]
  . rw [U2,WZ q a,<- U2]
  . rw [Dj,UR,U3]
theorem Gp (n:Nat):∀ a d b p q,a<256->d<256->yQ n (a^^^d) b (p^^^q)=yQ n a b p^^^yQ n d b q:=by
 induction n with
 | zero=>intro a d b p q _ _;rfl
 | succ n ih=>
  intro a d b p q c e;simp only [yQ];rw [O4 c e,<- ih _ _ _ _ _ (AE c) (AE e)];congr 1;by_cases h:b%2=1
  . simp only [h,if_true];exact Dj _ _ _ _
  . simp only [h,if_false]
def fy (a b c:Nat):gm a (b^^^c)=gm a b^^^gm a c:=Gn 8 a b c 0 0
def eZ {d:Nat} (b:Nat) (c:a<256) (e:d<256):gm (a^^^d) b=gm a b^^^gm d b:=Gp 8 a d b 0 0 c e
def QU:∀ x,x<256->x=(if x%2=1 then 1 else 0)^^^((if x/2%2=1 then 2 else 0)^^^((if x/4%2=1 then 4 else 0)^^^((if x/8%2=1 then 8 else 0)^^^((if x/16%2=1 then 16 else 0)^^^((if x/32%2=1 then 32 else 0)^^^((if x/64%2=1 then 64 else 0)^^^(if x/128%2=1 then 128 else 0))))))):=by
 decide +kernel
theorem dO (f g:Nat->Nat) (d:∀ x y,x<256->y<256->f (x^^^y)=f x^^^f y) (j:∀ x y,x<256->y<256->g (x^^^y)=g x^^^g y)
 (h:∀ i,i<8->f (2^i)=g (2^i)) (x:Nat) (A:x<256):f x=g x:=by
 have w:f 0=0:=by have:=d 0 0 (by decide) (by decide);rw [UR,UR] at this;exact this
 have z:g 0=0:=by have:=j 0 0 (by decide) (by decide);rw [UR,UR] at this;exact this
 have one:∀ (c:Prop) [Decidable c] (i:Nat),i<8->f (if c then 2^i else 0)=g (if c then 2^i else 0):=by
  intro c _ i a;split
  . exact h i a
  . rw [w,z]
 have lt:∀ (c:Prop) [Decidable c] (i:Nat),i<8->(if c then 2^i else 0)<256:=by
  intro c _ i a;split
  . exact T7 (Vx (by decide) a) (by decide)
  . decide
 have st:∀ (c:Prop) [Decidable c] (i y:Nat),i<8->y<256->f y=g y->f ((if c then 2^i else 0)^^^y)=g ((if c then 2^i else 0)^^^y):=by
  intro c _ i y a k e;rw [d _ _ (lt c i a) k,j _ _ (lt c i a) k,one c i a,e]
 have n:=lt (x/128%2=1) 7 (by decide);have l6:=rq (lt (x/64%2=1) 6 (by decide)) n;have l5:=rq (lt (x/32%2=1) 5 (by decide)) l6;have l4:=rq (lt (x/16%2=1) 4 (by decide)) l5;have m:=rq (lt (x/8%2=1) 3 (by decide)) l4;have l:=rq (lt (x/4%2=1) 2 (by decide)) m;have l1:=rq (lt (x/2%2=1) 1 (by decide)) l;have v:=one (x/128%2=1) 7 (by decide);have u:=st (x/64%2=1) 6 _ (by decide) n v;have t:=st (x/32%2=1) 5 _ (by decide) l6 u;have r:=st (x/16%2=1) 4 _ (by decide) l5 t;have q:=st (x/8%2=1) 3 _ (by decide) l4 r;have p:=st (x/4%2=1) 2 _ (by decide) m q;have o:=st (x/2%2=1) 1 _ (by decide) l p;have b:=st (x%2=1) 0 _ (by decide) l1 o;have s:=QU x A;simp only [Nat.reducePow] at b;rw [<- s] at b;exact b
def Dk:∀ i,i<8->∀ j,j<8->gm (2^i) (2^j)=gm (2^j) (2^i):=by decide +kernel
def AG:∀ i,i<8->∀ j,j<8->∀ k,k<8->gm (gm (2^i) (2^j)) (2^k)=gm (2^i) (gm (2^j) (2^k)):=by decide +kernel
def Je (a:i<8):2^i<256:=T7 (Vx (by decide) a) (by decide)
def fA (e:a<256) (f:b<256):gm a b=gm b a:=by
 refine dO (λx=>gm a x) (λx=>gm x a) (λx y _ _=>fy a x y) (λx y c d=>eZ a c d) (λi g=>?_) b f;refine dO (λx=>gm x (2^i)) (λx=>gm (2^i) x) (λx y c d=>eZ _ c d) (λx y _ _=>fy _ x y) (λj h=>?_) a e;exact Dk j h i g
def fC (g:a<256) (h:b<256) (l:c<256):gm (gm a b) c=gm a (gm b c):=by
 refine dO (λx=>gm (gm x b) c) (λx=>gm x (gm b c)) (λx y d e=>?_) (λx y d e=>eZ _ d e) (λi f=>?_) a g
 . show gm (gm (x^^^y) b) c=_;rw [eZ _ d e,eZ _ (bt _ d) (bt _ e)]
 refine dO (λx=>gm (gm (2^i) x) c) (λx=>gm (2^i) (gm x c)) (λx y d e=>?_) (λx y d e=>?_) (λj m=>?_) b h
 . show gm (gm (2^i) (x^^^y)) c=_;rw [fy,eZ _ (bt _ (Je f)) (bt _ (Je f))]
 . show gm (2^i) (gm (x^^^y) c)=_;rw [eZ _ d e,fy]
 refine dO (λx=>gm (gm (2^i) (2^j)) x) (λx=>gm (2^i) (gm (2^j) x)) (λx y _ _=>fy _ x y) (λx y _ _=>?_) (λk n=>?_) c l
 . show gm (2^i) (gm (2^j) (x^^^y))=_;rw [fy,fy]
 exact AG i f j m k n
def ew:∀ a,a<256->gm a 1=a:=by decide +kernel
def sr:∀ a,a<256->a≠0->gm a (gi a)=1:=by decide +kernel
def MO:gi 0=0:=by decide +kernel
def bD (a:Nat):gm a 0=0:=by have:=fy a 0 0;rw [UR,UR] at this;exact this
def bI (b:Nat):gm 0 b=0:=by have:=eZ (a:=0) (d:=0) b (by decide) (by decide);rw [UR,UR] at this;exact this
def Gq (c:a<256) (d:b<256) (h:gm a b=1):b=gi a:=by
 have i:a≠0:=by intro e;rw [e,bI] at h;exact absurd h (by decide)
 have f:=iu c;have g:=fC f c d;rw [h,ew _ f,fA f c,sr a c i,fA (by decide) d,ew b d] at g;exact g
def pm (a b:Nat):Nat->Nat
 | 0=>0
 | n+1=>if b/2^n%2=1 then pm a b n^^^(a*2^n) else pm a b n
def rd:Nat->Nat->Nat
 | 0,p=>p
 | k+1,p=>rd k (if p/2^(k+8)%2=1 then p^^^(285*2^k) else p)
def Fj (x y n:Nat):(x^^^y)/2^n%2=(x/2^n%2+y/2^n%2)%2:=by
 rw [aaQ];exact sq _ _
def AH (x y n:Nat):(x^^^y)*2^n=(x*2^n)^^^(y*2^n):=by
 have:=YF (a:=x) (b:=y) (i:=n);simpa only [YG] using this
def Jf (a b c n:Nat):pm a (b^^^c) n=pm a b n^^^pm a c n:=by
 induction n with
 | zero=>simp [pm]
 | succ n ih=>
  simp only [pm];rw [Fj,ih];have d:=VG (b/2^n);have e:=VG (c/2^n);rcases d with d|d<;>rcases e with e|e<;>rw [d,e]<;>simp
  . rw [U2]
  . rw [U2,WZ (pm a c n),<- U2]
  . rw [Dj,UR,U3]
def Jg (a d b n:Nat):pm (a^^^d) b n=pm a b n^^^pm d b n:=by
 induction n with
 | zero=>simp [pm]
 | succ n ih=>
  simp only [pm];rw [ih];by_cases h:b/2^n%2=1
  . simp only [h,if_true];rw [AH];exact Dj _ _ _ _
  . simp only [h,if_false]
theorem Jh (k:Nat):∀ p q,rd k (p^^^q)=rd k p^^^rd k q:=by
 induction k with
 | zero=>intro p q;rfl
 | succ k ih=>
  intro p q;simp only [rd];rw [<- ih,Fj];congr 1;have a:=VG (p/2^(k+8));have b:=VG (q/2^(k+8));rcases a with a|a<;>rcases b with b|b<;>rw [a,b]<;>simp
  . rw [U2]
  . rw [U2,WZ q,<- U2]
  . rw [Dj,UR,U3]
def Gr:∀ i,i<8->∀ j,j<8->rd 7 (pm (2^i) (2^j) 8)=gm (2^i) (2^j):=by decide +kernel
def O5 (c:a<256) (d:b<256):rd 7 (pm a b 8)=gm a b:=by
 refine dO (λx=>rd 7 (pm a x 8)) (λx=>gm a x) (λx y _ _=>?_) (λx y _ _=>fy a x y) (λi e=>?_) b d
 . show rd 7 (pm a (x^^^y) 8)=_;rw [Jf,Jh]
 refine dO (λx=>rd 7 (pm x (2^i) 8)) (λx=>gm x (2^i)) (λx y _ _=>?_) (λx y g h=>eZ _ g h) (λj f=>?_) a c
 . show rd 7 (pm (x^^^y) (2^i) 8)=_;rw [Jg,Jh]
 exact Gr j f i e
theorem OD (a b:Nat) (c:a<256):∀ n,n<=8->pm a b n<65536:=by
 intro n;induction n with
 | zero=>intro _;exact (by decide:(0:Nat)<65536)
 | succ n ih=>
  intro e;have h:=ih (by omega);unfold pm;split
  . refine V4 (n:=16) h ?_;have:a*2^n<256*2^n:=abh c (VH n);have:2^n<=2^7:=UW (by decide) (by omega);omega
  . exact h
def bO (v:Nat->Nat):Prop:=∀ j,v j<256
def cA (u:Nat->Nat) (a:Nat) (r:Nat->Nat):Nat->Nat:=λj=>u j^^^gm a (r j)
def aV (R:(Nat->Nat)->Prop) (v:Nat->Nat):Prop:=∀ S:(Nat->Nat)->Prop,S (λ_=>0)->(∀ a r u,a<256->R r->S u->S (cA u a r))->S v
def aV.zero (R:(Nat->Nat)->Prop):aV R (λ_=>0):=λ_ a _=>a
def aV.step {r:Nat->Nat} (f:aV R u) (d:a<256) (e:R r):aV R (cA u a r):=λS c b=>b a r u d e (f S c b)
theorem oT (u:Nat->Nat) (r:Nat->Nat):cA u 0 r=u:=by funext j;simp [cA,bI]
theorem aV.mem {r:Nat->Nat} (b:bO r) (c:R r):aV R r:=by
 have:=aV.step (aV.zero R) (a:=1) (by decide) c;have e:cA (λ_=>0) 1 r=r:=by
  funext j;show 0^^^gm 1 (r j)=r j;rw [fA (by decide) (b j),ew _ (b j),VO]
 rw [e] at this;exact this
theorem aV.add (f:∀ r,R r->bO r) {u v:Nat->Nat} (h:aV R u) {b:Nat} (c:b<256) (i:aV R v):aV R (cA u b v):=by
 refine i (λx=>aV R (cA u b x)) ?_ ?_
 . have e:cA u b (λ_=>0)=u:=(by funext j;simp [cA,bD]);show aV R (cA u b (λ_=>0));rw [e];exact h
 . intro a r x g d k;have e:cA u b (cA x a r)=cA (cA u b x) (gm b a) r:=by
    funext j;show u j^^^gm b (x j^^^gm a (r j))=(u j^^^gm b (x j))^^^gm (gm b a) (r j);rw [fy,fC c g (f r d j),U2]
   show aV R (cA u b (cA x a r));rw [e];exact k.step (bt _ c) d
def aV.sub (a:∀ r,R r->bO r) (h:∀ r,R' r->aV R r) {v:Nat->Nat} (e:aV R' v):aV R v:=
 e (aV R) (aV.zero R) (λ_ r _ b c d=>aV.add a d b (h r c))
def aV.RR (h:∀ r,R r->r c=0) {v:Nat->Nat} (b:aV R v):v c=0:=
 b (λx=>x c=0) rfl (λa r u _ hr (hu:u c=0)=>by show u c^^^gm a (r c)=0;rw [hu,h r hr,bD];exact UR 0)
theorem aV.Sm {R1:(Nat->Nat)->Prop} {p:Nat->Nat} (m:∀ r,R r->bO r) (B:R p) (I:p c≠0)
 (o:∀ r,R1 r->∃ q f,R q/\f<256/\r=cA q f p/\r c=0)
 (F:∀ q,R q->q=p\/∃ f r,f<256/\R1 r/\q=cA r f p) (v:Nat->Nat):aV R1 v↔aV R v/\v c=0:=by
 have L:∀ r,R1 r->bO r:=by
  intro r d;obtain ⟨q,f,l,n,rfl,_⟩:=o r d;exact λj=>rq (m q l j) (bt _ n)
 constructor
 . intro w;refine ⟨aV.sub m (λr d=>?_) w,aV.RR (λr d=>?_) w⟩
   . obtain ⟨q,f,l,n,rfl,_⟩:=o r d;exact (aV.mem (m q l) l).step n B
   . obtain ⟨q,f,_,_,_,h⟩:=o r d;exact h
 . rintro ⟨w,J⟩;have key:∃ b,b<256/\aV R1 (cA v b p):=by
    refine w (λx=>∃ b,b<256/\aV R1 (cA x b p)) ⟨0,by decide,by rw [oT];exact aV.zero R1⟩ ?_;rintro a q u k l ⟨b,g,D⟩;rcases F q l with rfl|⟨f,r,n,d,rfl⟩
    . refine ⟨b^^^a,rq g k,?_⟩;have e:cA (cA u a q) (b^^^a) q=cA u b q:=by
       funext j;show (u j^^^gm a (q j))^^^gm (b^^^a) (q j)=u j^^^gm b (q j);rw [eZ _ g k,U2,WZ (gm b (q j)),<- U2 (gm a (q j)),UR,VO]
      rw [e];exact D
    . refine ⟨b^^^gm a f,rq g (bt _ k),?_⟩;have e:cA (cA u a (cA r f p)) (b^^^gm a f) p=cA (cA u b p) a r:=by
       funext j;show (u j^^^gm a (r j^^^gm f (p j)))^^^gm (b^^^gm a f) (p j)=(u j^^^gm b (p j))^^^gm a (r j);rw [fy,eZ _ g (bt _ k),fC k n (m p B j)];generalize gm a (gm f (p j))=t;generalize gm b (p j)=s;generalize gm a (r j)=y;generalize u j=z;apply Xn;intro i;simp only [aaR];cases z.testBit i<;>cases y.testBit i<;>cases t.testBit i<;>cases s.testBit i<;>rfl
      rw [e];exact D.step k d
   obtain ⟨b,g,C⟩:=key;have E:=aV.RR (λr d=>by obtain ⟨q,f,_,_,_,h⟩:=o r d;exact h) C;have G:gm b (p c)=0:=by
    have:v c^^^gm b (p c)=0:=E;rwa [J,VO] at this
   have H:b=0:=by
    have A:=m p B c;have K:=iu A;have e:=fC g A K;rw [G,bI,sr _ A I,ew b g] at e;exact e.symm
   rw [H,oT] at C;exact C
def cQ:Nat->((Nat->Nat)->Prop)->Nat->Nat->Prop
 | 0,_,_,k=>k=0
 | n+1,R,c,k=>((∀ r,R r->r c=0)/\cQ n R (c+1) k)\/(∃ p,R p/\p c≠0)/\∃ R1,(∀ r,R1 r->bO r)/\(∀ v,aV R1 v↔aV R v/\v c=0)/\∃ k',k=k'+1/\cQ n R1 (c+1) k'
def cQ.none:∀ n (R:(Nat->Nat)->Prop) (c:Nat),(∀ j,c<=j->∀ r,R r->r j=0)->cQ n R c 0
 | 0,_,_,_=>rfl
 | n+1,R,c,h=>.inl ⟨h c (TU _),cQ.none n R (c+1) (λj a=>h j (by omega))⟩
def dJ (l:a8):Nat->Nat:=λj=>l.getD j 0
def nu (T:List a8) (r:Nat):(Nat->Nat)->Prop:=λv=>∃ i,∃ h:i<T.length,r<=i/\v=dJ T[i]
def Ji {l:a8} (h:∀ x∈l,x<256):bO (dJ l):=by
 intro j;unfold dJ;by_cases a:j<l.length
 . have e:l.getD j 0=l[j]:=(by simp [a]);rw [e];exact h _ (T6 a)
 . have e:l.getD j 0=0:=(by simp [Vj (Wy.1 a)]);rw [e];decide
def nv (h:∀ l∈T,∀ x∈l,x<256) (r:Nat):∀ v,nu T r v->bO v:=by
 rintro v ⟨i,a,_,rfl⟩;exact Ji (h _ (T6 a))
theorem iw (q p:Nat->Nat) (f:Nat):cA (cA q f p) f p=q:=by
 funext j;show (q j^^^gm f (p j))^^^gm f (p j)=q j;rw [U2,UR,U3]
def su (h:∀ i (a:i<T.length),r<=i->dJ T[i] c=0) (d:cQ n (nu T r) (c+1) k):cQ (n+1) (nu T r) c k:=
 .inl ⟨by rintro v ⟨i,a,b,rfl⟩;exact h i a b,d⟩
theorem qD {p:Nat} (y:∀ l∈T,∀ x∈l,x<256) (t:∀ l∈T',∀ x∈l,x<256) (B:T'.length=T.length) (m:r<=p) (o:p<T.length) (j:dJ T[p] c≠0)
 (d:∀ i (g:i<T'.length),r<i->∃ f,∃ h:(if i=p then r else i)<T.length,f<256/\dJ T'[i]=cA (dJ T[if i=p then r else i]) f (dJ T[p])/\dJ T'[i] c=0)
 (A:cQ n (nu T' (r+1)) (c+1) k):cQ (n+1) (nu T r) c (k+1):=by
 have w:=nv y r;refine .inr ⟨⟨dJ T[p],⟨p,o,m,rfl⟩,j⟩,nu T' (r+1),nv t (r+1),?_,k,rfl,A⟩;refine aV.Sm (p:=dJ T[p]) w ⟨p,o,m,rfl⟩ j ?_ ?_
 . rintro v ⟨i,g,u,rfl⟩;obtain ⟨f,h,b,e,z⟩:=d i g (by omega);exact ⟨_,f,⟨_,h,by split<;>omega,rfl⟩,b,e,z⟩
 . rintro q ⟨i,g,u,rfl⟩;by_cases e:i=p
   . subst e;exact .inl rfl
   . right;by_cases s:i=r
     . subst s;obtain ⟨f,h,b,a,_⟩:=d p (by omega) (by omega);simp only [TT] at a;refine ⟨f,dJ T'[p],b,⟨p,by omega,by omega,rfl⟩,?_⟩;rw [a,iw]
     . obtain ⟨f,h,b,a,_⟩:=d i (by omega) (by omega);simp only [TS e] at a;refine ⟨f,dJ T'[i],b,⟨i,by omega,by omega,rfl⟩,?_⟩;rw [a,iw]
def sy (h:∀ l∈T,l.length<=c):cQ n (nu T r) c 0:=
 cQ.none n _ c (by
  rintro j b v ⟨i,a,_,rfl⟩;unfold dJ;have:=h _ (T6 a);simp [Vj (show (T[i]).length<=j by omega)])
def ny (b:x<256) (a:y<256) (h:y≠0):x^^^gm (gm x (gi y)) y=0:=by
 rw [fC b (iu a) a,fA (iu a) a,sr y a h,ew x b,UR]
def mS (D:List a8) (k:Nat):Prop:=cQ 64 (nu D 0) 0 k
theorem wt (hl:T.length=T'.length) (h:∀ i (c:i<T.length) (d:i<T'.length),dJ T[i]=dJ T'[i]) (r:Nat):nu T r=nu T' r:=by
 funext v;apply propext;constructor
 . rintro ⟨i,a,b,rfl⟩;exact ⟨i,by omega,b,h i a (by omega)⟩
 . rintro ⟨i,a,b,rfl⟩;exact ⟨i,by omega,b,(h i (by omega) a).symm⟩
def mu (R:(Nat->Nat)->Prop) (c m:Nat):Prop:=∀ v,bO v->(∀ j,j<c\/c+m<=j->v j=0)->aV R v
def gz (m:Nat):Nat->Nat:=λj=>if j=m then 1 else 0
theorem jT (m:Nat):bO (gz m):=λj=>by unfold gz;split<;>decide
def cQ.le:∀ n (R:(Nat->Nat)->Prop) (c k m:Nat),(∀ j,c+m<=j->∀ r,R r->r j=0)->cQ n R c k->k<=m
 | 0,_,_,_,_,_,h=>by rw [h];exact T8 _
 | n+1,R,c,k,m,hz,h=>by
  rcases h with ⟨_,h⟩|⟨⟨p,i,g⟩,d,e,f,k1,rfl,h⟩
  . cases m with
    | zero=>exact cQ.le n R (c+1) k 0 (λj a=>hz j (by omega)) h
    | succ m=>exact Nat.le_succ_of_le (cQ.le n R (c+1) k m (λj a=>hz j (by omega)) h)
  . cases m with
    | zero=>exact absurd (hz c (by omega) p i) g
    | succ m=>
     have:=cQ.le n d (c+1) k1 m (λj a r b=>aV.RR (hz j (by omega)) ((f r).1 (aV.mem (e r b) b)).1) h;omega
theorem cQ.S9:∀ n (R:(Nat->Nat)->Prop) (c m:Nat),(∀ r,R r->bO r)->(∀ j,c+m<=j->∀ r,R r->r j=0)->(∀ j,j<c->∀ r,R r->r j=0)->cQ n R c m->mu R c m
 | 0,R,c,m,hb,hz,hl,h=>by
  intro v _ d;obtain rfl:m=0:=h;have e:v=λ_=>0:=by funext j;exact d j (by omega)
  rw [e];exact aV.zero R
 | n+1,R,c,m,hb,hz,hl,h=>by
  cases m with
  | zero=>
   intro v _ d;have e:v=λ_=>0:=(by funext j;exact d j (by omega));rw [e];exact aV.zero R
  | succ m=>
   rcases h with ⟨y,h⟩|⟨⟨p,f,t⟩,g,k,i,k1,e,h⟩
   . have:=cQ.le n R (c+1) (m+1) m (λj b=>hz j (by omega)) h;omega
   . obtain rfl:k1=m:=(by omega);have sub:=λr (a:g r)=>(i r).1 (aV.mem (k r a) a);have ih:=cQ.S9 n g (c+1) k1 k (λj b r a=>aV.RR (hz j (by omega)) (sub r a).1)
      (λj b r a=>by
       by_cases e:j=c
       . rw [e];exact (sub r a).2
       . exact aV.RR (hl j (by omega)) (sub r a).1) h
     intro v d w;have o:=d c;have u:=hb p f c;have l:=bt (gi (p c)) o;have x:=ih (cA v (gm (v c) (gi (p c))) p) (λj=>rq (d j) (bt _ l)) (by
      intro j b;show v j^^^gm (gm (v c) (gi (p c))) (p j)=0;by_cases e:j=c
      . rw [e];exact ny o u t
      . have q:v j=0:=w j (by omega);have s:p j=0:=by
         rcases b with b|b
         . exact hl j (by omega) p f
         . exact hz j (by omega) p f
        rw [q,s,bD,UR])
     have:=((i _).1 x).1.step l f;rwa [iw] at this
def cQ.S8:∀ n (R:(Nat->Nat)->Prop) (c k m:Nat),m<=n->(∀ j,c+m<=j->∀ r,R r->r j=0)->mu R c m->cQ n R c k->k=m
 | 0,_,_,_,m,hm,_,_,h=>by rw [h];omega
 | n+1,R,c,k,m,hm,hz,hF,h=>by
  cases m with
  | zero=>have:=cQ.le (n+1) R c k 0 hz h;omega
  | succ m=>
   rcases h with ⟨g,h⟩|⟨⟨p,s,q⟩,f,l,a,k1,rfl,h⟩
   . have i:=hF (gz c) (jT c) (λj d=>TS (by omega));have:=aV.RR g i;simp [gz] at this
   . have:=cQ.S8 n f (c+1) k1 m (by omega) (λj d r e=>aV.RR (hz j (by omega)) ((a r).1 (aV.mem (l r e) e)).1)
      (λv o b=>(a v).2 ⟨hF v o (λj d=>b j (by omega)),b c (by omega)⟩) h
     omega
theorem Gs {D:List a8} {m:Nat} (d:∀ l∈D,∀ x∈l,x<256) (hl:∀ l∈D,l.length<=m) (f:m<=64) (h:mS D k):k=m↔mu (nu D 0) 0 m:=by
 have b:∀ j,0+m<=j->∀ r,nu D 0 r->r j=0:=by
  rintro j a r ⟨i,e,_,rfl⟩;unfold dJ;have:=hl _ (T6 e);simp [Vj (show (D[i]).length<=j by omega)]
 constructor
 . rintro rfl;exact cQ.S9 64 _ 0 k (nv d 0) b (λj a=>absurd a (by omega)) h
 . intro c;exact cQ.S8 64 _ 0 k m f b c h
def mu.mono {m:Nat} (h:mu R c m) (g:∀ r,R r->R' r):mu R' c m:=
 λv j k S b d=>h v j k S b (λa r u e f i=>d a r u e (g r f) i)
theorem mu.units (f:∀ r,R r->bO r) {m:Nat} (h:∀ j,j<m->aV R (gz j)):mu R 0 m:=by
 intro v d g;have key:∀ t,t<=m->aV R (λj=>if j<t then v j else 0):=by
  intro t;induction t with
  | zero=>intro _;exact aV.zero R
  | succ t ih=>
   intro i;have:=aV.add f (ih (by omega)) (d t) (h t (by omega));have e:cA (λj=>if j<t then v j else 0) (v t) (gz t)=λj=>if j<t+1 then v j else 0:=by
    funext j;show (if j<t then v j else 0)^^^gm (v t) (if j=t then 1 else 0)=if j<t+1 then v j else 0;by_cases a:j=t
    . subst a;simp [ew _ (d j)]
    . rw [TS a,bD,U3];by_cases b:j<t
      . rw [TT b,TT (by omega)]
      . rw [TS b,TS (by omega)]
   rwa [e] at this
 have:=key m (TU _);have e:(λj=>if j<m then v j else 0)=v:=by
  funext j;by_cases c:j<m
  . rw [TT c]
  . rw [TS c];exact (g j (by omega)).symm
 rwa [e] at this
def QV (b:a<256) (h:a≠0):gi a≠0:=by
 intro e;have:=sr a b h;rw [e,bD] at this;exact absurd this (by decide)
structure Ck where
 m:Nat->Nat->Nat
 told:Nat
 count:Nat
def ei (C:Ck) (i:Nat):Option Nat:=(YE C.count).find? (λr=>decide (C.told<=r)&&decide (C.m r i≠0))
def gT {C:Ck} (h:ei C i=some r):C.told<=r/\r<C.count/\C.m r i≠0:=by
 unfold ei at h;have a:=List.find?_some h;have b:=List.mem_of_find?_eq_some h;simp at a b;exact ⟨a.1,b,a.2⟩
def yR {C:Ck} (h:ei C i=none) (r:Nat) (a:C.told<=r) (b:r<C.count):C.m r i=0:=by
 unfold ei at h;rw [YI] at h;have:=h r (Uu.2 b);simp [a] at this;exact this
def vz {C:Ck} (a:C.told<=r) (b:r<C.count) (c:C.m r i≠0) (d:∀ k,C.told<=k->k<r->C.m k i=0):ei C i=some r:=by
 unfold ei;rw [List.find?_range_eq_some];refine ⟨by simp [a,c],Uu.2 b,λj e=>?_⟩;by_cases h:C.told<=j
 . simp [d j h e]
 . simp [h]
def vA {C:Ck} (h:∀ r,C.told<=r->r<C.count->C.m r i=0):ei C i=none:=by
 unfold ei;rw [YI];intro r b;by_cases a:C.told<=r
 . simp [h r a (Uu.1 b)]
 . simp [a]
def cT (m:Nat->Nat->Nat) (cnt r i:Nat):Nat->Nat->Nat:=λk j=>if k<cnt/\k≠r then m k j^^^gm (gm (m k i) (gi (m r i))) (m r j) else m k j
def dD (m:Nat->Nat->Nat) (a b:Nat):Nat->Nat->Nat:=λk=>if k=a then m b else if k=b then m a else m k
def eH (m:Nat->Nat->Nat) (r i:Nat):Nat->Nat->Nat:=λk j=>if k=r then gm (m r j) (gi (m r i)) else m k j
def jh (C:Ck) (i r:Nat):Ck:=⟨cT (eH (dD C.m C.told r) C.told i) C.count C.told i,C.told+1,C.count⟩
def gU (C:Ck) (i r:Nat):Ck:=⟨λk=>if k=r then cT C.m C.count r i (C.count-1) else cT C.m C.count r i k,C.told,C.count-1⟩
def oU (C:Ck) (i:Nat):Option Ck:=(ei C i).map (jh C i)
def ix (C:Ck) (i:Nat):Option Ck:=(ei C i).map (gU C i)
def yS (C:Ck):Prop:=∀ r,bO (C.m r)
def mv (C:Ck) (t:Nat):(Nat->Nat)->Prop:=λv=>∃ r,t<=r/\r<C.count/\v=C.m r
def wA {r:Nat->Nat} (c:bO u) (b:a<256):bO (cA u a r):=λj=>rq (c j) (bt _ b)
theorem iy (h:k<cnt/\k≠r):cT m cnt r i k=cA (m k) (gm (m k i) (gi (m r i))) (m r):=by
 funext j;unfold cT cA;rw [TT h]
theorem nz (h:¬ (k<cnt/\k≠r)):cT m cnt r i k=m k:=by
 funext j;unfold cT;rw [TS h]
def nA (h:∀ k,bO (m k)) (k:Nat):bO (cT m cnt r i k):=by
 by_cases a:k<cnt/\k≠r
 . rw [iy a];exact wA (h k) (bt _ (h k i))
 . rw [nz a];exact h k
theorem jw (h:∀ k,bO (m k)) (k:Nat):bO (dD m a b k):=by
 unfold dD;split
 . exact h b
 . split
   . exact h a
   . exact h k
theorem sA (h:∀ k,bO (m k)) (k:Nat):bO (eH m r i k):=λj=>by
 unfold eH;split
 . exact bt _ (h r j)
 . exact h k j
def Gt {C:Ck} (h:yS C):yS (jh C i r):=nA (sA (jw h))
theorem mT {C:Ck} (h:yS C):yS (gU C i r):=λk=>by
 show bO (if k=r then _ else _);split
 . exact nA h _
 . exact nA h _
def wB {C:Ck} (h:yS C) (t:Nat):∀ r,mv C t r->bO r:=by
 rintro r ⟨k,_,_,rfl⟩;exact h k
def Dm (a:x<256) (b:y<256) (h:y≠0):x^^^gm (gm x (gi y)) y=0:=ny a b h
def Dn {C:Ck} {t:Nat} (b:yS C) (u:t<=C.told) (o:C.told<=r) (n:r<C.count) (g:C.m r i≠0) (v:Nat->Nat) :
 aV (mv (gU C i r) t) v↔aV (mv C t) v/\v i=0:=by
 refine aV.Sm (p:=C.m r) (wB b t) ⟨r,by omega,n,rfl⟩ g ?_ ?_ v
 . rintro q ⟨k,k1,k2,rfl⟩;have:k<C.count-1:=k2;have key:∀ a,t<=a->a<C.count->a≠r->∃ q f,mv C t q/\f<256/\cT C.m C.count r i a=cA q f (C.m r)/\cT C.m C.count r i a i=0:=by
    intro a j c d;refine ⟨C.m a,gm (C.m a i) (gi (C.m r i)),⟨a,j,c,rfl⟩,bt _ (b a i),iy ⟨c,d⟩,?_⟩;rw [iy ⟨c,d⟩];exact Dm (b a i) (b r i) g
   show ∃ q f,mv C t q/\f<256/\(if k=r then cT C.m C.count r i (C.count-1) else cT C.m C.count r i k)=cA q f (C.m r)/\(if k=r then cT C.m C.count r i (C.count-1) else cT C.m C.count r i k) i=0;by_cases e:k=r
   . rw [TT e];exact key (C.count-1) (by omega) (by omega) (by omega)
   . rw [TS e];exact key k k1 (by omega) e
 . rintro q ⟨k,k1,k2,rfl⟩;by_cases e:k=r
   . left;rw [e]
   . right;have l:cT C.m C.count r i k=cA (C.m k) (gm (C.m k i) (gi (C.m r i))) (C.m r):=iy ⟨k2,e⟩;refine ⟨gm (C.m k i) (gi (C.m r i)),cT C.m C.count r i k,bt _ (b k i),?_,?_⟩
     . by_cases h:k=C.count-1
       . refine ⟨r,by omega,by show r<C.count-1;omega,?_⟩;show _=(if r=r then cT C.m C.count r i (C.count-1) else cT C.m C.count r i r);rw [TT rfl,h]
       . refine ⟨k,k1,by show k<C.count-1;omega,?_⟩;show _=(if k=r then cT C.m C.count r i (C.count-1) else cT C.m C.count r i k);rw [TS e]
     . rw [l,iw]
def Do {C:Ck} (c:k<C.told) (a:C.told<=r) (b:r<C.count):(gU C i r).m k=cA (C.m k) (gm (C.m k i) (gi (C.m r i))) (C.m r):=by
 show (if k=r then cT C.m C.count r i (C.count-1) else cT C.m C.count r i k)=_;rw [TS (by omega),iy ⟨by omega,by omega⟩]
def O6:gi 1=1:=by decide +kernel
theorem nB {C:Ck} (c:yS C) (p:k<C.count) (d:k≠C.told) (o:C.m r i≠0) :
 (jh C i r).m k=cA (dD C.m C.told r k) (gm (dD C.m C.told r k i) (gi (C.m r i))) (C.m r):=by
 have h:dD C.m C.told r C.told=C.m r:=by unfold dD;rw [TT rfl]
 have l:eH (dD C.m C.told r) C.told i k=dD C.m C.told r k:=by funext j;unfold eH;rw [TS d]
 have n:eH (dD C.m C.told r) C.told i C.told=λj=>gm (C.m r j) (gi (C.m r i)):=by funext j;unfold eH;rw [TT rfl,h]
 show cT (eH (dD C.m C.told r) C.told i) C.count C.told i k=_;rw [iy ⟨p,d⟩,l,n];funext j;show _^^^gm (gm _ (gi (gm (C.m r i) (gi (C.m r i))))) (gm (C.m r j) (gi (C.m r i)))=_^^^gm (gm _ (gi (C.m r i))) (C.m r j);have g:=jw (a:=C.told) (b:=r) c k i;have f:=c r i;have e:=iu f;rw [sr _ f o,O6,ew _ g,fA (c r j) e,<- fC g e (c r j)]
theorem AI {C:Ck}:(jh C i r).m C.told=λj=>gm (C.m r j) (gi (C.m r i)):=by
 have a:dD C.m C.told r C.told=C.m r:=by unfold dD;rw [TT rfl]
 show cT (eH (dD C.m C.told r) C.told i) C.count C.told i C.told=_;rw [nz (by omega)];funext j;unfold eH;rw [TT rfl,a]
def sB (c:k≠a) (d:k≠b):dD m a b k=m k:=by unfold dD;rw [TS c,TS d]
def Gu {C:Ck} (b:yS C) (o:C.told<=r) (n:r<C.count) (g:C.m r i≠0) (v:Nat->Nat) :
 aV (mv (jh C i r) (C.told+1)) v↔aV (mv C C.told) v/\v i=0:=by
 have s:∀ k,C.told+1<=k->k<C.count->∃ a,C.told<=a/\a<C.count/\a≠r/\dD C.m C.told r k=C.m a:=by
  intro k f c;by_cases e:k=r
  . refine ⟨C.told,by omega,by omega,by omega,?_⟩;unfold dD;rw [TS (by omega),TT e]
  . exact ⟨k,by omega,c,e,sB (by omega) e⟩
 refine aV.Sm (p:=C.m r) (wB b _) ⟨r,o,n,rfl⟩ g ?_ ?_ v
 . rintro q ⟨k,k1,k2,rfl⟩;have l:k<C.count:=k2;obtain ⟨a,f,c,t,e⟩:=s k k1 l;have d:=nB (i:=i) (r:=r) b l (by omega) g;rw [e] at d;refine ⟨C.m a,gm (C.m a i) (gi (C.m r i)),⟨a,f,c,rfl⟩,bt _ (b a i),d,?_⟩;rw [d];exact Dm (b a i) (b r i) g
 . rintro q ⟨k,k1,k2,rfl⟩;by_cases e:k=r
   . left;rw [e]
   . right;have h:∃ a,C.told+1<=a/\a<C.count/\dD C.m C.told r a=C.m k:=by
      by_cases j:k=C.told
      . refine ⟨r,by omega,n,?_⟩;unfold dD;rw [TS (by omega),TT rfl,j]
      . exact ⟨k,by omega,k2,sB j e⟩
     obtain ⟨a,f,c,ge⟩:=h;have d:=nB (i:=i) (r:=r) b c (by omega) g;rw [ge] at d;refine ⟨gm (C.m k i) (gi (C.m r i)),(jh C i r).m a,bt _ (b k i),⟨a,f,c,rfl⟩,?_⟩;rw [d,iw]
def QM (X:(Nat->Nat)->Prop):Prop:=X (λ_=>0)/\∀ a r u,a<256->X r->X u->X (cA u a r)
theorem Gv (c:QM X) {C:Ck} {i r:Nat} (d:yS C) (b:r<C.count) (h:∀ k,k<C.count->X (C.m k)):∀ k,k<(gU C i r).count->X ((gU C i r).m k):=by
 have key:∀ k,k<C.count->X (cT C.m C.count r i k):=by
  intro k a;by_cases e:k=r
  . rw [nz (by omega)];exact h k a
  . rw [iy ⟨a,e⟩];exact c.2 _ _ _ (bt _ (d k i)) (h r b) (h k a)
 intro k a;have:k<C.count-1:=a;show X (if k=r then _ else _);split
 . exact key _ (by omega)
 . exact key _ (by omega)
theorem Jj (c:QM X) {C:Ck} {i r:Nat} (a:yS C) (n:C.told<=r) (b:r<C.count) (f:C.m r i≠0) (h:∀ k,k<C.count->X (C.m k)):∀ k,k<(jh C i r).count->X ((jh C i r).m k):=by
 intro k g;have d:k<C.count:=g;by_cases e:k=C.told
 . rw [e,AI];have l:X (cA (λ_=>0) (gi (C.m r i)) (C.m r)):=c.2 _ _ _ (iu (a r i)) (h r b) c.1;have e:cA (λ_=>0) (gi (C.m r i)) (C.m r)=λj=>gm (C.m r j) (gi (C.m r i)):=by
    funext j;show 0^^^gm (gi (C.m r i)) (C.m r j)=_;rw [VO,fA (iu (a r i)) (a r j)]
   rwa [e] at l
 . rw [nB a d e f];refine c.2 _ _ _ (bt _ (jw a _ _)) (h r b) ?_;unfold dD;split
   . exact h r b
   . split
     . exact h _ (by omega)
     . exact h k d
def tells (C:Ck) (L:a8):Option Ck:=L.foldl (λo i=>o.bind (λc=>oU c i)) (some C)
def jU (C:Ck) (L:a8) (i:Nat):tells C (L++[i])=(tells C L).bind (λc=>oU c i):=by unfold tells;rw [Wp];rfl
def iU (C:Ck) (L b:a8) (h:tells C L=none):tells C (L++b)=none:=by
 unfold tells at *;rw [Wp,h];induction b with
 | nil=>rfl
 | cons a l ih=>exact ih
structure fh (C0:Ck) (X:(Nat->Nat)->Prop) (L:a8) (C:Ck):Prop where
 told:C.told=L.length
 count:C.count=C0.count
 le:C.told<=C.count
 byt:yS C
 all:∀ k,k<C.count->X (C.m k)
 one:∀ k,k<L.length->∀ k' (h:k'<L.length),C.m k L[k']=if k=k' then 1 else 0
 spare:∀ v,aV (mv C C.told) v↔aV (mv C0 0) v/\∀ i∈L,v i=0
def fh.nil {C0:Ck} (a:C0.told=0) (c:yS C0) (b:∀ k,k<C0.count->X (C0.m k)):fh C0 X [] C0:=
 ⟨a,rfl,by omega,c,b,λk d=>absurd d (by simp),λv=>by rw [a];simp⟩
theorem fh.snoc {C0 C C':Ck} (y:QM X) (h:fh C0 X L C) (s:oU C i=some C'):fh C0 X (L++[i]) C':=by
 unfold oU at s;rw [Wq] at s;obtain ⟨r,A,rfl⟩:=s;obtain ⟨p,q,g⟩:=gT A;have t:∀ j,j∈L->C.m r j=0:=λj d=>((h.spare (C.m r)).1 (aV.mem (h.byt r) ⟨r,p,q,rfl⟩)).2 j d;have u:=h.told;refine ⟨?_,h.count,by show C.told+1<=C.count;omega,Gt h.byt,Jj y h.byt p q g h.all,?_,?_⟩
 . show C.told+1=_;simp [u]
 . intro k z f x;simp at z x;by_cases e:k=L.length
   . have w:k=C.told:=(by omega);rw [w,AI];by_cases n:f=L.length
     . subst n;rw [XO (by omega)];simp [u,sr _ (h.byt r i) g]
     . have l:f<L.length:=(by omega);rw [XP l];show gm (C.m r L[f]) _=_;rw [t _ (T6 l),bI,TS (by omega)]
   . have l:k<L.length:=(by omega);rw [nB h.byt (by omega) (by omega) g,sB (by omega) (by omega)];by_cases n:f=L.length
     . subst n;rw [XO (by omega)];simp only [W0,List.getElem_singleton];show C.m k i^^^gm (gm (C.m k i) (gi (C.m r i))) (C.m r i)=_;rw [Dm (h.byt k i) (h.byt r i) g,TS e]
     . have o:f<L.length:=(by omega);rw [XP o];show C.m k L[f]^^^gm _ (C.m r L[f])=_;rw [t _ (T6 o),bD,U3,h.one k l f o]
 . intro v;have:=Gu (i:=i) h.byt p q g v;show aV (mv (jh C i r) (C.told+1)) v↔_;rw [this,h.spare v];constructor
   . rintro ⟨⟨a,b⟩,c⟩;exact ⟨a,λj d=>by rcases Ui.1 d with d|d;exact b j d;rw [U5.1 d];exact c⟩
   . rintro ⟨a,b⟩;exact ⟨⟨a,λj d=>b j (UF _ d)⟩,b i (by simp)⟩
def fh.of {C0:Ck} (f:QM X) (l:C0.told=0) (o:yS C0) (n:∀ k,k<C0.count->X (C0.m k)):∀ (a L:a8) (C:Ck),fh C0 X L C->tells C0 L=some C ->
 (∃ b,tells C0 (L++a)=some b/\fh C0 X (L++a) b)\/(tells C0 (L++a)=none/\∃ pre i,(pre++[i])<+:(L++a)/\∀ v,aV (mv C0 0) v->(∀ j∈pre,v j=0)->v i=0)
 | [],L,C,h,e=>.inl ⟨C,by simpa using e,by simpa using h⟩
 | i::a,L,C,h,e=>by
  have c:L++i::a=(L++[i])++a:=by simp
  cases ht:oU C i with
  | none=>
   right;have d:tells C0 (L++[i])=none:=(by rw [jU,e];exact ht);refine ⟨by rw [c];exact iU _ _ _ d,L,i,by rw [c];exact XQ _ _,?_⟩;intro v s t;have p:ei C i=none:=by
    unfold oU at ht;exact Option.map_eq_none_iff.1 ht
   exact aV.RR (λr q=>by obtain ⟨k,k1,k2,rfl⟩:=q;exact yR p k k1 k2) ((h.spare v).2 ⟨s,t⟩)
  | some b=>
   have g:=h.snoc f ht;have d:tells C0 (L++[i])=some b:=(by rw [jU,e];exact ht);rw [c];exact fh.of f l o n a (L++[i]) b g d
def cF (C:Ck) (i:Nat):Bool:=(YE C.told).any (λr=>decide (C.m r i≠0))
theorem gV {C:Ck}:cF C i=false↔∀ r,r<C.told->C.m r i=0:=by
 unfold cF;rw [List.any_eq_false];constructor
 . intro h r a;have:=h r (Uu.2 a);simpa using this
 . intro h r a;simp [h r (Uu.1 a)]
def qE {C:Ck} (a:r<C.told) (b:C.m r i≠0):cF C i=true:=by
 cases h:cF C i with
 | true=>rfl
 | false=>exact absurd (gV.1 h r a) b
def gJ (K:a8) (C:Ck):Nat:=(K.filter (cF C)).length
abbrev b8:=Ck×Nat
def fs (K:a8) (s:b8) (C:Ck):b8:=if gJ K C=0\/gJ K C<s.2 then (C,gJ K C) else s
def ab (s:Nat):a8:=(YE 16).filter (λi=>s.testBit i)
def cZ (s i:Nat):Nat:=s/2^(i+1)*2^(i+1)
def ft (s i j:Nat):(cZ s i).testBit j=(decide (i<j)&&s.testBit j):=by
 unfold cZ;rw [Nat.testBit_mul_two_pow];by_cases h:i+1<=j
 . simp only [Nat.testBit_div_two_pow];rw [show j-(i+1)+(i+1)=j by omega];simp [h,show i<j by omega]
 . simp [h,show ¬ i<j by omega]
def qF (s:Nat):(ab s).Pairwise (· < ·):=(List.pairwise_lt_range (n:=16)).filter _
def cE:i∈ab s↔i<16/\s.testBit i=true:=by unfold ab;rw [Vy,Uu]
theorem AJ {pre R:a8} (h:ab s=pre++i::R):ab (cZ s i)=R:=by
 have e:ab (cZ s i)=(ab s).filter (λj=>decide (i<j)):=by
  unfold ab;rw [List.filter_filter];apply List.filter_congr;intro j _;rw [ft]
 have b:=qF s;rw [h] at b;rw [e,h,Wr,List.filter_cons];obtain ⟨l,f,g⟩:=aaS.1 b;obtain ⟨k,m⟩:=List.pairwise_cons.1 f;have c:pre.filter (λj=>decide (i<j))=[]:=List.filter_eq_nil_iff.2 (λj a=>by have:=g j a i (by simp);simp;omega);have d:R.filter (λj=>decide (i<j))=R:=List.filter_eq_self.2 (λj a=>by have:=k j a;simp;omega);rw [c,d];simp
def gW (rec:Ck->Nat->Nat->b8->b8) (C:Ck) (of:Nat) (a:Nat×b8×Bool) (i:Nat):Nat×b8×Bool:=
 if a.2.2=true then a else if ¬ a.1<a.2.1.2 then (a.1,a.2.1,true) else
  match ix C i with
  | none=>a
  | some C'=>(a.1+1,rec C' (cZ of i) a.1 a.2.1,false)
def iz (K:a8):Nat->Ck->Nat->Nat->b8->b8
 | 0,C,of,p,st=>((ab of).foldl (gW (λ_ _ _ s=>s) C of) (p,fs K st C,false)).2.1
 | n+1,C,of,p,st=>((ab of).foldl (gW (iz K n) C of) (p,fs K st C,false)).2.1
def Dp (K:a8):Nat->Ck->Nat->Nat->b8->b8
 | 0=>λ_ _ _ s=>s
 | n+1=>iz K n
def oV (K:a8) (n:Nat) (C:Ck) (of p:Nat) (st:b8):iz K n C of p st=((ab of).foldl (gW (Dp K n) C of) (p,fs K st C,false)).2.1:=by
 cases n<;>rfl
theorem AK (K:a8) (s:b8) (C:Ck):(fs K s C).2<=s.2:=by
 unfold fs;split
 . show gJ K C<=s.2;omega
 . exact TU _
theorem Gw (K:a8) (s:b8) (C:Ck):(fs K s C).2<=gJ K C:=by
 unfold fs;split
 . exact TU _
 . show s.2<=gJ K C;omega
theorem MP {rec:Ck->Nat->Nat->b8->b8} (h:∀ C of p s,(rec C of p s).2<=s.2) (C:Ck) (of:Nat) (a:Nat×b8×Bool) (i:Nat):(gW rec C of a i).2.1.2<=a.2.1.2:=by
 unfold gW;split
 . exact TU _
 . split
   . exact TU _
   . split
     . exact TU _
     . exact h _ _ _ _
def nC {rec:Ck->Nat->Nat->b8->b8} (h:∀ C of p s,(rec C of p s).2<=s.2) (C:Ck) (of:Nat):∀ (L:a8) (a:Nat×b8×Bool),(L.foldl (gW rec C of) a).2.1.2<=a.2.1.2
 | [],_=>TU _
 | i::L,a=>TV (nC h C of L (gW rec C of a i)) (MP h C of a i)
def wC (K:a8):∀ n C of p s,(iz K n C of p s).2<=s.2
 | 0,C,of,_,s=>TV (nC (λ_ _ _ _=>TU _) C of _ _) (AK K s C)
 | n+1,C,of,_,s=>TV (nC (wC K n) C of _ _) (AK K s C)
def MQ (K:a8) (n:Nat):∀ C of p s,(Dp K n C of p s).2<=s.2:=by
 cases n with
 | zero=>exact λ_ _ _ _=>TU _
 | succ n=>exact wC K n
def wD (rec:Ck->Nat->Nat->b8->b8) (C:Ck) (of:Nat) (p:Nat) (s:b8):∀ L:a8,L.foldl (gW rec C of) (p,s,true)=(p,s,true)
 | []=>rfl
 | i::L=>by
  have e:gW rec C of (p,s,true) i=(p,s,true):=by unfold gW;rw [TT rfl]
  rw [W4,e];exact wD rec C of p s L
def Dq (C:Ck) (j:Nat):Prop:=∀ r,C.told<=r->r<C.count->C.m r j=0
def Dq.span {C:Ck} (h:Dq C j) {v:Nat->Nat} (b:aV (mv C C.told) v):v j=0:=
 aV.RR (λr a=>by obtain ⟨k,k1,k2,rfl⟩:=a;exact h k k1 k2) b
def gA {C C':Ck} (h:ix C i=some C'):∃ r,C'=gU C i r/\C.told<=r/\r<C.count/\C.m r i≠0:=by
 unfold ix at h;rw [Wq] at h;obtain ⟨r,d,rfl⟩:=h;obtain ⟨a,b,c⟩:=gT d;exact ⟨r,rfl,a,b,c⟩
def Dr {C C':Ck} (b:yS C) (h:ix C i=some C') (a:Dq C j\/j=i):Dq C' j:=by
 obtain ⟨r,rfl,c,d,e⟩:=gA h;intro k k1 k2;have:=(Dn (t:=C.told) b (TU _) c d e ((gU C i r).m k)).1 (aV.mem (mT b k) ⟨k,k1,k2,rfl⟩);rcases a with a|rfl
 . exact a.span this.1
 . exact this.2
def Ds (h:x^^^y=0):x=y:=by
 have:=Uy (·^^^y) h;simp only [VO] at this;rwa [U2,UR,U3] at this
inductive jx (C:Ck):Ck->Prop
 | refl:jx C C
 | step {C1 C2:Ck} {i:Nat}:jx C C1->ix C1 i=some C2->jx C C2
def jx.trans {A B C:Ck} (h:jx A B) (a:jx B C):jx A C:=by
 induction a with
 | refl=>exact h
 | step _ hl ih=>exact .step ih hl
def sC (K:a8) (C:Ck) (s s':b8):Prop:=s'=s\/(jx C s'.1/\s'.2=gJ K s'.1)
theorem AL (K:a8) (s:b8) (C:Ck):sC K C s (fs K s C):=by
 unfold fs;split
 . exact .inr ⟨.refl,rfl⟩
 . exact .inl rfl
theorem sD {K:a8} {rec:Ck->Nat->Nat->b8->b8} (h:∀ C of p s,sC K C s (rec C of p s)) (C:Ck) (of:Nat):∀ (L:a8) (a:Nat×b8×Bool),sC K C a.2.1 (L.foldl (gW rec C of) a).2.1
 | [],_=>.inl rfl
 | i::L,a=>by
  have d:sC K C a.2.1 (gW rec C of a i).2.1:=by
   unfold gW;split
   . exact .inl rfl
   . split
     . exact .inl rfl
     . split
       . exact .inl rfl
       . rename_i c hl
         rcases h c (cZ of i) a.1 a.2.1 with e|⟨b,f⟩
         . exact .inl e
         . exact .inr ⟨jx.trans (.step .refl hl) b,f⟩
  rcases sD h C of L (gW rec C of a i) with e|b
  . rw [W4,e];exact d
  . exact .inr b
def yT (K:a8):∀ n C of p s,sC K C s (iz K n C of p s):=by
 have comb:∀ {rec:Ck->Nat->Nat->b8->b8} (_:∀ C of p s,sC K C s (rec C of p s)) C of p s,sC K C s ((ab of).foldl (gW rec C of) (p,fs K s C,false)).2.1:=by
  intro rec h C of p s;rcases sD h C of (ab of) (p,fs K s C,false) with e|a
  . rw [e];exact AL K s C
  . exact .inr a
 intro n;induction n with
 | zero=>exact comb (λ_ _ _ _=>.inl rfl)
 | succ n ih=>exact comb ih
def aP (n:Nat) (C:Ck) (kept:Nat):b8:=iz (ab kept) n C kept 0 (C,(ab kept).length)
def MR (K:a8) (C:Ck):gJ K C<=K.length:=WO _ _
def yU (n:Nat) (C:Ck) (kept:Nat):jx C (aP n C kept).1/\(aP n C kept).2=gJ (ab kept) (aP n C kept).1:=by
 rcases yT (ab kept) n C kept 0 (C,(ab kept).length) with e|h
 . have a:(aP n C kept).2<=gJ (ab kept) C:=by
    unfold aP;rw [oV];exact TV (nC (MQ _ n) C kept _ _) (Gw _ _ C)
   have b:aP n C kept=(C,(ab kept).length):=e;rw [b] at a ⊢;exact ⟨.refl,Nat.le_antisymm a (MR _ _)⟩
 . exact h
theorem jx.good {C C':Ck} (o:QM X) (s:jx C C') (p:yS C) (l:C.told<=C.count) (h:∀ k,k<C.count->X (C.m k))
 (n:∀ j∈L,Dq C j) :
 yS C'/\C'.told=C.told/\C'.told<=C'.count/\C'.count<=C.count/\(∀ k,k<C'.count->X (C'.m k))/\(∀ k,k<C.told->∀ j∈L,C'.m k j=C.m k j)/\∀ j∈L,Dq C' j:=by
 induction s with
 | refl=>exact ⟨p,rfl,l,TU _,h,λ_ _ _ _=>rfl,n⟩
 | step _ hl ih=>
  obtain ⟨b,t,le,v,g,on,sp⟩:=ih;rename_i c u i _
  obtain ⟨r,a,f,e,w⟩:=gA hl;refine ⟨by rw [a];exact mT b,by rw [a];exact t,by rw [a];show c.told<=c.count-1;omega,by rw [a];show c.count-1<=_;omega,by rw [a];exact Gv o b e g,?_,λj d=>Dr b hl (.inl (sp j d))⟩;intro k q j d;rw [a,Do (by omega) f e];show c.m k j^^^gm _ (c.m r j)=_;rw [sp j d r f e,bD,U3,on k q j d]
def xs (f:Nat->Nat):Nat->Nat
 | 0=>0
 | n+1=>xs f n^^^f n
def eQ {g:Nat->Nat}:∀ n,(∀ i,i<n->f i=g i)->xs f n=xs g n
 | 0,_=>rfl
 | n+1,h=>by show xs f n^^^f n=xs g n^^^g n;rw [eQ n (λi a=>h i (by omega)),h n (by omega)]
def mV (f g:Nat->Nat):∀ n,xs (λi=>f i^^^g i) n=xs f n^^^xs g n
 | 0=>(UR 0).symm
 | n+1=>by show xs _ n^^^(f n^^^g n)=(xs f n^^^f n)^^^(xs g n^^^g n);rw [mV f g n,Dj]
def dY:∀ n,(∀ i,i<n->f i=0)->xs f n=0
 | 0,_=>rfl
 | n+1,h=>by show xs f n^^^f n=0;rw [dY n (λi a=>h i (by omega)),h n (by omega)];rfl
def Jk (c:Nat) (f:Nat->Nat):∀ n,xs (λi=>gm c (f i)) n=gm c (xs f n)
 | 0=>(bD c).symm
 | n+1=>by show xs _ n^^^gm c (f n)=gm c (xs f n^^^f n);rw [Jk c f n,fy]
def ji:∀ n,k<n->(∀ i,i<n->i≠k->f i=0)->xs f n=f k
 | 0,h,_=>absurd h (by omega)
 | n+1,h,hz=>by
  show xs f n^^^f n=f k;by_cases e:k=n
  . rw [dY n (λi a=>hz i (by omega) (by omega)),e,VO]
  . rw [ji n (by omega) (λi a=>hz i (by omega)),hz n (by omega) (by omega),U3]
def Jl:∀ n,(∀ i,i<n->f i<256)->xs f n<256
 | 0,_=>by show 0<256;decide
 | n+1,h=>rq (Jl n (λi a=>h i (by omega))) (h n (by omega))
def yV (f:Nat->Nat) (a:Nat):∀ b,xs f (a+b)=xs f a^^^xs (λi=>f (a+i)) b
 | 0=>(U3 _).symm
 | b+1=>by show xs f (a+b)^^^f (a+b)=xs f a^^^(xs _ b^^^f (a+b));rw [yV f a b,U2]
def vC (M:Nat->Nat->Nat) (D n:Nat) (v:Nat->Nat):Prop:=bO v/\(∀ i,n<=i->v i=0)/\∀ j,j<D->xs (λi=>gm (v i) (M i j)) n=0
def AM (M:Nat->Nat->Nat) (D n:Nat) (f:∀ i,bO (M i)):QM (vC M D n):=by
 refine ⟨⟨λ_=>by show 0<256;decide,λ_ _=>rfl,λj _=>dY n (λi _=>bI _)⟩,?_⟩;rintro a r u b ⟨g,h,k⟩ ⟨u1,u2,u3⟩;refine ⟨wA u1 b,λi c=>?_,λj d=>?_⟩
 . show u i^^^gm a (r i)=0;rw [u2 i c,h i c,bD];rfl
 . have e:xs (λi=>gm (cA u a r i) (M i j)) n=xs (λi=>gm (u i) (M i j)^^^gm a (gm (r i) (M i j))) n:=
    eQ n (λi _=>by show gm (u i^^^gm a (r i)) (M i j)=_;rw [eZ _ (u1 i) (bt _ b),fC b (g i) (f i j)])
   rw [e,mV,Jk,u3 j d,k j d,bD];rfl
def jV (M:Nat->Nat->Nat) (D P:Nat):Ck:=⟨λr j=>if r<P then (if j<D then M (D+r) j else if j=D+r then 1 else 0) else 0,0,P⟩
theorem sE (a:∀ i,bO (M i)):yS (jV M D P):=λr j=>by
 show (if r<P then _ else _)<256;split
 . split
   . exact a _ _
   . split<;>decide
 . decide
def AN (a:∀ i,bO (M i)) (d:∀ i,i<D->∀ j,M i j=if j=i then 1 else 0) (k:Nat) (f:k<P):vC M D (D+P) ((jV M D P).m k):=by
 have e:∀ i,(jV M D P).m k i=if i<D then M (D+k) i else if i=D+k then 1 else 0:=λi=>by show (if k<P then _ else _)=_;rw [TT f]
 refine ⟨sE a k,λi b=>by rw [e,TS (by omega),TS (by omega)],λj c=>?_⟩;rw [yV];have g:xs (λi=>gm ((jV M D P).m k i) (M i j)) D=M (D+k) j:=by
  rw [ji (k:=j) D c]
  . rw [e,TT c,d j c,TT rfl,ew _ (a _ _)]
  . intro i b ne;rw [d i b,TS (Vk ne),bD]
 have h:xs (λi=>gm ((jV M D P).m k (D+i)) (M (D+i) j)) P=M (D+k) j:=by
  rw [ji (k:=k) P f]
  . rw [e,TS (by omega),TT rfl,fA (by decide) (a _ _),ew _ (a _ _)]
  . intro i b ne;rw [e,TS (by omega),TS (by omega),bI]
 rw [g,h,UR]
theorem sF (f:Nat->Nat->Nat) (a:Nat->Nat) (b:bO a):∀ n,(∀ i,i<n->a i≠0->R (f i))->aV R (λj=>xs (λi=>gm (a i) (f i j)) n)
 | 0,_=>aV.zero R
 | n+1,h=>by
  have ih:=sF f a b n (λi d=>h i (by omega));by_cases e:a n=0
  . have c:(λj=>xs (λi=>gm (a i) (f i j)) (n+1))=λj=>xs (λi=>gm (a i) (f i j)) n:=by
     funext j;show _^^^gm (a n) (f n j)=_;rw [e,bI,U3]
    rw [c];exact ih
  . exact ih.step (b n) (h n (by omega) e)
theorem Jm (f:∀ i,i<D->∀ j,M i j=if j=i then 1 else 0) {v:Nat->Nat} (n:vC M D (D+P) v):aV (mv (jV M D P) 0) v:=by
 obtain ⟨d,o,p⟩:=n;have h:=sF (R:=mv (jV M D P) 0) (jV M D P).m (λi=>v (D+i)) (λi=>d _) P (λi a _=>⟨i,T8 _,a,rfl⟩);have e:(λj=>xs (λi=>gm (v (D+i)) ((jV M D P).m i j)) P)=v:=by
  funext j;by_cases b:j<D
  . have g:xs (λi=>gm (v (D+i)) ((jV M D P).m i j)) P=xs (λi=>gm (v (D+i)) (M (D+i) j)) P:=eQ P (λi a=>by
     show gm _ (if i<P then _ else _)=_;rw [TT a,TT b])
    rw [g];have c:=p j b;rw [yV] at c;have l:xs (λi=>gm (v i) (M i j)) D=v j:=by
     rw [ji (k:=j) D b]
     . rw [f j b,TT rfl,ew _ (d j)]
     . intro i a ne;rw [f i a,TS (Vk ne),bD]
    rw [l] at c;exact (Ds c).symm
  . by_cases q:j<D+P
    . rw [ji (k:=j-D) P (by omega)]
      . show gm _ (if j-D<P then _ else _)=_;rw [TT (by omega),TS b,TT (by omega),show D+(j-D)=j by omega,ew _ (d j)]
      . intro i a ne;show gm _ (if i<P then _ else _)=_;rw [TT a,TS b,TS (by omega),bD]
    . rw [o j (by omega)];exact dY P (λi a=>by
       show gm _ (if i<P then _ else _)=_;rw [TT a,TS b,TS (by omega),bD])
 rwa [e] at h
def Jn (M:Nat->Nat->Nat) (n:Nat) (Q:Nat->Prop):(Nat->Nat)->Prop:=λv=>∃ i,i<n/\Q i/\v=M i
theorem Du {x:Nat->Nat} (o:aV (Jn M n Q) x) :
 ∃ a,bO a/\(∀ i,¬ (i<n/\Q i)->a i=0)/\∀ j,x j=xs (λi=>gm (a i) (M i j)) n:=by
 refine o (λx=>∃ a,bO a/\(∀ i,¬ (i<n/\Q i)->a i=0)/\∀ j,x j=xs (λi=>gm (a i) (M i j)) n)
  ⟨λ_=>0,λ_=>by show 0<256;decide,λ_ _=>rfl,λj=>(dY n (λi _=>bI _)).symm⟩ ?_
 rintro b r u m ⟨k,k1,k2,rfl⟩ ⟨a,c,g,h⟩;have d:bO (λi=>if i=k then b else 0):=λi=>by show (if i=k then b else 0)<256;split;exact m;decide
 refine ⟨λi=>a i^^^(if i=k then b else 0),λi=>rq (c i) (d i),λi f=>?_,λj=>?_⟩
 . have:i≠k:=λe=>f (by rw [e];exact ⟨k1,k2⟩);show a i^^^(if i=k then b else 0)=0;rw [g i f,TS this];rfl
 . have e:xs (λi=>gm (a i^^^(if i=k then b else 0)) (M i j)) n=xs (λi=>gm (a i) (M i j)^^^gm (if i=k then b else 0) (M i j)) n:=
    eQ n (λi _=>eZ _ (c i) (d i))
   rw [e,mV,<- h j];have l:xs (λi=>gm (if i=k then b else 0) (M i j)) n=gm b (M k j):=by
    rw [ji (k:=k) n k1]
    . rw [TT rfl]
    . intro i _ ne;rw [TS ne,bI]
   rw [l];rfl
def yW (f:∀ i,bO (M i)) (p:k<n) (o:¬ Q k) (h:aV (Jn M n Q) (M k)) :
 ∃ u,vC M D n u/\u k=1/\∀ i,i≠k->¬ Q i->u i=0:=by
 obtain ⟨a,c,b,l⟩:=Du h;have m:a k=0:=b k (λh=>o h.2);have d:bO (gz k):=jT k;refine ⟨λi=>a i^^^gz k i,⟨λi=>rq (c i) (d i),λi g=>?_,λj _=>?_⟩,?_,λi g q=>?_⟩
 . show a i^^^(if i=k then 1 else 0)=0;rw [b i (by omega),TS (by omega)];rfl
 . have e:xs (λi=>gm (a i^^^gz k i) (M i j)) n=xs (λi=>gm (a i) (M i j)^^^gm (gz k i) (M i j)) n:=eQ n (λi _=>eZ _ (c i) (d i));rw [e,mV,<- l j,ji (k:=k) n p]
   . show M k j^^^gm (if k=k then 1 else 0) (M k j)=0;rw [TT rfl,fA (by decide) (f k j),ew _ (f k j),UR]
   . intro i _ ne;show gm (if i=k then 1 else 0) (M i j)=0;rw [TS ne,bI]
 . show a k^^^(if k=k then 1 else 0)=1;rw [m,TT rfl];rfl
 . show a i^^^(if i=k then 1 else 0)=0;rw [b i (λh=>q h.2),TS g];rfl
theorem nD (c:∀ i,bO (M i)) (g:∀ i j,D<=j->M i j=0) (r:k<n) {u:Nat->Nat} (s:vC M D n u) (o:u k=1) (m:∀ i,i<n->i≠k->u i≠0->Q i) :
 aV (Jn M n Q) (M k):=by
 obtain ⟨u1,u2,u3⟩:=s;have p:bO (λi=>if i=k then 0 else u i):=λi=>by show (if i=k then 0 else u i)<256;split;decide;exact u1 i
 have h:=sF (R:=Jn M n Q) M (λi=>if i=k then 0 else u i) p n (λi d a=>by
  by_cases e:i=k
  . simp [e] at a
  . exact ⟨i,d,m i d e (by simpa [e] using a),rfl⟩)
 have e:(λj=>xs (λi=>gm (if i=k then 0 else u i) (M i j)) n)=M k:=by
  funext j;by_cases q:j<D
  . have l:xs (λi=>gm (u i) (M i j)) n=xs (λi=>gm (if i=k then 0 else u i) (M i j)^^^gm (gz k i) (M i j)) n:=eQ n (λi _=>by
     by_cases e:i=k
     . rw [TT e,bI,VO,e,o];show _=gm (if k=k then 1 else 0) _;rw [TT rfl]
     . rw [TS e];show _=_^^^gm (if i=k then 1 else 0) _;rw [TS e,bI,U3])
    have b:=u3 j q;rw [l,mV,ji (f:=λi=>gm (gz k i) (M i j)) (k:=k) n r] at b
    . have:=Ds b;rw [this];show gm (if k=k then 1 else 0) (M k j)=_;rw [TT rfl,fA (by decide) (c k j),ew _ (c k j)]
    . intro i _ ne;show gm (if i=k then 1 else 0) (M i j)=0;rw [TS ne,bI]
  . rw [g k j (by omega)];exact dY n (λi _=>by rw [g i j (by omega),bD])
 rwa [e] at h
structure Code (M:Nat->Nat->Nat) (D P:Nat):Prop where
 byt:∀ i,bO (M i)
 unit:∀ i,i<D->∀ j,M i j=if j=i then 1 else 0
 RR:∀ i j,D<=j->M i j=0
def Code.told (h:Code M D P) (L:a8) :
 (∃ C,tells (jV M D P) L=some C/\fh (jV M D P) (vC M D (D+P)) L C)\/(tells (jV M D P) L=none/\∃ pre i,(pre++[i])<+:L/\∀ v,aV (mv (jV M D P) 0) v->(∀ j∈pre,v j=0)->v i=0):=by
 have:=fh.of (AM M D (D+P) h.byt) (C0:=jV M D P) rfl (sE h.byt) (λk a=>AN h.byt h.unit k a) L [] (jV M D P) (fh.nil rfl (sE h.byt) (λk a=>AN h.byt h.unit k a)) rfl;simpa using this
theorem Code.full (h:Code M D P) {L:a8} {C:Ck} (a:fh (jV M D P) (vC M D (D+P)) L C):mu (Jn M (D+P) (λi=>i∉L)) 0 D:=by
 have n:∀ r,Jn M (D+P) (λi=>i∉L) r->bO r:=by rintro r ⟨i,_,_,rfl⟩;exact h.byt i
 have m:∀ i,i<D+P->aV (Jn M (D+P) (λi=>i∉L)) (M i):=by
  intro i f;by_cases g:i∈L
  . obtain ⟨k,d,rfl⟩:=US g;have q:k<C.count:=(by have:=a.told;have:=a.le;omega);refine nD h.byt h.RR f (a.all k q) ?_ ?_
    . rw [a.one k d k d,TT rfl]
    . intro j _ c b o;obtain ⟨l,p,rfl⟩:=US o;rw [a.one k d l p] at b;by_cases e:k=l
      . subst e;exact c rfl
      . rw [TS e] at b;exact b rfl
  . exact aV.mem (h.byt i) ⟨i,f,g,rfl⟩
 refine mu.units n (λj c=>?_);have e:M j=gz j:=by funext x;rw [h.unit j c];rfl
 rw [<- e];exact m j (by omega)
def Code.TH (h:Code M D P) {L:a8} (c:L.Nodup) (g:∀ i∈L,i<D+P) (k:∃ pre i,(pre++[i])<+:L/\∀ v,aV (mv (jV M D P) 0) v->(∀ j∈pre,v j=0)->v i=0) :
 ¬ mu (Jn M (D+P) (λi=>i∉L)) 0 D:=by
 obtain ⟨pre,i,⟨R,rfl⟩,m⟩:=k;intro f;have d:i∈pre++[i]++R:=by simp
 obtain ⟨u,l,u1,u0⟩:=yW (D:=D) h.byt (g i d) (λb=>b d) (f (M i) (h.byt i) (λj a=>h.RR i j (by omega)));have:=m u (Jm h.unit l) (λj a=>u0 j (λe=>by
  subst e;rw [Uz] at c;have:=(U8.1 c).2.2 j a j (by simp);exact this rfl) (λb=>b (by simp [a])))
 rw [u1] at this;exact absurd this (by decide)
structure Gx (M:Nat->Nat->Nat) (D P:Nat) (L:a8) (B:Ck):Prop where
 told:B.told=L.length
 le:B.told<=B.count
 Sa:B.count<=P
 byt:yS B
 dual:∀ k,k<B.told->vC M D (D+P) (B.m k)
 one:∀ k,k<L.length->∀ k' (h:k'<L.length),B.m k L[k']=if k=k' then 1 else 0
def Code.SD (h:Code M D P) {L:a8} {C B:Ck} (a:fh (jV M D P) (vC M D (D+P)) L C) (n:jx C B):Gx M D P L B:=by
 have i:∀ j∈L,Dq C j:=λj l r d c=>((a.spare (C.m r)).1 (aV.mem (a.byt r) ⟨r,d,c,rfl⟩)).2 j l;obtain ⟨b,t,le,p,g,on,_⟩:=n.good (AM M D (D+P) h.byt) a.byt a.le a.all i;have:=a.told;have c:=a.count;refine ⟨by omega,le,by have:C.count=P:=c;omega,b,λk f=>g k (by omega),λk f o e=>?_⟩;rw [on k (by omega) _ (T6 e),a.one k f o e]
def Gx.tells {B:Ck} (d:Code M D P) (h:Gx M D P L B) (o:∀ i∈L,i<D+P):∀ i∈L,aV (Jn M (D+P) (λj=>j∉L/\cF B j=true)) (M i):=by
 intro i f;obtain ⟨k,b,rfl⟩:=US f;have c:k<B.told:=by have:=h.told;omega
 refine nD d.byt d.RR (o _ f) (h.dual k c) (by rw [h.one k b k b,TT rfl]) ?_;intro j _ n a;refine ⟨λl=>?_,qE c a⟩;obtain ⟨g,m,rfl⟩:=US l;rw [h.one k b g m] at a;by_cases e:k=g
 . subst e;exact n rfl
 . rw [TS e] at a;exact a rfl
theorem Gx.sum {B:Ck} (s:Code M D P) (h:Gx M D P L B) (x:∀ i∈L,i<D+P) (d:Nat->Nat) (u:bO d) (k:Nat) (b:k<L.length) :
 xs (λi=>if i∈L then 0 else gm (B.m k i) (xs (λj=>gm (M i j) (d j)) D)) (D+P)=xs (λj=>gm (M L[k] j) (d j)) D:=by
 have t:k<B.told:=by have:=h.told;omega
 obtain ⟨o,z,y⟩:=h.dual k t;have v:=x _ (T6 b);have r:∀ i,xs (λj=>gm (M i j) (d j)) D<256:=λi=>Jl D (λj _=>bt _ (s.byt i j));have swap:∀ n,xs (λi=>gm (B.m k i) (xs (λj=>gm (M i j) (d j)) D)) n=xs (λj=>gm (xs (λi=>gm (B.m k i) (M i j)) n) (d j)) D:=by
  intro n;induction n with
  | zero=>exact (dY D (λj _=>bI _)).symm
  | succ n ih=>
   show xs _ n^^^gm (B.m k n) (xs (λj=>gm (M n j) (d j)) D)=_;rw [ih,<- Jk,<- mV];apply eQ;intro j _;show _=gm (xs _ n^^^gm (B.m k n) (M n j)) (d j);rw [eZ _ (Jl n (λi _=>bt _ (o i))) (bt _ (o n)),fC (o n) (s.byt n j) (u j)]
 have l:xs (λi=>gm (B.m k i) (xs (λj=>gm (M i j) (d j)) D)) (D+P)=0:=by
  rw [swap];exact dY D (λj w=>by rw [y j w,bI])
 have e:xs (λi=>gm (B.m k i) (xs (λj=>gm (M i j) (d j)) D)) (D+P)=xs (λi=>(if i∈L then 0 else gm (B.m k i) (xs (λj=>gm (M i j) (d j)) D))^^^(if i=L[k] then xs (λj=>gm (M L[k] j) (d j)) D else 0)) (D+P):=by
  apply eQ;intro i _;by_cases c:i∈L
  . obtain ⟨g,q,rfl⟩:=US c;rw [TT c,VO,h.one k b g q];by_cases e:L[g]=L[k]
    . rw [TT e,e];by_cases a:k=g
      . rw [TT a,fA (by decide) (r _),ew _ (r _)]
      . have c1:=h.one k b k b;have p:=h.one k b g q;rw [e,c1,TT rfl,TS a] at p;exact absurd p (by decide)
    . rw [TS e,TS (λa=>e (by subst a;rfl)),bI]
  . rw [TS c,TS (show ¬ i=L[k] from λa=>c (by rw [a];exact T6 b)),U3]
 rw [e,mV,ji (f:=λi=>if i=L[k] then xs (λj=>gm (M L[k] j) (d j)) D else 0) (k:=L[k]) _ v] at l
 . rw [TT rfl] at l;exact Ds l
 . intro i _ ne;rw [TS ne]
