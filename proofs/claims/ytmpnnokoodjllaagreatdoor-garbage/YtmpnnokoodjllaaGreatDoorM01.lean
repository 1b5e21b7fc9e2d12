set_option maxRecDepth 100000
set_option linter.all false
set_option maxHeartbeats 8000000
open Bool renaming true -> Z9
open List renaming range -> YC, find?_eq_none -> YF
open Nat renaming xor_comm -> YD, xor_mod_two_pow -> YE
namespace Go.Proofs.YtmpnnokoodjllaaGreatDoor
variable {p q:Prop}
def eb (h:p:=by omega):p:=h
def ec (h:p:=by decide):p:=h
def ej (h:p:=by rw [ho];intro c h;cases h):p:=h
def ek (h:p:=by simp):p:=h
def en (h:p:=by simp;omega):p:=h
def eD (h:p:=by unfold maxLen;omega):p:=h
def eP (h:p:=by show w.heap.size<=w.heap.size+1;omega):p:=h
def eT (h:q) (k:q->p:=by intro;omega):p:=k h
def e9 (h:p:=by simp [intOf];omega):p:=h
def iE (h:p:=by rw [Us];omega):p:=h
def l3 (h:p:=by rfl):p:=h
def l7 (h:p:=by simp [World.setCell]):p:=h
def vf (h:p:=by unfold jP;decide):p:=h
def vm (h:p:=by simp [Act.eval,Act.put]):p:=h
def vy (h:p:=by simp [Value.ownBlock]):p:=h
def vE (h:q) (k:q->p:=by intro h;simpa using h):p:=k h
def A1 (h:p:=by simpa [Act.eval] using u1):p:=h
def Bf (h:p:=by cases h):p:=h
def B2 (h:p:=by simp [World.setRow]):p:=h
def B3 (h:p:=by simpa [Act.eval] using u0):p:=h
def B8 (h:p:=by rw [beq_eq_false_iff_ne];omega):p:=h
def B9 (h:p:=by unfold du;rw [if_pos rfl]):p:=h
def D2 (h:p:=by cases e;exact TV _):p:=h
def Jx (h:p:=by rw [m];decide):p:=h
def KP (h:p:=by rw [Ud];omega):p:=h
def K0 (h:p:=by unfold wrap64;omega):p:=h
def K1 (h:p:=by rw [Ug];omega):p:=h
def Lx (h:p:=by decide +kernel):p:=h
def Ok (h:p:=by simp [World.cell?,d]):p:=h
def V1 (h:p:=by simp [World.cell?,c.out.res]):p:=h
def V2 (h:p:=by simp [World.cell?,c.out.rv]):p:=h
def Wa (h:p:=by rw [Ue,a.out.2.2];decide):p:=h
def Wb (h:p:=by rw [gO];rfl):p:=h
def W7 (h:p:=by simp [World.putObj]):p:=h
def W8 (h:p:=by rw [p];decide):p:=h
def YY (h:p:=by simpa [Act.eval] using u2):p:=h
def YZ (h:p:=by simp [bP.os]):p:=h
def Y5 (h:p:=by rw [TZ,Uv]):p:=h
def Y6 (h:p:=by simp [World.cell?,t]):p:=h
def Y7 (h:p:=by simp [World.cell?,P,av]):p:=h
def Y8 (h:p:=by show k≠w.heap.size+1+1+1;omega):p:=h
def Y9 (h:p:=by rw [k];decide):p:=h
def Za (h:p:=by cases e):p:=h
def Zb (h:p:=by have:=a.out.2.2.2;have:=b.out.2.2.2.1;omega):p:=h
def Zc (h:p:=by rw [e]):p:=h
def Zd (h:p:=by rw [d,iG a b];simp):p:=h
def Ze (h:p:=by simp [World.cell?,f]):p:=h
def Zf (h:p:=by cases e;omega):p:=h
def Zg (h:p:=by simp [mY,Value.oneCell']):p:=h
def Zh (h:p:=by simpa [Value.ownBlock] using e):p:=h
def Zi (h:p:=by have:=N.out;have:=M.out;omega):p:=h
def Zj (h:p:=by simp [World.cell?,O]):p:=h
def Zl (h:p:=by obtain ⟨q,_⟩:=UT.1 b;rwa [bQ] at q):p:=h
def Zm (h:p:=by simp [Value.oneCell']):p:=h
def Zn (h:p:=by rw [Vh];omega):p:=h
def Zo (h:p:=by rw [H.out.2.2];exact H.out.1):p:=h
def Zp (h:p:=by unfold aJ;rw [Ul,T2 a,T6,T2 a];rfl):p:=h
def Zq (h:p:=by cases e;rfl):p:=h
def Zr (h:p:=by simp [World.setCell];omega):p:=h
def Zs (h:p:=by simp [Act.eval]):p:=h
def Zt (h:p:=by simp [MU]):p:=h
def Zv (h:p:=by simp [a]):p:=h
def Zw (h:p:=by rw [a];rfl):p:=h
def Zx (h:p:=by intro e;rw [e] at a;simp at a):p:=h
def Zy (h:p:=by simp [World.cell?,H,av]):p:=h
def Zz (h:p:=by simp [bx.body]):p:=h
def ZA (h:p:=by rw [bw];omega):p:=h
def ZB (h:p:=by simp [c]):p:=h
def ZC (h:p:=by rw [a];decide):p:=h
def ZD (h:p:=by show 0<256;decide):p:=h
def ZE (h:p:=by simp [World.cell?,ht]):p:=h
def ZF (h:p:=by show ¬ n+8<8;omega):p:=h
def ZG (h:p:=by simp [results,results164]):p:=h
def ZH (h:p:=by simp at a):p:=h
def ZI (h:p:=by rw [H.out.2];rfl):p:=h
def abB (h:p:=by simp [Value.ownBlock] at e):p:=h
def abC (h:p:=by simp [World.cell?,R.out.1]):p:=h
def abD (h:p:=by exact m.out.2.2.1):p:=h
def abE (h:p:=by rw [<- e];exact c):p:=h
def abF (h:p:=by rw [t];decide):p:=h
def abG (h:p:=by unfold dQ;simp [dD];omega):p:=h
def abH (h:p:=by simp only [fy,m];decide):p:=h
def abI (h:p:=by exact H.out.1):p:=h
def abJ (h:p:=by rw [s];decide):p:=h
def abK (h:p:=by rw [gj];omega):p:=h
def abL (h:p:=by simpa [Act.eval] using u3):p:=h
def abN (h:p:=by have:=d.out;congr 1;omega):p:=h
def abO (h:p:=by exact a.out.1):p:=h
def abP (h:p:=by rw [hs.nN];exact hs.par.s):p:=h
def abQ (h:p:=by simp [b]):p:=h
def abR (h:p:=by simp [World.frozen?,G]):p:=h
def abS (h:p:=by simp [World.frozen?,H]):p:=h
def abT (h:p:=by simp [World.frozen?,z]):p:=h
def abU (h:p:=by simp [World.cell?,b.par]):p:=h
def abV (h:p:=by show ¬ n+15<15;omega):p:=h
def abW (h:p:=by show ¬ n+13<13;omega):p:=h
def abX (h:p:=by rw [Ud,Ue];omega):p:=h
def abY (h:p:=by simp [World.cell?,H]):p:=h
def abZ (h:p:=by simp [World.cell?,z]):p:=h
def ab0 (h:p:=by cases b):p:=h
def ab1 (h:p:=by simp [World.cell?,W]):p:=h
def ab2 (h:p:=by show ¬ n+4<4;omega):p:=h
def ab3 (h:p:=by unfold dP;omega):p:=h
abbrev a9:=List Nat
end Go.Proofs.YtmpnnokoodjllaaGreatDoor
namespace Go.Proofs.YtmpnnokoodjllaaGreatDoor
def WA:=@Nat.xor_lt_two_pow
def WB:=@Nat.mul_comm
def WC:=@Nat.mod_two_eq_zero_or_one
def Vu:=@Nat.xor_assoc
def U2:=@Nat.xor_self
def Vg:=@Nat.xor_zero
def TY:=@Nat.lt_of_lt_of_le
def VC:=@Nat.pow_lt_pow_right
def We:=@Nat.zero_xor
def WD:=@Nat.eq_of_testBit_eq
def Yq:=@Nat.testBit_xor
def T4:=@List.getElem_mem
def VJ:=@List.getElem?_eq_none
def Xn:=@Nat.not_lt
def T3:=@Nat.zero_le
def Yr:=@Nat.le_succ_of_le
def TV:=@Nat.le_refl
def Uq:=@List.mem_range
def V3:=@List.foldl_append
def VU:=@Option.map_eq_some_iff
def Xo:=@List.getElem_append_right
def WZ:=@List.getElem_append_left
def Wp:=@Nat.sub_self
def Ub:=@List.mem_append
def U9:=@List.mem_singleton
def UN:=@List.mem_append_left
def Xp:=@List.prefix_append
def abw:=@Nat.testBit_mul_two_pow
def abx:=@Nat.testBit_div_two_pow
def Vq:=@List.mem_filter
def Ys:=@List.filter_filter
def V4:=@List.filter_append
def Yt:=@List.pairwise_append
def Yu:=@List.filter_eq_nil_iff
def TU:=@Nat.le_trans
def Wf:=@List.foldl_cons
def Wq:=@List.length_filter_le
def V5:=@Ne.symm
def Va:=@List.getElem_of_mem
def Vb:=@Nat.add_assoc
def Vl:=@List.range_succ
def T5:=@List.length_append
end Go.Proofs.YtmpnnokoodjllaaGreatDoor
namespace Go.Proofs.YtmpnnokoodjllaaGreatDoor.Gf
variable {R X:(Nat->Nat)->Prop} {T T':List a9} {L:a9} {x y a i b c r n k D cnt s j P:Nat} {u f:Nat->Nat} {m M:Nat->Nat->Nat}
def tx (a:Nat):Nat:=if a<128 then 2*a else (2*a-256)^^^29
def yO:Nat->Nat->Nat->Nat->Nat
 | 0,_,_,p=>p
 | n+1,a,b,p=>yO n (tx a) (b/2) (if b%2=1 then p^^^a else p)
def gm (a b:Nat):Nat:=yO 8 a b 0
def OC:Nat->Nat->Nat->Nat
 | 0,_,v=>v
 | n+1,p,v=>OC n (gm p p) (gm v (gm p p))
def gi (a:Nat):Nat:=OC 7 a 1
def xlt (a:x<256) (b:y<256):x^^^y<256:=WA (n:=8) a b
theorem At (h:a<256):tx a<256:=by
 unfold tx;split
 . omega
 . exact xlt eb ec
theorem O0 (n:Nat):∀ a b p,a<256->p<256->yO n a b p<256:=by
 induction n with
 | zero=>intro a b p _ c;exact c
 | succ n ih=>
  intro a b p d c;unfold yO;refine ih _ _ _ (At d) ?_;split
  . exact xlt c d
  . exact c
def bD (b:Nat) (c:a<256):gm a b<256:=O0 8 a b 0 c ec
def O1 (n:Nat):∀ p v,p<256->v<256->OC n p v<256:=by
 induction n with
 | zero=>intro p v _ hv;exact hv
 | succ n ih=>intro p v a hv;unfold OC;exact ih _ _ (bD _ a) (bD _ hv)
def lz (h:a<256):gi a<256:=O1 7 a 1 h ec
def Au (x y:Nat):2*(x^^^y)=(2*x)^^^(2*y):=by
 have:=Nat.shiftLeft_xor_distrib (a:=x) (b:=y) (i:=1);simp only [Nat.shiftLeft_eq,Nat.pow_one] at this;rw [WB,this,WB x,WB y]
def Jf (x y:Nat):(x^^^y)/2=(x/2)^^^(y/2):=Nat.xor_div_two
def Av (x y:Nat):(x^^^y)%2=(x%2+y%2)%2:=by
 have h:=YE (a:=x) (b:=y) (n:=1);simp only [Nat.pow_one] at h;rw [h];have c:=WC x;have d:=WC y;rcases c with c|c<;>rcases d with d|d<;>rw [c,d]<;>rfl
def MV (a b c d:Nat):(a^^^b)^^^(c^^^d)=(a^^^c)^^^(b^^^d):=by
 rw [Vu,Vu,<- Vu b c d,YD b c,Vu c b d]
def Jg:∀ a,a<256->tx a=(2*a)%256^^^(if a/128%2=1 then 29 else 0):=Lx
def O2 (x y:Nat):(x^^^y)/128%2=(x/128%2+y/128%2)%2:=by
 have:(x^^^y)/128=(x/128)^^^(y/128):=Nat.xor_div_two_pow (n:=7);rw [this];exact Av _ _
theorem O3 (c:x<256) (d:y<256):tx (x^^^y)=tx x^^^tx y:=by
 rw [Jg _ (xlt c d),Jg _ c,Jg _ d,MV,Au];have h:=YE (a:=2*x) (b:=2*y) (n:=8);have e:(2:Nat)^8=256:=rfl;rw [e] at h;rw [h,O2];congr 1;have c:=WC (x/128);have d:=WC (y/128);rcases c with c|c<;>rcases d with d|d<;>rw [c,d]<;>rfl
theorem F4 (n:Nat):∀ a b c p q,yO n a (b^^^c) (p^^^q)=yO n a b p^^^yO n a c q:=by
 induction n with
 | zero=>intro a b c p q;rfl
 | succ n ih=>
  intro a b c p q;simp only [yO];rw [Jf,<- ih,Av];congr 1;have d:=WC b;have e:=WC c;rcases d with d|d<;>rcases e with e|e<;>rw [d,e]<;>simp
  . rw [Vu]
  . rw [Vu,YD q a,<- Vu]
  . rw [MV,U2,Vg]
theorem F5 (n:Nat):∀ a d b p q,a<256->d<256->yO n (a^^^d) b (p^^^q)=yO n a b p^^^yO n d b q:=by
 induction n with
 | zero=>intro a d b p q _ _;rfl
 | succ n ih=>
  intro a d b p q c e;simp only [yO];rw [O3 c e,<- ih _ _ _ _ _ (At c) (At e)];congr 1;by_cases h:b%2=1
  . simp only [h,if_true];exact MV _ _ _ _
  . simp only [h,if_false]
def fL (a b c:Nat):gm a (b^^^c)=gm a b^^^gm a c:=F4 8 a b c 0 0
def gM {d:Nat} (b:Nat) (c:a<256) (e:d<256):gm (a^^^d) b=gm a b^^^gm d b:=F5 8 a d b 0 0 c e
def Q3:∀ x,x<256->x=(if x%2=1 then 1 else 0)^^^((if x/2%2=1 then 2 else 0)^^^((if x/4%2=1 then 4 else 0)^^^((if x/8%2=1 then 8 else 0)^^^((if x/16%2=1 then 16 else 0)^^^((if x/32%2=1 then 32 else 0)^^^((if x/64%2=1 then 64 else 0)^^^(if x/128%2=1 then 128 else 0))))))):=by
 decide +kernel
theorem fp (f g:Nat->Nat) (d:∀ x y,x<256->y<256->f (x^^^y)=f x^^^f y) (j:∀ x y,x<256->y<256->g (x^^^y)=g x^^^g y)
 (h:∀ i,i<8->f (2^i)=g (2^i)) (x:Nat) (B:x<256):f x=g x:=by
 have z:f 0=0:=by have:=d 0 0 ec ec;rw [U2,U2] at this;exact this
 have A:g 0=0:=by have:=j 0 0 ec ec;rw [U2,U2] at this;exact this
 have one:∀ (c:Prop) [Decidable c] (i:Nat),i<8->f (if c then 2^i else 0)=g (if c then 2^i else 0):=by
  intro c _ i a;split
  . exact h i a
  . rw [z,A]
 have lt:∀ (c:Prop) [Decidable c] (i:Nat),i<8->(if c then 2^i else 0)<256:=by
  intro c _ i a;split
  . exact TY (VC ec a) ec
  . decide
 have st:∀ (c:Prop) [Decidable c] (i y:Nat),i<8->y<256->f y=g y->f ((if c then 2^i else 0)^^^y)=g ((if c then 2^i else 0)^^^y):=by
  intro c _ i y a k e;rw [d _ _ (lt c i a) k,j _ _ (lt c i a) k,one c i a,e]
 have o:=lt (x/128%2=1) 7 ec;have n:=xlt (lt (x/64%2=1) 6 ec) o;have m:=xlt (lt (x/32%2=1) 5 ec) n;have l4:=xlt (lt (x/16%2=1) 4 ec) m;have l:=xlt (lt (x/8%2=1) 3 ec) l4;have l2:=xlt (lt (x/4%2=1) 2 ec) l;have l1:=xlt (lt (x/2%2=1) 1 ec) l2;have w:=one (x/128%2=1) 7 ec;have v:=st (x/64%2=1) 6 _ ec o w;have u:=st (x/32%2=1) 5 _ ec n v;have t:=st (x/16%2=1) 4 _ ec m u;have r:=st (x/8%2=1) 3 _ ec l4 t;have q:=st (x/4%2=1) 2 _ ec l r;have p:=st (x/2%2=1) 1 _ ec l2 q;have b:=st (x%2=1) 0 _ ec l1 p;have s:=Q3 x B;simp only [Nat.reducePow] at b;rw [<- s] at b;exact b
def De:∀ i,i<8->∀ j,j<8->gm (2^i) (2^j)=gm (2^j) (2^i):=Lx
def Aw:∀ i,i<8->∀ j,j<8->∀ k,k<8->gm (gm (2^i) (2^j)) (2^k)=gm (2^i) (gm (2^j) (2^k)):=Lx
def Jh (a:i<8):2^i<256:=TY (VC ec a) ec
def jR (e:a<256) (f:b<256):gm a b=gm b a:=by
 refine fp (λx=>gm a x) (λx=>gm x a) (λx y _ _=>fL a x y) (λx y c d=>gM a c d) (λi g=>?_) b f;refine fp (λx=>gm x (2^i)) (λx=>gm (2^i) x) (λx y c d=>gM _ c d) (λx y _ _=>fL _ x y) (λj h=>?_) a e;exact De j h i g
def gu (g:a<256) (h:b<256) (l:c<256):gm (gm a b) c=gm a (gm b c):=by
 refine fp (λx=>gm (gm x b) c) (λx=>gm x (gm b c)) (λx y d e=>?_) (λx y d e=>gM _ d e) (λi f=>?_) a g
 . show gm (gm (x^^^y) b) c=_;rw [gM _ d e,gM _ (bD _ d) (bD _ e)]
 refine fp (λx=>gm (gm (2^i) x) c) (λx=>gm (2^i) (gm x c)) (λx y d e=>?_) (λx y d e=>?_) (λj m=>?_) b h
 . show gm (gm (2^i) (x^^^y)) c=_;rw [fL,gM _ (bD _ (Jh f)) (bD _ (Jh f))]
 . show gm (2^i) (gm (x^^^y) c)=_;rw [gM _ d e,fL]
 refine fp (λx=>gm (gm (2^i) (2^j)) x) (λx=>gm (2^i) (gm (2^j) x)) (λx y _ _=>fL _ x y) (λx y _ _=>?_) (λk n=>?_) c l
 . show gm (2^i) (gm (2^j) (x^^^y))=_;rw [fL,fL]
 exact Aw i f j m k n
def iA:∀ a,a<256->gm a 1=a:=Lx
def Ay:∀ a,a<256->a≠0->gm a (gi a)=1:=Lx
def cL (a:Nat):gm a 0=0:=by have:=fL a 0 0;rw [U2,U2] at this;exact this
def cM (b:Nat):gm 0 b=0:=by have:=gM (a:=0) (d:=0) b ec ec;rw [U2,U2] at this;exact this
def cB (v:Nat->Nat):Prop:=∀ j,v j<256
def cI (u:Nat->Nat) (a:Nat) (r:Nat->Nat):Nat->Nat:=λj=>u j^^^gm a (r j)
def bg (R:(Nat->Nat)->Prop) (v:Nat->Nat):Prop:=∀ S:(Nat->Nat)->Prop,S (λ_=>0)->(∀ a r u,a<256->R r->S u->S (cI u a r))->S v
def bg.zero (R:(Nat->Nat)->Prop):bg R (λ_=>0):=λ_ a _=>a
def bg.step {r:Nat->Nat} (f:bg R u) (d:a<256) (e:R r):bg R (cI u a r):=λS c b=>b a r u d e (f S c b)
theorem wu (u:Nat->Nat) (r:Nat->Nat):cI u 0 r=u:=by funext j;simp [cI,cM]
theorem bg.mem {r:Nat->Nat} (b:cB r) (c:R r):bg R r:=by
 have:=bg.step (bg.zero R) (a:=1) ec c;have e:cI (λ_=>0) 1 r=r:=by
  funext j;show 0^^^gm 1 (r j)=r j;rw [jR ec (b j),iA _ (b j),We]
 rw [e] at this;exact this
theorem bg.add (f:∀ r,R r->cB r) {u v:Nat->Nat} (h:bg R u) {b:Nat} (c:b<256) (hv:bg R v):bg R (cI u b v):=by
 refine hv (λx=>bg R (cI u b x)) ?_ ?_
 . have e:cI u b (λ_=>0)=u:=(by funext j;simp [cI,cL]);show bg R (cI u b (λ_=>0));rw [e];exact h
 . intro a r x g d i;have e:cI u b (cI x a r)=cI (cI u b x) (gm b a) r:=by
    funext j;show u j^^^gm b (x j^^^gm a (r j))=(u j^^^gm b (x j))^^^gm (gm b a) (r j);rw [fL,gu c g (f r d j),Vu]
   show bg R (cI u b (cI x a r));rw [e];exact i.step (bD _ c) d
def bg.sub {R':(Nat->Nat)->Prop} (a:∀ r,R r->cB r) (h:∀ r,R' r->bg R r) {v:Nat->Nat} (hv:bg R' v):bg R v:=
 hv (bg R) (bg.zero R) (λ_ r _ b c d=>bg.add a d b (h r c))
def bg.Sb (h:∀ r,R r->r c=0) {v:Nat->Nat} (hv:bg R v):v c=0:=
 hv (λx=>x c=0) rfl (λa r u _ hr (hu:u c=0)=>by show u c^^^gm a (r c)=0;rw [hu,h r hr,cL];exact U2 0)
theorem bg.S3 {R1:(Nat->Nat)->Prop} {p:Nat->Nat} (m:∀ r,R r->cB r) (A:R p) (H:p c≠0)
 (o:∀ r,R1 r->∃ q f,R q/\f<256/\r=cI q f p/\r c=0)
 (E:∀ q,R q->q=p\/∃ f r,f<256/\R1 r/\q=cI r f p) (v:Nat->Nat):bg R1 v↔bg R v/\v c=0:=by
 have K:∀ r,R1 r->cB r:=by
  intro r d;obtain ⟨q,f,l,n,rfl,_⟩:=o r d;exact λj=>xlt (m q l j) (bD _ n)
 constructor
 . intro hv;refine ⟨bg.sub m (λr d=>?_) hv,bg.Sb (λr d=>?_) hv⟩
   . obtain ⟨q,f,l,n,rfl,_⟩:=o r d;exact (bg.mem (m q l) l).step n A
   . obtain ⟨q,f,_,_,_,h⟩:=o r d;exact h
 . rintro ⟨hv,I⟩;have key:∃ b,b<256/\bg R1 (cI v b p):=by
    refine hv (λx=>∃ b,b<256/\bg R1 (cI x b p)) ⟨0,ec,by rw [wu];exact bg.zero R1⟩ ?_;rintro a q u k l ⟨b,g,C⟩;rcases E q l with rfl|⟨f,r,n,d,rfl⟩
    . refine ⟨b^^^a,xlt g k,?_⟩;have e:cI (cI u a q) (b^^^a) q=cI u b q:=by
       funext j;show (u j^^^gm a (q j))^^^gm (b^^^a) (q j)=u j^^^gm b (q j);rw [gM _ g k,Vu,YD (gm b (q j)),<- Vu (gm a (q j)),U2,We]
      rw [e];exact C
    . refine ⟨b^^^gm a f,xlt g (bD _ k),?_⟩;have e:cI (cI u a (cI r f p)) (b^^^gm a f) p=cI (cI u b p) a r:=by
       funext j;show (u j^^^gm a (r j^^^gm f (p j)))^^^gm (b^^^gm a f) (p j)=(u j^^^gm b (p j))^^^gm a (r j);rw [fL,gM _ g (bD _ k),gu k n (m p A j)];generalize gm a (gm f (p j))=t;generalize gm b (p j)=s;generalize gm a (r j)=y;generalize u j=z;apply WD;intro i;simp only [Yq];cases z.testBit i<;>cases y.testBit i<;>cases t.testBit i<;>cases s.testBit i<;>rfl
      rw [e];exact C.step k d
   obtain ⟨b,g,B⟩:=key;have D:=bg.Sb (λr d=>by obtain ⟨q,f,_,_,_,h⟩:=o r d;exact h) B;have F:gm b (p c)=0:=by
    have:v c^^^gm b (p c)=0:=D;rwa [I,We] at this
   have G:b=0:=by
    have w:=m p A c;have J:=lz w;have e:=gu g w J;rw [F,cM,Ay _ w H,iA b g] at e;exact e.symm
   rw [G,wu] at B;exact B
def dw:Nat->((Nat->Nat)->Prop)->Nat->Nat->Prop
 | 0,_,_,k=>k=0
 | n+1,R,c,k=>((∀ r,R r->r c=0)/\dw n R (c+1) k)\/(∃ p,R p/\p c≠0)/\∃ R1,(∀ r,R1 r->cB r)/\(∀ v,bg R1 v↔bg R v/\v c=0)/\∃ k',k=k'+1/\dw n R1 (c+1) k'
def m7 (l:a9):Nat->Nat:=λj=>l.getD j 0
def yP (T:List a9) (r:Nat):(Nat->Nat)->Prop:=λv=>∃ i,∃ h:i<T.length,r<=i/\v=m7 T[i]
def Ji {l:a9} (h:∀ x∈l,x<256):cB (m7 l):=by
 intro j;unfold m7;by_cases a:j<l.length
 . have e:l.getD j 0=l[j]:=Zv;rw [e];exact h _ (T4 a)
 . have e:l.getD j 0=0:=(by simp [VJ (Xn.1 a)]);rw [e];decide
def oh (h:∀ l∈T,∀ x∈l,x<256) (r:Nat):∀ v,yP T r v->cB v:=by
 rintro v ⟨i,a,_,rfl⟩;exact Ji (h _ (T4 a))
theorem iB (q p:Nat->Nat) (f:Nat):cI (cI q f p) f p=q:=by
 funext j;show (q j^^^gm f (p j))^^^gm f (p j)=q j;rw [Vu,U2,Vg]
def Df (h:∀ i (a:i<T.length),r<=i->m7 T[i] c=0) (ht:dw n (yP T r) (c+1) k):dw (n+1) (yP T r) c k:=
 .inl ⟨by rintro v ⟨i,a,b,rfl⟩;exact h i a b,ht⟩
theorem Az {p:Nat} (y:∀ l∈T,∀ x∈l,x<256) (t:∀ l∈T',∀ x∈l,x<256) (A:T'.length=T.length) (m:r<=p) (o:p<T.length) (j:m7 T[p] c≠0)
 (d:∀ i (g:i<T'.length),r<i->∃ f,∃ h:(if i=p then r else i)<T.length,f<256/\m7 T'[i]=cI (m7 T[if i=p then r else i]) f (m7 T[p])/\m7 T'[i] c=0)
 (ht:dw n (yP T' (r+1)) (c+1) k):dw (n+1) (yP T r) c (k+1):=by
 have w:=oh y r;refine .inr ⟨⟨m7 T[p],⟨p,o,m,rfl⟩,j⟩,yP T' (r+1),oh t (r+1),?_,k,rfl,ht⟩;refine bg.S3 (p:=m7 T[p]) w ⟨p,o,m,rfl⟩ j ?_ ?_
 . rintro v ⟨i,g,u,rfl⟩;obtain ⟨f,h,b,e,z⟩:=d i g eb;exact ⟨_,f,⟨_,h,by split<;>omega,rfl⟩,b,e,z⟩
 . rintro q ⟨i,g,u,rfl⟩;by_cases e:i=p
   . subst e;exact .inl rfl
   . right;by_cases s:i=r
     . subst s;obtain ⟨f,h,b,a,_⟩:=d p eb eb;simp only [if_pos] at a;refine ⟨f,m7 T'[p],b,⟨p,eb,eb,rfl⟩,?_⟩;rw [a,iB]
     . obtain ⟨f,h,b,a,_⟩:=d i eb eb;simp only [if_neg e] at a;refine ⟨f,m7 T'[i],b,⟨i,eb,eb,rfl⟩,?_⟩;rw [a,iB]
def sG (b:x<256) (a:y<256) (h:y≠0):x^^^gm (gm x (gi y)) y=0:=by
 rw [gu b (lz a) a,jR (lz a) a,Ay y a h,iA x b,U2]
def sH (D:List a9) (k:Nat):Prop:=dw 64 (yP D 0) 0 k
theorem F6 (e:T.length=T'.length) (h:∀ i (c:i<T.length) (d:i<T'.length),m7 T[i]=m7 T'[i]) (r:Nat):yP T r=yP T' r:=by
 funext v;apply propext;constructor
 . rintro ⟨i,a,b,rfl⟩;exact ⟨i,eb,b,h i a eb⟩
 . rintro ⟨i,a,b,rfl⟩;exact ⟨i,eb,b,(h i eb a).symm⟩
def Dg (R:(Nat->Nat)->Prop) (c m:Nat):Prop:=∀ v,cB v->(∀ j,j<c\/c+m<=j->v j=0)->bg R v
def nh (m:Nat):Nat->Nat:=λj=>if j=m then 1 else 0
theorem sI (m:Nat):cB (nh m):=λj=>by unfold nh;split<;>decide
def dw.le:∀ n (R:(Nat->Nat)->Prop) (c k m:Nat),(∀ j,c+m<=j->∀ r,R r->r j=0)->dw n R c k->k<=m
 | 0,_,_,_,_,_,h=>by rw [h];exact T3 _
 | n+1,R,c,k,m,hz,h=>by
  rcases h with ⟨_,h⟩|⟨⟨p,i,g⟩,d,e,f,k1,rfl,h⟩
  . cases m with
    | zero=>exact dw.le n R (c+1) k 0 (λj a=>hz j eb) h
    | succ m=>exact Yr (dw.le n R (c+1) k m (λj a=>hz j eb) h)
  . cases m with
    | zero=>exact absurd (hz c eb p i) g
    | succ m=>
     have:=dw.le n d (c+1) k1 m (λj a r b=>bg.Sb (hz j eb) ((f r).1 (bg.mem (e r b) b)).1) h;omega
theorem dw.Tm:∀ n (R:(Nat->Nat)->Prop) (c m:Nat),(∀ r,R r->cB r)->(∀ j,c+m<=j->∀ r,R r->r j=0)->(∀ j,j<c->∀ r,R r->r j=0)->dw n R c m->Dg R c m
 | 0,R,c,m,hb,hz,hl,h=>by
  intro v _ hv;obtain rfl:m=0:=h;have e:v=λ_=>0:=by funext j;exact hv j eb
  rw [e];exact bg.zero R
 | n+1,R,c,m,hb,hz,hl,h=>by
  cases m with
  | zero=>
   intro v _ hv;have e:v=λ_=>0:=(by funext j;exact hv j eb);rw [e];exact bg.zero R
  | succ m=>
   rcases h with ⟨x,h⟩|⟨⟨p,d,s⟩,f,i,g,k1,e,h⟩
   . have:=dw.le n R (c+1) (m+1) m (λj b=>hz j eb) h;omega
   . obtain rfl:k1=m:=eb;have sub:=λr (a:f r)=>(g r).1 (bg.mem (i r a) a);have ih:=dw.Tm n f (c+1) k1 i (λj b r a=>bg.Sb (hz j eb) (sub r a).1)
      (λj b r a=>by
       by_cases e:j=c
       . rw [e];exact (sub r a).2
       . exact bg.Sb (hl j eb) (sub r a).1) h
     intro v hv u;have l:=hv c;have t:=hb p d c;have k:=bD (gi (p c)) l;have w:=ih (cI v (gm (v c) (gi (p c))) p) (λj=>xlt (hv j) (bD _ k)) (by
      intro j b;show v j^^^gm (gm (v c) (gi (p c))) (p j)=0;by_cases e:j=c
      . rw [e];exact sG l t s
      . have o:v j=0:=u j eb;have q:p j=0:=by
         rcases b with b|b
         . exact hl j eb p d
         . exact hz j eb p d
        rw [o,q,cL,U2])
     have:=((g _).1 w).1.step k d;rwa [iB] at this
def dw.Tg:∀ n (R:(Nat->Nat)->Prop) (c k m:Nat),m<=n->(∀ j,c+m<=j->∀ r,R r->r j=0)->Dg R c m->dw n R c k->k=m
 | 0,_,_,_,m,hm,_,_,h=>by rw [h];omega
 | n+1,R,c,k,m,hm,hz,hF,h=>by
  cases m with
  | zero=>have:=dw.le (n+1) R c k 0 hz h;omega
  | succ m=>
   rcases h with ⟨g,h⟩|⟨⟨p,q,o⟩,f,l,a,k1,rfl,h⟩
   . have i:=hF (nh c) (sI c) (λj d=>if_neg eb);have:=bg.Sb g i;simp [nh] at this
   . have:=dw.Tg n f (c+1) k1 m eb (λj d r e=>bg.Sb (hz j eb) ((a r).1 (bg.mem (l r e) e)).1)
      (λv hv b=>(a v).2 ⟨hF v hv (λj d=>b j eb),b c eb⟩) h
     omega
theorem F7 {D:List a9} {m:Nat} (d:∀ l∈D,∀ x∈l,x<256) (f:∀ l∈D,l.length<=m) (g:m<=64) (h:sH D k):k=m↔Dg (yP D 0) 0 m:=by
 have b:∀ j,0+m<=j->∀ r,yP D 0 r->r j=0:=by
  rintro j a r ⟨i,e,_,rfl⟩;unfold m7;have:=f _ (T4 e);simp [VJ (eb:(D[i]).length<=j)]
 constructor
 . rintro rfl;exact dw.Tm 64 _ 0 k (oh d 0) b (λj a=>absurd a eb) h
 . intro c;exact dw.Tg 64 _ 0 k m g b c h
theorem Dg.units (d:∀ r,R r->cB r) {m:Nat} (h:∀ j,j<m->bg R (nh j)):Dg R 0 m:=by
 intro v hv f;have key:∀ t,t<=m->bg R (λj=>if j<t then v j else 0):=by
  intro t;induction t with
  | zero=>intro _;exact bg.zero R
  | succ t ih=>
   intro ht;have:=bg.add d (ih eb) (hv t) (h t eb);have e:cI (λj=>if j<t then v j else 0) (v t) (nh t)=λj=>if j<t+1 then v j else 0:=by
    funext j;show (if j<t then v j else 0)^^^gm (v t) (if j=t then 1 else 0)=if j<t+1 then v j else 0;by_cases a:j=t
    . subst a;simp [iA _ (hv j)]
    . rw [if_neg a,cL,Vg];by_cases b:j<t
      . rw [if_pos b,if_pos eb]
      . rw [if_neg b,if_neg eb]
   rwa [e] at this
 have:=key m (TV _);have e:(λj=>if j<m then v j else 0)=v:=by
  funext j;by_cases c:j<m
  . rw [if_pos c]
  . rw [if_neg c];exact (f j eb).symm
 rwa [e] at this
def Q4 (b:a<256) (h:a≠0):gi a≠0:=by
 intro e;have:=Ay a b h;rw [e,cL] at this;exact absurd this ec
structure Ck where
 m:Nat->Nat->Nat
 told:Nat
 count:Nat
def dH (C:Ck) (i:Nat):Option Nat:=(YC C.count).find? (λr=>decide (C.told<=r)&&decide (C.m r i≠0))
def ia {C:Ck} (h:dH C i=some r):C.told<=r/\r<C.count/\C.m r i≠0:=by
 unfold dH at h;have a:=List.find?_some h;have b:=List.mem_of_find?_eq_some h;simp at a b;exact ⟨a.1,b,a.2⟩
def yQ {C:Ck} (h:dH C i=none) (r:Nat) (a:C.told<=r) (b:r<C.count):C.m r i=0:=by
 unfold dH at h;rw [YF] at h;have:=h r (Uq.2 b);simp [a] at this;exact this
def vA {C:Ck} (a:C.told<=r) (b:r<C.count) (c:C.m r i≠0) (d:∀ k,C.told<=k->k<r->C.m k i=0):dH C i=some r:=by
 unfold dH;rw [List.find?_range_eq_some];refine ⟨by simp [a,c],Uq.2 b,λj e=>?_⟩;by_cases h:C.told<=j
 . simp [d j h e]
 . simp [h]
def vC {C:Ck} (h:∀ r,C.told<=r->r<C.count->C.m r i=0):dH C i=none:=by
 unfold dH;rw [YF];intro r b;by_cases a:C.told<=r
 . simp [h r a (Uq.1 b)]
 . simp [a]
def cD (m:Nat->Nat->Nat) (cnt r i:Nat):Nat->Nat->Nat:=λk j=>if k<cnt/\k≠r then m k j^^^gm (gm (m k i) (gi (m r i))) (m r j) else m k j
def cV (m:Nat->Nat->Nat) (a b:Nat):Nat->Nat->Nat:=λk=>if k=a then m b else if k=b then m a else m k
def ez (m:Nat->Nat->Nat) (r i:Nat):Nat->Nat->Nat:=λk j=>if k=r then gm (m r j) (gi (m r i)) else m k j
def jk (C:Ck) (i r:Nat):Ck:=⟨cD (ez (cV C.m C.told r) C.told i) C.count C.told i,C.told+1,C.count⟩
def ig (C:Ck) (i r:Nat):Ck:=⟨λk=>if k=r then cD C.m C.count r i (C.count-1) else cD C.m C.count r i k,C.told,C.count-1⟩
def pI (C:Ck) (i:Nat):Option Ck:=(dH C i).map (jk C i)
def iC (C:Ck) (i:Nat):Option Ck:=(dH C i).map (ig C i)
def yR (C:Ck):Prop:=∀ r,cB (C.m r)
def pJ (C:Ck) (t:Nat):(Nat->Nat)->Prop:=λv=>∃ r,t<=r/\r<C.count/\v=C.m r
def wA {r:Nat->Nat} (c:cB u) (b:a<256):cB (cI u a r):=λj=>xlt (c j) (bD _ b)
theorem iD (h:k<cnt/\k≠r):cD m cnt r i k=cI (m k) (gm (m k i) (gi (m r i))) (m r):=by
 funext j;unfold cD cI;rw [if_pos h]
theorem oi (h:¬ (k<cnt/\k≠r)):cD m cnt r i k=m k:=by
 funext j;unfold cD;rw [if_neg h]
def oj (h:∀ k,cB (m k)) (k:Nat):cB (cD m cnt r i k):=by
 by_cases a:k<cnt/\k≠r
 . rw [iD a];exact wA (h k) (bD _ (h k i))
 . rw [oi a];exact h k
theorem jy (h:∀ k,cB (m k)) (k:Nat):cB (cV m a b k):=by
 unfold cV;split
 . exact h b
 . split
   . exact h a
   . exact h k
theorem sJ (h:∀ k,cB (m k)) (k:Nat):cB (ez m r i k):=λj=>by
 unfold ez;split
 . exact bD _ (h r j)
 . exact h k j
def F8 {C:Ck} (h:yR C):yR (jk C i r):=oj (sJ (jy h))
theorem nA {C:Ck} (h:yR C):yR (ig C i r):=λk=>by
 show cB (if k=r then _ else _);split
 . exact oj h _
 . exact oj h _
def wB {C:Ck} (h:yR C) (t:Nat):∀ r,pJ C t r->cB r:=by
 rintro r ⟨k,_,_,rfl⟩;exact h k
def Dh (a:x<256) (b:y<256) (h:y≠0):x^^^gm (gm x (gi y)) y=0:=sG a b h
def Di {C:Ck} {t:Nat} (b:yR C) (ht:t<=C.told) (n:C.told<=r) (l:r<C.count) (g:C.m r i≠0) (v:Nat->Nat) :
 bg (pJ (ig C i r) t) v↔bg (pJ C t) v/\v i=0:=by
 refine bg.S3 (p:=C.m r) (wB b t) ⟨r,eb,l,rfl⟩ g ?_ ?_ v
 . rintro q ⟨k,k1,k2,rfl⟩;have:k<C.count-1:=k2;have key:∀ a,t<=a->a<C.count->a≠r->∃ q f,pJ C t q/\f<256/\cD C.m C.count r i a=cI q f (C.m r)/\cD C.m C.count r i a i=0:=by
    intro a g1 c d;refine ⟨C.m a,gm (C.m a i) (gi (C.m r i)),⟨a,g1,c,rfl⟩,bD _ (b a i),iD ⟨c,d⟩,?_⟩;rw [iD ⟨c,d⟩];exact Dh (b a i) (b r i) g
   show ∃ q f,pJ C t q/\f<256/\(if k=r then cD C.m C.count r i (C.count-1) else cD C.m C.count r i k)=cI q f (C.m r)/\(if k=r then cD C.m C.count r i (C.count-1) else cD C.m C.count r i k) i=0;by_cases e:k=r
   . rw [if_pos e];exact key (C.count-1) eb eb eb
   . rw [if_neg e];exact key k k1 eb e
 . rintro q ⟨k,k1,k2,rfl⟩;by_cases e:k=r
   . left;rw [e]
   . right;have j:cD C.m C.count r i k=cI (C.m k) (gm (C.m k i) (gi (C.m r i))) (C.m r):=iD ⟨k2,e⟩;refine ⟨gm (C.m k i) (gi (C.m r i)),cD C.m C.count r i k,bD _ (b k i),?_,?_⟩
     . by_cases h:k=C.count-1
       . refine ⟨r,eb,by show r<C.count-1;omega,?_⟩;show _=(if r=r then cD C.m C.count r i (C.count-1) else cD C.m C.count r i r);rw [if_pos rfl,h]
       . refine ⟨k,k1,by show k<C.count-1;omega,?_⟩;show _=(if k=r then cD C.m C.count r i (C.count-1) else cD C.m C.count r i k);rw [if_neg e]
     . rw [j,iB]
def Dj {C:Ck} (c:k<C.told) (a:C.told<=r) (b:r<C.count):(ig C i r).m k=cI (C.m k) (gm (C.m k i) (gi (C.m r i))) (C.m r):=by
 show (if k=r then cD C.m C.count r i (C.count-1) else cD C.m C.count r i k)=_;rw [if_neg eb,iD ⟨eb,eb⟩]
def O4:gi 1=1:=Lx
theorem oq {C:Ck} (c:yR C) (p:k<C.count) (d:k≠C.told) (o:C.m r i≠0) :
 (jk C i r).m k=cI (cV C.m C.told r k) (gm (cV C.m C.told r k i) (gi (C.m r i))) (C.m r):=by
 have h:cV C.m C.told r C.told=C.m r:=by unfold cV;rw [if_pos rfl]
 have l:ez (cV C.m C.told r) C.told i k=cV C.m C.told r k:=by funext j;unfold ez;rw [if_neg d]
 have n:ez (cV C.m C.told r) C.told i C.told=λj=>gm (C.m r j) (gi (C.m r i)):=by funext j;unfold ez;rw [if_pos rfl,h]
 show cD (ez (cV C.m C.told r) C.told i) C.count C.told i k=_;rw [iD ⟨p,d⟩,l,n];funext j;show _^^^gm (gm _ (gi (gm (C.m r i) (gi (C.m r i))))) (gm (C.m r j) (gi (C.m r i)))=_^^^gm (gm _ (gi (C.m r i))) (C.m r j);have g:=jy (a:=C.told) (b:=r) c k i;have f:=c r i;have e:=lz f;rw [Ay _ f o,O4,iA _ g,jR (c r j) e,<- gu g e (c r j)]
theorem AA {C:Ck}:(jk C i r).m C.told=λj=>gm (C.m r j) (gi (C.m r i)):=by
 have a:cV C.m C.told r C.told=C.m r:=by unfold cV;rw [if_pos rfl]
 show cD (ez (cV C.m C.told r) C.told i) C.count C.told i C.told=_;rw [oi eb];funext j;unfold ez;rw [if_pos rfl,a]
def sK (c:k≠a) (d:k≠b):cV m a b k=m k:=by unfold cV;rw [if_neg c,if_neg d]
def F9 {C:Ck} (b:yR C) (l:C.told<=r) (j:r<C.count) (d:C.m r i≠0) (v:Nat->Nat) :
 bg (pJ (jk C i r) (C.told+1)) v↔bg (pJ C C.told) v/\v i=0:=by
 have n:∀ k,C.told+1<=k->k<C.count->∃ a,C.told<=a/\a<C.count/\a≠r/\cV C.m C.told r k=C.m a:=by
  intro k g1 c;by_cases e:k=r
  . refine ⟨C.told,eb,eb,eb,?_⟩;unfold cV;rw [if_neg eb,if_pos e]
  . exact ⟨k,eb,c,e,sK eb e⟩
 refine bg.S3 (p:=C.m r) (wB b _) ⟨r,l,j,rfl⟩ d ?_ ?_ v
 . rintro q ⟨k,k1,k2,rfl⟩;have h:k<C.count:=k2;obtain ⟨a,g1,c,o,e⟩:=n k k1 h;have ht:=oq (i:=i) (r:=r) b h eb d;rw [e] at ht;refine ⟨C.m a,gm (C.m a i) (gi (C.m r i)),⟨a,g1,c,rfl⟩,bD _ (b a i),ht,?_⟩;rw [ht];exact Dh (b a i) (b r i) d
 . rintro q ⟨k,k1,k2,rfl⟩;by_cases e:k=r
   . left;rw [e]
   . right;have f:∃ a,C.told+1<=a/\a<C.count/\cV C.m C.told r a=C.m k:=by
      by_cases g:k=C.told
      . refine ⟨r,eb,j,?_⟩;unfold cV;rw [if_neg eb,if_pos rfl,g]
      . exact ⟨k,eb,k2,sK g e⟩
     obtain ⟨a,g1,c,ge⟩:=f;have ht:=oq (i:=i) (r:=r) b c eb d;rw [ge] at ht;refine ⟨gm (C.m k i) (gi (C.m r i)),(jk C i r).m a,bD _ (b k i),⟨a,g1,c,rfl⟩,?_⟩;rw [ht,iB]
def QW (X:(Nat->Nat)->Prop):Prop:=X (λ_=>0)/\∀ a r u,a<256->X r->X u->X (cI u a r)
theorem Ga (c:QW X) {C:Ck} {i r:Nat} (d:yR C) (b:r<C.count) (h:∀ k,k<C.count->X (C.m k)):∀ k,k<(ig C i r).count->X ((ig C i r).m k):=by
 have key:∀ k,k<C.count->X (cD C.m C.count r i k):=by
  intro k a;by_cases e:k=r
  . rw [oi eb];exact h k a
  . rw [iD ⟨a,e⟩];exact c.2 _ _ _ (bD _ (d k i)) (h r b) (h k a)
 intro k a;have:k<C.count-1:=a;show X (if k=r then _ else _);split
 . exact key _ eb
 . exact key _ eb
theorem Jj (c:QW X) {C:Ck} {i r:Nat} (a:yR C) (n:C.told<=r) (b:r<C.count) (f:C.m r i≠0) (h:∀ k,k<C.count->X (C.m k)):∀ k,k<(jk C i r).count->X ((jk C i r).m k):=by
 intro k g;have d:k<C.count:=g;by_cases e:k=C.told
 . rw [e,AA];have l:X (cI (λ_=>0) (gi (C.m r i)) (C.m r)):=c.2 _ _ _ (lz (a r i)) (h r b) c.1;have e:cI (λ_=>0) (gi (C.m r i)) (C.m r)=λj=>gm (C.m r j) (gi (C.m r i)):=by
    funext j;show 0^^^gm (gi (C.m r i)) (C.m r j)=_;rw [We,jR (lz (a r i)) (a r j)]
   rwa [e] at l
 . rw [oq a d e f];refine c.2 _ _ _ (bD _ (jy a _ _)) (h r b) ?_;unfold cV;split
   . exact h r b
   . split
     . exact h _ eb
     . exact h k d
def tells (C:Ck) (L:a9):Option Ck:=L.foldl (λo i=>o.bind (λc=>pI c i)) (some C)
def jS (C:Ck) (L:a9) (i:Nat):tells C (L++[i])=(tells C L).bind (λc=>pI c i):=by unfold tells;rw [V3];rfl
def iV (C:Ck) (L b:a9) (h:tells C L=none):tells C (L++b)=none:=by
 unfold tells at *;rw [V3,h];induction b with
 | nil=>rfl
 | cons a l ih=>exact ih
structure fq (C0:Ck) (X:(Nat->Nat)->Prop) (L:a9) (C:Ck):Prop where
 told:C.told=L.length
 count:C.count=C0.count
 le:C.told<=C.count
 byt:yR C
 all:∀ k,k<C.count->X (C.m k)
 one:∀ k,k<L.length->∀ k' (h:k'<L.length),C.m k L[k']=if k=k' then 1 else 0
 spare:∀ v,bg (pJ C C.told) v↔bg (pJ C0 0) v/\∀ i∈L,v i=0
def fq.nil {C0:Ck} (a:C0.told=0) (c:yR C0) (b:∀ k,k<C0.count->X (C0.m k)):fq C0 X [] C0:=
 ⟨a,rfl,eb,c,b,λk d=>absurd d ek,λv=>by rw [a];simp⟩
theorem fq.snoc {C0 C C':Ck} (y:QW X) (h:fq C0 X L C) (s:pI C i=some C'):fq C0 X (L++[i]) C':=by
 unfold pI at s;rw [VU] at s;obtain ⟨r,A,rfl⟩:=s;obtain ⟨p,q,g⟩:=ia A;have t:∀ j,j∈L->C.m r j=0:=λj d=>((h.spare (C.m r)).1 (bg.mem (h.byt r) ⟨r,p,q,rfl⟩)).2 j d;have u:=h.told;refine ⟨?_,h.count,by show C.told+1<=C.count;omega,F8 h.byt,Jj y h.byt p q g h.all,?_,?_⟩
 . show C.told+1=_;simp [u]
 . intro k z f x;simp at z x;by_cases e:k=L.length
   . have w:k=C.told:=eb;rw [w,AA];by_cases n:f=L.length
     . subst n;rw [Xo eb];simp [u,Ay _ (h.byt r i) g]
     . have l:f<L.length:=eb;rw [WZ l];show gm (C.m r L[f]) _=_;rw [t _ (T4 l),cM,if_neg eb]
   . have l:k<L.length:=eb;rw [oq h.byt eb eb g,sK eb eb];by_cases n:f=L.length
     . subst n;rw [Xo eb];simp only [Wp,List.getElem_singleton];show C.m k i^^^gm (gm (C.m k i) (gi (C.m r i))) (C.m r i)=_;rw [Dh (h.byt k i) (h.byt r i) g,if_neg e]
     . have o:f<L.length:=eb;rw [WZ o];show C.m k L[f]^^^gm _ (C.m r L[f])=_;rw [t _ (T4 o),cL,Vg,h.one k l f o]
 . intro v;have:=F9 (i:=i) h.byt p q g v;show bg (pJ (jk C i r) (C.told+1)) v↔_;rw [this,h.spare v];constructor
   . rintro ⟨⟨a,b⟩,c⟩;exact ⟨a,λj d=>by rcases Ub.1 d with d|d;exact b j d;rw [U9.1 d];exact c⟩
   . rintro ⟨a,b⟩;exact ⟨⟨a,λj d=>b j (UN _ d)⟩,b i ek⟩
def fq.of {C0:Ck} (f:QW X) (l:C0.told=0) (o:yR C0) (n:∀ k,k<C0.count->X (C0.m k)):∀ (a L:a9) (C:Ck),fq C0 X L C->tells C0 L=some C ->
 (∃ b,tells C0 (L++a)=some b/\fq C0 X (L++a) b)\/(tells C0 (L++a)=none/\∃ pre i,(pre++[i])<+:(L++a)/\∀ v,bg (pJ C0 0) v->(∀ j∈pre,v j=0)->v i=0)
 | [],L,C,h,e=>.inl ⟨C,vE e,vE h⟩
 | i::a,L,C,h,e=>by
  have c:L++i::a=(L++[i])++a:=ek
  cases ht:pI C i with
  | none=>
   right;have d:tells C0 (L++[i])=none:=(by rw [jS,e];exact ht);refine ⟨by rw [c];exact iV _ _ _ d,L,i,by rw [c];exact Xp _ _,?_⟩;intro v hv s;have p:dH C i=none:=by
    unfold pI at ht;exact Option.map_eq_none_iff.1 ht
   exact bg.Sb (λr q=>by obtain ⟨k,k1,k2,rfl⟩:=q;exact yQ p k k1 k2) ((h.spare v).2 ⟨hv,s⟩)
  | some b=>
   have g:=h.snoc f ht;have d:tells C0 (L++[i])=some b:=(by rw [jS,e];exact ht);rw [c];exact fq.of f l o n a (L++[i]) b g d
def cy (C:Ck) (i:Nat):Bool:=(YC C.told).any (λr=>decide (C.m r i≠0))
theorem ij {C:Ck}:cy C i=false↔∀ r,r<C.told->C.m r i=0:=by
 unfold cy;rw [List.any_eq_false];constructor
 . intro h r a;have:=h r (Uq.2 a);simpa using this
 . intro h r a;simp [h r (Uq.1 a)]
def qU {C:Ck} (a:r<C.told) (b:C.m r i≠0):cy C i=Z9:=by
 cases h:cy C i with
 | true=>rfl
 | false=>exact absurd (ij.1 h r a) b
def jl (K:a9) (C:Ck):Nat:=(K.filter (cy C)).length
abbrev cd:=Ck×Nat
def eW (K:a9) (s:cd) (C:Ck):cd:=if jl K C=0\/jl K C<s.2 then (C,jl K C) else s
def ae (s:Nat):a9:=(YC 16).filter (λi=>s.testBit i)
def bI (s i:Nat):Nat:=s/2^(i+1)*2^(i+1)
def lA (s i j:Nat):(bI s i).testBit j=(decide (i<j)&&s.testBit j):=by
 unfold bI;rw [abw];by_cases h:i+1<=j
 . simp only [abx];rw [(eb:j-(i+1)+(i+1)=j)];simp [h,(eb:i<j)]
 . simp [h,(eb:¬ i<j)]
def qV (s:Nat):(ae s).Pairwise (· < ·):=(List.pairwise_lt_range (n:=16)).filter _
def bS:i∈ae s↔i<16/\s.testBit i=Z9:=by unfold ae;rw [Vq,Uq]
theorem AC {pre R:a9} (h:ae s=pre++i::R):ae (bI s i)=R:=by
 have e:ae (bI s i)=(ae s).filter (λj=>decide (i<j)):=by
  unfold ae;rw [Ys];apply List.filter_congr;intro j _;rw [lA]
 have b:=qV s;rw [h] at b;rw [e,h,V4,List.filter_cons];obtain ⟨l,f,g⟩:=Yt.1 b;obtain ⟨k,m⟩:=List.pairwise_cons.1 f;have c:pre.filter (λj=>decide (i<j))=[]:=Yu.2 (λj a=>by have:=g j a i ek;simp;omega);have d:R.filter (λj=>decide (i<j))=R:=List.filter_eq_self.2 (λj a=>by have:=k j a;simp;omega);rw [c,d];simp
def ik (rec:Ck->Nat->Nat->cd->cd) (C:Ck) (of:Nat) (a:Nat×cd×Bool) (i:Nat):Nat×cd×Bool:=
 if a.2.2=Z9 then a else if ¬ a.1<a.2.1.2 then (a.1,a.2.1,Z9) else
  match iC C i with
  | none=>a
  | some C'=>(a.1+1,rec C' (bI of i) a.1 a.2.1,false)
def iF (K:a9):Nat->Ck->Nat->Nat->cd->cd
 | 0,C,of,p,st=>((ae of).foldl (ik (λ_ _ _ s=>s) C of) (p,eW K st C,false)).2.1
 | n+1,C,of,p,st=>((ae of).foldl (ik (iF K n) C of) (p,eW K st C,false)).2.1
def yS (K:a9):Nat->Ck->Nat->Nat->cd->cd
 | 0=>λ_ _ _ s=>s
 | n+1=>iF K n
def pK (K:a9) (n:Nat) (C:Ck) (of p:Nat) (st:cd):iF K n C of p st=((ae of).foldl (ik (yS K n) C of) (p,eW K st C,false)).2.1:=by
 cases n<;>rfl
theorem AD (K:a9) (s:cd) (C:Ck):(eW K s C).2<=s.2:=by
 unfold eW;split
 . show jl K C<=s.2;omega
 . exact TV _
theorem Gb (K:a9) (s:cd) (C:Ck):(eW K s C).2<=jl K C:=by
 unfold eW;split
 . exact TV _
 . show s.2<=jl K C;omega
theorem MW {rec:Ck->Nat->Nat->cd->cd} (h:∀ C of p s,(rec C of p s).2<=s.2) (C:Ck) (of:Nat) (a:Nat×cd×Bool) (i:Nat):(ik rec C of a i).2.1.2<=a.2.1.2:=by
 unfold ik;split
 . exact TV _
 . split
   . exact TV _
   . split
     . exact TV _
     . exact h _ _ _ _
def ot {rec:Ck->Nat->Nat->cd->cd} (h:∀ C of p s,(rec C of p s).2<=s.2) (C:Ck) (of:Nat):∀ (L:a9) (a:Nat×cd×Bool),(L.foldl (ik rec C of) a).2.1.2<=a.2.1.2
 | [],_=>TV _
 | i::L,a=>TU (ot h C of L (ik rec C of a i)) (MW h C of a i)
def wC (K:a9):∀ n C of p s,(iF K n C of p s).2<=s.2
 | 0,C,of,_,s=>TU (ot (λ_ _ _ _=>TV _) C of _ _) (AD K s C)
 | n+1,C,of,_,s=>TU (ot (wC K n) C of _ _) (AD K s C)
def MX (K:a9) (n:Nat):∀ C of p s,(yS K n C of p s).2<=s.2:=by
 cases n with
 | zero=>exact λ_ _ _ _=>TV _
 | succ n=>exact wC K n
def wD (rec:Ck->Nat->Nat->cd->cd) (C:Ck) (of:Nat) (p:Nat) (s:cd):∀ L:a9,L.foldl (ik rec C of) (p,s,Z9)=(p,s,Z9)
 | []=>rfl
 | i::L=>by
  have e:ik rec C of (p,s,Z9) i=(p,s,Z9):=by unfold ik;rw [if_pos rfl]
  rw [Wf,e];exact wD rec C of p s L
def Dk (C:Ck) (j:Nat):Prop:=∀ r,C.told<=r->r<C.count->C.m r j=0
def Dk.span {C:Ck} (h:Dk C j) {v:Nat->Nat} (hv:bg (pJ C C.told) v):v j=0:=
 bg.Sb (λr a=>by obtain ⟨k,k1,k2,rfl⟩:=a;exact h k k1 k2) hv
def gv {C C':Ck} (h:iC C i=some C'):∃ r,C'=ig C i r/\C.told<=r/\r<C.count/\C.m r i≠0:=by
 unfold iC at h;rw [VU] at h;obtain ⟨r,d,rfl⟩:=h;obtain ⟨a,b,c⟩:=ia d;exact ⟨r,rfl,a,b,c⟩
def Dm {C C':Ck} (b:yR C) (h:iC C i=some C') (a:Dk C j\/j=i):Dk C' j:=by
 obtain ⟨r,rfl,c,d,e⟩:=gv h;intro k k1 k2;have:=(Di (t:=C.told) b (TV _) c d e ((ig C i r).m k)).1 (bg.mem (nA b k) ⟨k,k1,k2,rfl⟩);rcases a with a|rfl
 . exact a.span this.1
 . exact this.2
theorem Jk (h:x^^^y=0):x=y:=by
 have:=congrArg (·^^^y) h;simp only [We] at this;rwa [Vu,U2,Vg] at this
inductive jz (C:Ck):Ck->Prop
 | refl:jz C C
 | step {C1 C2:Ck} {i:Nat}:jz C C1->iC C1 i=some C2->jz C C2
def jz.trans {A B C:Ck} (h:jz A B) (a:jz B C):jz A C:=by
 induction a with
 | refl=>exact h
 | step _ b ih=>exact .step ih b
def sL (K:a9) (C:Ck) (s s':cd):Prop:=s'=s\/(jz C s'.1/\s'.2=jl K s'.1)
theorem AE (K:a9) (s:cd) (C:Ck):sL K C s (eW K s C):=by
 unfold eW;split
 . exact .inr ⟨.refl,rfl⟩
 . exact .inl rfl
theorem sM {K:a9} {rec:Ck->Nat->Nat->cd->cd} (h:∀ C of p s,sL K C s (rec C of p s)) (C:Ck) (of:Nat):∀ (L:a9) (a:Nat×cd×Bool),sL K C a.2.1 (L.foldl (ik rec C of) a).2.1
 | [],_=>.inl rfl
 | i::L,a=>by
  have d:sL K C a.2.1 (ik rec C of a i).2.1:=by
   unfold ik;split
   . exact .inl rfl
   . split
     . exact .inl rfl
     . split
       . exact .inl rfl
       . rename_i c g
         rcases h c (bI of i) a.1 a.2.1 with e|⟨b,f⟩
         . exact .inl e
         . exact .inr ⟨jz.trans (.step .refl g) b,f⟩
  rcases sM h C of L (ik rec C of a i) with e|b
  . rw [Wf,e];exact d
  . exact .inr b
def yT (K:a9):∀ n C of p s,sL K C s (iF K n C of p s):=by
 have comb:∀ {rec:Ck->Nat->Nat->cd->cd} (_:∀ C of p s,sL K C s (rec C of p s)) C of p s,sL K C s ((ae of).foldl (ik rec C of) (p,eW K s C,false)).2.1:=by
  intro rec h C of p s;rcases sM h C of (ae of) (p,eW K s C,false) with e|a
  . rw [e];exact AE K s C
  . exact .inr a
 intro n;induction n with
 | zero=>exact comb (λ_ _ _ _=>.inl rfl)
 | succ n ih=>exact comb ih
def aT (n:Nat) (C:Ck) (kept:Nat):cd:=iF (ae kept) n C kept 0 (C,(ae kept).length)
def MY (K:a9) (C:Ck):jl K C<=K.length:=Wq _ _
def yU (n:Nat) (C:Ck) (kept:Nat):jz C (aT n C kept).1/\(aT n C kept).2=jl (ae kept) (aT n C kept).1:=by
 rcases yT (ae kept) n C kept 0 (C,(ae kept).length) with e|h
 . have a:(aT n C kept).2<=jl (ae kept) C:=by
    unfold aT;rw [pK];exact TU (ot (MX _ n) C kept _ _) (Gb _ _ C)
   have b:aT n C kept=(C,(ae kept).length):=e;rw [b] at a ⊢;exact ⟨.refl,Nat.le_antisymm a (MY _ _)⟩
 . exact h
theorem jz.good {C C':Ck} (p:QW X) (u:jz C C') (q:yR C) (n:C.told<=C.count) (l:∀ k,k<C.count->X (C.m k))
 (o:∀ j∈L,Dk C j) :
 yR C'/\C'.told=C.told/\C'.told<=C'.count/\C'.count<=C.count/\(∀ k,k<C'.count->X (C'.m k))/\(∀ k,k<C.told->∀ j∈L,C'.m k j=C.m k j)/\∀ j∈L,Dk C' j:=by
 induction u with
 | refl=>exact ⟨q,rfl,n,TV _,l,λ_ _ _ _=>rfl,o⟩
 | step _ g ih=>
  obtain ⟨b,t,le,x,h,v,sp⟩:=ih;rename_i c w i _
  obtain ⟨r,a,f,e,y⟩:=gv g;refine ⟨by rw [a];exact nA b,by rw [a];exact t,by rw [a];show c.told<=c.count-1;omega,by rw [a];show c.count-1<=_;omega,by rw [a];exact Ga p b e h,?_,λj d=>Dm b g (.inl (sp j d))⟩;intro k s j d;rw [a,Dj eb f e];show c.m k j^^^gm _ (c.m r j)=_;rw [sp j d r f e,cL,Vg,v k s j d]
def xs (f:Nat->Nat):Nat->Nat
 | 0=>0
 | n+1=>xs f n^^^f n
def lB {g:Nat->Nat}:∀ n,(∀ i,i<n->f i=g i)->xs f n=xs g n
 | 0,_=>rfl
 | n+1,h=>by show xs f n^^^f n=xs g n^^^g n;rw [lB n (λi a=>h i eb),h n eb]
def sN (f g:Nat->Nat):∀ n,xs (λi=>f i^^^g i) n=xs f n^^^xs g n
 | 0=>(U2 0).symm
 | n+1=>by show xs _ n^^^(f n^^^g n)=(xs f n^^^f n)^^^(xs g n^^^g n);rw [sN f g n,MV]
def fM:∀ n,(∀ i,i<n->f i=0)->xs f n=0
 | 0,_=>rfl
 | n+1,h=>by show xs f n^^^f n=0;rw [fM n (λi a=>h i eb),h n eb];rfl
def Jl (c:Nat) (f:Nat->Nat):∀ n,xs (λi=>gm c (f i)) n=gm c (xs f n)
 | 0=>(cL c).symm
 | n+1=>by show xs _ n^^^gm c (f n)=gm c (xs f n^^^f n);rw [Jl c f n,fL]
def pL:∀ n,k<n->(∀ i,i<n->i≠k->f i=0)->xs f n=f k
 | 0,h,_=>absurd h eb
 | n+1,h,hz=>by
  show xs f n^^^f n=f k;by_cases e:k=n
  . rw [fM n (λi a=>hz i eb eb),e,We]
  . rw [pL n eb (λi a=>hz i eb),hz n eb eb,Vg]
def Jm:∀ n,(∀ i,i<n->f i<256)->xs f n<256
 | 0,_=>ZD
 | n+1,h=>xlt (Jm n (λi a=>h i eb)) (h n eb)
def Jn (f:Nat->Nat) (a:Nat):∀ b,xs f (a+b)=xs f a^^^xs (λi=>f (a+i)) b
 | 0=>(Vg _).symm
 | b+1=>by show xs f (a+b)^^^f (a+b)=xs f a^^^(xs _ b^^^f (a+b));rw [Jn f a b,Vu]
def Do (M:Nat->Nat->Nat) (D n:Nat) (v:Nat->Nat):Prop:=cB v/\(∀ i,n<=i->v i=0)/\∀ j,j<D->xs (λi=>gm (v i) (M i j)) n=0
def AF (M:Nat->Nat->Nat) (D n:Nat) (f:∀ i,cB (M i)):QW (Do M D n):=by
 refine ⟨⟨λ_=>ZD,λ_ _=>rfl,λj _=>fM n (λi _=>cM _)⟩,?_⟩;rintro a r u b ⟨g,h,k⟩ ⟨u1,u2,u3⟩;refine ⟨wA u1 b,λi c=>?_,λj d=>?_⟩
 . show u i^^^gm a (r i)=0;rw [u2 i c,h i c,cL];rfl
 . have e:xs (λi=>gm (cI u a r i) (M i j)) n=xs (λi=>gm (u i) (M i j)^^^gm a (gm (r i) (M i j))) n:=
    lB n (λi _=>by show gm (u i^^^gm a (r i)) (M i j)=_;rw [gM _ (u1 i) (bD _ b),gu b (g i) (f i j)])
   rw [e,sN,Jl,u3 j d,k j d,cL];rfl
def ni (M:Nat->Nat->Nat) (D P:Nat):Ck:=⟨λr j=>if r<P then (if j<D then M (D+r) j else if j=D+r then 1 else 0) else 0,0,P⟩
theorem sO (a:∀ i,cB (M i)):yR (ni M D P):=λr j=>by
 show (if r<P then _ else _)<256;split
 . split
   . exact a _ _
   . split<;>decide
 . decide
def AG (a:∀ i,cB (M i)) (d:∀ i,i<D->∀ j,M i j=if j=i then 1 else 0) (k:Nat) (f:k<P):Do M D (D+P) ((ni M D P).m k):=by
 have e:∀ i,(ni M D P).m k i=if i<D then M (D+k) i else if i=D+k then 1 else 0:=λi=>by show (if k<P then _ else _)=_;rw [if_pos f]
 refine ⟨sO a k,λi b=>by rw [e,if_neg eb,if_neg eb],λj c=>?_⟩;rw [Jn];have h:xs (λi=>gm ((ni M D P).m k i) (M i j)) D=M (D+k) j:=by
  rw [pL (k:=j) D c]
  . rw [e,if_pos c,d j c,if_pos rfl,iA _ (a _ _)]
  . intro i b g;rw [d i b,if_neg (V5 g),cL]
 have l:xs (λi=>gm ((ni M D P).m k (D+i)) (M (D+i) j)) P=M (D+k) j:=by
  rw [pL (k:=k) P f]
  . rw [e,if_neg eb,if_pos rfl,jR ec (a _ _),iA _ (a _ _)]
  . intro i b g;rw [e,if_neg eb,if_neg eb,cM]
 rw [h,l,U2]
theorem AH (f:Nat->Nat->Nat) (a:Nat->Nat) (b:cB a):∀ n,(∀ i,i<n->a i≠0->R (f i))->bg R (λj=>xs (λi=>gm (a i) (f i j)) n)
 | 0,_=>bg.zero R
 | n+1,h=>by
  have ih:=AH f a b n (λi d=>h i eb);by_cases e:a n=0
  . have c:(λj=>xs (λi=>gm (a i) (f i j)) (n+1))=λj=>xs (λi=>gm (a i) (f i j)) n:=by
     funext j;show _^^^gm (a n) (f n j)=_;rw [e,cM,Vg]
    rw [c];exact ih
  . exact ih.step (b n) (h n eb e)
def Sel (M:Nat->Nat->Nat) (n:Nat) (Q:Nat->Prop):(Nat->Nat)->Prop:=λv=>∃ i,i<n/\Q i/\v=M i
theorem yV {Q:Nat->Prop} (c:∀ i,cB (M i)) (g:∀ i j,D<=j->M i j=0) (r:k<n) {u:Nat->Nat} (s:Do M D n u) (o:u k=1) (m:∀ i,i<n->i≠k->u i≠0->Q i) :
 bg (Sel M n Q) (M k):=by
 obtain ⟨u1,u2,u3⟩:=s;have p:cB (λi=>if i=k then 0 else u i):=λi=>by show (if i=k then 0 else u i)<256;split;decide;exact u1 i
 have h:=AH (R:=Sel M n Q) M (λi=>if i=k then 0 else u i) p n (λi d a=>by
  by_cases e:i=k
  . simp [e] at a
  . exact ⟨i,d,m i d e (by simpa [e] using a),rfl⟩)
 have e:(λj=>xs (λi=>gm (if i=k then 0 else u i) (M i j)) n)=M k:=by
  funext j;by_cases q:j<D
  . have l:xs (λi=>gm (u i) (M i j)) n=xs (λi=>gm (if i=k then 0 else u i) (M i j)^^^gm (nh k i) (M i j)) n:=lB n (λi _=>by
     by_cases e:i=k
     . rw [if_pos e,cM,We,e,o];show _=gm (if k=k then 1 else 0) _;rw [if_pos rfl]
     . rw [if_neg e];show _=_^^^gm (if i=k then 1 else 0) _;rw [if_neg e,cM,Vg])
    have b:=u3 j q;rw [l,sN,pL (f:=λi=>gm (nh k i) (M i j)) (k:=k) n r] at b
    . have:=Jk b;rw [this];show gm (if k=k then 1 else 0) (M k j)=_;rw [if_pos rfl,jR ec (c k j),iA _ (c k j)]
    . intro i _ t;show gm (if i=k then 1 else 0) (M i j)=0;rw [if_neg t,cM]
  . rw [g k j eb];exact fM n (λi _=>by rw [g i j eb,cL])
 rwa [e] at h
structure Code (M:Nat->Nat->Nat) (D P:Nat):Prop where
 byt:∀ i,cB (M i)
 unit:∀ i,i<D->∀ j,M i j=if j=i then 1 else 0
 Sb:∀ i j,D<=j->M i j=0
def Code.told (h:Code M D P) (L:a9) :
 (∃ C,tells (ni M D P) L=some C/\fq (ni M D P) (Do M D (D+P)) L C)\/(tells (ni M D P) L=none/\∃ pre i,(pre++[i])<+:L/\∀ v,bg (pJ (ni M D P) 0) v->(∀ j∈pre,v j=0)->v i=0):=by
 have:=fq.of (AF M D (D+P) h.byt) (C0:=ni M D P) rfl (sO h.byt) (λk a=>AG h.byt h.unit k a) L [] (ni M D P) (fq.nil rfl (sO h.byt) (λk a=>AG h.byt h.unit k a)) rfl;simpa using this
structure Gc (M:Nat->Nat->Nat) (D P:Nat) (L:a9) (B:Ck):Prop where
 told:B.told=L.length
 le:B.told<=B.count
 So:B.count<=P
 byt:yR B
 dual:∀ k,k<B.told->Do M D (D+P) (B.m k)
 one:∀ k,k<L.length->∀ k' (h:k'<L.length),B.m k L[k']=if k=k' then 1 else 0
def Code.SQ (h:Code M D P) {L:a9} {C B:Ck} (ht:fq (ni M D P) (Do M D (D+P)) L C) (l:jz C B):Gc M D P L B:=by
 have g:∀ j∈L,Dk C j:=λj i r c a=>((ht.spare (C.m r)).1 (bg.mem (ht.byt r) ⟨r,c,a,rfl⟩)).2 j i;obtain ⟨b,t,le,p,f,o,_⟩:=l.good (AF M D (D+P) h.byt) ht.byt ht.le ht.all g;have:=ht.told;have a:=ht.count;refine ⟨eb,le,by have:C.count=P:=a;omega,b,λk e=>f k eb,λk e n d=>?_⟩;rw [o k eb _ (T4 d),ht.one k e n d]
def Gc.tells {B:Ck} (d:Code M D P) (h:Gc M D P L B) (o:∀ i∈L,i<D+P):∀ i∈L,bg (Sel M (D+P) (λj=>j∉L/\cy B j=Z9)) (M i):=by
 intro i f;obtain ⟨k,b,rfl⟩:=Va f;have c:k<B.told:=eT h.told
 refine yV d.byt d.Sb (o _ f) (h.dual k c) (by rw [h.one k b k b,if_pos rfl]) ?_;intro j _ n a;refine ⟨λl=>?_,qU c a⟩;obtain ⟨g,m,rfl⟩:=Va l;rw [h.one k b g m] at a;by_cases e:k=g
 . subst e;exact n rfl
 . rw [if_neg e] at a;exact a rfl
theorem Gc.sum {B:Ck} (s:Code M D P) (h:Gc M D P L B) (x:∀ i∈L,i<D+P) (d:Nat->Nat) (u:cB d) (k:Nat) (b:k<L.length) :
 xs (λi=>if i∈L then 0 else gm (B.m k i) (xs (λj=>gm (M i j) (d j)) D)) (D+P)=xs (λj=>gm (M L[k] j) (d j)) D:=by
 have t:k<B.told:=eT h.told
 obtain ⟨o,A,z⟩:=h.dual k t;have v:=x _ (T4 b);have r:∀ i,xs (λj=>gm (M i j) (d j)) D<256:=λi=>Jm D (λj _=>bD _ (s.byt i j));have swap:∀ n,xs (λi=>gm (B.m k i) (xs (λj=>gm (M i j) (d j)) D)) n=xs (λj=>gm (xs (λi=>gm (B.m k i) (M i j)) n) (d j)) D:=by
  intro n;induction n with
  | zero=>exact (fM D (λj _=>cM _)).symm
  | succ n ih=>
   show xs _ n^^^gm (B.m k n) (xs (λj=>gm (M n j) (d j)) D)=_;rw [ih,<- Jl,<- sN];apply lB;intro j _;show _=gm (xs _ n^^^gm (B.m k n) (M n j)) (d j);rw [gM _ (Jm n (λi _=>bD _ (o i))) (bD _ (o n)),gu (o n) (s.byt n j) (u j)]
 have l:xs (λi=>gm (B.m k i) (xs (λj=>gm (M i j) (d j)) D)) (D+P)=0:=by
  rw [swap];exact fM D (λj w=>by rw [z j w,cM])
 have e:xs (λi=>gm (B.m k i) (xs (λj=>gm (M i j) (d j)) D)) (D+P)=xs (λi=>(if i∈L then 0 else gm (B.m k i) (xs (λj=>gm (M i j) (d j)) D))^^^(if i=L[k] then xs (λj=>gm (M L[k] j) (d j)) D else 0)) (D+P):=by
  apply lB;intro i _;by_cases c:i∈L
  . obtain ⟨g,q,rfl⟩:=Va c;rw [if_pos c,We,h.one k b g q];by_cases e:L[g]=L[k]
    . rw [if_pos e,e];by_cases a:k=g
      . rw [if_pos a,jR ec (r _),iA _ (r _)]
      . have c1:=h.one k b k b;have p:=h.one k b g q;rw [e,c1,if_pos rfl,if_neg a] at p;exact absurd p ec
    . rw [if_neg e,if_neg (λa=>e (by subst a;rfl)),cM]
  . rw [if_neg c,if_neg (show ¬ i=L[k] from λa=>c (by rw [a];exact T4 b)),Vg]
 rw [e,sN,pL (f:=λi=>if i=L[k] then xs (λj=>gm (M L[k] j) (d j)) D else 0) (k:=L[k]) _ v] at l
 . rw [if_pos rfl] at l;exact Jk l
 . intro i _ y;rw [if_neg y]
def cp (f:Nat->Bool):Nat->Nat
 | 0=>0
 | n+1=>cp f n+(if f n=Z9 then 1 else 0)
def Jo (f:Nat->Bool) (a:Nat):∀ b,cp f (a+b)=cp f a+cp (λi=>f (a+i)) b
 | 0=>rfl
 | b+1=>by show cp f (a+b)+(if f (a+b)=Z9 then 1 else 0)=cp f a+(cp _ b+(if f (a+b)=Z9 then 1 else 0));rw [Jo f a b,Vb]
theorem wE (f:Nat->Bool):∀ n,((YC n).filter f).length=cp f n
 | 0=>rfl
 | n+1=>by
  rw [Vl,V4,T5,wE f n];show _=cp f n+_;congr 1;by_cases h:f n=Z9
  . simp [h]
  . simp [h]
def sP {f g:Nat->Bool}:∀ n,(∀ i,i<n->f i=g i)->cp f n=cp g n
 | 0,_=>rfl
 | n+1,h=>by show cp f n+_=cp g n+_;rw [sP n (λi a=>h i eb),h n eb]
def Jp (f:Nat->Bool):∀ n,cp f n+cp (λi=>!f i) n=n
 | 0=>rfl
 | n+1=>by
  have:=Jp f n;show (cp f n+(if f n=Z9 then 1 else 0))+(cp (λi=>!f i) n+(if (!f n)=Z9 then 1 else 0))=n+1;cases h:f n<;>simp<;>omega
