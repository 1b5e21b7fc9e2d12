set_option maxRecDepth 100000
set_option linter.all false
set_option maxHeartbeats 8000000
open List renaming range -> YE, find?_eq_none -> YI
open Nat renaming shiftLeft_xor_distrib -> YF, shiftLeft_eq -> YG, xor_mod_two_pow -> YH
namespace Go.Proofs.YthibhmemkhmocaaGreatDoor
variable {p q:Prop}
def ec (h:p:=by omega):p:=h
def ee (h:p:=by decide):p:=h
def ek (h:p:=by simp):p:=h
def en (h:p:=by simp;omega):p:=h
def eD (h:p:=by unfold maxLen;omega):p:=h
def eP (h:p:=by show w.heap.size<=w.heap.size+1;omega):p:=h
def e9 (h:q) (k:q->p:=by intro;omega):p:=k h
def iE (h:p:=by rw [ho];intro c h;cases h):p:=h
def l3 (h:p:=by rw [Uy];omega):p:=h
def l7 (h:p:=by simp [intOf];omega):p:=h
def oB (h:p:=by simp [World.setCell]):p:=h
def oD (h:q) (k:q->p:=by intro h;simpa using h):p:=k h
def um (h:p:=by rfl):p:=h
def vf (h:p:=by unfold jX;decide):p:=h
def vm (h:p:=by simp [Value.ownBlock]):p:=h
def vy (h:p:=by rw [beq_eq_false_iff_ne];omega):p:=h
def vE (h:p:=by cases h):p:=h
def Ax (h:p:=by decide +kernel):p:=h
def Bf (h:p:=by rw [aD];exact TV _):p:=h
def B3 (h:p:=by cases e;exact TV _):p:=h
def B8 (h:p:=by rw [Uh];omega):p:=h
def B9 (h:p:=by simp [Value.oneCell']):p:=h
def D2 (h:p:=by simp [Act.eval,Act.put]):p:=h
def E3 (h:p:=by unfold wrap64;omega):p:=h
def Jx (h:p:=by rw [Uo];omega):p:=h
def KP (h:p:=by simp [aL.os]):p:=h
def K0 (h:p:=by simp [World.cell?,d]):p:=h
def K1 (h:p:=by rw [Vb];omega):p:=h
def Lx (h:p:=by simp [World.cell?,c.o.res]):p:=h
def M2 (h:p:=by rw [gO];rfl):p:=h
def Ok (h:p:=by simp [World.putObj]):p:=h
def Pl (h:p:=by simp [World.cell?,c.o.rv]):p:=h
def T1 (h:p:=by rw [Um,a.o.2.2];decide):p:=h
def T2 (h:p:=by rw [a];rfl):p:=h
def T3 (h:p:=by simp [World.cell?,O,aj]):p:=h
def V1 (h:p:=by simp [World.setRow]):p:=h
def V2 (h:p:=by simp [World.cell?,f]):p:=h
def Wa (h:p:=by simp [World.cell?,q]):p:=h
def Wb (h:p:=by rw [e]):p:=h
def W7 (h:p:=by simpa [Value.ownBlock] using e):p:=h
def W8 (h:p:=by have:=a.o.2.2.2;have:=b.o.2.2.2.1;omega):p:=h
def Y3 (h:p:=by simp [World.cell?,u]):p:=h
def Y4 (h:p:=by cases e):p:=h
def Y6 (h:p:=by obtain ⟨q,_⟩:=Va.1 b;rwa [bT] at q):p:=h
def Y7 (h:p:=by have:=O.out;have:=M.o;omega):p:=h
def Y8 (h:p:=by rw [Uh];have:=a.size;omega):p:=h
def Y9 (h:p:=by unfold aJ;rw [UD,Uc a,Ub,Uc a];rfl):p:=h
def Za (h:p:=by simp [c]):p:=h
def Zb (h:p:=by cases e;omega):p:=h
def Zc (h:p:=by simp [World.setCell];omega):p:=h
def Zd (h:p:=by rw [cJ];omega):p:=h
def Ze (h:p:=by show 0<256;decide):p:=h
def Zf (h:p:=by simp [World.cell?,O]):p:=h
def Zg (h:p:=by simp [a]):p:=h
def Zh (h:p:=by simp [bG.body]):p:=h
def Zi (h:p:=by simp [World.frozen?,E]):p:=h
def Zj (h:p:=by simp [World.cell?,hc,aj]):p:=h
def Zk (h:p:=by intro e;rw [e] at a;simp at a):p:=h
def Zl (h:p:=by rw [bne_iff_ne];omega):p:=h
def Zm (h:p:=by simp at a):p:=h
def Zn (h:p:=by simp [aD]):p:=h
def Zo (h:p:=by show n<=140737488355328;omega):p:=h
def Zp (h:p:=by obtain ⟨rfl,q⟩:=q;exact q):p:=h
def Zq (h:p:=by rw [hs.nN];exact hs.vol.par.s):p:=h
def Zr (h:p:=by simp [results,results179]):p:=h
def Zs (h:p:=by simp [World.cell?,a]):p:=h
def Zt (h:p:=by simp [Oper.about,ho]):p:=h
def Zu (h:p:=by rw [<- Xk a v u k];exact g):p:=h
def Zv (h:p:=by simp [PX]):p:=h
def Zw (h:p:=by rw [c,iK a b];simp):p:=h
def Zx (h:p:=by simp only [fJ,l];decide):p:=h
def Zy (h:p:=by rw [bj];omega):p:=h
def Zz (h:p:=by rw [hK.psE];exact hK.vol):p:=h
def ZA (h:p:=by simp [World.frozen?,F]):p:=h
def ZB (h:p:=by simp [World.frozen?,z]):p:=h
def ZC (h:p:=by simp [World.cell?,z.o.1]):p:=h
def ZD (h:p:=by simp [World.cell?,a.par]):p:=h
def ZE (h:p:=by split<;>omega):p:=h
def ZF (h:p:=by rw [eC];exact h.disk.up):p:=h
def ZG (h:p:=by have:=b.o;congr 1;omega):p:=h
def ZH (h:p:=by simp [Act.eval]):p:=h
def ZI (h:p:=by rw [V7] at q;cases q):p:=h
def ZJ (h:p:=by simp [World.cell?,F]):p:=h
def acq (h:p:=by simp [World.cell?,z]):p:=h
def acr (h:p:=by exact H.o.1):p:=h
def acs (h:p:=by cases e;rfl):p:=h
def acu (h:p:=by simp [World.cell?,t]):p:=h
def acv (h:p:=by rw [aD];decide):p:=h
def acw (h:p:=by cases b):p:=h
def acx (h:p:=by simp [b]):p:=h
def acy (h:p:=by cases q):p:=h
abbrev a8:=List Nat
end Go.Proofs.YthibhmemkhmocaaGreatDoor
namespace Go.Proofs.YthibhmemkhmocaaGreatDoor
def V9:=@Nat.xor_lt_two_pow
def WC:=@Nat.mul_comm
def VN:=@Nat.mod_two_eq_zero_or_one
def U3:=@Nat.xor_assoc
def Xa:=@Nat.xor_comm
def abH:=@Nat.xor_div_two_pow
def UU:=@Nat.xor_self
def U4:=@Nat.xor_zero
def T7:=@Nat.lt_of_lt_of_le
def VE:=@Nat.pow_lt_pow_right
def aci:=@Nat.mul_lt_mul_of_pos_right
def VO:=@Nat.two_pow_pos
def UY:=@Nat.pow_le_pow_right
def VU:=@Nat.zero_xor
def Xw:=@Nat.eq_of_testBit_eq
def abI:=@Nat.testBit_xor
def TV:=@Nat.le_refl
def T6:=@List.getElem_mem
def Vm:=@List.getElem?_eq_none
def WR:=@Nat.not_lt
def TT:=@if_pos
def TS:=@if_neg
def T8:=@Nat.zero_le
def Ur:=@List.mem_range
def Wu:=@List.foldl_append
def Wk:=@Option.map_eq_some_iff
def XU:=@List.getElem_append_right
def XV:=@List.getElem_append_left
def Xb:=@Nat.sub_self
def Ui:=@List.mem_append
def U6:=@List.mem_singleton
def UG:=@List.mem_append_left
def XW:=@List.prefix_append
def Vq:=@List.mem_filter
def Wv:=@List.filter_append
def abJ:=@List.pairwise_append
def abK:=@List.filter_eq_nil_iff
def TU:=@Nat.le_trans
def Xc:=@List.foldl_cons
def Ux:=@congrArg
def WS:=@List.length_filter_le
def Vn:=@Ne.symm
def UR:=@List.getElem_of_mem
def Uz:=@List.append_assoc
def U9:=@List.nodup_append
end Go.Proofs.YthibhmemkhmocaaGreatDoor
namespace Go.Proofs.YthibhmemkhmocaaGreatDoor.Gf
variable {R R' X:(Nat->Nat)->Prop} {T T':List a8} {L:a8} {x y a i b c r n k D cnt s j P:Nat} {u f:Nat->Nat} {m M:Nat->Nat->Nat} {Q:Nat->Prop}
def tx (a:Nat):Nat:=if a<128 then 2*a else (2*a-256)^^^29
def zk:Nat->Nat->Nat->Nat->Nat
 | 0,_,_,p=>p
 | n+1,a,b,p=>zk n (tx a) (b/2) (if b%2=1 then p^^^a else p)
def gm (a b:Nat):Nat:=zk 8 a b 0
def PD:Nat->Nat->Nat->Nat
 | 0,_,v=>v
 | n+1,p,v=>PD n (gm p p) (gm v (gm p p))
def gi (a:Nat):Nat:=PD 7 a 1
def rO (a:x<256) (b:y<256):x^^^y<256:=V9 (n:=8) a b
theorem A3 (h:a<256):tx a<256:=by
 unfold tx;split
 . omega
 . exact rO ec ee
theorem P2 (n:Nat):∀ a b p,a<256->p<256->zk n a b p<256:=by
 induction n with
 | zero=>intro a b p _ c;exact c
 | succ n ih=>
  intro a b p d c;unfold zk;refine ih _ _ _ (A3 d) ?_;split
  . exact rO c d
  . exact c
def bu (b:Nat) (c:a<256):gm a b<256:=P2 8 a b 0 c ee
def P3 (n:Nat):∀ p v,p<256->v<256->PD n p v<256:=by
 induction n with
 | zero=>intro p v _ a;exact a
 | succ n ih=>intro p v b a;unfold PD;exact ih _ _ (bu _ b) (bu _ a)
def iz (h:a<256):gi a<256:=P3 7 a 1 h ee
def A4 (x y:Nat):2*(x^^^y)=(2*x)^^^(2*y):=by
 have:=YF (a:=x) (b:=y) (i:=1);simp only [YG,Nat.pow_one] at this;rw [WC,this,WC x,WC y]
def J1 (x y:Nat):(x^^^y)/2=(x/2)^^^(y/2):=Nat.xor_div_two
def sJ (x y:Nat):(x^^^y)%2=(x%2+y%2)%2:=by
 have h:=YH (a:=x) (b:=y) (n:=1);simp only [Nat.pow_one] at h;rw [h];have c:=VN x;have d:=VN y;rcases c with c|c<;>rcases d with d|d<;>rw [c,d]<;>rfl
def DW (a b c d:Nat):(a^^^b)^^^(c^^^d)=(a^^^c)^^^(b^^^d):=by
 rw [U3,U3,<- U3 b c d,Xa b c,U3 c b d]
def J2:∀ a,a<256->tx a=(2*a)%256^^^(if a/128%2=1 then 29 else 0):=Ax
def P4 (x y:Nat):(x^^^y)/128%2=(x/128%2+y/128%2)%2:=by
 have:(x^^^y)/128=(x/128)^^^(y/128):=abH (n:=7);rw [this];exact sJ _ _
theorem P6 (c:x<256) (d:y<256):tx (x^^^y)=tx x^^^tx y:=by
 rw [J2 _ (rO c d),J2 _ c,J2 _ d,DW,A4];have h:=YH (a:=2*x) (b:=2*y) (n:=8);have e:(2:Nat)^8=256:=rfl;rw [e] at h;rw [h,P4];congr 1;have c:=VN (x/128);have d:=VN (y/128);rcases c with c|c<;>rcases d with d|d<;>rw [c,d]<;>rfl
theorem G8 (n:Nat):∀ a b c p q,zk n a (b^^^c) (p^^^q)=zk n a b p^^^zk n a c q:=by
 induction n with
 | zero=>intro a b c p q;rfl
 | succ n ih=>
  intro a b c p q;simp only [zk];rw [J1,<- ih,sJ];congr 1;have d:=VN b;have e:=VN c;rcases d with d|d<;>rcases e with e|e<;>rw [d,e]<;>simp
  . rw [U3]
  . rw [U3,Xa q a,<- U3]
  . rw [DW,UU,U4]
theorem G9 (n:Nat):∀ a d b p q,a<256->d<256->zk n (a^^^d) b (p^^^q)=zk n a b p^^^zk n d b q:=by
 induction n with
 | zero=>intro a d b p q _ _;rfl
 | succ n ih=>
  intro a d b p q c e;simp only [zk];rw [P6 c e,<- ih _ _ _ _ _ (A3 c) (A3 e)];congr 1;by_cases h:b%2=1
  . simp only [h,if_true];exact DW _ _ _ _
  . simp only [h,if_false]
def fA (a b c:Nat):gm a (b^^^c)=gm a b^^^gm a c:=G8 8 a b c 0 0
def fh {d:Nat} (b:Nat) (c:a<256) (e:d<256):gm (a^^^d) b=gm a b^^^gm d b:=G9 8 a d b 0 0 c e
def aah:∀ x,x<256->x=(if x%2=1 then 1 else 0)^^^((if x/2%2=1 then 2 else 0)^^^((if x/4%2=1 then 4 else 0)^^^((if x/8%2=1 then 8 else 0)^^^((if x/16%2=1 then 16 else 0)^^^((if x/32%2=1 then 32 else 0)^^^((if x/64%2=1 then 64 else 0)^^^(if x/128%2=1 then 128 else 0))))))):=by
 decide +kernel
theorem dL (f g:Nat->Nat) (d:∀ x y,x<256->y<256->f (x^^^y)=f x^^^f y) (j:∀ x y,x<256->y<256->g (x^^^y)=g x^^^g y)
 (h:∀ i,i<8->f (2^i)=g (2^i)) (x:Nat) (C:x<256):f x=g x:=by
 have A:f 0=0:=by have:=d 0 0 ee ee;rw [UU,UU] at this;exact this
 have B:g 0=0:=by have:=j 0 0 ee ee;rw [UU,UU] at this;exact this
 have one:∀ (c:Prop) [Decidable c] (i:Nat),i<8->f (if c then 2^i else 0)=g (if c then 2^i else 0):=by
  intro c _ i a;split
  . exact h i a
  . rw [A,B]
 have lt:∀ (c:Prop) [Decidable c] (i:Nat),i<8->(if c then 2^i else 0)<256:=by
  intro c _ i a;split
  . exact T7 (VE ee a) ee
  . decide
 have st:∀ (c:Prop) [Decidable c] (i y:Nat),i<8->y<256->f y=g y->f ((if c then 2^i else 0)^^^y)=g ((if c then 2^i else 0)^^^y):=by
  intro c _ i y a k e;rw [d _ _ (lt c i a) k,j _ _ (lt c i a) k,one c i a,e]
 have p:=lt (x/128%2=1) 7 ee;have o:=rO (lt (x/64%2=1) 6 ee) p;have n:=rO (lt (x/32%2=1) 5 ee) o;have l4:=rO (lt (x/16%2=1) 4 ee) n;have m:=rO (lt (x/8%2=1) 3 ee) l4;have l:=rO (lt (x/4%2=1) 2 ee) m;have l1:=rO (lt (x/2%2=1) 1 ee) l;have z:=one (x/128%2=1) 7 ee;have w:=st (x/64%2=1) 6 _ ee p z;have v:=st (x/32%2=1) 5 _ ee o w;have u:=st (x/16%2=1) 4 _ ee n v;have t:=st (x/8%2=1) 3 _ ee l4 u;have r:=st (x/4%2=1) 2 _ ee m t;have q:=st (x/2%2=1) 1 _ ee l r;have b:=st (x%2=1) 0 _ ee l1 q;have s:=aah x C;simp only [Nat.reducePow] at b;rw [<- s] at b;exact b
def DX:∀ i,i<8->∀ j,j<8->gm (2^i) (2^j)=gm (2^j) (2^i):=Ax
def A5:∀ i,i<8->∀ j,j<8->∀ k,k<8->gm (gm (2^i) (2^j)) (2^k)=gm (2^i) (gm (2^j) (2^k)):=Ax
def J3 (a:i<8):2^i<256:=T7 (VE ee a) ee
def fC (e:a<256) (f:b<256):gm a b=gm b a:=by
 refine dL (λx=>gm a x) (λx=>gm x a) (λx y _ _=>fA a x y) (λx y c d=>fh a c d) (λi g=>?_) b f;refine dL (λx=>gm x (2^i)) (λx=>gm (2^i) x) (λx y c d=>fh _ c d) (λx y _ _=>fA _ x y) (λj h=>?_) a e;exact DX j h i g
def fD (g:a<256) (h:b<256) (l:c<256):gm (gm a b) c=gm a (gm b c):=by
 refine dL (λx=>gm (gm x b) c) (λx=>gm x (gm b c)) (λx y d e=>?_) (λx y d e=>fh _ d e) (λi f=>?_) a g
 . show gm (gm (x^^^y) b) c=_;rw [fh _ d e,fh _ (bu _ d) (bu _ e)]
 refine dL (λx=>gm (gm (2^i) x) c) (λx=>gm (2^i) (gm x c)) (λx y d e=>?_) (λx y d e=>?_) (λj m=>?_) b h
 . show gm (gm (2^i) (x^^^y)) c=_;rw [fA,fh _ (bu _ (J3 f)) (bu _ (J3 f))]
 . show gm (2^i) (gm (x^^^y) c)=_;rw [fh _ d e,fA]
 refine dL (λx=>gm (gm (2^i) (2^j)) x) (λx=>gm (2^i) (gm (2^j) x)) (λx y _ _=>fA _ x y) (λx y _ _=>?_) (λk n=>?_) c l
 . show gm (2^i) (gm (2^j) (x^^^y))=_;rw [fA,fA]
 exact A5 i f j m k n
def eo:∀ a,a<256->gm a 1=a:=Ax
def sK:∀ a,a<256->a≠0->gm a (gi a)=1:=Ax
def NO:gi 0=0:=Ax
def bD (a:Nat):gm a 0=0:=by have:=fA a 0 0;rw [UU,UU] at this;exact this
def bI (b:Nat):gm 0 b=0:=by have:=fh (a:=0) (d:=0) b ee ee;rw [UU,UU] at this;exact this
def Ha (c:a<256) (d:b<256) (h:gm a b=1):b=gi a:=by
 have i:a≠0:=by intro e;rw [e,bI] at h;exact absurd h ee
 have f:=iz c;have g:=fD f c d;rw [h,eo _ f,fC f c,sK a c i,fC ee d,eo b d] at g;exact g
def pm (a b:Nat):Nat->Nat
 | 0=>0
 | n+1=>if b/2^n%2=1 then pm a b n^^^(a*2^n) else pm a b n
def rd:Nat->Nat->Nat
 | 0,p=>p
 | k+1,p=>rd k (if p/2^(k+8)%2=1 then p^^^(285*2^k) else p)
def F7 (x y n:Nat):(x^^^y)/2^n%2=(x/2^n%2+y/2^n%2)%2:=by
 rw [abH];exact sJ _ _
def A6 (x y n:Nat):(x^^^y)*2^n=(x*2^n)^^^(y*2^n):=by
 have:=YF (a:=x) (b:=y) (i:=n);simpa only [YG] using this
def J4 (a b c n:Nat):pm a (b^^^c) n=pm a b n^^^pm a c n:=by
 induction n with
 | zero=>simp [pm]
 | succ n ih=>
  simp only [pm];rw [F7,ih];have d:=VN (b/2^n);have e:=VN (c/2^n);rcases d with d|d<;>rcases e with e|e<;>rw [d,e]<;>simp
  . rw [U3]
  . rw [U3,Xa (pm a c n),<- U3]
  . rw [DW,UU,U4]
def J5 (a d b n:Nat):pm (a^^^d) b n=pm a b n^^^pm d b n:=by
 induction n with
 | zero=>simp [pm]
 | succ n ih=>
  simp only [pm];rw [ih];by_cases h:b/2^n%2=1
  . simp only [h,if_true];rw [A6];exact DW _ _ _ _
  . simp only [h,if_false]
theorem J6 (k:Nat):∀ p q,rd k (p^^^q)=rd k p^^^rd k q:=by
 induction k with
 | zero=>intro p q;rfl
 | succ k ih=>
  intro p q;simp only [rd];rw [<- ih,F7];congr 1;have a:=VN (p/2^(k+8));have b:=VN (q/2^(k+8));rcases a with a|a<;>rcases b with b|b<;>rw [a,b]<;>simp
  . rw [U3]
  . rw [U3,Xa q,<- U3]
  . rw [DW,UU,U4]
def Hb:∀ i,i<8->∀ j,j<8->rd 7 (pm (2^i) (2^j) 8)=gm (2^i) (2^j):=Ax
def P7 (c:a<256) (d:b<256):rd 7 (pm a b 8)=gm a b:=by
 refine dL (λx=>rd 7 (pm a x 8)) (λx=>gm a x) (λx y _ _=>?_) (λx y _ _=>fA a x y) (λi e=>?_) b d
 . show rd 7 (pm a (x^^^y) 8)=_;rw [J4,J6]
 refine dL (λx=>rd 7 (pm x (2^i) 8)) (λx=>gm x (2^i)) (λx y _ _=>?_) (λx y g h=>fh _ g h) (λj f=>?_) a c
 . show rd 7 (pm (x^^^y) (2^i) 8)=_;rw [J5,J6]
 exact Hb j f i e
theorem PE (a b:Nat) (c:a<256):∀ n,n<=8->pm a b n<65536:=by
 intro n;induction n with
 | zero=>intro _;exact (by decide:(0:Nat)<65536)
 | succ n ih=>
  intro e;have h:=ih ec;unfold pm;split
  . refine V9 (n:=16) h ?_;have:a*2^n<256*2^n:=aci c (VO n);have:2^n<=2^7:=UY ee ec;omega
  . exact h
def bO (v:Nat->Nat):Prop:=∀ j,v j<256
def cA (u:Nat->Nat) (a:Nat) (r:Nat->Nat):Nat->Nat:=λj=>u j^^^gm a (r j)
def aW (R:(Nat->Nat)->Prop) (v:Nat->Nat):Prop:=∀ S:(Nat->Nat)->Prop,S (λ_=>0)->(∀ a r u,a<256->R r->S u->S (cA u a r))->S v
def aW.zero (R:(Nat->Nat)->Prop):aW R (λ_=>0):=λ_ a _=>a
def aW.step {r:Nat->Nat} (f:aW R u) (d:a<256) (e:R r):aW R (cA u a r):=λS c b=>b a r u d e (f S c b)
theorem pj (u:Nat->Nat) (r:Nat->Nat):cA u 0 r=u:=by funext j;simp [cA,bI]
theorem aW.mem {r:Nat->Nat} (b:bO r) (c:R r):aW R r:=by
 have:=aW.step (aW.zero R) (a:=1) ee c;have e:cA (λ_=>0) 1 r=r:=by
  funext j;show 0^^^gm 1 (r j)=r j;rw [fC ee (b j),eo _ (b j),VU]
 rw [e] at this;exact this
theorem aW.add (f:∀ r,R r->bO r) {u v:Nat->Nat} (h:aW R u) {b:Nat} (c:b<256) (i:aW R v):aW R (cA u b v):=by
 refine i (λx=>aW R (cA u b x)) ?_ ?_
 . have e:cA u b (λ_=>0)=u:=(by funext j;simp [cA,bD]);show aW R (cA u b (λ_=>0));rw [e];exact h
 . intro a r x g d k;have e:cA u b (cA x a r)=cA (cA u b x) (gm b a) r:=by
    funext j;show u j^^^gm b (x j^^^gm a (r j))=(u j^^^gm b (x j))^^^gm (gm b a) (r j);rw [fA,fD c g (f r d j),U3]
   show aW R (cA u b (cA x a r));rw [e];exact k.step (bu _ c) d
def aW.sub (a:∀ r,R r->bO r) (h:∀ r,R' r->aW R r) {v:Nat->Nat} (e:aW R' v):aW R v:=
 e (aW R) (aW.zero R) (λ_ r _ b c d=>aW.add a d b (h r c))
def aW.RR (h:∀ r,R r->r c=0) {v:Nat->Nat} (b:aW R v):v c=0:=
 b (λx=>x c=0) rfl (λa r u _ hr (hu:u c=0)=>by show u c^^^gm a (r c)=0;rw [hu,h r hr,bD];exact UU 0)
theorem aW.Sq {R1:(Nat->Nat)->Prop} {p:Nat->Nat} (m:∀ r,R r->bO r) (B:R p) (I:p c≠0)
 (o:∀ r,R1 r->∃ q f,R q/\f<256/\r=cA q f p/\r c=0)
 (F:∀ q,R q->q=p\/∃ f r,f<256/\R1 r/\q=cA r f p) (v:Nat->Nat):aW R1 v↔aW R v/\v c=0:=by
 have L:∀ r,R1 r->bO r:=by
  intro r d;obtain ⟨q,f,l,n,rfl,_⟩:=o r d;exact λj=>rO (m q l j) (bu _ n)
 constructor
 . intro w;refine ⟨aW.sub m (λr d=>?_) w,aW.RR (λr d=>?_) w⟩
   . obtain ⟨q,f,l,n,rfl,_⟩:=o r d;exact (aW.mem (m q l) l).step n B
   . obtain ⟨q,f,_,_,_,h⟩:=o r d;exact h
 . rintro ⟨w,J⟩;have key:∃ b,b<256/\aW R1 (cA v b p):=by
    refine w (λx=>∃ b,b<256/\aW R1 (cA x b p)) ⟨0,ee,by rw [pj];exact aW.zero R1⟩ ?_;rintro a q u k l ⟨b,g,D⟩;rcases F q l with rfl|⟨f,r,n,d,rfl⟩
    . refine ⟨b^^^a,rO g k,?_⟩;have e:cA (cA u a q) (b^^^a) q=cA u b q:=by
       funext j;show (u j^^^gm a (q j))^^^gm (b^^^a) (q j)=u j^^^gm b (q j);rw [fh _ g k,U3,Xa (gm b (q j)),<- U3 (gm a (q j)),UU,VU]
      rw [e];exact D
    . refine ⟨b^^^gm a f,rO g (bu _ k),?_⟩;have e:cA (cA u a (cA r f p)) (b^^^gm a f) p=cA (cA u b p) a r:=by
       funext j;show (u j^^^gm a (r j^^^gm f (p j)))^^^gm (b^^^gm a f) (p j)=(u j^^^gm b (p j))^^^gm a (r j);rw [fA,fh _ g (bu _ k),fD k n (m p B j)];generalize gm a (gm f (p j))=t;generalize gm b (p j)=s;generalize gm a (r j)=y;generalize u j=z;apply Xw;intro i;simp only [abI];cases z.testBit i<;>cases y.testBit i<;>cases t.testBit i<;>cases s.testBit i<;>rfl
      rw [e];exact D.step k d
   obtain ⟨b,g,C⟩:=key;have E:=aW.RR (λr d=>by obtain ⟨q,f,_,_,_,h⟩:=o r d;exact h) C;have G:gm b (p c)=0:=by
    have:v c^^^gm b (p c)=0:=E;rwa [J,VU] at this
   have H:b=0:=by
    have A:=m p B c;have K:=iz A;have e:=fD g A K;rw [G,bI,sK _ A I,eo b g] at e;exact e.symm
   rw [H,pj] at C;exact C
def cT:Nat->((Nat->Nat)->Prop)->Nat->Nat->Prop
 | 0,_,_,k=>k=0
 | n+1,R,c,k=>((∀ r,R r->r c=0)/\cT n R (c+1) k)\/(∃ p,R p/\p c≠0)/\∃ R1,(∀ r,R1 r->bO r)/\(∀ v,aW R1 v↔aW R v/\v c=0)/\∃ k',k=k'+1/\cT n R1 (c+1) k'
def cT.none:∀ n (R:(Nat->Nat)->Prop) (c:Nat),(∀ j,c<=j->∀ r,R r->r j=0)->cT n R c 0
 | 0,_,_,_=>rfl
 | n+1,R,c,h=>.inl ⟨h c (TV _),cT.none n R (c+1) (λj a=>h j ec)⟩
def dH (l:a8):Nat->Nat:=λj=>l.getD j 0
def nH (T:List a8) (r:Nat):(Nat->Nat)->Prop:=λv=>∃ i,∃ h:i<T.length,r<=i/\v=dH T[i]
def J7 {l:a8} (h:∀ x∈l,x<256):bO (dH l):=by
 intro j;unfold dH;by_cases a:j<l.length
 . have e:l.getD j 0=l[j]:=Zg;rw [e];exact h _ (T6 a)
 . have e:l.getD j 0=0:=(by simp [Vm (WR.1 a)]);rw [e];decide
def nI (h:∀ l∈T,∀ x∈l,x<256) (r:Nat):∀ v,nH T r v->bO v:=by
 rintro v ⟨i,a,_,rfl⟩;exact J7 (h _ (T6 a))
theorem iA (q p:Nat->Nat) (f:Nat):cA (cA q f p) f p=q:=by
 funext j;show (q j^^^gm f (p j))^^^gm f (p j)=q j;rw [U3,UU,U4]
def sL (h:∀ i (a:i<T.length),r<=i->dH T[i] c=0) (d:cT n (nH T r) (c+1) k):cT (n+1) (nH T r) c k:=
 .inl ⟨by rintro v ⟨i,a,b,rfl⟩;exact h i a b,d⟩
theorem qQ {p:Nat} (y:∀ l∈T,∀ x∈l,x<256) (t:∀ l∈T',∀ x∈l,x<256) (B:T'.length=T.length) (m:r<=p) (o:p<T.length) (j:dH T[p] c≠0)
 (d:∀ i (g:i<T'.length),r<i->∃ f,∃ h:(if i=p then r else i)<T.length,f<256/\dH T'[i]=cA (dH T[if i=p then r else i]) f (dH T[p])/\dH T'[i] c=0)
 (A:cT n (nH T' (r+1)) (c+1) k):cT (n+1) (nH T r) c (k+1):=by
 have w:=nI y r;refine .inr ⟨⟨dH T[p],⟨p,o,m,rfl⟩,j⟩,nH T' (r+1),nI t (r+1),?_,k,rfl,A⟩;refine aW.Sq (p:=dH T[p]) w ⟨p,o,m,rfl⟩ j ?_ ?_
 . rintro v ⟨i,g,u,rfl⟩;obtain ⟨f,h,b,e,z⟩:=d i g ec;exact ⟨_,f,⟨_,h,ZE,rfl⟩,b,e,z⟩
 . rintro q ⟨i,g,u,rfl⟩;by_cases e:i=p
   . subst e;exact .inl rfl
   . right;by_cases s:i=r
     . subst s;obtain ⟨f,h,b,a,_⟩:=d p ec ec;simp only [TT] at a;refine ⟨f,dH T'[p],b,⟨p,ec,ec,rfl⟩,?_⟩;rw [a,iA]
     . obtain ⟨f,h,b,a,_⟩:=d i ec ec;simp only [TS e] at a;refine ⟨f,dH T'[i],b,⟨i,ec,ec,rfl⟩,?_⟩;rw [a,iA]
def sM (h:∀ l∈T,l.length<=c):cT n (nH T r) c 0:=
 cT.none n _ c (by
  rintro j b v ⟨i,a,_,rfl⟩;unfold dH;have:=h _ (T6 a);simp [Vm (ec:(T[i]).length<=j)])
def nJ (b:x<256) (a:y<256) (h:y≠0):x^^^gm (gm x (gi y)) y=0:=by
 rw [fD b (iz a) a,fC (iz a) a,sK y a h,eo x b,UU]
def m7 (D:List a8) (k:Nat):Prop:=cT 64 (nH D 0) 0 k
theorem wQ (hl:T.length=T'.length) (h:∀ i (c:i<T.length) (d:i<T'.length),dH T[i]=dH T'[i]) (r:Nat):nH T r=nH T' r:=by
 funext v;apply propext;constructor
 . rintro ⟨i,a,b,rfl⟩;exact ⟨i,ec,b,h i a ec⟩
 . rintro ⟨i,a,b,rfl⟩;exact ⟨i,ec,b,(h i ec a).symm⟩
def mF (R:(Nat->Nat)->Prop) (c m:Nat):Prop:=∀ v,bO v->(∀ j,j<c\/c+m<=j->v j=0)->aW R v
def gA (m:Nat):Nat->Nat:=λj=>if j=m then 1 else 0
theorem j8 (m:Nat):bO (gA m):=λj=>by unfold gA;split<;>decide
def cT.le:∀ n (R:(Nat->Nat)->Prop) (c k m:Nat),(∀ j,c+m<=j->∀ r,R r->r j=0)->cT n R c k->k<=m
 | 0,_,_,_,_,_,h=>by rw [h];exact T8 _
 | n+1,R,c,k,m,hz,h=>by
  rcases h with ⟨_,h⟩|⟨⟨p,i,g⟩,d,e,f,k1,rfl,h⟩
  . cases m with
    | zero=>exact cT.le n R (c+1) k 0 (λj a=>hz j ec) h
    | succ m=>exact Nat.le_succ_of_le (cT.le n R (c+1) k m (λj a=>hz j ec) h)
  . cases m with
    | zero=>exact absurd (hz c ec p i) g
    | succ m=>
     have:=cT.le n d (c+1) k1 m (λj a r b=>aW.RR (hz j ec) ((f r).1 (aW.mem (e r b) b)).1) h;omega
theorem cT.S7:∀ n (R:(Nat->Nat)->Prop) (c m:Nat),(∀ r,R r->bO r)->(∀ j,c+m<=j->∀ r,R r->r j=0)->(∀ j,j<c->∀ r,R r->r j=0)->cT n R c m->mF R c m
 | 0,R,c,m,hb,hz,hl,h=>by
  intro v _ d;obtain rfl:m=0:=h;have e:v=λ_=>0:=by funext j;exact d j ec
  rw [e];exact aW.zero R
 | n+1,R,c,m,hb,hz,hl,h=>by
  cases m with
  | zero=>
   intro v _ d;have e:v=λ_=>0:=(by funext j;exact d j ec);rw [e];exact aW.zero R
  | succ m=>
   rcases h with ⟨y,h⟩|⟨⟨p,f,t⟩,g,k,i,k1,e,h⟩
   . have:=cT.le n R (c+1) (m+1) m (λj b=>hz j ec) h;omega
   . obtain rfl:k1=m:=ec;have sub:=λr (a:g r)=>(i r).1 (aW.mem (k r a) a);have ih:=cT.S7 n g (c+1) k1 k (λj b r a=>aW.RR (hz j ec) (sub r a).1)
      (λj b r a=>by
       by_cases e:j=c
       . rw [e];exact (sub r a).2
       . exact aW.RR (hl j ec) (sub r a).1) h
     intro v d w;have o:=d c;have u:=hb p f c;have l:=bu (gi (p c)) o;have x:=ih (cA v (gm (v c) (gi (p c))) p) (λj=>rO (d j) (bu _ l)) (by
      intro j b;show v j^^^gm (gm (v c) (gi (p c))) (p j)=0;by_cases e:j=c
      . rw [e];exact nJ o u t
      . have q:v j=0:=w j ec;have s:p j=0:=by
         rcases b with b|b
         . exact hl j ec p f
         . exact hz j ec p f
        rw [q,s,bD,UU])
     have:=((i _).1 x).1.step l f;rwa [iA] at this
def cT.S4:∀ n (R:(Nat->Nat)->Prop) (c k m:Nat),m<=n->(∀ j,c+m<=j->∀ r,R r->r j=0)->mF R c m->cT n R c k->k=m
 | 0,_,_,_,m,hm,_,_,h=>by rw [h];omega
 | n+1,R,c,k,m,hm,hz,hF,h=>by
  cases m with
  | zero=>have:=cT.le (n+1) R c k 0 hz h;omega
  | succ m=>
   rcases h with ⟨g,h⟩|⟨⟨p,s,q⟩,f,l,a,k1,rfl,h⟩
   . have i:=hF (gA c) (j8 c) (λj d=>TS ec);have:=aW.RR g i;simp [gA] at this
   . have:=cT.S4 n f (c+1) k1 m ec (λj d r e=>aW.RR (hz j ec) ((a r).1 (aW.mem (l r e) e)).1)
      (λv o b=>(a v).2 ⟨hF v o (λj d=>b j ec),b c ec⟩) h
     omega
theorem Hc {D:List a8} {m:Nat} (d:∀ l∈D,∀ x∈l,x<256) (hl:∀ l∈D,l.length<=m) (f:m<=64) (h:m7 D k):k=m↔mF (nH D 0) 0 m:=by
 have b:∀ j,0+m<=j->∀ r,nH D 0 r->r j=0:=by
  rintro j a r ⟨i,e,_,rfl⟩;unfold dH;have:=hl _ (T6 e);simp [Vm (ec:(D[i]).length<=j)]
 constructor
 . rintro rfl;exact cT.S7 64 _ 0 k (nI d 0) b (λj a=>absurd a ec) h
 . intro c;exact cT.S4 64 _ 0 k m f b c h
def mF.mono {m:Nat} (h:mF R c m) (g:∀ r,R r->R' r):mF R' c m:=
 λv j k S b d=>h v j k S b (λa r u e f i=>d a r u e (g r f) i)
theorem mF.units (f:∀ r,R r->bO r) {m:Nat} (h:∀ j,j<m->aW R (gA j)):mF R 0 m:=by
 intro v d g;have key:∀ t,t<=m->aW R (λj=>if j<t then v j else 0):=by
  intro t;induction t with
  | zero=>intro _;exact aW.zero R
  | succ t ih=>
   intro i;have:=aW.add f (ih ec) (d t) (h t ec);have e:cA (λj=>if j<t then v j else 0) (v t) (gA t)=λj=>if j<t+1 then v j else 0:=by
    funext j;show (if j<t then v j else 0)^^^gm (v t) (if j=t then 1 else 0)=if j<t+1 then v j else 0;by_cases a:j=t
    . subst a;simp [eo _ (d j)]
    . rw [TS a,bD,U4];by_cases b:j<t
      . rw [TT b,TT ec]
      . rw [TS b,TS ec]
   rwa [e] at this
 have:=key m (TV _);have e:(λj=>if j<m then v j else 0)=v:=by
  funext j;by_cases c:j<m
  . rw [TT c]
  . rw [TS c];exact (g j ec).symm
 rwa [e] at this
def aai (b:a<256) (h:a≠0):gi a≠0:=by
 intro e;have:=sK a b h;rw [e,bD] at this;exact absurd this ee
structure Ck where
 m:Nat->Nat->Nat
 told:Nat
 count:Nat
def ea (C:Ck) (i:Nat):Option Nat:=(YE C.count).find? (λr=>decide (C.told<=r)&&decide (C.m r i≠0))
def gV {C:Ck} (h:ea C i=some r):C.told<=r/\r<C.count/\C.m r i≠0:=by
 unfold ea at h;have a:=List.find?_some h;have b:=List.mem_of_find?_eq_some h;simp at a b;exact ⟨a.1,b,a.2⟩
def zl {C:Ck} (h:ea C i=none) (r:Nat) (a:C.told<=r) (b:r<C.count):C.m r i=0:=by
 unfold ea at h;rw [YI] at h;have:=h r (Ur.2 b);simp [a] at this;exact this
def vV {C:Ck} (a:C.told<=r) (b:r<C.count) (c:C.m r i≠0) (d:∀ k,C.told<=k->k<r->C.m k i=0):ea C i=some r:=by
 unfold ea;rw [List.find?_range_eq_some];refine ⟨by simp [a,c],Ur.2 b,λj e=>?_⟩;by_cases h:C.told<=j
 . simp [d j h e]
 . simp [h]
def vW {C:Ck} (h:∀ r,C.told<=r->r<C.count->C.m r i=0):ea C i=none:=by
 unfold ea;rw [YI];intro r b;by_cases a:C.told<=r
 . simp [h r a (Ur.1 b)]
 . simp [a]
def cU (m:Nat->Nat->Nat) (cnt r i:Nat):Nat->Nat->Nat:=λk j=>if k<cnt/\k≠r then m k j^^^gm (gm (m k i) (gi (m r i))) (m r j) else m k j
def dC (m:Nat->Nat->Nat) (a b:Nat):Nat->Nat->Nat:=λk=>if k=a then m b else if k=b then m a else m k
def eH (m:Nat->Nat->Nat) (r i:Nat):Nat->Nat->Nat:=λk j=>if k=r then gm (m r j) (gi (m r i)) else m k j
def jo (C:Ck) (i r:Nat):Ck:=⟨cU (eH (dC C.m C.told r) C.told i) C.count C.told i,C.told+1,C.count⟩
def gW (C:Ck) (i r:Nat):Ck:=⟨λk=>if k=r then cU C.m C.count r i (C.count-1) else cU C.m C.count r i k,C.told,C.count-1⟩
def pr (C:Ck) (i:Nat):Option Ck:=(ea C i).map (jo C i)
def iB (C:Ck) (i:Nat):Option Ck:=(ea C i).map (gW C i)
def zm (C:Ck):Prop:=∀ r,bO (C.m r)
def mG (C:Ck) (t:Nat):(Nat->Nat)->Prop:=λv=>∃ r,t<=r/\r<C.count/\v=C.m r
def wR {r:Nat->Nat} (c:bO u) (b:a<256):bO (cA u a r):=λj=>rO (c j) (bu _ b)
theorem iC (h:k<cnt/\k≠r):cU m cnt r i k=cA (m k) (gm (m k i) (gi (m r i))) (m r):=by
 funext j;unfold cU cA;rw [TT h]
theorem nK (h:¬ (k<cnt/\k≠r)):cU m cnt r i k=m k:=by
 funext j;unfold cU;rw [TS h]
def nL (h:∀ k,bO (m k)) (k:Nat):bO (cU m cnt r i k):=by
 by_cases a:k<cnt/\k≠r
 . rw [iC a];exact wR (h k) (bu _ (h k i))
 . rw [nK a];exact h k
theorem jE (h:∀ k,bO (m k)) (k:Nat):bO (dC m a b k):=by
 unfold dC;split
 . exact h b
 . split
   . exact h a
   . exact h k
theorem sN (h:∀ k,bO (m k)) (k:Nat):bO (eH m r i k):=λj=>by
 unfold eH;split
 . exact bu _ (h r j)
 . exact h k j
def Hd {C:Ck} (h:zm C):zm (jo C i r):=nL (sN (jE h))
theorem m8 {C:Ck} (h:zm C):zm (gW C i r):=λk=>by
 show bO (if k=r then _ else _);split
 . exact nL h _
 . exact nL h _
def wS {C:Ck} (h:zm C) (t:Nat):∀ r,mG C t r->bO r:=by
 rintro r ⟨k,_,_,rfl⟩;exact h k
def DY (a:x<256) (b:y<256) (h:y≠0):x^^^gm (gm x (gi y)) y=0:=nJ a b h
def DZ {C:Ck} {t:Nat} (b:zm C) (u:t<=C.told) (o:C.told<=r) (n:r<C.count) (g:C.m r i≠0) (v:Nat->Nat) :
 aW (mG (gW C i r) t) v↔aW (mG C t) v/\v i=0:=by
 refine aW.Sq (p:=C.m r) (wS b t) ⟨r,ec,n,rfl⟩ g ?_ ?_ v
 . rintro q ⟨k,k1,k2,rfl⟩;have:k<C.count-1:=k2;have key:∀ a,t<=a->a<C.count->a≠r->∃ q f,mG C t q/\f<256/\cU C.m C.count r i a=cA q f (C.m r)/\cU C.m C.count r i a i=0:=by
    intro a j c d;refine ⟨C.m a,gm (C.m a i) (gi (C.m r i)),⟨a,j,c,rfl⟩,bu _ (b a i),iC ⟨c,d⟩,?_⟩;rw [iC ⟨c,d⟩];exact DY (b a i) (b r i) g
   show ∃ q f,mG C t q/\f<256/\(if k=r then cU C.m C.count r i (C.count-1) else cU C.m C.count r i k)=cA q f (C.m r)/\(if k=r then cU C.m C.count r i (C.count-1) else cU C.m C.count r i k) i=0;by_cases e:k=r
   . rw [TT e];exact key (C.count-1) ec ec ec
   . rw [TS e];exact key k k1 ec e
 . rintro q ⟨k,k1,k2,rfl⟩;by_cases e:k=r
   . left;rw [e]
   . right;have l:cU C.m C.count r i k=cA (C.m k) (gm (C.m k i) (gi (C.m r i))) (C.m r):=iC ⟨k2,e⟩;refine ⟨gm (C.m k i) (gi (C.m r i)),cU C.m C.count r i k,bu _ (b k i),?_,?_⟩
     . by_cases h:k=C.count-1
       . refine ⟨r,ec,by show r<C.count-1;omega,?_⟩;show _=(if r=r then cU C.m C.count r i (C.count-1) else cU C.m C.count r i r);rw [TT rfl,h]
       . refine ⟨k,k1,by show k<C.count-1;omega,?_⟩;show _=(if k=r then cU C.m C.count r i (C.count-1) else cU C.m C.count r i k);rw [TS e]
     . rw [l,iA]
def D0 {C:Ck} (c:k<C.told) (a:C.told<=r) (b:r<C.count):(gW C i r).m k=cA (C.m k) (gm (C.m k i) (gi (C.m r i))) (C.m r):=by
 show (if k=r then cU C.m C.count r i (C.count-1) else cU C.m C.count r i k)=_;rw [TS ec,iC ⟨ec,ec⟩]
def P8:gi 1=1:=Ax
theorem nO {C:Ck} (c:zm C) (p:k<C.count) (d:k≠C.told) (o:C.m r i≠0) :
 (jo C i r).m k=cA (dC C.m C.told r k) (gm (dC C.m C.told r k i) (gi (C.m r i))) (C.m r):=by
 have h:dC C.m C.told r C.told=C.m r:=by unfold dC;rw [TT rfl]
 have l:eH (dC C.m C.told r) C.told i k=dC C.m C.told r k:=by funext j;unfold eH;rw [TS d]
 have n:eH (dC C.m C.told r) C.told i C.told=λj=>gm (C.m r j) (gi (C.m r i)):=by funext j;unfold eH;rw [TT rfl,h]
 show cU (eH (dC C.m C.told r) C.told i) C.count C.told i k=_;rw [iC ⟨p,d⟩,l,n];funext j;show _^^^gm (gm _ (gi (gm (C.m r i) (gi (C.m r i))))) (gm (C.m r j) (gi (C.m r i)))=_^^^gm (gm _ (gi (C.m r i))) (C.m r j);have g:=jE (a:=C.told) (b:=r) c k i;have f:=c r i;have e:=iz f;rw [sK _ f o,P8,eo _ g,fC (c r j) e,<- fD g e (c r j)]
theorem A7 {C:Ck}:(jo C i r).m C.told=λj=>gm (C.m r j) (gi (C.m r i)):=by
 have a:dC C.m C.told r C.told=C.m r:=by unfold dC;rw [TT rfl]
 show cU (eH (dC C.m C.told r) C.told i) C.count C.told i C.told=_;rw [nK ec];funext j;unfold eH;rw [TT rfl,a]
def sO (c:k≠a) (d:k≠b):dC m a b k=m k:=by unfold dC;rw [TS c,TS d]
def He {C:Ck} (b:zm C) (o:C.told<=r) (n:r<C.count) (g:C.m r i≠0) (v:Nat->Nat) :
 aW (mG (jo C i r) (C.told+1)) v↔aW (mG C C.told) v/\v i=0:=by
 have s:∀ k,C.told+1<=k->k<C.count->∃ a,C.told<=a/\a<C.count/\a≠r/\dC C.m C.told r k=C.m a:=by
  intro k f c;by_cases e:k=r
  . refine ⟨C.told,ec,ec,ec,?_⟩;unfold dC;rw [TS ec,TT e]
  . exact ⟨k,ec,c,e,sO ec e⟩
 refine aW.Sq (p:=C.m r) (wS b _) ⟨r,o,n,rfl⟩ g ?_ ?_ v
 . rintro q ⟨k,k1,k2,rfl⟩;have l:k<C.count:=k2;obtain ⟨a,f,c,t,e⟩:=s k k1 l;have d:=nO (i:=i) (r:=r) b l ec g;rw [e] at d;refine ⟨C.m a,gm (C.m a i) (gi (C.m r i)),⟨a,f,c,rfl⟩,bu _ (b a i),d,?_⟩;rw [d];exact DY (b a i) (b r i) g
 . rintro q ⟨k,k1,k2,rfl⟩;by_cases e:k=r
   . left;rw [e]
   . right;have h:∃ a,C.told+1<=a/\a<C.count/\dC C.m C.told r a=C.m k:=by
      by_cases j:k=C.told
      . refine ⟨r,ec,n,?_⟩;unfold dC;rw [TS ec,TT rfl,j]
      . exact ⟨k,ec,k2,sO j e⟩
     obtain ⟨a,f,c,ge⟩:=h;have d:=nO (i:=i) (r:=r) b c ec g;rw [ge] at d;refine ⟨gm (C.m k i) (gi (C.m r i)),(jo C i r).m a,bu _ (b k i),⟨a,f,c,rfl⟩,?_⟩;rw [d,iA]
def Lin (X:(Nat->Nat)->Prop):Prop:=X (λ_=>0)/\∀ a r u,a<256->X r->X u->X (cA u a r)
theorem Hf (c:Lin X) {C:Ck} {i r:Nat} (d:zm C) (b:r<C.count) (h:∀ k,k<C.count->X (C.m k)):∀ k,k<(gW C i r).count->X ((gW C i r).m k):=by
 have key:∀ k,k<C.count->X (cU C.m C.count r i k):=by
  intro k a;by_cases e:k=r
  . rw [nK ec];exact h k a
  . rw [iC ⟨a,e⟩];exact c.2 _ _ _ (bu _ (d k i)) (h r b) (h k a)
 intro k a;have:k<C.count-1:=a;show X (if k=r then _ else _);split
 . exact key _ ec
 . exact key _ ec
theorem J8 (c:Lin X) {C:Ck} {i r:Nat} (a:zm C) (n:C.told<=r) (b:r<C.count) (f:C.m r i≠0) (h:∀ k,k<C.count->X (C.m k)):∀ k,k<(jo C i r).count->X ((jo C i r).m k):=by
 intro k g;have d:k<C.count:=g;by_cases e:k=C.told
 . rw [e,A7];have l:X (cA (λ_=>0) (gi (C.m r i)) (C.m r)):=c.2 _ _ _ (iz (a r i)) (h r b) c.1;have e:cA (λ_=>0) (gi (C.m r i)) (C.m r)=λj=>gm (C.m r j) (gi (C.m r i)):=by
    funext j;show 0^^^gm (gi (C.m r i)) (C.m r j)=_;rw [VU,fC (iz (a r i)) (a r j)]
   rwa [e] at l
 . rw [nO a d e f];refine c.2 _ _ _ (bu _ (jE a _ _)) (h r b) ?_;unfold dC;split
   . exact h r b
   . split
     . exact h _ ec
     . exact h k d
def tells (C:Ck) (L:a8):Option Ck:=L.foldl (λo i=>o.bind (λc=>pr c i)) (some C)
def j9 (C:Ck) (L:a8) (i:Nat):tells C (L++[i])=(tells C L).bind (λc=>pr c i):=by unfold tells;rw [Wu];rfl
def jb (C:Ck) (L b:a8) (h:tells C L=none):tells C (L++b)=none:=by
 unfold tells at *;rw [Wu,h];induction b with
 | nil=>rfl
 | cons a l ih=>exact ih
structure fj (C0:Ck) (X:(Nat->Nat)->Prop) (L:a8) (C:Ck):Prop where
 told:C.told=L.length
 count:C.count=C0.count
 le:C.told<=C.count
 byt:zm C
 all:∀ k,k<C.count->X (C.m k)
 one:∀ k,k<L.length->∀ k' (h:k'<L.length),C.m k L[k']=if k=k' then 1 else 0
 spare:∀ v,aW (mG C C.told) v↔aW (mG C0 0) v/\∀ i∈L,v i=0
def fj.nil {C0:Ck} (a:C0.told=0) (c:zm C0) (b:∀ k,k<C0.count->X (C0.m k)):fj C0 X [] C0:=
 ⟨a,rfl,ec,c,b,λk d=>absurd d ek,λv=>by rw [a];simp⟩
theorem fj.snoc {C0 C C':Ck} (y:Lin X) (h:fj C0 X L C) (s:pr C i=some C'):fj C0 X (L++[i]) C':=by
 unfold pr at s;rw [Wk] at s;obtain ⟨r,A,rfl⟩:=s;obtain ⟨p,q,g⟩:=gV A;have t:∀ j,j∈L->C.m r j=0:=λj d=>((h.spare (C.m r)).1 (aW.mem (h.byt r) ⟨r,p,q,rfl⟩)).2 j d;have u:=h.told;refine ⟨?_,h.count,by show C.told+1<=C.count;omega,Hd h.byt,J8 y h.byt p q g h.all,?_,?_⟩
 . show C.told+1=_;simp [u]
 . intro k z f x;simp at z x;by_cases e:k=L.length
   . have w:k=C.told:=ec;rw [w,A7];by_cases n:f=L.length
     . subst n;rw [XU ec];simp [u,sK _ (h.byt r i) g]
     . have l:f<L.length:=ec;rw [XV l];show gm (C.m r L[f]) _=_;rw [t _ (T6 l),bI,TS ec]
   . have l:k<L.length:=ec;rw [nO h.byt ec ec g,sO ec ec];by_cases n:f=L.length
     . subst n;rw [XU ec];simp only [Xb,List.getElem_singleton];show C.m k i^^^gm (gm (C.m k i) (gi (C.m r i))) (C.m r i)=_;rw [DY (h.byt k i) (h.byt r i) g,TS e]
     . have o:f<L.length:=ec;rw [XV o];show C.m k L[f]^^^gm _ (C.m r L[f])=_;rw [t _ (T6 o),bD,U4,h.one k l f o]
 . intro v;have:=He (i:=i) h.byt p q g v;show aW (mG (jo C i r) (C.told+1)) v↔_;rw [this,h.spare v];constructor
   . rintro ⟨⟨a,b⟩,c⟩;exact ⟨a,λj d=>by rcases Ui.1 d with d|d;exact b j d;rw [U6.1 d];exact c⟩
   . rintro ⟨a,b⟩;exact ⟨⟨a,λj d=>b j (UG _ d)⟩,b i ek⟩
def fj.of {C0:Ck} (f:Lin X) (l:C0.told=0) (o:zm C0) (n:∀ k,k<C0.count->X (C0.m k)):∀ (a L:a8) (C:Ck),fj C0 X L C->tells C0 L=some C ->
 (∃ b,tells C0 (L++a)=some b/\fj C0 X (L++a) b)\/(tells C0 (L++a)=none/\∃ pre i,(pre++[i])<+:(L++a)/\∀ v,aW (mG C0 0) v->(∀ j∈pre,v j=0)->v i=0)
 | [],L,C,h,e=>.inl ⟨C,oD e,oD h⟩
 | i::a,L,C,h,e=>by
  have c:L++i::a=(L++[i])++a:=ek
  cases ht:pr C i with
  | none=>
   right;have d:tells C0 (L++[i])=none:=(by rw [j9,e];exact ht);refine ⟨by rw [c];exact jb _ _ _ d,L,i,by rw [c];exact XW _ _,?_⟩;intro v s t;have p:ea C i=none:=by
    unfold pr at ht;exact Option.map_eq_none_iff.1 ht
   exact aW.RR (λr q=>by obtain ⟨k,k1,k2,rfl⟩:=q;exact zl p k k1 k2) ((h.spare v).2 ⟨s,t⟩)
  | some b=>
   have g:=h.snoc f ht;have d:tells C0 (L++[i])=some b:=(by rw [j9,e];exact ht);rw [c];exact fj.of f l o n a (L++[i]) b g d
def cF (C:Ck) (i:Nat):Bool:=(YE C.told).any (λr=>decide (C.m r i≠0))
theorem gX {C:Ck}:cF C i=false↔∀ r,r<C.told->C.m r i=0:=by
 unfold cF;rw [List.any_eq_false];constructor
 . intro h r a;have:=h r (Ur.2 a);simpa using this
 . intro h r a;simp [h r (Ur.1 a)]
def qR {C:Ck} (a:r<C.told) (b:C.m r i≠0):cF C i=true:=by
 cases h:cF C i with
 | true=>rfl
 | false=>exact absurd (gX.1 h r a) b
def iD (K:a8) (C:Ck):Nat:=(K.filter (cF C)).length
abbrev cD:=Ck×Nat
def ft (K:a8) (s:cD) (C:Ck):cD:=if iD K C=0\/iD K C<s.2 then (C,iD K C) else s
def ab (s:Nat):a8:=(YE 16).filter (λi=>s.testBit i)
def bB (s i:Nat):Nat:=s/2^(i+1)*2^(i+1)
def fu (s i j:Nat):(bB s i).testBit j=(decide (i<j)&&s.testBit j):=by
 unfold bB;rw [Nat.testBit_mul_two_pow];by_cases h:i+1<=j
 . simp only [Nat.testBit_div_two_pow];rw [show j-(i+1)+(i+1)=j by omega];simp [h,show i<j by omega]
 . simp [h,show ¬ i<j by omega]
def qS (s:Nat):(ab s).Pairwise (· < ·):=(List.pairwise_lt_range (n:=16)).filter _
def cE:i∈ab s↔i<16/\s.testBit i=true:=by unfold ab;rw [Vq,Ur]
theorem A8 {pre R:a8} (h:ab s=pre++i::R):ab (bB s i)=R:=by
 have e:ab (bB s i)=(ab s).filter (λj=>decide (i<j)):=by
  unfold ab;rw [List.filter_filter];apply List.filter_congr;intro j _;rw [fu]
 have b:=qS s;rw [h] at b;rw [e,h,Wv,List.filter_cons];obtain ⟨l,f,g⟩:=abJ.1 b;obtain ⟨k,m⟩:=List.pairwise_cons.1 f;have c:pre.filter (λj=>decide (i<j))=[]:=abK.2 (λj a=>by have:=g j a i ek;simp;omega);have d:R.filter (λj=>decide (i<j))=R:=List.filter_eq_self.2 (λj a=>by have:=k j a;simp;omega);rw [c,d];simp
def gY (rec:Ck->Nat->Nat->cD->cD) (C:Ck) (of:Nat) (a:Nat×cD×Bool) (i:Nat):Nat×cD×Bool:=
 if a.2.2=true then a else if ¬ a.1<a.2.1.2 then (a.1,a.2.1,true) else
  match iB C i with
  | none=>a
  | some C'=>(a.1+1,rec C' (bB of i) a.1 a.2.1,false)
def iF (K:a8):Nat->Ck->Nat->Nat->cD->cD
 | 0,C,of,p,st=>((ab of).foldl (gY (λ_ _ _ s=>s) C of) (p,ft K st C,false)).2.1
 | n+1,C,of,p,st=>((ab of).foldl (gY (iF K n) C of) (p,ft K st C,false)).2.1
def zn (K:a8):Nat->Ck->Nat->Nat->cD->cD
 | 0=>λ_ _ _ s=>s
 | n+1=>iF K n
def pt (K:a8) (n:Nat) (C:Ck) (of p:Nat) (st:cD):iF K n C of p st=((ab of).foldl (gY (zn K n) C of) (p,ft K st C,false)).2.1:=by
 cases n<;>rfl
theorem A9 (K:a8) (s:cD) (C:Ck):(ft K s C).2<=s.2:=by
 unfold ft;split
 . show iD K C<=s.2;omega
 . exact TV _
theorem Hg (K:a8) (s:cD) (C:Ck):(ft K s C).2<=iD K C:=by
 unfold ft;split
 . exact TV _
 . show s.2<=iD K C;omega
theorem NP {rec:Ck->Nat->Nat->cD->cD} (h:∀ C of p s,(rec C of p s).2<=s.2) (C:Ck) (of:Nat) (a:Nat×cD×Bool) (i:Nat):(gY rec C of a i).2.1.2<=a.2.1.2:=by
 unfold gY;split
 . exact TV _
 . split
   . exact TV _
   . split
     . exact TV _
     . exact h _ _ _ _
def nP {rec:Ck->Nat->Nat->cD->cD} (h:∀ C of p s,(rec C of p s).2<=s.2) (C:Ck) (of:Nat):∀ (L:a8) (a:Nat×cD×Bool),(L.foldl (gY rec C of) a).2.1.2<=a.2.1.2
 | [],_=>TV _
 | i::L,a=>TU (nP h C of L (gY rec C of a i)) (NP h C of a i)
def wT (K:a8):∀ n C of p s,(iF K n C of p s).2<=s.2
 | 0,C,of,_,s=>TU (nP (λ_ _ _ _=>TV _) C of _ _) (A9 K s C)
 | n+1,C,of,_,s=>TU (nP (wT K n) C of _ _) (A9 K s C)
def NQ (K:a8) (n:Nat):∀ C of p s,(zn K n C of p s).2<=s.2:=by
 cases n with
 | zero=>exact λ_ _ _ _=>TV _
 | succ n=>exact wT K n
def wU (rec:Ck->Nat->Nat->cD->cD) (C:Ck) (of:Nat) (p:Nat) (s:cD):∀ L:a8,L.foldl (gY rec C of) (p,s,true)=(p,s,true)
 | []=>rfl
 | i::L=>by
  have e:gY rec C of (p,s,true) i=(p,s,true):=by unfold gY;rw [TT rfl]
  rw [Xc,e];exact wU rec C of p s L
def D3 (C:Ck) (j:Nat):Prop:=∀ r,C.told<=r->r<C.count->C.m r j=0
def D3.span {C:Ck} (h:D3 C j) {v:Nat->Nat} (b:aW (mG C C.told) v):v j=0:=
 aW.RR (λr a=>by obtain ⟨k,k1,k2,rfl⟩:=a;exact h k k1 k2) b
def gB {C C':Ck} (h:iB C i=some C'):∃ r,C'=gW C i r/\C.told<=r/\r<C.count/\C.m r i≠0:=by
 unfold iB at h;rw [Wk] at h;obtain ⟨r,d,rfl⟩:=h;obtain ⟨a,b,c⟩:=gV d;exact ⟨r,rfl,a,b,c⟩
def D4 {C C':Ck} (b:zm C) (h:iB C i=some C') (a:D3 C j\/j=i):D3 C' j:=by
 obtain ⟨r,rfl,c,d,e⟩:=gB h;intro k k1 k2;have:=(DZ (t:=C.told) b (TV _) c d e ((gW C i r).m k)).1 (aW.mem (m8 b k) ⟨k,k1,k2,rfl⟩);rcases a with a|rfl
 . exact a.span this.1
 . exact this.2
def D5 (h:x^^^y=0):x=y:=by
 have:=Ux (·^^^y) h;simp only [VU] at this;rwa [U3,UU,U4] at this
inductive jF (C:Ck):Ck->Prop
 | refl:jF C C
 | step {C1 C2:Ck} {i:Nat}:jF C C1->iB C1 i=some C2->jF C C2
def jF.trans {A B C:Ck} (h:jF A B) (a:jF B C):jF A C:=by
 induction a with
 | refl=>exact h
 | step _ hl ih=>exact .step ih hl
def sP (K:a8) (C:Ck) (s s':cD):Prop:=s'=s\/(jF C s'.1/\s'.2=iD K s'.1)
theorem Ba (K:a8) (s:cD) (C:Ck):sP K C s (ft K s C):=by
 unfold ft;split
 . exact .inr ⟨.refl,rfl⟩
 . exact .inl rfl
theorem sQ {K:a8} {rec:Ck->Nat->Nat->cD->cD} (h:∀ C of p s,sP K C s (rec C of p s)) (C:Ck) (of:Nat):∀ (L:a8) (a:Nat×cD×Bool),sP K C a.2.1 (L.foldl (gY rec C of) a).2.1
 | [],_=>.inl rfl
 | i::L,a=>by
  have d:sP K C a.2.1 (gY rec C of a i).2.1:=by
   unfold gY;split
   . exact .inl rfl
   . split
     . exact .inl rfl
     . split
       . exact .inl rfl
       . rename_i c hl
         rcases h c (bB of i) a.1 a.2.1 with e|⟨b,f⟩
         . exact .inl e
         . exact .inr ⟨jF.trans (.step .refl hl) b,f⟩
  rcases sQ h C of L (gY rec C of a i) with e|b
  . rw [Xc,e];exact d
  . exact .inr b
def zo (K:a8):∀ n C of p s,sP K C s (iF K n C of p s):=by
 have comb:∀ {rec:Ck->Nat->Nat->cD->cD} (_:∀ C of p s,sP K C s (rec C of p s)) C of p s,sP K C s ((ab of).foldl (gY rec C of) (p,ft K s C,false)).2.1:=by
  intro rec h C of p s;rcases sQ h C of (ab of) (p,ft K s C,false) with e|a
  . rw [e];exact Ba K s C
  . exact .inr a
 intro n;induction n with
 | zero=>exact comb (λ_ _ _ _=>.inl rfl)
 | succ n ih=>exact comb ih
def aP (n:Nat) (C:Ck) (kept:Nat):cD:=iF (ab kept) n C kept 0 (C,(ab kept).length)
def NR (K:a8) (C:Ck):iD K C<=K.length:=WS _ _
def zq (n:Nat) (C:Ck) (kept:Nat):jF C (aP n C kept).1/\(aP n C kept).2=iD (ab kept) (aP n C kept).1:=by
 rcases zo (ab kept) n C kept 0 (C,(ab kept).length) with e|h
 . have a:(aP n C kept).2<=iD (ab kept) C:=by
    unfold aP;rw [pt];exact TU (nP (NQ _ n) C kept _ _) (Hg _ _ C)
   have b:aP n C kept=(C,(ab kept).length):=e;rw [b] at a ⊢;exact ⟨.refl,Nat.le_antisymm a (NR _ _)⟩
 . exact h
theorem jF.good {C C':Ck} (o:Lin X) (s:jF C C') (p:zm C) (l:C.told<=C.count) (h:∀ k,k<C.count->X (C.m k))
 (n:∀ j∈L,D3 C j) :
 zm C'/\C'.told=C.told/\C'.told<=C'.count/\C'.count<=C.count/\(∀ k,k<C'.count->X (C'.m k))/\(∀ k,k<C.told->∀ j∈L,C'.m k j=C.m k j)/\∀ j∈L,D3 C' j:=by
 induction s with
 | refl=>exact ⟨p,rfl,l,TV _,h,λ_ _ _ _=>rfl,n⟩
 | step _ hl ih=>
  obtain ⟨b,t,le,v,g,on,sp⟩:=ih;rename_i c u i _
  obtain ⟨r,a,f,e,w⟩:=gB hl;refine ⟨by rw [a];exact m8 b,by rw [a];exact t,by rw [a];show c.told<=c.count-1;omega,by rw [a];show c.count-1<=_;omega,by rw [a];exact Hf o b e g,?_,λj d=>D4 b hl (.inl (sp j d))⟩;intro k q j d;rw [a,D0 ec f e];show c.m k j^^^gm _ (c.m r j)=_;rw [sp j d r f e,bD,U4,on k q j d]
def xs (f:Nat->Nat):Nat->Nat
 | 0=>0
 | n+1=>xs f n^^^f n
def eO {g:Nat->Nat}:∀ n,(∀ i,i<n->f i=g i)->xs f n=xs g n
 | 0,_=>rfl
 | n+1,h=>by show xs f n^^^f n=xs g n^^^g n;rw [eO n (λi a=>h i ec),h n ec]
def m9 (f g:Nat->Nat):∀ n,xs (λi=>f i^^^g i) n=xs f n^^^xs g n
 | 0=>(UU 0).symm
 | n+1=>by show xs _ n^^^(f n^^^g n)=(xs f n^^^f n)^^^(xs g n^^^g n);rw [m9 f g n,DW]
def dV:∀ n,(∀ i,i<n->f i=0)->xs f n=0
 | 0,_=>rfl
 | n+1,h=>by show xs f n^^^f n=0;rw [dV n (λi a=>h i ec),h n ec];rfl
def J9 (c:Nat) (f:Nat->Nat):∀ n,xs (λi=>gm c (f i)) n=gm c (xs f n)
 | 0=>(bD c).symm
 | n+1=>by show xs _ n^^^gm c (f n)=gm c (xs f n^^^f n);rw [J9 c f n,fA]
def jq:∀ n,k<n->(∀ i,i<n->i≠k->f i=0)->xs f n=f k
 | 0,h,_=>absurd h ec
 | n+1,h,hz=>by
  show xs f n^^^f n=f k;by_cases e:k=n
  . rw [dV n (λi a=>hz i ec ec),e,VU]
  . rw [jq n ec (λi a=>hz i ec),hz n ec ec,U4]
def Ka:∀ n,(∀ i,i<n->f i<256)->xs f n<256
 | 0,_=>Ze
 | n+1,h=>rO (Ka n (λi a=>h i ec)) (h n ec)
def zt (f:Nat->Nat) (a:Nat):∀ b,xs f (a+b)=xs f a^^^xs (λi=>f (a+i)) b
 | 0=>(U4 _).symm
 | b+1=>by show xs f (a+b)^^^f (a+b)=xs f a^^^(xs _ b^^^f (a+b));rw [zt f a b,U3]
def vX (M:Nat->Nat->Nat) (D n:Nat) (v:Nat->Nat):Prop:=bO v/\(∀ i,n<=i->v i=0)/\∀ j,j<D->xs (λi=>gm (v i) (M i j)) n=0
def Bb (M:Nat->Nat->Nat) (D n:Nat) (f:∀ i,bO (M i)):Lin (vX M D n):=by
 refine ⟨⟨λ_=>Ze,λ_ _=>rfl,λj _=>dV n (λi _=>bI _)⟩,?_⟩;rintro a r u b ⟨g,h,k⟩ ⟨u1,u2,u3⟩;refine ⟨wR u1 b,λi c=>?_,λj d=>?_⟩
 . show u i^^^gm a (r i)=0;rw [u2 i c,h i c,bD];rfl
 . have e:xs (λi=>gm (cA u a r i) (M i j)) n=xs (λi=>gm (u i) (M i j)^^^gm a (gm (r i) (M i j))) n:=
    eO n (λi _=>by show gm (u i^^^gm a (r i)) (M i j)=_;rw [fh _ (u1 i) (bu _ b),fD b (g i) (f i j)])
   rw [e,m9,J9,u3 j d,k j d,bD];rfl
def kl (M:Nat->Nat->Nat) (D P:Nat):Ck:=⟨λr j=>if r<P then (if j<D then M (D+r) j else if j=D+r then 1 else 0) else 0,0,P⟩
theorem sR (a:∀ i,bO (M i)):zm (kl M D P):=λr j=>by
 show (if r<P then _ else _)<256;split
 . split
   . exact a _ _
   . split<;>decide
 . decide
def Bd (a:∀ i,bO (M i)) (d:∀ i,i<D->∀ j,M i j=if j=i then 1 else 0) (k:Nat) (f:k<P):vX M D (D+P) ((kl M D P).m k):=by
 have e:∀ i,(kl M D P).m k i=if i<D then M (D+k) i else if i=D+k then 1 else 0:=λi=>by show (if k<P then _ else _)=_;rw [TT f]
 refine ⟨sR a k,λi b=>by rw [e,TS ec,TS ec],λj c=>?_⟩;rw [zt];have g:xs (λi=>gm ((kl M D P).m k i) (M i j)) D=M (D+k) j:=by
  rw [jq (k:=j) D c]
  . rw [e,TT c,d j c,TT rfl,eo _ (a _ _)]
  . intro i b ne;rw [d i b,TS (Vn ne),bD]
 have h:xs (λi=>gm ((kl M D P).m k (D+i)) (M (D+i) j)) P=M (D+k) j:=by
  rw [jq (k:=k) P f]
  . rw [e,TS ec,TT rfl,fC ee (a _ _),eo _ (a _ _)]
  . intro i b ne;rw [e,TS ec,TS ec,bI]
 rw [g,h,UU]
theorem sS (f:Nat->Nat->Nat) (a:Nat->Nat) (b:bO a):∀ n,(∀ i,i<n->a i≠0->R (f i))->aW R (λj=>xs (λi=>gm (a i) (f i j)) n)
 | 0,_=>aW.zero R
 | n+1,h=>by
  have ih:=sS f a b n (λi d=>h i ec);by_cases e:a n=0
  . have c:(λj=>xs (λi=>gm (a i) (f i j)) (n+1))=λj=>xs (λi=>gm (a i) (f i j)) n:=by
     funext j;show _^^^gm (a n) (f n j)=_;rw [e,bI,U4]
    rw [c];exact ih
  . exact ih.step (b n) (h n ec e)
theorem Kb (f:∀ i,i<D->∀ j,M i j=if j=i then 1 else 0) {v:Nat->Nat} (n:vX M D (D+P) v):aW (mG (kl M D P) 0) v:=by
 obtain ⟨d,o,p⟩:=n;have h:=sS (R:=mG (kl M D P) 0) (kl M D P).m (λi=>v (D+i)) (λi=>d _) P (λi a _=>⟨i,T8 _,a,rfl⟩);have e:(λj=>xs (λi=>gm (v (D+i)) ((kl M D P).m i j)) P)=v:=by
  funext j;by_cases b:j<D
  . have g:xs (λi=>gm (v (D+i)) ((kl M D P).m i j)) P=xs (λi=>gm (v (D+i)) (M (D+i) j)) P:=eO P (λi a=>by
     show gm _ (if i<P then _ else _)=_;rw [TT a,TT b])
    rw [g];have c:=p j b;rw [zt] at c;have l:xs (λi=>gm (v i) (M i j)) D=v j:=by
     rw [jq (k:=j) D b]
     . rw [f j b,TT rfl,eo _ (d j)]
     . intro i a ne;rw [f i a,TS (Vn ne),bD]
    rw [l] at c;exact (D5 c).symm
  . by_cases q:j<D+P
    . rw [jq (k:=j-D) P ec]
      . show gm _ (if j-D<P then _ else _)=_;rw [TT ec,TS b,TT ec,(ec:D+(j-D)=j),eo _ (d j)]
      . intro i a ne;show gm _ (if i<P then _ else _)=_;rw [TT a,TS b,TS ec,bD]
    . rw [o j ec];exact dV P (λi a=>by
       show gm _ (if i<P then _ else _)=_;rw [TT a,TS b,TS ec,bD])
 rwa [e] at h
def Kc (M:Nat->Nat->Nat) (n:Nat) (Q:Nat->Prop):(Nat->Nat)->Prop:=λv=>∃ i,i<n/\Q i/\v=M i
theorem D6 {x:Nat->Nat} (o:aW (Kc M n Q) x) :
 ∃ a,bO a/\(∀ i,¬ (i<n/\Q i)->a i=0)/\∀ j,x j=xs (λi=>gm (a i) (M i j)) n:=by
 refine o (λx=>∃ a,bO a/\(∀ i,¬ (i<n/\Q i)->a i=0)/\∀ j,x j=xs (λi=>gm (a i) (M i j)) n)
  ⟨λ_=>0,λ_=>Ze,λ_ _=>rfl,λj=>(dV n (λi _=>bI _)).symm⟩ ?_
 rintro b r u m ⟨k,k1,k2,rfl⟩ ⟨a,c,g,h⟩;have d:bO (λi=>if i=k then b else 0):=λi=>by show (if i=k then b else 0)<256;split;exact m;decide
 refine ⟨λi=>a i^^^(if i=k then b else 0),λi=>rO (c i) (d i),λi f=>?_,λj=>?_⟩
 . have:i≠k:=λe=>f (by rw [e];exact ⟨k1,k2⟩);show a i^^^(if i=k then b else 0)=0;rw [g i f,TS this];rfl
 . have e:xs (λi=>gm (a i^^^(if i=k then b else 0)) (M i j)) n=xs (λi=>gm (a i) (M i j)^^^gm (if i=k then b else 0) (M i j)) n:=
    eO n (λi _=>fh _ (c i) (d i))
   rw [e,m9,<- h j];have l:xs (λi=>gm (if i=k then b else 0) (M i j)) n=gm b (M k j):=by
    rw [jq (k:=k) n k1]
    . rw [TT rfl]
    . intro i _ ne;rw [TS ne,bI]
   rw [l];rfl
def zu (f:∀ i,bO (M i)) (p:k<n) (o:¬ Q k) (h:aW (Kc M n Q) (M k)) :
 ∃ u,vX M D n u/\u k=1/\∀ i,i≠k->¬ Q i->u i=0:=by
 obtain ⟨a,c,b,l⟩:=D6 h;have m:a k=0:=b k (λh=>o h.2);have d:bO (gA k):=j8 k;refine ⟨λi=>a i^^^gA k i,⟨λi=>rO (c i) (d i),λi g=>?_,λj _=>?_⟩,?_,λi g q=>?_⟩
 . show a i^^^(if i=k then 1 else 0)=0;rw [b i ec,TS ec];rfl
 . have e:xs (λi=>gm (a i^^^gA k i) (M i j)) n=xs (λi=>gm (a i) (M i j)^^^gm (gA k i) (M i j)) n:=eO n (λi _=>fh _ (c i) (d i));rw [e,m9,<- l j,jq (k:=k) n p]
   . show M k j^^^gm (if k=k then 1 else 0) (M k j)=0;rw [TT rfl,fC ee (f k j),eo _ (f k j),UU]
   . intro i _ ne;show gm (if i=k then 1 else 0) (M i j)=0;rw [TS ne,bI]
 . show a k^^^(if k=k then 1 else 0)=1;rw [m,TT rfl];rfl
 . show a i^^^(if i=k then 1 else 0)=0;rw [b i (λh=>q h.2),TS g];rfl
theorem nQ (c:∀ i,bO (M i)) (g:∀ i j,D<=j->M i j=0) (r:k<n) {u:Nat->Nat} (s:vX M D n u) (o:u k=1) (m:∀ i,i<n->i≠k->u i≠0->Q i) :
 aW (Kc M n Q) (M k):=by
 obtain ⟨u1,u2,u3⟩:=s;have p:bO (λi=>if i=k then 0 else u i):=λi=>by show (if i=k then 0 else u i)<256;split;decide;exact u1 i
 have h:=sS (R:=Kc M n Q) M (λi=>if i=k then 0 else u i) p n (λi d a=>by
  by_cases e:i=k
  . simp [e] at a
  . exact ⟨i,d,m i d e (by simpa [e] using a),rfl⟩)
 have e:(λj=>xs (λi=>gm (if i=k then 0 else u i) (M i j)) n)=M k:=by
  funext j;by_cases q:j<D
  . have l:xs (λi=>gm (u i) (M i j)) n=xs (λi=>gm (if i=k then 0 else u i) (M i j)^^^gm (gA k i) (M i j)) n:=eO n (λi _=>by
     by_cases e:i=k
     . rw [TT e,bI,VU,e,o];show _=gm (if k=k then 1 else 0) _;rw [TT rfl]
     . rw [TS e];show _=_^^^gm (if i=k then 1 else 0) _;rw [TS e,bI,U4])
    have b:=u3 j q;rw [l,m9,jq (f:=λi=>gm (gA k i) (M i j)) (k:=k) n r] at b
    . have:=D5 b;rw [this];show gm (if k=k then 1 else 0) (M k j)=_;rw [TT rfl,fC ee (c k j),eo _ (c k j)]
    . intro i _ ne;show gm (if i=k then 1 else 0) (M i j)=0;rw [TS ne,bI]
  . rw [g k j ec];exact dV n (λi _=>by rw [g i j ec,bD])
 rwa [e] at h
structure Code (M:Nat->Nat->Nat) (D P:Nat):Prop where
 byt:∀ i,bO (M i)
 unit:∀ i,i<D->∀ j,M i j=if j=i then 1 else 0
 RR:∀ i j,D<=j->M i j=0
def Code.told (h:Code M D P) (L:a8) :
 (∃ C,tells (kl M D P) L=some C/\fj (kl M D P) (vX M D (D+P)) L C)\/(tells (kl M D P) L=none/\∃ pre i,(pre++[i])<+:L/\∀ v,aW (mG (kl M D P) 0) v->(∀ j∈pre,v j=0)->v i=0):=by
 have:=fj.of (Bb M D (D+P) h.byt) (C0:=kl M D P) rfl (sR h.byt) (λk a=>Bd h.byt h.unit k a) L [] (kl M D P) (fj.nil rfl (sR h.byt) (λk a=>Bd h.byt h.unit k a)) rfl;simpa using this
theorem Code.full (h:Code M D P) {L:a8} {C:Ck} (a:fj (kl M D P) (vX M D (D+P)) L C):mF (Kc M (D+P) (λi=>i∉L)) 0 D:=by
 have n:∀ r,Kc M (D+P) (λi=>i∉L) r->bO r:=by rintro r ⟨i,_,_,rfl⟩;exact h.byt i
 have m:∀ i,i<D+P->aW (Kc M (D+P) (λi=>i∉L)) (M i):=by
  intro i f;by_cases g:i∈L
  . obtain ⟨k,d,rfl⟩:=UR g;have q:k<C.count:=(by have:=a.told;have:=a.le;omega);refine nQ h.byt h.RR f (a.all k q) ?_ ?_
    . rw [a.one k d k d,TT rfl]
    . intro j _ c b o;obtain ⟨l,p,rfl⟩:=UR o;rw [a.one k d l p] at b;by_cases e:k=l
      . subst e;exact c rfl
      . rw [TS e] at b;exact b rfl
  . exact aW.mem (h.byt i) ⟨i,f,g,rfl⟩
 refine mF.units n (λj c=>?_);have e:M j=gA j:=by funext x;rw [h.unit j c];rfl
 rw [<- e];exact m j ec
def Code.Tw (h:Code M D P) {L:a8} (c:L.Nodup) (g:∀ i∈L,i<D+P) (k:∃ pre i,(pre++[i])<+:L/\∀ v,aW (mG (kl M D P) 0) v->(∀ j∈pre,v j=0)->v i=0) :
 ¬ mF (Kc M (D+P) (λi=>i∉L)) 0 D:=by
 obtain ⟨pre,i,⟨R,rfl⟩,m⟩:=k;intro f;have d:i∈pre++[i]++R:=ek
 obtain ⟨u,l,u1,u0⟩:=zu (D:=D) h.byt (g i d) (λb=>b d) (f (M i) (h.byt i) (λj a=>h.RR i j ec));have:=m u (Kb h.unit l) (λj a=>u0 j (λe=>by
  subst e;rw [Uz] at c;have:=(U9.1 c).2.2 j a j ek;exact this rfl) (λb=>b Zg))
 rw [u1] at this;exact absurd this ee
structure Hh (M:Nat->Nat->Nat) (D P:Nat) (L:a8) (B:Ck):Prop where
 told:B.told=L.length
 le:B.told<=B.count
 Sb:B.count<=P
 byt:zm B
 dual:∀ k,k<B.told->vX M D (D+P) (B.m k)
 one:∀ k,k<L.length->∀ k' (h:k'<L.length),B.m k L[k']=if k=k' then 1 else 0
def Code.SB (h:Code M D P) {L:a8} {C B:Ck} (a:fj (kl M D P) (vX M D (D+P)) L C) (n:jF C B):Hh M D P L B:=by
 have i:∀ j∈L,D3 C j:=λj l r d c=>((a.spare (C.m r)).1 (aW.mem (a.byt r) ⟨r,d,c,rfl⟩)).2 j l;obtain ⟨b,t,le,p,g,on,_⟩:=n.good (Bb M D (D+P) h.byt) a.byt a.le a.all i;have:=a.told;have c:=a.count;refine ⟨ec,le,by have:C.count=P:=c;omega,b,λk f=>g k ec,λk f o e=>?_⟩;rw [on k ec _ (T6 e),a.one k f o e]
def Hh.tells {B:Ck} (d:Code M D P) (h:Hh M D P L B) (o:∀ i∈L,i<D+P):∀ i∈L,aW (Kc M (D+P) (λj=>j∉L/\cF B j=true)) (M i):=by
 intro i f;obtain ⟨k,b,rfl⟩:=UR f;have c:k<B.told:=e9 h.told
 refine nQ d.byt d.RR (o _ f) (h.dual k c) (by rw [h.one k b k b,TT rfl]) ?_;intro j _ n a;refine ⟨λl=>?_,qR c a⟩;obtain ⟨g,m,rfl⟩:=UR l;rw [h.one k b g m] at a;by_cases e:k=g
 . subst e;exact n rfl
 . rw [TS e] at a;exact a rfl
theorem Hh.sum {B:Ck} (s:Code M D P) (h:Hh M D P L B) (x:∀ i∈L,i<D+P) (d:Nat->Nat) (u:bO d) (k:Nat) (b:k<L.length) :
 xs (λi=>if i∈L then 0 else gm (B.m k i) (xs (λj=>gm (M i j) (d j)) D)) (D+P)=xs (λj=>gm (M L[k] j) (d j)) D:=by
 have t:k<B.told:=e9 h.told
 obtain ⟨o,z,y⟩:=h.dual k t;have v:=x _ (T6 b);have r:∀ i,xs (λj=>gm (M i j) (d j)) D<256:=λi=>Ka D (λj _=>bu _ (s.byt i j));have swap:∀ n,xs (λi=>gm (B.m k i) (xs (λj=>gm (M i j) (d j)) D)) n=xs (λj=>gm (xs (λi=>gm (B.m k i) (M i j)) n) (d j)) D:=by
  intro n;induction n with
  | zero=>exact (dV D (λj _=>bI _)).symm
  | succ n ih=>
   show xs _ n^^^gm (B.m k n) (xs (λj=>gm (M n j) (d j)) D)=_;rw [ih,<- J9,<- m9];apply eO;intro j _;show _=gm (xs _ n^^^gm (B.m k n) (M n j)) (d j);rw [fh _ (Ka n (λi _=>bu _ (o i))) (bu _ (o n)),fD (o n) (s.byt n j) (u j)]
 have l:xs (λi=>gm (B.m k i) (xs (λj=>gm (M i j) (d j)) D)) (D+P)=0:=by
  rw [swap];exact dV D (λj w=>by rw [y j w,bI])
 have e:xs (λi=>gm (B.m k i) (xs (λj=>gm (M i j) (d j)) D)) (D+P)=xs (λi=>(if i∈L then 0 else gm (B.m k i) (xs (λj=>gm (M i j) (d j)) D))^^^(if i=L[k] then xs (λj=>gm (M L[k] j) (d j)) D else 0)) (D+P):=by
  apply eO;intro i _;by_cases c:i∈L
  . obtain ⟨g,q,rfl⟩:=UR c;rw [TT c,VU,h.one k b g q];by_cases e:L[g]=L[k]
    . rw [TT e,e];by_cases a:k=g
      . rw [TT a,fC ee (r _),eo _ (r _)]
      . have c1:=h.one k b k b;have p:=h.one k b g q;rw [e,c1,TT rfl,TS a] at p;exact absurd p ee
    . rw [TS e,TS (λa=>e (by subst a;rfl)),bI]
  . rw [TS c,TS (show ¬ i=L[k] from λa=>c (by rw [a];exact T6 b)),U4]
 rw [e,m9,jq (f:=λi=>if i=L[k] then xs (λj=>gm (M L[k] j) (d j)) D else 0) (k:=L[k]) _ v] at l
 . rw [TT rfl] at l;exact D5 l
 . intro i _ ne;rw [TS ne]
