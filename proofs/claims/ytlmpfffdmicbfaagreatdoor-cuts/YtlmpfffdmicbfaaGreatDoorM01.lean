set_option maxRecDepth 100000
set_option linter.all false
set_option maxHeartbeats 8000000
open List renaming range -> YE, find?_eq_none -> YI
open Nat renaming shiftLeft_xor_distrib -> YF, shiftLeft_eq -> YG, xor_mod_two_pow -> YH
namespace Go.Proofs.YtlmpfffdmicbfaaGreatDoor
variable {p q:Prop}
def V(h:p:=by omega):p:=h
def ec(h:p:=by decide):p:=h
def ej(h:p:=by simp):p:=h
def ek(h:p:=by simp;omega):p:=h
def eD(h:p:=by unfold maxLen;omega):p:=h
def eP(h:p:=by show w.heap.size<=w.heap.size+1;omega):p:=h
def ia(h:q)(k:q->p:=by intro;omega):p:=k h
def iE(h:p:=by simp[intOf];omega):p:=h
def l7(h:p:=by rw[Ux];omega):p:=h
def oD(h:p:=by simp[World.setCell]):p:=h
def ua(h:q)(k:q->p:=by intro h;simpa using h):p:=k h
def um(h:p:=by rfl):p:=h
def vm(h:p:=by unfold kT;decide):p:=h
def vy(h:p:=by rw[beq_eq_false_iff_ne];omega):p:=h
def vE(h:p:=by simp[Value.ownBlock]):p:=h
def Ax(h:p:=by decide+kernel):p:=h
def Bf(h:p:=by cases h):p:=h
def B8(h:p:=by simp[World.cell?,d]):p:=h
def D0(h:p:=by rw[aG];exact TV _):p:=h
def D2(h:p:=by unfold wrap64;omega):p:=h
def E3(h:p:=by cases e;exact TV _):p:=h
def G0(h:p:=by rw[Uh];omega):p:=h
def HU(h:p:=by simp[Value.oneCell']):p:=h
def Jx(h:p:=by simp[aF.os]):p:=h
def KP(h:p:=by simp[Act.eval,Act.put]):p:=h
def K0(h:p:=by rw[Uq];omega):p:=h
def K1(h:p:=by rw[U7];omega):p:=h
def L0(h:p:=by simp[World.putObj]):p:=h
def Ok(h:p:=by rw[iu];rfl):p:=h
def Pl(h:p:=by simp[World.cell?,c.o.res]):p:=h
def P6(h:p:=by simp[World.cell?,c.o.rv]):p:=h
def T1(h:p:=by rw[Un,a.o.2.2];decide):p:=h
def T2(h:p:=by rw[a];rfl):p:=h
def T3(h:p:=by simp[World.cell?,N,aq]):p:=h
def V1(h:p:=by simp[World.cell?,r]):p:=h
def V2(h:p:=by rw[e]):p:=h
def Wa(h:p:=by simpa[Value.ownBlock]using e):p:=h
def Wb(h:p:=by show w.heap.size<=w.heap.size+1+1;omega):p:=h
def W7(h:p:=by have:=a.o.2.2.2;have:=b.o.2.2.2.1;omega):p:=h
def W8(h:p:=by cases e):p:=h
def Zb(h:p:=by show 0<256;decide):p:=h
def Zc(h:p:=by rw[cP];omega):p:=h
def Zd(h:p:=by obtain⟨q,_⟩:=Vd.1 b;rwa[cH]at q):p:=h
def Ze(h:p:=by simp[World.setRow]):p:=h
def Zf(h:p:=by have:=P.out;have:=N.o;omega):p:=h
def Zg(h:p:=by rw[Uh];have:=a.size;omega):p:=h
def Zh(h:p:=by simp[Ox]):p:=h
def Zi(h:p:=by unfold aL;rw[UJ,Ud a,Ub,Ud a];rfl):p:=h
def Zj(h:p:=by cases e;omega):p:=h
def Zk(h:p:=by simp[World.setCell];omega):p:=h
def Zl(h:p:=by simp[a]):p:=h
def Zm(h:p:=by simp[World.cell?,a]):p:=h
def Zn(h:p:=by simp[World.cell?,l]):p:=h
def Zo(h:p:=by simp[World.cell?,d]):p:=h
def Zp(h:p:=by simp[bF.body]):p:=h
def Zq(h:p:=by rw[fm];exact h.disk.up):p:=h
def Zr(h:p:=by intro e;rw[e]at a;simp at a):p:=h
def Zs(h:p:=by rw[bne_iff_ne];omega):p:=h
def Zt(h:p:=by simp[World.cell?,C,aq]):p:=h
def Zu(h:p:=by simp at a):p:=h
def Zv(h:p:=by simp[aG]):p:=h
def Zw(h:p:=by simp[World.cell?,f]):p:=h
def Zx(h:p:=by show n<=140737488355328;omega):p:=h
def Zy(h:p:=by rw[hs.nN];exact hs.vol.par.s):p:=h
def Zz(h:p:=by simp[World.cell?,z]):p:=h
def ZA(h:p:=by simp[c]):p:=h
def ZB(h:p:=by simp[results,results186]):p:=h
def ZC(h:p:=by simp[Oper.about,ho]):p:=h
def ZD(h:p:=by rw[<-Xg a v u k];exact g):p:=h
def ZE(h:p:=by exact H.o.1):p:=h
def ZF(h:p:=by rw[f,jc b c];simp):p:=h
def ZG(h:p:=by simp only[fZ,l];decide):p:=h
def ZH(h:p:=by rw[bB];omega):p:=h
def adG(h:p:=by simp[World.frozen?,E]):p:=h
def adH(h:p:=by simp[World.frozen?,F]):p:=h
def adI(h:p:=by simp[World.frozen?,z]):p:=h
def adJ(h:p:=by rw[hK.psE];exact hK.vol):p:=h
def adK(h:p:=by simp[World.cell?,t.o.1]):p:=h
def adL(h:p:=by simp[World.cell?,a.par]):p:=h
def adM(h:p:=by split<;>omega):p:=h
def adN(h:p:=by simp[World.frozen?,d]):p:=h
def adO(h:p:=by simp[World.frozen?,s]):p:=h
def adP(h:p:=by have:=b.o;congr 1;omega):p:=h
def adQ(h:p:=by simp[Act.eval]):p:=h
def adR(h:p:=by simp[World.frozen?,a]):p:=h
def adS(h:p:=by simp[World.cell?,F]):p:=h
def adT(h:p:=by cases e;rfl):p:=h
def adU(h:p:=by simp[World.cell?,s]):p:=h
def adV(h:p:=by simp[b]):p:=h
def adW(h:p:=by rw[aG];decide):p:=h
def adX(h:p:=by cases hq):p:=h
def adY(h:p:=by cases q):p:=h
abbrev a7:=List Nat
end Go.Proofs.YtlmpfffdmicbfaaGreatDoor
namespace Go.Proofs.YtlmpfffdmicbfaaGreatDoor
def V7:=@Nat.xor_lt_two_pow
def Wf:=@Nat.mul_comm
def Vv:=@Nat.mod_two_eq_zero_or_one
def UU:=@Nat.xor_assoc
def VA:=@Nat.xor_comm
def ac1:=@Nat.xor_div_two_pow
def UL:=@Nat.xor_self
def UX:=@Nat.xor_zero
def TY:=@Nat.lt_of_lt_of_le
def VC:=@Nat.pow_lt_pow_right
def adC:=@Nat.mul_lt_mul_of_pos_right
def VL:=@Nat.two_pow_pos
def UY:=@Nat.pow_le_pow_right
def Vq:=@Nat.zero_xor
def XQ:=@Nat.eq_of_testBit_eq
def ac2:=@Nat.testBit_xor
def TV:=@Nat.le_refl
def T7:=@List.getElem_mem
def Vn:=@List.getElem?_eq_none
def Wz:=@Nat.not_lt
def TT:=@if_pos
def TS:=@if_neg
def T8:=@Nat.zero_le
def Uy:=@congrArg
def UO:=@List.nodup_cons
def UG:=@List.mem_cons_self
def Uo:=@List.mem_cons_of_mem
def Uu:=@List.mem_cons
def Ul:=@List.mem_range
def Ws:=@List.foldl_append
def Wu:=@Option.map_eq_some_iff
def XR:=@List.getElem_append_right
def XS:=@List.getElem_append_left
def Xb:=@Nat.sub_self
def Ui:=@List.mem_append
def Va:=@List.mem_singleton
def UB:=@List.mem_append_left
def XT:=@List.prefix_append
def Vr:=@List.mem_filter
def Wv:=@List.filter_append
def ac3:=@List.pairwise_append
def TU:=@Nat.le_trans
def Xc:=@List.foldl_cons
def WS:=@List.length_filter_le
def Vc:=@Ne.symm
def UZ:=@List.getElem_of_mem
def UA:=@List.append_assoc
def U3:=@List.nodup_append
end Go.Proofs.YtlmpfffdmicbfaaGreatDoor
namespace Go.Proofs.YtlmpfffdmicbfaaGreatDoor.Gf
variable {R R' X:(Nat->Nat)->Prop}{T T':List a7}{L:a7}{x y a i b c r n k D j cnt s P:Nat}{u f:Nat->Nat}{m M:Nat->Nat->Nat}{Q:Nat->Prop}
def tx(a:Nat):Nat:=if a<128 then 2*a else(2*a-256)^^^29
def AA:Nat->Nat->Nat->Nat->Nat|0,_,_,p=>p|n+1,a,b,p=>AA n (tx a) (b/2) (if b%2=1 then p^^^a else p)
def gm(a b:Nat):Nat:=AA 8 a b 0
def QU:Nat->Nat->Nat->Nat|0,_,v=>v|n+1,p,v=>QU n (gm p p) (gm v (gm p p))
def gi(a:Nat):Nat:=QU 7 a 1
def ld(a:x<256)(b:y<256):x^^^y<256:=V7 (n:=8) a b
theorem Ci(h:a<256):tx a<256:=by
 unfold tx;split;.omega
 .exact ld V ec
theorem Rr(n:Nat):∀a b p,a<256->p<256->AA n a b p<256:=by induction n with|zero=>intro a b p _ c;exact c|succ n ih=>
  intro a b p d c;unfold AA;refine ih _ _ _ (Ci d) ?_;split;.exact ld c d
  .exact c
def aV(b:Nat)(c:a<256):gm a b<256:=Rr 8 a b 0 c ec
def Rs(n:Nat):∀p v,p<256->v<256->QU n p v<256:=by induction n with|zero=>intro p v _ a;exact a|succ n ih=>intro p v b a;unfold QU;exact ih _ _ (aV _ b) (aV _ a)
def dH(h:a<256):gi a<256:=Rs 7 a 1 h ec
def Cj(x y:Nat):2*(x^^^y)=(2*x)^^^(2*y):=by have:=YF (a:=x) (b:=y) (i:=1);simp only[YG,Nat.pow_one]at this;rw[Wf,this,Wf x,Wf y]
def Lc(x y:Nat):(x^^^y)/2=(x/2)^^^(y/2):=Nat.xor_div_two
def ue(x y:Nat):(x^^^y)%2=(x%2+y%2)%2:=by have h:=YH (a:=x) (b:=y) (n:=1);simp only[Nat.pow_one]at h;rw[h];have c:=Vv x;have d:=Vv y;rcases c with c|c<;>rcases d with d|d<;>rw[c,d]<;>rfl
def Cl(a b c d:Nat):(a^^^b)^^^(c^^^d)=(a^^^c)^^^(b^^^d):=by rw[UU,UU,<-UU b c d,VA b c,UU c b d]
def Ld:∀a,a<256->tx a=(2*a)%256^^^(if a/128%2=1 then 29 else 0):=Ax
def Ru(x y:Nat):(x^^^y)/128%2=(x/128%2+y/128%2)%2:=by have:(x^^^y)/128=(x/128)^^^(y/128):=ac1 (n:=7);rw[this];exact ue _ _
theorem Rv(c:x<256)(d:y<256):tx (x^^^y)=tx x^^^tx y:=by rw[Ld _ (ld c d),Ld _ c,Ld _ d,Cl,Cj];have h:=YH (a:=2*x) (b:=2*y) (n:=8);have e:(2:Nat)^8=256:=rfl;rw[e]at h;rw[h,Ru];congr 1;have c:=Vv (x/128);have d:=Vv (y/128);rcases c with c|c<;>rcases d with d|d<;>rw[c,d]<;>rfl
theorem IV(n:Nat):∀a b c p q,AA n a (b^^^c) (p^^^q)=AA n a b p^^^AA n a c q:=by induction n with|zero=>intro a b c p q;rfl|succ n ih=>
  intro a b c p q;simp only[AA];rw[Lc,<-ih,ue];congr 1;have d:=Vv b;have e:=Vv c;rcases d with d|d<;>rcases e with e|e<;>rw[d,e]<;>simp;.rw[UU]
  .rw[UU,VA q a,<-UU]
  .rw[Cl,UL,UX]
theorem IW(n:Nat):∀a d b p q,a<256->d<256->AA n (a^^^d) b (p^^^q)=AA n a b p^^^AA n d b q:=by induction n with|zero=>intro a d b p q _ _;rfl|succ n ih=>
  intro a d b p q c e;simp only[AA];rw[Rv c e,<-ih _ _ _ _ _ (Ci c) (Ci e)];congr 1;by_cases h:b%2=1;.simp only[h,if_true];exact Cl _ _ _ _
  .simp only[h,if_false]
def eU(a b c:Nat):gm a (b^^^c)=gm a b^^^gm a c:=IV 8 a b c 0 0
def eV{d:Nat}(b:Nat)(c:a<256)(e:d<256):gm (a^^^d) b=gm a b^^^gm d b:=IW 8 a d b 0 0 c e
def abH:∀x,x<256->x=(if x%2=1 then 1 else 0)^^^((if x/2%2=1 then 2 else 0)^^^((if x/4%2=1 then 4 else 0)^^^((if x/8%2=1 then 8 else 0)^^^((if x/16%2=1 then 16 else 0)^^^((if x/32%2=1 then 32 else 0)^^^((if x/64%2=1 then 64 else 0)^^^(if x/128%2=1 then 128 else 0))))))):=by decide+kernel
theorem ew(f g:Nat->Nat)(d:∀x y,x<256->y<256->f (x^^^y)=f x^^^f y)(j:∀x y,x<256->y<256->g (x^^^y)=g x^^^g y)(h:∀i,i<8->f (2^i)=g (2^i))(x:Nat)(A:x<256):f x=g x:=by
 have w:f 0=0:=by have:=d 0 0 ec ec;rw[UL,UL]at this;exact this
 have z:g 0=0:=by have:=j 0 0 ec ec;rw[UL,UL]at this;exact this
 have one:∀(c:Prop)[Decidable c](i:Nat),i<8->f (if c then 2^i else 0)=g (if c then 2^i else 0):=by
  intro c _ i a;split;.exact h i a
  .rw[w,z]
 have lt:∀(c:Prop)[Decidable c](i:Nat),i<8->(if c then 2^i else 0)<256:=by
  intro c _ i a;split;.exact TY (VC ec a) ec
  .decide
 have st:∀(c:Prop)[Decidable c](i y:Nat),i<8->y<256->f y=g y->f ((if c then 2^i else 0)^^^y)=g ((if c then 2^i else 0)^^^y):=by intro c _ i y a k e;rw[d _ _ (lt c i a) k,j _ _ (lt c i a) k,one c i a,e]
 have n:=lt (x/128%2=1) 7 ec;have l6:=ld (lt (x/64%2=1) 6 ec) n;have l5:=ld (lt (x/32%2=1) 5 ec) l6;have l4:=ld (lt (x/16%2=1) 4 ec) l5;have m:=ld (lt (x/8%2=1) 3 ec) l4;have l:=ld (lt (x/4%2=1) 2 ec) m;have l1:=ld (lt (x/2%2=1) 1 ec) l;have v:=one (x/128%2=1) 7 ec;have u:=st (x/64%2=1) 6 _ ec n v;have t:=st (x/32%2=1) 5 _ ec l6 u;have r:=st (x/16%2=1) 4 _ ec l5 t;have q:=st (x/8%2=1) 3 _ ec l4 r;have p:=st (x/4%2=1) 2 _ ec m q;have o:=st (x/2%2=1) 1 _ ec l p;have b:=st (x%2=1) 0 _ ec l1 o;have s:=abH x A;simp only[Nat.reducePow]at b;rw[<-s]at b;exact b
def E7:∀i,i<8->∀j,j<8->gm (2^i) (2^j)=gm (2^j) (2^i):=Ax
def Cm:∀i,i<8->∀j,j<8->∀k,k<8->gm (gm (2^i) (2^j)) (2^k)=gm (2^i) (gm (2^j) (2^k)):=Ax
def Le(a:i<8):2^i<256:=TY (VC ec a) ec
def cB(e:a<256)(f:b<256):gm a b=gm b a:=by refine ew (λx=>gm a x) (λx=>gm x a) (λx y _ _=>eU a x y) (λx y c d=>eV a c d) (λi g=>?_) b f;refine ew (λx=>gm x (2^i)) (λx=>gm (2^i) x) (λx y c d=>eV _ c d) (λx y _ _=>eU _ x y) (λj h=>?_) a e;exact E7 j h i g
def bj(g:a<256)(h:b<256)(l:c<256):gm (gm a b) c=gm a (gm b c):=by
 refine ew (λx=>gm (gm x b) c) (λx=>gm x (gm b c)) (λx y d e=>?_) (λx y d e=>eV _ d e) (λi f=>?_) a g;.show gm (gm (x^^^y) b) c=_;rw[eV _ d e,eV _ (aV _ d) (aV _ e)]
 refine ew (λx=>gm (gm (2^i) x) c) (λx=>gm (2^i) (gm x c)) (λx y d e=>?_) (λx y d e=>?_) (λj m=>?_) b h;.show gm (gm (2^i) (x^^^y)) c=_;rw[eU,eV _ (aV _ (Le f)) (aV _ (Le f))]
 .show gm (2^i) (gm (x^^^y) c)=_;rw[eV _ d e,eU]
 refine ew (λx=>gm (gm (2^i) (2^j)) x) (λx=>gm (2^i) (gm (2^j) x)) (λx y _ _=>eU _ x y) (λx y _ _=>?_) (λk n=>?_) c l;.show gm (2^i) (gm (2^j) (x^^^y))=_;rw[eU,eU]
 exact Cm i f j m k n
def cT:∀a,a<256->gm a 1=a:=Ax
def jw:∀a,a<256->a≠0->gm a (gi a)=1:=Ax
def O3:gi 0=0:=Ax
def bm(a:Nat):gm a 0=0:=by have:=eU a 0 0;rw[UL,UL]at this;exact this
def bO(b:Nat):gm 0 b=0:=by have:=eV (a:=0) (d:=0) b ec ec;rw[UL,UL]at this;exact this
def IX(c:a<256)(d:b<256)(h:gm a b=1):b=gi a:=by
 have i:a≠0:=by intro e;rw[e,bO]at h;exact absurd h ec
 have f:=dH c;have g:=bj f c d;rw[h,cT _ f,cB f c,jw a c i,cB ec d,cT b d]at g;exact g
def pm(a b:Nat):Nat->Nat|0=>0|n+1=>if b/2^n%2=1 then pm a b n^^^(a*2^n)else pm a b n
def rd:Nat->Nat->Nat|0,p=>p|k+1,p=>rd k (if p/2^(k+8)%2=1 then p^^^(285*2^k)else p)
def Hc(x y n:Nat):(x^^^y)/2^n%2=(x/2^n%2+y/2^n%2)%2:=by rw[ac1];exact ue _ _
def Cn(x y n:Nat):(x^^^y)*2^n=(x*2^n)^^^(y*2^n):=by have:=YF (a:=x) (b:=y) (i:=n);simpa only[YG]using this
def Lf(a b c n:Nat):pm a (b^^^c) n=pm a b n^^^pm a c n:=by induction n with|zero=>simp[pm]|succ n ih=>
  simp only[pm];rw[Hc,ih];have d:=Vv (b/2^n);have e:=Vv (c/2^n);rcases d with d|d<;>rcases e with e|e<;>rw[d,e]<;>simp;.rw[UU]
  .rw[UU,VA (pm a c n),<-UU]
  .rw[Cl,UL,UX]
def Lg(a d b n:Nat):pm (a^^^d) b n=pm a b n^^^pm d b n:=by induction n with|zero=>simp[pm]|succ n ih=>
  simp only[pm];rw[ih];by_cases h:b/2^n%2=1;.simp only[h,if_true];rw[Cn];exact Cl _ _ _ _
  .simp only[h,if_false]
theorem Lh(k:Nat):∀p q,rd k (p^^^q)=rd k p^^^rd k q:=by induction k with|zero=>intro p q;rfl|succ k ih=>
  intro p q;simp only[rd];rw[<-ih,Hc];congr 1;have a:=Vv (p/2^(k+8));have b:=Vv (q/2^(k+8));rcases a with a|a<;>rcases b with b|b<;>rw[a,b]<;>simp;.rw[UU]
  .rw[UU,VA q,<-UU]
  .rw[Cl,UL,UX]
def IY:∀i,i<8->∀j,j<8->rd 7 (pm (2^i) (2^j) 8)=gm (2^i) (2^j):=Ax
def Rw(c:a<256)(d:b<256):rd 7 (pm a b 8)=gm a b:=by
 refine ew (λx=>rd 7 (pm a x 8)) (λx=>gm a x) (λx y _ _=>?_) (λx y _ _=>eU a x y) (λi e=>?_) b d;.show rd 7 (pm a (x^^^y) 8)=_;rw[Lf,Lh]
 refine ew (λx=>rd 7 (pm x (2^i) 8)) (λx=>gm x (2^i)) (λx y _ _=>?_) (λx y g h=>eV _ g h) (λj f=>?_) a c;.show rd 7 (pm (x^^^y) (2^i) 8)=_;rw[Lg,Lh]
 exact IY j f i e
theorem QV(a b:Nat)(c:a<256):∀n,n<=8->pm a b n<65536:=by intro n;induction n with|zero=>intro _;exact(by decide:(0:Nat)<65536)|succ n ih=>
  intro e;have h:=ih V;unfold pm;split;.refine V7 (n:=16) h ?_;have:a*2^n<256*2^n:=adC c (VL n);have:2^n<=2^7:=UY ec V;omega
  .exact h
def bH(v:Nat->Nat):Prop:=∀j,v j<256
def cC(u:Nat->Nat)(a:Nat)(r:Nat->Nat):Nat->Nat:=λj=>u j^^^gm a (r j)
def aO(R:(Nat->Nat)->Prop)(v:Nat->Nat):Prop:=∀S:(Nat->Nat)->Prop,S (λ_=>0)->(∀a r u,a<256->R r->S u->S (cC u a r))->S v
def aO.zero(R:(Nat->Nat)->Prop):aO R (λ_=>0):=λ_ a _=>a
def aO.step{r:Nat->Nat}(f:aO R u)(d:a<256)(e:R r):aO R (cC u a r):=λS c b=>b a r u d e (f S c b)
def aO.byte{v:Nat->Nat}(h:aO R v):bH v:=h bH (λ_=>Zb) (λ_ _ _ a _ b j=>ld (b j) (aV _ a))
theorem qR(u:Nat->Nat)(r:Nat->Nat):cC u 0 r=u:=by funext j;simp[cC,bO]
theorem aO.mem{r:Nat->Nat}(b:bH r)(c:R r):aO R r:=by
 have:=aO.step (aO.zero R) (a:=1) ec c;have e:cC (λ_=>0) 1 r=r:=by funext j;show 0^^^gm 1 (r j)=r j;rw[cB ec (b j),cT _ (b j),Vq]
 rw[e]at this;exact this
theorem aO.add(f:∀r,R r->bH r){u v:Nat->Nat}(h:aO R u){b:Nat}(c:b<256)(i:aO R v):aO R (cC u b v):=by
 refine i (λx=>aO R (cC u b x)) ?_ ?_;.have e:cC u b (λ_=>0)=u:=(by funext j;simp[cC,bm]);show aO R (cC u b (λ_=>0));rw[e];exact h
 . intro a r x g d k;have e:cC u b (cC x a r)=cC (cC u b x) (gm b a) r:=by funext j;show u j^^^gm b (x j^^^gm a (r j))=(u j^^^gm b (x j))^^^gm (gm b a) (r j);rw[eU,bj c g (f r d j),UU]
   show aO R (cC u b (cC x a r));rw[e];exact k.step (aV _ c) d
def aO.sub(a:∀r,R r->bH r)(h:∀r,R' r->aO R r){v:Nat->Nat}(e:aO R' v):aO R v:=e (aO R) (aO.zero R) (λ_ r _ b c d=>aO.add a d b (h r c))
def aO.RS(h:∀r,R r->r c=0){v:Nat->Nat}(b:aO R v):v c=0:=b (λx=>x c=0) rfl (λa r u _ hr(hu:u c=0)=>by show u c^^^gm a (r c)=0;rw[hu,h r hr,bm];exact UL 0)
theorem aO.Sv{R1:(Nat->Nat)->Prop}{p:Nat->Nat}(m:∀r,R r->bH r)(B:R p)(N:p c≠0)(o:∀r,R1 r->∃q f,R q/\f<256/\r=cC q f p/\r c=0)(F:∀q,R q->q=p\/∃f r,f<256/\R1 r/\q=cC r f p)(v:Nat->Nat):aO R1 v↔aO R v/\v c=0:=by
 have L:∀r,R1 r->bH r:=by intro r d;obtain⟨q,f,l,n,rfl,_⟩:=o r d;exactλj=>ld (m q l j) (aV _ n)
 constructor
 . intro w;refine⟨aO.sub m (λr d=>?_) w,aO.RS (λr d=>?_) w⟩;.obtain⟨q,f,l,n,rfl,_⟩:=o r d;exact(aO.mem (m q l) l).step n B
   .obtain⟨q,f,_,_,_,h⟩:=o r d;exact h
 . rintro⟨w,S⟩;have key:∃b,b<256/\aO R1 (cC v b p):=by
    refine w (λx=>∃b,b<256/\aO R1 (cC x b p)) ⟨0,ec,by rw[qR];exact aO.zero R1⟩ ?_;rintro a q u k l⟨b,g,D⟩;rcases F q l with rfl|⟨f,r,n,d,rfl⟩
    . refine⟨b^^^a,ld g k,?_⟩;have e:cC (cC u a q) (b^^^a) q=cC u b q:=by funext j;show(u j^^^gm a (q j))^^^gm (b^^^a) (q j)=u j^^^gm b (q j);rw[eV _ g k,UU,VA (gm b (q j)),<-UU (gm a (q j)),UL,Vq]
      rw[e];exact D
    . refine⟨b^^^gm a f,ld g (aV _ k),?_⟩;have e:cC (cC u a (cC r f p)) (b^^^gm a f) p=cC (cC u b p) a r:=by funext j;show(u j^^^gm a (r j^^^gm f (p j)))^^^gm (b^^^gm a f) (p j)=(u j^^^gm b (p j))^^^gm a (r j);rw[eU,eV _ g (aV _ k),bj k n (m p B j)];generalize gm a (gm f (p j))=t;generalize gm b (p j)=s;generalize gm a (r j)=y;generalize u j=z;apply XQ;intro i;simp only[ac2];cases z.testBit i<;>cases y.testBit i<;>cases t.testBit i<;>cases s.testBit i<;>rfl
      rw[e];exact D.step k d
   obtain⟨b,g,C⟩:=key;have E:=aO.RS (λr d=>by obtain⟨q,f,_,_,_,h⟩:=o r d;exact h) C;have G:gm b (p c)=0:=by have:v c^^^gm b (p c)=0:=E;rwa[S,Vq]at this
   have H:b=0:=by have A:=m p B c;have K:=dH A;have e:=bj g A K;rw[G,bO,jw _ A N,cT b g]at e;exact e.symm
   rw[H,qR]at C;exact C
def dw:Nat->((Nat->Nat)->Prop)->Nat->Nat->Prop|0,_,_,k=>k=0|n+1,R,c,k=>((∀r,R r->r c=0)/\dw n R (c+1) k)\/(∃p,R p/\p c≠0)/\∃R1,(∀r,R1 r->bH r)/\(∀v,aO R1 v↔aO R v/\v c=0)/\∃k',k=k'+1/\dw n R1 (c+1) k'
def dw.none:∀n(R:(Nat->Nat)->Prop)(c:Nat),(∀j,c<=j->∀r,R r->r j=0)->dw n R c 0|0,_,_,_=>rfl|n+1,R,c,h=>.inl ⟨h c (TV _),dw.none n R (c+1) (λj a=>h j V)⟩
def dP(l:a7):Nat->Nat:=λj=>l.getD j 0
def m7(T:List a7)(r:Nat):(Nat->Nat)->Prop:=λv=>∃i,∃h:i<T.length,r<=i/\v=dP T[i]
def Li{l:a7}(h:∀x∈l,x<256):bH (dP l):=by
 intro j;unfold dP;by_cases a:j<l.length;.have e:l.getD j 0=l[j]:=Zl;rw[e];exact h _ (T7 a)
 .have e:l.getD j 0=0:=(by simp[Vn (Wz.1 a)]);rw[e];decide
def mj(h:∀l∈T,∀x∈l,x<256)(r:Nat):∀v,m7 T r v->bH v:=by rintro v⟨i,a,_,rfl⟩;exact Li (h _ (T7 a))
theorem iV(q p:Nat->Nat)(f:Nat):cC (cC q f p) f p=q:=by funext j;show(q j^^^gm f (p j))^^^gm f (p j)=q j;rw[UU,UL,UX]
def uf(h:∀i(a:i<T.length),r<=i->dP T[i] c=0)(d:dw n (m7 T r) (c+1) k):dw (n+1) (m7 T r) c k:=.inl ⟨by rintro v⟨i,a,b,rfl⟩;exact h i a b,d⟩
theorem sA{p:Nat}(y:∀l∈T,∀x∈l,x<256)(t:∀l∈T',∀x∈l,x<256)(B:T'.length=T.length)(m:r<=p)(o:p<T.length)(j:dP T[p] c≠0)(d:∀i(g:i<T'.length),r<i->∃f,∃h:(if i=p then r else i)<T.length,f<256/\dP T'[i]=cC (dP T[if i=p then r else i]) f (dP T[p])/\dP T'[i] c=0)(A:dw n (m7 T' (r+1)) (c+1) k):dw (n+1) (m7 T r) c (k+1):=by
 have w:=mj y r;refine .inr ⟨⟨dP T[p],⟨p,o,m,rfl⟩,j⟩,m7 T' (r+1),mj t (r+1),?_,k,rfl,A⟩;refine aO.Sv (p:=dP T[p]) w ⟨p,o,m,rfl⟩ j ?_ ?_;.rintro v⟨i,g,u,rfl⟩;obtain⟨f,h,b,e,z⟩:=d i g V;exact⟨_,f,⟨_,h,adM,rfl⟩,b,e,z⟩
 . rintro q⟨i,g,u,rfl⟩;by_cases e:i=p;.subst e;exact .inl rfl
   . right;by_cases s:i=r;.subst s;obtain⟨f,h,b,a,_⟩:=d p V V;simp only[TT]at a;refine⟨f,dP T'[p],b,⟨p,V,V,rfl⟩,?_⟩;rw[a,iV]
     .obtain⟨f,h,b,a,_⟩:=d i V V;simp only[TS e]at a;refine⟨f,dP T'[i],b,⟨i,V,V,rfl⟩,?_⟩;rw[a,iV]
def ug(h:∀l∈T,l.length<=c):dw n (m7 T r) c 0:=dw.none n _ c (by rintro j b v⟨i,a,_,rfl⟩;unfold dP;have:=h _ (T7 a);simp[Vn (V:(T[i]).length<=j)])
def oQ(b:x<256)(a:y<256)(h:y≠0):x^^^gm (gm x (gi y)) y=0:=by rw[bj b (dH a) a,cB (dH a) a,jw y a h,cT x b,UL]
def oe(D:List a7)(k:Nat):Prop:=dw 64 (m7 D 0) 0 k
theorem yI(hl:T.length=T'.length)(h:∀i(c:i<T.length)(d:i<T'.length),dP T[i]=dP T'[i])(r:Nat):m7 T r=m7 T' r:=by
 funext v;apply propext;constructor;.rintro⟨i,a,b,rfl⟩;exact⟨i,V,b,h i a V⟩
 .rintro⟨i,a,b,rfl⟩;exact⟨i,V,b,(h i V a).symm⟩
def l9(R:(Nat->Nat)->Prop)(c m:Nat):Prop:=∀v,bH v->(∀j,j<c\/c+m<=j->v j=0)->aO R v
def dS(m:Nat):Nat->Nat:=λj=>if j=m then 1 else 0
theorem iW(m:Nat):bH (dS m):=λj=>by unfold dS;split<;>decide
def dw.le:∀n(R:(Nat->Nat)->Prop)(c k m:Nat),(∀j,c+m<=j->∀r,R r->r j=0)->dw n R c k->k<=m
 |0,_,_,_,_,_,h=>by rw[h];exact T8 _|n+1,R,c,k,m,hz,h=>by
  rcases h with⟨_,h⟩|⟨⟨p,i,g⟩,d,e,f,k1,rfl,h⟩;.cases m with|zero=>exact dw.le n R (c+1) k 0 (λj a=>hz j V) h|succ m=>exact Nat.le_succ_of_le (dw.le n R (c+1) k m (λj a=>hz j V) h)
  .cases m with|zero=>exact absurd (hz c V p i) g|succ m=>have:=dw.le n d (c+1) k1 m (λj a r b=>aO.RS (hz j V) ((f r).1 (aO.mem (e r b) b)).1) h;omega
theorem dw.Th:∀n(R:(Nat->Nat)->Prop)(c m:Nat),(∀r,R r->bH r)->(∀j,c+m<=j->∀r,R r->r j=0)->(∀j,j<c->∀r,R r->r j=0)->dw n R c m->l9 R c m
 |0,R,c,m,hb,hz,hl,h=>by
  intro v _ d;obtain rfl:m=0:=h;have e:v=λ_=>0:=by funext j;exact d j V
  rw[e];exact aO.zero R|n+1,R,c,m,hb,hz,hl,h=>by cases m with|zero=>intro v _ d;have e:v=λ_=>0:=(by funext j;exact d j V);rw[e];exact aO.zero R|succ m=>
   rcases h with⟨y,h⟩|⟨⟨p,f,t⟩,g,k,i,k1,e,h⟩;.have:=dw.le n R (c+1) (m+1) m (λj b=>hz j V) h;omega
   . obtain rfl:k1=m:=V;have sub:=λr(a:g r)=>(i r).1 (aO.mem (k r a) a);have ih:=dw.Th n g (c+1) k1 k (λj b r a=>aO.RS (hz j V) (sub r a).1) (λj b r a=>by
       by_cases e:j=c;.rw[e];exact(sub r a).2
       .exact aO.RS (hl j V) (sub r a).1) h;intro v d w;have o:=d c;have u:=hb p f c;have l:=aV (gi (p c)) o;have x:=ih (cC v (gm (v c) (gi (p c))) p) (λj=>ld (d j) (aV _ l)) (by
      intro j b;show v j^^^gm (gm (v c) (gi (p c))) (p j)=0;by_cases e:j=c;.rw[e];exact oQ o u t
      . have q:v j=0:=w j V;have s:p j=0:=by
         rcases b with b|b;.exact hl j V p f
         .exact hz j V p f
        rw[q,s,bm,UL]);have:=((i _).1 x).1.step l f;rwa[iV]at this
def dw.Tf:∀n(R:(Nat->Nat)->Prop)(c k m:Nat),m<=n->(∀j,c+m<=j->∀r,R r->r j=0)->l9 R c m->dw n R c k->k=m|0,_,_,_,m,hm,_,_,h=>by rw[h];omega|n+1,R,c,k,m,hm,hz,hF,h=>by cases m with|zero=>have:=dw.le (n+1) R c k 0 hz h;omega|succ m=>
   rcases h with⟨g,h⟩|⟨⟨p,s,q⟩,f,l,a,k1,rfl,h⟩;.have i:=hF (dS c) (iW c) (λj d=>TS V);have:=aO.RS g i;simp[dS]at this
   . have:=dw.Tf n f (c+1) k1 m V (λj d r e=>aO.RS (hz j V) ((a r).1 (aO.mem (l r e) e)).1) (λv o b=>(a v).2 ⟨hF v o (λj d=>b j V),b c V⟩) h;omega
theorem IZ{D:List a7}{m:Nat}(d:∀l∈D,∀x∈l,x<256)(hl:∀l∈D,l.length<=m)(f:m<=64)(h:oe D k):k=m↔l9 (m7 D 0) 0 m:=by
 have b:∀j,0+m<=j->∀r,m7 D 0 r->r j=0:=by rintro j a r⟨i,e,_,rfl⟩;unfold dP;have:=hl _ (T7 e);simp[Vn (V:(D[i]).length<=j)]
 constructor;.rintro rfl;exact dw.Th 64 _ 0 k (mj d 0) b (λj a=>absurd a V) h
 .intro c;exact dw.Tf 64 _ 0 k m f b c h
def l9.mono{m:Nat}(h:l9 R c m)(g:∀r,R r->R' r):l9 R' c m:=λv j k S b d=>h v j k S b (λa r u e f i=>d a r u e (g r f) i)
theorem l9.TH(f:∀r,R r->bH r){m:Nat}(h:∀j,j<m->aO R (dS j)):l9 R 0 m:=by
 intro v d g;have key:∀t,t<=m->aO R (λj=>if j<t then v j else 0):=by intro t;induction t with|zero=>intro _;exact aO.zero R|succ t ih=>
   intro i;have:=aO.add f (ih V) (d t) (h t V);have e:cC (λj=>if j<t then v j else 0) (v t) (dS t)=λj=>if j<t+1 then v j else 0:=by
    funext j;show(if j<t then v j else 0)^^^gm (v t) (if j=t then 1 else 0)=if j<t+1 then v j else 0;by_cases a:j=t;.subst a;simp[cT _ (d j)]
    . rw[TS a,bm,UX];by_cases b:j<t;.rw[TT b,TT V]
      .rw[TS b,TS V]
   rwa[e]at this
 have:=key m (TV _);have e:(λj=>if j<m then v j else 0)=v:=by
  funext j;by_cases c:j<m;.rw[TT c]
  .rw[TS c];exact(g j V).symm
 rwa[e]at this
def jI(L:a7)(u:Nat->Nat)(x:Nat):Nat->Nat:=λj=>if j∈L then gm (u j) (gi (x^^^j))else 0
def jJ(h:x≠y):x^^^y≠0:=λe=>h (by have:=Uy (λt=>t^^^y) e;simpa[UU]using this)
def Lj(d:a<256)(c:b<256)(f:a≠0)(g:b≠0):gm a b≠0:=by intro e;have:=bj d c (dH c);rw[e,bO,jw b c g,cT a d]at this;exact f this.symm
def Lk(b:a<256)(h:a≠0):gi a≠0:=by intro e;have:=jw a b h;rw[e,bm]at this;exact absurd this ec
def Hd(d:a<256)(c:b<256)(h:b≠0):gm a (gi b)=1^^^gm (a^^^b) (gi b):=by rw[eV _ d c,jw b c h,VA (gm a (gi b)) 1,<-UU,UL,Vq]
def Rx(e:a<256)(f:b<256)(g:a≠0)(h:b≠0):gi a^^^gi b=gm (a^^^b) (gm (gi a) (gi b)):=by have c:=dH e;have d:=dH f;rw[eV _ e f,<-bj e c d,jw a e g,cB c d,<-bj f d c,jw b f h,cB ec d,cB ec c,cT _ c,cT _ d,VA]
def og(x y z:Nat):(x^^^z)^^^(y^^^z)=x^^^y:=by rw[VA y z,UU,<-UU z z,UL,Vq]
def Ll{x0 m u:Nat}(k:x<256)(e:x0<256)(h:m<256)(f:j<256)(d:u<256)(y:x≠x0)(o:x≠j)(p:x0≠j):gm (gi (x^^^x0)) (gm (x^^^m) (gm u (gi (x^^^j)))^^^gm (x0^^^m) (gm u (gi (x0^^^j))))=gm (gm u (gm (j^^^m) (gi (x0^^^j)))) (gi (x^^^j)):=by
 have b1:=ld k e;have b2:=ld k f;have b3:=ld e f;have b4:=ld k h;have b5:=ld e h;have b6:=ld f h;have b:=dH b1;have c:=dH b2;have l:=dH b3;have sw:∀t g,t<256->g<256->gm t (gm u g)=gm u (gm t g):=λt g i q=>by rw[<-bj i d q,cB i d,bj d i q]
 rw[sw _ _ b4 c,sw _ _ b5 l,<-eU,Hd b4 b2 (jJ o),Hd b5 b3 (jJ p)];have s:(x^^^m)^^^(x^^^j)=j^^^m:=by rw[VA x m,VA x j,og,VA]
 have v:(x0^^^m)^^^(x0^^^j)=j^^^m:=by rw[VA x0 m,VA x0 j,og,VA]
 rw[s,v,Cl,UL,Vq,<-eU,Rx b2 b3 (jJ o) (jJ p),og];have b7:gm (gi (x^^^j)) (gi (x0^^^j))<256:=aV _ c;have n:gm (x^^^x0) (gm (gi (x^^^j)) (gi (x0^^^j)))<256:=aV _ b1;have r:gm (j^^^m) (gi (x0^^^j))<256:=aV _ b6;rw[sw _ _ b (aV _ b6),bj d r c,bj b6 l c];refine Uy (gm u) ?_;have w:gm (gi (x^^^x0)) (gm (x^^^x0) (gm (gi (x^^^j)) (gi (x0^^^j))))=gm (gi (x^^^j)) (gi (x0^^^j)):=by rw[<-bj b b1 b7,cB b b1,jw _ b1 (jJ y),cB (a:=1) ec b7,cT _ b7]
 rw[<-bj b b6 n,cB b b6,bj b6 b n,w,cB c l]
theorem Lm(R:(Nat->Nat)->Prop)(s:∀r,R r->bH r):∀(L X:a7)(u:Nat->Nat),L.Nodup->X.Nodup->L.length<=X.length->(∀j∈L,j<256/\u j<256/\u j≠0)->(∀x∈X,x<256/\∀j∈L,x≠j)->(∀x∈X,aO R (jI L u x))->∀j∈L,aO R (dS j)
 |[],_,_,_,_,_,_,_,_=>λj c=>by cases c|m::L,[],_,_,_,h,_,_,_=>by simp at h|m::L,a::X,u,P,Q,W,hl,z,J'=>by
  obtain⟨H,E⟩:=UO.1 P;obtain⟨O',S⟩:=UO.1 Q;obtain⟨v,f,hp⟩:=hl m UG;obtain⟨q,w⟩:=z a UG;have D:=J' a UG;have ih:=Lm R s L X (λj=>gm (u j) (gm (j^^^m) (gi (a^^^j)))) E S (ua W) (λj c=>by obtain⟨g,p,M⟩:=hl j (Uo _ c);have b1:=ld g v;have b2:=ld q g;have ne:j≠m:=λe=>H (e▸c);exact⟨g,aV _ p,Lj p (aV _ b1) M (Lj b1 (dH b2) (jJ ne) (Lk b2 (jJ (w j (Uo _ c)))))⟩) (λx l=>⟨(z x (Uo _ l)).1,λj c=>(z x (Uo _ l)).2 j (Uo _ c)⟩) (λx l=>by
    obtain⟨g,p⟩:=z x (Uo _ l);have ne:x≠a:=λe=>O' (e▸l);have b1:=ld g q;have o:=dH b1;have b2:=ld g v;have b3:=ld q v;have t1:=aO.add s (aO.add s (aO.zero R) (aV (x^^^m) o) (J' x (Uo _ l))) (aV (a^^^m) o) D;have e:cC (cC (λ_=>0) (gm (gi (x^^^a)) (x^^^m)) (jI (m::L) u x)) (gm (gi (x^^^a)) (a^^^m)) (jI (m::L) u a)=jI L (λj=>gm (u j) (gm (j^^^m) (gi (a^^^j)))) x:=by
     funext j;show(0^^^gm (gm (gi (x^^^a)) (x^^^m)) (jI (m::L) u x j))^^^gm (gm (gi (x^^^a)) (a^^^m)) (jI (m::L) u a j)=_;rw[Vq];by_cases c:j∈L;.obtain⟨c1,A,c3⟩:=hl j (Uo _ c);have d1:=p j (Uo _ c);have B:=w j (Uo _ c);unfold jI;rw[TT (Uo _ c),TT (Uo _ c),TT c,bj o b2 (aV _ A),bj o b3 (aV _ A),<-eU,Ll g q v c1 A ne d1 B]
     . by_cases G:j=m
       . subst G;unfold jI;have d1:=p j UG;have B:=w j UG;have sw:∀t,t<256->t≠0->gm t (gm (u j) (gi t))=u j:=λt n h=>by rw[<-bj n f (dH n),cB n f,bj f n (dH n),jw t n h,cT _ f]
         rw[TT UG,TT UG,TS c,bj o b2 (aV _ f),bj o b3 (aV _ f),sw _ b2 (jJ d1),sw _ b3 (jJ B),UL]
       .unfold jI;have I':j∉m::L:=(by simp[G,c]);rw[TS I',TS I',TS c,bm,bm,UL]
    rwa[e]at t1);have Y:aO R (dS m):=by
   have key:∀K:a7,(∀j∈K,j∈L)->K.Nodup->aO R (λj=>if j∈K then 0 else jI (m::L) u a j):=by intro K;induction K with|nil=>intro _ _;simpa using D|cons k K C=>
     intro hK Z;obtain⟨U',N⟩:=UO.1 Z;have V':=hK k UG;have F:jI (m::L) u a k<256:=D.byte k;have t:=aO.add s (C (λj c=>hK j (Uo _ c)) N) F (ih k V');have e:cC (λj=>if j∈K then 0 else jI (m::L) u a j) (jI (m::L) u a k) (dS k)=λj=>if j∈k::K then 0 else jI (m::L) u a j:=by
      funext j;show(if j∈K then 0 else jI (m::L) u a j)^^^gm (jI (m::L) u a k) (if j=k then 1 else 0)=_;by_cases i:j=k;.subst i;rw[TS U',TT rfl,cT _ F,UL,TT UG]
      . rw[TS i,bm,UX];by_cases d:j∈K;.rw[TT d,TT (Uo _ d)]
        .rw[TS d,TS (by simp[i,d])]
     rwa[e]at t
   have t:=key L (λ_ h=>h) E;have b:=ld q v;have ne:=jJ (w m UG);have y:gm (u m) (gi (a^^^m))<256:=aV _ f;have T:gm (u m) (gi (a^^^m))≠0:=Lj f (dH b) hp (Lk b ne);have t2:=aO.add s (aO.zero R) (dH y) t;have e:cC (λ_=>0) (gi (gm (u m) (gi (a^^^m)))) (λj=>if j∈L then 0 else jI (m::L) u a j)=dS m:=by
    funext j;show 0^^^gm (gi (gm (u m) (gi (a^^^m)))) (if j∈L then 0 else jI (m::L) u a j)=dS m j;rw[Vq];unfold dS jI;by_cases i:j=m;.subst i;rw[TS H,TT UG,TT rfl,cB (dH y) y,jw _ y T]
    . rw[TS i];by_cases d:j∈L;.rw[TT d,bm]
      .rw[TS d,TS (by simp[i,d]),bm]
   rwa[e]at t2
  intro j c;rcases Uu.1 c with rfl|c;.exact Y
  .exact ih j c
structure Ck where
 m:Nat->Nat->Nat
 told:Nat
 count:Nat
def dQ(C:Ck)(i:Nat):Option Nat:=(YE C.count).find? (λr=>decide (C.told<=r)&&decide (C.m r i≠0))
def iI{C:Ck}(h:dQ C i=some r):C.told<=r/\r<C.count/\C.m r i≠0:=by unfold dQ at h;have a:=List.find?_some h;have b:=List.mem_of_find?_eq_some h;simp at a b;exact⟨a.1,b,a.2⟩
def AC{C:Ck}(h:dQ C i=none)(r:Nat)(a:C.told<=r)(b:r<C.count):C.m r i=0:=by unfold dQ at h;rw[YI]at h;have:=h r (Ul.2 b);simp[a]at this;exact this
def xN{C:Ck}(a:C.told<=r)(b:r<C.count)(c:C.m r i≠0)(d:∀k,C.told<=k->k<r->C.m k i=0):dQ C i=some r:=by
 unfold dQ;rw[List.find?_range_eq_some];refine⟨by simp[a,c],Ul.2 b,λj e=>?_⟩;by_cases h:C.told<=j;.simp[d j h e]
 .simp[h]
def xO{C:Ck}(h:∀r,C.told<=r->r<C.count->C.m r i=0):dQ C i=none:=by
 unfold dQ;rw[YI];intro r b;by_cases a:C.told<=r;.simp[h r a (Ul.1 b)]
 .simp[a]
def dy(m:Nat->Nat->Nat)(cnt r i:Nat):Nat->Nat->Nat:=λk j=>if k<cnt/\k≠r then m k j^^^gm (gm (m k i) (gi (m r i))) (m r j)else m k j
def dU(m:Nat->Nat->Nat)(a b:Nat):Nat->Nat->Nat:=λk=>if k=a then m b else if k=b then m a else m k
def fs(m:Nat->Nat->Nat)(r i:Nat):Nat->Nat->Nat:=λk j=>if k=r then gm (m r j) (gi (m r i))else m k j
def jK(C:Ck)(i r:Nat):Ck:=⟨dy (fs (dU C.m C.told r) C.told i) C.count C.told i,C.told+1,C.count⟩
def iJ(C:Ck)(i r:Nat):Ck:=⟨λk=>if k=r then dy C.m C.count r i (C.count-1)else dy C.m C.count r i k,C.told,C.count-1⟩
def oh(C:Ck)(i:Nat):Option Ck:=(dQ C i).map (jK C i)
def iX(C:Ck)(i:Nat):Option Ck:=(dQ C i).map (iJ C i)
def AD(C:Ck):Prop:=∀r,bH (C.m r)
def nI(C:Ck)(t:Nat):(Nat->Nat)->Prop:=λv=>∃r,t<=r/\r<C.count/\v=C.m r
def yJ{r:Nat->Nat}(c:bH u)(b:a<256):bH (cC u a r):=λj=>ld (c j) (aV _ b)
theorem iY(h:k<cnt/\k≠r):dy m cnt r i k=cC (m k) (gm (m k i) (gi (m r i))) (m r):=by funext j;unfold dy cC;rw[TT h]
theorem oR(h:¬(k<cnt/\k≠r)):dy m cnt r i k=m k:=by funext j;unfold dy;rw[TS h]
def oS(h:∀k,bH (m k))(k:Nat):bH (dy m cnt r i k):=by
 by_cases a:k<cnt/\k≠r;.rw[iY a];exact yJ (h k) (aV _ (h k i))
 .rw[oR a];exact h k
theorem j7(h:∀k,bH (m k))(k:Nat):bH (dU m a b k):=by
 unfold dU;split;.exact h b
 . split;.exact h a
   .exact h k
theorem uh(h:∀k,bH (m k))(k:Nat):bH (fs m r i k):=λj=>by
 unfold fs;split;.exact aV _ (h r j)
 .exact h k j
def I0{C:Ck}(h:AD C):AD (jK C i r):=oS (uh (j7 h))
theorem oq{C:Ck}(h:AD C):AD (iJ C i r):=λk=>by
 show bH (if k=r then _ else _);split;.exact oS h _
 .exact oS h _
def yK{C:Ck}(h:AD C)(t:Nat):∀r,nI C t r->bH r:=by rintro r⟨k,_,_,rfl⟩;exact h k
def E8(a:x<256)(b:y<256)(h:y≠0):x^^^gm (gm x (gi y)) y=0:=oQ a b h
def E9{C:Ck}{t:Nat}(b:AD C)(u:t<=C.told)(o:C.told<=r)(n:r<C.count)(g:C.m r i≠0)(v:Nat->Nat):aO (nI (iJ C i r) t) v↔aO (nI C t) v/\v i=0:=by
 refine aO.Sv (p:=C.m r) (yK b t) ⟨r,V,n,rfl⟩ g ?_ ?_ v
 . rintro q⟨k,k1,k2,rfl⟩;have:k<C.count-1:=k2;have key:∀a,t<=a->a<C.count->a≠r->∃q f,nI C t q/\f<256/\dy C.m C.count r i a=cC q f (C.m r)/\dy C.m C.count r i a i=0:=by intro a j c d;refine⟨C.m a,gm (C.m a i) (gi (C.m r i)),⟨a,j,c,rfl⟩,aV _ (b a i),iY ⟨c,d⟩,?_⟩;rw[iY ⟨c,d⟩];exact E8 (b a i) (b r i) g
   show∃q f,nI C t q/\f<256/\(if k=r then dy C.m C.count r i (C.count-1)else dy C.m C.count r i k)=cC q f (C.m r)/\(if k=r then dy C.m C.count r i (C.count-1)else dy C.m C.count r i k) i=0;by_cases e:k=r;.rw[TT e];exact key (C.count-1) V V V
   .rw[TS e];exact key k k1 V e
 . rintro q⟨k,k1,k2,rfl⟩;by_cases e:k=r;.left;rw[e]
   . right;have l:dy C.m C.count r i k=cC (C.m k) (gm (C.m k i) (gi (C.m r i))) (C.m r):=iY ⟨k2,e⟩;refine⟨gm (C.m k i) (gi (C.m r i)),dy C.m C.count r i k,aV _ (b k i),?_,?_⟩
     . by_cases h:k=C.count-1;.refine⟨r,V,by show r<C.count-1;omega,?_⟩;show _=(if r=r then dy C.m C.count r i (C.count-1)else dy C.m C.count r i r);rw[TT rfl,h]
       .refine⟨k,k1,by show k<C.count-1;omega,?_⟩;show _=(if k=r then dy C.m C.count r i (C.count-1)else dy C.m C.count r i k);rw[TS e]
     .rw[l,iV]
def Fa{C:Ck}(c:k<C.told)(a:C.told<=r)(b:r<C.count):(iJ C i r).m k=cC (C.m k) (gm (C.m k i) (gi (C.m r i))) (C.m r):=by show(if k=r then dy C.m C.count r i (C.count-1)else dy C.m C.count r i k)=_;rw[TS V,iY ⟨V,V⟩]
def Ry:gi 1=1:=Ax
theorem oT{C:Ck}(c:AD C)(p:k<C.count)(d:k≠C.told)(o:C.m r i≠0):(jK C i r).m k=cC (dU C.m C.told r k) (gm (dU C.m C.told r k i) (gi (C.m r i))) (C.m r):=by
 have h:dU C.m C.told r C.told=C.m r:=by unfold dU;rw[TT rfl]
 have l:fs (dU C.m C.told r) C.told i k=dU C.m C.told r k:=by funext j;unfold fs;rw[TS d]
 have n:fs (dU C.m C.told r) C.told i C.told=λj=>gm (C.m r j) (gi (C.m r i)):=by funext j;unfold fs;rw[TT rfl,h]
 show dy (fs (dU C.m C.told r) C.told i) C.count C.told i k=_;rw[iY ⟨p,d⟩,l,n];funext j;show _^^^gm (gm _ (gi (gm (C.m r i) (gi (C.m r i))))) (gm (C.m r j) (gi (C.m r i)))=_^^^gm (gm _ (gi (C.m r i))) (C.m r j);have g:=j7 (a:=C.told) (b:=r) c k i;have f:=c r i;have e:=dH f;rw[jw _ f o,Ry,cT _ g,cB (c r j) e,<-bj g e (c r j)]
theorem Co{C:Ck}:(jK C i r).m C.told=λj=>gm (C.m r j) (gi (C.m r i)):=by
 have a:dU C.m C.told r C.told=C.m r:=by unfold dU;rw[TT rfl]
 show dy (fs (dU C.m C.told r) C.told i) C.count C.told i C.told=_;rw[oR V];funext j;unfold fs;rw[TT rfl,a]
def ui(c:k≠a)(d:k≠b):dU m a b k=m k:=by unfold dU;rw[TS c,TS d]
def I1{C:Ck}(b:AD C)(o:C.told<=r)(n:r<C.count)(g:C.m r i≠0)(v:Nat->Nat):aO (nI (jK C i r) (C.told+1)) v↔aO (nI C C.told) v/\v i=0:=by
 have s:∀k,C.told+1<=k->k<C.count->∃a,C.told<=a/\a<C.count/\a≠r/\dU C.m C.told r k=C.m a:=by
  intro k f c;by_cases e:k=r;.refine⟨C.told,V,V,V,?_⟩;unfold dU;rw[TS V,TT e]
  .exact⟨k,V,c,e,ui V e⟩
 refine aO.Sv (p:=C.m r) (yK b _) ⟨r,o,n,rfl⟩ g ?_ ?_ v;.rintro q⟨k,k1,k2,rfl⟩;have l:k<C.count:=k2;obtain⟨a,f,c,t,e⟩:=s k k1 l;have d:=oT (i:=i) (r:=r) b l V g;rw[e]at d;refine⟨C.m a,gm (C.m a i) (gi (C.m r i)),⟨a,f,c,rfl⟩,aV _ (b a i),d,?_⟩;rw[d];exact E8 (b a i) (b r i) g
 . rintro q⟨k,k1,k2,rfl⟩;by_cases e:k=r;.left;rw[e]
   . right;have h:∃a,C.told+1<=a/\a<C.count/\dU C.m C.told r a=C.m k:=by
      by_cases j:k=C.told;.refine⟨r,V,n,?_⟩;unfold dU;rw[TS V,TT rfl,j]
      .exact⟨k,V,k2,ui j e⟩
     obtain⟨a,f,c,ge⟩:=h;have d:=oT (i:=i) (r:=r) b c V g;rw[ge]at d;refine⟨gm (C.m k i) (gi (C.m r i)),(jK C i r).m a,aV _ (b k i),⟨a,f,c,rfl⟩,?_⟩;rw[d,iV]
def Lin(X:(Nat->Nat)->Prop):Prop:=X (λ_=>0)/\∀a r u,a<256->X r->X u->X (cC u a r)
theorem I2(c:Lin X){C:Ck}{i r:Nat}(d:AD C)(b:r<C.count)(h:∀k,k<C.count->X (C.m k)):∀k,k<(iJ C i r).count->X ((iJ C i r).m k):=by
 have key:∀k,k<C.count->X (dy C.m C.count r i k):=by
  intro k a;by_cases e:k=r;.rw[oR V];exact h k a
  .rw[iY ⟨a,e⟩];exact c.2 _ _ _ (aV _ (d k i)) (h r b) (h k a)
 intro k a;have:k<C.count-1:=a;show X (if k=r then _ else _);split;.exact key _ V
 .exact key _ V
theorem Ln(c:Lin X){C:Ck}{i r:Nat}(a:AD C)(n:C.told<=r)(b:r<C.count)(f:C.m r i≠0)(h:∀k,k<C.count->X (C.m k)):∀k,k<(jK C i r).count->X ((jK C i r).m k):=by
 intro k g;have d:k<C.count:=g;by_cases e:k=C.told
 . rw[e,Co];have l:X (cC (λ_=>0) (gi (C.m r i)) (C.m r)):=c.2 _ _ _ (dH (a r i)) (h r b) c.1;have e:cC (λ_=>0) (gi (C.m r i)) (C.m r)=λj=>gm (C.m r j) (gi (C.m r i)):=by funext j;show 0^^^gm (gi (C.m r i)) (C.m r j)=_;rw[Vq,cB (dH (a r i)) (a r j)]
   rwa[e]at l
 . rw[oT a d e f];refine c.2 _ _ _ (aV _ (j7 a _ _)) (h r b) ?_;unfold dU;split;.exact h r b
   . split;.exact h _ V
     .exact h k d
def tells(C:Ck)(L:a7):Option Ck:=L.foldl (λo i=>o.bind (λc=>oh c i)) (some C)
def lg(C:Ck)(L:a7)(i:Nat):tells C (L++[i])=(tells C L).bind (λc=>oh c i):=by unfold tells;rw[Ws];rfl
def jx(C:Ck)(L b:a7)(h:tells C L=none):tells C (L++b)=none:=by unfold tells at*;rw[Ws,h];induction b with|nil=>rfl|cons a l ih=>exact ih
structure fL(C0:Ck)(X:(Nat->Nat)->Prop)(L:a7)(C:Ck):Prop where
 told:C.told=L.length
 count:C.count=C0.count
 le:C.told<=C.count
 byt:AD C
 all:∀k,k<C.count->X (C.m k)one:∀k,k<L.length->∀k'(h:k'<L.length),C.m k L[k']=if k=k' then 1 else 0spare:∀v,aO (nI C C.told) v↔aO (nI C0 0) v/\∀i∈L,v i=0
def fL.nil{C0:Ck}(a:C0.told=0)(c:AD C0)(b:∀k,k<C0.count->X (C0.m k)):fL C0 X [] C0:=⟨a,rfl,V,c,b,λk d=>absurd d ej,λv=>by rw[a];simp⟩
theorem fL.snoc{C0 C C':Ck}(y:Lin X)(h:fL C0 X L C)(s:oh C i=some C'):fL C0 X (L++[i]) C':=by
 unfold oh at s;rw[Wu]at s;obtain⟨r,A,rfl⟩:=s;obtain⟨p,q,g⟩:=iI A;have t:∀j,j∈L->C.m r j=0:=λj d=>((h.spare (C.m r)).1 (aO.mem (h.byt r) ⟨r,p,q,rfl⟩)).2 j d;have u:=h.told;refine⟨?_,h.count,by show C.told+1<=C.count;omega,I0 h.byt,Ln y h.byt p q g h.all,?_,?_⟩;.show C.told+1=_;simp[u]
 . intro k z f x;simp at z x;by_cases e:k=L.length
   . have w:k=C.told:=V;rw[w,Co];by_cases n:f=L.length;.subst n;rw[XR V];simp[u,jw _ (h.byt r i) g]
     .have l:f<L.length:=V;rw[XS l];show gm (C.m r L[f]) _=_;rw[t _ (T7 l),bO,TS V]
   . have l:k<L.length:=V;rw[oT h.byt V V g,ui V V];by_cases n:f=L.length;.subst n;rw[XR V];simp only[Xb,List.getElem_singleton];show C.m k i^^^gm (gm (C.m k i) (gi (C.m r i))) (C.m r i)=_;rw[E8 (h.byt k i) (h.byt r i) g,TS e]
     .have o:f<L.length:=V;rw[XS o];show C.m k L[f]^^^gm _ (C.m r L[f])=_;rw[t _ (T7 o),bm,UX,h.one k l f o]
 . intro v;have:=I1 (i:=i) h.byt p q g v;show aO (nI (jK C i r) (C.told+1)) v↔_;rw[this,h.spare v];constructor;.rintro⟨⟨a,b⟩,c⟩;exact⟨a,λj d=>by rcases Ui.1 d with d|d;exact b j d;rw[Va.1 d];exact c⟩
   .rintro⟨a,b⟩;exact⟨⟨a,λj d=>b j (UB _ d)⟩,b i ej⟩
def fL.of{C0:Ck}(d:Lin X)(g:C0.told=0)(n:AD C0)(l:∀k,k<C0.count->X (C0.m k)):∀(a L:a7)(C:Ck),fL C0 X L C->tells C0 L=some C->(∃C',tells C0 (L++a)=some C'/\fL C0 X (L++a) C')\/(tells C0 (L++a)=none/\∃pre i,(pre++[i])<+:(L++a)/\∀v,aO (nI C0 0) v->(∀j∈pre,v j=0)->v i=0)
 |[],L,C,h,e=>.inl ⟨C,ua e,ua h⟩
 |i::a,L,C,h,e=>by have b:L++i::a=(L++[i])++a:=ej;cases ht:oh C i with|none=>
   right;have c:tells C0 (L++[i])=none:=(by rw[lg,e];exact ht);refine⟨by rw[b];exact jx _ _ _ c,L,i,by rw[b];exact XT _ _,?_⟩;intro v q s;have o:dQ C i=none:=by unfold oh at ht;exact Option.map_eq_none_iff.1 ht
   exact aO.RS (λr p=>by obtain⟨k,k1,k2,rfl⟩:=p;exact AC o k k1 k2) ((h.spare v).2 ⟨q,s⟩)|some C'=>have f:=h.snoc d ht;have c:tells C0 (L++[i])=some C':=(by rw[lg,e];exact ht);rw[b];exact fL.of d g n l a (L++[i]) C' f c
def cY(C:Ck)(i:Nat):Bool:=(YE C.told).any (λr=>decide (C.m r i≠0))
theorem iK{C:Ck}:cY C i=false↔∀r,r<C.told->C.m r i=0:=by
 unfold cY;rw[List.any_eq_false];constructor;.intro h r a;have:=h r (Ul.2 a);simpa using this
 .intro h r a;simp[h r (Ul.1 a)]
def sB{C:Ck}(a:r<C.told)(b:C.m r i≠0):cY C i=true:=by cases h:cY C i with|true=>rfl|false=>exact absurd (iK.1 h r a) b
def iq(K:a7)(C:Ck):Nat:=(K.filter (cY C)).length
abbrev cW:=Ck×Nat
def fQ(K:a7)(s:cW)(C:Ck):cW:=if iq K C=0\/iq K C<s.2 then(C,iq K C)else s
def ae(s:Nat):a7:=(YE 16).filter (λi=>s.testBit i)
def dI(s i:Nat):Nat:=s/2^(i+1)*2^(i+1)
def mn(s i j:Nat):(dI s i).testBit j=(decide (i<j)&&s.testBit j):=by
 unfold dI;rw[Nat.testBit_mul_two_pow];by_cases h:i+1<=j;.simp only[Nat.testBit_div_two_pow];rw[show j-(i+1)+(i+1)=j by omega];simp[h,show i<j by omega]
 .simp[h,show¬i<j by omega]
def sC(s:Nat):(ae s).Pairwise (·<·):=(List.pairwise_lt_range (n:=16)).filter _
def bL:i∈ae s↔i<16/\s.testBit i=true:=by unfold ae;rw[Vr,Ul]
theorem Cp{pre R:a7}(h:ae s=pre++i::R):ae (dI s i)=R:=by
 have e:ae (dI s i)=(ae s).filter (λj=>decide (i<j)):=by unfold ae;rw[List.filter_filter];apply List.filter_congr;intro j _;rw[mn]
 have b:=sC s;rw[h]at b;rw[e,h,Wv,List.filter_cons];obtain⟨l,f,g⟩:=ac3.1 b;obtain⟨k,m⟩:=List.pairwise_cons.1 f;have c:pre.filter (λj=>decide (i<j))=[]:=List.filter_eq_nil_iff.2 (λj a=>by have:=g j a i ej;simp;omega);have d:R.filter (λj=>decide (i<j))=R:=List.filter_eq_self.2 (λj a=>by have:=k j a;simp;omega);rw[c,d];simp
def iL(rec:Ck->Nat->Nat->cW->cW)(C:Ck)(of:Nat)(a:Nat×cW×Bool)(i:Nat):Nat×cW×Bool:=if a.2.2=true then a else if¬a.1<a.2.1.2 then(a.1,a.2.1,true)else match iX C i with|none=>a|some C'=>(a.1+1,rec C' (dI of i) a.1 a.2.1,false)
def iZ(K:a7):Nat->Ck->Nat->Nat->cW->cW|0,C,of,p,st=>((ae of).foldl (iL (λ_ _ _ s=>s) C of) (p,fQ K st C,false)).2.1|n+1,C,of,p,st=>((ae of).foldl (iL (iZ K n) C of) (p,fQ K st C,false)).2.1
def Fb(K:a7):Nat->Ck->Nat->Nat->cW->cW|0=>λ_ _ _ s=>s|n+1=>iZ K n
def qS(K:a7)(n:Nat)(C:Ck)(of p:Nat)(st:cW):iZ K n C of p st=((ae of).foldl (iL (Fb K n) C of) (p,fQ K st C,false)).2.1:=by cases n<;>rfl
theorem Cq(K:a7)(s:cW)(C:Ck):(fQ K s C).2<=s.2:=by
 unfold fQ;split;.show iq K C<=s.2;omega
 .exact TV _
theorem I3(K:a7)(s:cW)(C:Ck):(fQ K s C).2<=iq K C:=by
 unfold fQ;split;.exact TV _
 .show s.2<=iq K C;omega
theorem O4{rec:Ck->Nat->Nat->cW->cW}(h:∀C of p s,(rec C of p s).2<=s.2)(C:Ck)(of:Nat)(a:Nat×cW×Bool)(i:Nat):(iL rec C of a i).2.1.2<=a.2.1.2:=by
 unfold iL;split;.exact TV _
 . split;.exact TV _
   . split;.exact TV _
     .exact h _ _ _ _
def oU{rec:Ck->Nat->Nat->cW->cW}(h:∀C of p s,(rec C of p s).2<=s.2)(C:Ck)(of:Nat):∀(L:a7)(a:Nat×cW×Bool),(L.foldl (iL rec C of) a).2.1.2<=a.2.1.2|[],_=>TV _|i::L,a=>TU (oU h C of L (iL rec C of a i)) (O4 h C of a i)
def yL(K:a7):∀n C of p s,(iZ K n C of p s).2<=s.2|0,C,of,_,s=>TU (oU (λ_ _ _ _=>TV _) C of _ _) (Cq K s C)|n+1,C,of,_,s=>TU (oU (yL K n) C of _ _) (Cq K s C)
def O5(K:a7)(n:Nat):∀C of p s,(Fb K n C of p s).2<=s.2:=by cases n with|zero=>exactλ_ _ _ _=>TV _|succ n=>exact yL K n
def yM(rec:Ck->Nat->Nat->cW->cW)(C:Ck)(of:Nat)(p:Nat)(s:cW):∀L:a7,L.foldl (iL rec C of) (p,s,true)=(p,s,true)
 |[]=>rfl|i::L=>by
  have e:iL rec C of (p,s,true) i=(p,s,true):=by unfold iL;rw[TT rfl]
  rw[Xc,e];exact yM rec C of p s L
def Dead(C:Ck)(j:Nat):Prop:=∀r,C.told<=r->r<C.count->C.m r j=0
def Dead.span{C:Ck}(h:Dead C j){v:Nat->Nat}(b:aO (nI C C.told) v):v j=0:=aO.RS (λr a=>by obtain⟨k,k1,k2,rfl⟩:=a;exact h k k1 k2) b
def gU{C C':Ck}(h:iX C i=some C'):∃r,C'=iJ C i r/\C.told<=r/\r<C.count/\C.m r i≠0:=by unfold iX at h;rw[Wu]at h;obtain⟨r,d,rfl⟩:=h;obtain⟨a,b,c⟩:=iI d;exact⟨r,rfl,a,b,c⟩
def Fe{C C':Ck}(b:AD C)(h:iX C i=some C')(a:Dead C j\/j=i):Dead C' j:=by
 obtain⟨r,rfl,c,d,e⟩:=gU h;intro k k1 k2;have:=(E9 (t:=C.told) b (TV _) c d e ((iJ C i r).m k)).1 (aO.mem (oq b k) ⟨k,k1,k2,rfl⟩);rcases a with a|rfl;.exact a.span this.1
 .exact this.2
def Ff(h:x^^^y=0):x=y:=by have:=Uy (·^^^y) h;simp only[Vq]at this;rwa[UU,UL,UX]at this
inductive j8(C:Ck):Ck->Prop|refl:j8 C C|step{C1 C2:Ck}{i:Nat}:j8 C C1->iX C1 i=some C2->j8 C C2
def j8.trans{A B C:Ck}(h:j8 A B)(a:j8 B C):j8 A C:=by induction a with|refl=>exact h|step _ hl ih=>exact .step ih hl
def uj(K:a7)(C:Ck)(s s':cW):Prop:=s'=s\/(j8 C s'.1/\s'.2=iq K s'.1)
theorem Cr(K:a7)(s:cW)(C:Ck):uj K C s (fQ K s C):=by
 unfold fQ;split;.exact .inr ⟨.refl,rfl⟩
 .exact .inl rfl
theorem uk{K:a7}{rec:Ck->Nat->Nat->cW->cW}(h:∀C of p s,uj K C s (rec C of p s))(C:Ck)(of:Nat):∀(L:a7)(a:Nat×cW×Bool),uj K C a.2.1 (L.foldl (iL rec C of) a).2.1
 |[],_=>.inl rfl|i::L,a=>by
  have c:uj K C a.2.1 (iL rec C of a i).2.1:=by
   unfold iL;split;.exact .inl rfl
   . split;.exact .inl rfl
     . split;.exact .inl rfl
       . rename_i C' hl;rcases h C' (dI of i) a.1 a.2.1 with e|⟨b,d⟩;.exact .inl e
         .exact .inr ⟨j8.trans (.step .refl hl) b,d⟩
  rcases uk h C of L (iL rec C of a i)with e|b;.rw[Xc,e];exact c
  .exact .inr b
def AE(K:a7):∀n C of p s,uj K C s (iZ K n C of p s):=by
 have comb:∀{rec:Ck->Nat->Nat->cW->cW}(_:∀C of p s,uj K C s (rec C of p s))C of p s,uj K C s ((ae of).foldl (iL rec C of) (p,fQ K s C,false)).2.1:=by
  intro rec h C of p s;rcases uk h C of (ae of) (p,fQ K s C,false)with e|a;.rw[e];exact Cr K s C
  .exact .inr a
 intro n;induction n with|zero=>exact comb (λ_ _ _ _=>.inl rfl)|succ n ih=>exact comb ih
def aS(n:Nat)(C:Ck)(kept:Nat):cW:=iZ (ae kept) n C kept 0 (C,(ae kept).length)
def O6(K:a7)(C:Ck):iq K C<=K.length:=WS _ _
def AF(n:Nat)(C:Ck)(kept:Nat):j8 C (aS n C kept).1/\(aS n C kept).2=iq (ae kept) (aS n C kept).1:=by
 rcases AE (ae kept) n C kept 0 (C,(ae kept).length)with e|h
 . have a:(aS n C kept).2<=iq (ae kept) C:=by unfold aS;rw[qS];exact TU (oU (O5 _ n) C kept _ _) (I3 _ _ C)
   have b:aS n C kept=(C,(ae kept).length):=e;rw[b]at a⊢;exact⟨.refl,Nat.le_antisymm a (O6 _ _)⟩
 .exact h
theorem j8.good{C C':Ck}(o:Lin X)(s:j8 C C')(p:AD C)(l:C.told<=C.count)(h:∀k,k<C.count->X (C.m k))(n:∀j∈L,Dead C j):AD C'/\C'.told=C.told/\C'.told<=C'.count/\C'.count<=C.count/\(∀k,k<C'.count->X (C'.m k))/\(∀k,k<C.told->∀j∈L,C'.m k j=C.m k j)/\∀j∈L,Dead C' j:=by induction s with|refl=>exact⟨p,rfl,l,TV _,h,λ_ _ _ _=>rfl,n⟩|step _ hl ih=>obtain⟨b,t,le,v,g,on,sp⟩:=ih;rename_i c u i _;obtain⟨r,a,f,e,w⟩:=gU hl;refine⟨by rw[a];exact oq b,by rw[a];exact t,by rw[a];show c.told<=c.count-1;omega,by rw[a];show c.count-1<=_;omega,by rw[a];exact I2 o b e g,?_,λj d=>Fe b hl (.inl (sp j d))⟩;intro k q j d;rw[a,Fa V f e];show c.m k j^^^gm _ (c.m r j)=_;rw[sp j d r f e,bm,UX,on k q j d]
def xs(f:Nat->Nat):Nat->Nat|0=>0|n+1=>xs f n^^^f n
def fC{g:Nat->Nat}:∀n,(∀i,i<n->f i=g i)->xs f n=xs g n|0,_=>rfl|n+1,h=>by show xs f n^^^f n=xs g n^^^g n;rw[fC n (λi a=>h i V),h n V]
def ot(f g:Nat->Nat):∀n,xs (λi=>f i^^^g i) n=xs f n^^^xs g n|0=>(UL 0).symm|n+1=>by show xs _ n^^^(f n^^^g n)=(xs f n^^^f n)^^^(xs g n^^^g n);rw[ot f g n,Cl]
def eL:∀n,(∀i,i<n->f i=0)->xs f n=0|0,_=>rfl|n+1,h=>by show xs f n^^^f n=0;rw[eL n (λi a=>h i V),h n V];rfl
def Lo(c:Nat)(f:Nat->Nat):∀n,xs (λi=>gm c (f i)) n=gm c (xs f n)|0=>(bm c).symm|n+1=>by show xs _ n^^^gm c (f n)=gm c (xs f n^^^f n);rw[Lo c f n,eU]
def jL:∀n,k<n->(∀i,i<n->i≠k->f i=0)->xs f n=f k
 |0,h,_=>absurd h V|n+1,h,hz=>by
  show xs f n^^^f n=f k;by_cases e:k=n;.rw[eL n (λi a=>hz i V V),e,Vq]
  .rw[jL n V (λi a=>hz i V),hz n V V,UX]
def Lp:∀n,(∀i,i<n->f i<256)->xs f n<256|0,_=>Zb|n+1,h=>ld (Lp n (λi a=>h i V)) (h n V)
def AG(f:Nat->Nat)(a:Nat):∀b,xs f (a+b)=xs f a^^^xs (λi=>f (a+i)) b|0=>(UX _).symm|b+1=>by show xs f (a+b)^^^f (a+b)=xs f a^^^(xs _ b^^^f (a+b));rw[AG f a b,UU]
def xP(M:Nat->Nat->Nat)(D n:Nat)(v:Nat->Nat):Prop:=bH v/\(∀i,n<=i->v i=0)/\∀j,j<D->xs (λi=>gm (v i) (M i j)) n=0
def Cs(M:Nat->Nat->Nat)(D n:Nat)(f:∀i,bH (M i)):Lin (xP M D n):=by
 refine⟨⟨λ_=>Zb,λ_ _=>rfl,λj _=>eL n (λi _=>bO _)⟩,?_⟩;rintro a r u b⟨g,h,k⟩⟨u1,u2,u3⟩;refine⟨yJ u1 b,λi c=>?_,λj d=>?_⟩;.show u i^^^gm a (r i)=0;rw[u2 i c,h i c,bm];rfl
 . have e:xs (λi=>gm (cC u a r i) (M i j)) n=xs (λi=>gm (u i) (M i j)^^^gm a (gm (r i) (M i j))) n:=fC n (λi _=>by show gm (u i^^^gm a (r i)) (M i j)=_;rw[eV _ (u1 i) (aV _ b),bj b (g i) (f i j)]);rw[e,ot,Lo,u3 j d,k j d,bm];rfl
def lh(M:Nat->Nat->Nat)(D P:Nat):Ck:=⟨λr j=>if r<P then(if j<D then M (D+r) j else if j=D+r then 1 else 0)else 0,0,P⟩
theorem uo(a:∀i,bH (M i)):AD (lh M D P):=λr j=>by
 show(if r<P then _ else _)<256;split
 . split;.exact a _ _
   .split<;>decide
 .decide
def Ct(a:∀i,bH (M i))(d:∀i,i<D->∀j,M i j=if j=i then 1 else 0)(k:Nat)(f:k<P):xP M D (D+P) ((lh M D P).m k):=by
 have e:∀i,(lh M D P).m k i=if i<D then M (D+k) i else if i=D+k then 1 else 0:=λi=>by show(if k<P then _ else _)=_;rw[TT f]
 refine⟨uo a k,λi b=>by rw[e,TS V,TS V],λj c=>?_⟩;rw[AG];have g:xs (λi=>gm ((lh M D P).m k i) (M i j)) D=M (D+k) j:=by
  rw[jL (k:=j) D c];.rw[e,TT c,d j c,TT rfl,cT _ (a _ _)]
  .intro i b ne;rw[d i b,TS (Vc ne),bm]
 have h:xs (λi=>gm ((lh M D P).m k (D+i)) (M (D+i) j)) P=M (D+k) j:=by
  rw[jL (k:=k) P f];.rw[e,TS V,TT rfl,cB ec (a _ _),cT _ (a _ _)]
  .intro i b ne;rw[e,TS V,TS V,bO]
 rw[g,h,UL]
theorem ur(f:Nat->Nat->Nat)(a:Nat->Nat)(b:bH a):∀n,(∀i,i<n->a i≠0->R (f i))->aO R (λj=>xs (λi=>gm (a i) (f i j)) n)
 |0,_=>aO.zero R|n+1,h=>by
  have ih:=ur f a b n (λi d=>h i V);by_cases e:a n=0
  . have c:(λj=>xs (λi=>gm (a i) (f i j)) (n+1))=λj=>xs (λi=>gm (a i) (f i j)) n:=by funext j;show _^^^gm (a n) (f n j)=_;rw[e,bO,UX]
    rw[c];exact ih
  .exact ih.step (b n) (h n V e)
theorem Lq(f:∀i,i<D->∀j,M i j=if j=i then 1 else 0){v:Nat->Nat}(n:xP M D (D+P) v):aO (nI (lh M D P) 0) v:=by
 obtain⟨d,o,p⟩:=n;have h:=ur (R:=nI (lh M D P) 0) (lh M D P).m (λi=>v (D+i)) (λi=>d _) P (λi a _=>⟨i,T8 _,a,rfl⟩);have e:(λj=>xs (λi=>gm (v (D+i)) ((lh M D P).m i j)) P)=v:=by
  funext j;by_cases b:j<D
  . have g:xs (λi=>gm (v (D+i)) ((lh M D P).m i j)) P=xs (λi=>gm (v (D+i)) (M (D+i) j)) P:=fC P (λi a=>by show gm _ (if i<P then _ else _)=_;rw[TT a,TT b]);rw[g];have c:=p j b;rw[AG]at c;have l:xs (λi=>gm (v i) (M i j)) D=v j:=by
     rw[jL (k:=j) D b];.rw[f j b,TT rfl,cT _ (d j)]
     .intro i a ne;rw[f i a,TS (Vc ne),bm]
    rw[l]at c;exact(Ff c).symm
  . by_cases q:j<D+P
    . rw[jL (k:=j-D) P V];.show gm _ (if j-D<P then _ else _)=_;rw[TT V,TS b,TT V,(V:D+(j-D)=j),cT _ (d j)]
      .intro i a ne;show gm _ (if i<P then _ else _)=_;rw[TT a,TS b,TS V,bm]
    .rw[o j V];exact eL P (λi a=>by show gm _ (if i<P then _ else _)=_;rw[TT a,TS b,TS V,bm])
 rwa[e]at h
def Lr(M:Nat->Nat->Nat)(n:Nat)(Q:Nat->Prop):(Nat->Nat)->Prop:=λv=>∃i,i<n/\Q i/\v=M i
theorem Fg{x:Nat->Nat}(o:aO (Lr M n Q) x):∃a,bH a/\(∀i,¬(i<n/\Q i)->a i=0)/\∀j,x j=xs (λi=>gm (a i) (M i j)) n:=by
 refine o (λx=>∃a,bH a/\(∀i,¬(i<n/\Q i)->a i=0)/\∀j,x j=xs (λi=>gm (a i) (M i j)) n) ⟨λ_=>0,λ_=>Zb,λ_ _=>rfl,λj=>(eL n (λi _=>bO _)).symm⟩ ?_;rintro b r u m⟨k,k1,k2,rfl⟩⟨a,c,g,h⟩;have d:bH (λi=>if i=k then b else 0):=λi=>by show(if i=k then b else 0)<256;split;exact m;decide
 refine⟨λi=>a i^^^(if i=k then b else 0),λi=>ld (c i) (d i),λi f=>?_,λj=>?_⟩;.have:i≠k:=λe=>f (by rw[e];exact⟨k1,k2⟩);show a i^^^(if i=k then b else 0)=0;rw[g i f,TS this];rfl
 . have e:xs (λi=>gm (a i^^^(if i=k then b else 0)) (M i j)) n=xs (λi=>gm (a i) (M i j)^^^gm (if i=k then b else 0) (M i j)) n:=fC n (λi _=>eV _ (c i) (d i));rw[e,ot,<-h j];have l:xs (λi=>gm (if i=k then b else 0) (M i j)) n=gm b (M k j):=by
    rw[jL (k:=k) n k1];.rw[TT rfl]
    .intro i _ ne;rw[TS ne,bO]
   rw[l];rfl
def AH(f:∀i,bH (M i))(p:k<n)(o:¬Q k)(h:aO (Lr M n Q) (M k)):∃u,xP M D n u/\u k=1/\∀i,i≠k->¬Q i->u i=0:=by
 obtain⟨a,c,b,l⟩:=Fg h;have m:a k=0:=b k (λh=>o h.2);have d:bH (dS k):=iW k;refine⟨λi=>a i^^^dS k i,⟨λi=>ld (c i) (d i),λi g=>?_,λj _=>?_⟩,?_,λi g q=>?_⟩;.show a i^^^(if i=k then 1 else 0)=0;rw[b i V,TS V];rfl
 . have e:xs (λi=>gm (a i^^^dS k i) (M i j)) n=xs (λi=>gm (a i) (M i j)^^^gm (dS k i) (M i j)) n:=fC n (λi _=>eV _ (c i) (d i));rw[e,ot,<-l j,jL (k:=k) n p];.show M k j^^^gm (if k=k then 1 else 0) (M k j)=0;rw[TT rfl,cB ec (f k j),cT _ (f k j),UL]
   .intro i _ ne;show gm (if i=k then 1 else 0) (M i j)=0;rw[TS ne,bO]
 .show a k^^^(if k=k then 1 else 0)=1;rw[m,TT rfl];rfl
 .show a i^^^(if i=k then 1 else 0)=0;rw[b i (λh=>q h.2),TS g];rfl
theorem oV(c:∀i,bH (M i))(g:∀i j,D<=j->M i j=0)(r:k<n){u:Nat->Nat}(s:xP M D n u)(o:u k=1)(m:∀i,i<n->i≠k->u i≠0->Q i):aO (Lr M n Q) (M k):=by
 obtain⟨u1,u2,u3⟩:=s;have p:bH (λi=>if i=k then 0 else u i):=λi=>by show(if i=k then 0 else u i)<256;split;decide;exact u1 i
 have h:=ur (R:=Lr M n Q) M (λi=>if i=k then 0 else u i) p n (λi d a=>by
  by_cases e:i=k;.simp[e]at a
  .exact⟨i,d,m i d e (by simpa[e]using a),rfl⟩);have e:(λj=>xs (λi=>gm (if i=k then 0 else u i) (M i j)) n)=M k:=by
  funext j;by_cases q:j<D
  . have l:xs (λi=>gm (u i) (M i j)) n=xs (λi=>gm (if i=k then 0 else u i) (M i j)^^^gm (dS k i) (M i j)) n:=fC n (λi _=>by
     by_cases e:i=k;.rw[TT e,bO,Vq,e,o];show _=gm (if k=k then 1 else 0) _;rw[TT rfl]
     .rw[TS e];show _=_^^^gm (if i=k then 1 else 0) _;rw[TS e,bO,UX]);have b:=u3 j q;rw[l,ot,jL (f:=λi=>gm (dS k i) (M i j)) (k:=k) n r]at b;.have:=Ff b;rw[this];show gm (if k=k then 1 else 0) (M k j)=_;rw[TT rfl,cB ec (c k j),cT _ (c k j)]
    .intro i _ ne;show gm (if i=k then 1 else 0) (M i j)=0;rw[TS ne,bO]
  .rw[g k j V];exact eL n (λi _=>by rw[g i j V,bm])
 rwa[e]at h
structure Code(M:Nat->Nat->Nat)(D P:Nat):Prop where byt:∀i,bH (M i)unit:∀i,i<D->∀j,M i j=if j=i then 1 else 0RS:∀i j,D<=j->M i j=0
def Code.told(h:Code M D P)(L:a7):(∃C,tells (lh M D P) L=some C/\fL (lh M D P) (xP M D (D+P)) L C)\/(tells (lh M D P) L=none/\∃pre i,(pre++[i])<+:L/\∀v,aO (nI (lh M D P) 0) v->(∀j∈pre,v j=0)->v i=0):=by have:=fL.of (Cs M D (D+P) h.byt) (C0:=lh M D P) rfl (uo h.byt) (λk a=>Ct h.byt h.unit k a) L [] (lh M D P) (fL.nil rfl (uo h.byt) (λk a=>Ct h.byt h.unit k a)) rfl;simpa using this
theorem Code.full(h:Code M D P){L:a7}{C:Ck}(a:fL (lh M D P) (xP M D (D+P)) L C):l9 (Lr M (D+P) (λi=>i∉L)) 0 D:=by
 have n:∀r,Lr M (D+P) (λi=>i∉L) r->bH r:=by rintro r⟨i,_,_,rfl⟩;exact h.byt i
 have m:∀i,i<D+P->aO (Lr M (D+P) (λi=>i∉L)) (M i):=by
  intro i f;by_cases g:i∈L
  . obtain⟨k,d,rfl⟩:=UZ g;have q:k<C.count:=(by have:=a.told;have:=a.le;omega);refine oV h.byt h.RS f (a.all k q) ?_ ?_;.rw[a.one k d k d,TT rfl]
    . intro j _ c b o;obtain⟨l,p,rfl⟩:=UZ o;rw[a.one k d l p]at b;by_cases e:k=l;.subst e;exact c rfl
      .rw[TS e]at b;exact b rfl
  .exact aO.mem (h.byt i) ⟨i,f,g,rfl⟩
 refine l9.TH n (λj c=>?_);have e:M j=dS j:=by funext x;rw[h.unit j c];rfl
 rw[<-e];exact m j V
def Code.TN(h:Code M D P){L:a7}(c:L.Nodup)(g:∀i∈L,i<D+P)(k:∃pre i,(pre++[i])<+:L/\∀v,aO (nI (lh M D P) 0) v->(∀j∈pre,v j=0)->v i=0):¬l9 (Lr M (D+P) (λi=>i∉L)) 0 D:=by obtain⟨pre,i,⟨R,rfl⟩,m⟩:=k;intro f;have d:i∈pre++[i]++R:=ej;obtain⟨u,l,u1,u0⟩:=AH (D:=D) h.byt (g i d) (λb=>b d) (f (M i) (h.byt i) (λj a=>h.RS i j V));have:=m u (Lq h.unit l) (λj a=>u0 j (λe=>by subst e;rw[UA]at c;have:=(U3.1 c).2.2 j a j ej;exact this rfl) (λb=>b Zl));rw[u1]at this;exact absurd this ec
structure I4(M:Nat->Nat->Nat)(D P:Nat)(L:a7)(B:Ck):Prop where
 told:B.told=L.length
 le:B.told<=B.count
 Sg:B.count<=P
 byt:AD B
 dual:∀k,k<B.told->xP M D (D+P) (B.m k)one:∀k,k<L.length->∀k'(h:k'<L.length),B.m k L[k']=if k=k' then 1 else 0
def Code.SH(h:Code M D P){L:a7}{C B:Ck}(a:fL (lh M D P) (xP M D (D+P)) L C)(n:j8 C B):I4 M D P L B:=by have i:∀j∈L,Dead C j:=λj l r d c=>((a.spare (C.m r)).1 (aO.mem (a.byt r) ⟨r,d,c,rfl⟩)).2 j l;obtain⟨b,t,le,p,g,on,_⟩:=n.good (Cs M D (D+P) h.byt) a.byt a.le a.all i;have:=a.told;have c:=a.count;refine⟨V,le,by have:C.count=P:=c;omega,b,λk f=>g k V,λk f o e=>?_⟩;rw[on k V _ (T7 e),a.one k f o e]
def I4.tells{B:Ck}(d:Code M D P)(h:I4 M D P L B)(o:∀i∈L,i<D+P):∀i∈L,aO (Lr M (D+P) (λj=>j∉L/\cY B j=true)) (M i):=by
 intro i f;obtain⟨k,b,rfl⟩:=UZ f;have c:k<B.told:=ia h.told;refine oV d.byt d.RS (o _ f) (h.dual k c) (by rw[h.one k b k b,TT rfl]) ?_;intro j _ n a;refine⟨λl=>?_,sB c a⟩;obtain⟨g,m,rfl⟩:=UZ l;rw[h.one k b g m]at a;by_cases e:k=g;.subst e;exact n rfl
 .rw[TS e]at a;exact a rfl
theorem I4.sum{B:Ck}(s:Code M D P)(h:I4 M D P L B)(x:∀i∈L,i<D+P)(d:Nat->Nat)(u:bH d)(k:Nat)(b:k<L.length):xs (λi=>if i∈L then 0 else gm (B.m k i) (xs (λj=>gm (M i j) (d j)) D)) (D+P)=xs (λj=>gm (M L[k] j) (d j)) D:=by
 have t:k<B.told:=ia h.told;obtain⟨o,z,y⟩:=h.dual k t;have v:=x _ (T7 b);have r:∀i,xs (λj=>gm (M i j) (d j)) D<256:=λi=>Lp D (λj _=>aV _ (s.byt i j));have swap:∀n,xs (λi=>gm (B.m k i) (xs (λj=>gm (M i j) (d j)) D)) n=xs (λj=>gm (xs (λi=>gm (B.m k i) (M i j)) n) (d j)) D:=by intro n;induction n with|zero=>exact(eL D (λj _=>bO _)).symm|succ n ih=>show xs _ n^^^gm (B.m k n) (xs (λj=>gm (M n j) (d j)) D)=_;rw[ih,<-Lo,<-ot];apply fC;intro j _;show _=gm (xs _ n^^^gm (B.m k n) (M n j)) (d j);rw[eV _ (Lp n (λi _=>aV _ (o i))) (aV _ (o n)),bj (o n) (s.byt n j) (u j)]
 have l:xs (λi=>gm (B.m k i) (xs (λj=>gm (M i j) (d j)) D)) (D+P)=0:=by rw[swap];exact eL D (λj w=>by rw[y j w,bO])
 have e:xs (λi=>gm (B.m k i) (xs (λj=>gm (M i j) (d j)) D)) (D+P)=xs (λi=>(if i∈L then 0 else gm (B.m k i) (xs (λj=>gm (M i j) (d j)) D))^^^(if i=L[k]then xs (λj=>gm (M L[k] j) (d j)) D else 0)) (D+P):=by
  apply fC;intro i _;by_cases c:i∈L
  . obtain⟨g,q,rfl⟩:=UZ c;rw[TT c,Vq,h.one k b g q];by_cases e:L[g]=L[k]
    . rw[TT e,e];by_cases a:k=g;.rw[TT a,cB ec (r _),cT _ (r _)]
      .have c1:=h.one k b k b;have p:=h.one k b g q;rw[e,c1,TT rfl,TS a]at p;exact absurd p ec
    .rw[TS e,TS (λa=>e (by subst a;rfl)),bO]
  .rw[TS c,TS (show¬i=L[k]fromλa=>c (by rw[a];exact T7 b)),UX]
 rw[e,ot,jL (f:=λi=>if i=L[k]then xs (λj=>gm (M L[k] j) (d j)) D else 0) (k:=L[k]) _ v]at l;.rw[TT rfl]at l;exact Ff l
 .intro i _ ne;rw[TS ne]
