import Derived.Test.YtfbmmcnpjhmjaaaGreatDoorM02
section
set_option maxRecDepth 100000
set_option maxHeartbeats 8000000
open Nat renaming zero_xor -> Tm, xor_assoc -> Tn
namespace Go.Proofs.YtfbmmcnpjhmjaaaGreatDoor.Gf
variable {R:(Nat->Nat)->Prop} {c:Nat} {r:Nat->Nat}
def br (v:Nat->Nat):Prop:=∀ j,v j<256
def cA (u:Nat->Nat) (a:Nat) (r:Nat->Nat):Nat->Nat:=λj=>u j^^^gm a (r j)
def aO (R:(Nat->Nat)->Prop) (v:Nat->Nat):Prop:=∀ S:(Nat->Nat)->Prop,S (λ_=>0)->(∀ a r u,a<256->R r->S u->S (cA u a r))->S v
theorem aO.zero (R:(Nat->Nat)->Prop):aO R (λ_=>0):=λ_ a _=>a
theorem aO.step {u:Nat->Nat} {a:Nat} (f:aO R u) (d:a<256) (e:R r):aO R (cA u a r):=λS c b=>b a r u d e (f S c b)
theorem aO.byte {v:Nat->Nat} (h:aO R v):br v:=
 h br (λ_=>by show 0<256;decide) (λ_ _ _ a _ b j=>jU (b j) (aU _ a))
theorem uR (u:Nat->Nat) (r:Nat->Nat):cA u 0 r=u:=by funext j;simp [cA,Si]
theorem aO.mem (b:br r) (c:R r):aO R r:=by
 have:=aO.step (aO.zero R) (a:=1) (by decide) c;have e:cA (λ_=>0) 1 r=r:=by
  funext j;show 0^^^gm 1 (r j)=r j;rw [bH (by decide) (b j),cj _ (b j),Tm]
 rw [e] at this;exact this
theorem aO.add (f:∀ r,R r->br r) {u v:Nat->Nat} (h:aO R u) {b:Nat} (c:b<256) (i:aO R v):aO R (cA u b v):=by
 refine i (λx=>aO R (cA u b x)) ?_ ?_
 . have e:cA u b (λ_=>0)=u:=(by funext j;simp [cA,bk]);show aO R (cA u b (λ_=>0));rw [e];exact h
 . intro a r x g d k;have e:cA u b (cA x a r)=cA (cA u b x) (gm b a) r:=by
    funext j;show u j^^^gm b (x j^^^gm a (r j))=(u j^^^gm b (x j))^^^gm (gm b a) (r j);rw [dX,aX c g (f r d j),Tn]
   show aO R (cA u b (cA x a r));rw [e];exact k.step (aU _ c) d
theorem aO.sub {R':(Nat->Nat)->Prop} (a:∀ r,R r->br r) (h:∀ r,R' r->aO R r) {v:Nat->Nat} (e:aO R' v):aO R v:=
 e (aO R) (aO.zero R) (λ_ r _ b c d=>aO.add a d b (h r c))
theorem aO.nought (h:∀ r,R r->r c=0) {v:Nat->Nat} (b:aO R v):v c=0:=
 b (λx=>x c=0) rfl (λa r u _ hr (hu:u c=0)=>by show u c^^^gm a (r c)=0;rw [hu,h r hr,bk];exact Nat.xor_self 0)
theorem aO.worked {R1:(Nat->Nat)->Prop} {p:Nat->Nat} (m:∀ r,R r->br r) (B:R p) (I:p c≠0)
 (o:∀ r,R1 r->∃ q f,R q/\f<256/\r=cA q f p/\r c=0)
 (F:∀ q,R q->q=p\/∃ f r,f<256/\R1 r/\q=cA r f p) (v:Nat->Nat):aO R1 v↔aO R v/\v c=0:=by
 have L:∀ r,R1 r->br r:=by
  intro r d;obtain ⟨q,f,l,n,rfl,_⟩:=o r d;exact λj=>jU (m q l j) (aU _ n)
 constructor
 . intro w;refine ⟨aO.sub m (λr d=>?_) w,aO.nought (λr d=>?_) w⟩
   . obtain ⟨q,f,l,n,rfl,_⟩:=o r d;exact (aO.mem (m q l) l).step n B
   . obtain ⟨q,f,_,_,_,h⟩:=o r d;exact h
 . rintro ⟨w,J⟩;have key:∃ b,b<256/\aO R1 (cA v b p):=by
    refine w (λx=>∃ b,b<256/\aO R1 (cA x b p)) ⟨0,by decide,by rw [uR];exact aO.zero R1⟩ ?_;rintro a q u k l ⟨b,g,D⟩;rcases F q l with rfl|⟨f,r,n,d,rfl⟩
    . refine ⟨b^^^a,jU g k,?_⟩;have e:cA (cA u a q) (b^^^a) q=cA u b q:=by
       funext j;show (u j^^^gm a (q j))^^^gm (b^^^a) (q j)=u j^^^gm b (q j);rw [dY _ g k,Tn,Nat.xor_comm (gm b (q j)),<- Tn (gm a (q j)),Nat.xor_self,Tm]
      rw [e];exact D
    . refine ⟨b^^^gm a f,jU g (aU _ k),?_⟩;have e:cA (cA u a (cA r f p)) (b^^^gm a f) p=cA (cA u b p) a r:=by
       funext j;show (u j^^^gm a (r j^^^gm f (p j)))^^^gm (b^^^gm a f) (p j)=(u j^^^gm b (p j))^^^gm a (r j);rw [dX,dY _ g (aU _ k),aX k n (m p B j)];generalize gm a (gm f (p j))=t;generalize gm b (p j)=s;generalize gm a (r j)=y;generalize u j=z;apply Nat.eq_of_testBit_eq;intro i;simp only [Nat.testBit_xor];cases z.testBit i<;>cases y.testBit i<;>cases t.testBit i<;>cases s.testBit i<;>rfl
      rw [e];exact D.step k d
   obtain ⟨b,g,C⟩:=key;have E:=aO.nought (λr d=>by obtain ⟨q,f,_,_,_,h⟩:=o r d;exact h) C;have G:gm b (p c)=0:=by
    have:v c^^^gm b (p c)=0:=E;rwa [J,Tm] at this
   have H:b=0:=by
    have A:=m p B c;have K:=cY A;have e:=aX g A K;rw [G,Si,jD _ A I,cj b g] at e;exact e.symm
   rw [H,uR] at C;exact C
def dE:Nat->((Nat->Nat)->Prop)->Nat->Nat->Prop
 | 0,_,_,k=>k=0
 | n+1,R,c,k=>((∀ r,R r->r c=0)/\dE n R (c+1) k)\/(∃ p,R p/\p c≠0)/\∃ R1,(∀ r,R1 r->br r)/\(∀ v,aO R1 v↔aO R v/\v c=0)/\∃ k',k=k'+1/\dE n R1 (c+1) k'
end Go.Proofs.YtfbmmcnpjhmjaaaGreatDoor.Gf
end
section
set_option maxRecDepth 100000
set_option maxHeartbeats 8000000
open List renaming getElem_mem -> Tm
namespace Go.Proofs.YtfbmmcnpjhmjaaaGreatDoor.Gf
variable {T T':List (List Nat)} {n c k r:Nat}
def kO (l:List Nat):Nat->Nat:=λj=>l.getD j 0
def oU (T:List (List Nat)) (r:Nat):(Nat->Nat)->Prop:=λv=>∃ i,∃ h:i<T.length,r<=i/\v=kO T[i]
theorem Ik {l:List Nat} (h:∀ x∈l,x<256):br (kO l):=by
 intro j;unfold kO;by_cases a:j<l.length
 . have e:l.getD j 0=l[j]:=(by simp [a]);rw [e];exact h _ (Tm a)
 . have e:l.getD j 0=0:=(by simp [List.getElem?_eq_none (Nat.not_lt.1 a)]);rw [e];decide
theorem nJ (h:∀ l∈T,∀ x∈l,x<256) (r:Nat):∀ v,oU T r v->br v:=by
 rintro v ⟨i,a,_,rfl⟩;exact Ik (h _ (Tm a))
theorem ig (q p:Nat->Nat) (f:Nat):cA (cA q f p) f p=q:=by
 funext j;show (q j^^^gm f (p j))^^^gm f (p j)=q j;rw [Nat.xor_assoc,Nat.xor_self,Nat.xor_zero]
theorem Cg (h:∀ i (a:i<T.length),r<=i->kO T[i] c=0) (d:dE n (oU T r) (c+1) k):dE (n+1) (oU T r) c k:=
 .inl ⟨by rintro v ⟨i,a,b,rfl⟩;exact h i a b,d⟩
theorem zF {p:Nat} (y:∀ l∈T,∀ x∈l,x<256) (t:∀ l∈T',∀ x∈l,x<256) (B:T'.length=T.length) (m:r<=p) (o:p<T.length) (j:kO T[p] c≠0)
 (d:∀ i (g:i<T'.length),r<i->∃ f,∃ h:(if i=p then r else i)<T.length,f<256/\kO T'[i]=cA (kO T[if i=p then r else i]) f (kO T[p])/\kO T'[i] c=0)
 (A:dE n (oU T' (r+1)) (c+1) k):dE (n+1) (oU T r) c (k+1):=by
 have w:=nJ y r;refine .inr ⟨⟨kO T[p],⟨p,o,m,rfl⟩,j⟩,oU T' (r+1),nJ t (r+1),?_,k,rfl,A⟩;refine aO.worked (p:=kO T[p]) w ⟨p,o,m,rfl⟩ j ?_ ?_
 . rintro v ⟨i,g,u,rfl⟩;obtain ⟨f,h,b,e,z⟩:=d i g (by omega);exact ⟨_,f,⟨_,h,by split<;>omega,rfl⟩,b,e,z⟩
 . rintro q ⟨i,g,u,rfl⟩;by_cases e:i=p
   . subst e;exact .inl rfl
   . right;by_cases s:i=r
     . subst s;obtain ⟨f,h,b,a,_⟩:=d p (by omega) (by omega);simp only [if_pos] at a;refine ⟨f,kO T'[p],b,⟨p,by omega,by omega,rfl⟩,?_⟩;rw [a,ig]
     . obtain ⟨f,h,b,a,_⟩:=d i (by omega) (by omega);simp only [if_neg e] at a;refine ⟨f,kO T'[i],b,⟨i,by omega,by omega,rfl⟩,?_⟩;rw [a,ig]
theorem rJ {x y:Nat} (b:x<256) (a:y<256) (h:y≠0):x^^^gm (gm x (gi y)) y=0:=by
 rw [aX b (cY a) a,bH (cY a) a,jD y a h,cj x b,Nat.xor_self]
def rL (D:List (List Nat)) (k:Nat):Prop:=dE 64 (oU D 0) 0 k
theorem Ff (e:T.length=T'.length) (h:∀ i (c:i<T.length) (d:i<T'.length),kO T[i]=kO T'[i]) (r:Nat):oU T r=oU T' r:=by
 funext v;apply propext;constructor
 . rintro ⟨i,a,b,rfl⟩;exact ⟨i,by omega,b,h i a (by omega)⟩
 . rintro ⟨i,a,b,rfl⟩;exact ⟨i,by omega,b,(h i (by omega) a).symm⟩
end Go.Proofs.YtfbmmcnpjhmjaaaGreatDoor.Gf
end
section
set_option maxRecDepth 100000
set_option maxHeartbeats 8000000
open List renaming mem_cons_of_mem -> Tm, mem_cons_self -> Tn, nodup_cons -> Ts
open Nat renaming xor_comm -> To, xor_self -> Tp, zero_xor -> Tq, xor_assoc -> Tr
namespace Go.Proofs.YtfbmmcnpjhmjaaaGreatDoor.Gf
variable {m x a b:Nat}
def rM (R:(Nat->Nat)->Prop) (c m:Nat):Prop:=∀ v,br v->(∀ j,j<c\/c+m<=j->v j=0)->aO R v
def dn (m:Nat):Nat->Nat:=λj=>if j=m then 1 else 0
theorem jY (m:Nat):br (dn m):=λj=>by unfold dn;split<;>decide
theorem dE.le:∀ n (R:(Nat->Nat)->Prop) (c k m:Nat),(∀ j,c+m<=j->∀ r,R r->r j=0)->dE n R c k->k<=m
 | 0,_,_,_,_,_,h=>by rw [h];exact Nat.zero_le _
 | n+1,R,c,k,m,hz,h=>by
  rcases h with ⟨_,h⟩|⟨⟨p,i,g⟩,d,e,f,k1,rfl,h⟩
  . cases m with
    | zero=>exact dE.le n R (c+1) k 0 (λj a=>hz j (by omega)) h
    | succ m=>exact Nat.le_succ_of_le (dE.le n R (c+1) k m (λj a=>hz j (by omega)) h)
  . cases m with
    | zero=>exact absurd (hz c (by omega) p i) g
    | succ m=>
     have:=dE.le n d (c+1) k1 m (λj a r b=>aO.nought (hz j (by omega)) ((f r).1 (aO.mem (e r b) b)).1) h;omega
theorem dE.full_of:∀ n (R:(Nat->Nat)->Prop) (c m:Nat),(∀ r,R r->br r)->(∀ j,c+m<=j->∀ r,R r->r j=0)->(∀ j,j<c->∀ r,R r->r j=0)->dE n R c m->rM R c m
 | 0,R,c,m,hb,hz,hl,h=>by
  intro v _ d;obtain rfl:m=0:=h;have e:v=λ_=>0:=by funext j;exact d j (by omega)
  rw [e];exact aO.zero R
 | n+1,R,c,m,hb,hz,hl,h=>by
  cases m with
  | zero=>
   intro v _ d;have e:v=λ_=>0:=(by funext j;exact d j (by omega));rw [e];exact aO.zero R
  | succ m=>
   rcases h with ⟨y,h⟩|⟨⟨p,f,t⟩,g,k,i,k1,e,h⟩
   . have:=dE.le n R (c+1) (m+1) m (λj b=>hz j (by omega)) h;omega
   . obtain rfl:k1=m:=(by omega);have sub:=λr (a:g r)=>(i r).1 (aO.mem (k r a) a);have ih:=dE.full_of n g (c+1) k1 k (λj b r a=>aO.nought (hz j (by omega)) (sub r a).1)
      (λj b r a=>by
       by_cases e:j=c
       . rw [e];exact (sub r a).2
       . exact aO.nought (hl j (by omega)) (sub r a).1) h
     intro v d w;have o:=d c;have u:=hb p f c;have l:=aU (gi (p c)) o;have x:=ih (cA v (gm (v c) (gi (p c))) p) (λj=>jU (d j) (aU _ l)) (by
      intro j b;show v j^^^gm (gm (v c) (gi (p c))) (p j)=0;by_cases e:j=c
      . rw [e];exact rJ o u t
      . have q:v j=0:=w j (by omega);have s:p j=0:=by
         rcases b with b|b
         . exact hl j (by omega) p f
         . exact hz j (by omega) p f
        rw [q,s,bk,Tp])
     have:=((i _).1 x).1.step l f;rwa [ig] at this
theorem dE.of_full:∀ n (R:(Nat->Nat)->Prop) (c k m:Nat),m<=n->(∀ j,c+m<=j->∀ r,R r->r j=0)->rM R c m->dE n R c k->k=m
 | 0,_,_,_,m,hm,_,_,h=>by rw [h];omega
 | n+1,R,c,k,m,hm,hz,hF,h=>by
  cases m with
  | zero=>have:=dE.le (n+1) R c k 0 hz h;omega
  | succ m=>
   rcases h with ⟨g,h⟩|⟨⟨p,s,q⟩,f,l,a,k1,rfl,h⟩
   . have i:=hF (dn c) (jY c) (λj d=>if_neg (by omega));have:=aO.nought g i;simp [dn] at this
   . have:=dE.of_full n f (c+1) k1 m (by omega) (λj d r e=>aO.nought (hz j (by omega)) ((a r).1 (aO.mem (l r e) e)).1)
      (λv o b=>(a v).2 ⟨hF v o (λj d=>b j (by omega)),b c (by omega)⟩) h
     omega
theorem Fg {D:List (List Nat)} {k:Nat} (d:∀ l∈D,∀ x∈l,x<256) (f:∀ l∈D,l.length<=m) (g:m<=64) (h:rL D k):k=m↔rM (oU D 0) 0 m:=by
 have b:∀ j,0+m<=j->∀ r,oU D 0 r->r j=0:=by
  rintro j a r ⟨i,e,_,rfl⟩;unfold kO;have:=f _ (List.getElem_mem e);simp [List.getElem?_eq_none (show (D[i]).length<=j by omega)]
 constructor
 . rintro rfl;exact dE.full_of 64 _ 0 k (nJ d 0) b (λj a=>absurd a (by omega)) h
 . intro c;exact dE.of_full 64 _ 0 k m g b c h
theorem rM.units {R:(Nat->Nat)->Prop} (f:∀ r,R r->br r) {m:Nat} (h:∀ j,j<m->aO R (dn j)):rM R 0 m:=by
 intro v d g;have key:∀ t,t<=m->aO R (λj=>if j<t then v j else 0):=by
  intro t;induction t with
  | zero=>intro _;exact aO.zero R
  | succ t ih=>
   intro i;have:=aO.add f (ih (by omega)) (d t) (h t (by omega));have e:cA (λj=>if j<t then v j else 0) (v t) (dn t)=λj=>if j<t+1 then v j else 0:=by
    funext j;show (if j<t then v j else 0)^^^gm (v t) (if j=t then 1 else 0)=if j<t+1 then v j else 0;by_cases a:j=t
    . subst a;simp [cj _ (d j)]
    . rw [if_neg a,bk,Nat.xor_zero];by_cases b:j<t
      . rw [if_pos b,if_pos (by omega)]
      . rw [if_neg b,if_neg (by omega)]
   rwa [e] at this
 have:=key m (Nat.le_refl _);have e:(λj=>if j<m then v j else 0)=v:=by
  funext j;by_cases c:j<m
  . rw [if_pos c]
  . rw [if_neg c];exact (g j (by omega)).symm
 rwa [e] at this
def jk (L:List Nat) (u:Nat->Nat) (x:Nat):Nat->Nat:=λj=>if j∈L then gm (u j) (gi (x^^^j)) else 0
theorem jl {y:Nat} (h:x≠y):x^^^y≠0:=λe=>h (by
 have:=congrArg (λt=>t^^^y) e;simpa [Tr] using this)
theorem Il (d:a<256) (c:b<256) (f:a≠0) (g:b≠0):gm a b≠0:=by
 intro e;have:=aX d c (cY c);rw [e,Si,jD b c g,cj a d] at this;exact f this.symm
theorem Im (b:a<256) (h:a≠0):gi a≠0:=by
 intro e;have:=jD a b h;rw [e,bk] at this;exact absurd this (by decide)
theorem D7 (d:a<256) (c:b<256) (h:b≠0):gm a (gi b)=1^^^gm (a^^^b) (gi b):=by
 rw [dY _ d c,jD b c h,To (gm a (gi b)) 1,<- Tr,Tp,Tq]
theorem Nj (e:a<256) (f:b<256) (g:a≠0) (h:b≠0):gi a^^^gi b=gm (a^^^b) (gm (gi a) (gi b)):=by
 have c:=cY e;have d:=cY f;rw [dY _ e f,<- aX e c d,jD a e g,bH c d,<- aX f d c,jD b f h,bH (by decide) d,bH (by decide) c,cj _ c,cj _ d,To]
theorem mX (x y z:Nat):(x^^^z)^^^(y^^^z)=x^^^y:=by
 rw [To y z,Tr,<- Tr z z,Tp,Tq]
theorem Io {x0 j u:Nat} (n:x<256) (h:x0<256) (k:m<256) (i:j<256) (e:u<256) (C:x≠x0) (s:x≠j) (v:x0≠j) :
 gm (gi (x^^^x0)) (gm (x^^^m) (gm u (gi (x^^^j)))^^^gm (x0^^^m) (gm u (gi (x0^^^j))))=gm (gm u (gm (j^^^m) (gi (x0^^^j)))) (gi (x^^^j)):=by
 have b1:=jU n h;have b2:=jU n i;have b3:=jU h i;have p:=jU n k;have q:=jU h k;have b:=jU i k;have c:=cY b1;have d:=cY b2;have o:=cY b3;have sw:∀ t g,t<256->g<256->gm t (gm u g)=gm u (gm t g):=λt g l w=>by
  rw [<- aX l e w,bH l e,aX e l w]
 rw [sw _ _ p d,sw _ _ q o,<- dX,D7 p b2 (jl s),D7 q b3 (jl v)];have z:(x^^^m)^^^(x^^^j)=j^^^m:=by rw [To x m,To x j,mX,To]
 have A:(x0^^^m)^^^(x0^^^j)=j^^^m:=by rw [To x0 m,To x0 j,mX,To]
 rw [z,A,Hp,Tp,Tq,<- dX,Nj b2 b3 (jl s) (jl v),mX];have f:gm (gi (x^^^j)) (gi (x0^^^j))<256:=aU _ d;have r:gm (x^^^x0) (gm (gi (x^^^j)) (gi (x0^^^j)))<256:=aU _ b1;have y:gm (j^^^m) (gi (x0^^^j))<256:=aU _ b;rw [sw _ _ c (aU _ b),aX e y d,aX b o d];refine congrArg (gm u) ?_;have B:gm (gi (x^^^x0)) (gm (x^^^x0) (gm (gi (x^^^j)) (gi (x0^^^j))))=gm (gi (x^^^j)) (gi (x0^^^j)):=by
  rw [<- aX c b1 f,bH c b1,jD _ b1 (jl C),bH (a:=1) (by decide) f,cj _ f]
 rw [<- aX c b r,bH c b,aX b c r,B,bH d o]
theorem Ip (R:(Nat->Nat)->Prop) (s:∀ r,R r->br r):∀ (L X:List Nat) (u:Nat->Nat),L.Nodup->X.Nodup->L.length<=X.length->(∀ j∈L,j<256/\u j<256/\u j≠0)->(∀ x∈X,x<256/\∀ j∈L,x≠j) ->
 (∀ x∈X,aO R (jk L u x))->∀ j∈L,aO R (dn j)
 | [],_,_,_,_,_,_,_,_=>λj c=>by cases c
 | m::L,[],_,_,_,h,_,_,_=>by simp at h
 | m::L,a::X,u,Q,S,Y,C,z,M=>by
  obtain ⟨I,F⟩:=Ts.1 Q;obtain ⟨P,T⟩:=Ts.1 S;obtain ⟨v,f,hp⟩:=C m Tn;obtain ⟨q,w⟩:=z a Tn;have E:=M a Tn;have ih:=Ip R s L X (λj=>gm (u j) (gm (j^^^m) (gi (a^^^j)))) F T (by simpa using Y)
   (λj c=>by
    obtain ⟨g,p,N⟩:=C j (Tm _ c);have b1:=jU g v;have b2:=jU q g;have ne:j≠m:=λe=>I (e▸c);exact ⟨g,aU _ p,Il p (aU _ b1) N (Il b1 (cY b2) (jl ne) (Im b2 (jl (w j (Tm _ c)))))⟩)
   (λx l=>⟨(z x (Tm _ l)).1,λj c=>(z x (Tm _ l)).2 j (Tm _ c)⟩)
   (λx l=>by
    obtain ⟨g,p⟩:=z x (Tm _ l);have ne:x≠a:=λe=>P (e▸l);have b1:=jU g q;have o:=cY b1;have b2:=jU g v;have b3:=jU q v;have t1:=aO.add s (aO.add s (aO.zero R) (aU (x^^^m) o) (M x (Tm _ l))) (aU (a^^^m) o) E;have e:cA (cA (λ_=>0) (gm (gi (x^^^a)) (x^^^m)) (jk (m::L) u x)) (gm (gi (x^^^a)) (a^^^m)) (jk (m::L) u a)=jk L (λj=>gm (u j) (gm (j^^^m) (gi (a^^^j)))) x:=by
     funext j;show (0^^^gm (gm (gi (x^^^a)) (x^^^m)) (jk (m::L) u x j))^^^gm (gm (gi (x^^^a)) (a^^^m)) (jk (m::L) u a j)=_;rw [Tq];by_cases c:j∈L
     . obtain ⟨c1,A,c3⟩:=C j (Tm _ c);have d1:=p j (Tm _ c);have B:=w j (Tm _ c);unfold jk;rw [if_pos (Tm _ c),if_pos (Tm _ c),if_pos c,aX o b2 (aU _ A),aX o b3 (aU _ A),<- dX,Io g q v c1 A ne d1 B]
     . by_cases H:j=m
       . subst H;unfold jk;have d1:=p j Tn;have B:=w j Tn;have sw:∀ t,t<256->t≠0->gm t (gm (u j) (gi t))=u j:=λt n h=>by
          rw [<- aX n f (cY n),bH n f,aX f n (cY n),jD t n h,cj _ f]
         rw [if_pos Tn,if_pos Tn,if_neg c,aX o b2 (aU _ f),aX o b3 (aU _ f),sw _ b2 (jl d1),sw _ b3 (jl B),Tp]
       . unfold jk;have J:j∉m::L:=(by simp [H,c]);rw [if_neg J,if_neg J,if_neg c,bk,bk,Tp]
    rwa [e] at t1)
  have Z:aO R (dn m):=by
   have key:∀ K:List Nat,(∀ j∈K,j∈L)->K.Nodup->aO R (λj=>if j∈K then 0 else jk (m::L) u a j):=by
    intro K;induction K with
    | nil=>intro _ _;simpa using E
    | cons k K D=>
     intro hK hk;obtain ⟨V,O⟩:=Ts.1 hk;have W:=hK k Tn;have G:jk (m::L) u a k<256:=E.byte k;have t:=aO.add s (D (λj c=>hK j (Tm _ c)) O) G (ih k W);have e:cA (λj=>if j∈K then 0 else jk (m::L) u a j) (jk (m::L) u a k) (dn k)=λj=>if j∈k::K then 0 else jk (m::L) u a j:=by
      funext j;show (if j∈K then 0 else jk (m::L) u a j)^^^gm (jk (m::L) u a k) (if j=k then 1 else 0)=_;by_cases i:j=k
      . subst i;rw [if_neg V,if_pos rfl,cj _ G,Tp,if_pos Tn]
      . rw [if_neg i,bk,Nat.xor_zero];by_cases d:j∈K
        . rw [if_pos d,if_pos (Tm _ d)]
        . rw [if_neg d,if_neg (by simp [i,d])]
     rwa [e] at t
   have t:=key L (λ_ h=>h) F;have b:=jU q v;have ne:=jl (w m Tn);have y:gm (u m) (gi (a^^^m))<256:=aU _ f;have U:gm (u m) (gi (a^^^m))≠0:=Il f (cY b) hp (Im b ne);have t2:=aO.add s (aO.zero R) (cY y) t;have e:cA (λ_=>0) (gi (gm (u m) (gi (a^^^m)))) (λj=>if j∈L then 0 else jk (m::L) u a j)=dn m:=by
    funext j;show 0^^^gm (gi (gm (u m) (gi (a^^^m)))) (if j∈L then 0 else jk (m::L) u a j)=dn m j;rw [Tq];unfold dn jk;by_cases i:j=m
    . subst i;rw [if_neg I,if_pos Tn,if_pos rfl,bH (cY y) y,jD _ y U]
    . rw [if_neg i];by_cases d:j∈L
      . rw [if_pos d,bk]
      . rw [if_neg d,if_neg (by simp [i,d]),bk]
   rwa [e] at t2
  intro j c;rcases List.mem_cons.1 c with rfl|c
  . exact Z
  . exact ih j c
end Go.Proofs.YtfbmmcnpjhmjaaaGreatDoor.Gf
end
