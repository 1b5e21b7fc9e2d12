import Derived.Test.YtfbmmcnpjhmjaaaGreatDoorM08
section
set_option maxRecDepth 100000
set_option maxHeartbeats 8000000
open List renaming mem_range -> Tm, find?_eq_none -> Tn, foldl_append -> To, getElem_append_right -> Tp, getElem_append_left -> Tq, getElem_mem -> Tr
namespace Go.Proofs.YtfbmmcnpjhmjaaaGreatDoor.Gf
variable {X:(Nat->Nat)->Prop} {i r a cnt k b:Nat} {m:Nat->Nat->Nat}
structure Ck where
 m:Nat->Nat->Nat
 told:Nat
 count:Nat
def dk (C:Ck) (i:Nat):Option Nat:=(List.range C.count).find? (λr=>decide (C.told<=r)&&decide (C.m r i≠0))
theorem eC {C:Ck} (h:dk C i=some r):C.told<=r/\r<C.count/\C.m r i≠0:=by
 unfold dk at h;have a:=List.find?_some h;have b:=List.mem_of_find?_eq_some h;simp at a b;exact ⟨a.1,b,a.2⟩
theorem nP {C:Ck} (h:dk C i=none) (r:Nat) (a:C.told<=r) (b:r<C.count):C.m r i=0:=by
 unfold dk at h;rw [Tn] at h;have:=h r (Tm.2 b);simp [a] at this;exact this
theorem uv {C:Ck} (a:C.told<=r) (b:r<C.count) (c:C.m r i≠0) (d:∀ k,C.told<=k->k<r->C.m k i=0):dk C i=some r:=by
 unfold dk;rw [List.find?_range_eq_some];refine ⟨by simp [a,c],Tm.2 b,λj e=>?_⟩;by_cases h:C.told<=j
 . simp [d j h e]
 . simp [h]
theorem uw {C:Ck} (h:∀ r,C.told<=r->r<C.count->C.m r i=0):dk C i=none:=by
 unfold dk;rw [Tn];intro r b;by_cases a:C.told<=r
 . simp [h r a (Tm.1 b)]
 . simp [a]
def cF (m:Nat->Nat->Nat) (cnt r i:Nat):Nat->Nat->Nat:=λk j=>if k<cnt/\k≠r then m k j^^^gm (gm (m k i) (gi (m r i))) (m r j) else m k j
def bR (m:Nat->Nat->Nat) (a b:Nat):Nat->Nat->Nat:=λk=>if k=a then m b else if k=b then m a else m k
def dP (m:Nat->Nat->Nat) (r i:Nat):Nat->Nat->Nat:=λk j=>if k=r then gm (m r j) (gi (m r i)) else m k j
def jn (C:Ck) (i r:Nat):Ck:=⟨cF (dP (bR C.m C.told r) C.told i) C.count C.told i,C.told+1,C.count⟩
def gL (C:Ck) (i r:Nat):Ck:=⟨λk=>if k=r then cF C.m C.count r i (C.count-1) else cF C.m C.count r i k,C.told,C.count-1⟩
def jo (C:Ck) (i:Nat):Option Ck:=(dk C i).map (jn C i)
def il (C:Ck) (i:Nat):Option Ck:=(dk C i).map (gL C i)
def uX (C:Ck):Prop:=∀ r,br (C.m r)
def my (C:Ck) (t:Nat):(Nat->Nat)->Prop:=λv=>∃ r,t<=r/\r<C.count/\v=C.m r
theorem uY {u r:Nat->Nat} (c:br u) (b:a<256):br (cA u a r):=λj=>jU (c j) (aU _ b)
theorem gh (h:k<cnt/\k≠r):cF m cnt r i k=cA (m k) (gm (m k i) (gi (m r i))) (m r):=by
 funext j;unfold cF cA;rw [if_pos h]
theorem l8 (h:¬ (k<cnt/\k≠r)):cF m cnt r i k=m k:=by
 funext j;unfold cF;rw [if_neg h]
theorem nQ (h:∀ k,br (m k)) (k:Nat):br (cF m cnt r i k):=by
 by_cases a:k<cnt/\k≠r
 . rw [gh a];exact uY (h k) (aU _ (h k i))
 . rw [l8 a];exact h k
theorem fP (h:∀ k,br (m k)) (k:Nat):br (bR m a b k):=by
 unfold bR;split
 . exact h b
 . split
   . exact h a
   . exact h k
theorem m0 (h:∀ k,br (m k)) (k:Nat):br (dP m r i k):=λj=>by
 unfold dP;split
 . exact aU _ (h r j)
 . exact h k j
theorem Fl {C:Ck} (h:uX C):uX (jn C i r):=nQ (m0 (fP h))
theorem m3 {C:Ck} (h:uX C):uX (gL C i r):=λk=>by
 show br (if k=r then _ else _);split
 . exact nQ h _
 . exact nQ h _
theorem uZ {C:Ck} (h:uX C) (t:Nat):∀ r,my C t r->br r:=by
 rintro r ⟨k,_,_,rfl⟩;exact h k
theorem Cy {x y:Nat} (a:x<256) (b:y<256) (h:y≠0):x^^^gm (gm x (gi y)) y=0:=rJ a b h
theorem Cz {C:Ck} {t:Nat} (b:uX C) (u:t<=C.told) (o:C.told<=r) (n:r<C.count) (g:C.m r i≠0) (v:Nat->Nat) :
 aO (my (gL C i r) t) v↔aO (my C t) v/\v i=0:=by
 refine aO.worked (p:=C.m r) (uZ b t) ⟨r,by omega,n,rfl⟩ g ?_ ?_ v
 . rintro q ⟨k,k1,k2,rfl⟩;have s:k<C.count-1:=k2;have key:∀ a,t<=a->a<C.count->a≠r->∃ q f,my C t q/\f<256/\cF C.m C.count r i a=cA q f (C.m r)/\cF C.m C.count r i a i=0:=by
    intro a j c d;refine ⟨C.m a,gm (C.m a i) (gi (C.m r i)),⟨a,j,c,rfl⟩,aU _ (b a i),gh ⟨c,d⟩,?_⟩;rw [gh ⟨c,d⟩];exact Cy (b a i) (b r i) g
   show ∃ q f,my C t q/\f<256/\(if k=r then cF C.m C.count r i (C.count-1) else cF C.m C.count r i k)=cA q f (C.m r)/\(if k=r then cF C.m C.count r i (C.count-1) else cF C.m C.count r i k) i=0;by_cases e:k=r
   . rw [if_pos e];exact key (C.count-1) (by omega) (by omega) (by omega)
   . rw [if_neg e];exact key k k1 (by omega) e
 . rintro q ⟨k,k1,k2,rfl⟩;by_cases e:k=r
   . left;rw [e]
   . right;have l:cF C.m C.count r i k=cA (C.m k) (gm (C.m k i) (gi (C.m r i))) (C.m r):=gh ⟨k2,e⟩;refine ⟨gm (C.m k i) (gi (C.m r i)),cF C.m C.count r i k,aU _ (b k i),?_,?_⟩
     . by_cases h:k=C.count-1
       . refine ⟨r,by omega,by show r<C.count-1;omega,?_⟩;show _=(if r=r then cF C.m C.count r i (C.count-1) else cF C.m C.count r i r);rw [if_pos rfl,h]
       . refine ⟨k,k1,by show k<C.count-1;omega,?_⟩;show _=(if k=r then cF C.m C.count r i (C.count-1) else cF C.m C.count r i k);rw [if_neg e]
     . rw [l,ig]
theorem CA {C:Ck} (c:k<C.told) (a:C.told<=r) (b:r<C.count):(gL C i r).m k=cA (C.m k) (gm (C.m k i) (gi (C.m r i))) (C.m r):=by
 show (if k=r then cF C.m C.count r i (C.count-1) else cF C.m C.count r i k)=_;rw [if_neg (by omega),gh ⟨by omega,by omega⟩]
theorem Nw:gi 1=1:=by decide +kernel
theorem nR {C:Ck} (c:uX C) (p:k<C.count) (d:k≠C.told) (o:C.m r i≠0) :
 (jn C i r).m k=cA (bR C.m C.told r k) (gm (bR C.m C.told r k i) (gi (C.m r i))) (C.m r):=by
 have h:bR C.m C.told r C.told=C.m r:=by unfold bR;rw [if_pos rfl]
 have l:dP (bR C.m C.told r) C.told i k=bR C.m C.told r k:=by funext j;unfold dP;rw [if_neg d]
 have n:dP (bR C.m C.told r) C.told i C.told=λj=>gm (C.m r j) (gi (C.m r i)):=by funext j;unfold dP;rw [if_pos rfl,h]
 show cF (dP (bR C.m C.told r) C.told i) C.count C.told i k=_;rw [gh ⟨p,d⟩,l,n];funext j;show _^^^gm (gm _ (gi (gm (C.m r i) (gi (C.m r i))))) (gm (C.m r j) (gi (C.m r i)))=_^^^gm (gm _ (gi (C.m r i))) (C.m r j);have g:=fP (a:=C.told) (b:=r) c k i;have f:=c r i;have e:=cY f;rw [jD _ f o,Nw,cj _ g,bH (c r j) e,<- aX g e (c r j)]
theorem zS {C:Ck}:(jn C i r).m C.told=λj=>gm (C.m r j) (gi (C.m r i)):=by
 have a:bR C.m C.told r C.told=C.m r:=by unfold bR;rw [if_pos rfl]
 show cF (dP (bR C.m C.told r) C.told i) C.count C.told i C.told=_;rw [l8 (by omega)];funext j;unfold dP;rw [if_pos rfl,a]
theorem nS (c:k≠a) (d:k≠b):bR m a b k=m k:=by unfold bR;rw [if_neg c,if_neg d]
theorem Fm {C:Ck} (b:uX C) (o:C.told<=r) (n:r<C.count) (g:C.m r i≠0) (v:Nat->Nat) :
 aO (my (jn C i r) (C.told+1)) v↔aO (my C C.told) v/\v i=0:=by
 have s:∀ k,C.told+1<=k->k<C.count->∃ a,C.told<=a/\a<C.count/\a≠r/\bR C.m C.told r k=C.m a:=by
  intro k f c;by_cases e:k=r
  . refine ⟨C.told,by omega,by omega,by omega,?_⟩;unfold bR;rw [if_neg (by omega),if_pos e]
  . exact ⟨k,by omega,c,e,nS (by omega) e⟩
 refine aO.worked (p:=C.m r) (uZ b _) ⟨r,o,n,rfl⟩ g ?_ ?_ v
 . rintro q ⟨k,k1,k2,rfl⟩;have l:k<C.count:=k2;obtain ⟨a,f,c,t,e⟩:=s k k1 l;have d:=nR (i:=i) (r:=r) b l (by omega) g;rw [e] at d;refine ⟨C.m a,gm (C.m a i) (gi (C.m r i)),⟨a,f,c,rfl⟩,aU _ (b a i),d,?_⟩;rw [d];exact Cy (b a i) (b r i) g
 . rintro q ⟨k,k1,k2,rfl⟩;by_cases e:k=r
   . left;rw [e]
   . right;have h:∃ a,C.told+1<=a/\a<C.count/\bR C.m C.told r a=C.m k:=by
      by_cases j:k=C.told
      . refine ⟨r,by omega,n,?_⟩;unfold bR;rw [if_neg (by omega),if_pos rfl,j]
      . exact ⟨k,by omega,k2,nS j e⟩
     obtain ⟨a,f,c,ge⟩:=h;have d:=nR (i:=i) (r:=r) b c (by omega) g;rw [ge] at d;refine ⟨gm (C.m k i) (gi (C.m r i)),(jn C i r).m a,aU _ (b k i),⟨a,f,c,rfl⟩,?_⟩;rw [d,ig]
def OV (X:(Nat->Nat)->Prop):Prop:=X (λ_=>0)/\∀ a r u,a<256->X r->X u->X (cA u a r)
theorem Fo (c:OV X) {C:Ck} {i r:Nat} (d:uX C) (b:r<C.count) (h:∀ k,k<C.count->X (C.m k)):∀ k,k<(gL C i r).count->X ((gL C i r).m k):=by
 have key:∀ k,k<C.count->X (cF C.m C.count r i k):=by
  intro k a;by_cases e:k=r
  . rw [l8 (by omega)];exact h k a
  . rw [gh ⟨a,e⟩];exact c.2 _ _ _ (aU _ (d k i)) (h r b) (h k a)
 intro k a;have f:k<C.count-1:=a;show X (if k=r then _ else _);split
 . exact key _ (by omega)
 . exact key _ (by omega)
theorem IT (c:OV X) {C:Ck} {i r:Nat} (a:uX C) (n:C.told<=r) (b:r<C.count) (f:C.m r i≠0) (h:∀ k,k<C.count->X (C.m k)):∀ k,k<(jn C i r).count->X ((jn C i r).m k):=by
 intro k g;have d:k<C.count:=g;by_cases e:k=C.told
 . rw [e,zS];have l:X (cA (λ_=>0) (gi (C.m r i)) (C.m r)):=c.2 _ _ _ (cY (a r i)) (h r b) c.1;have e:cA (λ_=>0) (gi (C.m r i)) (C.m r)=λj=>gm (C.m r j) (gi (C.m r i)):=by
    funext j;show 0^^^gm (gi (C.m r i)) (C.m r j)=_;rw [Nat.zero_xor,bH (cY (a r i)) (a r j)]
   rwa [e] at l
 . rw [nR a d e f];refine c.2 _ _ _ (aU _ (fP a _ _)) (h r b) ?_;unfold bR;split
   . exact h r b
   . split
     . exact h _ (by omega)
     . exact h k d
def tells (C:Ck) (L:List Nat):Option Ck:=L.foldl (λo i=>o.bind (λc=>jo c i)) (some C)
theorem im (C:Ck) (L:List Nat) (i:Nat):tells C (L++[i])=(tells C L).bind (λc=>jo c i):=by unfold tells;rw [To];rfl
theorem iW (C:Ck) (L b:List Nat) (h:tells C L=none):tells C (L++b)=none:=by
 unfold tells at *;rw [To,h];induction b with
 | nil=>rfl
 | cons a l ih=>exact ih
structure dQ (C0:Ck) (X:(Nat->Nat)->Prop) (L:List Nat) (C:Ck):Prop where
 told:C.told=L.length
 count:C.count=C0.count
 le:C.told<=C.count
 byt:uX C
 all:∀ k,k<C.count->X (C.m k)
 one:∀ k,k<L.length->∀ k' (h:k'<L.length),C.m k L[k']=if k=k' then 1 else 0
 spare:∀ v,aO (my C C.told) v↔aO (my C0 0) v/\∀ i∈L,v i=0
theorem dQ.nil {C0:Ck} (a:C0.told=0) (c:uX C0) (b:∀ k,k<C0.count->X (C0.m k)):dQ C0 X [] C0:=
 ⟨a,rfl,by omega,c,b,λk d=>absurd d (by simp),λv=>by rw [a];simp⟩
theorem dQ.snoc {C0 C C':Ck} {L:List Nat} (y:OV X) (h:dQ C0 X L C) (s:jo C i=some C'):dQ C0 X (L++[i]) C':=by
 unfold jo at s;rw [Option.map_eq_some_iff] at s;obtain ⟨r,A,rfl⟩:=s;obtain ⟨p,q,g⟩:=eC A;have t:∀ j,j∈L->C.m r j=0:=λj d=>((h.spare (C.m r)).1 (aO.mem (h.byt r) ⟨r,p,q,rfl⟩)).2 j d;have u:=h.told;refine ⟨?_,h.count,by show C.told+1<=C.count;omega,Fl h.byt,IT y h.byt p q g h.all,?_,?_⟩
 . show C.told+1=_;simp [u]
 . intro k z f x;simp at z x;by_cases e:k=L.length
   . have w:k=C.told:=(by omega);rw [w,zS];by_cases n:f=L.length
     . subst n;rw [Tp (by omega)];simp [u,jD _ (h.byt r i) g]
     . have l:f<L.length:=(by omega);rw [Tq l];show gm (C.m r L[f]) _=_;rw [t _ (Tr l),Si,if_neg (by omega)]
   . have l:k<L.length:=(by omega);rw [nR h.byt (by omega) (by omega) g,nS (by omega) (by omega)];by_cases n:f=L.length
     . subst n;rw [Tp (by omega)];simp only [Nat.sub_self,List.getElem_singleton];show C.m k i^^^gm (gm (C.m k i) (gi (C.m r i))) (C.m r i)=_;rw [Cy (h.byt k i) (h.byt r i) g,if_neg e]
     . have o:f<L.length:=(by omega);rw [Tq o];show C.m k L[f]^^^gm _ (C.m r L[f])=_;rw [t _ (Tr o),bk,Nat.xor_zero,h.one k l f o]
 . intro v;have:=Fm (i:=i) h.byt p q g v;show aO (my (jn C i r) (C.told+1)) v↔_;rw [this,h.spare v];constructor
   . rintro ⟨⟨a,b⟩,c⟩;exact ⟨a,λj d=>by rcases List.mem_append.1 d with d|d;exact b j d;rw [List.mem_singleton.1 d];exact c⟩
   . rintro ⟨a,b⟩;exact ⟨⟨a,λj d=>b j (List.mem_append_left _ d)⟩,b i (by simp)⟩
theorem dQ.of {C0:Ck} (f:OV X) (l:C0.told=0) (o:uX C0) (n:∀ k,k<C0.count->X (C0.m k)):∀ (a L:List Nat) (C:Ck),dQ C0 X L C->tells C0 L=some C ->
 (∃ b,tells C0 (L++a)=some b/\dQ C0 X (L++a) b)\/(tells C0 (L++a)=none/\∃ pre i,(pre++[i])<+:(L++a)/\∀ v,aO (my C0 0) v->(∀ j∈pre,v j=0)->v i=0)
 | [],L,C,h,e=>.inl ⟨C,by simpa using e,by simpa using h⟩
 | i::a,L,C,h,e=>by
  have c:L++i::a=(L++[i])++a:=by simp
  cases ht:jo C i with
  | none=>
   right;have d:tells C0 (L++[i])=none:=(by rw [im,e];exact ht);refine ⟨by rw [c];exact iW _ _ _ d,L,i,by rw [c];exact List.prefix_append _ _,?_⟩;intro v s t;have p:dk C i=none:=by
    unfold jo at ht;exact Option.map_eq_none_iff.1 ht
   exact aO.nought (λr q=>by obtain ⟨k,k1,k2,rfl⟩:=q;exact nP p k k1 k2) ((h.spare v).2 ⟨s,t⟩)
  | some b=>
   have g:=h.snoc f ht;have d:tells C0 (L++[i])=some b:=(by rw [im,e];exact ht);rw [c];exact dQ.of f l o n a (L++[i]) b g d
end Go.Proofs.YtfbmmcnpjhmjaaaGreatDoor.Gf
end
section
set_option maxRecDepth 100000
set_option maxHeartbeats 8000000
open Nat renaming le_refl -> Tm, le_trans -> Tn
open List renaming mem_range -> To, foldl_cons -> Tp
namespace Go.Proofs.YtfbmmcnpjhmjaaaGreatDoor.Gf
variable {i s j:Nat}
def cJ (C:Ck) (i:Nat):Bool:=(List.range C.told).any (λr=>decide (C.m r i≠0))
theorem gM {C:Ck}:cJ C i=false↔∀ r,r<C.told->C.m r i=0:=by
 unfold cJ;rw [List.any_eq_false];constructor
 . intro h r a;have:=h r (To.2 a);simpa using this
 . intro h r a;simp [h r (To.1 a)]
theorem pV {C:Ck} {r:Nat} (a:r<C.told) (b:C.m r i≠0):cJ C i=true:=by
 cases h:cJ C i with
 | true=>rfl
 | false=>exact absurd (gM.1 h r a) b
def iq (K:List Nat) (C:Ck):Nat:=(K.filter (cJ C)).length
abbrev cC:=Ck×Nat
def eZ (K:List Nat) (s:cC) (C:Ck):cC:=if iq K C=0\/iq K C<s.2 then (C,iq K C) else s
def ae (s:Nat):List Nat:=(List.range 16).filter (λi=>s.testBit i)
def bL (s i:Nat):Nat:=s/2^(i+1)*2^(i+1)
theorem lx (s i j:Nat):(bL s i).testBit j=(decide (i<j)&&s.testBit j):=by
 unfold bL;rw [Nat.testBit_mul_two_pow];by_cases h:i+1<=j
 . simp only [Nat.testBit_div_two_pow];rw [show j-(i+1)+(i+1)=j by omega];simp [h,show i<j by omega]
 . simp [h,show ¬ i<j by omega]
theorem pW (s:Nat):(ae s).Pairwise (· < ·):=(List.pairwise_lt_range (n:=16)).filter _
theorem bM:i∈ae s↔i<16/\s.testBit i=true:=by unfold ae;rw [List.mem_filter,To]
theorem zT {pre R:List Nat} (h:ae s=pre++i::R):ae (bL s i)=R:=by
 have e:ae (bL s i)=(ae s).filter (λj=>decide (i<j)):=by
  unfold ae;rw [List.filter_filter];apply List.filter_congr;intro j _;rw [lx]
 have b:=pW s;rw [h] at b;rw [e,h,List.filter_append,List.filter_cons];obtain ⟨l,f,g⟩:=List.pairwise_append.1 b;obtain ⟨k,m⟩:=List.pairwise_cons.1 f;have c:pre.filter (λj=>decide (i<j))=[]:=List.filter_eq_nil_iff.2 (λj a=>by have:=g j a i (by simp);simp;omega);have d:R.filter (λj=>decide (i<j))=R:=List.filter_eq_self.2 (λj a=>by have:=k j a;simp;omega);rw [c,d];simp
def gN (rec:Ck->Nat->Nat->cC->cC) (C:Ck) (of:Nat) (a:Nat×cC×Bool) (i:Nat):Nat×cC×Bool:=
 if a.2.2=true then a else if ¬ a.1<a.2.1.2 then (a.1,a.2.1,true) else
  match il C i with
  | none=>a
  | some C'=>(a.1+1,rec C' (bL of i) a.1 a.2.1,false)
def ir (K:List Nat):Nat->Ck->Nat->Nat->cC->cC
 | 0,C,of,p,st=>((ae of).foldl (gN (λ_ _ _ s=>s) C of) (p,eZ K st C,false)).2.1
 | n+1,C,of,p,st=>((ae of).foldl (gN (ir K n) C of) (p,eZ K st C,false)).2.1
def xu (K:List Nat):Nat->Ck->Nat->Nat->cC->cC
 | 0=>λ_ _ _ s=>s
 | n+1=>ir K n
theorem oY (K:List Nat) (n:Nat) (C:Ck) (of p:Nat) (st:cC):ir K n C of p st=((ae of).foldl (gN (xu K n) C of) (p,eZ K st C,false)).2.1:=by
 cases n<;>rfl
theorem zU (K:List Nat) (s:cC) (C:Ck):(eZ K s C).2<=s.2:=by
 unfold eZ;split
 . show iq K C<=s.2;omega
 . exact Tm _
theorem Fp (K:List Nat) (s:cC) (C:Ck):(eZ K s C).2<=iq K C:=by
 unfold eZ;split
 . exact Tm _
 . show s.2<=iq K C;omega
theorem Ls {rec:Ck->Nat->Nat->cC->cC} (h:∀ C of p s,(rec C of p s).2<=s.2) (C:Ck) (of:Nat) (a:Nat×cC×Bool) (i:Nat):(gN rec C of a i).2.1.2<=a.2.1.2:=by
 unfold gN;split
 . exact Tm _
 . split
   . exact Tm _
   . split
     . exact Tm _
     . exact h _ _ _ _
theorem nT {rec:Ck->Nat->Nat->cC->cC} (h:∀ C of p s,(rec C of p s).2<=s.2) (C:Ck) (of:Nat):∀ (L:List Nat) (a:Nat×cC×Bool),(L.foldl (gN rec C of) a).2.1.2<=a.2.1.2
 | [],_=>Tm _
 | i::L,a=>Tn (nT h C of L (gN rec C of a i)) (Ls h C of a i)
theorem ve (K:List Nat):∀ n C of p s,(ir K n C of p s).2<=s.2
 | 0,C,of,_,s=>Tn (nT (λ_ _ _ _=>Tm _) C of _ _) (zU K s C)
 | n+1,C,of,_,s=>Tn (nT (ve K n) C of _ _) (zU K s C)
theorem Lt (K:List Nat) (n:Nat):∀ C of p s,(xu K n C of p s).2<=s.2:=by
 cases n with
 | zero=>exact λ_ _ _ _=>Tm _
 | succ n=>exact ve K n
theorem vh (rec:Ck->Nat->Nat->cC->cC) (C:Ck) (of:Nat) (p:Nat) (s:cC):∀ L:List Nat,L.foldl (gN rec C of) (p,s,true)=(p,s,true)
 | []=>rfl
 | i::L=>by
  have e:gN rec C of (p,s,true) i=(p,s,true):=by unfold gN;rw [if_pos rfl]
  rw [Tp,e];exact vh rec C of p s L
def rS (C:Ck) (j:Nat):Prop:=∀ r,C.told<=r->r<C.count->C.m r j=0
theorem rS.span {C:Ck} (h:rS C j) {v:Nat->Nat} (b:aO (my C C.told) v):v j=0:=
 aO.nought (λr a=>by obtain ⟨k,k1,k2,rfl⟩:=a;exact h k k1 k2) b
theorem gj {C C':Ck} (h:il C i=some C'):∃ r,C'=gL C i r/\C.told<=r/\r<C.count/\C.m r i≠0:=by
 unfold il at h;rw [Option.map_eq_some_iff] at h;obtain ⟨r,d,rfl⟩:=h;obtain ⟨a,b,c⟩:=eC d;exact ⟨r,rfl,a,b,c⟩
theorem CB {C C':Ck} (b:uX C) (h:il C i=some C') (a:rS C j\/j=i):rS C' j:=by
 obtain ⟨r,rfl,c,d,e⟩:=gj h;intro k k1 k2;have:=(Cz (t:=C.told) b (Tm _) c d e ((gL C i r).m k)).1 (aO.mem (m3 b k) ⟨k,k1,k2,rfl⟩);rcases a with a|rfl
 . exact a.span this.1
 . exact this.2
theorem CC {x y:Nat} (h:x^^^y=0):x=y:=by
 have:=congrArg (·^^^y) h;simp only [Nat.zero_xor] at this;rwa [Nat.xor_assoc,Nat.xor_self,Nat.xor_zero] at this
inductive jG (C:Ck):Ck->Prop
 | refl:jG C C
 | step {C1 C2:Ck} {i:Nat}:jG C C1->il C1 i=some C2->jG C C2
theorem jG.trans {A B C:Ck} (h:jG A B) (a:jG B C):jG A C:=by
 induction a with
 | refl=>exact h
 | step _ b ih=>exact .step ih b
def rT (K:List Nat) (C:Ck) (s s':cC):Prop:=s'=s\/(jG C s'.1/\s'.2=iq K s'.1)
theorem zV (K:List Nat) (s:cC) (C:Ck):rT K C s (eZ K s C):=by
 unfold eZ;split
 . exact .inr ⟨.refl,rfl⟩
 . exact .inl rfl
theorem rU {K:List Nat} {rec:Ck->Nat->Nat->cC->cC} (h:∀ C of p s,rT K C s (rec C of p s)) (C:Ck) (of:Nat):∀ (L:List Nat) (a:Nat×cC×Bool),rT K C a.2.1 (L.foldl (gN rec C of) a).2.1
 | [],_=>.inl rfl
 | i::L,a=>by
  have d:rT K C a.2.1 (gN rec C of a i).2.1:=by
   unfold gN;split
   . exact .inl rfl
   . split
     . exact .inl rfl
     . split
       . exact .inl rfl
       . rename_i c g
         rcases h c (bL of i) a.1 a.2.1 with e|⟨b,f⟩
         . exact .inl e
         . exact .inr ⟨jG.trans (.step .refl g) b,f⟩
  rcases rU h C of L (gN rec C of a i) with e|b
  . rw [Tp,e];exact d
  . exact .inr b
theorem xw (K:List Nat):∀ n C of p s,rT K C s (ir K n C of p s):=by
 have comb:∀ {rec:Ck->Nat->Nat->cC->cC} (_:∀ C of p s,rT K C s (rec C of p s)) C of p s,rT K C s ((ae of).foldl (gN rec C of) (p,eZ K s C,false)).2.1:=by
  intro rec h C of p s;rcases rU h C of (ae of) (p,eZ K s C,false) with e|a
  . rw [e];exact zV K s C
  . exact .inr a
 intro n;induction n with
 | zero=>exact comb (λ_ _ _ _=>.inl rfl)
 | succ n ih=>exact comb ih
def aS (n:Nat) (C:Ck) (kept:Nat):cC:=ir (ae kept) n C kept 0 (C,(ae kept).length)
theorem Lu (K:List Nat) (C:Ck):iq K C<=K.length:=List.length_filter_le _ _
theorem xA (n:Nat) (C:Ck) (kept:Nat):jG C (aS n C kept).1/\(aS n C kept).2=iq (ae kept) (aS n C kept).1:=by
 rcases xw (ae kept) n C kept 0 (C,(ae kept).length) with e|h
 . have a:(aS n C kept).2<=iq (ae kept) C:=by
    unfold aS;rw [oY];exact Tn (nT (Lt _ n) C kept _ _) (Fp _ _ C)
   have b:aS n C kept=(C,(ae kept).length):=e;rw [b] at a ⊢;exact ⟨.refl,Nat.le_antisymm a (Lu _ _)⟩
 . exact h
theorem jG.good {C C':Ck} {X:(Nat->Nat)->Prop} {L:List Nat} (q:OV X) (v:jG C C') (s:uX C) (o:C.told<=C.count) (n:∀ k,k<C.count->X (C.m k))
 (p:∀ j∈L,rS C j) :
 uX C'/\C'.told=C.told/\C'.told<=C'.count/\C'.count<=C.count/\(∀ k,k<C'.count->X (C'.m k))/\(∀ k,k<C.told->∀ j∈L,C'.m k j=C.m k j)/\∀ j∈L,rS C' j:=by
 induction v with
 | refl=>exact ⟨s,rfl,o,Tm _,n,λ_ _ _ _=>rfl,p⟩
 | step _ g ih=>
  obtain ⟨b,t,le,y,l,w,h⟩:=ih;rename_i c x i _
  obtain ⟨r,a,f,e,z⟩:=gj g;refine ⟨by rw [a];exact m3 b,by rw [a];exact t,by rw [a];show c.told<=c.count-1;omega,by rw [a];show c.count-1<=_;omega,by rw [a];exact Fo q b e l,?_,λj d=>CB b g (.inl (h j d))⟩;intro k u j d;rw [a,CA (by omega) f e];show c.m k j^^^gm _ (c.m r j)=_;rw [h j d r f e,bk,Nat.xor_zero,w k u j d]
end Go.Proofs.YtfbmmcnpjhmjaaaGreatDoor.Gf
end
