import Derived.Test.YtfbmmcnpjhmjaaaGreatDoorM24
section
set_option maxRecDepth 100000
set_option maxHeartbeats 8000000
open List renaming getElem_of_mem -> Tm, getElem_mem -> Tn
namespace Go.Proofs.YtfbmmcnpjhmjaaaGreatDoor.Gf
variable {L:List Nat} {D P:Nat} {M:Nat->Nat->Nat}
structure Code (M:Nat->Nat->Nat) (D P:Nat):Prop where
 byt:∀ i,br (M i)
 unit:∀ i,i<D->∀ j,M i j=if j=i then 1 else 0
 nought:∀ i j,D<=j->M i j=0
theorem Code.told (h:Code M D P) (L:List Nat) :
 (∃ C,tells (ck0 M D P) L=some C/\dQ (ck0 M D P) (qM M D (D+P)) L C)\/(tells (ck0 M D P) L=none/\∃ pre i,(pre++[i])<+:L/\∀ v,aO (my (ck0 M D P) 0) v->(∀ j∈pre,v j=0)->v i=0):=by
 have:=dQ.of (rV M D (D+P) h.byt) (C0:=ck0 M D P) rfl (rW h.byt) (λk a=>zW h.byt h.unit k a) L [] (ck0 M D P) (dQ.nil rfl (rW h.byt) (λk a=>zW h.byt h.unit k a)) rfl;simpa using this
theorem Code.full (h:Code M D P) {L:List Nat} {C:Ck} (a:dQ (ck0 M D P) (qM M D (D+P)) L C):rM (IV M (D+P) (λi=>i∉L)) 0 D:=by
 have n:∀ r,IV M (D+P) (λi=>i∉L) r->br r:=by rintro r ⟨i,_,_,rfl⟩;exact h.byt i
 have m:∀ i,i<D+P->aO (IV M (D+P) (λi=>i∉L)) (M i):=by
  intro i f;by_cases g:i∈L
  . obtain ⟨k,d,rfl⟩:=Tm g;have q:k<C.count:=(by have:=a.told;have:=a.le;omega);refine nU h.byt h.nought f (a.all k q) ?_ ?_
    . rw [a.one k d k d,if_pos rfl]
    . intro j _ c b o;obtain ⟨l,p,rfl⟩:=Tm o;rw [a.one k d l p] at b;by_cases e:k=l
      . subst e;exact c rfl
      . rw [if_neg e] at b;exact b rfl
  . exact aO.mem (h.byt i) ⟨i,f,g,rfl⟩
 refine rM.units n (λj c=>?_);have e:M j=dn j:=by funext x;rw [h.unit j c];rfl
 rw [<- e];exact m j (by omega)
theorem Code.not_full (h:Code M D P) {L:List Nat} (c:L.Nodup) (g:∀ i∈L,i<D+P) (k:∃ pre i,(pre++[i])<+:L/\∀ v,aO (my (ck0 M D P) 0) v->(∀ j∈pre,v j=0)->v i=0) :
 ¬ rM (IV M (D+P) (λi=>i∉L)) 0 D:=by
 obtain ⟨pre,i,⟨R,rfl⟩,m⟩:=k;intro f;have d:i∈pre++[i]++R:=by simp
 obtain ⟨u,l,u1,u0⟩:=xC (D:=D) h.byt (g i d) (λb=>b d) (f (M i) (h.byt i) (λj a=>h.nought i j (by omega)));have:=m u (IU h.unit l) (λj a=>u0 j (λe=>by
  subst e;rw [List.append_assoc] at c;have:=(List.nodup_append.1 c).2.2 j a j (by simp);exact this rfl) (λb=>b (by simp [a])))
 rw [u1] at this;exact absurd this (by decide)
structure Fq (M:Nat->Nat->Nat) (D P:Nat) (L:List Nat) (B:Ck):Prop where
 told:B.told=L.length
 le:B.told<=B.count
 most:B.count<=P
 byt:uX B
 dual:∀ k,k<B.told->qM M D (D+P) (B.m k)
 one:∀ k,k<L.length->∀ k' (h:k'<L.length),B.m k L[k']=if k=k' then 1 else 0
theorem Code.plan (h:Code M D P) {L:List Nat} {C B:Ck} (a:dQ (ck0 M D P) (qM M D (D+P)) L C) (n:jG C B):Fq M D P L B:=by
 have i:∀ j∈L,rS C j:=λj l r d c=>((a.spare (C.m r)).1 (aO.mem (a.byt r) ⟨r,d,c,rfl⟩)).2 j l;obtain ⟨b,t,le,q,g,p,_⟩:=n.good (rV M D (D+P) h.byt) a.byt a.le a.all i;have d:=a.told;have c:=a.count;refine ⟨by omega,le,by have:C.count=P:=c;omega,b,λk f=>g k (by omega),λk f o e=>?_⟩;rw [p k (by omega) _ (Tn e),a.one k f o e]
theorem Fq.tells {B:Ck} (d:Code M D P) (h:Fq M D P L B) (o:∀ i∈L,i<D+P):∀ i∈L,aO (IV M (D+P) (λj=>j∉L/\cJ B j=true)) (M i):=by
 intro i f;obtain ⟨k,b,rfl⟩:=Tm f;have c:k<B.told:=by have:=h.told;omega
 refine nU d.byt d.nought (o _ f) (h.dual k c) (by rw [h.one k b k b,if_pos rfl]) ?_;intro j _ n a;refine ⟨λl=>?_,pV c a⟩;obtain ⟨g,m,rfl⟩:=Tm l;rw [h.one k b g m] at a;by_cases e:k=g
 . subst e;exact n rfl
 . rw [if_neg e] at a;exact a rfl
theorem Fq.sum {B:Ck} (s:Code M D P) (h:Fq M D P L B) (x:∀ i∈L,i<D+P) (d:Nat->Nat) (u:br d) (k:Nat) (b:k<L.length) :
 xs (λi=>if i∈L then 0 else gm (B.m k i) (xs (λj=>gm (M i j) (d j)) D)) (D+P)=xs (λj=>gm (M L[k] j) (d j)) D:=by
 have t:k<B.told:=by have:=h.told;omega
 obtain ⟨o,z,y⟩:=h.dual k t;have v:=x _ (Tn b);have r:∀ i,xs (λj=>gm (M i j) (d j)) D<256:=λi=>Ec D (λj _=>aU _ (s.byt i j));have swap:∀ n,xs (λi=>gm (B.m k i) (xs (λj=>gm (M i j) (d j)) D)) n=xs (λj=>gm (xs (λi=>gm (B.m k i) (M i j)) n) (d j)) D:=by
  intro n;induction n with
  | zero=>exact (cW D (λj _=>Si _)).symm
  | succ n ih=>
   show xs _ n^^^gm (B.m k n) (xs (λj=>gm (M n j) (d j)) D)=_;rw [ih,<- Eb,<- iu];apply dF;intro j _;show _=gm (xs _ n^^^gm (B.m k n) (M n j)) (d j);rw [dY _ (Ec n (λi _=>aU _ (o i))) (aU _ (o n)),aX (o n) (s.byt n j) (u j)]
 have l:xs (λi=>gm (B.m k i) (xs (λj=>gm (M i j) (d j)) D)) (D+P)=0:=by
  rw [swap];exact cW D (λj w=>by rw [y j w,Si])
 have e:xs (λi=>gm (B.m k i) (xs (λj=>gm (M i j) (d j)) D)) (D+P)=xs (λi=>(if i∈L then 0 else gm (B.m k i) (xs (λj=>gm (M i j) (d j)) D))^^^(if i=L[k] then xs (λj=>gm (M L[k] j) (d j)) D else 0)) (D+P):=by
  apply dF;intro i _;by_cases c:i∈L
  . obtain ⟨g,q,rfl⟩:=Tm c;rw [if_pos c,Nat.zero_xor,h.one k b g q];by_cases e:L[g]=L[k]
    . rw [if_pos e,e];by_cases a:k=g
      . rw [if_pos a,bH (by decide) (r _),cj _ (r _)]
      . have c1:=h.one k b k b;have p:=h.one k b g q;rw [e,c1,if_pos rfl,if_neg a] at p;exact absurd p (by decide)
    . rw [if_neg e,if_neg (λa=>e (by subst a;rfl)),Si]
  . rw [if_neg c,if_neg (show ¬ i=L[k] from λa=>c (by rw [a];exact Tn b)),Nat.xor_zero]
 rw [e,iu,eS (f:=λi=>if i=L[k] then xs (λj=>gm (M L[k] j) (d j)) D else 0) (k:=L[k]) _ v] at l
 . rw [if_pos rfl] at l;exact CC l
 . intro i _ ne;rw [if_neg ne]
end Go.Proofs.YtfbmmcnpjhmjaaaGreatDoor.Gf
end
section
set_option maxRecDepth 100000
set_option maxHeartbeats 8000000
namespace Go.Proofs.YtfbmmcnpjhmjaaaGreatDoor.Gf
def cp (f:Nat->Bool):Nat->Nat
 | 0=>0
 | n+1=>cp f n+(if f n=true then 1 else 0)
theorem JH (f:Nat->Bool) (a:Nat):∀ b,cp f (a+b)=cp f a+cp (λi=>f (a+i)) b
 | 0=>rfl
 | b+1=>by show cp f (a+b)+(if f (a+b)=true then 1 else 0)=cp f a+(cp _ b+(if f (a+b)=true then 1 else 0));rw [JH f a b,Nat.add_assoc]
theorem vP (f:Nat->Bool):∀ n,((List.range n).filter f).length=cp f n
 | 0=>rfl
 | n+1=>by
  rw [List.range_succ,List.filter_append,List.length_append,vP f n];show _=cp f n+_;congr 1;by_cases h:f n=true
  . simp [h]
  . simp [h]
theorem sJ {f g:Nat->Bool}:∀ n,(∀ i,i<n->f i=g i)->cp f n=cp g n
 | 0,_=>rfl
 | n+1,h=>by show cp f n+_=cp g n+_;rw [sJ n (λi a=>h i (by omega)),h n (by omega)]
theorem JI (f:Nat->Bool):∀ n,cp f n+cp (λi=>!f i) n=n
 | 0=>rfl
 | n+1=>by
  have:=JI f n;show (cp f n+(if f n=true then 1 else 0))+(cp (λi=>!f i) n+(if (!f n)=true then 1 else 0))=n+1;cases h:f n<;>simp<;>omega
end Go.Proofs.YtfbmmcnpjhmjaaaGreatDoor.Gf
end
