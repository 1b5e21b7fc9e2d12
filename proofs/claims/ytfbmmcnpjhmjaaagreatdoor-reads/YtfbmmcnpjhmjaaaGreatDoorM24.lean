import Derived.Test.YtfbmmcnpjhmjaaaGreatDoorM13
set_option maxRecDepth 100000
set_option maxHeartbeats 8000000
open Nat renaming xor_zero -> Tm, xor_self -> Tn
namespace Go.Proofs.YtfbmmcnpjhmjaaaGreatDoor.Gf
variable {k D P n:Nat} {f:Nat->Nat} {M:Nat->Nat->Nat} {Q:Nat->Prop}
def xs (f:Nat->Nat):Nat->Nat
 | 0=>0
 | n+1=>xs f n^^^f n
theorem dF {g:Nat->Nat}:∀ n,(∀ i,i<n->f i=g i)->xs f n=xs g n
 | 0,_=>rfl
 | n+1,h=>by show xs f n^^^f n=xs g n^^^g n;rw [dF n (λi a=>h i (by omega)),h n (by omega)]
theorem iu (f g:Nat->Nat):∀ n,xs (λi=>f i^^^g i) n=xs f n^^^xs g n
 | 0=>(Tn 0).symm
 | n+1=>by show xs _ n^^^(f n^^^g n)=(xs f n^^^f n)^^^(xs g n^^^g n);rw [iu f g n,Hp]
theorem cW:∀ n,(∀ i,i<n->f i=0)->xs f n=0
 | 0,_=>rfl
 | n+1,h=>by show xs f n^^^f n=0;rw [cW n (λi a=>h i (by omega)),h n (by omega)];rfl
theorem Eb (c:Nat) (f:Nat->Nat):∀ n,xs (λi=>gm c (f i)) n=gm c (xs f n)
 | 0=>(bk c).symm
 | n+1=>by show xs _ n^^^gm c (f n)=gm c (xs f n^^^f n);rw [Eb c f n,dX]
theorem eS:∀ n,k<n->(∀ i,i<n->i≠k->f i=0)->xs f n=f k
 | 0,h,_=>absurd h (by omega)
 | n+1,h,hz=>by
  show xs f n^^^f n=f k;by_cases e:k=n
  . rw [cW n (λi a=>hz i (by omega) (by omega)),e,Nat.zero_xor]
  . rw [eS n (by omega) (λi a=>hz i (by omega)),hz n (by omega) (by omega),Tm]
theorem Ec:∀ n,(∀ i,i<n->f i<256)->xs f n<256
 | 0,_=>by show 0<256;decide
 | n+1,h=>jU (Ec n (λi a=>h i (by omega))) (h n (by omega))
theorem xB (f:Nat->Nat) (a:Nat):∀ b,xs f (a+b)=xs f a^^^xs (λi=>f (a+i)) b
 | 0=>(Tm _).symm
 | b+1=>by show xs f (a+b)^^^f (a+b)=xs f a^^^(xs _ b^^^f (a+b));rw [xB f a b,Nat.xor_assoc]
def qM (M:Nat->Nat->Nat) (D n:Nat) (v:Nat->Nat):Prop:=br v/\(∀ i,n<=i->v i=0)/\∀ j,j<D->xs (λi=>gm (v i) (M i j)) n=0
theorem rV (M:Nat->Nat->Nat) (D n:Nat) (f:∀ i,br (M i)):OV (qM M D n):=by
 refine ⟨⟨λ_=>by show 0<256;decide,λ_ _=>rfl,λj _=>cW n (λi _=>Si _)⟩,?_⟩;rintro a r u b ⟨g,h,k⟩ ⟨u1,u2,u3⟩;refine ⟨uY u1 b,λi c=>?_,λj d=>?_⟩
 . show u i^^^gm a (r i)=0;rw [u2 i c,h i c,bk];rfl
 . have e:xs (λi=>gm (cA u a r i) (M i j)) n=xs (λi=>gm (u i) (M i j)^^^gm a (gm (r i) (M i j))) n:=
    dF n (λi _=>by show gm (u i^^^gm a (r i)) (M i j)=_;rw [dY _ (u1 i) (aU _ b),aX b (g i) (f i j)])
   rw [e,iu,Eb,u3 j d,k j d,bk];rfl
def ck0 (M:Nat->Nat->Nat) (D P:Nat):Ck:=⟨λr j=>if r<P then (if j<D then M (D+r) j else if j=D+r then 1 else 0) else 0,0,P⟩
theorem rW (a:∀ i,br (M i)):uX (ck0 M D P):=λr j=>by
 show (if r<P then _ else _)<256;split
 . split
   . exact a _ _
   . split<;>decide
 . decide
theorem zW (a:∀ i,br (M i)) (d:∀ i,i<D->∀ j,M i j=if j=i then 1 else 0) (k:Nat) (f:k<P):qM M D (D+P) ((ck0 M D P).m k):=by
 have e:∀ i,(ck0 M D P).m k i=if i<D then M (D+k) i else if i=D+k then 1 else 0:=λi=>by show (if k<P then _ else _)=_;rw [if_pos f]
 refine ⟨rW a k,λi b=>by rw [e,if_neg (by omega),if_neg (by omega)],λj c=>?_⟩;rw [xB];have g:xs (λi=>gm ((ck0 M D P).m k i) (M i j)) D=M (D+k) j:=by
  rw [eS (k:=j) D c]
  . rw [e,if_pos c,d j c,if_pos rfl,cj _ (a _ _)]
  . intro i b ne;rw [d i b,if_neg (Ne.symm ne),bk]
 have h:xs (λi=>gm ((ck0 M D P).m k (D+i)) (M (D+i) j)) P=M (D+k) j:=by
  rw [eS (k:=k) P f]
  . rw [e,if_neg (by omega),if_pos rfl,bH (by decide) (a _ _),cj _ (a _ _)]
  . intro i b ne;rw [e,if_neg (by omega),if_neg (by omega),Si]
 rw [g,h,Tn]
theorem rX {R:(Nat->Nat)->Prop} (f:Nat->Nat->Nat) (a:Nat->Nat) (b:br a):∀ n,(∀ i,i<n->a i≠0->R (f i))->aO R (λj=>xs (λi=>gm (a i) (f i j)) n)
 | 0,_=>aO.zero R
 | n+1,h=>by
  have ih:=rX f a b n (λi d=>h i (by omega));by_cases e:a n=0
  . have c:(λj=>xs (λi=>gm (a i) (f i j)) (n+1))=λj=>xs (λi=>gm (a i) (f i j)) n:=by
     funext j;show _^^^gm (a n) (f n j)=_;rw [e,Si,Tm]
    rw [c];exact ih
  . exact ih.step (b n) (h n (by omega) e)
theorem IU (f:∀ i,i<D->∀ j,M i j=if j=i then 1 else 0) {v:Nat->Nat} (n:qM M D (D+P) v):aO (my (ck0 M D P) 0) v:=by
 obtain ⟨d,o,p⟩:=n;have h:=rX (R:=my (ck0 M D P) 0) (ck0 M D P).m (λi=>v (D+i)) (λi=>d _) P (λi a _=>⟨i,Nat.zero_le _,a,rfl⟩);have e:(λj=>xs (λi=>gm (v (D+i)) ((ck0 M D P).m i j)) P)=v:=by
  funext j;by_cases b:j<D
  . have g:xs (λi=>gm (v (D+i)) ((ck0 M D P).m i j)) P=xs (λi=>gm (v (D+i)) (M (D+i) j)) P:=dF P (λi a=>by
     show gm _ (if i<P then _ else _)=_;rw [if_pos a,if_pos b])
    rw [g];have c:=p j b;rw [xB] at c;have l:xs (λi=>gm (v i) (M i j)) D=v j:=by
     rw [eS (k:=j) D b]
     . rw [f j b,if_pos rfl,cj _ (d j)]
     . intro i a ne;rw [f i a,if_neg (Ne.symm ne),bk]
    rw [l] at c;exact (CC c).symm
  . by_cases q:j<D+P
    . rw [eS (k:=j-D) P (by omega)]
      . show gm _ (if j-D<P then _ else _)=_;rw [if_pos (by omega),if_neg b,if_pos (by omega),show D+(j-D)=j by omega,cj _ (d j)]
      . intro i a ne;show gm _ (if i<P then _ else _)=_;rw [if_pos a,if_neg b,if_neg (by omega),bk]
    . rw [o j (by omega)];exact cW P (λi a=>by
       show gm _ (if i<P then _ else _)=_;rw [if_pos a,if_neg b,if_neg (by omega),bk])
 rwa [e] at h
def IV (M:Nat->Nat->Nat) (n:Nat) (Q:Nat->Prop):(Nat->Nat)->Prop:=λv=>∃ i,i<n/\Q i/\v=M i
theorem CD {x:Nat->Nat} (o:aO (IV M n Q) x) :
 ∃ a,br a/\(∀ i,¬ (i<n/\Q i)->a i=0)/\∀ j,x j=xs (λi=>gm (a i) (M i j)) n:=by
 refine o (λx=>∃ a,br a/\(∀ i,¬ (i<n/\Q i)->a i=0)/\∀ j,x j=xs (λi=>gm (a i) (M i j)) n)
  ⟨λ_=>0,λ_=>by show 0<256;decide,λ_ _=>rfl,λj=>(cW n (λi _=>Si _)).symm⟩ ?_
 rintro b r u m ⟨k,k1,k2,rfl⟩ ⟨a,c,g,h⟩;have d:br (λi=>if i=k then b else 0):=λi=>by show (if i=k then b else 0)<256;split;exact m;decide
 refine ⟨λi=>a i^^^(if i=k then b else 0),λi=>jU (c i) (d i),λi f=>?_,λj=>?_⟩
 . have:i≠k:=λe=>f (by rw [e];exact ⟨k1,k2⟩);show a i^^^(if i=k then b else 0)=0;rw [g i f,if_neg this];rfl
 . have e:xs (λi=>gm (a i^^^(if i=k then b else 0)) (M i j)) n=xs (λi=>gm (a i) (M i j)^^^gm (if i=k then b else 0) (M i j)) n:=
    dF n (λi _=>dY _ (c i) (d i))
   rw [e,iu,<- h j];have l:xs (λi=>gm (if i=k then b else 0) (M i j)) n=gm b (M k j):=by
    rw [eS (k:=k) n k1]
    . rw [if_pos rfl]
    . intro i _ ne;rw [if_neg ne,Si]
   rw [l];rfl
theorem xC (f:∀ i,br (M i)) (p:k<n) (o:¬ Q k) (h:aO (IV M n Q) (M k)) :
 ∃ u,qM M D n u/\u k=1/\∀ i,i≠k->¬ Q i->u i=0:=by
 obtain ⟨a,c,b,l⟩:=CD h;have m:a k=0:=b k (λh=>o h.2);have d:br (dn k):=jY k;refine ⟨λi=>a i^^^dn k i,⟨λi=>jU (c i) (d i),λi g=>?_,λj _=>?_⟩,?_,λi g q=>?_⟩
 . show a i^^^(if i=k then 1 else 0)=0;rw [b i (by omega),if_neg (by omega)];rfl
 . have e:xs (λi=>gm (a i^^^dn k i) (M i j)) n=xs (λi=>gm (a i) (M i j)^^^gm (dn k i) (M i j)) n:=dF n (λi _=>dY _ (c i) (d i));rw [e,iu,<- l j,eS (k:=k) n p]
   . show M k j^^^gm (if k=k then 1 else 0) (M k j)=0;rw [if_pos rfl,bH (by decide) (f k j),cj _ (f k j),Tn]
   . intro i _ ne;show gm (if i=k then 1 else 0) (M i j)=0;rw [if_neg ne,Si]
 . show a k^^^(if k=k then 1 else 0)=1;rw [m,if_pos rfl];rfl
 . show a i^^^(if i=k then 1 else 0)=0;rw [b i (λh=>q h.2),if_neg g];rfl
theorem nU (c:∀ i,br (M i)) (g:∀ i j,D<=j->M i j=0) (r:k<n) {u:Nat->Nat} (s:qM M D n u) (o:u k=1) (m:∀ i,i<n->i≠k->u i≠0->Q i) :
 aO (IV M n Q) (M k):=by
 obtain ⟨u1,u2,u3⟩:=s;have p:br (λi=>if i=k then 0 else u i):=λi=>by show (if i=k then 0 else u i)<256;split;decide;exact u1 i
 have h:=rX (R:=IV M n Q) M (λi=>if i=k then 0 else u i) p n (λi d a=>by
  by_cases e:i=k
  . simp [e] at a
  . exact ⟨i,d,m i d e (by simpa [e] using a),rfl⟩)
 have e:(λj=>xs (λi=>gm (if i=k then 0 else u i) (M i j)) n)=M k:=by
  funext j;by_cases q:j<D
  . have l:xs (λi=>gm (u i) (M i j)) n=xs (λi=>gm (if i=k then 0 else u i) (M i j)^^^gm (dn k i) (M i j)) n:=dF n (λi _=>by
     by_cases e:i=k
     . rw [if_pos e,Si,Nat.zero_xor,e,o];show _=gm (if k=k then 1 else 0) _;rw [if_pos rfl]
     . rw [if_neg e];show _=_^^^gm (if i=k then 1 else 0) _;rw [if_neg e,Si,Tm])
    have b:=u3 j q;rw [l,iu,eS (f:=λi=>gm (dn k i) (M i j)) (k:=k) n r] at b
    . have:=CC b;rw [this];show gm (if k=k then 1 else 0) (M k j)=_;rw [if_pos rfl,bH (by decide) (c k j),cj _ (c k j)]
    . intro i _ ne;show gm (if i=k then 1 else 0) (M i j)=0;rw [if_neg ne,Si]
  . rw [g k j (by omega)];exact cW n (λi _=>by rw [g i j (by omega),bk])
 rwa [e] at h
end Go.Proofs.YtfbmmcnpjhmjaaaGreatDoor.Gf
