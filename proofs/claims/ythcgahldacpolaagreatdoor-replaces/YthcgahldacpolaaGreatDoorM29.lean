import Derived.Test.YthcgahldacpolaaGreatDoorM11
set_option maxRecDepth 100000
set_option maxHeartbeats 8000000
namespace Go.Proofs.YthcgahldacpolaaGreatDoor.Gf
variable {k D P:Nat} {f:Nat→Nat} {M:Nat→Nat→Nat}
def xs (f:Nat→Nat):Nat→Nat
 | 0=>0
 | n+1=>xs f n^^^f n
theorem xs_congr {g:Nat→Nat}:∀ n,(∀ i,i < n→f i=g i)→xs f n=xs g n
 | 0,_=>rfl
 | n+1,h=>by show xs f n^^^f n=xs g n^^^g n;rw [xs_congr n (fun i hi=>h i (by omega)),h n (by omega)]
theorem xs_xor (f g:Nat→Nat):∀ n,xs (fun i=>f i^^^g i) n=xs f n^^^xs g n
 | 0=>(Nat.xor_self 0).symm
 | n+1=>by show xs _ n^^^(f n^^^g n)=(xs f n^^^f n)^^^(xs g n^^^g n);rw [xs_xor f g n,xor4]
theorem xs_nought:∀ n,(∀ i,i < n→f i=0)→xs f n=0
 | 0,_=>rfl
 | n+1,h=>by show xs f n^^^f n=0;rw [xs_nought n (fun i hi=>h i (by omega)),h n (by omega)];rfl
theorem xs_gm (c:Nat) (f:Nat→Nat):∀ n,xs (fun i=>gm c (f i)) n=gm c (xs f n)
 | 0=>(gm_zero c).symm
 | n+1=>by show xs _ n^^^gm c (f n)=gm c (xs f n^^^f n);rw [xs_gm c f n,gm_add]
theorem xs_one:∀ n,k < n→(∀ i,i < n→i≠k→f i=0)→xs f n=f k
 | 0,h,_=>absurd h (by omega)
 | n+1,h,hz=>by
  show xs f n^^^f n=f k
  by_cases e:k=n
  · rw [xs_nought n (fun i hi=>hz i (by omega) (by omega)),e,Nat.zero_xor]
  · rw [xs_one n (by omega) (fun i hi=>hz i (by omega)),hz n (by omega) (by omega),Nat.xor_zero]
theorem xs_lt:∀ n,(∀ i,i < n→f i < 256)→xs f n < 256
 | 0,_=>by show 0 < 256;decide
 | n+1,h=>xlt (xs_lt n (fun i hi=>h i (by omega))) (h n (by omega))
theorem xs_add (f:Nat→Nat) (a:Nat):∀ b,xs f (a+b)=xs f a^^^xs (fun i=>f (a+i)) b
 | 0=>(Nat.xor_zero _).symm
 | b+1=>by show xs f (a+b)^^^f (a+b)=xs f a^^^(xs _ b^^^f (a+b));rw [xs_add f a b,Nat.xor_assoc]
def Dual (M:Nat→Nat→Nat) (D n:Nat) (v:Nat→Nat):Prop:=byteV v∧(∀ i,n≤i→v i=0)∧∀ j,j < D→xs (fun i=>gm (v i) (M i j)) n=0
theorem dual_lin (M:Nat→Nat→Nat) (D n:Nat) (hM:∀ i,byteV (M i)):Lin (Dual M D n):=by
 refine ⟨⟨fun _=>by show 0 < 256;decide,fun _ _=>rfl,fun j _=>xs_nought n (fun i _=>zero_gm _)⟩,?_⟩
 rintro a r u ha ⟨r1,r2,r3⟩ ⟨u1,u2,u3⟩
 refine ⟨addV_byte u1 ha,fun i hi=>?_,fun j hj=>?_⟩
 · show u i^^^gm a (r i)=0;rw [u2 i hi,r2 i hi,gm_zero];rfl
 · have e:xs (fun i=>gm (addV u a r i) (M i j)) n=xs (fun i=>gm (u i) (M i j)^^^gm a (gm (r i) (M i j))) n:=
    xs_congr n (fun i _=>by show gm (u i^^^gm a (r i)) (M i j)=_;rw [add_gm _ (u1 i) (gm_lt _ ha),gm_assoc ha (r1 i) (hM i j)])
   rw [e,xs_xor,xs_gm,u3 j hj,r3 j hj,gm_zero];rfl
def ck0 (M:Nat→Nat→Nat) (D P:Nat):Ck:=⟨fun r j=>if r < P then (if j < D then M (D+r) j else if j=D+r then 1 else 0) else 0,0,P⟩
theorem ck0_byte (hM:∀ i,byteV (M i)):Byt (ck0 M D P):=fun r j=>by
 show (if r < P then _ else _) < 256
 split
 · split
   · exact hM _ _
   · split <;> decide
 · decide
theorem ck0_dual (hM:∀ i,byteV (M i)) (hU:∀ i,i < D→∀ j,M i j=if j=i then 1 else 0) (k:Nat) (hk:k < P):Dual M D (D+P) ((ck0 M D P).m k):=by
 have e:∀ i,(ck0 M D P).m k i=if i < D then M (D+k) i else if i=D+k then 1 else 0:=fun i=>by show (if k < P then _ else _)=_;rw [if_pos hk]
 refine ⟨ck0_byte hM k,fun i hi=>by rw [e,if_neg (by omega),if_neg (by omega)],fun j hj=>?_⟩
 rw [xs_add]
 have e1:xs (fun i=>gm ((ck0 M D P).m k i) (M i j)) D=M (D+k) j:=by
  rw [xs_one (k:=j) D hj]
  · rw [e,if_pos hj,hU j hj,if_pos rfl,gm_one _ (hM _ _)]
  · intro i hi ne
    rw [hU i hi,if_neg (Ne.symm ne),gm_zero]
 have e2:xs (fun i=>gm ((ck0 M D P).m k (D+i)) (M (D+i) j)) P=M (D+k) j:=by
  rw [xs_one (k:=k) P hk]
  · rw [e,if_neg (by omega),if_pos rfl,gm_comm (by decide) (hM _ _),gm_one _ (hM _ _)]
  · intro i hi ne
    rw [e,if_neg (by omega),if_neg (by omega),zero_gm]
 rw [e1,e2,Nat.xor_self]
theorem span_sum {R:(Nat→Nat)→Prop} (f:Nat→Nat→Nat) (a:Nat→Nat) (ha:byteV a):∀ n,(∀ i,i < n→a i≠0→R (f i))→Span R (fun j=>xs (fun i=>gm (a i) (f i j)) n)
 | 0,_=>Span.zero R
 | n+1,h=>by
  have ih:=span_sum f a ha n (fun i hi=>h i (by omega))
  by_cases e:a n=0
  · have e2:(fun j=>xs (fun i=>gm (a i) (f i j)) (n+1))=fun j=>xs (fun i=>gm (a i) (f i j)) n:=by
     funext j;show _^^^gm (a n) (f n j)=_;rw [e,zero_gm,Nat.xor_zero]
    rw [e2];exact ih
  · exact ih.step (ha n) (h n (by omega) e)
def Sel (M:Nat→Nat→Nat) (n:Nat) (Q:Nat→Prop):(Nat→Nat)→Prop:=fun v=>∃ i,i < n∧Q i∧v=M i
theorem span_of_dual {n:Nat} {Q:Nat→Prop} (hM:∀ i,byteV (M i)) (hz:∀ i j,D≤j→M i j=0) (hk:k < n) {u:Nat→Nat} (hu:Dual M D n u) (h1:u k=1) (h0:∀ i,i < n→i≠k→u i≠0→Q i) :
 Span (Sel M n Q) (M k):=by
 obtain ⟨u1,u2,u3⟩:=hu
 have hb:byteV (fun i=>if i=k then 0 else u i):=fun i=>by show (if i=k then 0 else u i) < 256;split;decide;exact u1 i
 have h:=span_sum (R:=Sel M n Q) M (fun i=>if i=k then 0 else u i) hb n (fun i hi h2=>by
  by_cases e:i=k
  · simp [e] at h2
  · exact ⟨i,hi,h0 i hi e (by simpa [e] using h2),rfl⟩)
 have e:(fun j=>xs (fun i=>gm (if i=k then 0 else u i) (M i j)) n)=M k:=by
  funext j
  by_cases hj:j < D
  · have e1:xs (fun i=>gm (u i) (M i j)) n=xs (fun i=>gm (if i=k then 0 else u i) (M i j)^^^gm (unitV k i) (M i j)) n:=xs_congr n (fun i _=>by
     by_cases e:i=k
     · rw [if_pos e,zero_gm,Nat.zero_xor,e,h1];show _=gm (if k=k then 1 else 0) _;rw [if_pos rfl]
     · rw [if_neg e];show _=_^^^gm (if i=k then 1 else 0) _;rw [if_neg e,zero_gm,Nat.xor_zero])
    have h3:=u3 j hj
    rw [e1,xs_xor,xs_one (f:=fun i=>gm (unitV k i) (M i j)) (k:=k) n hk] at h3
    · have:=xor_eq h3
      rw [this]
      show gm (if k=k then 1 else 0) (M k j)=_
      rw [if_pos rfl,gm_comm (by decide) (hM k j),gm_one _ (hM k j)]
    · intro i _ ne
      show gm (if i=k then 1 else 0) (M i j)=0
      rw [if_neg ne,zero_gm]
  · rw [hz k j (by omega)]
    exact xs_nought n (fun i _=>by rw [hz i j (by omega),gm_zero])
 rwa [e] at h
end Go.Proofs.YthcgahldacpolaaGreatDoor.Gf
