import Derived.Test.YthcgahldacpolaaGreatDoorM07
set_option maxRecDepth 100000
set_option maxHeartbeats 8000000
namespace Go.Proofs.YthcgahldacpolaaGreatDoor.Gf
variable {T T':List (List Nat)} {n c k r:Nat}
def vec (l:List Nat):Nat→Nat:=fun j=>l.getD j 0
def Rem (T:List (List Nat)) (r:Nat):(Nat→Nat)→Prop:=fun v=>∃ i,∃ h:i < T.length,r≤i∧v=vec T[i]
theorem vec_byte {l:List Nat} (h:∀ x∈l,x < 256):byteV (vec l):=by
 intro j
 unfold vec
 by_cases hj:j < l.length
 · have e:l.getD j 0=l[j]:=by simp [hj]
   rw [e];exact h _ (List.getElem_mem hj)
 · have e:l.getD j 0=0:=by simp [List.getElem?_eq_none (Nat.not_lt.1 hj)]
   rw [e];decide
theorem rem_byte (h:∀ l∈T,∀ x∈l,x < 256) (r:Nat):∀ v,Rem T r v→byteV v:=by
 rintro v ⟨i,hi,_,rfl⟩
 exact vec_byte (h _ (List.getElem_mem hi))
theorem addV_twice (q p:Nat→Nat) (f:Nat):addV (addV q f p) f p=q:=by
 funext j
 show (q j^^^gm f (p j))^^^gm f (p j)=q j
 rw [Nat.xor_assoc,Nat.xor_self,Nat.xor_zero]
theorem taken_skip (h:∀ i (hi:i < T.length),r≤i→vec T[i] c=0) (ht:Taken n (Rem T r) (c+1) k):Taken (n+1) (Rem T r) c k:=
 .inl ⟨by rintro v ⟨i,hi,hr,rfl⟩;exact h i hi hr,ht⟩
theorem taken_pivot {p:Nat} (hb:∀ l∈T,∀ x∈l,x < 256) (h3:∀ l∈T',∀ x∈l,x < 256) (h4:T'.length=T.length) (h1:r≤p) (hp:p < T.length) (h2:vec T[p] c≠0)
 (h0:∀ i (hi:i < T'.length),r < i→∃ f,∃ h:(if i=p then r else i) < T.length,f < 256∧vec T'[i]=addV (vec T[if i=p then r else i]) f (vec T[p])∧vec T'[i] c=0)
 (ht:Taken n (Rem T' (r+1)) (c+1) k):Taken (n+1) (Rem T r) c (k+1):=by
 have hR:=rem_byte hb r
 refine .inr ⟨⟨vec T[p],⟨p,hp,h1,rfl⟩,h2⟩,Rem T' (r+1),rem_byte h3 (r+1),?_,k,rfl,ht⟩
 refine Span.worked (p:=vec T[p]) hR ⟨p,hp,h1,rfl⟩ h2 ?_ ?_
 · rintro v ⟨i,hi,h5,rfl⟩
   obtain ⟨f,h,hf,e,hc⟩:=h0 i hi (by omega)
   exact ⟨_,f,⟨_,h,by split <;> omega,rfl⟩,hf,e,hc⟩
 · rintro q ⟨i,hi,h5,rfl⟩
   by_cases e:i=p
   · subst e;exact .inl rfl
   · right
     by_cases e2:i=r
     · subst e2
       obtain ⟨f,h,hf,e3,_⟩:=h0 p (by omega) (by omega)
       simp only [if_pos] at e3
       refine ⟨f,vec T'[p],hf,⟨p,by omega,by omega,rfl⟩,?_⟩
       rw [e3,addV_twice]
     · obtain ⟨f,h,hf,e3,_⟩:=h0 i (by omega) (by omega)
       simp only [if_neg e] at e3
       refine ⟨f,vec T'[i],hf,⟨i,by omega,by omega,rfl⟩,?_⟩
       rw [e3,addV_twice]
theorem taken_done (h:∀ l∈T,l.length≤c):Taken n (Rem T r) c 0:=
 Taken.none n _ c (by
  rintro j hj v ⟨i,hi,_,rfl⟩
  unfold vec
  have:=h _ (List.getElem_mem hi)
  simp [List.getElem?_eq_none (show (T[i]).length≤j by omega)])
theorem off_zero {x y:Nat} (hx:x < 256) (hy:y < 256) (h:y≠0):x^^^gm (gm x (gi y)) y=0:=by
 rw [gm_assoc hx (gi_lt hy) hy,gm_comm (gi_lt hy) hy,gm_gi y hy h,gm_one x hx,Nat.xor_self]
def RankIs (D:List (List Nat)) (k:Nat):Prop:=Taken 64 (Rem D 0) 0 k
theorem rem_congr (hl:T.length=T'.length) (h:∀ i (h1:i < T.length) (h2:i < T'.length),vec T[i]=vec T'[i]) (r:Nat):Rem T r=Rem T' r:=by
 funext v
 apply propext
 constructor
 · rintro ⟨i,hi,hr,rfl⟩;exact ⟨i,by omega,hr,h i hi (by omega)⟩
 · rintro ⟨i,hi,hr,rfl⟩;exact ⟨i,by omega,hr,(h i (by omega) hi).symm⟩
end Go.Proofs.YthcgahldacpolaaGreatDoor.Gf
