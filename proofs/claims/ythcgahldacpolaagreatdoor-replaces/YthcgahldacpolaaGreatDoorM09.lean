import Derived.Test.YthcgahldacpolaaGreatDoorM08
set_option maxRecDepth 100000
set_option maxHeartbeats 8000000
namespace Go.Proofs.YthcgahldacpolaaGreatDoor.Gf
variable {m x a b:Nat}
def Full (R:(Nat→Nat)→Prop) (c m:Nat):Prop:=∀ v,byteV v→(∀ j,j < c∨c+m≤j→v j=0)→Span R v
def unitV (m:Nat):Nat→Nat:=fun j=>if j=m then 1 else 0
theorem unitV_byte (m:Nat):byteV (unitV m):=fun j=>by unfold unitV;split <;> decide
theorem Taken.le:∀ n (R:(Nat→Nat)→Prop) (c k m:Nat),(∀ j,c+m≤j→∀ r,R r→r j=0)→Taken n R c k→k≤m
 | 0,_,_,_,_,_,h=>by rw [h];exact Nat.zero_le _
 | n+1,R,c,k,m,hz,h=>by
  rcases h with ⟨_,h⟩ | ⟨⟨p,hp,h0⟩,R1,h2,h1,k1,rfl,h⟩
  · cases m with
    | zero=>exact Taken.le n R (c+1) k 0 (fun j hj=>hz j (by omega)) h
    | succ m=>exact Nat.le_succ_of_le (Taken.le n R (c+1) k m (fun j hj=>hz j (by omega)) h)
  · cases m with
    | zero=>exact absurd (hz c (by omega) p hp) h0
    | succ m=>
     have:=Taken.le n R1 (c+1) k1 m (fun j hj r hr=>Span.nought (hz j (by omega)) ((h1 r).1 (Span.mem (h2 r hr) hr)).1) h
     omega
theorem Taken.full_of:∀ n (R:(Nat→Nat)→Prop) (c m:Nat),(∀ r,R r→byteV r)→(∀ j,c+m≤j→∀ r,R r→r j=0)→(∀ j,j < c→∀ r,R r→r j=0)→Taken n R c m→Full R c m
 | 0,R,c,m,hb,hz,hl,h=>by
  intro v _ hv
  obtain rfl:m=0:=h
  have e:v=fun _=>0:=by funext j;exact hv j (by omega)
  rw [e];exact Span.zero R
 | n+1,R,c,m,hb,hz,hl,h=>by
  cases m with
  | zero=>
   intro v _ hv
   have e:v=fun _=>0:=by funext j;exact hv j (by omega)
   rw [e];exact Span.zero R
  | succ m=>
   rcases h with ⟨h0,h⟩ | ⟨⟨p,hp,h5⟩,R1,h2,h1,k1,e,h⟩
   · have:=Taken.le n R (c+1) (m+1) m (fun j hj=>hz j (by omega)) h
     omega
   · obtain rfl:k1=m:=by omega
     have sub:=fun r (hr:R1 r)=>(h1 r).1 (Span.mem (h2 r hr) hr)
     have ih:=Taken.full_of n R1 (c+1) k1 h2 (fun j hj r hr=>Span.nought (hz j (by omega)) (sub r hr).1)
      (fun j hj r hr=>by
       by_cases e:j=c
       · rw [e];exact (sub r hr).2
       · exact Span.nought (hl j (by omega)) (sub r hr).1) h
     intro v hv h6
     have h3:=hv c
     have h7:=hb p hp c
     have h4:=gm_lt (gi (p c)) h3
     have hs:=ih (addV v (gm (v c) (gi (p c))) p) (fun j=>xlt (hv j) (gm_lt _ h4)) (by
      intro j hj
      show v j^^^gm (gm (v c) (gi (p c))) (p j)=0
      by_cases e:j=c
      · rw [e];exact off_zero h3 h7 h5
      · have e1:v j=0:=h6 j (by omega)
        have e2:p j=0:=by
         rcases hj with hj | hj
         · exact hl j (by omega) p hp
         · exact hz j (by omega) p hp
        rw [e1,e2,gm_zero,Nat.xor_self])
     have:=((h1 _).1 hs).1.step h4 hp
     rwa [addV_twice] at this
theorem Taken.of_full:∀ n (R:(Nat→Nat)→Prop) (c k m:Nat),m≤n→(∀ j,c+m≤j→∀ r,R r→r j=0)→Full R c m→Taken n R c k→k=m
 | 0,_,_,_,m,hm,_,_,h=>by rw [h];omega
 | n+1,R,c,k,m,hm,hz,hF,h=>by
  cases m with
  | zero=>have:=Taken.le (n+1) R c k 0 hz h;omega
  | succ m=>
   rcases h with ⟨h0,h⟩ | ⟨⟨p,hp,h5⟩,R1,h4,h1,k1,rfl,h⟩
   · have h2:=hF (unitV c) (unitV_byte c) (fun j hj=>if_neg (by omega))
     have:=Span.nought h0 h2
     simp [unitV] at this
   · have:=Taken.of_full n R1 (c+1) k1 m (by omega) (fun j hj r hr=>Span.nought (hz j (by omega)) ((h1 r).1 (Span.mem (h4 r hr) hr)).1)
      (fun v hv h3=>(h1 v).2 ⟨hF v hv (fun j hj=>h3 j (by omega)),h3 c (by omega)⟩) h
     omega
theorem rank_full {D:List (List Nat)} {k:Nat} (hb:∀ l∈D,∀ x∈l,x < 256) (hl:∀ l∈D,l.length≤m) (hm:m≤64) (h:RankIs D k):k=m↔Full (Rem D 0) 0 m:=by
 have hz:∀ j,0+m≤j→∀ r,Rem D 0 r→r j=0:=by
  rintro j hj r ⟨i,hi,_,rfl⟩
  unfold vec
  have:=hl _ (List.getElem_mem hi)
  simp [List.getElem?_eq_none (show (D[i]).length≤j by omega)]
 constructor
 · rintro rfl
   exact Taken.full_of 64 _ 0 k (rem_byte hb 0) hz (fun j hj=>absurd hj (by omega)) h
 · intro hF
   exact Taken.of_full 64 _ 0 k m hm hz hF h
theorem Full.units {R:(Nat→Nat)→Prop} (hR:∀ r,R r→byteV r) {m:Nat} (h:∀ j,j < m→Span R (unitV j)):Full R 0 m:=by
 intro v hv hz
 have key:∀ t,t≤m→Span R (fun j=>if j < t then v j else 0):=by
  intro t
  induction t with
  | zero=>intro _;exact Span.zero R
  | succ t ih=>
   intro ht
   have:=Span.add hR (ih (by omega)) (hv t) (h t (by omega))
   have e:addV (fun j=>if j < t then v j else 0) (v t) (unitV t)=fun j=>if j < t+1 then v j else 0:=by
    funext j
    show (if j < t then v j else 0)^^^gm (v t) (if j=t then 1 else 0)=if j < t+1 then v j else 0
    by_cases e1:j=t
    · subst e1;simp [gm_one _ (hv j)]
    · rw [if_neg e1,gm_zero,Nat.xor_zero]
      by_cases e2:j < t
      · rw [if_pos e2,if_pos (by omega)]
      · rw [if_neg e2,if_neg (by omega)]
   rwa [e] at this
 have:=key m (Nat.le_refl _)
 have e:(fun j=>if j < m then v j else 0)=v:=by
  funext j
  by_cases hj:j < m
  · rw [if_pos hj]
  · rw [if_neg hj];exact (hz j (by omega)).symm
 rwa [e] at this
def cauV (L:List Nat) (u:Nat→Nat) (x:Nat):Nat→Nat:=fun j=>if j∈L then gm (u j) (gi (x^^^j)) else 0
theorem xor_ne {y:Nat} (h:x≠y):x^^^y≠0:=fun e=>h (by
 have:=congrArg (fun t=>t^^^y) e
 simpa [Nat.xor_assoc] using this)
theorem gm_ne (ha:a < 256) (hb:b < 256) (h1:a≠0) (h2:b≠0):gm a b≠0:=by
 intro e
 have:=gm_assoc ha hb (gi_lt hb)
 rw [e,zero_gm,gm_gi b hb h2,gm_one a ha] at this
 exact h1 this.symm
theorem gi_ne (ha:a < 256) (h:a≠0):gi a≠0:=by
 intro e
 have:=gm_gi a ha h
 rw [e,gm_zero] at this
 exact absurd this (by decide)
theorem gm_part (ha:a < 256) (hb:b < 256) (h:b≠0):gm a (gi b)=1^^^gm (a^^^b) (gi b):=by
 rw [add_gm _ ha hb,gm_gi b hb h,Nat.xor_comm (gm a (gi b)) 1,← Nat.xor_assoc,Nat.xor_self,Nat.zero_xor]
theorem gi_add (ha:a < 256) (hb:b < 256) (h1:a≠0) (h2:b≠0):gi a^^^gi b=gm (a^^^b) (gm (gi a) (gi b)):=by
 have ia:=gi_lt ha
 have ib:=gi_lt hb
 rw [add_gm _ ha hb,← gm_assoc ha ia ib,gm_gi a ha h1,gm_comm ia ib,← gm_assoc hb ib ia,gm_gi b hb h2,gm_comm (by decide) ib,gm_comm (by decide) ia,gm_one _ ia,gm_one _ ib,Nat.xor_comm]
theorem xor_cancel (x y z:Nat):(x^^^z)^^^(y^^^z)=x^^^y:=by
 rw [Nat.xor_comm y z,Nat.xor_assoc,← Nat.xor_assoc z z,Nat.xor_self,Nat.zero_xor]
theorem cau_step {x0 j u:Nat} (hx:x < 256) (h0:x0 < 256) (hm:m < 256) (hj:j < 256) (hu:u < 256) (h1:x≠x0) (h2:x≠j) (h3:x0≠j) :
 gm (gi (x^^^x0)) (gm (x^^^m) (gm u (gi (x^^^j)))^^^gm (x0^^^m) (gm u (gi (x0^^^j))))=gm (gm u (gm (j^^^m) (gi (x0^^^j)))) (gi (x^^^j)):=by
 have b1:=xlt hx h0
 have b2:=xlt hx hj
 have b3:=xlt h0 hj
 have b4:=xlt hx hm
 have b5:=xlt h0 hm
 have b6:=xlt hj hm
 have i1:=gi_lt b1
 have i2:=gi_lt b2
 have i3:=gi_lt b3
 have sw:∀ t g,t < 256→g < 256→gm t (gm u g)=gm u (gm t g):=fun t g ht hg=>by
  rw [← gm_assoc ht hu hg,gm_comm ht hu,gm_assoc hu ht hg]
 rw [sw _ _ b4 i2,sw _ _ b5 i3,← gm_add,gm_part b4 b2 (xor_ne h2),gm_part b5 b3 (xor_ne h3)]
 have e1:(x^^^m)^^^(x^^^j)=j^^^m:=by rw [Nat.xor_comm x m,Nat.xor_comm x j,xor_cancel,Nat.xor_comm]
 have e2:(x0^^^m)^^^(x0^^^j)=j^^^m:=by rw [Nat.xor_comm x0 m,Nat.xor_comm x0 j,xor_cancel,Nat.xor_comm]
 rw [e1,e2,xor4,Nat.xor_self,Nat.zero_xor,← gm_add,gi_add b2 b3 (xor_ne h2) (xor_ne h3),xor_cancel]
 have b7:gm (gi (x^^^j)) (gi (x0^^^j)) < 256:=gm_lt _ i2
 have b8:gm (x^^^x0) (gm (gi (x^^^j)) (gi (x0^^^j))) < 256:=gm_lt _ b1
 have b9:gm (j^^^m) (gi (x0^^^j)) < 256:=gm_lt _ b6
 rw [sw _ _ i1 (gm_lt _ b6),gm_assoc hu b9 i2,gm_assoc b6 i3 i2]
 refine congrArg (gm u) ?_
 have e3:gm (gi (x^^^x0)) (gm (x^^^x0) (gm (gi (x^^^j)) (gi (x0^^^j))))=gm (gi (x^^^j)) (gi (x0^^^j)):=by
  rw [← gm_assoc i1 b1 b7,gm_comm i1 b1,gm_gi _ b1 (xor_ne h1),gm_comm (a:=1) (by decide) b7,gm_one _ b7]
 rw [← gm_assoc i1 b6 b8,gm_comm i1 b6,gm_assoc b6 i1 b8,e3,gm_comm i2 i3]
theorem cauchy (R:(Nat→Nat)→Prop) (hR:∀ r,R r→byteV r):∀ (L X:List Nat) (u:Nat→Nat),L.Nodup→X.Nodup→L.length≤X.length→(∀ j∈L,j < 256∧u j < 256∧u j≠0)→(∀ x∈X,x < 256∧∀ j∈L,x≠j) →
 (∀ x∈X,Span R (cauV L u x))→∀ j∈L,Span R (unitV j)
 | [],_,_,_,_,_,_,_,_=>fun j hj=>by cases hj
 | m :: L,[],_,_,_,h,_,_,_=>by simp at h
 | m :: L,x0 :: X,u,hL,hX,h9,hl,hx,hs=>by
  obtain ⟨h5,h6⟩:=List.nodup_cons.1 hL
  obtain ⟨ha,he⟩:=List.nodup_cons.1 hX
  obtain ⟨hm,h1,hf⟩:=hl m List.mem_cons_self
  obtain ⟨h3,h0⟩:=hx x0 List.mem_cons_self
  have s0:=hs x0 List.mem_cons_self
  have ih:=cauchy R hR L X (fun j=>gm (u j) (gm (j^^^m) (gi (x0^^^j)))) h6 he (by simpa using h9)
   (fun j hj=>by
    obtain ⟨a1,a2,a3⟩:=hl j (List.mem_cons_of_mem _ hj)
    have b1:=xlt a1 hm
    have b2:=xlt h3 a1
    have ne:j≠m:=fun e=>h5 (e ▸ hj)
    exact ⟨a1,gm_lt _ a2,gm_ne a2 (gm_lt _ b1) a3 (gm_ne b1 (gi_lt b2) (xor_ne ne) (gi_ne b2 (xor_ne (h0 j (List.mem_cons_of_mem _ hj)))))⟩)
   (fun x h2=>⟨(hx x (List.mem_cons_of_mem _ h2)).1,fun j hj=>(hx x (List.mem_cons_of_mem _ h2)).2 j (List.mem_cons_of_mem _ hj)⟩)
   (fun x h2=>by
    obtain ⟨a1,a2⟩:=hx x (List.mem_cons_of_mem _ h2)
    have ne:x≠x0:=fun e=>ha (e ▸ h2)
    have b1:=xlt a1 h3
    have i1:=gi_lt b1
    have b2:=xlt a1 hm
    have b3:=xlt h3 hm
    have t1:=Span.add hR (Span.add hR (Span.zero R) (gm_lt (x^^^m) i1) (hs x (List.mem_cons_of_mem _ h2))) (gm_lt (x0^^^m) i1) s0
    have e:addV (addV (fun _=>0) (gm (gi (x^^^x0)) (x^^^m)) (cauV (m :: L) u x)) (gm (gi (x^^^x0)) (x0^^^m)) (cauV (m :: L) u x0)=cauV L (fun j=>gm (u j) (gm (j^^^m) (gi (x0^^^j)))) x:=by
     funext j
     show (0^^^gm (gm (gi (x^^^x0)) (x^^^m)) (cauV (m :: L) u x j))^^^gm (gm (gi (x^^^x0)) (x0^^^m)) (cauV (m :: L) u x0 j)=_
     rw [Nat.zero_xor]
     by_cases hj:j∈L
     · obtain ⟨c1,c2,c3⟩:=hl j (List.mem_cons_of_mem _ hj)
       have d1:=a2 j (List.mem_cons_of_mem _ hj)
       have d2:=h0 j (List.mem_cons_of_mem _ hj)
       unfold cauV
       rw [if_pos (List.mem_cons_of_mem _ hj),if_pos (List.mem_cons_of_mem _ hj),if_pos hj,gm_assoc i1 b2 (gm_lt _ c2),gm_assoc i1 b3 (gm_lt _ c2),← gm_add,cau_step a1 h3 hm c1 c2 ne d1 d2]
     · by_cases h7:j=m
       · subst h7
         unfold cauV
         have d1:=a2 j List.mem_cons_self
         have d2:=h0 j List.mem_cons_self
         have sw:∀ t,t < 256→t≠0→gm t (gm (u j) (gi t))=u j:=fun t ht h=>by
          rw [← gm_assoc ht h1 (gi_lt ht),gm_comm ht h1,gm_assoc h1 ht (gi_lt ht),gm_gi t ht h,gm_one _ h1]
         rw [if_pos List.mem_cons_self,if_pos List.mem_cons_self,if_neg hj,gm_assoc i1 b2 (gm_lt _ h1),gm_assoc i1 b3 (gm_lt _ h1),sw _ b2 (xor_ne d1),sw _ b3 (xor_ne d2),Nat.xor_self]
       · unfold cauV
         have hn:j∉m :: L:=by simp [h7,hj]
         rw [if_neg hn,if_neg hn,if_neg hj,gm_zero,gm_zero,Nat.xor_self]
    rwa [e] at t1)
  have hg:Span R (unitV m):=by
   have key:∀ K:List Nat,(∀ j∈K,j∈L)→K.Nodup→Span R (fun j=>if j∈K then 0 else cauV (m :: L) u x0 j):=by
    intro K
    induction K with
    | nil=>intro _ _;simpa using s0
    | cons k K ihK=>
     intro hK hh
     obtain ⟨hi,h4⟩:=List.nodup_cons.1 hh
     have hk:=hK k List.mem_cons_self
     have h8:cauV (m :: L) u x0 k < 256:=s0.byte k
     have t:=Span.add hR (ihK (fun j hj=>hK j (List.mem_cons_of_mem _ hj)) h4) h8 (ih k hk)
     have e:addV (fun j=>if j∈K then 0 else cauV (m :: L) u x0 j) (cauV (m :: L) u x0 k) (unitV k)=fun j=>if j∈k :: K then 0 else cauV (m :: L) u x0 j:=by
      funext j
      show (if j∈K then 0 else cauV (m :: L) u x0 j)^^^gm (cauV (m :: L) u x0 k) (if j=k then 1 else 0)=_
      by_cases e1:j=k
      · subst e1
        rw [if_neg hi,if_pos rfl,gm_one _ h8,Nat.xor_self,if_pos List.mem_cons_self]
      · rw [if_neg e1,gm_zero,Nat.xor_zero]
        by_cases e2:j∈K
        · rw [if_pos e2,if_pos (List.mem_cons_of_mem _ e2)]
        · rw [if_neg e2,if_neg (by simp [e1,e2])]
     rwa [e] at t
   have t:=key L (fun _ h=>h) h6
   have b:=xlt h3 hm
   have ne:=xor_ne (h0 m List.mem_cons_self)
   have hc:gm (u m) (gi (x0^^^m)) < 256:=gm_lt _ h1
   have hp:gm (u m) (gi (x0^^^m))≠0:=gm_ne h1 (gi_lt b) hf (gi_ne b ne)
   have t2:=Span.add hR (Span.zero R) (gi_lt hc) t
   have e:addV (fun _=>0) (gi (gm (u m) (gi (x0^^^m)))) (fun j=>if j∈L then 0 else cauV (m :: L) u x0 j)=unitV m:=by
    funext j
    show 0^^^gm (gi (gm (u m) (gi (x0^^^m)))) (if j∈L then 0 else cauV (m :: L) u x0 j)=unitV m j
    rw [Nat.zero_xor]
    unfold unitV cauV
    by_cases e1:j=m
    · subst e1
      rw [if_neg h5,if_pos List.mem_cons_self,if_pos rfl,gm_comm (gi_lt hc) hc,gm_gi _ hc hp]
    · rw [if_neg e1]
      by_cases e2:j∈L
      · rw [if_pos e2,gm_zero]
      · rw [if_neg e2,if_neg (by simp [e1,e2]),gm_zero]
   rwa [e] at t2
  intro j hj
  rcases List.mem_cons.1 hj with rfl | hj
  · exact hg
  · exact ih j hj
end Go.Proofs.YthcgahldacpolaaGreatDoor.Gf
