import Derived.Test.YthcgahldacpolaaGreatDoorM29
set_option maxRecDepth 100000
set_option maxHeartbeats 8000000
namespace Go.Proofs.YthcgahldacpolaaGreatDoor.Gf
variable {L:List Nat} {D P:Nat} {M:Nat→Nat→Nat}
structure Code (M:Nat→Nat→Nat) (D P:Nat):Prop where
 byt:∀ i,byteV (M i)
 unit:∀ i,i < D→∀ j,M i j=if j=i then 1 else 0
 nought:∀ i j,D≤j→M i j=0
theorem Code.told (h:Code M D P) (L:List Nat) :
 (∃ C,tells (ck0 M D P) L=some C∧ToldBy (ck0 M D P) (Dual M D (D+P)) L C)∨(tells (ck0 M D P) L=none∧∃ pre i,(pre ++ [i]) <+: L∧∀ v,Span (From (ck0 M D P) 0) v→(∀ j∈pre,v j=0)→v i=0):=by
 have:=ToldBy.of (dual_lin M D (D+P) h.byt) (C0:=ck0 M D P) rfl (ck0_byte h.byt) (fun k hk=>ck0_dual h.byt h.unit k hk) L [] (ck0 M D P) (ToldBy.nil rfl (ck0_byte h.byt) (fun k hk=>ck0_dual h.byt h.unit k hk)) rfl
 simpa using this
structure Plan (M:Nat→Nat→Nat) (D P:Nat) (L:List Nat) (B:Ck):Prop where
 told:B.told=L.length
 le:B.told≤B.count
 most:B.count≤P
 byt:Byt B
 dual:∀ k,k < B.told→Dual M D (D+P) (B.m k)
 one:∀ k,k < L.length→∀ k' (h:k' < L.length),B.m k L[k']=if k=k' then 1 else 0
theorem Code.plan (h:Code M D P) {L:List Nat} {C B:Ck} (ht:ToldBy (ck0 M D P) (Dual M D (D+P)) L C) (hr:Reach C B):Plan M D P L B:=by
 have h0:∀ j∈L,Dead C j:=fun j hj r h1 h2=>((ht.spare (C.m r)).1 (Span.mem (ht.byt r) ⟨r,h1,h2,rfl⟩)).2 j hj
 obtain ⟨b,t,le,cc,al,on,_⟩:=hr.good (dual_lin M D (D+P) h.byt) ht.byt ht.le ht.all h0
 have h1:=ht.told
 have h2:=ht.count
 refine ⟨by omega,le,by have:C.count=P:=h2;omega,b,fun k hk=>al k (by omega),fun k hk k' h3=>?_⟩
 rw [on k (by omega) _ (List.getElem_mem h3),ht.one k hk k' h3]
theorem Plan.tells {B:Ck} (hC:Code M D P) (h:Plan M D P L B) (hn:∀ i∈L,i < D+P):∀ i∈L,Span (Sel M (D+P) (fun j=>j∉L∧readsB B j=true)) (M i):=by
 intro i hi
 obtain ⟨k,hk,rfl⟩:=List.getElem_of_mem hi
 have h1:k < B.told:=by have:=h.told;omega
 refine span_of_dual hC.byt hC.nought (hn _ hi) (h.dual k h1) (by rw [h.one k hk k hk,if_pos rfl]) ?_
 intro j _ hj h0
 refine ⟨fun h2=>?_,readsB_true h1 h0⟩
 obtain ⟨k',h3,rfl⟩:=List.getElem_of_mem h2
 rw [h.one k hk k' h3] at h0
 by_cases e:k=k'
 · subst e;exact hj rfl
 · rw [if_neg e] at h0;exact h0 rfl
theorem Plan.sum {B:Ck} (hC:Code M D P) (h:Plan M D P L B) (hn:∀ i∈L,i < D+P) (d:Nat→Nat) (hd:byteV d) (k:Nat) (hk:k < L.length) :
 xs (fun i=>if i∈L then 0 else gm (B.m k i) (xs (fun j=>gm (M i j) (d j)) D)) (D+P)=xs (fun j=>gm (M L[k] j) (d j)) D:=by
 have h3:k < B.told:=by have:=h.told;omega
 obtain ⟨v1,v2,v3⟩:=h.dual k h3
 have hi:=hn _ (List.getElem_mem hk)
 have h1:∀ i,xs (fun j=>gm (M i j) (d j)) D < 256:=fun i=>xs_lt D (fun j _=>gm_lt _ (hC.byt i j))
 have swap:∀ n,xs (fun i=>gm (B.m k i) (xs (fun j=>gm (M i j) (d j)) D)) n=xs (fun j=>gm (xs (fun i=>gm (B.m k i) (M i j)) n) (d j)) D:=by
  intro n
  induction n with
  | zero=>exact (xs_nought D (fun j _=>zero_gm _)).symm
  | succ n ih=>
   show xs _ n^^^gm (B.m k n) (xs (fun j=>gm (M n j) (d j)) D)=_
   rw [ih,← xs_gm,← xs_xor]
   apply xs_congr
   intro j _
   show _=gm (xs _ n^^^gm (B.m k n) (M n j)) (d j)
   rw [add_gm _ (xs_lt n (fun i _=>gm_lt _ (v1 i))) (gm_lt _ (v1 n)),gm_assoc (v1 n) (hC.byt n j) (hd j)]
 have h0:xs (fun i=>gm (B.m k i) (xs (fun j=>gm (M i j) (d j)) D)) (D+P)=0:=by
  rw [swap]
  exact xs_nought D (fun j hj=>by rw [v3 j hj,zero_gm])
 have e:xs (fun i=>gm (B.m k i) (xs (fun j=>gm (M i j) (d j)) D)) (D+P)=xs (fun i=>(if i∈L then 0 else gm (B.m k i) (xs (fun j=>gm (M i j) (d j)) D))^^^(if i=L[k] then xs (fun j=>gm (M L[k] j) (d j)) D else 0)) (D+P):=by
  apply xs_congr
  intro i _
  by_cases hm:i∈L
  · obtain ⟨k',h2,rfl⟩:=List.getElem_of_mem hm
    rw [if_pos hm,Nat.zero_xor,h.one k hk k' h2]
    by_cases e:L[k']=L[k]
    · rw [if_pos e,e]
      by_cases e2:k=k'
      · rw [if_pos e2,gm_comm (by decide) (h1 _),gm_one _ (h1 _)]
      · have c1:=h.one k hk k hk
        have c2:=h.one k hk k' h2
        rw [e,c1,if_pos rfl,if_neg e2] at c2
        exact absurd c2 (by decide)
    · rw [if_neg e,if_neg (fun e2=>e (by subst e2;rfl)),zero_gm]
  · rw [if_neg hm,if_neg (show ¬ i=L[k] from fun e2=>hm (by rw [e2];exact List.getElem_mem hk)),Nat.xor_zero]
 rw [e,xs_xor,xs_one (f:=fun i=>if i=L[k] then xs (fun j=>gm (M L[k] j) (d j)) D else 0) (k:=L[k]) _ hi] at h0
 · rw [if_pos rfl] at h0;exact xor_eq h0
 · intro i _ ne;rw [if_neg ne]
end Go.Proofs.YthcgahldacpolaaGreatDoor.Gf
