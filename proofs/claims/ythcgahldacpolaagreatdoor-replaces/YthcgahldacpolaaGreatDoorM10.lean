import Derived.Test.YthcgahldacpolaaGreatDoorM09
set_option maxRecDepth 100000
set_option maxHeartbeats 8000000
namespace Go.Proofs.YthcgahldacpolaaGreatDoor.Gf
variable {X:(Nat→Nat)→Prop} {i r a cnt k b:Nat} {m:Nat→Nat→Nat}
structure Ck where
 m:Nat→Nat→Nat
 told:Nat
 count:Nat
def spareAt (C:Ck) (i:Nat):Option Nat:=(List.range C.count).find? (fun r=>decide (C.told≤r) && decide (C.m r i≠0))
theorem spareAt_some {C:Ck} (h:spareAt C i=some r):C.told≤r∧r < C.count∧C.m r i≠0:=by
 unfold spareAt at h
 have h1:=List.find?_some h
 have h2:=List.mem_of_find?_eq_some h
 simp at h1 h2
 exact ⟨h1.1,h2,h1.2⟩
theorem spareAt_none {C:Ck} (h:spareAt C i=none) (r:Nat) (h1:C.told≤r) (h2:r < C.count):C.m r i=0:=by
 unfold spareAt at h
 rw [List.find?_eq_none] at h
 have:=h r (List.mem_range.2 h2)
 simp [h1] at this
 exact this
theorem spareAt_first {C:Ck} (h1:C.told≤r) (h2:r < C.count) (h3:C.m r i≠0) (h4:∀ k,C.told≤k→k < r→C.m k i=0):spareAt C i=some r:=by
 unfold spareAt
 rw [List.find?_range_eq_some]
 refine ⟨by simp [h1,h3],List.mem_range.2 h2,fun j hj=>?_⟩
 by_cases h:C.told≤j
 · simp [h4 j h hj]
 · simp [h]
theorem spareAt_never {C:Ck} (h:∀ r,C.told≤r→r < C.count→C.m r i=0):spareAt C i=none:=by
 unfold spareAt
 rw [List.find?_eq_none]
 intro r hr
 by_cases h':C.told≤r
 · simp [h r h' (List.mem_range.1 hr)]
 · simp [h']
def offF (m:Nat→Nat→Nat) (cnt r i:Nat):Nat→Nat→Nat:=fun k j=>if k < cnt∧k≠r then m k j^^^gm (gm (m k i) (gi (m r i))) (m r j) else m k j
def swapF (m:Nat→Nat→Nat) (a b:Nat):Nat→Nat→Nat:=fun k=>if k=a then m b else if k=b then m a else m k
def scaleF (m:Nat→Nat→Nat) (r i:Nat):Nat→Nat→Nat:=fun k j=>if k=r then gm (m r j) (gi (m r i)) else m k j
def tellAt (C:Ck) (i r:Nat):Ck:=⟨offF (scaleF (swapF C.m C.told r) C.told i) C.count C.told i,C.told+1,C.count⟩
def leaveAt (C:Ck) (i r:Nat):Ck:=⟨fun k=>if k=r then offF C.m C.count r i (C.count - 1) else offF C.m C.count r i k,C.told,C.count - 1⟩
def tell (C:Ck) (i:Nat):Option Ck:=(spareAt C i).map (tellAt C i)
def leave (C:Ck) (i:Nat):Option Ck:=(spareAt C i).map (leaveAt C i)
def Byt (C:Ck):Prop:=∀ r,byteV (C.m r)
def From (C:Ck) (t:Nat):(Nat→Nat)→Prop:=fun v=>∃ r,t≤r∧r < C.count∧v=C.m r
theorem addV_byte {u r:Nat→Nat} (hu:byteV u) (ha:a < 256):byteV (addV u a r):=fun j=>xlt (hu j) (gm_lt _ ha)
theorem off_addV (h:k < cnt∧k≠r):offF m cnt r i k=addV (m k) (gm (m k i) (gi (m r i))) (m r):=by
 funext j;unfold offF addV;rw [if_pos h]
theorem off_not (h:¬ (k < cnt∧k≠r)):offF m cnt r i k=m k:=by
 funext j;unfold offF;rw [if_neg h]
theorem off_byte (h:∀ k,byteV (m k)) (k:Nat):byteV (offF m cnt r i k):=by
 by_cases hk:k < cnt∧k≠r
 · rw [off_addV hk];exact addV_byte (h k) (gm_lt _ (h k i))
 · rw [off_not hk];exact h k
theorem swap_byte (h:∀ k,byteV (m k)) (k:Nat):byteV (swapF m a b k):=by
 unfold swapF;split
 · exact h b
 · split
   · exact h a
   · exact h k
theorem scale_byte (h:∀ k,byteV (m k)) (k:Nat):byteV (scaleF m r i k):=fun j=>by
 unfold scaleF;split
 · exact gm_lt _ (h r j)
 · exact h k j
theorem tell_byte {C:Ck} (h:Byt C):Byt (tellAt C i r):=off_byte (scale_byte (swap_byte h))
theorem leave_byte {C:Ck} (h:Byt C):Byt (leaveAt C i r):=fun k=>by
 show byteV (if k=r then _ else _);split
 · exact off_byte h _
 · exact off_byte h _
theorem from_byte {C:Ck} (h:Byt C) (t:Nat):∀ r,From C t r→byteV r:=by
 rintro r ⟨k,_,_,rfl⟩;exact h k
theorem off_at {x y:Nat} (hx:x < 256) (hy:y < 256) (h:y≠0):x^^^gm (gm x (gi y)) y=0:=off_zero hx hy h
theorem leave_rows {C:Ck} {t:Nat} (hb:Byt C) (ht:t≤C.told) (h1:C.told≤r) (h2:r < C.count) (h3:C.m r i≠0) (v:Nat→Nat) :
 Span (From (leaveAt C i r) t) v↔Span (From C t) v∧v i=0:=by
 refine Span.worked (p:=C.m r) (from_byte hb t) ⟨r,by omega,h2,rfl⟩ h3 ?_ ?_ v
 · rintro q ⟨k,k1,k2,rfl⟩
   have h4:k < C.count - 1:=k2
   have key:∀ k',t≤k'→k' < C.count→k'≠r→∃ q f,From C t q∧f < 256∧offF C.m C.count r i k'=addV q f (C.m r)∧offF C.m C.count r i k' i=0:=by
    intro k' g1 g2 g3
    refine ⟨C.m k',gm (C.m k' i) (gi (C.m r i)),⟨k',g1,g2,rfl⟩,gm_lt _ (hb k' i),off_addV ⟨g2,g3⟩,?_⟩
    rw [off_addV ⟨g2,g3⟩]
    exact off_at (hb k' i) (hb r i) h3
   show ∃ q f,From C t q∧f < 256∧(if k=r then offF C.m C.count r i (C.count - 1) else offF C.m C.count r i k)=addV q f (C.m r)∧(if k=r then offF C.m C.count r i (C.count - 1) else offF C.m C.count r i k) i=0
   by_cases e:k=r
   · rw [if_pos e];exact key (C.count - 1) (by omega) (by omega) (by omega)
   · rw [if_neg e];exact key k k1 (by omega) e
 · rintro q ⟨k,k1,k2,rfl⟩
   by_cases e:k=r
   · left;rw [e]
   · right
     have h0:offF C.m C.count r i k=addV (C.m k) (gm (C.m k i) (gi (C.m r i))) (C.m r):=off_addV ⟨k2,e⟩
     refine ⟨gm (C.m k i) (gi (C.m r i)),offF C.m C.count r i k,gm_lt _ (hb k i),?_,?_⟩
     · by_cases e2:k=C.count - 1
       · refine ⟨r,by omega,by show r < C.count - 1;omega,?_⟩
         show _=(if r=r then offF C.m C.count r i (C.count - 1) else offF C.m C.count r i r)
         rw [if_pos rfl,e2]
       · refine ⟨k,k1,by show k < C.count - 1;omega,?_⟩
         show _=(if k=r then offF C.m C.count r i (C.count - 1) else offF C.m C.count r i k)
         rw [if_neg e]
     · rw [h0,addV_twice]
theorem leave_told {C:Ck} (hk:k < C.told) (h1:C.told≤r) (h2:r < C.count):(leaveAt C i r).m k=addV (C.m k) (gm (C.m k i) (gi (C.m r i))) (C.m r):=by
 show (if k=r then offF C.m C.count r i (C.count - 1) else offF C.m C.count r i k)=_
 rw [if_neg (by omega),off_addV ⟨by omega,by omega⟩]
theorem gi_one:gi 1=1:=by decide +kernel
theorem tell_low {C:Ck} (hb:Byt C) (hk:k < C.count) (h0:k≠C.told) (h3:C.m r i≠0) :
 (tellAt C i r).m k=addV (swapF C.m C.told r k) (gm (swapF C.m C.told r k i) (gi (C.m r i))) (C.m r):=by
 have e0:swapF C.m C.told r C.told=C.m r:=by unfold swapF;rw [if_pos rfl]
 have e1:scaleF (swapF C.m C.told r) C.told i k=swapF C.m C.told r k:=by funext j;unfold scaleF;rw [if_neg h0]
 have e2:scaleF (swapF C.m C.told r) C.told i C.told=fun j=>gm (C.m r j) (gi (C.m r i)):=by funext j;unfold scaleF;rw [if_pos rfl,e0]
 show offF (scaleF (swapF C.m C.told r) C.told i) C.count C.told i k=_
 rw [off_addV ⟨hk,h0⟩,e1,e2]
 funext j
 show _^^^gm (gm _ (gi (gm (C.m r i) (gi (C.m r i))))) (gm (C.m r j) (gi (C.m r i)))=_^^^gm (gm _ (gi (C.m r i))) (C.m r j)
 have hs:=swap_byte (a:=C.told) (b:=r) hb k i
 have hp:=hb r i
 have hg:=gi_lt hp
 rw [gm_gi _ hp h3,gi_one,gm_one _ hs,gm_comm (hb r j) hg,← gm_assoc hs hg (hb r j)]
theorem tell_top {C:Ck}:(tellAt C i r).m C.told=fun j=>gm (C.m r j) (gi (C.m r i)):=by
 have e0:swapF C.m C.told r C.told=C.m r:=by unfold swapF;rw [if_pos rfl]
 show offF (scaleF (swapF C.m C.told r) C.told i) C.count C.told i C.told=_
 rw [off_not (by omega)]
 funext j;unfold scaleF;rw [if_pos rfl,e0]
theorem swap_low (h1:k≠a) (h2:k≠b):swapF m a b k=m k:=by unfold swapF;rw [if_neg h1,if_neg h2]
theorem tell_rows {C:Ck} (hb:Byt C) (h1:C.told≤r) (h2:r < C.count) (h3:C.m r i≠0) (v:Nat→Nat) :
 Span (From (tellAt C i r) (C.told+1)) v↔Span (From C C.told) v∧v i=0:=by
 have h4:∀ k,C.told+1≤k→k < C.count→∃ k',C.told≤k'∧k' < C.count∧k'≠r∧swapF C.m C.told r k=C.m k':=by
  intro k g1 g2
  by_cases e:k=r
  · refine ⟨C.told,by omega,by omega,by omega,?_⟩
    unfold swapF;rw [if_neg (by omega),if_pos e]
  · exact ⟨k,by omega,g2,e,swap_low (by omega) e⟩
 refine Span.worked (p:=C.m r) (from_byte hb _) ⟨r,h1,h2,rfl⟩ h3 ?_ ?_ v
 · rintro q ⟨k,k1,k2,rfl⟩
   have h0:k < C.count:=k2
   obtain ⟨k',g1,g2,g3,e⟩:=h4 k k1 h0
   have ht:=tell_low (i:=i) (r:=r) hb h0 (by omega) h3
   rw [e] at ht
   refine ⟨C.m k',gm (C.m k' i) (gi (C.m r i)),⟨k',g1,g2,rfl⟩,gm_lt _ (hb k' i),ht,?_⟩
   rw [ht];exact off_at (hb k' i) (hb r i) h3
 · rintro q ⟨k,k1,k2,rfl⟩
   by_cases e:k=r
   · left;rw [e]
   · right
     have hex:∃ k',C.told+1≤k'∧k' < C.count∧swapF C.m C.told r k'=C.m k:=by
      by_cases e2:k=C.told
      · refine ⟨r,by omega,h2,?_⟩
        unfold swapF;rw [if_neg (by omega),if_pos rfl,e2]
      · exact ⟨k,by omega,k2,swap_low e2 e⟩
     obtain ⟨k',g1,g2,ge⟩:=hex
     have ht:=tell_low (i:=i) (r:=r) hb g2 (by omega) h3
     rw [ge] at ht
     refine ⟨gm (C.m k i) (gi (C.m r i)),(tellAt C i r).m k',gm_lt _ (hb k i),⟨k',g1,g2,rfl⟩,?_⟩
     rw [ht,addV_twice]
def Lin (X:(Nat→Nat)→Prop):Prop:=X (fun _=>0)∧∀ a r u,a < 256→X r→X u→X (addV u a r)
theorem leave_all (hX:Lin X) {C:Ck} {i r:Nat} (hb:Byt C) (h2:r < C.count) (h:∀ k,k < C.count→X (C.m k)):∀ k,k < (leaveAt C i r).count→X ((leaveAt C i r).m k):=by
 have key:∀ k,k < C.count→X (offF C.m C.count r i k):=by
  intro k hk
  by_cases e:k=r
  · rw [off_not (by omega)];exact h k hk
  · rw [off_addV ⟨hk,e⟩];exact hX.2 _ _ _ (gm_lt _ (hb k i)) (h r h2) (h k hk)
 intro k hk
 have h0:k < C.count - 1:=hk
 show X (if k=r then _ else _)
 split
 · exact key _ (by omega)
 · exact key _ (by omega)
theorem tell_all (hX:Lin X) {C:Ck} {i r:Nat} (hb:Byt C) (h1:C.told≤r) (h2:r < C.count) (h3:C.m r i≠0) (h:∀ k,k < C.count→X (C.m k)):∀ k,k < (tellAt C i r).count→X ((tellAt C i r).m k):=by
 intro k hk
 have h0:k < C.count:=hk
 by_cases e:k=C.told
 · rw [e,tell_top]
   have hp:X (addV (fun _=>0) (gi (C.m r i)) (C.m r)):=hX.2 _ _ _ (gi_lt (hb r i)) (h r h2) hX.1
   have e:addV (fun _=>0) (gi (C.m r i)) (C.m r)=fun j=>gm (C.m r j) (gi (C.m r i)):=by
    funext j;show 0^^^gm (gi (C.m r i)) (C.m r j)=_;rw [Nat.zero_xor,gm_comm (gi_lt (hb r i)) (hb r j)]
   rwa [e] at hp
 · rw [tell_low hb h0 e h3]
   refine hX.2 _ _ _ (gm_lt _ (swap_byte hb _ _)) (h r h2) ?_
   unfold swapF;split
   · exact h r h2
   · split
     · exact h _ (by omega)
     · exact h k h0
def tells (C:Ck) (L:List Nat):Option Ck:=L.foldl (fun o i=>o.bind (fun c=>tell c i)) (some C)
theorem tells_snoc (C:Ck) (L:List Nat) (i:Nat):tells C (L ++ [i])=(tells C L).bind (fun c=>tell c i):=by unfold tells;rw [List.foldl_append];rfl
theorem tells_none_append (C:Ck) (L L':List Nat) (h:tells C L=none):tells C (L ++ L')=none:=by
 unfold tells at *
 rw [List.foldl_append,h]
 induction L' with
 | nil=>rfl
 | cons a l ih=>exact ih
structure ToldBy (C0:Ck) (X:(Nat→Nat)→Prop) (L:List Nat) (C:Ck):Prop where
 told:C.told=L.length
 count:C.count=C0.count
 le:C.told≤C.count
 byt:Byt C
 all:∀ k,k < C.count→X (C.m k)
 one:∀ k,k < L.length→∀ k' (h:k' < L.length),C.m k L[k']=if k=k' then 1 else 0
 spare:∀ v,Span (From C C.told) v↔Span (From C0 0) v∧∀ i∈L,v i=0
theorem ToldBy.nil {C0:Ck} (h0:C0.told=0) (hb:Byt C0) (hX:∀ k,k < C0.count→X (C0.m k)):ToldBy C0 X [] C0:=
 ⟨h0,rfl,by omega,hb,hX,fun k hk=>absurd hk (by simp),fun v=>by rw [h0];simp⟩
theorem ToldBy.snoc {C0 C C':Ck} {L:List Nat} (hX:Lin X) (h:ToldBy C0 X L C) (hi:tell C i=some C'):ToldBy C0 X (L ++ [i]) C':=by
 unfold tell at hi
 rw [Option.map_eq_some_iff] at hi
 obtain ⟨r,hr,rfl⟩:=hi
 obtain ⟨h1,h2,h3⟩:=spareAt_some hr
 have h5:∀ j,j∈L→C.m r j=0:=fun j hj=>((h.spare (C.m r)).1 (Span.mem (h.byt r) ⟨r,h1,h2,rfl⟩)).2 j hj
 have h6:=h.told
 refine ⟨?_,h.count,by show C.told+1≤C.count;omega,tell_byte h.byt,tell_all hX h.byt h1 h2 h3 h.all,?_,?_⟩
 · show C.told+1=_;simp [h6]
 · intro k hk k' h7
   simp at hk h7
   by_cases e:k=L.length
   · have ek:k=C.told:=by omega
     rw [ek,tell_top]
     by_cases e':k'=L.length
     · subst e'
       rw [List.getElem_append_right (by omega)]
       simp [h6,gm_gi _ (h.byt r i) h3]
     · have h4:k' < L.length:=by omega
       rw [List.getElem_append_left h4]
       show gm (C.m r L[k']) _=_
       rw [h5 _ (List.getElem_mem h4),zero_gm,if_neg (by omega)]
   · have h4:k < L.length:=by omega
     rw [tell_low h.byt (by omega) (by omega) h3,swap_low (by omega) (by omega)]
     by_cases e':k'=L.length
     · subst e'
       rw [List.getElem_append_right (by omega)]
       simp only [Nat.sub_self,List.getElem_singleton]
       show C.m k i^^^gm (gm (C.m k i) (gi (C.m r i))) (C.m r i)=_
       rw [off_at (h.byt k i) (h.byt r i) h3,if_neg e]
     · have h0:k' < L.length:=by omega
       rw [List.getElem_append_left h0]
       show C.m k L[k']^^^gm _ (C.m r L[k'])=_
       rw [h5 _ (List.getElem_mem h0),gm_zero,Nat.xor_zero,h.one k h4 k' h0]
 · intro v
   have:=tell_rows (i:=i) h.byt h1 h2 h3 v
   show Span (From (tellAt C i r) (C.told+1)) v↔_
   rw [this,h.spare v]
   constructor
   · rintro ⟨⟨a,b⟩,c⟩
     exact ⟨a,fun j hj=>by rcases List.mem_append.1 hj with hj | hj;exact b j hj;rw [List.mem_singleton.1 hj];exact c⟩
   · rintro ⟨a,b⟩
     exact ⟨⟨a,fun j hj=>b j (List.mem_append_left _ hj)⟩,b i (by simp)⟩
theorem ToldBy.of {C0:Ck} (hX:Lin X) (h0:C0.told=0) (hb:Byt C0) (ha:∀ k,k < C0.count→X (C0.m k)):∀ (L' L:List Nat) (C:Ck),ToldBy C0 X L C→tells C0 L=some C →
 (∃ C',tells C0 (L ++ L')=some C'∧ToldBy C0 X (L ++ L') C')∨(tells C0 (L ++ L')=none∧∃ pre i,(pre ++ [i]) <+: (L ++ L')∧∀ v,Span (From C0 0) v→(∀ j∈pre,v j=0)→v i=0)
 | [],L,C,h,e=>.inl ⟨C,by simpa using e,by simpa using h⟩
 | i :: L',L,C,h,e=>by
  have e1:L ++ i :: L'=(L ++ [i]) ++ L':=by simp
  cases ht:tell C i with
  | none=>
   right
   have e2:tells C0 (L ++ [i])=none:=by rw [tells_snoc,e];exact ht
   refine ⟨by rw [e1];exact tells_none_append _ _ _ e2,L,i,by rw [e1];exact List.prefix_append _ _,?_⟩
   intro v hv hz
   have hn:spareAt C i=none:=by
    unfold tell at ht;exact Option.map_eq_none_iff.1 ht
   exact Span.nought (fun r hr=>by obtain ⟨k,k1,k2,rfl⟩:=hr;exact spareAt_none hn k k1 k2) ((h.spare v).2 ⟨hv,hz⟩)
  | some C'=>
   have h':=h.snoc hX ht
   have e2:tells C0 (L ++ [i])=some C':=by rw [tells_snoc,e];exact ht
   rw [e1]
   exact ToldBy.of hX h0 hb ha L' (L ++ [i]) C' h' e2
end Go.Proofs.YthcgahldacpolaaGreatDoor.Gf
