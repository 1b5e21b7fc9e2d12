import Derived.Test.YthcgahldacpolaaGreatDoorM10
set_option maxRecDepth 100000
set_option maxHeartbeats 8000000
namespace Go.Proofs.YthcgahldacpolaaGreatDoor.Gf
variable {i s j:Nat}
def readsB (C:Ck) (i:Nat):Bool:=(List.range C.told).any (fun r=>decide (C.m r i≠0))
theorem readsB_false {C:Ck}:readsB C i=false↔∀ r,r < C.told→C.m r i=0:=by
 unfold readsB
 rw [List.any_eq_false]
 constructor
 · intro h r hr;have:=h r (List.mem_range.2 hr);simpa using this
 · intro h r hr;simp [h r (List.mem_range.1 hr)]
theorem readsB_true {C:Ck} {r:Nat} (h1:r < C.told) (h2:C.m r i≠0):readsB C i=true:=by
 cases h:readsB C i with
 | true=>rfl
 | false=>exact absurd (readsB_false.1 h r h1) h2
def cntR (K:List Nat) (C:Ck):Nat:=(K.filter (readsB C)).length
abbrev Srch:=Ck×Nat
def stepS (K:List Nat) (s:Srch) (C:Ck):Srch:=if cntR K C=0∨cntR K C < s.2 then (C,cntR K C) else s
def mems (s:Nat):List Nat:=(List.range 16).filter (fun i=>s.testBit i)
def behindN (s i:Nat):Nat:=s / 2^(i+1)*2^(i+1)
theorem behindN_bit (s i j:Nat):(behindN s i).testBit j=(decide (i < j) && s.testBit j):=by
 unfold behindN
 rw [Nat.testBit_mul_two_pow]
 by_cases h:i+1≤j
 · simp only [Nat.testBit_div_two_pow]
   rw [show j - (i+1)+(i+1)=j by omega]
   simp [h,show i < j by omega]
 · simp [h,show ¬ i < j by omega]
theorem mems_sorted (s:Nat):(mems s).Pairwise (· < ·):=(List.pairwise_lt_range (n:=16)).filter _
theorem mem_mems:i∈mems s↔i < 16∧s.testBit i=true:=by unfold mems;rw [List.mem_filter,List.mem_range]
theorem mems_behind {pre R:List Nat} (h:mems s=pre ++ i :: R):mems (behindN s i)=R:=by
 have e:mems (behindN s i)=(mems s).filter (fun j=>decide (i < j)):=by
  unfold mems
  rw [List.filter_filter]
  apply List.filter_congr
  intro j _
  rw [behindN_bit]
 have hs:=mems_sorted s
 rw [h] at hs
 rw [e,h,List.filter_append,List.filter_cons]
 obtain ⟨h1,h2,h3⟩:=List.pairwise_append.1 hs
 obtain ⟨h4,h5⟩:=List.pairwise_cons.1 h2
 have e1:pre.filter (fun j=>decide (i < j))=[]:=List.filter_eq_nil_iff.2 (fun j hj=>by have:=h3 j hj i (by simp);simp;omega)
 have e2:R.filter (fun j=>decide (i < j))=R:=List.filter_eq_self.2 (fun j hj=>by have:=h4 j hj;simp;omega)
 rw [e1,e2]
 simp
def visF (rec:Ck→Nat→Nat→Srch→Srch) (C:Ck) (of:Nat) (a:Nat×Srch×Bool) (i:Nat):Nat×Srch×Bool:=
 if a.2.2=true then a else if ¬ a.1 < a.2.1.2 then (a.1,a.2.1,true) else
  match leave C i with
  | none=>a
  | some C'=>(a.1+1,rec C' (behindN of i) a.1 a.2.1,false)
def visitS (K:List Nat):Nat→Ck→Nat→Nat→Srch→Srch
 | 0,C,of,p,st=>((mems of).foldl (visF (fun _ _ _ s=>s) C of) (p,stepS K st C,false)).2.1
 | n+1,C,of,p,st=>((mems of).foldl (visF (visitS K n) C of) (p,stepS K st C,false)).2.1
def recS (K:List Nat):Nat→Ck→Nat→Nat→Srch→Srch
 | 0=>fun _ _ _ s=>s
 | n+1=>visitS K n
theorem visitS_eq (K:List Nat) (n:Nat) (C:Ck) (of p:Nat) (st:Srch):visitS K n C of p st=((mems of).foldl (visF (recS K n) C of) (p,stepS K st C,false)).2.1:=by
 cases n <;> rfl
theorem stepS_le (K:List Nat) (s:Srch) (C:Ck):(stepS K s C).2≤s.2:=by
 unfold stepS;split
 · show cntR K C≤s.2;omega
 · exact Nat.le_refl _
theorem stepS_cnt (K:List Nat) (s:Srch) (C:Ck):(stepS K s C).2≤cntR K C:=by
 unfold stepS;split
 · exact Nat.le_refl _
 · show s.2≤cntR K C;omega
theorem visF_le {rec:Ck→Nat→Nat→Srch→Srch} (h:∀ C of p s,(rec C of p s).2≤s.2) (C:Ck) (of:Nat) (a:Nat×Srch×Bool) (i:Nat):(visF rec C of a i).2.1.2≤a.2.1.2:=by
 unfold visF
 split
 · exact Nat.le_refl _
 · split
   · exact Nat.le_refl _
   · split
     · exact Nat.le_refl _
     · exact h _ _ _ _
theorem foldF_le {rec:Ck→Nat→Nat→Srch→Srch} (h:∀ C of p s,(rec C of p s).2≤s.2) (C:Ck) (of:Nat):∀ (L:List Nat) (a:Nat×Srch×Bool),(L.foldl (visF rec C of) a).2.1.2≤a.2.1.2
 | [],_=>Nat.le_refl _
 | i :: L,a=>Nat.le_trans (foldF_le h C of L (visF rec C of a i)) (visF_le h C of a i)
theorem visitS_le (K:List Nat):∀ n C of p s,(visitS K n C of p s).2≤s.2
 | 0,C,of,_,s=>Nat.le_trans (foldF_le (fun _ _ _ _=>Nat.le_refl _) C of _ _) (stepS_le K s C)
 | n+1,C,of,_,s=>Nat.le_trans (foldF_le (visitS_le K n) C of _ _) (stepS_le K s C)
theorem recS_le (K:List Nat) (n:Nat):∀ C of p s,(recS K n C of p s).2≤s.2:=by
 cases n with
 | zero=>exact fun _ _ _ _=>Nat.le_refl _
 | succ n=>exact visitS_le K n
theorem visF_done (rec:Ck→Nat→Nat→Srch→Srch) (C:Ck) (of:Nat) (p:Nat) (s:Srch):∀ L:List Nat,L.foldl (visF rec C of) (p,s,true)=(p,s,true)
 | []=>rfl
 | i :: L=>by
  have e:visF rec C of (p,s,true) i=(p,s,true):=by unfold visF;rw [if_pos rfl]
  rw [List.foldl_cons,e]
  exact visF_done rec C of p s L
def Dead (C:Ck) (j:Nat):Prop:=∀ r,C.told≤r→r < C.count→C.m r j=0
theorem Dead.span {C:Ck} (h:Dead C j) {v:Nat→Nat} (hv:Span (From C C.told) v):v j=0:=
 Span.nought (fun r hr=>by obtain ⟨k,k1,k2,rfl⟩:=hr;exact h k k1 k2) hv
theorem leave_cases {C C':Ck} (h:leave C i=some C'):∃ r,C'=leaveAt C i r∧C.told≤r∧r < C.count∧C.m r i≠0:=by
 unfold leave at h
 rw [Option.map_eq_some_iff] at h
 obtain ⟨r,hr,rfl⟩:=h
 obtain ⟨h1,h2,h3⟩:=spareAt_some hr
 exact ⟨r,rfl,h1,h2,h3⟩
theorem leave_dead {C C':Ck} (hb:Byt C) (h:leave C i=some C') (hd:Dead C j∨j=i):Dead C' j:=by
 obtain ⟨r,rfl,h1,h2,h3⟩:=leave_cases h
 intro k k1 k2
 have:=(leave_rows (t:=C.told) hb (Nat.le_refl _) h1 h2 h3 ((leaveAt C i r).m k)).1 (Span.mem (leave_byte hb k) ⟨k,k1,k2,rfl⟩)
 rcases hd with hd | rfl
 · exact hd.span this.1
 · exact this.2
theorem xor_eq {x y:Nat} (h:x^^^y=0):x=y:=by
 have:=congrArg (·^^^y) h
 simp only [Nat.zero_xor] at this
 rwa [Nat.xor_assoc,Nat.xor_self,Nat.xor_zero] at this
inductive Reach (C:Ck):Ck→Prop
 | refl:Reach C C
 | step {C1 C2:Ck} {i:Nat}:Reach C C1→leave C1 i=some C2→Reach C C2
theorem Reach.trans {A B C:Ck} (h:Reach A B) (h':Reach B C):Reach A C:=by
 induction h' with
 | refl=>exact h
 | step _ hl ih=>exact .step ih hl
def Found (K:List Nat) (C:Ck) (s s':Srch):Prop:=s'=s∨(Reach C s'.1∧s'.2=cntR K s'.1)
theorem stepS_found (K:List Nat) (s:Srch) (C:Ck):Found K C s (stepS K s C):=by
 unfold stepS;split
 · exact .inr ⟨.refl,rfl⟩
 · exact .inl rfl
theorem fold_found {K:List Nat} {rec:Ck→Nat→Nat→Srch→Srch} (h:∀ C of p s,Found K C s (rec C of p s)) (C:Ck) (of:Nat):∀ (L:List Nat) (a:Nat×Srch×Bool),Found K C a.2.1 (L.foldl (visF rec C of) a).2.1
 | [],_=>.inl rfl
 | i :: L,a=>by
  have h1:Found K C a.2.1 (visF rec C of a i).2.1:=by
   unfold visF
   split
   · exact .inl rfl
   · split
     · exact .inl rfl
     · split
       · exact .inl rfl
       · rename_i C' hl
         rcases h C' (behindN of i) a.1 a.2.1 with e | ⟨hr,hc⟩
         · exact .inl e
         · exact .inr ⟨Reach.trans (.step .refl hl) hr,hc⟩
  rcases fold_found h C of L (visF rec C of a i) with e | hr
  · rw [List.foldl_cons,e];exact h1
  · exact .inr hr
theorem visitS_found (K:List Nat):∀ n C of p s,Found K C s (visitS K n C of p s):=by
 have comb:∀ {rec:Ck→Nat→Nat→Srch→Srch} (_:∀ C of p s,Found K C s (rec C of p s)) C of p s,Found K C s ((mems of).foldl (visF rec C of) (p,stepS K s C,false)).2.1:=by
  intro rec h C of p s
  rcases fold_found h C of (mems of) (p,stepS K s C,false) with e | hr
  · rw [e];exact stepS_found K s C
  · exact .inr hr
 intro n
 induction n with
 | zero=>exact comb (fun _ _ _ _=>.inl rfl)
 | succ n ih=>exact comb ih
def fewestS (n:Nat) (C:Ck) (kept:Nat):Srch:=visitS (mems kept) n C kept 0 (C,(mems kept).length)
theorem cntR_le (K:List Nat) (C:Ck):cntR K C≤K.length:=List.length_filter_le _ _
theorem fewest_found (n:Nat) (C:Ck) (kept:Nat):Reach C (fewestS n C kept).1∧(fewestS n C kept).2=cntR (mems kept) (fewestS n C kept).1:=by
 rcases visitS_found (mems kept) n C kept 0 (C,(mems kept).length) with e | h
 · have h0:(fewestS n C kept).2≤cntR (mems kept) C:=by
    unfold fewestS
    rw [visitS_eq]
    exact Nat.le_trans (foldF_le (recS_le _ n) C kept _ _) (stepS_cnt _ _ C)
   have e':fewestS n C kept=(C,(mems kept).length):=e
   rw [e'] at h0 ⊢
   exact ⟨.refl,Nat.le_antisymm h0 (cntR_le _ _)⟩
 · exact h
theorem Reach.good {C C':Ck} {X:(Nat→Nat)→Prop} {L:List Nat} (hX:Lin X) (hr:Reach C C') (hb:Byt C) (h5:C.told≤C.count) (h4:∀ k,k < C.count→X (C.m k))
 (h6:∀ j∈L,Dead C j) :
 Byt C'∧C'.told=C.told∧C'.told≤C'.count∧C'.count≤C.count∧(∀ k,k < C'.count→X (C'.m k))∧(∀ k,k < C.told→∀ j∈L,C'.m k j=C.m k j)∧∀ j∈L,Dead C' j:=by
 induction hr with
 | refl=>exact ⟨hb,rfl,h5,Nat.le_refl _,h4,fun _ _ _ _=>rfl,h6⟩
 | step _ hl ih=>
  obtain ⟨b,t,le,cc,al,on,sp⟩:=ih
  rename_i C1 C2 i _
  obtain ⟨r,h0,h1,h2,h3⟩:=leave_cases hl
  refine ⟨by rw [h0];exact leave_byte b,by rw [h0];exact t,by rw [h0];show C1.told≤C1.count - 1;omega,by rw [h0];show C1.count - 1≤_;omega,by rw [h0];exact leave_all hX b h2 al,?_,fun j hj=>leave_dead b hl (.inl (sp j hj))⟩
  intro k hk j hj
  rw [h0,leave_told (by omega) h1 h2]
  show C1.m k j^^^gm _ (C1.m r j)=_
  rw [sp j hj r h1 h2,gm_zero,Nat.xor_zero,on k hk j hj]
end Go.Proofs.YthcgahldacpolaaGreatDoor.Gf
