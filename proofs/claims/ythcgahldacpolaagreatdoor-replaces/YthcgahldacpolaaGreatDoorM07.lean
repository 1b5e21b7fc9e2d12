import Derived.Test.YthcgahldacpolaaGreatDoorM02
set_option maxRecDepth 100000
set_option maxHeartbeats 8000000
namespace Go.Proofs.YthcgahldacpolaaGreatDoor.Gf
variable {R:(Nat→Nat)→Prop} {c:Nat} {r:Nat→Nat}
def byteV (v:Nat→Nat):Prop:=∀ j,v j < 256
def addV (u:Nat→Nat) (a:Nat) (r:Nat→Nat):Nat→Nat:=fun j=>u j^^^gm a (r j)
def Span (R:(Nat→Nat)→Prop) (v:Nat→Nat):Prop:=∀ S:(Nat→Nat)→Prop,S (fun _=>0)→(∀ a r u,a < 256→R r→S u→S (addV u a r))→S v
theorem Span.zero (R:(Nat→Nat)→Prop):Span R (fun _=>0):=fun _ h0 _=>h0
theorem Span.step {u:Nat→Nat} {a:Nat} (hu:Span R u) (ha:a < 256) (hr:R r):Span R (addV u a r):=fun S h0 hs=>hs a r u ha hr (hu S h0 hs)
theorem Span.byte {v:Nat→Nat} (h:Span R v):byteV v:=
 h byteV (fun _=>by show 0 < 256;decide) (fun _ _ _ ha _ hu j=>xlt (hu j) (gm_lt _ ha))
theorem addV_zero (u:Nat→Nat) (r:Nat→Nat):addV u 0 r=u:=by funext j;simp [addV,zero_gm]
theorem Span.mem (hb:byteV r) (hr:R r):Span R r:=by
 have:=Span.step (Span.zero R) (a:=1) (by decide) hr
 have e:addV (fun _=>0) 1 r=r:=by
  funext j
  show 0^^^gm 1 (r j)=r j
  rw [gm_comm (by decide) (hb j),gm_one _ (hb j),Nat.zero_xor]
 rw [e] at this;exact this
theorem Span.add (hR:∀ r,R r→byteV r) {u v:Nat→Nat} (hu:Span R u) {b:Nat} (hb:b < 256) (hv:Span R v):Span R (addV u b v):=by
 refine hv (fun x=>Span R (addV u b x)) ?_ ?_
 · have e:addV u b (fun _=>0)=u:=by funext j;simp [addV,gm_zero]
   show Span R (addV u b (fun _=>0))
   rw [e];exact hu
 · intro a r x ha hr hx
   have e:addV u b (addV x a r)=addV (addV u b x) (gm b a) r:=by
    funext j
    show u j^^^gm b (x j^^^gm a (r j))=(u j^^^gm b (x j))^^^gm (gm b a) (r j)
    rw [gm_add,gm_assoc hb ha (hR r hr j),Nat.xor_assoc]
   show Span R (addV u b (addV x a r))
   rw [e]
   exact hx.step (gm_lt _ hb) hr
theorem Span.sub {R':(Nat→Nat)→Prop} (hR:∀ r,R r→byteV r) (h:∀ r,R' r→Span R r) {v:Nat→Nat} (hv:Span R' v):Span R v:=
 hv (Span R) (Span.zero R) (fun _ r _ ha hr hu=>Span.add hR hu ha (h r hr))
theorem Span.nought (h:∀ r,R r→r c=0) {v:Nat→Nat} (hv:Span R v):v c=0:=
 hv (fun x=>x c=0) rfl (fun a r u _ hr (hu:u c=0)=>by show u c^^^gm a (r c)=0;rw [hu,h r hr,gm_zero];exact Nat.xor_self 0)
theorem Span.worked {R1:(Nat→Nat)→Prop} {p:Nat→Nat} (hR:∀ r,R r→byteV r) (hp:R p) (h4:p c≠0)
 (h1:∀ r,R1 r→∃ q f,R q∧f < 256∧r=addV q f p∧r c=0)
 (h2:∀ q,R q→q=p∨∃ f r,f < 256∧R1 r∧q=addV r f p) (v:Nat→Nat):Span R1 v↔Span R v∧v c=0:=by
 have h7:∀ r,R1 r→byteV r:=by
  intro r hr
  obtain ⟨q,f,hq,hf,rfl,_⟩:=h1 r hr
  exact fun j=>xlt (hR q hq j) (gm_lt _ hf)
 constructor
 · intro hv
   refine ⟨Span.sub hR (fun r hr=>?_) hv,Span.nought (fun r hr=>?_) hv⟩
   · obtain ⟨q,f,hq,hf,rfl,_⟩:=h1 r hr
     exact (Span.mem (hR q hq) hq).step hf hp
   · obtain ⟨q,f,_,_,_,h⟩:=h1 r hr
     exact h
 · rintro ⟨hv,hc⟩
   have key:∃ b,b < 256∧Span R1 (addV v b p):=by
    refine hv (fun x=>∃ b,b < 256∧Span R1 (addV x b p)) ⟨0,by decide,by rw [addV_zero];exact Span.zero R1⟩ ?_
    rintro a q u ha hq ⟨b,hb,hu⟩
    rcases h2 q hq with rfl | ⟨f,r,hf,hr,rfl⟩
    · refine ⟨b^^^a,xlt hb ha,?_⟩
      have e:addV (addV u a q) (b^^^a) q=addV u b q:=by
       funext j
       show (u j^^^gm a (q j))^^^gm (b^^^a) (q j)=u j^^^gm b (q j)
       rw [add_gm _ hb ha,Nat.xor_assoc,Nat.xor_comm (gm b (q j)),← Nat.xor_assoc (gm a (q j)),Nat.xor_self,Nat.zero_xor]
      rw [e];exact hu
    · refine ⟨b^^^gm a f,xlt hb (gm_lt _ ha),?_⟩
      have e:addV (addV u a (addV r f p)) (b^^^gm a f) p=addV (addV u b p) a r:=by
       funext j
       show (u j^^^gm a (r j^^^gm f (p j)))^^^gm (b^^^gm a f) (p j)=(u j^^^gm b (p j))^^^gm a (r j)
       rw [gm_add,add_gm _ hb (gm_lt _ ha),gm_assoc ha hf (hR p hp j)]
       generalize gm a (gm f (p j))=t
       generalize gm b (p j)=s
       generalize gm a (r j)=y
       generalize u j=z
       apply Nat.eq_of_testBit_eq
       intro i
       simp only [Nat.testBit_xor]
       cases z.testBit i <;> cases y.testBit i <;> cases t.testBit i <;> cases s.testBit i <;> rfl
      rw [e];exact hu.step ha hr
   obtain ⟨b,hb,hs⟩:=key
   have h0:=Span.nought (fun r hr=>by obtain ⟨q,f,_,_,_,h⟩:=h1 r hr;exact h) hs
   have h5:gm b (p c)=0:=by
    have:v c^^^gm b (p c)=0:=h0
    rwa [hc,Nat.zero_xor] at this
   have h6:b=0:=by
    have h3:=hR p hp c
    have hi:=gi_lt h3
    have e:=gm_assoc hb h3 hi
    rw [h5,zero_gm,gm_gi _ h3 h4,gm_one b hb] at e
    exact e.symm
   rw [h6,addV_zero] at hs
   exact hs
def Taken:Nat→((Nat→Nat)→Prop)→Nat→Nat→Prop
 | 0,_,_,k=>k=0
 | n+1,R,c,k=>((∀ r,R r→r c=0)∧Taken n R (c+1) k)∨(∃ p,R p∧p c≠0)∧∃ R1,(∀ r,R1 r→byteV r)∧(∀ v,Span R1 v↔Span R v∧v c=0)∧∃ k',k=k'+1∧Taken n R1 (c+1) k'
theorem Taken.none:∀ n (R:(Nat→Nat)→Prop) (c:Nat),(∀ j,c≤j→∀ r,R r→r j=0)→Taken n R c 0
 | 0,_,_,_=>rfl
 | n+1,R,c,h=>.inl ⟨h c (Nat.le_refl _),Taken.none n R (c+1) (fun j hj=>h j (by omega))⟩
end Go.Proofs.YthcgahldacpolaaGreatDoor.Gf
