import Derived.Test.YthibhmemkhmocaaGreatDoorTie
import Derived.Test.YthibhmemkhmocaaGreatDoorCards
import Derived.Test.YthibhmemkhmocaaGreatDoorM08
import Derived.SevenTiedAt
set_option maxRecDepth 100000
set_option maxHeartbeats 8000000
open List renaming mem_append -> YF
open Option.some renaming inj -> YG
open Go.Proofs.Tryz renaming prog -> Z9
namespace Go.Proofs.YthibhmemkhmocaaGreatDoor.degraded
open Go.ChangeShapes Go.WideShapes Go.RowKit Go.Joins
section
section
variable {H:Type} {enc:TypeId×Value->H} {P:Program} {w:World} {base:Nat} {spare:Nat->Bool} {held:Bool} {t0 t1 t2 t3 t4 t5 t6:TypeId}
theorem seven {args:Array Value} {ds:List (DataW H)} {ps:List MemPlace} (h:DataW.TrodAll enc P w base spare held [t0,t1,t2,t3,t4,t5,t6] args.toList ds ps) :
 ∃ o p q r s t u a d1 b c d e f g i j k l m n,args=#[o,p,q,r,s,t,u]/\ds=[a,d1,b,c,d,e,f]/\ps=g++i++j++k++l++m++n/\DataW.Trod enc P w base spare held t0 o a g/\DataW.Trod enc P w base spare held t1 p d1 i/\DataW.Trod enc P w base spare held t2 q b j/\DataW.Trod enc P w base spare held t3 r c k/\DataW.Trod enc P w base spare held t4 s d l/\DataW.Trod enc P w base spare held t5 t e m/\DataW.Trod enc P w base spare held t6 u f n:=by
 obtain ⟨o,T,a,v,g,q0,h7,rfl,rfl,D,L⟩:=trodAll_cons h;obtain ⟨p,U,d1,x,i,q1,rfl,rfl,rfl,E,M⟩:=trodAll_cons L;obtain ⟨q,V,b,y,j,q2,rfl,rfl,rfl,F,N⟩:=trodAll_cons M;obtain ⟨r,W,c,z,k,q3,rfl,rfl,rfl,G,O⟩:=trodAll_cons N;obtain ⟨s,X,d,A,l,q4,rfl,rfl,rfl,I,Q⟩:=trodAll_cons O;obtain ⟨t,Y,e,B,m,q5,rfl,rfl,rfl,J,R⟩:=trodAll_cons Q;obtain ⟨u,Z,f,C,n,q6,rfl,rfl,rfl,K,S⟩:=trodAll_cons R;obtain ⟨rfl,rfl,rfl⟩:=trodAll_nil S;exact ⟨o,p,q,r,s,t,u,a,d1,b,c,d,e,f,g,i,j,k,l,m,n,by cases args;simp_all,rfl,by simp,D,E,F,G,I,J,K⟩
theorem mk7 {v0 v1 v2 v3 v4 v5 v6:Value} {d0 d1 d2 d3 d4 d5 d6:DataW H} {p0 p1 p2 p3 p4 p5 p6:List MemPlace} (a:DataW.Trod enc P w base spare held t0 v0 d0 p0) (b:DataW.Trod enc P w base spare held t1 v1 d1 p1) (c:DataW.Trod enc P w base spare held t2 v2 d2 p2) (d:DataW.Trod enc P w base spare held t3 v3 d3 p3) (e:DataW.Trod enc P w base spare held t4 v4 d4 p4) (f:DataW.Trod enc P w base spare held t5 v5 d5 p5) (g:DataW.Trod enc P w base spare held t6 v6 d6 p6) :
 DataW.TrodAll enc P w base spare held [t0,t1,t2,t3,t4,t5,t6] [v0,v1,v2,v3,v4,v5,v6] [d0,d1,d2,d3,d4,d5,d6] (p0++(p1++(p2++(p3++(p4++(p5++p6)))))):=⟨p0,p1++(p2++(p3++(p4++(p5++p6)))),a,⟨p1,p2++(p3++(p4++(p5++p6))),b,Cj c d e f g,rfl⟩,rfl⟩
end
theorem lifted (os:Os) (started:os.Started) (H:Type) (enc:TypeId×Value->H) :
 ReturnsInHanded {} Tryz.checked os 3 .any (λw args=>(Rows.degradedSpec.pre enc Z9 Tryz.f3 [] false w args/\laidMetH Z9 tP w)/\sizedMet enc Z9 Tryz.f3 (OpenSpec.ofChange Rows.degradedSpec) false w args)
  (Rows.degradedSpec.post enc Z9 Tryz.f3 false true false false):=by
 refine returnsInHanded_of_change_and (C:=Tryz.checked) (X:=λw _=>laidMetH Z9 tP w) (λ_ _ _ Z h=>h.of_heap Z) Tryz.own started (by kernel_rfl) Tryz.func3
  (ChangeSpec.witness_at (enc:=enc) (C:=Tryz.checked) (os:=os) (X:=λw _=>laidMetH Z9 tP w) false (tQ os) #[.slice none 0 0,.int .i64 0,.int .i64 0,.int .i64 0,.int .i64 0,.int .u64 0,.slice none 0 0] 7 rfl (by kernel_rfl) (by kernel_rfl) (by kernel_rfl) (by kernel_rfl) (by kernel_rfl) (tR os _)) ?_
 intro W base args ds d before P E _ T Q _;have a:∀ (j:Nat) t v,Tryz.f3.params[j]?=some t->args[j]?=some v->Value.okWide Z9 W .any base t v:=P;have i:=E;obtain ⟨p,q,hj,hp,rfl,hy,hz⟩:=E;have B:DataW.TrodAll enc Z9 W 0 (λ_=>true) true Tryz.f3.params.toList args.toList ds p:=hj;have D:DataW.TrodVars enc Z9 W (λ_=>true) [] d q:=hp;have G:(DataW.weightsEach Z9 (Tryz.f3.params.toList++Rows.degradedSpec.plain.varTypes Z9) (ds++d)).all (λn=>decide (n<=reachBytes))=true:=T;rw [Tryz.params3] at B a G;obtain ⟨v0,v1,v2,v3,v4,v5,v6,d0,d1,d2,d3,d4,d5,d6,p0,p1,p2,p3,p4,p5,p6,rfl,rfl,rfl,z,K,L,M,N,O,A⟩:=seven B;obtain ⟨rfl,rfl⟩:d=[]/\q=[]:=by
  cases d with
  | nil=>exact ⟨rfl,D⟩
  | cons g r=>exact absurd D (by intro h;cases h)
 obtain ⟨ao,len,cap,rfl⟩:=okWide_slice Tryz.underlying22 (a 0 22 v0 rfl rfl);obtain ⟨l,hl,hs⟩:=vI z (λn hn=>by simpa using List.all_eq_true.1 G n (DataW.weights_mem_each (j:=0) (t:=22) rfl rfl n hn));obtain ⟨x1,rfl,rfl,rfl,m⟩:=open_int Tryz.underlying3 (a 1 3 v1 rfl rfl) K;obtain ⟨x2,rfl,rfl,rfl,o⟩:=open_int Tryz.underlying3 (a 2 3 v2 rfl rfl) L;obtain ⟨x3,rfl,rfl,rfl,s⟩:=open_int Tryz.underlying3 (a 3 3 v3 rfl rfl) M;obtain ⟨x4,rfl,rfl,rfl,u⟩:=open_int Tryz.underlying3 (a 4 3 v4 rfl rfl) N;obtain ⟨f,rfl,rfl,rfl,c⟩:=open_int Tryz.underlying23 (a 5 23 v5 rfl rfl) O;have hv:(0:Int)<=f/\f<=18446744073709551615:=by have h:=c;simpa [Lit.wf,IntKind.min,IntKind.max,IntKind.bits,IntKind.signed] using h
 obtain ⟨S,R,hm⟩:∃ S:Nat,S<18446744073709551616/\f=(S:Int):=⟨f.toNat,by omega,by omega⟩;clear hv;subst hm;obtain ⟨J,I,y,rfl⟩:=okWide_slice Tryz.underlying24 (a 6 24 v6 rfl rfl);obtain ⟨fl,hq⟩:=vJ A;obtain ⟨Y,U,hr,hk⟩:=Ci Q;simp only [List.append_nil] at i;have F:=λx b=>i.lt x b;refine (PG hl hs x1 x2 x3 x4 S R hq Y hr U hk).mono λe W' ⟨V,k⟩=>?_;subst V;refine ⟨_,rfl,_,_,_,[],_,[],i,?_,mk7 (Below.trod Tryz.SP (by kernel_rfl) (of_decide_eq_true (by kernel_rfl)) z k (λx b=>F x (by simp only [YF];exact .inl b))) (shut_int Tryz.underlying3 m) (shut_int Tryz.underlying3 o) (shut_int Tryz.underlying3 s) (shut_int Tryz.underlying3 u) (shut_int Tryz.underlying23 c) (Below.trod Tryz.SP (by kernel_rfl) (of_decide_eq_true (by kernel_rfl)) A k (λx b=>F x (by simp only [YF];exact .inr b))) ,?_,k.frame _,λh=>by cases h⟩
 . exact trodAll_mk1 (shut_bool Tryz.underlying4 true)
 . rfl
theorem row_holds:Rows.DegradedSaid:=
 OpenClaim.holds_of_wide 3 Tryz.f3 rfl rfl rfl rfl rfl rfl rfl ⟨rfl,rfl,rfl,rfl,rfl⟩ rfl rfl rfl rfl rfl (by kernel_rfl) Tryz.func3 (by kernel_rfl)
  (of_decide_eq_true (by kernel_rfl)) (by unfold Func.isWrapper;rw [if_neg (of_decide_eq_false (by kernel_rfl))];exact ⟨rfl,rfl⟩)
  (λos started H enc _=>lifted os started H enc)
theorem proved:Rows.DegradedCardSaid:=
 Claim7.holds_tied_plain_at .later [] [.data,.handle,.data] true (true,"130c253e522020ee49c02125e3a39f35b8c09c98ad074d7d830c75016714dd3f") true
  row_holds (λ_ h=>by cases h) (by kernel_rfl) (λ_ h=>by cases h) degraded_row_tie rfl ⟨rfl,rfl⟩ (by kernel_rfl) rfl
  (λf fn d b=>by
   obtain rfl:f=3:=YG ((show Z9.funcNamed "stripes/stripeslaw.Degraded"=some 3 by kernel_rfl).symm.trans d) |>.symm;obtain rfl:fn=Tryz.f3:=(YG (Tryz.func3.symm.trans b)).symm;exact ⟨by kernel_rfl,λj t a=>by
    rw [Tryz.params3] at a;have c:t=22\/t=3\/t=23\/t=24:=by
     rcases j with _|_|_|_|_|_|_|j
     . exact .inl (by simpa using a.symm)
     . exact .inr (.inl (by simpa using a.symm))
     . exact .inr (.inl (by simpa using a.symm))
     . exact .inr (.inl (by simpa using a.symm))
     . exact .inr (.inl (by simpa using a.symm))
     . exact .inr (.inr (.inl (by simpa using a.symm)))
     . exact .inr (.inr (.inr (by simpa using a.symm)))
     . simp at a
    rcases c with rfl|rfl|rfl|rfl
    . exact (show Z9.wantsStandIn 22=false by kernel_rfl)
    . exact (show Z9.wantsStandIn 3=false by kernel_rfl)
    . exact (show Z9.wantsStandIn 23=false by kernel_rfl)
    . exact (show Z9.wantsStandIn 24=false by kernel_rfl)⟩)
  (by kernel_rfl)
#print axioms proved
end
