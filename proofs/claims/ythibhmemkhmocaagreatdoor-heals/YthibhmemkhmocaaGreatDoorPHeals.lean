import Derived.Test.YthibhmemkhmocaaGreatDoorTie
import Derived.Test.YthibhmemkhmocaaGreatDoorCards
import Derived.Test.YthibhmemkhmocaaGreatDoorM08
import Derived.SevenTiedAt
set_option maxRecDepth 100000
set_option maxHeartbeats 8000000
open Option.some renaming inj -> YE
open Go.Proofs.Tryz renaming prog -> Z9
namespace Go.Proofs.YthibhmemkhmocaaGreatDoor.heals
open Go.ChangeShapes Go.WideShapes Go.RowKit Go.Joins
theorem lifted (os:Os) (started:os.Started) (H:Type) (enc:TypeId×Value->H) :
 ReturnsInHanded {} Tryz.checked os 4 .any (λw args=>(Rows.healsSpec.pre enc Z9 Tryz.f4 [] false w args/\laidMetH Z9 ts w)/\sizedMet enc Z9 Tryz.f4 (OpenSpec.ofChange Rows.healsSpec) false w args)
  (Rows.healsSpec.post enc Z9 Tryz.f4 false true false false):=by
 refine returnsInHanded_of_change_and (C:=Tryz.checked) (X:=λw _=>laidMetH Z9 ts w) (λ_ _ _ O h=>h.of_heap O) Tryz.own started (by kernel_rfl) Tryz.func4
  (ChangeSpec.witness_at (enc:=enc) (C:=Tryz.checked) (os:=os) (X:=λw _=>laidMetH Z9 ts w) false (tw os) #[.slice none 0 0,.int .i64 0,.int .i64 0,.int .i64 0] 7 rfl (by kernel_rfl) (by kernel_rfl) (by kernel_rfl) (by kernel_rfl) (by kernel_rfl) (tA os _)) ?_
 intro W base args ds b before E y _ F I _;have a:∀ (j:Nat) t v,Tryz.f4.params[j]?=some t->args[j]?=some v->Value.okWide Z9 W .any base t v:=E;have c:=y;obtain ⟨p,q,J,K,rfl,hj,hm⟩:=y;have s:DataW.TrodAll enc Z9 W 0 (λ_=>true) true Tryz.f4.params.toList args.toList ds p:=J;have u:DataW.TrodVars enc Z9 W (λ_=>true) [] b q:=K;have o:(DataW.weightsEach Z9 (Tryz.f4.params.toList++Rows.healsSpec.plain.varTypes Z9) (ds++b)).all (λn=>decide (n<=reachBytes))=true:=F;rw [Tryz.params4] at s a o;obtain ⟨S,T,U,V,d0,d1,d2,d3,p0,p1,p2,p3,rfl,rfl,rfl,m,A,B,D⟩:=trodAll_four s;obtain ⟨rfl,rfl⟩:b=[]/\q=[]:=by
  cases b with
  | nil=>exact ⟨rfl,u⟩
  | cons g r=>exact absurd u (by intro h;cases h)
 obtain ⟨ao,len,cap,rfl⟩:=okWide_slice Tryz.underlying54 (a 0 54 S rfl rfl);obtain ⟨l,hl⟩:=wh m (λn R=>by simpa using List.all_eq_true.1 o n (DataW.weights_mem_each (j:=0) (t:=54) rfl rfl n R));obtain ⟨Y,rfl,rfl,rfl,f⟩:=open_int Tryz.underlying3 (a 1 3 T rfl rfl) A;obtain ⟨Z,rfl,rfl,rfl,i⟩:=open_int Tryz.underlying3 (a 2 3 U rfl rfl) B;obtain ⟨x3,rfl,rfl,rfl,k⟩:=open_int Tryz.underlying3 (a 3 3 V rfl rfl) D;obtain ⟨N,G,M,Q⟩:=BB I;simp only [List.append_nil] at c;have P:=λx d=>c.lt x d;refine (I8 hl Y Z x3 N M G Q).mono λe W' ⟨L,z⟩=>?_;subst L;refine ⟨_,rfl,_,_,_,[],_,[],c,?_,trodAll_mk4 (Below.trod Tryz.Tt (by kernel_rfl) (of_decide_eq_true (by kernel_rfl)) m z (λx d=>P x (by simpa using d))) (shut_int Tryz.underlying3 f) (shut_int Tryz.underlying3 i) (shut_int Tryz.underlying3 k),?_,z.frame _,λh=>by cases h⟩
 . exact trodAll_mk1 (shut_bool Tryz.underlying4 true)
 . rfl
theorem row_holds:Rows.HealsSaid:=
 OpenClaim.holds_of_wide 4 Tryz.f4 rfl rfl rfl rfl rfl rfl rfl ⟨rfl,rfl,rfl,rfl,rfl⟩ rfl rfl rfl rfl rfl (by kernel_rfl) Tryz.func4 (by kernel_rfl)
  (of_decide_eq_true (by kernel_rfl)) (by unfold Func.isWrapper;rw [if_neg (of_decide_eq_false (by kernel_rfl))];exact ⟨rfl,rfl⟩)
  (λos started H enc _=>lifted os started H enc)
theorem proved:Rows.HealsCardSaid:=
 Claim7.holds_tied_plain_at .later [] [.data,.handle,.data] true (true,"130c253e522020ee49c02125e3a39f35b8c09c98ad074d7d830c75016714dd3f") true
  row_holds (λ_ h=>by cases h) (by kernel_rfl) (λ_ h=>by cases h) heals_row_tie rfl ⟨rfl,rfl⟩ (by kernel_rfl) rfl
  (λf fn d b=>by
   obtain rfl:f=4:=YE ((show Z9.funcNamed "stripes/stripeslaw.Heals"=some 4 by kernel_rfl).symm.trans d) |>.symm;obtain rfl:fn=Tryz.f4:=(YE (Tryz.func4.symm.trans b)).symm;exact ⟨by kernel_rfl,λj t a=>by
    rw [Tryz.params4] at a;have c:t=54\/t=3:=by
     rcases j with _|_|_|_|j
     . exact .inl (by simpa using a.symm)
     . exact .inr (by simpa using a.symm)
     . exact .inr (by simpa using a.symm)
     . exact .inr (by simpa using a.symm)
     . simp at a
    rcases c with rfl|rfl
    . exact (show Z9.wantsStandIn 54=false by kernel_rfl)
    . exact (show Z9.wantsStandIn 3=false by kernel_rfl)⟩)
  (by kernel_rfl)
#print axioms proved
