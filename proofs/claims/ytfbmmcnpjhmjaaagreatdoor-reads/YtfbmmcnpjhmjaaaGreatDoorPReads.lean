import Derived.Test.YtfbmmcnpjhmjaaaGreatDoorTie
import Derived.Test.YtfbmmcnpjhmjaaaGreatDoorCards
import Derived.Test.YtfbmmcnpjhmjaaaGreatDoorM54
import Derived.SevenTiedAt
set_option maxRecDepth 100000
set_option maxHeartbeats 8000000
open Option.some renaming inj -> Tm
open Go.Proofs.Tryz renaming prog -> Z9
namespace Go.Proofs.YtfbmmcnpjhmjaaaGreatDoor.reads
open Go.ChangeShapes Go.WideShapes Go.RowKit Go.Joins
section
section
variable {H:Type} {enc:TypeId×Value->H} {P:Program} {w:World} {base:Nat} {spare:Nat->Bool} {held:Bool} {t0 t1 t2 t3 t4 t5:TypeId}
theorem six {args:Array Value} {ds:List (DataW H)} {ps:List MemPlace} (h:DataW.TrodAll enc P w base spare held [t0,t1,t2,t3,t4,t5] args.toList ds ps) :
 ∃ z A B i j k r d1 s a b c u x y e f g,args=#[z,A,B,i,j,k]/\ds=[r,d1,s,a,b,c]/\ps=u++x++y++e++f++g/\DataW.Trod enc P w base spare held t0 z r u/\DataW.Trod enc P w base spare held t1 A d1 x/\DataW.Trod enc P w base spare held t2 B s y/\DataW.Trod enc P w base spare held t3 i a e/\DataW.Trod enc P w base spare held t4 j b f/\DataW.Trod enc P w base spare held t5 k c g:=by
 obtain ⟨v,vs,d,E,p,q,h7,rfl,rfl,V,O⟩:=trodAll_cons h;obtain ⟨Y,Z,D,t,W,q',rfl,rfl,rfl,R,K⟩:=trodAll_cons O;obtain ⟨o,C,l,m,n,X,rfl,rfl,rfl,Q,J⟩:=trodAll_cons K;obtain ⟨i,hb,a,F,e,q3,rfl,rfl,rfl,S,L⟩:=trodAll_cons J;obtain ⟨j,he,b,G,f,q4,rfl,rfl,rfl,T,M⟩:=trodAll_cons L;obtain ⟨k,hf,c,I,g,q5,rfl,rfl,rfl,U,N⟩:=trodAll_cons M;obtain ⟨rfl,rfl,rfl⟩:=trodAll_nil N;exact ⟨v,Y,o,i,j,k,d,D,l,a,b,c,p,W,n,e,f,g,by cases args;simp_all,rfl,by simp,V,R,Q,S,T,U⟩
theorem mk6 {v0 v1 v2 v3 v4 v5:Value} {d0 d1 d2 d3 d4 d5:DataW H} {p0 p1 p2 p3 p4 p5:List MemPlace} (a:DataW.Trod enc P w base spare held t0 v0 d0 p0) (b:DataW.Trod enc P w base spare held t1 v1 d1 p1) (c:DataW.Trod enc P w base spare held t2 v2 d2 p2) (d:DataW.Trod enc P w base spare held t3 v3 d3 p3) (e:DataW.Trod enc P w base spare held t4 v4 d4 p4) (f:DataW.Trod enc P w base spare held t5 v5 d5 p5) :
 DataW.TrodAll enc P w base spare held [t0,t1,t2,t3,t4,t5] [v0,v1,v2,v3,v4,v5] [d0,d1,d2,d3,d4,d5] (p0++(p1++(p2++(p3++(p4++p5))))):=⟨p0,p1++(p2++(p3++(p4++p5))),a,BK b c d e f,rfl⟩
end
theorem lifted (os:Os) (started:os.Started) (H:Type) (enc:TypeId×Value->H) :
 ReturnsInHanded {} Tryz.checked os 3 .any (λw args=>(Rows.readsSpec.pre enc Z9 Tryz.f3 [] false w args/\laidMetH Z9 ue w)/\sizedMet enc Z9 Tryz.f3 (OpenSpec.ofChange Rows.readsSpec) false w args)
  (Rows.readsSpec.post enc Z9 Tryz.f3 false true false false):=by
 refine returnsInHanded_of_change_and (C:=Tryz.checked) (X:=λw _=>laidMetH Z9 ue w) (λ_ _ _ Q h=>h.of_heap Q) Tryz.own started (by kernel_rfl) Tryz.func3
  (ChangeSpec.witness_at (enc:=enc) (C:=Tryz.checked) (os:=os) (X:=λw _=>laidMetH Z9 ue w) false (uf os) #[.slice none 0 0,.int .i64 0,.int .i64 0,.int .i64 0,.int .i64 0,.int .i64 0] 8 rfl (by kernel_rfl) (by kernel_rfl) (by kernel_rfl) (by kernel_rfl) (by kernel_rfl) (ug os _)) ?_
 intro W base args ds b before J z _ K L _;have a:∀ (j:Nat) t v,Tryz.f3.params[j]?=some t->args[j]?=some v->Value.okWide Z9 W .any base t v:=J;have c:=z;obtain ⟨p,q,O,R,rfl,hq,hr⟩:=z;have u:DataW.TrodAll enc Z9 W 0 (λ_=>true) true Tryz.f3.params.toList args.toList ds p:=O;have y:DataW.TrodVars enc Z9 W (λ_=>true) [] b q:=R;have A:(DataW.weightsEach Z9 (Tryz.f3.params.toList++Rows.readsSpec.plain.varTypes Z9) (ds++b)).all (λn=>decide (n<=reachBytes))=true:=K;rw [Tryz.params3] at u a A;obtain ⟨v0,v1,v2,v3,v4,v5,d0,d1,d2,d3,d4,d5,p0,p1,p2,p3,p4,p5,rfl,rfl,rfl,s,D,E,F,G,I⟩:=six u;obtain ⟨rfl,rfl⟩:b=[]/\q=[]:=by
  cases b with
  | nil=>exact ⟨rfl,y⟩
  | cons g r=>exact absurd y (by intro h;cases h)
 obtain ⟨ao,len,cap,rfl⟩:=okWide_slice Tryz.underlying22 (a 0 22 v0 rfl rfl);obtain ⟨l,U,V⟩:=ud s (λn Y=>by simpa using List.all_eq_true.1 A n (DataW.weights_mem_each (j:=0) (t:=22) rfl rfl n Y));obtain ⟨x1,rfl,rfl,rfl,f⟩:=open_int Tryz.underlying3 (a 1 3 v1 rfl rfl) D;obtain ⟨x2,rfl,rfl,rfl,i⟩:=open_int Tryz.underlying3 (a 2 3 v2 rfl rfl) E;obtain ⟨x3,rfl,rfl,rfl,k⟩:=open_int Tryz.underlying3 (a 3 3 v3 rfl rfl) F;obtain ⟨x4,rfl,rfl,rfl,m⟩:=open_int Tryz.underlying3 (a 4 3 v4 rfl rfl) G;obtain ⟨x5,rfl,rfl,rfl,o⟩:=open_int Tryz.underlying3 (a 5 3 v5 rfl rfl) I;obtain ⟨P,M,S,T⟩:=BJ L;simp only [List.append_nil] at c;have Z:=λx d=>c.lt x d;refine (Hf U V x1 x2 x3 x4 x5 P S M T).mono λe W' ⟨N,B⟩=>?_;subst N;refine ⟨_,rfl,_,_,_,[],_,[],c,?_,mk6 (Below.trod Tryz.laidOutM (by kernel_rfl) (of_decide_eq_true (by kernel_rfl)) s B (λx d=>Z x (by simpa using d))) (shut_int Tryz.underlying3 f) (shut_int Tryz.underlying3 i) (shut_int Tryz.underlying3 k) (shut_int Tryz.underlying3 m) (shut_int Tryz.underlying3 o),?_,B.frame _,λh=>by cases h⟩
 . exact trodAll_mk1 (shut_bool Tryz.underlying4 true)
 . rfl
theorem row_holds:Rows.ReadsSaid:=
 OpenClaim.holds_of_wide 3 Tryz.f3 rfl rfl rfl rfl rfl rfl rfl ⟨rfl,rfl,rfl,rfl,rfl⟩ rfl rfl rfl rfl rfl (by kernel_rfl) Tryz.func3 (by kernel_rfl)
  (of_decide_eq_true (by kernel_rfl)) (by unfold Func.isWrapper;rw [if_neg (of_decide_eq_false (by kernel_rfl))];exact ⟨rfl,rfl⟩)
  (λos started H enc _=>lifted os started H enc)
theorem proved:Rows.ReadsCardSaid:=
 Claim7.holds_tied_plain_at .later [] [.data,.handle,.data] true (true,"9954445ea0eb0d3b3d36c58e5ffd9145ca041cc43902647cb7647140882523dc") true
  row_holds (λ_ h=>by cases h) (by kernel_rfl) (λ_ h=>by cases h) reads_row_tie rfl ⟨rfl,rfl⟩ (by kernel_rfl) rfl
  (λf b e c=>by
   obtain rfl:f=3:=Tm ((show Z9.funcNamed "stripes/stripeslaw.Reads"=some 3 by kernel_rfl).symm.trans e) |>.symm;obtain rfl:b=Tryz.f3:=(Tm (Tryz.func3.symm.trans c)).symm;exact ⟨by kernel_rfl,λj t a=>by
    rw [Tryz.params3] at a;have d:t=22\/t=3:=by
     rcases j with _|_|_|_|_|_|j
     . exact .inl (by simpa using a.symm)
     . exact .inr (by simpa using a.symm)
     . exact .inr (by simpa using a.symm)
     . exact .inr (by simpa using a.symm)
     . exact .inr (by simpa using a.symm)
     . exact .inr (by simpa using a.symm)
     . simp at a
    rcases d with rfl|rfl
    . exact (show Z9.wantsStandIn 22=false by kernel_rfl)
    . exact (show Z9.wantsStandIn 3=false by kernel_rfl)⟩)
  (by kernel_rfl)
#print axioms proved
end
end Go.Proofs.YtfbmmcnpjhmjaaaGreatDoor.reads
