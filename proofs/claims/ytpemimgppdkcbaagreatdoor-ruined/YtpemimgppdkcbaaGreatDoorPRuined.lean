import Derived.Test.YtpemimgppdkcbaaGreatDoorTie
import Derived.Test.YtpemimgppdkcbaaGreatDoorCards
import Derived.Test.YtpemimgppdkcbaaGreatDoorM10
import Derived.SevenTiedAt
set_option maxRecDepth 100000
set_option maxHeartbeats 8000000
open List renaming mem_append -> YD, all_eq_true -> YE
open Option.some renaming inj -> YF
open Go.Proofs.Tryz renaming prog -> Z9
namespace Go.Proofs.YtpemimgppdkcbaaGreatDoor.ruined
open Go.ChangeShapes Go.WideShapes Go.RowKit Go.Joins
section
section
variable {H:Type} {enc:TypeId×Value->H} {P:Program} {w:World} {base:Nat} {spare:Nat->Bool} {held:Bool} {t0 t1 t2 t3 t4 t5:TypeId}
theorem six {args:Array Value} {ds:List (DataW H)} {ps:List MemPlace} (h:DataW.TrodAll enc P w base spare held [t0,t1,t2,t3,t4,t5] args.toList ds ps) :
 ∃ m n o p q r a d1 b c d e f g i j k l,args=#[m,n,o,p,q,r]/\ds=[a,d1,b,c,d,e]/\ps=f++g++i++j++k++l/\DataW.Trod enc P w base spare held t0 m a f/\DataW.Trod enc P w base spare held t1 n d1 g/\DataW.Trod enc P w base spare held t2 o b i/\DataW.Trod enc P w base spare held t3 p c j/\DataW.Trod enc P w base spare held t4 q d k/\DataW.Trod enc P w base spare held t5 r e l:=by
 obtain ⟨m,M,a,s,f,U,T,rfl,rfl,z,F⟩:=trodAll_cons h;obtain ⟨n,N,d1,t,g,V,rfl,rfl,rfl,A,G⟩:=trodAll_cons F;obtain ⟨o,O,b,u,i,W,rfl,rfl,rfl,B,I⟩:=trodAll_cons G;obtain ⟨p,Q,c,v,j,X,rfl,rfl,rfl,C,J⟩:=trodAll_cons I;obtain ⟨q,R,d,x,k,Y,rfl,rfl,rfl,D,K⟩:=trodAll_cons J;obtain ⟨r,S,e,y,l,Z,rfl,rfl,rfl,E,L⟩:=trodAll_cons K;obtain ⟨rfl,rfl,rfl⟩:=trodAll_nil L;exact ⟨m,n,o,p,q,r,a,d1,b,c,d,e,f,g,i,j,k,l,by cases args;simp_all,rfl,by simp,z,A,B,C,D,E⟩
theorem mk6 {v0 v1 v2 v3 v4 v5:Value} {d0 d1 d2 d3 d4 d5:DataW H} {p0 p1 p2 p3 p4 p5:List MemPlace} (a:DataW.Trod enc P w base spare held t0 v0 d0 p0) (b:DataW.Trod enc P w base spare held t1 v1 d1 p1) (c:DataW.Trod enc P w base spare held t2 v2 d2 p2) (d:DataW.Trod enc P w base spare held t3 v3 d3 p3) (e:DataW.Trod enc P w base spare held t4 v4 d4 p4) (f:DataW.Trod enc P w base spare held t5 v5 d5 p5) :
 DataW.TrodAll enc P w base spare held [t0,t1,t2,t3,t4,t5] [v0,v1,v2,v3,v4,v5] [d0,d1,d2,d3,d4,d5] (p0++(p1++(p2++(p3++(p4++p5))))):=⟨p0,p1++(p2++(p3++(p4++p5))),a,Bq b c d e f,rfl⟩
end
theorem lifted (os:Os) (started:os.Started) (H:Type) (enc:TypeId×Value->H) :
 ReturnsInHanded {} Tryz.checked os 3 .any (λw args=>(Rows.ruinedSpec.pre enc Z9 Tryz.f3 [] false w args/\laidMetH Z9 tj w)/\sizedMet enc Z9 Tryz.f3 (OpenSpec.ofChange Rows.ruinedSpec) false w args)
  (Rows.ruinedSpec.post enc Z9 Tryz.f3 false true false false):=by
 refine returnsInHanded_of_change_and (C:=Tryz.checked) (X:=λw _=>laidMetH Z9 tj w) (λ_ _ _ T h=>h.of_heap T) Tryz.own started (by kernel_rfl) Tryz.func3
  (ChangeSpec.witness_at (enc:=enc) (C:=Tryz.checked) (os:=os) (X:=λw _=>laidMetH Z9 tj w) false (tn os) #[.slice none 0 0,.int .i64 0,.int .i64 0,.int .i64 0,.slice none 0 0,.slice none 0 0] 8 rfl (by kernel_rfl) (by kernel_rfl) (by kernel_rfl) (by kernel_rfl) (by kernel_rfl) (tq os _)) ?_
 intro W base args ds c before N F _ R P _;have a:∀ (j:Nat) t v,Tryz.f3.params[j]?=some t->args[j]?=some v->Value.okWide Z9 W .any base t v:=N;have f:=F;obtain ⟨p,q,V,Z,rfl,hv,hy⟩:=F;have D:DataW.TrodAll enc Z9 W 0 (λ_=>true) true Tryz.f3.params.toList args.toList ds p:=V;have E:DataW.TrodVars enc Z9 W (λ_=>true) [] c q:=Z;have k:(DataW.weightsEach Z9 (Tryz.f3.params.toList++Rows.ruinedSpec.plain.varTypes Z9) (ds++c)).all (λn=>decide (n<=reachBytes))=true:=R;rw [Tryz.params3] at D a k;obtain ⟨v0,v1,v2,v3,v4,v5,d0,d1,d2,d3,d4,d5,p0,p1,p2,p3,p4,p5,rfl,rfl,rfl,z,K,L,M,A,B⟩:=six D;obtain ⟨rfl,rfl⟩:c=[]/\q=[]:=by
  cases c with
  | nil=>exact ⟨rfl,E⟩
  | cons g r=>exact absurd E (by intro h;cases h)
 obtain ⟨ao,len,cap,rfl⟩:=okWide_slice Tryz.underlying22 (a 0 22 v0 rfl rfl);obtain ⟨l,hl,hs⟩:=mb z (λn hn=>by simpa using YE.1 k n (DataW.weights_mem_each (j:=0) (t:=22) rfl rfl n hn));obtain ⟨x1,rfl,rfl,rfl,m⟩:=open_int Tryz.underlying3 (a 1 3 v1 rfl rfl) K;obtain ⟨x2,rfl,rfl,rfl,o⟩:=open_int Tryz.underlying3 (a 2 3 v2 rfl rfl) L;obtain ⟨x3,rfl,rfl,rfl,s⟩:=open_int Tryz.underlying3 (a 3 3 v3 rfl rfl) M;obtain ⟨I,len4,u,rfl⟩:=okWide_slice Tryz.underlying23 (a 4 23 v4 rfl rfl);obtain ⟨fl,hp⟩:=uW A;obtain ⟨J,G,y,rfl⟩:=okWide_slice Tryz.underlying22 (a 5 22 v5 rfl rfl);obtain ⟨l2,hr,O⟩:=mb B (λn hn=>by simpa using YE.1 k n (DataW.weights_mem_each (j:=5) (t:=22) rfl rfl n hn));obtain ⟨S,U,hq,Y⟩:=Bp P;simp only [List.append_nil] at f;have i:=λx b=>f.lt x b;refine (Fk hl hs x1 x2 x3 hp hr O S hq U Y).mono λe W' ⟨Q,d⟩=>?_;subst Q;refine ⟨_,rfl,_,_,_,[],_,[],f,?_,mk6 (Below.trod Tryz.Sp (by kernel_rfl) (of_decide_eq_true (by kernel_rfl)) z d (λx b=>i x (by simp only [YD];exact .inl (.inl b)))) (shut_int Tryz.underlying3 m) (shut_int Tryz.underlying3 o) (shut_int Tryz.underlying3 s) (Below.trod Tryz.Sp (by kernel_rfl) (of_decide_eq_true (by kernel_rfl)) A d (λx b=>i x (by simp only [YD];exact .inl (.inr b)))) (Below.trod Tryz.Sp (by kernel_rfl) (of_decide_eq_true (by kernel_rfl)) B d (λx b=>i x (by simp only [YD];exact .inr b))),?_,d.frame _,λh=>by cases h⟩
 . exact trodAll_mk1 (shut_bool Tryz.underlying4 true)
 . rfl
theorem row_holds:Rows.RuinedSaid:=
 OpenClaim.holds_of_wide 3 Tryz.f3 rfl rfl rfl rfl rfl rfl rfl ⟨rfl,rfl,rfl,rfl,rfl⟩ rfl rfl rfl rfl rfl (by kernel_rfl) Tryz.func3 (by kernel_rfl)
  (of_decide_eq_true (by kernel_rfl)) (by unfold Func.isWrapper;rw [if_neg (of_decide_eq_false (by kernel_rfl))];exact ⟨rfl,rfl⟩)
  (λos started H enc _=>lifted os started H enc)
theorem proved:Rows.RuinedCardSaid:=
 Claim7.holds_tied_plain_at .later [] [.data,.handle,.data] true (true,"b427cf8910b744733b21ed273a48766310e0392348908f5d97e7158ebb4517ff") true
  row_holds (λ_ h=>by cases h) (by kernel_rfl) (λ_ h=>by cases h) ruined_row_tie rfl ⟨rfl,rfl⟩ (by kernel_rfl) rfl
  (λf b e c=>by
   obtain rfl:f=3:=YF ((show Z9.funcNamed "stripes/stripeslaw.Ruined"=some 3 by kernel_rfl).symm.trans e) |>.symm;obtain rfl:b=Tryz.f3:=(YF (Tryz.func3.symm.trans c)).symm;exact ⟨by kernel_rfl,λj t a=>by
    rw [Tryz.params3] at a;have d:t=22\/t=3\/t=23:=by
     rcases j with _|_|_|_|_|_|j
     . exact .inl (by simpa using a.symm)
     . exact .inr (.inl (by simpa using a.symm))
     . exact .inr (.inl (by simpa using a.symm))
     . exact .inr (.inl (by simpa using a.symm))
     . exact .inr (.inr (by simpa using a.symm))
     . exact .inl (by simpa using a.symm)
     . simp at a
    rcases d with rfl|rfl|rfl
    . exact (show Z9.wantsStandIn 22=false by kernel_rfl)
    . exact (show Z9.wantsStandIn 3=false by kernel_rfl)
    . exact (show Z9.wantsStandIn 23=false by kernel_rfl)⟩)
  (by kernel_rfl)
#print axioms proved
end
