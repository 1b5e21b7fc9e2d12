import Derived.Test.YtmpnnokoodjllaaGreatDoorTie
import Derived.Test.YtmpnnokoodjllaaGreatDoorCards
import Derived.Test.YtmpnnokoodjllaaGreatDoorM10
import Derived.SevenTiedAt
set_option maxRecDepth 100000
set_option maxHeartbeats 8000000
open List renaming all_eq_true -> YC, mem_append -> YD
open Option.some renaming inj -> YE
open Go.Proofs.Tryz renaming prog -> Z9
namespace Go.Proofs.YtmpnnokoodjllaaGreatDoor.garbage
open Go.ChangeShapes Go.WideShapes Go.RowKit Go.Joins
section
section
variable {H:Type} {enc:TypeId×Value->H} {P:Program} {w:World} {base:Nat} {spare:Nat->Bool} {held:Bool} {t0 t1 t2 t3 t4 t5:TypeId}
theorem six {args:Array Value} {ds:List (DataW H)} {ps:List MemPlace} (h:DataW.TrodAll enc P w base spare held [t0,t1,t2,t3,t4,t5] args.toList ds ps) :
 ∃ m n o p q r a d1 b c d e f g i j k l,args=#[m,n,o,p,q,r]/\ds=[a,d1,b,c,d,e]/\ps=f++g++i++j++k++l/\DataW.Trod enc P w base spare held t0 m a f/\DataW.Trod enc P w base spare held t1 n d1 g/\DataW.Trod enc P w base spare held t2 o b i/\DataW.Trod enc P w base spare held t3 p c j/\DataW.Trod enc P w base spare held t4 q d k/\DataW.Trod enc P w base spare held t5 r e l:=by
 obtain ⟨m,M,a,s,f,U,T,rfl,rfl,z,F⟩:=trodAll_cons h;obtain ⟨n,N,d1,t,g,V,rfl,rfl,rfl,A,G⟩:=trodAll_cons F;obtain ⟨o,O,b,u,i,W,rfl,rfl,rfl,B,I⟩:=trodAll_cons G;obtain ⟨p,Q,c,v,j,X,rfl,rfl,rfl,C,J⟩:=trodAll_cons I;obtain ⟨q,R,d,x,k,Y,rfl,rfl,rfl,D,K⟩:=trodAll_cons J;obtain ⟨r,S,e,y,l,Z,rfl,rfl,rfl,E,L⟩:=trodAll_cons K;obtain ⟨rfl,rfl,rfl⟩:=trodAll_nil L;exact ⟨m,n,o,p,q,r,a,d1,b,c,d,e,f,g,i,j,k,l,by cases args;simp_all,rfl,by simp,z,A,B,C,D,E⟩
theorem mk6 {v0 v1 v2 v3 v4 v5:Value} {d0 d1 d2 d3 d4 d5:DataW H} {p0 p1 p2 p3 p4 p5:List MemPlace} (a:DataW.Trod enc P w base spare held t0 v0 d0 p0) (b:DataW.Trod enc P w base spare held t1 v1 d1 p1) (c:DataW.Trod enc P w base spare held t2 v2 d2 p2) (d:DataW.Trod enc P w base spare held t3 v3 d3 p3) (e:DataW.Trod enc P w base spare held t4 v4 d4 p4) (f:DataW.Trod enc P w base spare held t5 v5 d5 p5) :
 DataW.TrodAll enc P w base spare held [t0,t1,t2,t3,t4,t5] [v0,v1,v2,v3,v4,v5] [d0,d1,d2,d3,d4,d5] (p0++(p1++(p2++(p3++(p4++p5))))):=⟨p0,p1++(p2++(p3++(p4++p5))),a,CE b c d e f,rfl⟩
end
theorem lifted (os:Os) (started:os.Started) (H:Type) (enc:TypeId×Value->H) :
 ReturnsInHanded {} Tryz.checked os 3 .any (λw args=>(Rows.garbageSpec.pre enc Z9 Tryz.f3 [] false w args/\laidMetH Z9 uY w)/\sizedMet enc Z9 Tryz.f3 (OpenSpec.ofChange Rows.garbageSpec) false w args)
  (Rows.garbageSpec.post enc Z9 Tryz.f3 false true false false):=by
 refine returnsInHanded_of_change_and (C:=Tryz.checked) (X:=λw _=>laidMetH Z9 uY w) (λ_ _ _ U h=>h.of_heap U) Tryz.own started (by kernel_rfl) Tryz.func3
  (ChangeSpec.witness_at (enc:=enc) (C:=Tryz.checked) (os:=os) (X:=λw _=>laidMetH Z9 uY w) false (uZ os) #[.slice none 0 0,.int .i64 0,.int .i64 0,.int .i64 0,.slice none 0 0,.slice none 0 0] 8 rfl (by kernel_rfl) (by kernel_rfl) (by kernel_rfl) (by kernel_rfl) (by kernel_rfl) (ve os _)) ?_
 intro W base args ds d before O G _ S P _;have a:∀ (j:Nat) t v,Tryz.f3.params[j]?=some t->args[j]?=some v->Value.okWide Z9 W .any base t v:=O;have k:=G;obtain ⟨p,q,Y,hm,rfl,hy,hz⟩:=G;have E:DataW.TrodAll enc Z9 W 0 (λ_=>true) true Tryz.f3.params.toList args.toList ds p:=Y;have F:DataW.TrodVars enc Z9 W (λ_=>true) [] d q:=hm;have f:(DataW.weightsEach Z9 (Tryz.f3.params.toList++Rows.garbageSpec.plain.varTypes Z9) (ds++d)).all (λn=>decide (n<=reachBytes))=true:=S;rw [Tryz.params3] at E a f;obtain ⟨v0,v1,v2,v3,v4,v5,d0,d1,d2,d3,d4,d5,p0,p1,p2,p3,p4,p5,rfl,rfl,rfl,A,L,M,N,B,D⟩:=six E;obtain ⟨rfl,rfl⟩:d=[]/\q=[]:=by
  cases d with
  | nil=>exact ⟨rfl,F⟩
  | cons g r=>exact absurd F (by intro h;cases h)
 obtain ⟨ao,len,cap,rfl⟩:=okWide_slice Tryz.underlying22 (a 0 22 v0 rfl rfl);obtain ⟨l,hl,hr⟩:=my A (λn c=>by simpa using YC.1 f n (DataW.weights_mem_each (j:=0) (t:=22) rfl rfl n c));obtain ⟨x1,rfl,rfl,rfl,o⟩:=open_int Tryz.underlying3 (a 1 3 v1 rfl rfl) L;obtain ⟨x2,rfl,rfl,rfl,s⟩:=open_int Tryz.underlying3 (a 2 3 v2 rfl rfl) M;obtain ⟨x3,rfl,rfl,rfl,u⟩:=open_int Tryz.underlying3 (a 3 3 v3 rfl rfl) N;obtain ⟨J,len4,y,rfl⟩:=okWide_slice Tryz.underlying23 (a 4 23 v4 rfl rfl);obtain ⟨ly,hs⟩:=Ar B (λn c=>by simpa using YC.1 f n (DataW.weights_mem_each (j:=4) (t:=23) rfl rfl n c));obtain ⟨K,I,z,rfl⟩:=okWide_slice Tryz.underlying22 (a 5 22 v5 rfl rfl);obtain ⟨l2,hq,Q⟩:=my D (λn c=>by simpa using YC.1 f n (DataW.weights_mem_each (j:=5) (t:=22) rfl rfl n c));obtain ⟨T,V,hp,Z⟩:=CD P;simp only [List.append_nil] at k;have m:=λx b=>k.lt x b;refine (C8 hl hr x1 x2 x3 hs hq Q T hp V Z).mono λe W' ⟨R,i⟩=>?_;subst R;refine ⟨_,rfl,_,_,_,[],_,[],k,?_,mk6 (Below.trod Tryz.SC (by kernel_rfl) (of_decide_eq_true (by kernel_rfl)) A i (λx b=>m x (by simp only [YD];exact .inl (.inl b)))) (shut_int Tryz.underlying3 o) (shut_int Tryz.underlying3 s) (shut_int Tryz.underlying3 u) (Below.trod Tryz.SC (by kernel_rfl) (of_decide_eq_true (by kernel_rfl)) B i (λx b=>m x (by simp only [YD];exact .inl (.inr b)))) (Below.trod Tryz.SC (by kernel_rfl) (of_decide_eq_true (by kernel_rfl)) D i (λx b=>m x (by simp only [YD];exact .inr b))),?_,i.frame _,λh=>by cases h⟩
 . exact trodAll_mk1 (shut_bool Tryz.underlying4 true)
 . rfl
theorem row_holds:Rows.GarbageSaid:=
 OpenClaim.holds_of_wide 3 Tryz.f3 rfl rfl rfl rfl rfl rfl rfl ⟨rfl,rfl,rfl,rfl,rfl⟩ rfl rfl rfl rfl rfl (by kernel_rfl) Tryz.func3 (by kernel_rfl)
  (of_decide_eq_true (by kernel_rfl)) (by unfold Func.isWrapper;rw [if_neg (of_decide_eq_false (by kernel_rfl))];exact ⟨rfl,rfl⟩)
  (λos started H enc _=>lifted os started H enc)
theorem proved:Rows.GarbageCardSaid:=
 Claim7.holds_tied_plain_at .later [] [.data,.handle,.data] true (true,"75106a807bb98e60f7db25beb389f0c7f83117ef3fccfe373fc142c2a4f78891") true
  row_holds (λ_ h=>by cases h) (by kernel_rfl) (λ_ h=>by cases h) garbage_row_tie rfl ⟨rfl,rfl⟩ (by kernel_rfl) rfl
  (λf a d b=>by
   obtain rfl:f=3:=YE ((show Z9.funcNamed "stripes/stripeslaw.Garbage"=some 3 by kernel_rfl).symm.trans d) |>.symm;obtain rfl:a=Tryz.f3:=(YE (Tryz.func3.symm.trans b)).symm;exact ⟨by kernel_rfl,λj t ht=>by
    rw [Tryz.params3] at ht;have c:t=22\/t=3\/t=23:=by
     rcases j with _|_|_|_|_|_|j
     . exact .inl (by simpa using ht.symm)
     . exact .inr (.inl (by simpa using ht.symm))
     . exact .inr (.inl (by simpa using ht.symm))
     . exact .inr (.inl (by simpa using ht.symm))
     . exact .inr (.inr (by simpa using ht.symm))
     . exact .inl (by simpa using ht.symm)
     . simp at ht
    rcases c with rfl|rfl|rfl
    . exact (show Z9.wantsStandIn 22=false by kernel_rfl)
    . exact (show Z9.wantsStandIn 3=false by kernel_rfl)
    . exact (show Z9.wantsStandIn 23=false by kernel_rfl)⟩)
  (by kernel_rfl)
#print axioms proved
end
