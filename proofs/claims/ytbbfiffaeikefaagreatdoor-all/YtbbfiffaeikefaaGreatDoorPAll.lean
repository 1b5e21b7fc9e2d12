import Derived.Test.YtbbfiffaeikefaaGreatDoorTie
import Derived.Test.YtbbfiffaeikefaaGreatDoorCards
import Derived.Test.YtbbfiffaeikefaaGreatDoorM09
import Derived.SevenTiedAt
set_option maxRecDepth 100000
set_option maxHeartbeats 8000000
open List renaming mem_append -> YE
open Option.some renaming inj -> YF
open Go.Proofs.Tryz renaming prog -> Z9
namespace Go.Proofs.YtbbfiffaeikefaaGreatDoor.all
open Go.ChangeShapes Go.WideShapes Go.RowKit Go.Joins
section
section
variable {H:Type} {enc:TypeId×Value->H} {P:Program} {w:World} {base:Nat} {spare:Nat->Bool} {held:Bool} {t0 t1 t2 t3 t4 t5 t6 t7:TypeId}
theorem eight {args:Array Value} {ds:List (DataW H)} {ps:List MemPlace} (h:DataW.TrodAll enc P w base spare held [t0,t1,t2,t3,t4,t5,t6,t7] args.toList ds ps) :
 ∃ q r s t u v x y a d1 b c d e f g i j k l m n o p,args=#[q,r,s,t,u,v,x,y]/\ds=[a,d1,b,c,d,e,f,g]/\ps=i++j++k++l++m++n++o++p/\DataW.Trod enc P w base spare held t0 q a i/\DataW.Trod enc P w base spare held t1 r d1 j/\DataW.Trod enc P w base spare held t2 s b k/\DataW.Trod enc P w base spare held t3 t c l/\DataW.Trod enc P w base spare held t4 u d m/\DataW.Trod enc P w base spare held t5 v e n/\DataW.Trod enc P w base spare held t6 x f o/\DataW.Trod enc P w base spare held t7 y g p:=by
 obtain ⟨q,Z,a,z,i,q0,h8,rfl,rfl,I,R⟩:=trodAll_cons h;obtain ⟨r,h9,d1,A,j,q1,rfl,rfl,rfl,J,S⟩:=trodAll_cons R;obtain ⟨s,ha,b,B,k,q2,rfl,rfl,rfl,K,T⟩:=trodAll_cons S;obtain ⟨t,hb,c,C,l,q3,rfl,rfl,rfl,L,U⟩:=trodAll_cons T;obtain ⟨u,hc,d,D,m,q4,rfl,rfl,rfl,M,V⟩:=trodAll_cons U;obtain ⟨v,hd,e,E,n,q5,rfl,rfl,rfl,N,W⟩:=trodAll_cons V;obtain ⟨x,he,f,F,o,q6,rfl,rfl,rfl,O,X⟩:=trodAll_cons W;obtain ⟨y,hf,g,G,p,q7,rfl,rfl,rfl,Q,Y⟩:=trodAll_cons X;obtain ⟨rfl,rfl,rfl⟩:=trodAll_nil Y;exact ⟨q,r,s,t,u,v,x,y,a,d1,b,c,d,e,f,g,i,j,k,l,m,n,o,p,by cases args;simp_all,rfl,by simp,I,J,K,L,M,N,O,Q⟩
theorem mk8 {v0 v1 v2 v3 v4 v5 v6 v7:Value} {d0 d1 d2 d3 d4 d5 d6 d7:DataW H} {p0 p1 p2 p3 p4 p5 p6 p7:List MemPlace} (a:DataW.Trod enc P w base spare held t0 v0 d0 p0) (b:DataW.Trod enc P w base spare held t1 v1 d1 p1) (c:DataW.Trod enc P w base spare held t2 v2 d2 p2) (d:DataW.Trod enc P w base spare held t3 v3 d3 p3) (e:DataW.Trod enc P w base spare held t4 v4 d4 p4) (f:DataW.Trod enc P w base spare held t5 v5 d5 p5) (g:DataW.Trod enc P w base spare held t6 v6 d6 p6) (h:DataW.Trod enc P w base spare held t7 v7 d7 p7) :
 DataW.TrodAll enc P w base spare held [t0,t1,t2,t3,t4,t5,t6,t7] [v0,v1,v2,v3,v4,v5,v6,v7] [d0,d1,d2,d3,d4,d5,d6,d7] (p0++(p1++(p2++(p3++(p4++(p5++(p6++p7))))))):=⟨p0,p1++(p2++(p3++(p4++(p5++(p6++p7))))),a,⟨p1,p2++(p3++(p4++(p5++(p6++p7)))),b,⟨p2,p3++(p4++(p5++(p6++p7))),c,Cn d e f g h,rfl⟩,rfl⟩,rfl⟩
end
theorem lifted (os:Os) (started:os.Started) (H:Type) (enc:TypeId×Value->H) :
 ReturnsInHanded {} Tryz.checked os 3 .any (λw args=>(Rows.allSpec.pre enc Z9 Tryz.f3 [] false w args/\laidMetH Z9 uf w)/\sizedMet enc Z9 Tryz.f3 (OpenSpec.ofChange Rows.allSpec) false w args)
  (Rows.allSpec.post enc Z9 Tryz.f3 false true false false):=by
 refine returnsInHanded_of_change_and (C:=Tryz.checked) (X:=λw _=>laidMetH Z9 uf w) (λ_ _ _ hh h=>h.of_heap hh) Tryz.own started (by kernel_rfl) Tryz.func3
  (ChangeSpec.witness_at (enc:=enc) (C:=Tryz.checked) (os:=os) (X:=λw _=>laidMetH Z9 uf w) false (ug os) #[.slice none 0 0,.int .i64 0,.int .i64 0,.int .i64 0,.int .i64 0,.int .u64 0,.slice none 0 0,.int .i64 0] 8 rfl (by kernel_rfl) (by kernel_rfl) (by kernel_rfl) (by kernel_rfl) (by kernel_rfl) (uh os _)) ?_
 intro W base args ds d before R F _ V T _;have a:∀ (j:Nat) t v,Tryz.f3.params[j]?=some t->args[j]?=some v->Value.okWide Z9 W .any base t v:=R;have i:=F;obtain ⟨p,q,hm,hq,rfl,hz,k0⟩:=F;have D:DataW.TrodAll enc Z9 W 0 (λ_=>true) true Tryz.f3.params.toList args.toList ds p:=hm;have E:DataW.TrodVars enc Z9 W (λ_=>true) [] d q:=hq;have I:(DataW.weightsEach Z9 (Tryz.f3.params.toList++Rows.allSpec.plain.varTypes Z9) (ds++d)).all (λn=>decide (n<=reachBytes))=true:=V;rw [Tryz.params3] at D a I;obtain ⟨v0,v1,v2,v3,v4,v5,v6,v7,d0,d1,d2,d3,d4,d5,d6,d7,p0,p1,p2,p3,p4,p5,p6,p7,rfl,rfl,rfl,A,L,M,N,O,P,B,Q⟩:=eight D;obtain ⟨rfl,rfl⟩:d=[]/\q=[]:=by
  cases d with
  | nil=>exact ⟨rfl,E⟩
  | cons g r=>exact absurd E (by intro h;cases h)
 obtain ⟨ao,len,cap,rfl⟩:=okWide_slice Tryz.underlying22 (a 0 22 v0 rfl rfl);obtain ⟨l,hl,hv⟩:=vP A (λn hn=>by simpa using List.all_eq_true.1 I n (DataW.weights_mem_each (j:=0) (t:=22) rfl rfl n hn));obtain ⟨x1,rfl,rfl,rfl,m⟩:=open_int Tryz.underlying3 (a 1 3 v1 rfl rfl) L;obtain ⟨x2,rfl,rfl,rfl,o⟩:=open_int Tryz.underlying3 (a 2 3 v2 rfl rfl) M;obtain ⟨x3,rfl,rfl,rfl,s⟩:=open_int Tryz.underlying3 (a 3 3 v3 rfl rfl) N;obtain ⟨x4,rfl,rfl,rfl,u⟩:=open_int Tryz.underlying3 (a 4 3 v4 rfl rfl) O;obtain ⟨f,rfl,rfl,rfl,c⟩:=open_int Tryz.underlying23 (a 5 23 v5 rfl rfl) P;have hy:(0:Int)<=f/\f<=18446744073709551615:=by have h:=c;simpa [Lit.wf,IntKind.min,IntKind.max,IntKind.bits,IntKind.signed] using h
 obtain ⟨S,U,hp⟩:∃ S:Nat,S<18446744073709551616/\f=(S:Int):=⟨f.toNat,by omega,by omega⟩;clear hy;subst hp;obtain ⟨K,J,z,rfl⟩:=okWide_slice Tryz.underlying24 (a 6 24 v6 rfl rfl);obtain ⟨fl,hr⟩:=vQ B;obtain ⟨x7,rfl,rfl,rfl,y⟩:=open_int Tryz.underlying3 (a 7 3 v7 rfl rfl) Q;obtain ⟨hg,Z,hs,hk⟩:=Cm T;simp only [List.append_nil] at i;have G:=λx b=>i.lt x b;refine (Pf hl hv x1 x2 x3 x4 S U hr x7 hg hs Z hk).mono λe W' ⟨Y,k⟩=>?_;subst Y;refine ⟨_,rfl,_,_,_,[],_,[],i,?_,mk8 (Below.trod Tryz.SI (by kernel_rfl) (of_decide_eq_true (by kernel_rfl)) A k (λx b=>G x (by simp only [YE];exact .inl b))) (shut_int Tryz.underlying3 m) (shut_int Tryz.underlying3 o) (shut_int Tryz.underlying3 s) (shut_int Tryz.underlying3 u) (shut_int Tryz.underlying23 c) (Below.trod Tryz.SI (by kernel_rfl) (of_decide_eq_true (by kernel_rfl)) B k (λx b=>G x (by simp only [YE];exact .inr b))) (shut_int Tryz.underlying3 y),?_,k.frame _,λh=>by cases h⟩
 . exact trodAll_mk1 (shut_bool Tryz.underlying4 true)
 . rfl
theorem row_holds:Rows.AllSaid:=
 OpenClaim.holds_of_wide 3 Tryz.f3 rfl rfl rfl rfl rfl rfl rfl ⟨rfl,rfl,rfl,rfl,rfl⟩ rfl rfl rfl rfl rfl (by kernel_rfl) Tryz.func3 (by kernel_rfl)
  (of_decide_eq_true (by kernel_rfl)) (by unfold Func.isWrapper;rw [if_neg (of_decide_eq_false (by kernel_rfl))];exact ⟨rfl,rfl⟩)
  (λos started H enc _=>lifted os started H enc)
theorem proved:Rows.AllCardSaid:=
 Claim7.holds_tied_plain_at .later [] [.data,.handle,.data] true (true,"38f00a4634e5aaeddfbe1babe08ee6f12b0b022bab465e0f5e1b9da538f68fc2") true
  row_holds (λ_ h=>by cases h) (by kernel_rfl) (λ_ h=>by cases h) all_row_tie rfl ⟨rfl,rfl⟩ (by kernel_rfl) rfl
  (λf fn d b=>by
   obtain rfl:f=3:=YF ((show Z9.funcNamed "stripes/stripeslaw.All"=some 3 by kernel_rfl).symm.trans d) |>.symm;obtain rfl:fn=Tryz.f3:=(YF (Tryz.func3.symm.trans b)).symm;exact ⟨by kernel_rfl,λj t a=>by
    rw [Tryz.params3] at a;have c:t=22\/t=3\/t=23\/t=24:=by
     rcases j with _|_|_|_|_|_|_|_|j
     . exact .inl (by simpa using a.symm)
     . exact .inr (.inl (by simpa using a.symm))
     . exact .inr (.inl (by simpa using a.symm))
     . exact .inr (.inl (by simpa using a.symm))
     . exact .inr (.inl (by simpa using a.symm))
     . exact .inr (.inr (.inl (by simpa using a.symm)))
     . exact .inr (.inr (.inr (by simpa using a.symm)))
     . exact .inr (.inl (by simpa using a.symm))
     . simp at a
    rcases c with rfl|rfl|rfl|rfl
    . exact (show Z9.wantsStandIn 22=false by kernel_rfl)
    . exact (show Z9.wantsStandIn 3=false by kernel_rfl)
    . exact (show Z9.wantsStandIn 23=false by kernel_rfl)
    . exact (show Z9.wantsStandIn 24=false by kernel_rfl)⟩)
  (by kernel_rfl)
#print axioms proved
end
