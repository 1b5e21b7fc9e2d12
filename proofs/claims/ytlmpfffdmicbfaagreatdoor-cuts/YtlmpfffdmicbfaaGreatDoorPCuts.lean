import Derived.Test.YtlmpfffdmicbfaaGreatDoorTie
import Derived.Test.YtlmpfffdmicbfaaGreatDoorCards
import Derived.Test.YtlmpfffdmicbfaaGreatDoorM08
import Derived.SevenTiedAt
set_option maxRecDepth 100000
set_option maxHeartbeats 8000000
open Bool renaming false -> O
open List renaming mem_append -> YE, all_eq_true -> YF
open Option.some renaming inj -> YG
open Go.Proofs.Tryz renaming prog -> Z8
namespace Go.Proofs.YtlmpfffdmicbfaaGreatDoor.cuts
open Go.ChangeShapes Go.WideShapes Go.RowKit Go.Joins
section
section
variable {H:Type} {enc:TypeId×Value->H} {P:Program} {w:World} {base:Nat} {spare:Nat->Bool} {held:Bool} {t0 t1 t2 t3 t4 t5 t6:TypeId}
theorem seven {args:Array Value} {ds:List (DataW H)} {ps:List MemPlace} (h:DataW.TrodAll enc P w base spare held [t0,t1,t2,t3,t4,t5,t6] args.toList ds ps) :
 ∃ o p q r s t u a d1 b c d e f g i j k l m n,args=#[o,p,q,r,s,t,u]/\ds=[a,d1,b,c,d,e,f]/\ps=g++i++j++k++l++m++n/\DataW.Trod enc P w base spare held t0 o a g/\DataW.Trod enc P w base spare held t1 p d1 i/\DataW.Trod enc P w base spare held t2 q b j/\DataW.Trod enc P w base spare held t3 r c k/\DataW.Trod enc P w base spare held t4 s d l/\DataW.Trod enc P w base spare held t5 t e m/\DataW.Trod enc P w base spare held t6 u f n:=by
 obtain ⟨o,T,a,v,g,q0,h7,rfl,rfl,D,L⟩:=trodAll_cons h;obtain ⟨p,U',d1,x,i,q1,rfl,rfl,rfl,E,M⟩:=trodAll_cons L;obtain ⟨q,V',b,y,j,q2,rfl,rfl,rfl,F,N⟩:=trodAll_cons M;obtain ⟨r,W,c,z,k,q3,rfl,rfl,rfl,G,O'⟩:=trodAll_cons N;obtain ⟨s,X,d,A,l,q4,rfl,rfl,rfl,I',Q⟩:=trodAll_cons O';obtain ⟨t,Y,e,B,m,q5,rfl,rfl,rfl,J',R⟩:=trodAll_cons Q;obtain ⟨u,Z,f,C,n,q6,rfl,rfl,rfl,K,S⟩:=trodAll_cons R;obtain ⟨rfl,rfl,rfl⟩:=trodAll_nil S;exact ⟨o,p,q,r,s,t,u,a,d1,b,c,d,e,f,g,i,j,k,l,m,n,by cases args;simp_all,rfl,by simp,D,E,F,G,I',J',K⟩
theorem mk7 {v0 v1 v2 v3 v4 v5 v6:Value} {d0 d1 d2 d3 d4 d5 d6:DataW H} {p0 p1 p2 p3 p4 p5 p6:List MemPlace} (a:DataW.Trod enc P w base spare held t0 v0 d0 p0) (b:DataW.Trod enc P w base spare held t1 v1 d1 p1) (c:DataW.Trod enc P w base spare held t2 v2 d2 p2) (d:DataW.Trod enc P w base spare held t3 v3 d3 p3) (e:DataW.Trod enc P w base spare held t4 v4 d4 p4) (f:DataW.Trod enc P w base spare held t5 v5 d5 p5) (g:DataW.Trod enc P w base spare held t6 v6 d6 p6) :
 DataW.TrodAll enc P w base spare held [t0,t1,t2,t3,t4,t5,t6] [v0,v1,v2,v3,v4,v5,v6] [d0,d1,d2,d3,d4,d5,d6] (p0++(p1++(p2++(p3++(p4++(p5++p6)))))):=⟨p0,p1++(p2++(p3++(p4++(p5++p6)))),a,⟨p1,p2++(p3++(p4++(p5++p6))),b,Du c d e f g,rfl⟩,rfl⟩
end
theorem lifted (os:Os) (started:os.Started) (H:Type) (enc:TypeId×Value->H) :
 ReturnsInHanded {} Tryz.checked os 3 .any (λw args=>(Rows.cutsSpec.pre enc Z8 Tryz.f3 [] O w args/\laidMetH Z8 u9 w)/\sizedMet enc Z8 Tryz.f3 (OpenSpec.ofChange Rows.cutsSpec) O w args)
  (Rows.cutsSpec.post enc Z8 Tryz.f3 O true O O):=by
 refine returnsInHanded_of_change_and (C:=Tryz.checked) (X:=λw _=>laidMetH Z8 u9 w) (λ_ _ _ hh h=>h.of_heap hh) Tryz.own started (by kernel_rfl) Tryz.func3
  (ChangeSpec.witness_at (enc:=enc) (C:=Tryz.checked) (os:=os) (X:=λw _=>laidMetH Z8 u9 w) O (ve os) #[.slice none 0 0,.slice none 0 0,.int .i64 0,.int .i64 0,.int .i64 0,.int .u64 0,.slice none 0 0] 7 rfl (by kernel_rfl) (by kernel_rfl) (by kernel_rfl) (by kernel_rfl) (by kernel_rfl) (vf os _)) ?_
 intro W base args ds d before T J' _ Z U' _;have a:∀ (j:Nat) t v,Tryz.f3.params[j]?=some t->args[j]?=some v->Value.okWide Z8 W .any base t v:=T;have k:=J';obtain ⟨p,q,hj,hp,rfl,hz,k0⟩:=J';have G:DataW.TrodAll enc Z8 W 0 (λ_=>true) true Tryz.f3.params.toList args.toList ds p:=hj;have I':DataW.TrodVars enc Z8 W (λ_=>true) [] d q:=hp;have o:(DataW.weightsEach Z8 (Tryz.f3.params.toList++Rows.cutsSpec.plain.varTypes Z8) (ds++d)).all (λn=>decide (n<=reachBytes))=true:=Z;rw [Tryz.params3] at G a o;obtain ⟨v0,v1,v2,v3,v4,v5,v6,d0,d1,d2,d3,d4,d5,d6,p0,p1,p2,p3,p4,p5,p6,rfl,rfl,rfl,D,E,O',P,Q,R,F⟩:=seven G;obtain ⟨rfl,rfl⟩:d=[]/\q=[]:=by
  cases d with
  | nil=>exact ⟨rfl,I'⟩
  | cons g r=>exact absurd I' (by intro h;cases h)
 obtain ⟨ao,len,cap,rfl⟩:=okWide_slice Tryz.underlying22 (a 0 22 v0 rfl rfl);obtain ⟨l,hl,hv⟩:=xH D (λn s=>by simpa using YF.1 o n (DataW.weights_mem_each (j:=0) (t:=22) rfl rfl n s));obtain ⟨M,K,A,rfl⟩:=okWide_slice Tryz.underlying23 (a 1 23 v1 rfl rfl);obtain ⟨cl,hq⟩:=Ce E (λn s=>by simpa using YF.1 o n (DataW.weights_mem_each (j:=1) (t:=23) rfl rfl n s));obtain ⟨x2,rfl,rfl,rfl,u⟩:=open_int Tryz.underlying3 (a 2 3 v2 rfl rfl) O';obtain ⟨x3,rfl,rfl,rfl,y⟩:=open_int Tryz.underlying3 (a 3 3 v3 rfl rfl) P;obtain ⟨x4,rfl,rfl,rfl,z⟩:=open_int Tryz.underlying3 (a 4 3 v4 rfl rfl) Q;obtain ⟨i,rfl,rfl,rfl,c⟩:=open_int Tryz.underlying24 (a 5 24 v5 rfl rfl) R;have hy:(0:Int)<=i/\i<=18446744073709551615:=by have h:=c;simpa [Lit.wf,IntKind.min,IntKind.max,IntKind.bits,IntKind.signed] using h
 obtain ⟨S,V',hm⟩:∃ S:Nat,S<18446744073709551616/\i=(S:Int):=⟨i.toNat,by omega,by omega⟩;clear hy;subst hm;obtain ⟨N,L,B,rfl⟩:=okWide_slice Tryz.underlying25 (a 6 25 v6 rfl rfl);obtain ⟨fl,hr⟩:=xI F;obtain ⟨hg,hi,hs,hk⟩:=Ds U';simp only [List.append_nil] at k;have m:=λx b=>k.lt x b;refine (OY hl hv hq hr x2 x3 x4 S V' hg hs hi hk).mono λe W' ⟨Y,f⟩=>?_;subst Y;refine ⟨_,rfl,_,_,_,[],_,[],k,?_,mk7 (Below.trod Tryz.Ss (by kernel_rfl) (of_decide_eq_true (by kernel_rfl)) D f (λx b=>m x (by simp only [YE];exact .inl (.inl b)))) (Below.trod Tryz.Ss (by kernel_rfl) (of_decide_eq_true (by kernel_rfl)) E f (λx b=>m x (by simp only [YE];exact .inl (.inr b)))) (shut_int Tryz.underlying3 u) (shut_int Tryz.underlying3 y) (shut_int Tryz.underlying3 z) (shut_int Tryz.underlying24 c) (Below.trod Tryz.Ss (by kernel_rfl) (of_decide_eq_true (by kernel_rfl)) F f (λx b=>m x (by simp only [YE];exact .inr b))) ,?_,f.frame _,λh=>by cases h⟩
 . exact trodAll_mk1 (shut_bool Tryz.underlying4 true)
 . rfl
theorem row_holds:Rows.CutsSaid:=
 OpenClaim.holds_of_wide 3 Tryz.f3 rfl rfl rfl rfl rfl rfl rfl ⟨rfl,rfl,rfl,rfl,rfl⟩ rfl rfl rfl rfl rfl (by kernel_rfl) Tryz.func3 (by kernel_rfl)
  (of_decide_eq_true (by kernel_rfl)) (by unfold Func.isWrapper;rw [if_neg (of_decide_eq_false (by kernel_rfl))];exact ⟨rfl,rfl⟩)
  (λos started H enc _=>lifted os started H enc)
theorem proved:Rows.CutsCardSaid:=
 Claim7.holds_tied_plain_at .later [] [.data,.handle,.data] true (true,"b1add86883ae645e0d278222c56a34c95e596fc23dd057fde03a80d6f220395f") true
  row_holds (λ_ h=>by cases h) (by kernel_rfl) (λ_ h=>by cases h) cuts_row_tie rfl ⟨rfl,rfl⟩ (by kernel_rfl) rfl
  (λf fn hf h0=>by
   obtain rfl:f=3:=YG ((show Z8.funcNamed "stripes/stripeslaw.Cuts"=some 3 by kernel_rfl).symm.trans hf) |>.symm
   obtain rfl:fn=Tryz.f3:=(YG (Tryz.func3.symm.trans h0)).symm
   exact ⟨by kernel_rfl,λj t ht=>by
    rw [Tryz.params3] at ht
    have h3:t=22\/t=3\/t=24\/t=25\/t=23:=by
     rcases j with _|_|_|_|_|_|_|j
     . exact .inl (by simpa using ht.symm)
     . exact .inr (.inr (.inr (.inr (by simpa using ht.symm))))
     . exact .inr (.inl (by simpa using ht.symm))
     . exact .inr (.inl (by simpa using ht.symm))
     . exact .inr (.inl (by simpa using ht.symm))
     . exact .inr (.inr (.inl (by simpa using ht.symm)))
     . exact .inr (.inr (.inr (.inl (by simpa using ht.symm))))
     . simp at ht
    rcases h3 with rfl|rfl|rfl|rfl|rfl
    . exact (show Z8.wantsStandIn 22=O by kernel_rfl)
    . exact (show Z8.wantsStandIn 3=O by kernel_rfl)
    . exact (show Z8.wantsStandIn 24=O by kernel_rfl)
    . exact (show Z8.wantsStandIn 25=O by kernel_rfl)
    . exact (show Z8.wantsStandIn 23=O by kernel_rfl)⟩)
  (by kernel_rfl)
#print axioms proved
end
