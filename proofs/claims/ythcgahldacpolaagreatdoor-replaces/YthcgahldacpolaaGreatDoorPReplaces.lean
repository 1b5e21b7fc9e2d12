import Derived.Test.YthcgahldacpolaaGreatDoorTie
import Derived.Test.YthcgahldacpolaaGreatDoorCards
import Derived.Test.YthcgahldacpolaaGreatDoorM48
import Derived.SevenTiedAt
set_option maxRecDepth 100000
set_option maxHeartbeats 8000000
namespace Go.Proofs.YthcgahldacpolaaGreatDoor.replaces
open Go.ChangeShapes Go.WideShapes Go.RowKit Go.Joins
theorem trodAll_four {H:Type} {enc:TypeId×Value→H} {P:Program} {w:World} {base:Nat} {spare:Nat→Bool} {held:Bool} {t0 t1 t2 t3:TypeId} {args:Array Value} {ds:List (DataW H)} {ps:List MemPlace} (h:DataW.TrodAll enc P w base spare held [t0,t1,t2,t3] args.toList ds ps) :
 ∃ v0 v1 v2 v3 d0 d1 d2 d3 p0 p1 p2 p3,args=#[v0,v1,v2,v3]∧ds=[d0,d1,d2,d3]∧ps=p0 ++ p1 ++ p2 ++ p3∧DataW.Trod enc P w base spare held t0 v0 d0 p0∧DataW.Trod enc P w base spare held t1 v1 d1 p1∧DataW.Trod enc P w base spare held t2 v2 d2 p2∧DataW.Trod enc P w base spare held t3 v3 d3 p3:=by
 obtain ⟨v,vs,d,ds',p,q,h5,rfl,rfl,hd,h3⟩:=trodAll_cons h
 obtain ⟨v',vs',d',ds'',p',q',rfl,rfl,rfl,h6,h1⟩:=trodAll_cons h3
 obtain ⟨v'',vs'',d'',ds''',p'',q'',rfl,rfl,rfl,h4,h0⟩:=trodAll_cons h1
 obtain ⟨v3,vs3,d3,ds3,p3,q3,rfl,rfl,rfl,h7,h2⟩:=trodAll_cons h0
 obtain ⟨rfl,rfl,rfl⟩:=trodAll_nil h2
 exact ⟨v,v',v'',v3,d,d',d'',d3,p,p',p'',p3,by cases args;simp_all,rfl,by simp,hd,h6,h4,h7⟩
theorem lifted (os:Os) (started:os.Started) (H:Type) (enc:TypeId×Value→H) :
 ReturnsInHanded {} Tryz.checked os 3 .any (fun w args=>(Rows.replacesSpec.pre enc Tryz.prog Tryz.f3 [] false w args∧laidMetH Tryz.prog laids3 w)∧sizedMet enc Tryz.prog Tryz.f3 (OpenSpec.ofChange Rows.replacesSpec) false w args)
  (Rows.replacesSpec.post enc Tryz.prog Tryz.f3 false true false false):=by
 refine returnsInHanded_of_change_and (C:=Tryz.checked) (X:=fun w _=>laidMetH Tryz.prog laids3 w) (fun _ _ _ hh h=>h.of_heap hh) Tryz.own started (by kernel_rfl) Tryz.func3
  (ChangeSpec.witness_at (enc:=enc) (C:=Tryz.checked) (os:=os) (X:=fun w _=>laidMetH Tryz.prog laids3 w) false (laidWorld3 os) #[.int .i64 0,.int .i64 0,.int .i64 0,.int .i64 0] 8 rfl (by kernel_rfl) (by kernel_rfl) (by kernel_rfl) (by kernel_rfl) (by kernel_rfl) (laidWorld3_met os _)) ?_
 intro W base args ds gs before h5 hW _ _ hL _
 have h4:∀ (j:Nat) t v,Tryz.f3.params[j]?=some t→args[j]?=some v→Value.okWide Tryz.prog W .any base t v:=h5
 have h7:=hW
 obtain ⟨p,q,h8,h9,rfl,hc,hf⟩:=hW
 have hA:DataW.TrodAll enc Tryz.prog W 0 (fun _=>true) true Tryz.f3.params.toList args.toList ds p:=h8
 have hV:DataW.TrodVars enc Tryz.prog W (fun _=>true) [] gs q:=h9
 rw [Tryz.params3] at hA h4
 obtain ⟨v0,v1,v2,v3,d0,d1,d2,d3,p0,p1,p2,p3,rfl,rfl,rfl,h0,h1,h2,h3⟩:=trodAll_four hA
 obtain ⟨x0,rfl,rfl,rfl,wx0⟩:=open_int Tryz.underlying3 (h4 0 3 v0 rfl rfl) h0
 obtain ⟨x1,rfl,rfl,rfl,wx1⟩:=open_int Tryz.underlying3 (h4 1 3 v1 rfl rfl) h1
 obtain ⟨x2,rfl,rfl,rfl,wx2⟩:=open_int Tryz.underlying3 (h4 2 3 v2 rfl rfl) h2
 obtain ⟨x3,rfl,rfl,rfl,wx3⟩:=open_int Tryz.underlying3 (h4 3 3 v3 rfl rfl) h3
 obtain ⟨hg,h6,ha,hk⟩:=all_of_laid hL
 obtain ⟨rfl,rfl⟩:gs=[]∧q=[]:=by
  cases gs with
  | nil=>exact ⟨rfl,hV⟩
  | cons g r=>exact absurd hV (by intro h;cases h)
 refine (replaces_any x0 x1 x2 x3 W hg ha h6 hk).mono fun e W' ⟨he,hw⟩=>?_
 subst he
 refine ⟨_,rfl,_,_,_,[],[],[],h7,?_,?_,?_,hw.frame _,fun h=>by cases h⟩
 · exact trodAll_mk1 (shut_bool Tryz.underlying4 true)
 · exact trodAll_mk4 (shut_int Tryz.underlying3 wx0) (shut_int Tryz.underlying3 wx1) (shut_int Tryz.underlying3 wx2) (shut_int Tryz.underlying3 wx3)
 · rfl
theorem row_holds:Rows.ReplacesSaid:=
 OpenClaim.holds_of_wide 3 Tryz.f3 rfl rfl rfl rfl rfl rfl rfl ⟨rfl,rfl,rfl,rfl,rfl⟩ rfl rfl rfl rfl rfl (by kernel_rfl) Tryz.func3 (by kernel_rfl)
  (of_decide_eq_true (by kernel_rfl)) (by unfold Func.isWrapper;rw [if_neg (of_decide_eq_false (by kernel_rfl))];exact ⟨rfl,rfl⟩)
  (fun os started H enc _=>lifted os started H enc)
theorem proved:Rows.ReplacesCardSaid:=
 Claim7.holds_tied_plain_at .later [] [.data,.handle,.data] true (true,"99026c23b190986ecda4454bd5be6ecc7617e0cacbf01dedda760961733c486d") true
  row_holds (fun _ h=>by cases h) (by kernel_rfl) (fun _ h=>by cases h) replaces_row_tie rfl ⟨rfl,rfl⟩ (by kernel_rfl) rfl
  (fun f fn hf h0=>by
   obtain rfl:f=3:=Option.some.inj ((show Tryz.prog.funcNamed "stripes/stripeslaw.Replaces"=some 3 by kernel_rfl).symm.trans hf) |>.symm
   obtain rfl:fn=Tryz.f3:=(Option.some.inj (Tryz.func3.symm.trans h0)).symm
   exact ⟨by kernel_rfl,fun j t ht=>by
    rw [Tryz.params3] at ht
    have h3:t=3:=by
     rcases j with _ | _ | _ | _ | j
     · simpa using ht.symm
     · simpa using ht.symm
     · simpa using ht.symm
     · simpa using ht.symm
     · simp at ht
    subst h3
    exact (show Tryz.prog.wantsStandIn 3=false by kernel_rfl)⟩)
  (by kernel_rfl)
#print axioms proved
end Go.Proofs.YthcgahldacpolaaGreatDoor.replaces
