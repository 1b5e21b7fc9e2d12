import Derived.Test.YthcgahldacpolaaGreatDoorM32
set_option maxRecDepth 100000
set_option maxHeartbeats 8000000
namespace Go.Proofs.YthcgahldacpolaaGreatDoor
open Go.RowKit Go.Shelf Go.Deep Gf
variable {a:Act} {K:Act→World→Prop} {listed:Array Bool} {ops:Array Oper} {C C':Ck} {rec:Ck→Nat→Nat→Srch→Srch} {Q:Exit→Act→World→Prop} {F:Fence} {pre:List Sh} {n i d l B h of q Bl p n0:Nat} {o:Oper} {P:Program} {s sx:Srch} {J:Srch→World→Prop} {v:Value} {w w' W W':World}
theorem opIn_val (hg:o.guard=none) (h0:o.about P w a.eval=none) (h1:∀ c,o.op≠.defer c)
 (hr:(execOp a.eval o).run P w=.ok (.value v) w') (h:K (a.put o.dst v) w'):if Region.wanted o (yielded ops a.tmps)=true then Oper.wpIn F n P o a w K Q else (∀ f,o.about P w a.eval=some f→F.fn f)∧K (a.put o.dst undef) w:=by
 rw [if_pos (pt_want hg)]
 unfold Oper.wpIn
 refine ⟨fun f hf=>(by rw [h0] at hf;cases hf),?_⟩
 rw [Oper.semAt_plain F _ _ h1,hr]
 exact h
theorem opIn_skip (hg:o.guard=none) (h0:o.about P w a.eval=none) (h1:∀ c,o.op≠.defer c)
 (hr:(execOp a.eval o).run P w=.ok .skip w') (h:K (a.put o.dst undef) w'):if Region.wanted o (yielded ops a.tmps)=true then Oper.wpIn F n P o a w K Q else (∀ f,o.about P w a.eval=some f→F.fn f)∧K (a.put o.dst undef) w:=by
 rw [if_pos (pt_want hg)]
 unfold Oper.wpIn
 refine ⟨fun f hf=>(by rw [h0] at hf;cases hf),?_⟩
 rw [Oper.semAt_plain F _ _ h1,hr]
 exact h
theorem opIn_call {f:FuncId} {args:Array Value} {R:Ending→World→Prop} (hF:∀ f,F.fn f) (hd:F.depth=none) (hg:o.guard=none) (h0:∀ c,o.op≠.defer c)
 (hr:(execOp a.eval o).run P w=.ok (.enter f args) w') (hc:CallsIn F (n - 1) P f args w' R) (h:∀ e w'',R e w''→∃ v,e=.returned v∧K (a.put o.dst v) w''):if Region.wanted o (yielded ops a.tmps)=true then Oper.wpIn F n P o a w K Q else (∀ f,o.about P w a.eval=some f→F.fn f)∧K (a.put o.dst undef) w:=by
 rw [if_pos (pt_want hg)]
 unfold Oper.wpIn
 refine ⟨fun f _=>hF f,?_⟩
 rw [Oper.semAt_plain F _ _ h0,hr]
 refine ⟨fun h=>(by rw [hd] at h;cases h),hc.mono fun e w'' he=>?_⟩
 obtain ⟨v,rfl,hk⟩:=h e w'' he
 exact hk
def rgv:Code→Nat→Option (Array Oper)
 | .region i ops _,n=>if i=n then some ops else none
 | .seq a b,n=>(rgv a n).orElse fun _=>rgv b n
 | .cond _ a b,n=>(rgv a n).orElse fun _=>rgv b n
 | .block _ a,n=>rgv a n
 | .loop a,n=>rgv a n
 | .scope a,n=>rgv a n
 | .rangeFunc _ _ a b,n=>(rgv a n).orElse fun _=>rgv b n
 | _,_=>none
noncomputable def RVis:Array Oper:=((Tryz.f170.body.bind (rgv · 8))).getD #[]
theorem RVis_at:(List.range 9).map (fun i=>(RVis[i]?).map fun o=>(o.op,o.dst,o.guard))=[    some (.load 273 (.tmp 12),some 28,none),
 some (.load 101 (.tmp 6),some 29,none),
 some (.move (.tmp 11),some 30,none),
 some (.call { callee:=.value (.func 172),args:=#[.tmp 29,.tmp 30],argTypes:=#[101,3] },some 31,none),
 some (.load 3 (.tmp 7),some 32,none),
 some (.load 150 (.tmp 8),some 33,none),
 some (.load 299 (.tmp 9),some 34,none),
 some (.call { callee:=.value (.func 170),args:=#[.tmp 28,.tmp 31,.tmp 32,.tmp 33,.tmp 34],argTypes:=#[273,101,3,150,299] },some 35,none),
 some (.unOp .not 4 (.tmp 35),some 36,none)]:=by kernel_rfl
theorem RVis_op {x:Op} {d:Option Nat} (hi:i < 9) (h:((List.range 9).map (fun i=>(RVis[i]?).map fun o=>(o.op,o.dst,o.guard)))[i]?=some (some (x,d,none))):∃ o,RVis[i]?=some o∧o.op=x∧o.dst=d∧o.guard=none:=by
 simp only [List.getElem?_map,List.getElem?_range hi,Option.map_some,Option.some.injEq,Option.map_eq_some_iff,Prod.mk.injEq] at h
 obtain ⟨o,h1,h2,h3,h4⟩:=h
 exact ⟨o,h1,h2,h3,h4⟩
def edg:Nat→List Nat
 | 3=>[1,2]
 | 7=>[0,3,4,5,6,3]
 | 8=>[7]
 | _=>[]
theorem RVis_edg:(List.range 9).map (fun i=>(RVis[i]?).map fun o=>(o.after.toList.filter (fun e=>Region.binds .any e)).map (fun e=>e.on))=(List.range 9).map (fun i=>some (edg i)):=by kernel_rfl
theorem vis_ready (h:i∈Region.ready .any RVis listed):i < 9∧listed.getD i true=false∧∀ k∈edg i,listed.getD k false=true:=by
 have h0:RVis.size=9:=by kernel_rfl
 unfold Region.ready at h
 rw [List.mem_filter,h0,List.mem_range] at h
 obtain ⟨h1,h2⟩:=h
 rw [Bool.and_eq_true_iff] at h2
 refine ⟨h1,by simpa using h2.1,fun k hk=>?_⟩
 have he:(RVis[i]?).map (fun o=>(o.after.toList.filter (fun e=>Region.binds .any e)).map (fun e=>e.on))=some (edg i):=by
  have:=congrArg (fun l=>l[i]?) RVis_edg
  simp only [List.getElem?_map,List.getElem?_range h1,Option.map_some,Option.some.injEq] at this
  exact this
 rw [Option.map_eq_some_iff] at he
 obtain ⟨o,ho,h4⟩:=he
 rw [ho] at h2
 have h3:=h2.2
 simp only [Option.map_some,Option.getD_some] at h3
 rw [← h4,List.mem_map] at hk
 obtain ⟨e,he,rfl⟩:=hk
 obtain ⟨m1,m2⟩:=List.mem_filter.1 he
 have:=Array.all_eq_true'.1 h3 e (by simpa using m1)
 simpa [m2] using this
theorem ready_vis (h1:i < 9) (h2:listed.getD i true=false) (h3:∀ k∈edg i,listed.getD k false=true):i∈Region.ready .any RVis listed:=by
 have h0:RVis.size=9:=by kernel_rfl
 unfold Region.ready
 rw [List.mem_filter,h0,List.mem_range]
 refine ⟨h1,?_⟩
 rw [Bool.and_eq_true_iff]
 refine ⟨by simpa using h2,?_⟩
 have he:(RVis[i]?).map (fun o=>(o.after.toList.filter (fun e=>Region.binds .any e)).map (fun e=>e.on))=some (edg i):=by
  have:=congrArg (fun l=>l[i]?) RVis_edg
  simp only [List.getElem?_map,List.getElem?_range h1,Option.map_some,Option.some.injEq] at this
  exact this
 rw [Option.map_eq_some_iff] at he
 obtain ⟨o,ho,h4⟩:=he
 rw [ho]
 simp only [Option.map_some,Option.getD_some]
 rw [Array.all_eq_true']
 intro e he
 by_cases hb:Region.binds .any e=true
 · have:=h3 e.on (by rw [← h4];exact List.mem_map.2 ⟨e,List.mem_filter.2 ⟨by simpa using he,hb⟩,rfl⟩)
   simp [this]
 · simp [hb]
theorem anyIn_inv (I:Nat→Array Bool→Act→World→Prop)
 (h0:∀ listed a w,I 0 listed a w→Region.ready .any ops listed=[]∧Q .normal a w)
 (hs:∀ f listed a w,I (f+1) listed a w→Region.ready .any ops listed≠[]∧∀ i∈Region.ready .any ops listed,wpOpIn F n P ops Q i (I f (listed.setIfInBounds i true)) a w) :
 ∀ f listed a w,I f listed a w→wpAnyIn F n P .any ops Q f listed a w
 | 0,listed,a,w,h=>h0 listed a w h
 | f+1,listed,a,w,h=>⟨fun e=>absurd e (hs f listed a w h).1,fun i hi=>wpOpIn_mono (fun a' w' h'=>anyIn_inv I h0 hs f _ a' w' h') ((hs f listed a w h).2 i hi)⟩
def bn (b:Bool):Nat:=if b=true then 0 else 1
def VisI (a:Act) (w:World) (R:World→Prop) (i of q:Nat) (C:Ck) (vf vy:Value) (f:Nat) (listed:Array Bool) (a':Act) (w':World):Prop:=
 Kept 28 37 a a'∧((∃ b0 b1 b2 b3 b4 b5 b6:Bool,listed=#[b0,b1,b2,b3,b4,b5,b6,false,false]∧f=2+(bn b0+bn b1+bn b2+bn b3+bn b4+bn b5+bn b6)∧(b3=true→b1=true∧b2=true)∧w'=w.drew ∧
  (b0=true→a'.eval (.tmp 28)=.agg (ckA C))∧(b1=true→a'.eval (.tmp 29)=.int .u64 (of:Int))∧(b2=true→a'.eval (.tmp 30)=.int .i64 (i:Int))∧(b3=true→a'.eval (.tmp 31)=.int .u64 (behindN of i:Nat)) ∧
  (b4=true→a'.eval (.tmp 32)=.int .i64 (q:Int))∧(b5=true→a'.eval (.tmp 33)=vf)∧(b6=true→a'.eval (.tmp 34)=vy)) ∨
  (f=1∧listed=#[true,true,true,true,true,true,true,true,false]∧a'.eval (.tmp 35)=.bool true∧R w') ∨
  (f=0∧listed=#[true,true,true,true,true,true,true,true,true]∧a'.eval (.tmp 36)=.bool false∧R w'))
theorem bn_false {b:Bool} (h:b=false):bn b=1:=by rw [h];rfl
theorem vis_region (B12 B6 B7 B8 B9 i of q:Nat) (C:Ck) (vf vy:Value) (R:World→Prop) (hR:RVis=ops)
 (sz:a.tmps.size=39) (hi:i < 16) (h9:of < 65536) (i12:a.eval (.tmp 12)=.pointer (some ⟨B12,0,none⟩)) (i6:a.eval (.tmp 6)=.pointer (some ⟨B6,0,none⟩)) (i11:a.eval (.tmp 11)=.int .i64 (i:Int)) (i7:a.eval (.tmp 7)=.pointer (some ⟨B7,0,none⟩)) (i8:a.eval (.tmp 8)=.pointer (some ⟨B8,0,none⟩)) (i9:a.eval (.tmp 9)=.pointer (some ⟨B9,0,none⟩))
 (ha:CkAt w.drew B12 C) (c6:w.drew.cell? ⟨B6,0,none⟩=some (.int .u64 (of:Int))) (c7:w.drew.cell? ⟨B7,0,none⟩=some (.int .i64 (q:Int))) (c8:w.drew.cell? ⟨B8,0,none⟩=some vf) (c9:w.drew.cell? ⟨B9,0,none⟩=some vy)
 (h7:∀ m,CallsIn Fence.wide m Tryz.prog 170 #[.agg (ckA C),.int .u64 (behindN of i:Nat),.int .i64 (q:Int),vf,vy] w.drew fun e w''=>e=.returned (.bool true)∧R w'')
 (h:∀ a' w'',Kept 28 37 a a'→a'.eval (.tmp 36)=.bool false→R w''→Q .normal a' w''):(Code.region 8 ops true).wpIn (Fence.wide.inRound l) n Tryz.prog Q a w:=by
 subst hR
 obtain ⟨p0,g0,x0,d0,k0⟩:=RVis_op (i:=0) (by decide) (by rw [RVis_at];rfl)
 obtain ⟨p1,g1,x1,d1,k1⟩:=RVis_op (i:=1) (by decide) (by rw [RVis_at];rfl)
 obtain ⟨p2,g2,x2,d2,k2⟩:=RVis_op (i:=2) (by decide) (by rw [RVis_at];rfl)
 obtain ⟨p3,g3,x3,d3,k3⟩:=RVis_op (i:=3) (by decide) (by rw [RVis_at];rfl)
 obtain ⟨p4,g4,x4,d4,k4⟩:=RVis_op (i:=4) (by decide) (by rw [RVis_at];rfl)
 obtain ⟨p5,g5,x5,d5,k5⟩:=RVis_op (i:=5) (by decide) (by rw [RVis_at];rfl)
 obtain ⟨p6,g6,x6,d6,k6⟩:=RVis_op (i:=6) (by decide) (by rw [RVis_at];rfl)
 obtain ⟨p7,g7,x7,d7,k7⟩:=RVis_op (i:=7) (by decide) (by rw [RVis_at];rfl)
 obtain ⟨p8,g8,x8,d8,k8⟩:=RVis_op (i:=8) (by decide) (by rw [RVis_at];rfl)
 have h6:RVis.size=9:=by kernel_rfl
 refine wpIn_region_any (by kernel_rfl) ?_
 rw [h6]
 refine anyIn_inv (VisI a w R i of q C vf vy) ?_ ?_ 9 _ a _ ⟨Kept.refl _ _ _,.inl ⟨false,false,false,false,false,false,false,rfl,rfl,fun h=>(by cases h),rfl,fun h=>(by cases h),fun h=>(by cases h),fun h=>(by cases h),fun h=>(by cases h),fun h=>(by cases h),fun h=>(by cases h),fun h=>(by cases h)⟩⟩
 · rintro listed a' w' ⟨hk,⟨b0,b1,b2,b3,b4,b5,b6,_,hf,_⟩ | ⟨hf,_⟩ | ⟨_,rfl,f36,hw⟩⟩
   · omega
   · omega
   · refine ⟨List.eq_nil_iff_forall_not_mem.2 fun j hj=>?_,h a' w' hk f36 hw⟩
     obtain ⟨h1,h2,_⟩:=vis_ready hj
     have:j=0∨j=1∨j=2∨j=3∨j=4∨j=5∨j=6∨j=7∨j=8:=by omega
     rcases this with rfl | rfl | rfl | rfl | rfl | rfl | rfl | rfl | rfl <;> simp at h2
 · rintro f listed a' w' ⟨hk,⟨b0,b1,b2,b3,b4,b5,b6,rfl,hf,h3,rfl,q0,q1,q2,q3,q4,q5,q6⟩ | ⟨hf,rfl,f35,hw⟩ | ⟨hf,_⟩⟩
   · constructor
     ·
      intro h5
      have h0:∀ j,j∉Region.ready .any RVis #[b0,b1,b2,b3,b4,b5,b6,false,false]:=fun j=>by rw [h5];simp
      have e0:b0=true:=eq_true_of_ne_false fun e=>h0 0 (ready_vis (by decide) (by simp [e]) (by simp [edg]))
      have e1:b1=true:=eq_true_of_ne_false fun e=>h0 1 (ready_vis (by decide) (by simp [e]) (by simp [edg]))
      have e2:b2=true:=eq_true_of_ne_false fun e=>h0 2 (ready_vis (by decide) (by simp [e]) (by simp [edg]))
      have e3:b3=true:=eq_true_of_ne_false fun e=>h0 3 (ready_vis (by decide) (by simp [e]) (by simp [edg,e1,e2]))
      have e4:b4=true:=eq_true_of_ne_false fun e=>h0 4 (ready_vis (by decide) (by simp [e]) (by simp [edg]))
      have e5:b5=true:=eq_true_of_ne_false fun e=>h0 5 (ready_vis (by decide) (by simp [e]) (by simp [edg]))
      have e6:b6=true:=eq_true_of_ne_false fun e=>h0 6 (ready_vis (by decide) (by simp [e]) (by simp [edg]))
      exact h0 7 (ready_vis (by decide) (by simp) (by simp [edg,e0,e3,e4,e5,e6]))
     · intro j hj
       obtain ⟨h1,h2,h4⟩:=vis_ready hj
       clear hj
       have h8:j=0∨j=1∨j=2∨j=3∨j=4∨j=5∨j=6∨j=7∨j=8:=by omega
       rcases h8 with rfl | rfl | rfl | rfl | rfl | rfl | rfl | rfl | rfl
       · have eb:b0=false:=by simpa using h2
         have s0:=(hk.slot 12 (by omega)).trans i12
         refine wpOpIn_step g0 fun K hK=>opIn_val (v:=.agg (ckA C)) (w':=w.drew) k0 (by simp [Oper.about,x0]) (by rw [x0];intro c hc;cases hc) (by simp [execOp,x0,s0,ck_loadAt ha,Result.andThen]) (hK _ _ ?_)
         rw [d0]
         exact ⟨hk.put 28 _ (by decide) (by decide),.inl ⟨true,b1,b2,b3,b4,b5,b6,rfl,by rw [bn_false eb] at hf;simp only [bn,if_true];simp only [bn] at hf;omega,h3,rfl,fun _=>pt_same _ _ _ (by rw [hk.size,sz];decide),fun e=>(pt_other _ _ _ _ (by decide)).trans (q1 e),fun e=>(pt_other _ _ _ _ (by decide)).trans (q2 e),fun e=>(pt_other _ _ _ _ (by decide)).trans (q3 e),fun e=>(pt_other _ _ _ _ (by decide)).trans (q4 e),fun e=>(pt_other _ _ _ _ (by decide)).trans (q5 e),fun e=>(pt_other _ _ _ _ (by decide)).trans (q6 e)⟩⟩
       · have eb:b1=false:=by simpa using h2
         have s0:=(hk.slot 6 (by omega)).trans i6
         refine wpOpIn_step g1 fun K hK=>opIn_val (v:=.int .u64 (of:Int)) (w':=w.drew) k1 (by simp [Oper.about,x1]) (by rw [x1];intro c hc;cases hc) (by simp only [execOp,x1,s0];go_simp) (hK _ _ ?_)
         rw [d1]
         exact ⟨hk.put 29 _ (by decide) (by decide),.inl ⟨b0,true,b2,b3,b4,b5,b6,rfl,by rw [bn_false eb] at hf;simp only [bn,if_true];simp only [bn] at hf;omega,fun e=>⟨rfl,(h3 e).2⟩,rfl,fun e=>(pt_other _ _ _ _ (by decide)).trans (q0 e),fun _=>pt_same _ _ _ (by rw [hk.size,sz];decide),fun e=>(pt_other _ _ _ _ (by decide)).trans (q2 e),fun e=>(pt_other _ _ _ _ (by decide)).trans (q3 e),fun e=>(pt_other _ _ _ _ (by decide)).trans (q4 e),fun e=>(pt_other _ _ _ _ (by decide)).trans (q5 e),fun e=>(pt_other _ _ _ _ (by decide)).trans (q6 e)⟩⟩
       · have eb:b2=false:=by simpa using h2
         have s0:=(hk.slot 11 (by omega)).trans i11
         refine wpOpIn_step g2 fun K hK=>opIn_val (v:=.int .i64 (i:Int)) (w':=w.drew) k2 (by simp [Oper.about,x2]) (by rw [x2];intro c hc;cases hc) (by simp [execOp,x2,s0]) (hK _ _ ?_)
         rw [d2]
         exact ⟨hk.put 30 _ (by decide) (by decide),.inl ⟨b0,b1,true,b3,b4,b5,b6,rfl,by rw [bn_false eb] at hf;simp only [bn,if_true];simp only [bn] at hf;omega,fun e=>⟨(h3 e).1,rfl⟩,rfl,fun e=>(pt_other _ _ _ _ (by decide)).trans (q0 e),fun e=>(pt_other _ _ _ _ (by decide)).trans (q1 e),fun _=>pt_same _ _ _ (by rw [hk.size,sz];decide),fun e=>(pt_other _ _ _ _ (by decide)).trans (q3 e),fun e=>(pt_other _ _ _ _ (by decide)).trans (q4 e),fun e=>(pt_other _ _ _ _ (by decide)).trans (q5 e),fun e=>(pt_other _ _ _ _ (by decide)).trans (q6 e)⟩⟩
       · have eb:b3=false:=by simpa using h2
         have e1:b1=true:=by have:=h4 1 (by simp [edg]);simpa using this
         have e2:b2=true:=by have:=h4 2 (by simp [edg]);simpa using this
         have s0:=q1 e1
         have s1:=q2 e2
         refine wpOpIn_step g3 fun K hK=>opIn_call (fun _=>trivial) rfl k3 (by rw [x3];intro c hc;cases hc) (f:=172) (args:=#[.int .u64 (of:Int),.int .i64 (i:Int)]) (w':=w.drew) (by have sf:a'.eval (.func 172)=.func (.func 172) #[] #[]:=rfl;generalize a'.eval=ev at s0 s1 sf ⊢;simp [execOp,x3,resolve,invoke,s0,s1,sf,go_sem]) (CallsIn.inRound l (callsIn_wide.2 (behind_any of i h9 hi _))) ?_
         rintro e w'' ⟨rfl,rfl⟩
         refine ⟨_,rfl,hK _ _ ?_⟩
         rw [d3]
         exact ⟨hk.put 31 _ (by decide) (by decide),.inl ⟨b0,b1,b2,true,b4,b5,b6,rfl,by rw [bn_false eb] at hf;simp only [bn,if_true];simp only [bn] at hf;omega,fun _=>⟨e1,e2⟩,rfl,fun e=>(pt_other _ _ _ _ (by decide)).trans (q0 e),fun e=>(pt_other _ _ _ _ (by decide)).trans (q1 e),fun e=>(pt_other _ _ _ _ (by decide)).trans (q2 e),fun _=>pt_same _ _ _ (by rw [hk.size,sz];decide),fun e=>(pt_other _ _ _ _ (by decide)).trans (q4 e),fun e=>(pt_other _ _ _ _ (by decide)).trans (q5 e),fun e=>(pt_other _ _ _ _ (by decide)).trans (q6 e)⟩⟩
       · have eb:b4=false:=by simpa using h2
         have s0:=(hk.slot 7 (by omega)).trans i7
         refine wpOpIn_step g4 fun K hK=>opIn_val (v:=.int .i64 (q:Int)) (w':=w.drew) k4 (by simp [Oper.about,x4]) (by rw [x4];intro c hc;cases hc) (by simp only [execOp,x4,s0];go_simp) (hK _ _ ?_)
         rw [d4]
         exact ⟨hk.put 32 _ (by decide) (by decide),.inl ⟨b0,b1,b2,b3,true,b5,b6,rfl,by rw [bn_false eb] at hf;simp only [bn,if_true];simp only [bn] at hf;omega,h3,rfl,fun e=>(pt_other _ _ _ _ (by decide)).trans (q0 e),fun e=>(pt_other _ _ _ _ (by decide)).trans (q1 e),fun e=>(pt_other _ _ _ _ (by decide)).trans (q2 e),fun e=>(pt_other _ _ _ _ (by decide)).trans (q3 e),fun _=>pt_same _ _ _ (by rw [hk.size,sz];decide),fun e=>(pt_other _ _ _ _ (by decide)).trans (q5 e),fun e=>(pt_other _ _ _ _ (by decide)).trans (q6 e)⟩⟩
       · have eb:b5=false:=by simpa using h2
         have s0:=(hk.slot 8 (by omega)).trans i8
         refine wpOpIn_step g5 fun K hK=>opIn_val (v:=vf) (w':=w.drew) k5 (by simp [Oper.about,x5]) (by rw [x5];intro c hc;cases hc) (by simp only [execOp,x5,s0];go_simp) (hK _ _ ?_)
         rw [d5]
         exact ⟨hk.put 33 _ (by decide) (by decide),.inl ⟨b0,b1,b2,b3,b4,true,b6,rfl,by rw [bn_false eb] at hf;simp only [bn,if_true];simp only [bn] at hf;omega,h3,rfl,fun e=>(pt_other _ _ _ _ (by decide)).trans (q0 e),fun e=>(pt_other _ _ _ _ (by decide)).trans (q1 e),fun e=>(pt_other _ _ _ _ (by decide)).trans (q2 e),fun e=>(pt_other _ _ _ _ (by decide)).trans (q3 e),fun e=>(pt_other _ _ _ _ (by decide)).trans (q4 e),fun _=>pt_same _ _ _ (by rw [hk.size,sz];decide),fun e=>(pt_other _ _ _ _ (by decide)).trans (q6 e)⟩⟩
       · have eb:b6=false:=by simpa using h2
         have s0:=(hk.slot 9 (by omega)).trans i9
         refine wpOpIn_step g6 fun K hK=>opIn_val (v:=vy) (w':=w.drew) k6 (by simp [Oper.about,x6]) (by rw [x6];intro c hc;cases hc) (by simp only [execOp,x6,s0];go_simp) (hK _ _ ?_)
         rw [d6]
         exact ⟨hk.put 34 _ (by decide) (by decide),.inl ⟨b0,b1,b2,b3,b4,b5,true,rfl,by rw [bn_false eb] at hf;simp only [bn,if_true];simp only [bn] at hf;omega,h3,rfl,fun e=>(pt_other _ _ _ _ (by decide)).trans (q0 e),fun e=>(pt_other _ _ _ _ (by decide)).trans (q1 e),fun e=>(pt_other _ _ _ _ (by decide)).trans (q2 e),fun e=>(pt_other _ _ _ _ (by decide)).trans (q3 e),fun e=>(pt_other _ _ _ _ (by decide)).trans (q4 e),fun e=>(pt_other _ _ _ _ (by decide)).trans (q5 e),fun _=>pt_same _ _ _ (by rw [hk.size,sz];decide)⟩⟩
       · have e0:b0=true:=by have:=h4 0 (by simp [edg]);simpa using this
         have e3:b3=true:=by have:=h4 3 (by simp [edg]);simpa using this
         have e4:b4=true:=by have:=h4 4 (by simp [edg]);simpa using this
         have e5:b5=true:=by have:=h4 5 (by simp [edg]);simpa using this
         have e6:b6=true:=by have:=h4 6 (by simp [edg]);simpa using this
         obtain ⟨e1,e2⟩:=h3 e3
         subst e0 e1 e2 e3 e4 e5 e6
         have s0:=q0 rfl
         have s3:=q3 rfl
         have s4:=q4 rfl
         have s5:=q5 rfl
         have s6:=q6 rfl
         refine wpOpIn_step g7 fun K hK=>opIn_call (fun _=>trivial) rfl k7 (by rw [x7];intro c hc;cases hc) (f:=170) (args:=#[.agg (ckA C),.int .u64 (behindN of i:Nat),.int .i64 (q:Int),vf,vy]) (w':=w.drew) (by have sf:a'.eval (.func 170)=.func (.func 170) #[] #[]:=rfl;generalize a'.eval=ev at s0 s3 s4 s5 s6 sf ⊢;simp [execOp,x7,resolve,invoke,s0,s3,s4,s5,s6,sf,go_sem]) (CallsIn.inRound l (h7 _)) ?_
         rintro e w'' ⟨rfl,hw⟩
         refine ⟨_,rfl,hK _ _ ?_⟩
         rw [d7]
         exact ⟨hk.put 35 _ (by decide) (by decide),.inr (.inl ⟨by simp only [bn,if_true] at hf;omega,rfl,pt_same _ _ _ (by rw [hk.size,sz];decide),hw⟩)⟩
       · have:=h4 7 (by simp [edg])
         simp at this
   · constructor
     · intro h5
       have:8∈Region.ready .any RVis #[true,true,true,true,true,true,true,true,false]:=ready_vis (by decide) (by simp) (by simp [edg])
       rw [h5] at this;cases this
     · intro j hj
       obtain ⟨h1,h2,_⟩:=vis_ready hj
       have:j=8:=by
        have h8:j=0∨j=1∨j=2∨j=3∨j=4∨j=5∨j=6∨j=7∨j=8:=by omega
        rcases h8 with rfl | rfl | rfl | rfl | rfl | rfl | rfl | rfl | rfl <;> first | rfl | (simp at h2)
       subst this
       refine wpOpIn_step g8 fun K hK=>opIn_val (v:=.bool false) (w':=w') k8 (by simp [Oper.about,x8]) (by rw [x8];intro c hc;cases hc) (by simp only [execOp,x8,f35];go_simp) (hK _ _ ?_)
       rw [d8]
       exact ⟨hk.put 36 _ (by decide) (by decide),.inr (.inr ⟨by omega,rfl,pt_same _ _ _ (by rw [hk.size,sz];decide),hw⟩)⟩
   · omega
section
attribute [local go_sem] Oper.semAt_some
theorem fewer_any (p least Bl:Nat) (w:World) (hc:w.cell? ⟨Bl,0,none⟩=some (.int .i64 (least:Int))) :
 Calls Tryz.prog 164 #[.int .i64 p,.pointer (some ⟨Bl,0,none⟩)] w fun e w'=>e=.returned (.bool (decide (p < least)))∧w'=w:=by
 go_enter Tryz.func164,Tryz.ntmps164
 go_wp2
 go_ret
 exact ⟨by simp,rfl⟩
def fewV (Bl:Nat):Value:=.func (.func 164) #[] #[.pointer (some ⟨Bl,0,none⟩)]
def Bx (W:World) (B:Nat) (v:Value):Prop:=∃ t,Boxed W B t v
theorem Bx.cell (h:Bx W B v):W.cell? ⟨B,0,none⟩=some v:=by obtain ⟨t,h⟩:=h;exact h.cell
theorem Bx.frozen (h:Bx W B v):W.frozen? ⟨B,0,none⟩=false:=by obtain ⟨t,h⟩:=h;exact h.frozen
theorem Bx.lt (h:Bx W B v):B < W.heap.size:=by obtain ⟨t,h⟩:=h;exact h.lt
theorem Bx.keep (h:Bx W B v) (e:W'.heap[B]?=W.heap[B]?):Bx W' B v:=by obtain ⟨t,h⟩:=h;exact ⟨t,e.trans h⟩
theorem Bx.set (h:Bx W B v) (v':Value):Bx (W.setCell ⟨B,0,none⟩ v') B v':=by obtain ⟨t,h⟩:=h;exact ⟨t,h.set v'⟩
theorem Bx.new (W:World) (t:TypeId) (v:Value):Bx (W.alloc (.cells #[v] t)) W.heap.size v:=⟨t,Boxed.new W t v⟩
theorem Bx.alloc (h:Bx W B v) (o:Obj):Bx (W.alloc o) B v:=by obtain ⟨t,h⟩:=h;exact ⟨t,h.alloc o⟩
structure VB (W:World) (h:Nat) (C:Ck) (of q Bl l:Nat):Prop where
 ck:CkAt W h C
 set:Bx W (h+1) (.int .u64 (of:Int))
 pas:Bx W (h+1+1) (.int .i64 (q:Int))
 few:Bx W (h+1+1+1) (fewV Bl)
 yld:Bx W (h+1+1+1+1) (.func (.yield l) #[] #[])
 res:Bx W (h+1+1+1+1+1) (.bool false)
theorem VB.keep (v:VB W h C of q Bl l) (e:∀ k,h≤k→k < h+6→W'.heap[k]?=W.heap[k]?):VB W' h C of q Bl l:=
 ⟨v.ck.keep (e _ (by omega) (by omega)),v.set.keep (e _ (by omega) (by omega)),v.pas.keep (e _ (by omega) (by omega)),v.few.keep (e _ (by omega) (by omega)),v.yld.keep (e _ (by omega) (by omega)),v.res.keep (e _ (by omega) (by omega))⟩
theorem VB.passed (v:VB W h C of q Bl l) (q':Nat):VB (W.setCell ⟨h+1+1,0,none⟩ (.int .i64 (q':Int))) h C of q' Bl l:=by
 have e:∀ k,k≠h+1+1→(W.setCell ⟨h+1+1,0,none⟩ (.int .i64 (q':Int))).heap[k]?=W.heap[k]?:=fun k hk=>Below.heap_setCell _ _ _ _ hk
 exact ⟨v.ck.keep (e _ (by omega)),v.set.keep (e _ (by omega)),v.pas.set _,v.few.keep (e _ (by omega)),v.yld.keep (e _ (by omega)),v.res.keep (e _ (by omega))⟩
def visTo (K:List Nat) (d:Nat) (C:Ck) (of p:Nat) (s:Srch) (pre:List Sh):Nat×Srch×Bool:=(pre.map (·.1)).foldl (visF (recS K d) C of) (p,stepS K s C,false)
theorem visTo_snoc (K:List Nat) (d:Nat) (C:Ck) (of p:Nat) (s:Srch) (pre:List Sh) (x:Sh):visTo K d C of p s (pre ++ [x])=visF (recS K d) C of (visTo K d C of p s pre) x.1:=by
 unfold visTo;rw [List.map_append,List.foldl_append];rfl
theorem visTo_end {K:List Nat} (h:pre.map (·.1)=mems of):(visTo K d C of p s pre).2.1=visitS K d C of p s:=by
 unfold visTo;rw [h,visitS_eq]
theorem visTo_stop {K:List Nat} (h:pre.map (·.1) <+: mems of) (hb:(visTo K d C of p s pre).2.2=true):(visTo K d C of p s pre).2.1=visitS K d C of p s:=by
 obtain ⟨R,hR⟩:=h
 rw [visitS_eq,← hR,List.foldl_append]
 show _=(R.foldl (visF (recS K d) C of) (visTo K d C of p s pre)).2.1
 obtain ⟨e1,e2⟩:∃ q sx,visTo K d C of p s pre=(q,sx,true):=⟨_,_,by rw [← hb]⟩
 obtain ⟨e2,e3⟩:=e2
 rw [e3,visF_done]
def VI (K:List Nat) (d:Nat) (C:Ck) (of p:Nat) (s:Srch) (W:World) (B n0 Bl l:Nat) (J:Srch→World→Prop) (brk:Bool) (pre:List Sh) (X:World):Prop:=
 (visTo K d C of p s pre).2.2=brk∧VB X W.heap.size C of (visTo K d C of p s pre).1 Bl l∧J (visTo K d C of p s pre).2.1 X∧Above n0 W X∧(visTo K d C of p s pre).1≤p+pre.length∧B≤X.heap.size
theorem VI.own {K:List Nat} {brk:Bool} (h0:∀ s A B,J s A→Below n0 A B→J s B) (h6:W.heap.size+6≤B) (hn:n0≤W.heap.size) :
 OwnFrom B (VI K d C of p s W B n0 Bl l J brk):=by
 rintro pre X Y row ⟨h1,h2,h3,h4,h5,h7⟩ hg hr
 have hk:∀ k,k < W.heap.size+6→Y.heap[k]?=X.heap[k]?:=fun k hk=>hg.block k (by omega) (fun e=>by have:=(hr k e.symm).1;omega)
 have hs:=hg.size
 refine ⟨h1,h2.keep (fun k _ h8=>hk k h8),h0 _ _ _ h3 ⟨hg.os,hg.tape,hg.output,hg.size,fun k h9=>hk k (by omega)⟩,⟨hg.os.trans h4.os,hg.tape.trans h4.tape,hg.output.trans h4.output,by have:=h4.size;omega,fun k k1 k2=>(hk k (by omega)).trans (h4.block k k1 k2)⟩,h5,by omega⟩
def VX (K:List Nat) (d:Nat) (C:Ck) (of p:Nat) (s:Srch) (W:World) (B n0 Bl l:Nat) (J:Srch→World→Prop) (c:Code) (pre:List Sh) (X:World):Prop:=c=.exit 0∧VI K d C of p s W B n0 Bl l J true pre X
theorem visF_stop (h:¬ q < sx.2):visF rec C of (q,sx,false) i=(q,sx,true):=by unfold visF;simp [h]
theorem visF_pass (h:q < sx.2) (hl:leave C i=none):visF rec C of (q,sx,false) i=(q,sx,false):=by unfold visF;simp [h,hl]
theorem visF_go (h:q < sx.2) (hl:leave C i=some C'):visF rec C of (q,sx,false) i=(q+1,rec C' (behindN of i) q sx,false):=by unfold visF;simp [h,hl]
theorem shs_len (s:Nat):(shs s).length=(mems s).length:=by rw [← shs_val s,List.length_map]
theorem shs_le (s:Nat):(shs s).length≤16:=by
 rw [shs_len]
 exact Nat.le_trans (List.length_filter_le _ _) (by simp)
theorem wrap_next (q:Nat) (h:q≤100000):wrap64 ((q:Int)+1)=((q+1:Nat):Int)∧IntKind.i64.wrap ((q:Int)+1)=((q+1:Nat):Int):=by
 constructor
 · unfold wrap64;omega
 · rw [IntKind.wrap_i64];omega
theorem visit_end {D:Nat} {X:World} (h2:∀ s A B,J s A→Below n0 A B→J s B) (ha:n0≤W.heap.size) (hB:W.heap.size≤B) (hD:W.heap.size≤D) (h5:B≠D)
 (h0:Bx X B (.bool false)) (hJ:J s X) (hA:Above n0 W X) (hK:X.heap[D]?=some (.deferred (some []))) (hd:a.defers=[{ target:=.collected D,args:=#[] }]) (h6:a.eval (.tmp 10)=.pointer (some ⟨B,0,none⟩)) (hT:a.tmps.size=39) :
 bodyPostM Fence.wide n Tryz.prog Tryz.f170 (fun e W'=>e=.returned (.bool true)∧J s W'∧Above n0 W W') .ret a (X.setCell ⟨B,0,none⟩ (.bool true)):=by
 have h3:(X.setCell ⟨B,0,none⟩ (.bool true)).heap[D]?=some (.deferred (some [])):=(KeepsOthers.setCell _ _ _).same D _ hK rfl
 obtain ⟨tm,df⟩:=a
 simp only at hd hT
 subst hd
 refine ⟨by simp,.inl ⟨_,_,rfl,run_takeDeferred h3,?_⟩⟩
 have h7:Bx (X.setCell ⟨B,0,none⟩ (.bool true)) B (.bool true):=h0.set _
 have h8:Bx ((X.setCell ⟨B,0,none⟩ (.bool true)).putObj D (.deferred none)) B (.bool true):=h7.keep (World.putObj_heap_other (fun e=>h5 e))
 have c:=h8.cell
 have h9:=(Array.getElem?_eq_some_iff.1 h3).1
 have h1:tm.getD 10 undef=.pointer (some ⟨B,0,none⟩):=h6
 refine ⟨.bool true,?_,rfl,h2 _ _ _ (h2 _ _ _ hJ ((Below.refl _ _).setCell (p:=⟨B,0,none⟩) (by show n0≤B;omega) _)) (Below.putObj' (Below.refl _ _) (by omega) h9 _),(hA.setCell (p:=⟨B,0,none⟩) (.inr hB) _).putObj (.inr hD) _⟩
 have h4:tm[10]'(by omega)=.pointer (some ⟨B,0,none⟩):=by rw [← h1];simp [hT]
 simp only [results,Tryz.results170]
 go_simp
theorem visit_step (K:List Nat) (n0 Bl l:Nat) (J:Srch→World→Prop) (h8:∀ s A B,J s A→Below n0 A B→J s B)
 (k8:∀ s A,J s A→A.cell? ⟨Bl,0,none⟩=some (.int .i64 (s.2:Int))∧n0≤A.heap.size∧tabLaid A) (qp:2≤n0)
 (hY:∀ m s C W1,J s W1→CkFit C→YieldAt Fence.wide m Tryz.prog l #[.agg (ckA C)] W1 fun e W'=>e=.returned (.bool true)∧J (stepS K s C) W'∧Above n0 W1 W')
 (d m:Nat) (C:Ck) (of p:Nat) (s:Srch) (W:World) (hf:CkFit C) (kc:of < 65536) (hp:p+16≤100000) (hJ:J s W)
 (kd:∀ (m i:Nat) (C':Ck) (of' p':Nat) (s':Srch) (W':World),leave C i=some C'→of' < 65536→p'≤p+16→J s' W' →
  CallsIn Fence.wide m Tryz.prog 170 #[.agg (ckA C'),.int .u64 of',.int .i64 p',fewV Bl,.func (.yield l) #[] #[]] W' fun e W''=>e=.returned (.bool true)∧J (recS K d C' of' p' s') W''∧Above n0 W' W'') :
 CallsIn Fence.wide m Tryz.prog 170 #[.agg (ckA C),.int .u64 of,.int .i64 p,fewV Bl,.func (.yield l) #[] #[]] W fun e W'=>e=.returned (.bool true)∧J (visitS K d C of p s) W'∧Above n0 W W':=by
 have qq:=ckA_size C
 obtain ⟨_,he,_⟩:=k8 s W hJ
 obtain ⟨n,HN⟩:∃ n:Nat,Hid (5≤n):=⟨5,Nat.le_refl _⟩
 refine callsIn_wide.2 ((callsIn_wide (n:=n)).1 ?_)
 refine callsIn_of_wp_marks Tryz.func170 rfl trivial ?_ rfl
 simp only [Tryz.ntmps170,List.size_toArray,List.length_cons,List.length_nil,Nat.reduceAdd,Nat.reduceSub,Array.replicate_succ,Array.replicate_zero,List.push_toArray,List.append_toArray,List.nil_append,List.cons_append]
 have hh:Below W.heap.size W ((((((W.alloc (.cells (ckA C) 273)).alloc (.cells #[.int .u64 (of:Int)] 101)).alloc (.cells #[.int .i64 (p:Int)] 3)).alloc (.cells #[fewV Bl] 150)).alloc (.cells #[.func (.yield l) #[] #[]] 299)).alloc (.cells #[.bool false] 4)):=
  ((((((Below.refl _ W).alloc (Nat.le_refl _) _).alloc (by simp) _).alloc (by simp;omega) _).alloc (by simp;omega) _).alloc (by simp;omega) _).alloc (by simp;omega) _
 have hi:VB ((((((W.alloc (.cells (ckA C) 273)).alloc (.cells #[.int .u64 (of:Int)] 101)).alloc (.cells #[.int .i64 (p:Int)] 3)).alloc (.cells #[fewV Bl] 150)).alloc (.cells #[.func (.yield l) #[] #[]] 299)).alloc (.cells #[.bool false] 4)) W.heap.size C of p Bl l:=by
  have hj:∀ (X:World) (o:Obj) (k:Nat),k < X.heap.size→(X.alloc o).heap[k]?=X.heap[k]?:=fun X o k h=>Below.heap_alloc X o k h
  refine ⟨?_,?_,?_,?_,?_,?_⟩
  · exact (CkAt.new W C).keep (by rw [hj _ _ _ (by simp;omega),hj _ _ _ (by simp;omega),hj _ _ _ (by simp;omega),hj _ _ _ (by simp;omega),hj _ _ _ (by simp)])
  · have h:=Bx.new (W.alloc (.cells (ckA C) 273)) 101 (.int .u64 (of:Int))
    rw [World.size_alloc] at h
    exact (((h.alloc _).alloc _).alloc _).alloc _
  · have h:=Bx.new ((W.alloc (.cells (ckA C) 273)).alloc (.cells #[.int .u64 (of:Int)] 101)) 3 (.int .i64 (p:Int))
    simp only [World.size_alloc] at h
    exact ((h.alloc _).alloc _).alloc _
  · have h:=Bx.new (((W.alloc (.cells (ckA C) 273)).alloc (.cells #[.int .u64 (of:Int)] 101)).alloc (.cells #[.int .i64 (p:Int)] 3)) 150 (fewV Bl)
    simp only [World.size_alloc] at h
    exact (h.alloc _).alloc _
  · have h:=Bx.new ((((W.alloc (.cells (ckA C) 273)).alloc (.cells #[.int .u64 (of:Int)] 101)).alloc (.cells #[.int .i64 (p:Int)] 3)).alloc (.cells #[fewV Bl] 150)) 299 (.func (.yield l) #[] #[])
    simp only [World.size_alloc] at h
    exact h.alloc _
  · have h:=Bx.new (((((W.alloc (.cells (ckA C) 273)).alloc (.cells #[.int .u64 (of:Int)] 101)).alloc (.cells #[.int .i64 (p:Int)] 3)).alloc (.cells #[fewV Bl] 150)).alloc (.cells #[.func (.yield l) #[] #[]] 299)) 4 (.bool false)
    simp only [World.size_alloc] at h
    exact h
 have k9:((((((W.alloc (.cells (ckA C) 273)).alloc (.cells #[.int .u64 (of:Int)] 101)).alloc (.cells #[.int .i64 (p:Int)] 3)).alloc (.cells #[fewV Bl] 150)).alloc (.cells #[.func (.yield l) #[] #[]] 299)).alloc (.cells #[.bool false] 4)).heap.size=W.heap.size+6:=by simp
 unfold fewV at hh hi k9 ⊢
 obtain ⟨W6,ke⟩:∃ W6,((((((W.alloc (.cells (ckA C) 273)).alloc (.cells #[.int .u64 (of:Int)] 101)).alloc (.cells #[.int .i64 (p:Int)] 3)).alloc (.cells #[.func (.func 164) #[] #[.pointer (some ⟨Bl,0,none⟩)]] 150)).alloc (.cells #[.func (.yield l) #[] #[]] 299)).alloc (.cells #[.bool false] 4))=W6:=⟨_,rfl⟩
 rw [ke] at hh hi k9
 obtain ⟨fn,tmps,assign,body,hy,ks⟩:=hY (n - 1) s C W6 (h8 s W W6 hJ (hh.mono he)) hf
 have c9:=hi.yld.cell
 have HV:=hide hi
 have HB:=hide hh
 have HS:=hide k9
 clear hi hh k9
 gi_wp2_with (first
  | (rw [ke];refine in_load rfl (.tmp 5) rfl W.heap.size C rfl HV.out.ck ?_)
  | (refine in_load rfl (.tmp 5) rfl W.heap.size C rfl HV.out.ck ?_))
 refine ⟨fun h=>(by cases h),ks.mono ?_⟩
 rintro e W7 ⟨rfl,kv,ka⟩
 have hA:Above n0 W W7:=(Above.of_below HB.out).trans ka
 have kf:VB W7 W.heap.size C of p Bl l:=HV.out.keep (fun k k1 k2=>ka.block k (by omega) (by have:=HS.out;omega))
 have qs:W.heap.size+6≤W7.heap.size:=by have:=ka.size;have:=HS.out;omega
 have kx:=k8 _ _ kv
 have c6:=kf.set.cell
 clear hy ks ke HV HB HS ka c9
 have HV:=hide kf
 clear kf
 gi_wp2
 refine at_wide (members_any of W7) ?_
 rintro e w' ⟨rfl,rfl⟩
 have ky:tabLaid (W7.alloc (.cells #[.int .u64 (of:Int)] 101)):=kx.2.2.mono (B:=W7.heap.size) (by omega) ((Below.refl _ _).alloc (Nat.le_refl _) _)
 have kz:(W7.alloc (.cells #[.int .u64 (of:Int)] 101)).cell? ⟨W7.heap.size,0,none⟩=some (.int .u64 (of:Int)):=(Bx.new W7 101 (.int .u64 (of:Int))).cell
 have h0:VI K d C of p s W (W7.alloc (.cells #[.int .u64 (of:Int)] 101)).heap.size n0 Bl l J false [] (W7.alloc (.cells #[.int .u64 (of:Int)] 101)):=
  ⟨rfl,HV.out.keep (fun k k1 k2=>Below.heap_alloc _ _ _ (by omega)),h8 _ _ _ kv ((Below.refl _ _).alloc kx.2.1 _),hA.trans (Above.of_below ((Below.refl _ _).alloc (Nat.le_refl _) _)),Nat.le_refl _,Nat.le_refl _⟩
 have q0:(W7.alloc (.cells #[.int .u64 (of:Int)] 101)).heap.size=W7.heap.size+1:=by simp
 obtain ⟨W8,q1⟩:∃ W8,W7.alloc (.cells #[.int .u64 (of:Int)] 101)=W8:=⟨_,rfl⟩
 have H0:=hide h0
 have HC:=hide kz
 have HT:=hide ky
 have H8:=hide q0
 clear h0 kz ky q0
 gi_wp2
 rw [q1] at H0 HC HT H8
 clear q1
 refine wpIn_rangeFunc_ownG rfl (by have:=HN.out;omega) (gf:=83) (lb:=#[.pointer (some ⟨W7.heap.size,0,none⟩)]) rfl trivial (enters_of Tryz.func83 (by kernel_rfl) rfl)
  (members_stops (n - 1) W7.heap.size of kc W8 (by have:=H8.out;omega) HC.out (by have:=H8.out;omega) HT.out) (fun h k=>kpT_t h k) (kpT_b (by have:=H8.out;omega)) (Below.refl _ _) (fun _=>rfl)
  (VI K d C of p s W W8.heap.size n0 Bl l J false) (VX K d C of p s W W8.heap.size n0 Bl l J)
  (VI.own h8 (by have:=H8.out;omega) he) (fun c=>by
   rintro pre X Y row ⟨h1,h2⟩ hg hr
   exact ⟨h1,VI.own h8 (by have:=H8.out;omega) he pre X Y row h2 hg hr⟩) H0.out
  (fun x=>{ tmps:=#[.agg (ckA C),.int .u64 (of:Int),.int .i64 (p:Int),.func (.func 164) #[] #[.pointer (some ⟨Bl,0,none⟩)],.func (.yield l) #[] #[],.pointer (some ⟨W.heap.size,0,none⟩),.pointer (some ⟨W.heap.size+1,0,none⟩),.pointer (some ⟨W.heap.size+1+1,0,none⟩),.pointer (some ⟨W.heap.size+1+1+1,0,none⟩),.pointer (some ⟨W.heap.size+1+1+1+1,0,none⟩),.pointer (some ⟨W.heap.size+1+1+1+1+1,0,none⟩),.int .i64 (x.1:Int),undef,.func (.yield l) #[] #[],.agg (ckA C),.bool true,.bool false,.int .u64 (of:Int),.func (.func 83) #[] #[.pointer (some ⟨W7.heap.size,0,none⟩)],.int .i64 (x.1:Int),undef,undef,undef,undef,undef,undef,undef,undef,undef,undef,undef,undef,undef,undef,undef,undef,undef,undef,undef],defers:=[] }) ?assign ?body ?done ?stop
 case assign=>
  intro l2 x X Kk hK
  unfold encSh
  gi_wp2
  exact hK
 case body=>
  rintro l2 pre x X ⟨h1,h2,h3,h4,h5,h6⟩ kg
  obtain ⟨q,sx,q2⟩:∃ q sx,visTo K d C of p s pre=(q,sx,false):=⟨_,_,by rw [← h1]⟩
  have kh:=visTo_snoc K d C of p s pre x
  rw [q2] at h2 h3 h5 kh
  simp only at h2 h3 h5
  have ki:(mems of).length≤16:=by rw [← shs_len of];exact shs_le of
  have hq:q≤p+16:=by omega
  have qb:q≤100000:=by omega
  have hl:=k8 _ _ h3
  have cl:=hl.1
  have c7:=h2.pas.cell
  have f7:=h2.pas.frozen
  have c8:=h2.few.cell
  unfold fewV at c8
  have HV:=hide h2
  have HJ:=hide h3
  have HA:=hide h4
  have kj:=hide kh
  have hm:=x.2
  have H6:=hide h6
  clear h2 h3 h4 q2 h1 kh hl h6 kg
  gi_wp2
  refine at_round (fewer_any q sx.2 Bl X cl) ?_
  rintro e w' ⟨rfl,rfl⟩
  by_cases hn:q < sx.2
  · have kk:decide (q < sx.2)=true:=decide_eq_true hn
    rw [kk]
    have hz:=zeroCk
    have km:=HV.out.ck
    have hs:=ckA_size ckZ
    gi_wp2_with (first
     | (refine in_load rfl (.tmp 5) rfl W.heap.size C rfl km ?_)
     | (refine in_store rfl (.tmp 12) (.tmp 24) rfl w'.heap.size C ckZ rfl rfl (CkAt.new w' ckZ) ?_))
    have kn:CkAt ((w'.alloc (.cells (ckA ckZ) 273)).setRow w'.heap.size (ckA C)) w'.heap.size C:=(CkAt.new w' ckZ).setRow C
    have hx:Below w'.heap.size w' ((w'.alloc (.cells (ckA ckZ) 273)).setRow w'.heap.size (ckA C)):=((Below.refl _ _).alloc (Nat.le_refl _) _).grown (grown_setRow _ _ _) (by simp) (fun k e=>by cases e;exact Nat.le_refl _)
    refine at_round (ckLeave_any w'.heap.size x.1 C _ kn hf hm) ?_
    rintro e w2 (⟨q3,rfl,qc⟩ | ⟨C',k0,rfl,ko,q4⟩)
    ·
     subst qc
     have HL:=hide q3
     have ha:=hide hx
     clear q3 hx kn hz km hs
     gi_wp2
     have kp:=H8.out
     have h6:=H6.out
     have qd:=HV.out.keep (fun k k1 k2=>ha.out.block k (by omega))
     refine ⟨(Above.of_below ha.out).keeps (Nat.zero_le _),KpT.of_below (by omega) ha.out,?_⟩
     unfold VI
     rw [kj.out,visF_pass hn HL.out]
     exact ⟨rfl,qd,h8 _ _ _ HJ.out (ha.out.mono (by omega)),HA.out.trans (Above.of_below ha.out),by rw [List.length_append];exact Nat.le_succ_of_le h5,by have:=ha.out.size;omega⟩
    ·
     have kb:Below w'.heap.size w' w2:=hx.grown q4 hx.size (fun k e=>by cases e;exact Nat.le_refl _)
     have qe:w'.heap.size < w2.heap.size:=ko.lt
     have q5:=hide k0
     have qf:=hide kb
     have qg:=hide ko
     have qh:W.heap.size+6≤w'.heap.size:=by have:=H8.out;have:=H6.out;omega
     have q6:VB w2 W.heap.size C of q Bl l:=HV.out.keep (fun k k1 k2=>kb.block k (by omega))
     have q7:J sx w2:=h8 _ _ _ HJ.out (kb.mono (by omega))
     have k5:=hide q6
     have qi:=hide q7
     clear k0 kb ko q4 hx kn hz km hs q6 q7
     gi_wp2
     have k6:∀ m,CallsIn Fence.wide m Tryz.prog 170 #[.agg (ckA C'),.int .u64 (behindN of x.1:Nat),.int .i64 (q:Int),fewV Bl,.func (.yield l) #[] #[]] w2.drew fun e w''=>e=.returned (.bool true)∧(J (recS K d C' (behindN of x.1) q sx) w''∧Above n0 w2.drew w''):=
      fun m=>kd m x.1 C' (behindN of x.1) q sx w2.drew q5.out (behind_lt _ _ kc) (by omega) (h8 _ _ _ qi.out (Below.refl _ _).drew)
     refine vis_region w'.heap.size (W.heap.size+1) (W.heap.size+1+1) (W.heap.size+1+1+1) (W.heap.size+1+1+1+1) x.1 of q C' (fewV Bl) (.func (.yield l) #[] #[]) (fun w''=>J (recS K d C' (behindN of x.1) q sx) w''∧Above n0 w2.drew w'') (by kernel_rfl) rfl hm kc rfl rfl rfl rfl rfl rfl
      (show CkAt w2.drew _ _ from qg.out) k5.out.set.cell k5.out.pas.cell k5.out.few.cell k5.out.yld.cell k6 ?_
     clear k6
     rintro a' w3 hk f36 ⟨q8,hc⟩
     obtain ⟨ls,k0,rfl⟩:=hk.split (by decide) (by simp)
     clear hk
     obtain ⟨u0,u1,u2,u3,u4,u5,u6,u7,u8,rfl⟩:=len9 k0
     clear k0
     simp only [List.take_succ_cons,List.take_zero,List.drop_succ_cons,List.drop_zero,List.cons_append,List.nil_append] at f36 ⊢
     obtain rfl:u8=.bool false:=f36
     have h9:Above n0 w2 w3:=⟨hc.os,hc.tape,hc.output,hc.size,hc.block⟩
     have hv3:VB w3 W.heap.size C of q Bl l:=k5.out.keep (fun k k1 k2=>h9.block k (by omega) (by omega))
     have c7:=hv3.pas.cell
     have f7:=hv3.pas.frozen
     obtain ⟨qv,qj⟩:=wrap_next q qb
     have qk:=hide hv3
     have qm:=hide q8
     have q9:=hide h9
     clear hv3 q8 h9 hc
     gi_wp2
     have kp:=H8.out
     have h6:=H6.out
     have qa:J (recS K d C' (behindN of x.1) q sx) (w3.setCell ⟨W.heap.size+1+1,0,none⟩ (.int .i64 ((q+1:Nat):Int))):=h8 _ _ _ qm.out ((Below.refl _ _).setCell (p:=⟨W.heap.size+1+1,0,none⟩) (by show n0≤W.heap.size+1+1;omega) _)
     have k7:Above n0 w' w3:=(Above.of_below qf.out).trans q9.out
     have qn:KeepsFrom W8.heap.size w' (w3.setCell ⟨W.heap.size+1+1,0,none⟩ (.int .i64 ((q+1:Nat):Int))):=(k7.keeps (by omega)).trans ((KeepsOthers.setCell _ _ _).from _)
     refine ⟨qn,fun _=>(k8 _ _ qa).2.2,?_⟩
     unfold VI
     rw [kj.out,visF_go hn q5.out]
     refine ⟨rfl,qk.out.passed (q+1),qa,(HA.out.trans k7).setCell (p:=⟨W.heap.size+1+1,0,none⟩) (.inr (Nat.le_trans (Nat.le_succ _) (Nat.le_succ _))) _,by rw [List.length_append];exact Nat.succ_le_succ h5,?_⟩
     have:=q9.out.size
     simp only [World.setCell,Array.size_modify]
     omega
  · have kk:decide (q < sx.2)=false:=decide_eq_false hn
    rw [kk]
    gi_wp2
    refine ⟨KeepsFrom.refl _ _,rfl,?_⟩
    unfold VI
    rw [kj.out,visF_stop hn]
    exact ⟨rfl,HV.out,HJ.out,HA.out,by rw [List.length_append];exact Nat.le_succ_of_le h5,H6.out⟩
 case done=>
  rintro D xs X hD qo ⟨h1,h2,h3,h4,h5,h6⟩ hK
  have h7:=visTo_end (K:=K) (d:=d) (C:=C) (p:=p) (s:=s) qo
  rw [h7] at h3
  have c10:=h2.res.cell
  have f10:=h2.res.frozen
  have kp:=H8.out
  have HH:=hide3 h2 h3 h4
  clear h2 h3 h4
  gi_wp2
  clear h7
  exact visit_end (a:=_) h8 he (by omega) (by omega) (by omega) HH.out.1.res HH.out.2.1 HH.out.2.2 hK (by simp) (by simp [Act.eval]) (by simp)
 case stop=>
  rintro D c pre X hD kr ⟨rfl,h1,h2,h3,h4,h5,h6⟩ hK
  have h7:=visTo_stop (K:=K) (d:=d) (C:=C) (p:=p) (s:=s) kr h1
  rw [h7] at h3
  have c10:=h2.res.cell
  have f10:=h2.res.frozen
  have kp:=H8.out
  have HH:=hide3 h2 h3 h4
  clear h2 h3 h4
  gi_wp2
  clear h7
  exact visit_end (a:=_) h8 he (by omega) (by omega) (by omega) HH.out.1.res HH.out.2.1 HH.out.2.2 hK (by simp) (by simp [Act.eval]) (by simp)
theorem leave_fit (hf:CkFit C) (h:leave C i=some C'):CkFit C':=by
 obtain ⟨r,rfl,h1,h2,_⟩:=leave_cases h
 have:=hf.most
 exact ⟨leave_byte hf.byt,by show C.told≤C.count - 1;omega,by show C.count - 1≤8;omega⟩
theorem visit_in (K:List Nat) (n0 Bl l:Nat) (J:Srch→World→Prop) (h3:∀ s A B,J s A→Below n0 A B→J s B)
 (h4:∀ s A,J s A→A.cell? ⟨Bl,0,none⟩=some (.int .i64 (s.2:Int))∧n0≤A.heap.size∧tabLaid A) (h5:2≤n0)
 (hY:∀ m s C W1,J s W1→CkFit C→YieldAt Fence.wide m Tryz.prog l #[.agg (ckA C)] W1 fun e W'=>e=.returned (.bool true)∧J (stepS K s C) W'∧Above n0 W1 W') :
 ∀ (d m:Nat) (C:Ck) (of p:Nat) (s:Srch) (W:World),CkFit C→C.count≤C.told+d→of < 65536→p+16*(d+1)≤100000→J s W →
  CallsIn Fence.wide m Tryz.prog 170 #[.agg (ckA C),.int .u64 of,.int .i64 p,fewV Bl,.func (.yield l) #[] #[]] W fun e W'=>e=.returned (.bool true)∧J (visitS K d C of p s) W'∧Above n0 W W':=by
 intro d
 induction d with
 | zero=>
  intro m C of p s W hf hd h0 hp hJ
  refine visit_step K n0 Bl l J h3 h4 h5 hY 0 m C of p s W hf h0 (by omega) hJ ?_
  intro m i C' of' p' s' W' hl
  obtain ⟨r,_,h1,h2,_⟩:=leave_cases hl
  omega
 | succ d ih=>
  intro m C of p s W hf hd h0 hp hJ
  refine visit_step K n0 Bl l J h3 h4 h5 hY (d+1) m C of p s W hf h0 (by omega) hJ ?_
  intro m i C' of' p' s' W' hl ho h9 h6
  have h7:=leave_fit hf hl
  obtain ⟨r,h8,h1,h2,_⟩:=leave_cases hl
  exact ih m C' of' p' s' W' h7 (by rw [h8];show C.count - 1≤C.told+d;omega) ho (by omega) h6
end
end Go.Proofs.YthcgahldacpolaaGreatDoor
