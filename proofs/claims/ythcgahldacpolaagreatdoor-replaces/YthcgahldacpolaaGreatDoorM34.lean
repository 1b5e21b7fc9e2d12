import Derived.Test.YthcgahldacpolaaGreatDoorM33
import Derived.Laws.EntriesVeiled
set_option maxRecDepth 100000
set_option maxHeartbeats 8000000
namespace Go.Proofs.YthcgahldacpolaaGreatDoor
open Go.RowKit Go.Shelf Go.Deep Gf
variable {a:Act} {R ops:Array Oper} {x:Ck} {Q:Exit→Act→World→Prop} {pre:List Sh} {n B i kept:Nat} {ed:Nat→List Nat} {d:Option Nat} {s:Srch} {W w:World}
theorem ready_out (hn:R.size=n) (he:(List.range n).map (fun i=>(R[i]?).map fun o=>(o.after.toList.filter (fun e=>Region.binds .any e)).map (fun e=>e.on))=(List.range n).map (fun i=>some (ed i)))
 {listed:Array Bool} {i:Nat} (h:i∈Region.ready .any R listed):i < n∧listed.getD i true=false∧∀ k∈ed i,listed.getD k false=true:=by
 unfold Region.ready at h
 rw [List.mem_filter,hn,List.mem_range] at h
 obtain ⟨h1,h2⟩:=h
 rw [Bool.and_eq_true_iff] at h2
 refine ⟨h1,by simpa using h2.1,fun k hk=>?_⟩
 have he:(R[i]?).map (fun o=>(o.after.toList.filter (fun e=>Region.binds .any e)).map (fun e=>e.on))=some (ed i):=by
  have:=congrArg (fun l=>l[i]?) he
  simp only [List.getElem?_map,List.getElem?_range h1,Option.map_some,Option.some.injEq] at this
  exact this
 rw [Option.map_eq_some_iff] at he
 obtain ⟨o,ho,h0⟩:=he
 rw [ho] at h2
 have h3:=h2.2
 simp only [Option.map_some,Option.getD_some] at h3
 rw [← h0,List.mem_map] at hk
 obtain ⟨e,he,rfl⟩:=hk
 obtain ⟨m1,m2⟩:=List.mem_filter.1 he
 have:=Array.all_eq_true'.1 h3 e (by simpa using m1)
 simpa [m2] using this
theorem ready_in (hn:R.size=n) (he:(List.range n).map (fun i=>(R[i]?).map fun o=>(o.after.toList.filter (fun e=>Region.binds .any e)).map (fun e=>e.on))=(List.range n).map (fun i=>some (ed i)))
 {listed:Array Bool} {i:Nat} (h1:i < n) (h2:listed.getD i true=false) (h3:∀ k∈ed i,listed.getD k false=true):i∈Region.ready .any R listed:=by
 unfold Region.ready
 rw [List.mem_filter,hn,List.mem_range]
 refine ⟨h1,?_⟩
 rw [Bool.and_eq_true_iff]
 refine ⟨by simpa using h2,?_⟩
 have he:(R[i]?).map (fun o=>(o.after.toList.filter (fun e=>Region.binds .any e)).map (fun e=>e.on))=some (ed i):=by
  have:=congrArg (fun l=>l[i]?) he
  simp only [List.getElem?_map,List.getElem?_range h1,Option.map_some,Option.some.injEq] at this
  exact this
 rw [Option.map_eq_some_iff] at he
 obtain ⟨o,ho,h0⟩:=he
 rw [ho]
 simp only [Option.map_some,Option.getD_some]
 rw [Array.all_eq_true']
 intro e he
 by_cases hb:Region.binds .any e=true
 · have:=h3 e.on (by rw [← h0];exact List.mem_map.2 ⟨e,List.mem_filter.2 ⟨by simpa using he,hb⟩,rfl⟩)
   simp [this]
 · simp [hb]
theorem ck_ne {B':Nat} {C:Ck} {v:Value} (h:CkAt W B C) (h':Bx W B' v):B≠B':=by
 rintro rfl
 obtain ⟨t,h'⟩:=h'
 have e:=h.heap.symm.trans h'
 simp only [Option.some.injEq,Obj.cells.injEq] at e
 have:=congrArg Array.size e.1
 rw [ckA_size] at this
 simp at this
noncomputable def RF1:Array Oper:=((Tryz.f147.body.bind (rgv · 1))).getD #[]
theorem RF1_at:(List.range 7).map (fun i=>(RF1[i]?).map fun o=>(o.op,o.dst,o.guard))=[
 some (.load 273 (.tmp 2),some 11,none),some (.load 101 (.tmp 3),some 12,none),some (.call { callee:=.value (.func 162),args:=#[.tmp 12],argTypes:=#[101] },some 13,none),
 some (.alloc 273,some 5,none),some (.alloc 3,some 6,none),some (.store 273 (.tmp 5) (.tmp 11),none,none),some (.store 3 (.tmp 6) (.tmp 13),none,none)]:=by kernel_rfl
theorem RF1_op {x:Op} (hi:i < 7) (h:((List.range 7).map (fun i=>(RF1[i]?).map fun o=>(o.op,o.dst,o.guard)))[i]?=some (some (x,d,none))):∃ o,RF1[i]?=some o∧o.op=x∧o.dst=d∧o.guard=none:=by
 simp only [List.getElem?_map,List.getElem?_range hi,Option.map_some,Option.some.injEq,Option.map_eq_some_iff,Prod.mk.injEq] at h
 obtain ⟨o,h1,h2,h3,h4⟩:=h
 exact ⟨o,h1,h2,h3,h4⟩
def edF1:Nat→List Nat
 | 2=>[1]
 | 5=>[3,0,2,0,3,4]
 | 6=>[4,2,5,0,1,2,3,4,5]
 | _=>[]
theorem RF1_size:RF1.size=7:=by kernel_rfl
theorem RF1_ed:(List.range 7).map (fun i=>(RF1[i]?).map fun o=>(o.after.toList.filter (fun e=>Region.binds .any e)).map (fun e=>e.on))=(List.range 7).map (fun i=>some (edF1 i)):=by kernel_rfl
def F1I (a:Act) (w:World) (kept:Nat) (C:Ck) (f:Nat) (listed:Array Bool) (a':Act) (w':World):Prop:=
 Kept 5 14 a a'∧Below w.heap.size w w'∧((∃ b0 b1 b2 b3 b4:Bool,listed=#[b0,b1,b2,b3,b4,false,false]∧f=2+(bn b0+bn b1+bn b2+bn b3+bn b4)∧(b2=true→b1=true) ∧
  (b0=true→a'.eval (.tmp 11)=.agg (ckA C))∧(b1=true→a'.eval (.tmp 12)=.int .u64 (kept:Int))∧(b2=true→a'.eval (.tmp 13)=.int .i64 ((mems kept).length:Nat)) ∧
  (b3=true→∃ B,a'.eval (.tmp 5)=.pointer (some ⟨B,0,none⟩)∧w.heap.size≤B∧CkAt w' B ckZ)∧(b4=true→∃ B,a'.eval (.tmp 6)=.pointer (some ⟨B,0,none⟩)∧w.heap.size≤B∧Bx w' B (.int .i64 0))) ∨
  (f=1∧listed=#[true,true,true,true,true,true,false]∧a'.eval (.tmp 13)=.int .i64 ((mems kept).length:Nat)∧∃ B5 B6,a'.eval (.tmp 5)=.pointer (some ⟨B5,0,none⟩)∧a'.eval (.tmp 6)=.pointer (some ⟨B6,0,none⟩)∧w.heap.size≤B5∧w.heap.size≤B6∧CkAt w' B5 C∧Bx w' B6 (.int .i64 0)) ∨
  (f=0∧listed=#[true,true,true,true,true,true,true]∧∃ B5 B6,a'.eval (.tmp 5)=.pointer (some ⟨B5,0,none⟩)∧a'.eval (.tmp 6)=.pointer (some ⟨B6,0,none⟩)∧w.heap.size≤B5∧w.heap.size≤B6∧CkAt w' B5 C∧Bx w' B6 (.int .i64 ((mems kept).length:Nat))))
theorem few_first (B2 B3 kept:Nat) (C:Ck) (hR:RF1=ops) (sz:a.tmps.size=35) (h7:kept < 65536)
 (i2:a.eval (.tmp 2)=.pointer (some ⟨B2,0,none⟩)) (i3:a.eval (.tmp 3)=.pointer (some ⟨B3,0,none⟩)) (ha:CkAt w B2 C) (h5:Bx w B3 (.int .u64 (kept:Int)))
 (h:∀ a' w' B5 B6,Kept 5 14 a a'→a'.eval (.tmp 5)=.pointer (some ⟨B5,0,none⟩)→a'.eval (.tmp 6)=.pointer (some ⟨B6,0,none⟩)→w.heap.size≤B5→w.heap.size≤B6→CkAt w' B5 C→Bx w' B6 (.int .i64 ((mems kept).length:Nat))→Below w.heap.size w w'→Q .normal a' w') :
 (Code.region 1 ops true).wpIn Fence.wide n Tryz.prog Q a w:=by
 subst hR
 have he:=ha.lt
 have hg:=h5.lt
 obtain ⟨p0,g0,x0,d0,k0⟩:=RF1_op (i:=0) (by decide) (by rw [RF1_at];rfl)
 obtain ⟨p1,g1,x1,d1,k1⟩:=RF1_op (i:=1) (by decide) (by rw [RF1_at];rfl)
 obtain ⟨p2,g2,x2,d2,k2⟩:=RF1_op (i:=2) (by decide) (by rw [RF1_at];rfl)
 obtain ⟨p3,g3,x3,d3,k3⟩:=RF1_op (i:=3) (by decide) (by rw [RF1_at];rfl)
 obtain ⟨p4,g4,x4,d4,k4⟩:=RF1_op (i:=4) (by decide) (by rw [RF1_at];rfl)
 obtain ⟨p5,g5,x5,d5,k5⟩:=RF1_op (i:=5) (by decide) (by rw [RF1_at];rfl)
 obtain ⟨p6,g6,x6,d6,k6⟩:=RF1_op (i:=6) (by decide) (by rw [RF1_at];rfl)
 refine wpIn_region_any (by kernel_rfl) ?_
 rw [RF1_size]
 refine anyIn_inv (F1I a w kept C) ?_ ?_ 7 _ a _ ⟨Kept.refl _ _ _,(Below.refl _ w).drew,.inl ⟨false,false,false,false,false,rfl,rfl,fun h=>(by cases h),fun h=>(by cases h),fun h=>(by cases h),fun h=>(by cases h),fun h=>(by cases h),fun h=>(by cases h)⟩⟩
 · rintro listed a' w' ⟨hk,hb,⟨b0,b1,b2,b3,b4,_,hf,_⟩ | ⟨hf,_⟩ | ⟨_,rfl,B5,B6,e5,e6,l5,l6,c5,c6⟩⟩
   · omega
   · omega
   · refine ⟨List.eq_nil_iff_forall_not_mem.2 fun j hj=>?_,h a' w' B5 B6 hk e5 e6 l5 l6 c5 c6 hb⟩
     obtain ⟨h1,h2,_⟩:=ready_out RF1_size RF1_ed hj
     have:j=0∨j=1∨j=2∨j=3∨j=4∨j=5∨j=6:=by omega
     rcases this with rfl | rfl | rfl | rfl | rfl | rfl | rfl <;> simp at h2
 · rintro f listed a' w' ⟨hk,hb,⟨b0,b1,b2,b3,b4,rfl,hf,h6,q0,q1,q2,q3,q4⟩ | ⟨hf,rfl,s13,B5,B6,e5,e6,l5,l6,c5,c6⟩ | ⟨hf,_⟩⟩
   · constructor
     · intro h0
       have h3:∀ j,j∉Region.ready .any RF1 #[b0,b1,b2,b3,b4,false,false]:=fun j=>by rw [h0];simp
       have e0:b0=true:=eq_true_of_ne_false fun e=>h3 0 (ready_in RF1_size RF1_ed (by decide) (by simp [e]) (by simp [edF1]))
       have e1:b1=true:=eq_true_of_ne_false fun e=>h3 1 (ready_in RF1_size RF1_ed (by decide) (by simp [e]) (by simp [edF1]))
       have e2:b2=true:=eq_true_of_ne_false fun e=>h3 2 (ready_in RF1_size RF1_ed (by decide) (by simp [e]) (by simp [edF1,e1]))
       have e3:b3=true:=eq_true_of_ne_false fun e=>h3 3 (ready_in RF1_size RF1_ed (by decide) (by simp [e]) (by simp [edF1]))
       have e4:b4=true:=eq_true_of_ne_false fun e=>h3 4 (ready_in RF1_size RF1_ed (by decide) (by simp [e]) (by simp [edF1]))
       exact h3 5 (ready_in RF1_size RF1_ed (by decide) (by simp) (by simp [edF1,e0,e2,e3,e4]))
     · intro j hj
       obtain ⟨h1,h2,h4⟩:=ready_out RF1_size RF1_ed hj
       clear hj
       have h8:j=0∨j=1∨j=2∨j=3∨j=4∨j=5∨j=6:=by omega
       rcases h8 with rfl | rfl | rfl | rfl | rfl | rfl | rfl
       · have eb:b0=false:=by simpa using h2
         have s0:=(hk.slot 2 (by omega)).trans i2
         have h9:=ha.mono hb he
         refine wpOpIn_step g0 fun K hK=>opIn_val (v:=.agg (ckA C)) (w':=w') k0 (by simp [Oper.about,x0]) (by rw [x0];intro c hc;cases hc) (by simp [execOp,x0,s0,ck_loadAt h9,Result.andThen]) (hK _ _ ?_)
         rw [d0]
         exact ⟨hk.put 11 _ (by decide) (by decide),hb,.inl ⟨true,b1,b2,b3,b4,rfl,by rw [bn_false eb] at hf;simp only [bn,if_true];simp only [bn] at hf;omega,h6,fun _=>pt_same _ _ _ (by rw [hk.size,sz];decide),fun e=>(pt_other _ _ _ _ (by decide)).trans (q1 e),fun e=>(pt_other _ _ _ _ (by decide)).trans (q2 e),fun e=>(by obtain ⟨B,e1,e2⟩:=q3 e;exact ⟨B,(pt_other _ _ _ _ (by decide)).trans e1,e2⟩),fun e=>(by obtain ⟨B,e1,e2⟩:=q4 e;exact ⟨B,(pt_other _ _ _ _ (by decide)).trans e1,e2⟩)⟩⟩
       · have eb:b1=false:=by simpa using h2
         have s0:=(hk.slot 3 (by omega)).trans i3
         have cs:=(h5.keep (hb.block B3 hg)).cell
         refine wpOpIn_step g1 fun K hK=>opIn_val (v:=.int .u64 (kept:Int)) (w':=w') k1 (by simp [Oper.about,x1]) (by rw [x1];intro c hc;cases hc) (by simp only [execOp,x1,s0];go_simp) (hK _ _ ?_)
         rw [d1]
         exact ⟨hk.put 12 _ (by decide) (by decide),hb,.inl ⟨b0,true,b2,b3,b4,rfl,by rw [bn_false eb] at hf;simp only [bn,if_true];simp only [bn] at hf;omega,fun _=>rfl,fun e=>(pt_other _ _ _ _ (by decide)).trans (q0 e),fun _=>pt_same _ _ _ (by rw [hk.size,sz];decide),fun e=>(pt_other _ _ _ _ (by decide)).trans (q2 e),fun e=>(by obtain ⟨B,e1,e2⟩:=q3 e;exact ⟨B,(pt_other _ _ _ _ (by decide)).trans e1,e2⟩),fun e=>(by obtain ⟨B,e1,e2⟩:=q4 e;exact ⟨B,(pt_other _ _ _ _ (by decide)).trans e1,e2⟩)⟩⟩
       · have eb:b2=false:=by simpa using h2
         have e1:b1=true:=by have:=h4 1 (by simp [edF1]);simpa using this
         have s0:=q1 e1
         refine wpOpIn_step g2 fun K hK=>opIn_call (fun _=>trivial) rfl k2 (by rw [x2];intro c hc;cases hc) (f:=162) (args:=#[.int .u64 (kept:Int)]) (w':=w') (by have sf:a'.eval (.func 162)=.func (.func 162) #[] #[]:=rfl;generalize a'.eval=ev at s0 sf ⊢;simp [execOp,x2,resolve,invoke,s0,sf,go_sem]) (callsIn_wide.2 (size_any kept h7 _)) ?_
         rintro e w'' ⟨rfl,rfl⟩
         refine ⟨_,rfl,hK _ _ ?_⟩
         rw [d2]
         exact ⟨hk.put 13 _ (by decide) (by decide),hb,.inl ⟨b0,b1,true,b3,b4,rfl,by rw [bn_false eb] at hf;simp only [bn,if_true];simp only [bn] at hf;omega,fun _=>e1,fun e=>(pt_other _ _ _ _ (by decide)).trans (q0 e),fun e=>(pt_other _ _ _ _ (by decide)).trans (q1 e),fun _=>pt_same _ _ _ (by rw [hk.size,sz];decide),fun e=>(by obtain ⟨B,e1,e2⟩:=q3 e;exact ⟨B,(pt_other _ _ _ _ (by decide)).trans e1,e2⟩),fun e=>(by obtain ⟨B,e1,e2⟩:=q4 e;exact ⟨B,(pt_other _ _ _ _ (by decide)).trans e1,e2⟩)⟩⟩
       · have eb:b3=false:=by simpa using h2
         have hz:=zeroCk w'
         refine wpOpIn_step g3 fun K hK=>opIn_val (v:=.pointer (some ⟨w'.heap.size,0,none⟩)) (w':=w'.alloc (.cells (ckA ckZ) 273)) k3 (by simp [Oper.about,x3]) (by rw [x3];intro c hc;cases hc) (by simp only [execOp,x3];go_simp) (hK _ _ ?_)
         rw [d3]
         exact ⟨hk.put 5 _ (by decide) (by decide),hb.alloc hb.size _,.inl ⟨b0,b1,b2,true,b4,rfl,by rw [bn_false eb] at hf;simp only [bn,if_true];simp only [bn] at hf;omega,h6,fun e=>(pt_other _ _ _ _ (by decide)).trans (q0 e),fun e=>(pt_other _ _ _ _ (by decide)).trans (q1 e),fun e=>(pt_other _ _ _ _ (by decide)).trans (q2 e),fun _=>⟨w'.heap.size,pt_same _ _ _ (by rw [hk.size,sz];decide),hb.size,CkAt.new _ _⟩,fun e=>(by obtain ⟨B,e1,e2,e3⟩:=q4 e;exact ⟨B,(pt_other _ _ _ _ (by decide)).trans e1,e2,e3.alloc _⟩)⟩⟩
       · have eb:b4=false:=by simpa using h2
         refine wpOpIn_step g4 fun K hK=>opIn_val (v:=.pointer (some ⟨w'.heap.size,0,none⟩)) (w':=w'.alloc (.cells #[.int .i64 0] 3)) k4 (by simp [Oper.about,x4]) (by rw [x4];intro c hc;cases hc) (by simp only [execOp,x4];go_simp) (hK _ _ ?_)
         rw [d4]
         exact ⟨hk.put 6 _ (by decide) (by decide),hb.alloc hb.size _,.inl ⟨b0,b1,b2,b3,true,rfl,by rw [bn_false eb] at hf;simp only [bn,if_true];simp only [bn] at hf;omega,h6,fun e=>(pt_other _ _ _ _ (by decide)).trans (q0 e),fun e=>(pt_other _ _ _ _ (by decide)).trans (q1 e),fun e=>(pt_other _ _ _ _ (by decide)).trans (q2 e),fun e=>(by obtain ⟨B,e1,e2,e3⟩:=q3 e;exact ⟨B,(pt_other _ _ _ _ (by decide)).trans e1,e2,e3.keep (Below.heap_alloc _ _ _ e3.lt)⟩),fun _=>⟨w'.heap.size,pt_same _ _ _ (by rw [hk.size,sz];decide),hb.size,Bx.new _ _ _⟩⟩⟩
       · have e0:b0=true:=by have:=h4 0 (by simp [edF1]);simpa using this
         have e2:b2=true:=by have:=h4 2 (by simp [edF1]);simpa using this
         have e3:b3=true:=by have:=h4 3 (by simp [edF1]);simpa using this
         have e4:b4=true:=by have:=h4 4 (by simp [edF1]);simpa using this
         have e1:=h6 e2
         subst e0 e1 e2 e3 e4
         have s11:=q0 rfl
         obtain ⟨B5,t5,l5,c5⟩:=q3 rfl
         obtain ⟨B6,t6,l6,c6⟩:=q4 rfl
         have hh:=ck_storeAt C c5
         refine wpOpIn_step g5 fun K hK=>opIn_skip (w':=w'.setRow B5 (ckA C)) k5 (by simp [Oper.about,x5]) (by rw [x5];intro c hc;cases hc) (by simp [execOp,x5,t5,s11,hh,Result.andThen]) (hK _ _ ?_)
         rw [d5]
         have ne:=ck_ne c5 c6
         exact ⟨hk.none _,hb.grown (grown_setRow _ _ _) hb.size (fun k e=>by cases e;exact l5),.inr (.inl ⟨by simp only [bn,if_true] at hf;omega,rfl,q2 rfl,B5,B6,t5,t6,l5,l6,c5.setRow C,c6.keep ((grown_setRow w' B5 (ckA C)).block B6 c6.lt (fun e=>ne (by cases e;rfl)))⟩)⟩
       · have:=h4 5 (by simp [edF1])
         simp at this
   · constructor
     · intro h0
       have:6∈Region.ready .any RF1 #[true,true,true,true,true,true,false]:=ready_in RF1_size RF1_ed (by decide) (by simp) (by simp [edF1])
       rw [h0] at this;cases this
     · intro j hj
       obtain ⟨h1,h2,_⟩:=ready_out RF1_size RF1_ed hj
       have:j=6:=by
        have h8:j=0∨j=1∨j=2∨j=3∨j=4∨j=5∨j=6:=by omega
        rcases h8 with rfl | rfl | rfl | rfl | rfl | rfl | rfl <;> first | rfl | (simp at h2)
       subst this
       have cc:=c6.cell
       have ff:=c6.frozen
       refine wpOpIn_step g6 fun K hK=>opIn_skip (w':=w'.setCell ⟨B6,0,none⟩ (.int .i64 ((mems kept).length:Nat))) k6 (by simp [Oper.about,x6]) (by rw [x6];intro c hc;cases hc) (by simp only [execOp,x6,e6,s13];go_simp) (hK _ _ ?_)
       rw [d6]
       have ne:=ck_ne c5 c6
       exact ⟨hk.none _,hb.setCell (p:=⟨B6,0,none⟩) l6 _,.inr (.inr ⟨by omega,rfl,B5,B6,e5,e6,l5,l6,c5.keep (Below.heap_setCell _ _ _ _ ne),c6.set _⟩)⟩
   · omega
noncomputable def RF11:Array Oper:=((Tryz.f147.body.bind (rgv · 11))).getD #[]
theorem RF11_at:(List.range 4).map (fun i=>(RF11[i]?).map fun o=>(o.op,o.dst,o.guard))=[
 some (.load 273 (.tmp 8),some 32,none),some (.load 3 (.tmp 9),some 33,none),some (.store 273 (.tmp 5) (.tmp 32),none,none),some (.store 3 (.tmp 6) (.tmp 33),none,none)]:=by kernel_rfl
theorem RF11_op {x:Op} (hi:i < 4) (h:((List.range 4).map (fun i=>(RF11[i]?).map fun o=>(o.op,o.dst,o.guard)))[i]?=some (some (x,d,none))):∃ o,RF11[i]?=some o∧o.op=x∧o.dst=d∧o.guard=none:=by
 simp only [List.getElem?_map,List.getElem?_range hi,Option.map_some,Option.some.injEq,Option.map_eq_some_iff,Prod.mk.injEq] at h
 obtain ⟨o,h1,h2,h3,h4⟩:=h
 exact ⟨o,h1,h2,h3,h4⟩
def edF11:Nat→List Nat
 | 2=>[0,0]
 | 3=>[1,2,0,1,2]
 | _=>[]
theorem RF11_size:RF11.size=4:=by kernel_rfl
theorem RF11_ed:(List.range 4).map (fun i=>(RF11[i]?).map fun o=>(o.after.toList.filter (fun e=>Region.binds .any e)).map (fun e=>e.on))=(List.range 4).map (fun i=>some (edF11 i)):=by kernel_rfl
def F11I (a:Act) (w:World) (B5 B6 n:Nat) (C:Ck) (f:Nat) (listed:Array Bool) (a':Act) (w':World):Prop:=
 Kept 32 34 a a'∧((∃ b0 b1 b2:Bool,listed=#[b0,b1,b2,false]∧f=1+(bn b0+bn b1+bn b2)∧(b2=true→b0=true)∧(b0=true→a'.eval (.tmp 32)=.agg (ckA C))∧(b1=true→a'.eval (.tmp 33)=.int .i64 (n:Int)) ∧
  w'=(if b2=true then w.drew.setRow B5 (ckA C) else w.drew)) ∨
  (f=0∧listed=#[true,true,true,true]∧w'=(w.drew.setRow B5 (ckA C)).setCell ⟨B6,0,none⟩ (.int .i64 (n:Int))))
theorem few_better {l m:Nat} (B5 B6 B8 B9 n:Nat) (C C':Ck) (v:Value) (hR:RF11=ops) (sz:a.tmps.size=35)
 (i5:a.eval (.tmp 5)=.pointer (some ⟨B5,0,none⟩)) (i6:a.eval (.tmp 6)=.pointer (some ⟨B6,0,none⟩)) (i8:a.eval (.tmp 8)=.pointer (some ⟨B8,0,none⟩)) (i9:a.eval (.tmp 9)=.pointer (some ⟨B9,0,none⟩))
 (h8:CkAt w B8 C) (h9:Bx w B9 (.int .i64 (n:Int))) (h5:CkAt w B5 C') (h6:Bx w B6 v) (n85:B8≠B5)
 (h:∀ a',Kept 32 34 a a'→Q .normal a' ((w.drew.setRow B5 (ckA C)).setCell ⟨B6,0,none⟩ (.int .i64 (n:Int)))) :
 (Code.region 11 ops true).wpIn (Fence.wide.inRound l) m Tryz.prog Q a w:=by
 subst hR
 obtain ⟨p0,g0,x0,d0,k0⟩:=RF11_op (i:=0) (by decide) (by rw [RF11_at];rfl)
 obtain ⟨p1,g1,x1,d1,k1⟩:=RF11_op (i:=1) (by decide) (by rw [RF11_at];rfl)
 obtain ⟨p2,g2,x2,d2,k2⟩:=RF11_op (i:=2) (by decide) (by rw [RF11_at];rfl)
 obtain ⟨p3,g3,x3,d3,k3⟩:=RF11_op (i:=3) (by decide) (by rw [RF11_at];rfl)
 have h0:∀ (b2:Bool) (k:Nat),k≠B5→k < w.heap.size→(if b2=true then w.drew.setRow B5 (ckA C) else w.drew).heap[k]?=w.heap[k]?:=by
  intro b2 k hk hg
  cases b2
  · rfl
  · exact (grown_setRow w.drew B5 (ckA C)).block k hg (fun e=>hk (by cases e;rfl))
 have n95:B9≠B5:=(ck_ne h5 h9).symm
 have n65:B6≠B5:=(ck_ne h5 h6).symm
 refine wpIn_region_any (by kernel_rfl) ?_
 rw [RF11_size]
 refine anyIn_inv (F11I a w B5 B6 n C) ?_ ?_ 4 _ a _ ⟨Kept.refl _ _ _,.inl ⟨false,false,false,rfl,rfl,fun h=>(by cases h),fun h=>(by cases h),fun h=>(by cases h),rfl⟩⟩
 · rintro listed a' w' ⟨hk,⟨b0,b1,b2,_,hf,_⟩ | ⟨_,rfl,rfl⟩⟩
   · omega
   · refine ⟨List.eq_nil_iff_forall_not_mem.2 fun j hj=>?_,h a' hk⟩
     obtain ⟨h1,h2,_⟩:=ready_out RF11_size RF11_ed hj
     have:j=0∨j=1∨j=2∨j=3:=by omega
     rcases this with rfl | rfl | rfl | rfl <;> simp at h2
 · rintro f listed a' w' ⟨hk,⟨b0,b1,b2,rfl,hf,ha,q0,q1,rfl⟩ | ⟨hf,_⟩⟩
   · constructor
     · intro h7
       have h3:∀ j,j∉Region.ready .any RF11 #[b0,b1,b2,false]:=fun j=>by rw [h7];simp
       have e0:b0=true:=eq_true_of_ne_false fun e=>h3 0 (ready_in RF11_size RF11_ed (by decide) (by simp [e]) (by simp [edF11]))
       have e1:b1=true:=eq_true_of_ne_false fun e=>h3 1 (ready_in RF11_size RF11_ed (by decide) (by simp [e]) (by simp [edF11]))
       have e2:b2=true:=eq_true_of_ne_false fun e=>h3 2 (ready_in RF11_size RF11_ed (by decide) (by simp [e]) (by simp [edF11,e0]))
       exact h3 3 (ready_in RF11_size RF11_ed (by decide) (by simp) (by simp [edF11,e0,e1,e2]))
     · intro j hj
       obtain ⟨h1,h2,h4⟩:=ready_out RF11_size RF11_ed hj
       clear hj
       have hh:j=0∨j=1∨j=2∨j=3:=by omega
       rcases hh with rfl | rfl | rfl | rfl
       · have eb:b0=false:=by simpa using h2
         have s0:=(hk.slot 8 (by omega)).trans i8
         have hi:=h8.keep (h0 b2 B8 n85 h8.lt)
         refine wpOpIn_step g0 fun K hK=>opIn_val (v:=.agg (ckA C)) (w':=if b2=true then w.drew.setRow B5 (ckA C) else w.drew) k0 (by simp [Oper.about,x0]) (by rw [x0];intro c hc;cases hc) (by simp [execOp,x0,s0,ck_loadAt hi,Result.andThen]) (hK _ _ ?_)
         rw [d0]
         exact ⟨hk.put 32 _ (by decide) (by decide),.inl ⟨true,b1,b2,rfl,by rw [bn_false eb] at hf;simp only [bn,if_true];simp only [bn] at hf;omega,fun _=>rfl,fun _=>pt_same _ _ _ (by rw [hk.size,sz];decide),fun e=>(pt_other _ _ _ _ (by decide)).trans (q1 e),rfl⟩⟩
       · have eb:b1=false:=by simpa using h2
         have s0:=(hk.slot 9 (by omega)).trans i9
         have cs:=(h9.keep (h0 b2 B9 n95 h9.lt)).cell
         refine wpOpIn_step g1 fun K hK=>opIn_val (v:=.int .i64 (n:Int)) (w':=if b2=true then w.drew.setRow B5 (ckA C) else w.drew) k1 (by simp [Oper.about,x1]) (by rw [x1];intro c hc;cases hc) (by generalize (if b2=true then w.drew.setRow B5 (ckA C) else w.drew)=wz at cs ⊢;simp only [execOp,x1,s0];go_simp) (hK _ _ ?_)
         rw [d1]
         exact ⟨hk.put 33 _ (by decide) (by decide),.inl ⟨b0,true,b2,rfl,by rw [bn_false eb] at hf;simp only [bn,if_true];simp only [bn] at hf;omega,ha,fun e=>(pt_other _ _ _ _ (by decide)).trans (q0 e),fun _=>pt_same _ _ _ (by rw [hk.size,sz];decide),rfl⟩⟩
       · have eb:b2=false:=by simpa using h2
         have e0:b0=true:=by have:=h4 0 (by simp [edF11]);simpa using this
         subst eb e0
         have s32:=q0 rfl
         have s5:=(hk.slot 5 (by omega)).trans i5
         have hm:=ck_storeAt C (show CkAt w.drew B5 C' from h5)
         refine wpOpIn_step g2 fun K hK=>opIn_skip (w':=w.drew.setRow B5 (ckA C)) k2 (by simp [Oper.about,x2]) (by rw [x2];intro c hc;cases hc) (by show (execOp a'.eval p2).run Tryz.prog w.drew=_;simp [execOp,x2,s5,s32,hm,Result.andThen]) (hK _ _ ?_)
         rw [d2]
         exact ⟨hk.none _,.inl ⟨true,b1,true,rfl,by simp only [bn,if_true] at hf ⊢;simp at hf ⊢;omega,fun _=>rfl,fun _=>s32,q1,rfl⟩⟩
       · have e1:b1=true:=by have:=h4 1 (by simp [edF11]);simpa using this
         have e2:b2=true:=by have:=h4 2 (by simp [edF11]);simpa using this
         subst e1 e2
         have e0:=ha rfl
         subst e0
         have s33:=q1 rfl
         have s6:=(hk.slot 6 (by omega)).trans i6
         have he:=h6.keep (h0 true B6 n65 h6.lt)
         have cc:=he.cell
         have ff:=he.frozen
         refine wpOpIn_step g3 fun K hK=>opIn_skip (w':=(w.drew.setRow B5 (ckA C)).setCell ⟨B6,0,none⟩ (.int .i64 (n:Int))) k3 (by simp [Oper.about,x3]) (by rw [x3];intro c hc;cases hc) (by
          show (execOp a'.eval p3).run Tryz.prog (w.drew.setRow B5 (ckA C))=_
          have cc':(w.drew.setRow B5 (ckA C)).cell? ⟨B6,0,none⟩=some v:=cc
          have ff':(w.drew.setRow B5 (ckA C)).frozen? ⟨B6,0,none⟩=false:=ff
          generalize w.drew.setRow B5 (ckA C)=wz at cc' ff' ⊢
          simp only [execOp,x3,s6,s33];go_simp) (hK _ _ ?_)
         rw [d3]
         exact ⟨hk.none _,.inr ⟨by simp only [bn,if_true] at hf;omega,rfl,rfl⟩⟩
   · omega
section
attribute [local go_sem] Oper.semAt_some
theorem leavings_any (C:Ck) (kept Bl:Nat) (w:World) :
 Calls Tryz.prog 165 #[.agg (ckA C),.int .u64 kept,fewV Bl] w fun e w'=>e=.returned (.func (.func 169) #[] #[.pointer (some ⟨w.heap.size,0,none⟩),.pointer (some ⟨w.heap.size+1,0,none⟩),.pointer (some ⟨w.heap.size+1+1,0,none⟩)]) ∧
  CkAt w' w.heap.size C∧Bx w' (w.heap.size+1) (.int .u64 (kept:Int))∧Bx w' (w.heap.size+1+1) (fewV Bl)∧Below w.heap.size w w'∧w'.heap.size=w.heap.size+3:=by
 have h0:=ckA_size C
 unfold fewV
 go_enter Tryz.func165,Tryz.ntmps165
 go_wp2
 go_ret
 refine ⟨rfl,?_,?_,?_,?_,by simp⟩
 · exact (CkAt.new w C).keep (by rw [Below.heap_alloc _ _ _ (by simp;omega),Below.heap_alloc _ _ _ (by simp)])
 · have h:=Bx.new (w.alloc (.cells (ckA C) 273)) 101 (.int .u64 (kept:Int))
   rw [World.size_alloc] at h
   exact h.alloc _
 · have h:=Bx.new ((w.alloc (.cells (ckA C) 273)).alloc (.cells #[.int .u64 (kept:Int)] 101)) 150 (.func (.func 164) #[] #[.pointer (some ⟨Bl,0,none⟩)])
   simp only [World.size_alloc] at h
   exact h
 · exact (((Below.refl _ w).alloc (Nat.le_refl _) _).alloc (by simp) _).alloc (by simp;omega) _
theorem leavings1_in (K:List Nat) (n0 Bl l:Nat) (J:Srch→World→Prop) (h0:∀ s A B,J s A→Below n0 A B→J s B)
 (h1:∀ s A,J s A→A.cell? ⟨Bl,0,none⟩=some (.int .i64 (s.2:Int))∧n0≤A.heap.size∧tabLaid A) (h2:2≤n0)
 (hY:∀ m s C W1,J s W1→CkFit C→YieldAt Fence.wide m Tryz.prog l #[.agg (ckA C)] W1 fun e W'=>e=.returned (.bool true)∧J (stepS K s C) W'∧Above n0 W1 W')
 (n Bc Bs Bf:Nat) (C:Ck) (kept:Nat) (s:Srch) (W:World) (hc:CkAt W Bc C) (hs:Bx W Bs (.int .u64 (kept:Int))) (h3:Bx W Bf (fewV Bl)) (hf:CkFit C) (hk:kept < 65536) (hJ:J s W) :
 CallsIn Fence.wide n Tryz.prog 169 #[.func (.yield l) #[] #[],.pointer (some ⟨Bc,0,none⟩),.pointer (some ⟨Bs,0,none⟩),.pointer (some ⟨Bf,0,none⟩)] W fun e W'=>(∃ v,e=.returned v)∧J (visitS K 8 C kept 0 s) W':=by
 have hv:=fun m=>visit_in K n0 Bl l J h0 h1 h2 hY 8 m C kept 0 s W hf (by have:=hf.most;omega) hk (by decide) hJ
 have c1:=hs.cell
 have c2:=h3.cell
 unfold fewV at c2 hv
 refine callsIn_of_wp Tryz.func169 rfl trivial ?_ rfl
 simp only [Tryz.ntmps169,List.size_toArray,List.length_cons,List.length_nil,Nat.reduceAdd,Nat.reduceSub,Array.replicate_succ,Array.replicate_zero,List.push_toArray,List.append_toArray,List.nil_append,List.cons_append]
 gi_wp2_with (refine in_load rfl (.tmp 1) rfl Bc C rfl hc ?_)
 refine ⟨trivial,fun h=>(by cases h),(hv _).mono ?_⟩
 rintro e W' ⟨rfl,h4,_⟩
 gi_wp2
 go_end0
 exact ⟨⟨_,rfl⟩,h4⟩
structure FI (w:World) (kept B5 B6 B7:Nat) (s:Srch) (W:World):Prop where
 best:CkAt W B5 s.1
 least:Bx W B6 (.int .i64 (s.2:Int))
 few:Bx W B7 (fewV B6)
 set:Bx W (w.heap.size+1) (.int .u64 (kept:Int))
 res:CkAt W (w.heap.size+1+1) ckZ
 below:Below w.heap.size w W
theorem FI.mono {B5 B6 B7:Nat} {W':World} (h:FI w kept B5 B6 B7 s W) (hb:Below B W W') (hB:W.heap.size≤B∨(B5 < B∧B6 < B∧B7 < B∧w.heap.size+3≤B)):FI w kept B5 B6 B7 s W':=by
 have l5:=h.best.lt
 have l6:=h.least.lt
 have l7:=h.few.lt
 have l1:=h.set.lt
 have l2:=h.res.lt
 have hs:=h.below.size
 exact ⟨h.best.keep (hb.block _ (by omega)),h.least.keep (hb.block _ (by omega)),h.few.keep (hb.block _ (by omega)),h.set.keep (hb.block _ (by omega)),h.res.keep (hb.block _ (by omega)),h.below.trans (hb.mono (by omega))⟩
theorem fewer_eq {z:Int} (p least Bl:Nat) (w:World) (hz:z=(p:Int)) (hc:w.cell? ⟨Bl,0,none⟩=some (.int .i64 (least:Int))) :
 Calls Tryz.prog 164 #[.int .i64 z,.pointer (some ⟨Bl,0,none⟩)] w fun e w'=>e=.returned (.bool (decide (p < least)))∧w'=w:=by
 subst hz;exact fewer_any p least Bl w hc
def cR (x:Ck) (pre:List Sh):Nat:=((pre.map (·.1)).filter (readsB x)).length
theorem cR_snoc (x:Ck) (pre:List Sh) (i:Sh):cR x (pre ++ [i])=cR x pre+(if readsB x i.1=true then 1 else 0):=by
 unfold cR
 rw [List.map_append,List.filter_append,List.length_append]
 congr 1
 by_cases h:readsB x i.1=true
 · simp [h]
 · simp [h]
theorem cR_all (h:pre.map (·.1)=mems kept):cR x pre=cntR (mems kept) x:=by unfold cR cntR;rw [h]
theorem cR_part (h:pre.map (·.1) <+: mems kept):cR x pre≤cntR (mems kept) x:=by
 unfold cR cntR
 obtain ⟨R,hR⟩:=h
 rw [← hR,List.filter_append,List.length_append]
 omega
theorem cR_le (x:Ck) (pre:List Sh):cR x pre≤pre.length:=by
 unfold cR
 exact Nat.le_trans (List.length_filter_le _ _) (by rw [List.length_map];exact Nat.le_refl _)
def InI (X:World) (s:Srch) (x:Ck) (pre:List Sh) (Y:World):Prop:=Below X.heap.size X Y∧Bx Y X.heap.size (.int .i64 (cR x pre:Int))∧(cR x pre=0∨cR x pre < s.2)
theorem InI.own {X:World} (hB:X.heap.size+1≤B):OwnFrom B (fun pre Y=>InI X s x pre Y):=by
 rintro pre A Bw row ⟨q1,q2,q3⟩ hg h0
 have h1:=q2.lt
 exact ⟨q1.grown hg (by have:=q1.size;omega) (fun k e=>by have:=(h0 k e).1;omega),q2.keep (hg.block _ h1 (fun e=>by have:=(h0 _ e.symm).1;omega)),q3⟩
theorem fewest_any (C:Ck) (kept:Nat) (w:World) (hf:CkFit C) (hk:kept < 65536) (hT:tabLaid w) (h2:3≤w.heap.size) :
 Calls Tryz.prog 147 #[.agg (ckA C),.int .u64 kept] w fun e w'=>e=.returned (.agg (ckA (fewestS 8 C kept).1))∧Below w.heap.size w w':=by
 have he:=ckA_size C
 have h8:=ckA_size ckZ
 have hz:=zeroCk
 obtain ⟨n,HN⟩:∃ n:Nat,Hid (9≤n):=⟨9,Nat.le_refl _⟩
 refine (callsIn_wide (n:=n)).1 ?_
 refine callsIn_of_wp_marks Tryz.func147 rfl trivial ?_ rfl
 simp only [Tryz.ntmps147,List.size_toArray,List.length_cons,List.length_nil,Nat.reduceAdd,Nat.reduceSub,Array.replicate_succ,Array.replicate_zero,List.push_toArray,List.append_toArray,List.nil_append,List.cons_append]
 have b0:Below w.heap.size w (((w.alloc (.cells (ckA C) 273)).alloc (.cells #[.int .u64 (kept:Int)] 101)).alloc (.cells (ckA ckZ) 273)):=(((Below.refl _ w).alloc (Nat.le_refl _) _).alloc (by simp) _).alloc (by simp;omega) _
 have c0:CkAt (((w.alloc (.cells (ckA C) 273)).alloc (.cells #[.int .u64 (kept:Int)] 101)).alloc (.cells (ckA ckZ) 273)) w.heap.size C:=(CkAt.new w C).keep (by rw [Below.heap_alloc _ _ _ (by simp;omega),Below.heap_alloc _ _ _ (by simp)])
 have s0:Bx (((w.alloc (.cells (ckA C) 273)).alloc (.cells #[.int .u64 (kept:Int)] 101)).alloc (.cells (ckA ckZ) 273)) (w.heap.size+1) (.int .u64 (kept:Int)):=by
  have h:=Bx.new (w.alloc (.cells (ckA C) 273)) 101 (.int .u64 (kept:Int))
  rw [World.size_alloc] at h
  exact h.alloc _
 have r0:CkAt (((w.alloc (.cells (ckA C) 273)).alloc (.cells #[.int .u64 (kept:Int)] 101)).alloc (.cells (ckA ckZ) 273)) (w.heap.size+1+1) ckZ:=by
  have h:=CkAt.new ((w.alloc (.cells (ckA C) 273)).alloc (.cells #[.int .u64 (kept:Int)] 101)) ckZ
  simp only [World.size_alloc] at h
  exact h
 have z0:(((w.alloc (.cells (ckA C) 273)).alloc (.cells #[.int .u64 (kept:Int)] 101)).alloc (.cells (ckA ckZ) 273)).heap.size=w.heap.size+3:=by simp
 obtain ⟨w3,km⟩:∃ w3,((w.alloc (.cells (ckA C) 273)).alloc (.cells #[.int .u64 (kept:Int)] 101)).alloc (.cells (ckA ckZ) 273)=w3:=⟨_,rfl⟩
 rw [km] at b0 c0 s0 r0 z0
 have HB:=hide b0
 have HC:=hide c0
 have HS:=hide s0
 have HR:=hide r0
 have HZ:=hide z0
 clear b0 c0 s0 r0 z0
 gi_wp2
 refine in_scope ?_
 gi_wp2
 refine few_first w.heap.size (w.heap.size+1) kept C (by kernel_rfl) rfl hk rfl rfl HC.out HS.out ?_
 rintro a' w4 B5 B6 kn e5 e6 l5 l6 c5 c6 h6
 obtain ⟨ls,hh,rfl⟩:=kn.split (by decide) (by simp)
 clear kn
 obtain ⟨u0,u1,u2,u3,u4,u5,u6,u7,u8,rfl⟩:=len9 hh
 clear hh
 simp only [List.take_succ_cons,List.take_zero,List.drop_succ_cons,List.drop_zero,List.cons_append,List.nil_append] at e5 e6 ⊢
 obtain rfl:u0=.pointer (some ⟨B5,0,none⟩):=e5
 obtain rfl:u1=.pointer (some ⟨B6,0,none⟩):=e6
 clear km
 have ko:=HZ.out
 have cN:=(Bx.new w4 150 .nilFunc).cell
 have fN:=(Bx.new w4 150 .nilFunc).frozen
 have h5:Below w4.heap.size w4 ((w4.alloc (.cells #[.nilFunc] 150)).setCell ⟨w4.heap.size,0,none⟩ (fewV B6)):=((Below.refl _ _).alloc (Nat.le_refl _) _).setCell (p:=⟨w4.heap.size,0,none⟩) (Nat.le_refl _) _
 have ha:FI w kept B5 B6 w4.heap.size (C,(mems kept).length) ((w4.alloc (.cells #[.nilFunc] 150)).setCell ⟨w4.heap.size,0,none⟩ (fewV B6)):=
  ⟨c5.keep (h5.block _ c5.lt),c6.keep (h5.block _ c6.lt),(Bx.new w4 150 .nilFunc).set _,HS.out.keep ((h5.block _ (by have:=h6.size;omega)).trans (h6.block _ (by omega))),HR.out.keep ((h5.block _ (by have:=h6.size;omega)).trans (h6.block _ (by omega))),(HB.out.trans (h6.mono (by omega))).trans (h5.mono (by have:=h6.size;omega))⟩
 have hq:CkAt ((w4.alloc (.cells #[.nilFunc] 150)).setCell ⟨w4.heap.size,0,none⟩ (fewV B6)) w.heap.size C:=HC.out.keep ((h5.block _ (by have:=h6.size;omega)).trans (h6.block _ (by omega)))
 have hx:((w4.alloc (.cells #[.nilFunc] 150)).setCell ⟨w4.heap.size,0,none⟩ (fewV B6)).heap.size=w4.heap.size+1:=by simp [World.setCell]
 have kp:=h6.size
 have l64:=c6.lt
 obtain ⟨w5,hy⟩:∃ w5,(w4.alloc (.cells #[.nilFunc] 150)).setCell ⟨w4.heap.size,0,none⟩ (fewV B6)=w5:=⟨_,rfl⟩
 rw [hy] at ha hq hx
 unfold fewV at hy
 have c7:=ha.few.cell
 unfold fewV at c7
 have c3:=ha.set.cell
 have HF:=hide ha
 have qh:=hide hq
 have x9:=hide hx
 have xa:=hide kp
 have hm:=hide ko
 clear ha hq hx h5 c5 c6 h6 HB HC HS HR HZ kp ko hz he h8
 have k0:=leavings_any C kept B6 w5
 unfold fewV at k0
 gi_wp2
 refine wpIn_label ?_
 gi_wp2_with (refine in_load rfl (.tmp 2) rfl w.heap.size C rfl qh.out ?_)
 refine at_wide k0 ?_
 clear k0
 rintro e w6 ⟨rfl,k1,k2,k3,k4,k5⟩
 have qi:=hide k1
 have qj:=hide k2
 have qk:Hid (Bx w6 (w5.heap.size+1+1) (fewV B6)):=hide k3
 have qm:=hide k4
 have kr:=hide k5
 clear k1 k2 k3 k4 k5 hy cN fN c7 c3
 gi_wp2
 have qn:FI w kept B5 B6 w4.heap.size (C,(mems kept).length) w6:=HF.out.mono qm.out (.inl (Nat.le_refl _))
 have l5':=HF.out.best.lt
 have l6':=HF.out.least.lt
 have l7':=HF.out.few.lt
 have l2':=HF.out.res.lt
 have ks:=kr.out
 obtain ⟨m,HM⟩:∃ m:Nat,Hid (9≤m):=⟨9,Nat.le_refl _⟩
 refine range_lk (P:=Tryz.prog) (n:=n) m (w:=w6) (gf:=169) (lb:=#[.pointer (some ⟨w5.heap.size,0,none⟩),.pointer (some ⟨w5.heap.size+1,0,none⟩),.pointer (some ⟨w5.heap.size+1+1,0,none⟩)]) rfl (enters_of Tryz.func169 (by kernel_rfl) rfl)
  (encs:=fun C:Ck=>#[.agg (ckA C)]) (fun _=>rfl) (stepS (mems kept)) CkFit (FI w kept B5 B6 w4.heap.size) (fun s A B h hb=>h.mono hb (.inr ⟨by omega,by omega,by omega,by omega⟩)) (fun s=>s=fewestS 8 C kept) (C,(mems kept).length)
  ?call qn (fun B x a' A=>∃ B8,B≤B8∧CkAt A B8 x∧a'={ tmps:=#[.agg (ckA C),.int .u64 (kept:Int),.pointer (some ⟨w.heap.size,0,none⟩),.pointer (some ⟨w.heap.size+1,0,none⟩),.pointer (some ⟨w.heap.size+1+1,0,none⟩),.pointer (some ⟨B5,0,none⟩),.pointer (some ⟨B6,0,none⟩),.pointer (some ⟨w4.heap.size,0,none⟩),.pointer (some ⟨B8,0,none⟩),u4,u5,u6,u7,u8,.func (.func 164) #[] #[.pointer (some ⟨B6,0,none⟩)],.agg (ckA C),.int .u64 (kept:Int),.func (.func 164) #[] #[.pointer (some ⟨B6,0,none⟩)],.func (.func 169) #[] #[.pointer (some ⟨w5.heap.size,0,none⟩),.pointer (some ⟨w5.heap.size+1,0,none⟩),.pointer (some ⟨w5.heap.size+1+1,0,none⟩)],.agg (ckA x),undef,undef,undef,undef,undef,undef,undef,undef,undef,undef,undef,undef,undef,undef,undef],defers:=[] }) ?ax ?assign ?body ?done
 case call=>
  intro l J W k6 xb qo qp hY qq
  refine (leavings1_in (mems kept) (w6.heap.size+2) B6 l J qo (fun s A hj=>?_) (by omega) hY (n - 1) w5.heap.size (w5.heap.size+1) (w5.heap.size+1+1) C kept _ W (qi.out.keep (k6.block _ (by omega))) (qj.out.keep (k6.block _ (by omega))) (qk.out.keep (k6.block _ (by omega))) hf hk qq).mono ?_
  · obtain ⟨fi,hs⟩:=qp s A hj
    exact ⟨fi.least.cell,hs,hT.mono (by omega) fi.below⟩
  · rintro e W' ⟨hv,qs⟩
    exact ⟨hv,_,rfl,qs⟩
 case ax=>
  rintro B x a' A A' ⟨B8,h1,kv,h3⟩ qv
  exact ⟨B8,h1,kv.keep (qv.block B8 h1 kv.lt),h3⟩
 case assign=>
  intro l s x W K hI kx hK
  have hz:=zeroCk
  have h8:=ckA_size ckZ
  gi_wp2_with (refine in_store rfl (.tmp 8) (.tmp 19) rfl W.heap.size x ckZ rfl rfl (CkAt.new W ckZ) ?_)
  exact hK _ _ (((Below.refl _ _).alloc (Nat.le_refl _) _).grown (grown_setRow _ _ _) (by simp) (fun k e=>by cases e;exact Nat.le_refl _)) ⟨W.heap.size,Nat.le_refl _,(CkAt.new W ckZ).setRow x,rfl⟩
 case body=>
  rintro l B s x a' X hl xc xd ⟨r,hr⟩ hI kx ⟨B8,xe,ky,rfl⟩
  have hh:=hI.below.size
  have qx:l < X.heap.size:=(Array.getElem?_eq_some_iff.1 hr).1
  have k7:Below X.heap.size X (X.alloc (.cells #[.int .i64 0] 3)):=(Below.refl _ _).alloc (Nat.le_refl _) _
  have c3:=(hI.mono k7 (.inl (Nat.le_refl _))).set.cell
  have hc:Below X.heap.size X ((X.alloc (.cells #[.int .i64 0] 3)).alloc (.cells #[.int .u64 (kept:Int)] 101)):=k7.alloc (by simp) _
  have kz:=(Bx.new X 3 (.int .i64 0)).alloc (.cells #[.int .u64 (kept:Int)] 101)
  have k8:=(Bx.new (X.alloc (.cells #[.int .i64 0] 3)) 101 (.int .u64 (kept:Int))).cell
  have k9:((X.alloc (.cells #[.int .i64 0] 3)).alloc (.cells #[.int .u64 (kept:Int)] 101)).heap.size=X.heap.size+1+1:=by simp
  rw [World.size_alloc] at k8
  have ka:=members_any kept (X.alloc (.cells #[.int .i64 0] 3))
  rw [World.size_alloc] at ka
  have HI:=hide hI
  have hn:=hide ky
  have h7:=hide hc
  have q0:=hide kz
  have q4:=hide k8
  have q5:=hide k9
  have HR:=hide hr
  have q6:=hide ka
  clear hI ky k7 kz k8 k9 hc hr hh ka ks
  gi_wp2
  refine at_round q6.out ?_
  rintro e w' ⟨rfl,q7⟩
  rw [← q7] at h7 q0 q4 q5
  clear q6 c3 q7
  gi_wp2
  have qy:tabLaid w':=hT.mono (by omega) ((HI.out.mono h7.out (.inl (Nat.le_refl _))).below)
  have k9:=q5.out
  have qz:w'.heap[l]?=some (.loop r):=(h7.out.block l qx).trans HR.out
  have xf:=HI.out.least
  refine wpIn_rangeFunc_ownN (l₀:=l) (r₀:=r) rfl qz (by have:=HM.out;omega) (gf:=83) (lb:=#[.pointer (some ⟨X.heap.size+1,0,none⟩)]) rfl trivial (enters_of Tryz.func83 (by kernel_rfl) rfl)
   ((members_stops (m - 1) (X.heap.size+1) kept hk w' (by omega) q4.out (by omega) qy).inRound l) (fun h k=>kpT_t h k) (kpT_b (by omega)) (Below.refl _ _) (fun _=>rfl)
   (fun pre Y=>InI X s x pre Y) (fun c pre Y=>c=.exit 1∧Below X.heap.size X Y∧1≤cR x pre∧s.2≤cR x pre)
   (InI.own (by omega)) (fun c=>by
    rintro pre A Bw row ⟨q1,q2,q3⟩ hg kb
    exact ⟨q1,q2.grown hg (by have:=q2.size;omega) (fun k e=>by have:=(kb k e).1;omega),q3⟩)
   ⟨h7.out,q0.out,.inl rfl⟩
   (fun i a'' _=>a''={ tmps:=#[.agg (ckA C),.int .u64 (kept:Int),.pointer (some ⟨w.heap.size,0,none⟩),.pointer (some ⟨w.heap.size+1,0,none⟩),.pointer (some ⟨w.heap.size+1+1,0,none⟩),.pointer (some ⟨B5,0,none⟩),.pointer (some ⟨B6,0,none⟩),.pointer (some ⟨w4.heap.size,0,none⟩),.pointer (some ⟨B8,0,none⟩),.pointer (some ⟨X.heap.size,0,none⟩),.int .i64 (i.1:Int),u6,u7,u8,.func (.func 164) #[] #[.pointer (some ⟨B6,0,none⟩)],.agg (ckA C),.int .u64 (kept:Int),.func (.func 164) #[] #[.pointer (some ⟨B6,0,none⟩)],.func (.func 169) #[] #[.pointer (some ⟨w5.heap.size,0,none⟩),.pointer (some ⟨w5.heap.size+1,0,none⟩),.pointer (some ⟨w5.heap.size+1+1,0,none⟩)],.agg (ckA x),.int .u64 (kept:Int),.func (.func 83) #[] #[.pointer (some ⟨X.heap.size+1,0,none⟩)],.int .i64 (i.1:Int),undef,undef,undef,undef,undef,undef,undef,undef,undef,undef,undef,undef],defers:=[] })
   (fun _ _ _ _ _ _ hs _ _=>hs)
   ?assign2 ?body2 ?done2 ?stop2
  case assign2=>
   rintro l2 pre i Y K hi hK
   unfold encSh
   gi_wp2
   exact hK _ _ (KeepsFrom.refl _ _) (KpT.refl _) hi rfl
  case body2=>
   rintro l2 pre i a'' Y _ _ ⟨q1,q2,q3⟩ rfl x0
   have h9:=hn.out.lt
   have q8:=hn.out.keep (q1.block B8 h9)
   have q9:=cR_le x pre
   have x1:(mems kept).length≤16:=by rw [← shs_len kept];exact shs_le kept
   have x2:=hide q1
   have x3:=hide q2
   have x4:=hide q3
   have c9:=q2.cell
   have f9:=q2.frozen
   have qa:=reads_any B8 i.1 x Y q8 kx i.2
   have qb:=cR_snoc x pre i
   have qc:=hide qb
   have h5:Below X.heap.size X (Y.setCell ⟨X.heap.size,0,none⟩ (.int .i64 ((cR x pre:Int)+1))):=q1.setCell (p:=⟨X.heap.size,0,none⟩) (Nat.le_refl _) _
   have kc:=HI.out.mono h5 (.inl (Nat.le_refl _))
   have c7:=kc.few.cell
   have c6:=kc.least.cell
   have kd:=q2.set (.int .i64 ((cR x pre:Int)+1))
   have c95:=kd.cell
   unfold fewV at c7
   have ke:=hide h5
   have x5:=hide kd
   clear q1 q2 q3 qb h5 kc kd q8
   gi_wp2
   refine at_round qa ?_
   clear qa
   rintro e w'' ⟨rfl,kf⟩
   subst kf
   cases hp:readsB x i.1 with
   | false=>
    have h4:Hid (cR x (pre ++ [i])=cR x pre):=hide (by rw [qc.out,hp];simp)
    clear hp
    gi_wp2
    refine ⟨KeepsFrom.refl _ _,KpT.refl _,x2.out,?_,?_⟩
    · rw [h4.out];exact x3.out
    · rw [h4.out];exact x4.out
   | true=>
    have h4:Hid (cR x (pre ++ [i])=cR x pre+1):=hide (by rw [qc.out,hp];simp)
    clear hp
    gi_wp2
    refine at_round (fewer_eq (cR x pre+1) s.2 B6 _ (by omega) c6) ?_
    rintro e w3' ⟨rfl,kg⟩
    have qd:KeepsFrom w'.heap.size w'' (w''.setCell ⟨X.heap.size,0,none⟩ (.int .i64 ((cR x pre:Int)+1))):=(KeepsOthers.setCell _ _ _).from _
    have qe:=hide qd
    clear qd
    subst kg
    by_cases kh:cR x pre+1 < s.2
    · rw [decide_eq_true kh]
      gi_wp2
      refine ⟨qe.out,fun _=>hT.mono (by omega) (HI.out.mono ke.out (.inl (Nat.le_refl _))).below,ke.out,?_,?_⟩
      · rw [h4.out];exact x5.out
      · rw [h4.out];exact .inr kh
    · rw [decide_eq_false kh]
      gi_wp2
      refine ⟨qe.out,rfl,ke.out,?_,?_⟩
      · rw [h4.out];omega
      · rw [h4.out];omega
  case done2=>
   rintro ys Y x6 ⟨q1,q2,q3⟩
   have q9:=cR_all (x:=x) x6
   rw [q9] at q2 q3
   have h0:=HI.out.mono q1 (.inl (Nat.le_refl _))
   have h9:=hn.out.lt
   have x7:=hn.out.keep (q1.block B8 h9)
   have ks:=kr.out
   gi_wp2
   refine few_better B5 B6 B8 X.heap.size (cntR (mems kept) x) x s.1 _ (by kernel_rfl) rfl rfl rfl rfl rfl x7 q2 h0.best h0.least (by omega) ?_
   intro a3 xg
   have ki:stepS (mems kept) s x=(x,cntR (mems kept) x):=by unfold stepS;rw [if_pos q3]
   rw [ki]
   have n65:=ck_ne h0.best h0.least
   have n57:=ck_ne h0.best h0.few
   have n5s:=ck_ne h0.best h0.set
   have n2l:=ck_ne h0.res h0.least
   have e1:∀ k,k≠B5→k≠B6→k < Y.heap.size→((Y.drew.setRow B5 (ckA x)).setCell ⟨B6,0,none⟩ (.int .i64 (cntR (mems kept) x:Int))).heap[k]?=Y.heap[k]?:=fun k k1 k2 k3=>
    (Below.heap_setCell _ _ _ _ k2).trans ((grown_setRow Y.drew B5 (ckA x)).block k k3 (fun e=>k1 (by cases e;rfl)))
   have he:Y.heap.size≤((Y.drew.setRow B5 (ckA x)).setCell ⟨B6,0,none⟩ (.int .i64 (cntR (mems kept) x:Int))).heap.size:=by simp [World.setCell,World.setRow]
   have xh:=HI.out.below.size
   have xi:=q1.size
   have l5w:w.heap.size≤B5:=by have:=hm.out;omega
   have l6w:w.heap.size≤B6:=by have:=hm.out;omega
   refine ⟨⟨?_,?_,?_,?_,?_,?_⟩,?_⟩
   · exact (((show CkAt Y.drew B5 s.1 from h0.best).setRow x)).keep (Below.heap_setCell _ _ _ _ n65)
   · exact ((show Bx Y.drew B6 _ from h0.least).keep ((grown_setRow Y.drew B5 (ckA x)).block B6 h0.least.lt (fun e=>n65 (by cases e;rfl)))).set _
   · exact h0.few.keep (e1 _ (Ne.symm n57) (by omega) h0.few.lt)
   · exact h0.set.keep (e1 _ (Ne.symm n5s) (by have:=hm.out;omega) h0.set.lt)
   · exact h0.res.keep (e1 _ (by have:=hm.out;omega) n2l h0.res.lt)
   · exact h0.below.trans ⟨rfl,rfl,rfl,he,fun k hk=>e1 k (by omega) (by omega) (by have:=h0.below.size;omega)⟩
   · exact (Above.of_below q1).trans ⟨rfl,rfl,rfl,he,fun k k1 k2=>e1 k (by omega) (by omega) k2⟩
  case stop2=>
   rintro c pre Y kj ⟨rfl,q1,q2,q3⟩
   have xj:=cR_part (x:=x) kj
   have ki:stepS (mems kept) s x=s:=by unfold stepS;rw [if_neg (by omega)]
   rw [ki]
   gi_wp2
   exact ⟨HI.out.mono q1 (.inl (Nat.le_refl _)),Above.of_below q1⟩
 case done=>
  rintro D s X hD rfl hI hK
  have hb:=hI.best
  have qf:=hI.res
  have HI:=hide hI
  have h8:=ckA_size ckZ
  gi_wp2_with (first
   | (refine in_load rfl (.tmp 5) rfl B5 (fewestS 8 C kept).1 rfl hb ?_)
   | (refine in_store rfl (.tmp 4) (.tmp 34) rfl (w.heap.size+1+1) (fewestS 8 C kept).1 ckZ rfl rfl qf ?_))
  have qg:(X.setRow (w.heap.size+1+1) (ckA (fewestS 8 C kept).1)).heap[D]?=some (.deferred (some [])):=((grown_setRow X (w.heap.size+1+1) _).block D (Array.getElem?_eq_some_iff.1 hK).1 (fun e=>by cases e;omega)).trans hK
  refine ⟨by simp,.inl ⟨_,_,rfl,run_takeDeferred qg,?_⟩⟩
  have kk:CkAt ((X.setRow (w.heap.size+1+1) (ckA (fewestS 8 C kept).1)).putObj D (.deferred none)) (w.heap.size+1+1) (fewestS 8 C kept).1:=(qf.setRow (fewestS 8 C kept).1).keep (World.putObj_heap_other (by omega))
  have x8:Below w.heap.size w ((X.setRow (w.heap.size+1+1) (ckA (fewestS 8 C kept).1)).putObj D (.deferred none)):=
   Below.putObj' (HI.out.below.grown (grown_setRow _ _ _) HI.out.below.size (fun k e=>by cases e;omega)) (by omega) (Array.getElem?_eq_some_iff.1 qg).1 _
  exact ⟨.agg (ckA (fewestS 8 C kept).1),results_cell_row Tryz.results147 _ _ (w.heap.size+1+1) 273 (ckA (fewestS 8 C kept).1) (0,0) _ rfl kk.heap Tryz.underlying273 rfl (ckA_info _),rfl,x8⟩
end
end Go.Proofs.YthcgahldacpolaaGreatDoor
