import Derived.Test.YthcgahldacpolaaGreatDoorM35
set_option maxRecDepth 100000
set_option maxHeartbeats 8000000
namespace Go.Proofs.YthcgahldacpolaaGreatDoor
open Go.RowKit Go.Shelf Go.Deep Gf
variable {C:Ck} {regs:Int} {pre:List Sh} {xs:List Value} {D L G B b n R g' cap' kept:Nat} {ob:Obj} {row:Option Nat} {t:TypeId} {x y v u:Value} {w X Y w2:World}
section
attribute [local go_sem] Oper.semAt_some
structure CF (w:World) (D L G:Nat) (X:World):Prop where
 par:X.heap[w.heap.size]?=some (.cells #[.int .i64 (D:Int),.int .i64 (L:Int),.int .i64 (G:Int)] 23 (0,0))
 res:CkAt X (w.heap.size+1) ckZ
 err:Boxed X (w.heap.size+1+1) 29 .nilIface
 below:Below w.heap.size w X
theorem CF.mono (h:CF w D L G X) (hb:Below B X Y) (hB:w.heap.size+3≤B):CF w D L G Y:=
 ⟨(hb.block _ (by omega)).trans h.par,h.res.keep (hb.block _ (by omega)),(hb.block _ (by omega)).trans h.err,h.below.trans (hb.mono (by omega))⟩
theorem CF.own (h:CF w D L G X) (hB:w.heap.size+3≤B) (hg:X.grownBy Y row) (hr:∀ r,row=some r→B≤r):CF w D L G Y:=
 h.mono (B:=w.heap.size+3) ⟨hg.os,hg.tape,hg.output,hg.size,fun k hk=>hg.block k (by have:=h.err.lt;omega) (fun e=>by have:=hr k e.symm;omega)⟩ (Nat.le_refl _)
theorem par_cells {z:Value} (h:X.heap[b]?=some (.cells #[x,y,z] t (0,0))):X.cell? ⟨b,0,none⟩=some x∧X.cell? ⟨b,1,none⟩=some y∧X.cell? ⟨b,2,none⟩=some z:=by simp [World.cell?,h]
def CfPost (D L G S:Nat) (w:World) (e:Ending) (w':World):Prop:=
 Below w.heap.size w w'∧((tells (cks D L G) (mems S)=none∧e=.returned (.tuple #[.agg (ckA ckZ),.iface 37 (.int .i64 3)])) ∨
  (∃ C,tells (cks D L G) (mems S)=some C∧e=.returned (.tuple #[.agg (ckA C),.nilIface])))
def preL (pre:List Sh):List Nat:=pre.map (·.1)
theorem preL_snoc (pre:List Sh) (x:Sh):preL (pre ++ [x])=preL pre ++ [x.1]:=by unfold preL;simp
def CfI (w:World) (D L G Bc B:Nat) (pre:List Sh) (X:World):Prop:=CF w D L G X∧(∃ C,tells (cks D L G) (preL pre)=some C∧CkAt X Bc C)∧B≤X.heap.size
def CfX (w:World) (D L G B:Nat) (c:Code) (pre:List Sh) (X:World):Prop:=c=.ret∧tells (cks D L G) (preL pre)=none∧Below w.heap.size w X∧B≤X.heap.size ∧
 CkAt X (w.heap.size+1) ckZ∧Boxed X (w.heap.size+1+1) 29 (.iface 37 (.int .i64 3))
theorem CfI.own {Bc:Nat} (hB:w.heap.size+3≤B) (hc:Bc < B):OwnFrom B (CfI w D L G Bc B):=by
 rintro pre X Y row ⟨h1,⟨C,h2,h3⟩,h4⟩ hg hr
 exact ⟨h1.own hB hg (fun r e=>(hr r e).1),⟨C,h2,h3.keep (hg.block _ h3.lt (fun e=>by have:=(hr _ e.symm).1;omega))⟩,Nat.le_trans h4 hg.size⟩
theorem CfX.own (hB:w.heap.size+3≤B) (c:Code):OwnFrom B (CfX w D L G B c):=by
 rintro pre X Y row ⟨h1,h2,h3,h4,h5,h6⟩ hg hr
 have hk:∀ k,k < w.heap.size+3→Y.heap[k]?=X.heap[k]?:=fun k hk=>hg.block k (by omega) (fun e=>by have:=(hr k e.symm).1;omega)
 exact ⟨h1,h2,h3.grown hg h3.size (fun k e=>by have:=(hr k e).1;omega),Nat.le_trans h4 hg.size,h5.keep (hk _ (by omega)),(hk _ (by omega)).trans h6⟩
theorem keeps_ckRow (h:CkAt X b C) (cs:Array Value):KeepsOthers X (X.setRow b cs):=
 KeepsOthers.of_grownBy (grown_setRow _ _ _) (fun j o e ho=>by cases e;rw [h.heap] at ho;cases ho;rfl)
theorem ck_loadVar (h:CkAt w b C):(loadVar 273 ⟨b,0,none⟩).run Tryz.prog w=.ok (.agg (ckA C)) w:=run_loadVar_row w b 273 273 (ckA C) (0,0) _ h.heap Tryz.underlying273 rfl (ckA_info C)
theorem cf_end {Z:World} {D':Nat} {ev:Value} {a:Act} {R:Ending→World→Prop} (hd:a.defers=[{ target:=.collected D',args:=#[] }]) (h4:a.tmps.getD 4 undef=.pointer (some ⟨w.heap.size+1,0,none⟩)) (h5:a.tmps.getD 5 undef=.pointer (some ⟨w.heap.size+1+1,0,none⟩))
 (h0:CkAt Z (w.heap.size+1) C) (h1:Boxed Z (w.heap.size+1+1) 29 ev) (hK:Z.heap[D']?=some (.deferred (some []))) (hD:w.heap.size+3≤D')
 (hR:R (.returned (.tuple #[.agg (ckA C),ev])) (Z.putObj D' (.deferred none))):bodyPostM Fence.wide n Tryz.prog Tryz.f143 R .ret a Z:=by
 obtain ⟨tm,df⟩:=a
 simp only at hd h4 h5
 subst hd
 refine ⟨by simp,.inl ⟨_,_,rfl,run_takeDeferred hK,?_⟩⟩
 have c0:=ck_loadVar (show CkAt (Z.putObj D' (.deferred none)) (w.heap.size+1) C from h0.keep (World.putObj_heap_other (by omega)))
 have ce:=(show Boxed (Z.putObj D' (.deferred none)) (w.heap.size+1+1) 29 ev from (World.putObj_heap_other (by omega)).trans h1).cell
 have ce':(loadVar 29 ⟨w.heap.size+1+1,0,none⟩).run Tryz.prog (Z.putObj D' (.deferred none))=.ok ev (Z.putObj D' (.deferred none)):=by simp [go_sem,ce]
 refine ⟨.tuple #[.agg (ckA C),ev],?_,hR⟩
 have h2:tm[4]?.getD undef=.pointer (some ⟨w.heap.size+1,0,none⟩):=by simpa using h4
 have h3:tm[5]?.getD undef=.pointer (some ⟨w.heap.size+1+1,0,none⟩):=by simpa using h5
 simp [results,Tryz.results143,asAddr,h2,h3,c0,ce']
theorem checksFor_right (D L G S:Nat) (hr:rightB D L G=true) (q0:1≤D) (hD:D≤12) (hL:1≤L) (k7:L≤4) (hG:G≤4) (hj:D % L=0) (qh:D+L+G≤16) (hS:S < 65536) (w:World) (hT:tabLaid w) (h2:3≤w.heap.size) :
 Calls Tryz.prog 143 #[.agg #[.int .i64 D,.int .i64 L,.int .i64 G],.int .u64 S] w fun e w'=>CfPost D L G S w e w':=by
 obtain ⟨n,HN⟩:∃ n:Nat,Hid (9≤n):=⟨9,Nat.le_refl _⟩
 refine (callsIn_wide (n:=n)).1 ?_
 refine callsIn_of_wp_marks Tryz.func143 rfl trivial ?_ rfl
 simp only [Tryz.ntmps143,List.size_toArray,List.length_cons,List.length_nil,Nat.reduceAdd,Nat.reduceSub,Array.replicate_succ,Array.replicate_zero,List.push_toArray,List.append_toArray,List.nil_append,List.cons_append]
 have hz:=zeroCk
 have q6:=ckA_size ckZ
 gi_wp2
 refine at_wide (matrix_right D L G hr hD hL k7 hG hj _) ?_
 rintro e w1 ⟨v,T,rfl,k8,hH,h4⟩
 have hm:(((w.alloc (.cells #[.int .i64 (D:Int),.int .i64 (L:Int),.int .i64 (G:Int)] 23)).alloc (.cells (ckA ckZ) 273)).alloc (.cells #[.nilIface] 29)).heap.size=w.heap.size+3:=by simp
 have k9:CF w D L G (((w.alloc (.cells #[.int .i64 (D:Int),.int .i64 (L:Int),.int .i64 (G:Int)] 23)).alloc (.cells (ckA ckZ) 273)).alloc (.cells #[.nilIface] 29)):=by
  obtain ⟨a1,a2,a3,a4⟩:=alloc3 w (.cells #[.int .i64 (D:Int),.int .i64 (L:Int),.int .i64 (G:Int)] 23) (.cells (ckA ckZ) 273) (.cells #[.nilIface] 29)
  exact ⟨a2,CkAt.of_heap a3,a4,(((Below.refl _ w).alloc (Nat.le_refl _) _).alloc (by simp) _).alloc (by simp;omega) _⟩
 rw [hm] at h4
 have h1:=k9.mono h4 (Nat.le_refl _)
 have hn:=h4.size
 rw [hm] at hn
 have q7:=hide h4
 clear k9 h4 hm
 have hM:matL D L G≠[]:=fun e=>by have:=mat_len D L G;rw [e] at this;simp at this;omega
 obtain ⟨g,c,rfl,hp,ka⟩:=mat_open k8 hH (mat_row D L G) hM
 obtain ⟨p0,p1,p2⟩:=par_cells h1.par
 have kb:Calls Tryz.prog 158 #[.slice (some ⟨g,0,none⟩) (matL D L G).length c,.int .i64 D] w1 fun e w'=>e=.returned (.agg (ckA (cks D L G)))∧Below w1.heap.size w1 w':=by
  have h5:=mat_len D L G
  have h:=checksOf_any g 0 c (matL D L G) D w1 hp (fun i hi=>ka i hi) q0 (by omega) (by omega) (by omega) (fun i hi=>by
   have e:(matL D L G).getD i []=(matL D L G)[i]:=by simp [hi]
   rw [e];exact mat_row D L G _ (List.getElem_mem hi))
  rw [show (matL D L G).length - D=L+G by omega] at h
  exact h
 have kc:=hide h1
 clear k8 hH h1 ka
 gi_wp2
 refine at_wide kb ?_
 clear kb
 rintro e w4 ⟨rfl,hq⟩
 have kd:=hq.size
 have h6:=kc.out.mono hq (by omega)
 have hs:=ckA_size (cks D L G)
 have ke:Below w4.heap.size w4 ((w4.alloc (.cells (ckA ckZ) 273)).setRow w4.heap.size (ckA (cks D L G))):=((Below.refl _ _).alloc (Nat.le_refl _) _).grown (grown_setRow _ _ _) (by simp) (fun k e=>by cases e;exact Nat.le_refl _)
 have kf:CkAt ((w4.alloc (.cells (ckA ckZ) 273)).setRow w4.heap.size (ckA (cks D L G))) w4.heap.size (cks D L G):=(CkAt.new w4 ckZ).setRow (cks D L G)
 have h7:=h6.mono ke (by omega)
 have kg:((w4.alloc (.cells (ckA ckZ) 273)).setRow w4.heap.size (ckA (cks D L G))).heap.size=w4.heap.size+1:=by simp [World.setRow]
 have H5:=hide3 kf h7 kg
 clear kc q7 hq h6 ke kf h7 kg
 gi_wp2_with (refine in_store rfl (.tmp 8) (.tmp 22) rfl w4.heap.size (cks D L G) ckZ rfl rfl (CkAt.new w4 ckZ) ?_)
 obtain ⟨w5,kh⟩:∃ w5,(w4.alloc (.cells (ckA ckZ) 273)).setRow w4.heap.size (ckA (cks D L G))=w5:=⟨_,rfl⟩
 rw [kh] at H5 ⊢
 clear kh hs
 refine at_wide (members_any S w5) ?_
 rintro e w' ⟨rfl,rfl⟩
 have ki:(w5.alloc (.cells #[.int .u64 (S:Int)] 101)).heap.size=w5.heap.size+1:=by simp
 have kj:(w5.alloc (.cells #[.int .u64 (S:Int)] 101)).cell? ⟨w5.heap.size,0,none⟩=some (.int .u64 (S:Int)):=(Bx.new w5 101 (.int .u64 (S:Int))).cell
 have kk:CfI w D L G w4.heap.size (w5.heap.size+1) [] (w5.alloc (.cells #[.int .u64 (S:Int)] 101)):=by
  have hb:Below w5.heap.size w5 (w5.alloc (.cells #[.int .u64 (S:Int)] 101)):=(Below.refl _ _).alloc (Nat.le_refl _) _
  obtain ⟨q1,q2,q3⟩:=H5.out
  exact ⟨q2.mono hb (by omega),⟨cks D L G,rfl,q1.keep (hb.block _ (by omega))⟩,by omega⟩
 obtain ⟨w6,km⟩:∃ w6,w5.alloc (.cells #[.int .u64 (S:Int)] 101)=w6:=⟨_,rfl⟩
 have h8:=H5.out.2.2
 have hx:=hide4 ki h8 hn kd
 have hy:=hide kj
 have h9:=hide kk
 clear ki kj kk H5 h8 hn kd p0 p1 p2
 gi_wp2
 rw [km] at hx hy h9
 clear km
 have q8:w.heap.size+3≤w6.heap.size∧w4.heap.size < w6.heap.size∧w6.heap.size=w5.heap.size+1:=by obtain ⟨q1,q2,q3,q4⟩:=hx.out;omega
 obtain ⟨kn,q9,k0⟩:=q8
 rw [← k0] at h9
 have qa:=hide k0
 clear k0
 refine wpIn_rangeFunc_ownG rfl (by have:=HN.out;omega) (gf:=83) (lb:=#[.pointer (some ⟨w5.heap.size,0,none⟩)]) rfl trivial (enters_of Tryz.func83 (by kernel_rfl) rfl)
  (members_stops (n - 1) w5.heap.size S hS w6 (by have:=qa.out;omega) hy.out (by omega) (hT.mono (by omega) h9.out.1.below)) (fun h k=>kpT_t h k) (kpT_b (by omega)) (Below.refl _ _) (fun _=>rfl)
  (CfI w D L G w4.heap.size w6.heap.size) (CfX w D L G w6.heap.size) (CfI.own kn q9) (CfX.own kn) h9.out
  (fun x=>{ tmps:=#[.agg #[.int .i64 (D:Int),.int .i64 (L:Int),.int .i64 (G:Int)],.int .u64 (S:Int),.pointer (some ⟨w.heap.size,0,none⟩),undef,.pointer (some ⟨w.heap.size+1,0,none⟩),.pointer (some ⟨w.heap.size+1+1,0,none⟩),.slice (some ⟨g,0,none⟩) (matL D L G).length c,.nilIface,.pointer (some ⟨w4.heap.size,0,none⟩),.int .i64 (x.1:Int),.tuple #[.slice (some ⟨g,0,none⟩) (matL D L G).length c,.nilIface],.agg #[.int .i64 (D:Int),.int .i64 (L:Int),.int .i64 (G:Int)],.tuple #[.slice (some ⟨g,0,none⟩) (matL D L G).length c,.nilIface],.slice (some ⟨g,0,none⟩) (matL D L G).length c,.nilIface,.nilIface,.bool false,undef,undef,.slice (some ⟨g,0,none⟩) (matL D L G).length c,.pointer (some ⟨w.heap.size,0,none⟩),.int .i64 (D:Int),.agg (ckA (cks D L G)),.int .u64 (S:Int),.func (.func 83) #[] #[.pointer (some ⟨w5.heap.size,0,none⟩)],.int .i64 (x.1:Int),undef,undef,undef,undef,undef,undef],defers:=[] }) ?assign ?body ?done ?stop
 case assign=>
  intro l2 x X Kk hK
  unfold encSh
  gi_wp2
  exact hK
 case body=>
  rintro l2 pre x X ⟨hi,⟨C,hC,h3⟩,hX⟩ h5
  have ha:=cks_fit hD k7 hG hC
  have ko:=ckTell_any w4.heap.size x.1 C X h3 ha x.2
  have hh:tells (cks D L G) (preL (pre ++ [x]))=tell C x.1:=by rw [preL_snoc,tells_snoc,hC];rfl
  have HI:=hide hi
  have HX:=hide hX
  clear hX h5 hC h3 ha
  have ce:=hi.err.cell
  have fe:=hi.err.frozen
  clear hi
  gi_wp2
  refine at_round ko ?_
  clear ko
  rintro e w2 (⟨kp,rfl,qb⟩ | ⟨C',kr,rfl,ks,kv⟩)
  · subst qb
    have qc:=hide (hh.trans kp)
    clear hh kp
    have h0:Boxed (w2.setRow (w.heap.size+1) (ckA ckZ)) (w.heap.size+1+1) 29 .nilIface:=((grown_setRow _ _ _).block _ HI.out.err.lt (fun e=>by have:=Option.some.inj e;omega)).trans HI.out.err
    have ce2:=h0.cell
    have fe2:=h0.frozen
    have qd:=hide h0
    clear h0
    gi_wp2_with (refine in_store rfl (.tmp 4) (.tmp 29) rfl (w.heap.size+1) ckZ ckZ rfl rfl HI.out.res ?_)
    have hi:=HI.out
    have k5:Below w.heap.size w (w2.setRow (w.heap.size+1) (ckA ckZ)):=hi.below.grown (grown_setRow _ _ _) hi.below.size (fun q e=>by cases e;omega)
    refine ⟨?_,rfl,qc.out,?_,?_,?_,?_⟩
    · exact ((keeps_ckRow HI.out.res _).trans (KeepsOthers.setCell _ _ _)).from _
    · exact k5.setCell (p:=⟨w.heap.size+1+1,0,none⟩) (by show w.heap.size≤w.heap.size+1+1;omega) _
    · have:=HX.out;simpa [World.setCell,World.setRow] using this
    · exact (hi.res.setRow ckZ).keep (Below.heap_setCell _ _ _ _ (by show w.heap.size+1≠w.heap.size+1+1;omega))
    · exact qd.out.set _
  · have H2:=hide3 (hh.trans kr) ks kv
    clear hh kr ks kv
    gi_wp2
    obtain ⟨q1,q2,q3⟩:=H2.out
    have hc:=HI.out.own (B:=w.heap.size+3) (Nat.le_refl _) q3 (fun r e=>by cases e;obtain ⟨q1,q2,q3,q4⟩:=hx.out;omega)
    exact ⟨⟨q3.size,fun k o hk ho _=>(q3.block k (Array.getElem?_eq_some_iff.1 ho).1 (fun e=>by cases e;omega)).trans ho⟩,fun _=>hT.mono (by omega) hc.below,hc,⟨C',q1,q2⟩,Nat.le_trans HX.out q3.size⟩
 case done=>
  rintro D' xs X qe kx ⟨hi,⟨C,hC,h3⟩,hX⟩ hK
  rw [show preL xs=mems S from kx] at hC
  have qi:D' < X.heap.size:=(Array.getElem?_eq_some_iff.1 hK).1
  have h0:Boxed (X.setRow (w.heap.size+1) (ckA C)) (w.heap.size+1+1) 29 .nilIface:=((grown_setRow _ _ _).block _ hi.err.lt (fun e=>by have:=Option.some.inj e;omega)).trans hi.err
  have ce2:=h0.cell
  have fe2:=h0.frozen
  have HI:=hide6 hi h3 hX hK hC h0
  clear hi h3 hX hK hC kx xs h9 hy h0
  gi_wp2_with (first
   | refine in_load rfl (.tmp 8) rfl w4.heap.size C rfl HI.out.2.1 ?_
   | refine in_store rfl (.tmp 4) (.tmp 31) rfl (w.heap.size+1) C ckZ rfl rfl HI.out.1.res ?_)
  obtain ⟨hi,h3,hX,hK,hC,h0⟩:=HI.out
  have k5:Below w.heap.size w (X.setRow (w.heap.size+1) (ckA C)):=hi.below.grown (grown_setRow _ _ _) hi.below.size (fun q e=>by cases e;omega)
  have qf:=k5.setCell (p:=⟨w.heap.size+1+1,0,none⟩) (by show w.heap.size≤w.heap.size+1+1;omega) .nilIface
  have qg:=(keeps_ckRow hi.res (ckA C)).trans (KeepsOthers.setCell _ ⟨w.heap.size+1+1,0,none⟩ .nilIface)
  have ky:=qg.same D' _ hK rfl
  exact cf_end (w:=w) rfl rfl rfl ((hi.res.setRow C).keep (Below.heap_setCell _ _ _ _ (by show w.heap.size+1≠w.heap.size+1+1;omega))) (h0.set _) ky (by omega)
   ⟨Below.putObj' qf (by omega) (Array.getElem?_eq_some_iff.1 ky).1 _,.inr ⟨C,hC,rfl⟩⟩
 case stop=>
  rintro D' cc pre X qe k6 ⟨rfl,kz,hb,hX,he,hf⟩ hK
  have hg:tells (cks D L G) (mems S)=none:=by
   obtain ⟨R,hR⟩:=k6
   rw [← hR]
   exact tells_none_append _ _ _ kz
  have HH:=hide5 hb he hf hK hg
  clear hb he hf hK hg kz
  gi_wp2
  obtain ⟨q1,q2,q3,q4,q5⟩:=HH.out
  exact cf_end (w:=w) rfl rfl rfl q2 q3 q4 (by omega) ⟨Below.putObj' q1 (by omega) (Array.getElem?_eq_some_iff.1 q4).1 _,.inl ⟨q5,rfl⟩⟩
end
section
attribute [local go_sem] Oper.semAt_some
structure WI (w:World) (C:Ck) (regs:Int) (L:List St) (X:World):Prop where
 ck:CkAt X w.heap.size C
 res:X.heap[w.heap.size+1]?=some (.cells #[.int .i64 0,.slice none 0 0] 155 (0,0))
 pb:PB X (w.heap.size+3) (w.heap.size+1+1) regs L
 below:Below w.heap.size w X
theorem WI.own {L:List St} (h:WI w C regs L X) (hB:w.heap.size+3≤B) (hg:X.grownBy Y row) (hr:∀ r,row=some r→B≤r∧∃ o:Obj,X.heap[r]?=some o∧o.isCells=false):WI w C regs L Y:=by
 have hn:=h.pb.2.1
 have hk:∀ k,k < w.heap.size+3→Y.heap[k]?=X.heap[k]?:=fun k hk=>hg.block k (by omega) (fun e=>by have:=(hr k e.symm).1;omega)
 exact ⟨h.ck.keep (hk _ (by omega)),(hk _ (by omega)).trans h.res,h.pb.own hB hg hr,h.below.grown hg h.below.size (fun k e=>by have:=(hr k e).1;omega)⟩
theorem WI.next {L:List St} {s:St} (h:WI w C regs L X) (h1:X.heap[w.heap.size+1+1]?=some (.cells #[.int .i64 regs,v] 155 (0,0))) (h2:X.ownsRow (w.heap.size+3) 238 4 v L.length (stcs .u8 L))
 (hg:(X.alloc ob).grownBy w2 v.ownBlock) (h3:w.heap.size+3≤g') (h0:w2.ownsRow (w.heap.size+3) 238 4 (.slice (some ⟨g',0,none⟩) (L.length+1) cap') (L.length+1) (stcs .u8 (L ++ [s]))) :
 w2.cell? ⟨w.heap.size+1+1,1,none⟩=some v∧w2.frozen? ⟨w.heap.size+1+1,1,none⟩=false∧(WI w C regs (L ++ [s]) (w2.setCell ⟨w.heap.size+1+1,1,none⟩ (.slice (some ⟨g',0,none⟩) (L.length+1) cap'))∧KeepsOthers X (w2.setCell ⟨w.heap.size+1+1,1,none⟩ (.slice (some ⟨g',0,none⟩) (L.length+1) cap'))):=by
 obtain ⟨p1,p2,p3,p4,p5,p6,p7,p8⟩:=PB.next (n0:=w.heap.size+3) (Bg:=w.heap.size+1+1) (by omega) h.pb.2.1 h1 h2 hg h3 h0
 refine ⟨p2,p3,⟨h.ck.keep (p4 _ (by omega) (by omega)),(p4 _ (by omega) (by omega)).trans h.res,p1,h.below.trans ⟨p6,p7,p8,?_,fun k hk=>p4 k (by omega) (by omega)⟩⟩,p5⟩
 exact p5.size
theorem WI.told {L:List St} (h:WI w C regs L X):X.cell? ⟨w.heap.size,128,none⟩=some (.int .i64 (C.told:Int)):=h.ck.toldC
theorem step_new (X:World) (s:St):∀ j v,(stc .u8 s)[j]?=some v→(X.alloc (.cells #[.int .u8 (s.k:Int),.int .i64 s.a,.int .i64 s.b,.int .u8 (s.c:Int)] 238)).cell? ((⟨X.heap.size,0,none⟩:Addr).add j)=some v:=
 four_new X X.heap.size rfl _ _ _ _ _
def wrS (C:Ck) (pre:List Sh):List St:=wrTo C (pre.map (·.1))
def wrM (C:Ck) (pre:List Sh) (i k:Nat):List St:=wrS C pre ++ [⟨0,0,(i:Int),0⟩] ++ wrAdd C i k
theorem wr_lens (C:Ck) (hf:CkFit C) (pre:List Sh) (s:Nat) (h:pre.length < (mems s).length) (i k:Nat) (hk:k≤C.told):(wrS C pre).length≤200∧(wrM C pre i k).length≤300:=by
 have h1:=wrTo_le C (pre.map (·.1))
 have h2:=wrAdd_le C i k
 have h3:(mems s).length≤16:=by rw [← shs_len s];exact shs_le s
 have h4:=hf.le
 have h5:=hf.most
 have h6:(pre.map (·.1)).length*(C.told+1)≤16*9:=Nat.mul_le_mul (by rw [List.length_map];omega) (by omega)
 have h7:(wrS C pre).length≤144:=Nat.le_trans h1 h6
 refine ⟨by omega,?_⟩
 unfold wrM
 simp only [List.length_append,List.length_singleton]
 omega
theorem wrM_zero (C:Ck) (pre:List Sh) (i:Nat):wrM C pre i 0=wrS C pre ++ [⟨0,0,(i:Int),0⟩]:=by unfold wrM;rw [wrAdd_zero,List.append_nil]
theorem wrM_in (pre:List Sh) {i k:Nat} (h:C.m k i≠0):wrM C pre i (k+1)=wrM C pre i k ++ [⟨1,1+(k:Int),0,C.m k i⟩]:=by unfold wrM;rw [wrAdd_in C i k h,← List.append_assoc]
theorem wrM_out (pre:List Sh) {i k:Nat} (h:C.m k i=0):wrM C pre i (k+1)=wrM C pre i k:=by unfold wrM;rw [wrAdd_out C i k h]
theorem wrS_yes {x:Sh} (h:readsB C x.1=true):wrM C pre x.1 C.told=wrS C (pre ++ [x]):=by
 unfold wrM wrS
 rw [List.map_append,List.map_singleton,wrTo_snoc,wrOne_yes h];simp
theorem wrS_no {x:Sh} (h:readsB C x.1=false):wrS C pre=wrS C (pre ++ [x]):=by
 unfold wrS
 rw [List.map_append,List.map_singleton,wrTo_snoc,wrOne_no h];simp
theorem step_new' (X:World) (n:Nat) (hn:n=X.heap.size) (s:St):∀ j v,(stc .u8 s)[j]?=some v→(X.alloc (.cells #[.int .u8 (s.k:Int),.int .i64 s.a,.int .i64 s.b,.int .u8 (s.c:Int)] 238)).cell? ((⟨n,0,none⟩:Addr).add j)=some v:=
 four_new X n hn _ _ _ _ _
theorem wrS_all {s:Nat} (h:pre.map (·.1)=mems s):wrS C pre=wrTo C (mems s):=by unfold wrS;rw [h]
def wrP (C:Ck) (kept:Nat) (pre:List Sh):List St:=wrTo C (mems kept) ++ wrPut (pre.map (·.1))
theorem wrP_nil (C:Ck) (kept:Nat):wrP C kept []=wrTo C (mems kept):=by unfold wrP wrPut;simp
theorem wrP_snoc (C:Ck) (kept:Nat) (pre:List Sh) (x:Sh):wrP C kept (pre ++ [x])=wrP C kept pre ++ [⟨2,(pre.length:Int)+1,(x.1:Int),0⟩]:=by
 unfold wrP
 rw [List.map_append,List.map_singleton,wrPut_snoc,List.length_map,← List.append_assoc]
theorem wrP_all {gone:Nat} (h:pre.map (·.1)=mems gone):wrP C kept pre=wrAll C gone kept:=by unfold wrP wrAll;rw [h]
theorem wrP_le (C:Ck) (hf:CkFit C) (kept:Nat) (pre:List Sh) (s:Nat) (h:pre.length < (mems s).length):(wrP C kept pre).length≤300:=by
 have h1:=wrTo_le C (mems kept)
 have h3:(mems s).length≤16:=by rw [← shs_len s];exact shs_le s
 have h0:(mems kept).length≤16:=by rw [← shs_len kept];exact shs_le kept
 have h4:=hf.le
 have h5:=hf.most
 have h6:(mems kept).length*(C.told+1)≤16*9:=Nat.mul_le_mul h0 (by omega)
 have h7:(wrTo C (mems kept)).length≤144:=Nat.le_trans h1 h6
 unfold wrP wrPut
 simp only [List.length_append,List.length_map,List.length_range]
 omega
theorem own_nb {n0 k:Nat} (h:X.ownsRow n0 238 4 v k xs) (hb:Boxed X R 3 u):v.ownBlock≠some R:=by
 rcases h.2 with ⟨rfl,_⟩ | ⟨g,cap,cur,rfl,_,h0,_⟩
 · intro e;cases e
 · intro e
   obtain rfl:g=R:=by simpa [Value.ownBlock] using e
   rw [show X.heap[g]?=_ from hb] at h0
   have:=Option.some.inj h0
   cases this
theorem WI.set {L:List St} {u':Value} (h:WI w C regs L X) (hR:w.heap.size+3≤R) (hb:Boxed X R 3 u):WI w C regs L (X.setCell ⟨R,0,none⟩ u'):=by
 have hk:∀ k,k≠R→(X.setCell ⟨R,0,none⟩ u').heap[k]?=X.heap[k]?:=fun k hk=>Below.heap_setCell _ _ _ _ hk
 obtain ⟨q1,q2,v,q3,q4⟩:=h.pb
 exact ⟨h.ck.keep (hk _ (by omega)),(hk _ (by omega)).trans h.res,⟨q1,by simpa [World.setCell] using q2,v,(hk _ (by omega)).trans q3,q4.kept (grown_set' X R 0 u') (.inr (own_nb q4 hb))⟩,h.below.setCell (p:=⟨R,0,none⟩) (by show w.heap.size≤R;omega) _⟩
structure WP (w:World) (C:Ck) (regs:Int) (kept R D:Nat) (pre:List Sh) (Y:World):Prop where
 wi:WI w C regs (wrP C kept pre) Y
 box:Boxed Y R 3 (.int .i64 (pre.length:Int))
 mark:Y.heap[D]?=some (.deferred (some []))
theorem WP.own (h:WP w C regs kept R D pre X) (hB:w.heap.size+3≤B) (hR:R < B) (hD:D < B) (hg:X.grownBy Y row) (hr:∀ r,row=some r→B≤r∧∃ o:Obj,X.heap[r]?=some o∧o.isCells=false):WP w C regs kept R D pre Y:=by
 have hk:∀ k,k < B→k < X.heap.size→Y.heap[k]?=X.heap[k]?:=fun k hk hx=>hg.block k hx (fun e=>by have:=(hr k e.symm).1;omega)
 exact ⟨h.wi.own hB hg hr,(hk R hR h.box.lt).trans h.box,(hk D hD (Array.getElem?_eq_some_iff.1 h.mark).1).trans h.mark⟩
theorem WP.next {x:Sh} (h:WP w C regs kept R D pre X) (hR:w.heap.size+3≤R)
 (h2:(X.setCell ⟨R,0,none⟩ (.int .i64 ((pre.length:Int)+1))).heap[w.heap.size+1+1]?=some (.cells #[.int .i64 regs,v] 155 (0,0))) (h0:(X.setCell ⟨R,0,none⟩ (.int .i64 ((pre.length:Int)+1))).ownsRow (w.heap.size+3) 238 4 v (wrP C kept pre).length (stcs .u8 (wrP C kept pre)))
 (hg:((X.setCell ⟨R,0,none⟩ (.int .i64 ((pre.length:Int)+1))).alloc ob).grownBy w2 v.ownBlock) (h4:w.heap.size+3≤g') (h1:w2.ownsRow (w.heap.size+3) 238 4 (.slice (some ⟨g',0,none⟩) ((wrP C kept pre).length+1) cap') ((wrP C kept pre).length+1) (stcs .u8 (wrP C kept pre ++ [⟨2,(pre.length:Int)+1,(x.1:Int),0⟩]))) :
 w2.cell? ⟨w.heap.size+1+1,1,none⟩=some v∧w2.frozen? ⟨w.heap.size+1+1,1,none⟩=false∧(WP w C regs kept R D (pre ++ [x]) (w2.setCell ⟨w.heap.size+1+1,1,none⟩ (.slice (some ⟨g',0,none⟩) ((wrP C kept pre).length+1) cap'))∧KeepsOthers X (w2.setCell ⟨w.heap.size+1+1,1,none⟩ (.slice (some ⟨g',0,none⟩) ((wrP C kept pre).length+1) cap'))):=by
 have hs:WI w C regs (wrP C kept pre) (X.setCell ⟨R,0,none⟩ (.int .i64 ((pre.length:Int)+1))):=h.wi.set hR h.box
 have hb:Boxed (X.setCell ⟨R,0,none⟩ (.int .i64 ((pre.length:Int)+1))) R 3 (.int .i64 ((pre.length:Int)+1)):=h.box.set _
 obtain ⟨p1,p2,p3,p4⟩:=hs.next h2 h0 hg h4 h1
 have h3:=(KeepsOthers.setCell X ⟨R,0,none⟩ (.int .i64 ((pre.length:Int)+1))).trans p4
 refine ⟨p1,p2,⟨by rw [wrP_snoc];exact p3,?_,h3.same D _ h.mark rfl⟩,h3⟩
 have b2:Boxed w2 R 3 (.int .i64 ((pre.length:Int)+1)):=(hb.alloc ob).kept hg (fun e=>own_nb h0 hb e.symm)
 have b3:=(Below.heap_setCell w2 ⟨w.heap.size+1+1,1,none⟩ (.slice (some ⟨g',0,none⟩) ((wrP C kept pre).length+1) cap') R (by show R≠w.heap.size+1+1;omega)).trans b2
 rw [List.length_append]
 exact b3
theorem set2a {x':Value} (h:Y.heap[b]?=some (.cells #[x,y] t (0,0))):(Y.setCell ⟨b,0,none⟩ x').heap[b]?=some (.cells #[x',y] t (0,0)):=by
 obtain ⟨h0,hk⟩:=Array.getElem?_eq_some_iff.1 h
 show (Y.heap.modify b _)[b]?=_
 rw [Array.getElem?_eq_getElem (by rw [Array.size_modify];exact h0),Array.getElem_modify_self,hk]
 rfl
theorem set2b {y':Value} (h:Y.heap[b]?=some (.cells #[x,y] t (0,0))):(Y.setCell ⟨b,1,none⟩ y').heap[b]?=some (.cells #[x,y'] t (0,0)):=by
 obtain ⟨h0,hk⟩:=Array.getElem?_eq_some_iff.1 h
 show (Y.heap.modify b _)[b]?=_
 rw [Array.getElem?_eq_getElem (by rw [Array.size_modify];exact h0),Array.getElem_modify_self,hk]
 rfl
theorem owns_mono {base base':Nat} {e:TypeId} {size:Nat} (h:w.ownsRow base e size v n xs) (hb:base'≤base):w.ownsRow base' e size v n xs:=by
 refine ⟨h.1,?_⟩
 rcases h.2 with h2 | ⟨g,cap,cur,h1,h3,h4⟩
 · exact .inl h2
 · exact .inr ⟨g,cap,cur,h1,Nat.le_trans hb h3,h4⟩
theorem prog_info:(Tryz.prog.info? 155).map (·.size)=some 2:=by kernel_rfl
theorem write_any (C:Ck) (gone kept:Nat) (w:World) (hf:CkFit C) (hg:gone < 65536) (hk:kept < 65536) (hT:tabLaid w) (h2:3≤w.heap.size) :
 Calls Tryz.prog 146 #[.agg (ckA C),.int .u64 gone,.int .u64 kept] w fun e w'=>∃ v,e=.returned (.agg #[.int .i64 (1+((mems gone).length:Int)),v])∧Below w.heap.size w w'∧w'.ownsRow w.heap.size 238 4 v (wrAll C gone kept).length (stcs .u8 (wrAll C gone kept)):=by
 have qi:=ckA_size C
 have q8:(mems gone).length≤16:=by rw [← shs_len gone];exact shs_le gone
 obtain ⟨n,HN⟩:∃ n:Nat,Hid (9≤n):=⟨9,Nat.le_refl _⟩
 refine (callsIn_wide (n:=n)).1 ?_
 refine callsIn_of_wp_marks Tryz.func146 rfl trivial ?_ rfl
 simp only [Tryz.ntmps146,List.size_toArray,List.length_cons,List.length_nil,Nat.reduceAdd,Nat.reduceSub,Array.replicate_succ,Array.replicate_zero,List.push_toArray,List.append_toArray,List.nil_append,List.cons_append]
 have ko:(((w.alloc (.cells (ckA C) 273)).alloc (.cells #[.int .i64 0,.slice none 0 0] 155)).alloc (.cells #[.int .i64 (1+((mems gone).length:Int)),.slice none 0 0] 155)).heap.size=w.heap.size+3:=by simp
 have kp:WI w C (1+((mems gone).length:Int)) [] (((w.alloc (.cells (ckA C) 273)).alloc (.cells #[.int .i64 0,.slice none 0 0] 155)).alloc (.cells #[.int .i64 (1+((mems gone).length:Int)),.slice none 0 0] 155)):=by
  obtain ⟨a1,a2,a3,a4⟩:=alloc3 w (.cells (ckA C) 273) (.cells #[.int .i64 0,.slice none 0 0] 155) (.cells #[.int .i64 (1+((mems gone).length:Int)),.slice none 0 0] 155)
  refine ⟨(CkAt.new w C).keep (by rw [Below.heap_alloc _ _ _ (by simp;omega),Below.heap_alloc _ _ _ (by simp)]),a3,⟨by omega,by omega,_,a4,World.ownsRow_nil _ _ _ _⟩,(((Below.refl _ w).alloc (Nat.le_refl _) _).alloc (by simp) _).alloc (by simp;omega) _⟩
 have HZ:=hide ko
 have HI:=hide kp
 clear ko kp
 gi_wp2
 refine at_wide (size_any gone hg _) ?_
 rintro e w' ⟨rfl,h7⟩
 gi_wp2
 obtain ⟨w3,kb⟩:∃ w3,(((w.alloc (.cells (ckA C) 273)).alloc (.cells #[.int .i64 0,.slice none 0 0] 155)).alloc (.cells #[.int .i64 (1+((mems gone).length:Int)),.slice none 0 0] 155))=w3:=⟨_,rfl⟩
 rw [kb] at HZ HI
 rw [kb]
 clear kb h7 w'
 refine at_wide (members_any kept w3) ?_
 rintro e w' ⟨rfl,rfl⟩
 have kr:(w3.alloc (.cells #[.int .u64 (kept:Int)] 101)).heap.size=w3.heap.size+1:=by simp
 have ks:(w3.alloc (.cells #[.int .u64 (kept:Int)] 101)).cell? ⟨w3.heap.size,0,none⟩=some (.int .u64 (kept:Int)):=(Bx.new w3 101 (.int .u64 (kept:Int))).cell
 have q9:Below w3.heap.size w3 (w3.alloc (.cells #[.int .u64 (kept:Int)] 101)):=(Below.refl _ _).alloc (Nat.le_refl _) _
 have kv:WI w C (1+((mems gone).length:Int)) [] (w3.alloc (.cells #[.int .u64 (kept:Int)] 101)):=HI.out.own (B:=w3.heap.size) (row:=none) (by have:=HZ.out;omega) (World.grownBy_alloc _ _ _) (fun r e=>by cases e)
 obtain ⟨w4,kx⟩:∃ w4,w3.alloc (.cells #[.int .u64 (kept:Int)] 101)=w4:=⟨_,rfl⟩
 have hx:=hide kr
 have kc:=hide ks
 have k7:=hide kv
 clear kr ks q9 kv HI
 gi_wp2
 rw [kx] at hx kc k7
 clear kx
 refine wpIn_rangeFunc_ownG rfl (by have:=HN.out;omega) (gf:=83) (lb:=#[.pointer (some ⟨w3.heap.size,0,none⟩)]) rfl trivial (enters_of Tryz.func83 (by kernel_rfl) rfl)
  (members_stops (n - 1) w3.heap.size kept hk w4 (by have:=hx.out;omega) kc.out (by have:=hx.out;have:=HZ.out;omega) (hT.mono (by omega) k7.out.below)) (fun h k=>kpT_t h k) (kpT_b (by have:=hx.out;have:=HZ.out;omega)) (Below.refl _ _) (fun _=>rfl)
  (fun pre X=>WI w C (1+((mems gone).length:Int)) (wrS C pre) X∧w4.heap.size≤X.heap.size) (fun _ _ _=>False)
  (fun pre X Y row hh hy hr=>⟨hh.1.own (by have:=hx.out;have:=HZ.out;omega) hy hr,Nat.le_trans hh.2 hy.size⟩) (fun c pre X Y row hh _ _=>hh.elim) ⟨k7.out,Nat.le_refl _⟩
  (fun x=>{ tmps:=#[.agg (ckA C),.int .u64 (gone:Int),.int .u64 (kept:Int),.pointer (some ⟨w.heap.size,0,none⟩),undef,undef,.pointer (some ⟨w.heap.size+1,0,none⟩),.pointer (some ⟨w.heap.size+1+1,0,none⟩),.int .i64 (x.1:Int),undef,undef,undef,undef,.int .u64 (gone:Int),.int .i64 ((mems gone).length:Int),.int .i64 (1+((mems gone).length:Int)),.agg #[.int .i64 (1+((mems gone).length:Int)),.slice none 0 0],.int .u64 (kept:Int),.func (.func 83) #[] #[.pointer (some ⟨w3.heap.size,0,none⟩)],.int .i64 (x.1:Int),undef,undef,undef,undef,undef,undef,undef,undef,undef,undef,undef,undef,undef,undef,undef,undef,undef,undef,undef,undef,undef,undef,undef,undef,undef,undef,undef,undef,undef,undef,undef,undef,undef,undef,undef,undef,undef,undef,undef,undef,undef,undef,undef,undef,undef,undef,undef],defers:=[] }) ?assign ?body ?done ?stop
 case assign=>
  intro l2 x X Kk hK
  unfold encSh
  gi_wp2
  exact hK
 case body=>
  rintro l2 pre x X ⟨hi,hX⟩ h5
  have ky:=reads_any w.heap.size x.1 C X hi.ck hf x.2
  obtain ⟨_,_,v,h3,h1⟩:=hi.pb
  have hc:w.heap.size+3≤X.heap.size:=hi.pb.2.1
  obtain ⟨c0,c1,f1,_⟩:=obj_cells h3
  have kd:=x.2
  have hL:=fun k hk=>wr_lens C hf pre kept h5 x.1 k hk
  have HH:=hide hi
  have HO:=hide h3
  have HW:=hide h1
  have HL:=hide hL
  have HX:=hide hX
  have hz:=hide hc
  clear hi h3 h1 hL hX h5 hc
  gi_wp2
  refine at_round ky ?_
  clear ky
  rintro e w' ⟨rfl,h7⟩
  subst h7
  cases k8:readsB C x.1 with
  | false=>
   have HE:=hide (wrS_no (pre:=pre) k8)
   clear k8
   gi_wp2
   refine ⟨KeepsFrom.refl _ _,KpT.refl _,?_,HX.out⟩
   rw [← HE.out]
   exact HH.out
  | true=>
   have HE:=hide (wrS_yes (pre:=pre) k8)
   clear k8
   gi_wp2_with (
    refine in_push rfl (.tmp 24) (.tmp 27) rfl (w.heap.size+3) w'.heap.size (wrS C pre) ⟨0,0,(x.1:Int),0⟩ v rfl rfl (HW.out.alloc _) (step_new w' ⟨0,0,(x.1:Int),0⟩) (by have:=hz.out;simp;omega) (by have:=(HL.out 0 (Nat.zero_le _)).1;omega) ?_;
    rintro g' cap' w2 k0 h4 he;
    obtain ⟨c1,f1,h8⟩:=HH.out.next HO.out HW.out he k0 h4;
    have ct:=h8.1.told;
    have h6:=hide h8;
    clear h8 he h4)
   rw [← wrM_zero] at h6
   gi_loopw [32] (fun p wr=>∃ k:Nat,p=.int .i64 (k:Int)∧k≤C.told∧WI w C (1+((mems gone).length:Int)) (wrM C pre x.1 k) wr∧KeepsOthers w' wr) (fun p _=>C.told - (intOf p).toNat)
   case atStart=>exact ⟨0,rfl,Nat.zero_le _,h6.out.1,h6.out.2⟩
   case round=>
    obtain ⟨k,rfl,qa,hi,h9⟩:=hrel
    have qj:=hf.le
    have qk:=hf.most
    by_cases qm:k < C.told
    · have cm:=hi.ck.at k x.1 (by omega) kd
      have hb:=hf.byt k x.1
      have ke:(k:Int) < C.told:=by omega
      have qn:(k:Int) < 8:=by omega
      have qo:(x.1:Int) < 16:=by omega
      by_cases h0:C.m k x.1=0
      · rw [h0] at cm
        have HI:=hide hi
        have HK:=hide h9
        clear hi h9
        gi_wp2
        go_roundw
        case rel=>exact ⟨k+1,by go_num,by omega,by rw [wrM_out pre h0];exact HI.out,HK.out⟩
        case measure=>simp [intOf];omega
      · have qp:((C.m k x.1:Nat):Int)≠0:=by omega
        obtain ⟨_,_,v,h3,h1⟩:=hi.pb
        have hc:w.heap.size+3≤wr.heap.size:=hi.pb.2.1
        obtain ⟨c0,c1,f1,_⟩:=obj_cells h3
        have qq:=(HL.out k qa).2
        have HI:=hide hi
        have HK:=hide h9
        have HO:=hide h3
        have HW:=hide h1
        have hz:=hide hc
        clear hi h9 h3 h1 hc
        gi_wp2_with (
         refine in_push rfl (.tmp 44) (.tmp 49) rfl (w.heap.size+3) wr.heap.size (wrM C pre x.1 k) ⟨1,1+(k:Int),0,C.m k x.1⟩ v rfl rfl (HW.out.alloc _) (step_new wr ⟨1,1+(k:Int),0,C.m k x.1⟩) (by have:=hz.out;simp;omega) (by omega) ?_;
         rintro g' cap' w2 k0 h4 he;
         obtain ⟨c1,f1,h8⟩:=HI.out.next HO.out HW.out he k0 h4;
         have h6:=hide h8;
         clear h8 he h4)
        go_roundw
        case rel=>exact ⟨k+1,by go_num,by omega,by rw [wrM_in pre h0];exact h6.out.1,HK.out.trans h6.out.2⟩
        case measure=>simp [intOf];omega
    · have ke:¬ (k:Int) < C.told:=by omega
      obtain rfl:k=C.told:=by omega
      have HI:=hide hi
      have HK:=hide h9
      clear hi h9
      gi_wp2
      refine ⟨HK.out.from _,fun _=>hT.mono (by omega) HI.out.below,?_,Nat.le_trans HX.out HK.out.size⟩
      rw [← HE.out]
      exact HI.out
 case done=>
  rintro D xs X hD kz ⟨hi,hX⟩ hK
  rw [wrS_all kz] at hi
  have qs:w.heap.size+3≤D:=by have:=hx.out;have:=HZ.out;omega
  have qb:D < X.heap.size:=(Array.getElem?_eq_some_iff.1 hK).1
  clear kz xs kc k7 hX
  have HI:=hide hi
  have HK:=hide hK
  clear hi hK
  gi_wp2
  refine at_wide (members_any gone _) ?_
  rintro e w' ⟨rfl,h7⟩
  have q0:w'.heap.size=X.heap.size+1+1:=by rw [h7];simp
  have q1:w'.cell? ⟨X.heap.size+1,0,none⟩=some (.int .u64 (gone:Int)):=by
   have:=(Bx.new (X.alloc (.cells #[.int .i64 0] 3)) 101 (.int .u64 (gone:Int))).cell
   rw [World.size_alloc] at this
   rw [h7]
   exact this
  have kf:X.grownBy w' none:=by rw [h7];exact grown_alloc (World.grownBy_alloc X _ none) _
  have q2:WP w C (1+((mems gone).length:Int)) kept X.heap.size D [] w':=by
   refine ⟨by rw [wrP_nil];exact HI.out.own (B:=w.heap.size+3) (Nat.le_refl _) kf (fun r e=>by cases e),?_,(kf.block D qb (fun e=>by cases e)).trans HK.out⟩
   rw [h7]
   exact (Boxed.new X 3 (.int .i64 0)).alloc _
  have ha:=hide q0
  have qc:=hide q1
  have q3:=hide q2
  clear q0 q1 q2 kf h7 HI HK
  gi_wp2
  refine wpIn_rangeFunc_ownG rfl (by have:=HN.out;omega) (gf:=83) (lb:=#[.pointer (some ⟨X.heap.size+1,0,none⟩)]) rfl trivial (enters_of Tryz.func83 (by kernel_rfl) rfl)
   (members_stops (n - 1) (X.heap.size+1) gone hg w' (by have:=ha.out;omega) qc.out (by have:=ha.out;omega) (hT.mono (by omega) q3.out.wi.below)) (fun h k=>kpT_t h k) (kpT_b (by have:=ha.out;omega)) (Below.refl _ _) (fun _=>rfl)
   (fun pre Y=>WP w C (1+((mems gone).length:Int)) kept X.heap.size D pre Y∧w'.heap.size≤Y.heap.size) (fun _ _ _=>False)
   (fun pre A Y row hh hy hr=>⟨hh.1.own (B:=w'.heap.size) (by have:=ha.out;omega) (by have:=ha.out;omega) (by have:=ha.out;omega) hy hr,Nat.le_trans hh.2 hy.size⟩) (fun c pre X Y row hh _ _=>hh.elim) ⟨q3.out,Nat.le_refl _⟩
   (fun x=>{ tmps:=#[.agg (ckA C),.int .u64 (gone:Int),.int .u64 (kept:Int),.pointer (some ⟨w.heap.size,0,none⟩),undef,undef,.pointer (some ⟨w.heap.size+1,0,none⟩),.pointer (some ⟨w.heap.size+1+1,0,none⟩),undef,undef,undef,.pointer (some ⟨X.heap.size,0,none⟩),.int .i64 (x.1:Int),.int .u64 (gone:Int),.int .i64 ((mems gone).length:Int),.int .i64 (1+((mems gone).length:Int)),.agg #[.int .i64 (1+((mems gone).length:Int)),.slice none 0 0],.int .u64 (kept:Int),.func (.func 83) #[] #[.pointer (some ⟨w3.heap.size,0,none⟩)],undef,undef,undef,undef,undef,undef,undef,undef,undef,undef,undef,undef,undef,undef,undef,undef,undef,undef,undef,undef,undef,undef,undef,undef,undef,undef,undef,undef,undef,undef,undef,undef,undef,undef,.int .u64 (gone:Int),.func (.func 83) #[] #[.pointer (some ⟨X.heap.size+1,0,none⟩)],.int .i64 (x.1:Int),undef,undef,undef,undef,undef,undef,undef,undef,undef,undef,undef],defers:=[] }) ?assign2 ?body2 ?done2 ?stop2
  case assign2=>
   intro l2 x Y Kk hK
   unfold encSh
   gi_wp2
   exact hK
  case body2=>
   rintro l2 pre x Y ⟨hp,hY⟩ h5
   have qv:=wrP_le C hf kept pre gone h5
   have qd:pre.length < 16:=by omega
   have kg:w.heap.size+3≤X.heap.size:=by omega
   have hs:=hp.wi.set (u':=.int .i64 ((pre.length:Int)+1)) kg hp.box
   obtain ⟨_,_,v,h3,h1⟩:=hs.pb
   have hc:w.heap.size+3≤(Y.setCell ⟨X.heap.size,0,none⟩ (.int .i64 ((pre.length:Int)+1))).heap.size:=hs.pb.2.1
   obtain ⟨c0,c1,f1,_⟩:=obj_cells h3
   have cb:=hp.box.cell
   have fb:=hp.box.frozen
   have cb2:=(hp.box.set (.int .i64 ((pre.length:Int)+1))).cell
   have HP:=hide hp
   have HO:=hide h3
   have HW:=hide h1
   have hz:=hide hc
   have HY:=hide hY
   have qe:=hide kg
   clear hp h3 h1 hc hY hs h5 kg
   gi_wp2_with (
    refine in_push rfl (.tmp 59) (.tmp 63) rfl (w.heap.size+3) Y.heap.size (wrP C kept pre) ⟨2,(pre.length:Int)+1,(x.1:Int),0⟩ v rfl rfl (HW.out.alloc _) (step_new' _ Y.heap.size (by simp) ⟨2,(pre.length:Int)+1,(x.1:Int),0⟩) (by have:=hz.out;simp at this ⊢;omega) (by omega) ?_;
    rintro g' cap' w2 k0 h4 he;
    obtain ⟨c1,f1,h8⟩:=HP.out.next qe.out HO.out HW.out he k0 h4;
    have h6:=hide h8;
    clear h8 he h4)
   refine ⟨h6.out.2.from _,fun _=>hT.mono (by omega) h6.out.1.wi.below,h6.out.1,Nat.le_trans HY.out h6.out.2.size⟩
  case done2=>
   rintro D2 ys Y qx qf ⟨hp,hY⟩ k9
   have hj:=hp.wi
   rw [wrP_all qf] at hj
   have hm:=hp.mark
   obtain ⟨_,_,v,h3,h1⟩:=hj.pb
   obtain ⟨c0,c1,f1,f0⟩:=obj_cells h3
   obtain ⟨r0,r1,g1,g0⟩:=obj_cells hj.res
   obtain ⟨ao,m,cc,rfl⟩:∃ ao m cc,v=.slice ao m cc:=by
    rcases h1.2 with ⟨rfl,_⟩ | ⟨g,cap,cur,rfl,_⟩
    · exact ⟨_,_,_,rfl⟩
    · exact ⟨_,_,_,rfl⟩
   have HW:=hide4 hj hm h1 k9
   clear hj hm h1 k9 hp hY h3
   gi_wp2
   obtain ⟨hj,hm,h1,k9⟩:=HW.out
   have k5:((Y.setCell ⟨w.heap.size+1,0,none⟩ (.int .i64 (1+((mems gone).length:Int)))).setCell ⟨w.heap.size+1,1,none⟩ (.slice ao m cc)).heap[w.heap.size+1]?=some (.cells #[.int .i64 (1+((mems gone).length:Int)),.slice ao m cc] 155 (0,0)):=
    set2b (set2a hj.res)
   have h9:=(KeepsOthers.setCell Y ⟨w.heap.size+1,0,none⟩ (.int .i64 (1+((mems gone).length:Int)))).trans (KeepsOthers.setCell _ ⟨w.heap.size+1,1,none⟩ (.slice ao m cc))
   have q4:Below w.heap.size w ((Y.setCell ⟨w.heap.size+1,0,none⟩ (.int .i64 (1+((mems gone).length:Int)))).setCell ⟨w.heap.size+1,1,none⟩ (.slice ao m cc)):=(hj.below.setCell (p:=⟨w.heap.size+1,0,none⟩) (Nat.le_succ _) _).setCell (p:=⟨w.heap.size+1,1,none⟩) (Nat.le_succ _) _
   have hn:((Y.setCell ⟨w.heap.size+1,0,none⟩ (.int .i64 (1+((mems gone).length:Int)))).setCell ⟨w.heap.size+1,1,none⟩ (.slice ao m cc)).ownsRow (w.heap.size+3) 238 4 (.slice ao m cc) (wrAll C gone kept).length (stcs .u8 (wrAll C gone kept)):=
    (h1.kept (grown_set' Y (w.heap.size+1) 0 _) (.inr fun e=>by have:=own_from h1 e;omega)).kept (grown_set' _ (w.heap.size+1) 1 _) (.inr fun e=>by have:=own_from h1 e;omega)
   have ka:=h9.same D2 _ k9 rfl
   have kh:=h9.same D _ hm rfl
   have ki:D≠D2:=by have:=ha.out;omega
   have q5:=(Array.getElem?_eq_some_iff.1 ka).1
   have qg:=(Array.getElem?_eq_some_iff.1 kh).1
   have kj:D2≠w.heap.size+1:=by have:=ha.out;omega
   generalize ((Y.setCell ⟨w.heap.size+1,0,none⟩ (.int .i64 (1+((mems gone).length:Int)))).setCell ⟨w.heap.size+1,1,none⟩ (.slice ao m cc))=Z at k5 q4 hn ka kh q5 qg ⊢
   have hq:(Z.putObj D2 (.deferred none)).heap[D]?=some (.deferred (some [])):=(World.putObj_heap_other ki).trans kh
   refine ⟨by simp,.inl ⟨_,_,rfl,run_takeDeferred ka,by simp,.inl ⟨_,_,rfl,run_takeDeferred hq,?_⟩⟩⟩
   have qh:((Z.putObj D2 (.deferred none)).putObj D (.deferred none)).heap[w.heap.size+1]?=some (.cells #[.int .i64 (1+((mems gone).length:Int)),.slice ao m cc] 155 (0,0)):=((World.putObj_heap_other (by omega)).trans (World.putObj_heap_other (Ne.symm kj))).trans k5
   have kk:=grownBy_putObj' Z D2 (.deferred none)
   have km:=grownBy_putObj' (Z.putObj D2 (.deferred none)) D (.deferred none)
   have q6:∀ (U:World) (d:Nat),U.heap[d]?=some (.deferred (some []))→U.ownsRow (w.heap.size+3) 238 4 (.slice ao m cc) (wrAll C gone kept).length (stcs .u8 (wrAll C gone kept))→(Value.slice ao m cc).ownBlock≠some d:=by
    intro U d hd hU e
    rcases hU.2 with ⟨e1,_⟩ | ⟨g,cap,cur,e1,_,q7,_⟩
    · cases e1;cases e
    · cases e1
      obtain rfl:g=d:=by simpa [Value.ownBlock] using e
      rw [hd] at q7;cases q7
   have k6:=hn.kept kk (.inr (q6 _ _ ka hn))
   have kn:=k6.kept km (.inr (q6 _ _ hq k6))
   exact ⟨_,results_cell_row Tryz.results146 _ _ (w.heap.size+1) 155 #[.int .i64 (1+((mems gone).length:Int)),.slice ao m cc] (0,0) _ rfl qh Tryz.underlying155 rfl prog_info,_,rfl,Below.putObj' (Below.putObj' q4 (by have:=ha.out;omega) q5 _) (by omega) (Array.getElem?_eq_some_iff.1 hq).1 _,owns_mono kn (by omega)⟩
  case stop2=>
   rintro D c pre X _ _ hf
   exact hf.elim
 case stop=>
  rintro D c pre X _ _ hf
  exact hf.elim
end
end Go.Proofs.YthcgahldacpolaaGreatDoor
