import Derived.Test.YthcgahldacpolaaGreatDoorM22
set_option maxRecDepth 100000
set_option maxHeartbeats 8000000
namespace Go.Proofs.YthcgahldacpolaaGreatDoor
open Go.RowKit Go.Shelf Go.Deep Gf
variable {A:Arr} {off:Bool} {F:Foot} {B D' t ar v p D L G ps ho L' G' f nn b0 q count:Nat} {pg ob:Value} {w W:World}
section
attribute [local go_sem] Oper.semAt_some
def tkStep (nb:Nat) (s:(Nat→Bool)×Bool) (x:Nat):(Nat→Bool)×Bool:=if x < 2∨nb≤x∨s.1 x=true then (s.1,false) else (fun j=>if j=x then true else s.1 j,s.2)
def tk (nb:Nat) (l:List Nat):(Nat→Bool)×Bool:=l.foldl (tkStep nb) (fun _=>false,true)
theorem tk_snoc (nb:Nat) (l:List Nat) (x:Nat):tk nb (l ++ [x])=tkStep nb (tk nb l) x:=by simp [tk]
theorem Tryz.infoBoolT:(Tryz.prog.info? 4).map (fun i=>(i.zero,i.size,i.bytes))=some (some (.bool false),1,1):=by kernel_rfl
theorem wpListIn_mkBools (w:World) {F:Fence} {m:Nat} {ops:Array Oper} {rest:List Oper} {o:Oper} {a:Act} {Q:Exit→Act→World→Prop}
 (hg:o.guard=none) (l c:Operand) (h0:o.op=Op.makeSlice 66 l c) (C:Int) (n:Nat) (hl:a.eval l=.int .i64 C) (hc:a.eval c=.int .i64 C) (hC:C=(n:Int)) (hn:n≤1000000000)
 (hK:∀ w',w'.rowIs w.heap.size 4 n (fun _=>.bool false)→Below w.heap.size w w'→w'.heap.size=w.heap.size+1→wpListIn F m Tryz.prog ops Q rest (a.put o.dst (.slice (some ⟨w.heap.size,0,none⟩) n n)) w') :
 wpListIn F m Tryz.prog ops Q (o :: rest) a w:=by
 refine wpListIn_plain hg fun K h2=>?_
 have h1:=run_make_row' (P:=Tryz.prog) 66 4 (.bool false) 1 Tryz.underlying66 Tryz.infoBoolT rfl .i64 .i64 n (by omega) (by omega) w
 subst hC
 unfold Oper.wpIn
 refine ⟨by simp [Oper.about,h0],?_⟩
 rw [Oper.semAt_plain F _ _ (by rw [h0];intro c h;cases h)]
 simp [execOp,h0,hl,hc,h1,Result.andThen]
 exact h2 _ _ (hK _ (World.rowIs_made w _ n _) ((Below.refl _ _).alloc (Nat.le_refl _) _) (nblk_alloc _ _))
structure TkI (w:World) (g nb B:Nat) (pre:List Nat) (X:World):Prop where
 row:X.rowIs g 4 nb (fun j=>.bool ((tk nb pre).1 j))
 box:Boxed X (g+1) 66 (.slice (some ⟨g,0,none⟩) nb nb)
 ok:Boxed X (g+1+1) 4 (.bool (tk nb pre).2)
 below:Below w.heap.size w X
 size:B≤X.heap.size
theorem TkI.own {g nb:Nat} (hB:g+3≤B) (hw:w.heap.size≤B):OwnFrom B (TkI w g nb B):=by
 rintro pre X Y row ⟨h1,h2,h3,h4,h5⟩ hg hr
 have hk:∀ k,k < B→Y.heap[k]?=X.heap[k]?:=fun k hk=>hg.block k (by omega) (fun e=>by have:=(hr k e.symm).1;omega)
 exact ⟨h1.of_block (hk _ (by omega)),(hk _ (by omega)).trans h2,(hk _ (by omega)).trans h3,h4.grown hg h4.size (fun k e=>by have:=(hr k e).1;omega),Nat.le_trans h5 hg.size⟩
theorem end_tmp2 {n:Nat} {fn:Func} {Z:World} {u:Nat} {x y:Value} {a:Act} {R:Ending→World→Prop} (hr:fn.results=#[.tmp t,.tmp u]) (hd:a.defers=[{ target:=.collected D',args:=#[] }]) (hx:a.tmps.getD t undef=x) (hy:a.tmps.getD u undef=y)
 (hK:Z.heap[D']?=some (.deferred (some []))) (hR:R (.returned (.tuple #[x,y])) (Z.putObj D' (.deferred none))):bodyPostM Fence.wide n Tryz.prog fn R .ret a Z:=by
 obtain ⟨tm,df⟩:=a
 simp only at hd hx hy
 subst hd
 refine ⟨by simp,.inl ⟨_,_,rfl,run_takeDeferred hK,?_⟩⟩
 refine ⟨.tuple #[x,y],?_,hR⟩
 have h0:tm[t]?.getD undef=x:=by simpa using hx
 have h1:tm[u]?.getD undef=y:=by simpa using hy
 simp [results,hr,h0,h1]
theorem taken_any (hA:ArcAt w ar v D' L' G' t f nn pg ob off) (hV:VolAt w v p D L G ps ho) (h:ArrAt w p A F) (hf:A.fit) (hn:0 < A.n) (P:List Nat) (os:List Ob) (hP:Ints (fun k=>k < w.heap.size) w pg P) (hC:Cat (fun k=>k < w.heap.size) w ob os) :
 Calls Tryz.prog 93 #[.pointer (some ⟨ar,0,none⟩)] w fun e w'=>∃ g,e=.returned (.tuple #[.slice (some ⟨g,0,none⟩) A.nb A.nb,.bool (tk A.nb (P ++ allSt os)).2])∧w.heap.size≤g∧w'.rowIs g 4 A.nb (fun j=>.bool ((tk A.nb (P ++ allSt os)).1 j))∧Below w.heap.size w w':=by
 obtain ⟨n,HN⟩:∃ n:Nat,Hid (9≤n):=⟨9,Nat.le_refl _⟩
 obtain ⟨c0,_⟩:=hA.cells
 have hc:=volBlocks_any hV h hf hn
 have k9:=hf.nb
 obtain ⟨nb,h6⟩:∃ nb,A.nb=nb:=⟨_,rfl⟩
 rw [h6] at hc k9 ⊢
 clear h6
 have H0:=hide4 hA hP hC hc
 clear hA hP hC hc
 refine (callsIn_wide (n:=n)).1 ?_
 refine callsIn_of_wp_marks Tryz.func93 rfl trivial ?_ rfl
 simp only [Tryz.ntmps93,List.size_toArray,List.length_cons,List.length_nil,Nat.reduceAdd,Nat.reduceSub,Array.replicate_succ,Array.replicate_zero,List.push_toArray,List.append_toArray,List.nil_append,List.cons_append]
 gi_wp2
 refine at_wide H0.out.2.2.2 ?_
 rintro e w1 ⟨rfl,rfl⟩
 gi_wp2_with (gi_at_make;refine wpListIn_mkBools _ rfl (.tmp 11) (.tmp 11) rfl _ nb (by rfl) (by rfl) rfl (by omega) ?_;intro w2 h7 hm h8)
 obtain ⟨w4,h2⟩:∃ w4,(w2.alloc (.cells #[.slice (some ⟨w1.heap.size,0,none⟩) nb nb] 66)).alloc (.cells #[.bool true] 4)=w4:=⟨_,rfl⟩
 have hp:w4.heap.size=w1.heap.size+3:=by rw [← h2];simp [h8]
 have hq:Below w1.heap.size w1 w4:=by rw [← h2];exact (hm.alloc (by omega) _).alloc (by simp;omega) _
 have hr:w4.rowIs w1.heap.size 4 nb (fun _=>.bool false):=by rw [← h2];exact (h7.alloc _).alloc _
 have hs:Boxed w4 (w1.heap.size+1) 66 (.slice (some ⟨w1.heap.size,0,none⟩) nb nb):=by
  rw [← h2]
  have:=Boxed.new w2 66 (.slice (some ⟨w1.heap.size,0,none⟩) nb nb)
  rw [h8] at this
  exact this.alloc _
 have hy:Boxed w4 (w1.heap.size+1+1) 4 (.bool true):=by
  rw [← h2]
  have:=Boxed.new (w2.alloc (.cells #[.slice (some ⟨w1.heap.size,0,none⟩) nb nb] 66)) 4 (.bool true)
  rw [World.size_alloc,h8] at this
  exact this
 rw [h2]
 clear h2 h7 hm h8 c0 hV h
 refine at_wide (arcStripes_any ar w4) ?_
 rintro e w' ⟨rfl,rfl⟩
 have h5:Boxed (w4.alloc (.cells #[.pointer (some ⟨ar,0,none⟩)] 52)) w4.heap.size 52 (.pointer (some ⟨ar,0,none⟩)):=Boxed.new w4 _ _
 have hz:(w4.alloc (.cells #[.pointer (some ⟨ar,0,none⟩)] 52)).heap.size=w4.heap.size+1:=by simp
 have h4:TkI w1 w1.heap.size nb (w4.heap.size+1) [] (w4.alloc (.cells #[.pointer (some ⟨ar,0,none⟩)] 52)):=⟨hr.alloc _,hs.alloc _,hy.alloc _,hq.alloc (by omega) _,by omega⟩
 obtain ⟨w5,k0⟩:∃ w5,w4.alloc (.cells #[.pointer (some ⟨ar,0,none⟩)] 52)=w5:=⟨_,rfl⟩
 have h9:=hide4 h5 h4 hp hz
 clear h5 h4 hp hz hr hs hy hq
 gi_wp2
 rw [k0] at h9
 clear k0
 obtain ⟨kg,kh,ki,kj⟩:w4.heap.size≤w1.heap.size+3∧w1.heap.size+3≤w4.heap.size∧w5.heap.size≤w4.heap.size+1∧w4.heap.size+1≤w5.heap.size:=by have:=h9.out.2.2;omega
 have h4:TkI w1 w1.heap.size nb w5.heap.size [] w5:=by have:=h9.out.2.1;exact ⟨this.row,this.box,this.ok,this.below,Nat.le_refl _⟩
 have he:∀ {v:Value} {l:List Nat},Ints (fun k=>k < w1.heap.size) w1 v l→Ints (fun k=>k < w1.heap.size∨k=w4.heap.size) w1 v l:=fun ⟨ao,c,q1,q2,q3⟩=>⟨ao,c,q1,q2,fun hl=>by obtain ⟨b,off,r1,r2,r3⟩:=q3 hl;exact ⟨b,off,r1,.inl r2,r3⟩⟩
 have ka:=he H0.out.2.1
 have kb:Cat (fun k=>k < w1.heap.size∨k=w4.heap.size) w1 ob os:=by
  obtain ⟨ao,c,q1,q2,q3⟩:=H0.out.2.2.1
  refine ⟨ao,c,q1,q2,fun hl=>?_⟩
  obtain ⟨b,off,r1,r2,r3,r4⟩:=q3 hl
  refine ⟨b,off,r1,.inl r2,r3,fun i hi=>?_⟩
  obtain ⟨sv,s1,s2,s3,s4⟩:=r4 i hi
  exact ⟨sv,s1,s2,s3,he s4⟩
 have h3:=h4.below
 have HI:=hide h4
 clear h4 he
 refine wpIn_rangeFunc_ownG rfl (by have:=HN.out;omega) (gf:=59) (lb:=#[.pointer (some ⟨w4.heap.size,0,none⟩)]) rfl trivial (enters_of Tryz.func59 (by kernel_rfl) rfl)
  (arcStripes_stops (fun k=>k < w1.heap.size∨k=w4.heap.size) (n - 1) w4.heap.size ar v D' L' G' t f nn pg ob off P os (.inr rfl) (.inl H0.out.1.lt) w5 h9.out.1 (H0.out.1.keep (h3.block _ H0.out.1.lt)) (ka.keep (KpS.of_below h3)) (kb.keep (KpS.of_below h3)))
  (fun h k=>h.trans k) (fun W l o o' hl _ _ _=>⟨by simp [World.putObj],fun k _ hk=>World.putObj_heap_other (by rcases hk with hk | hk <;> omega)⟩) (Below.refl _ _) (fun _=>rfl)
  (TkI w1 w1.heap.size nb w5.heap.size) (fun _ _ _=>False) (TkI.own (by omega) (by omega)) (fun _ _ _ _ _ h _ _=>h.elim) HI.out
  (fun x=>{ tmps:=#[.pointer (some ⟨ar,0,none⟩),undef,.slice none 0 0,.bool false,.pointer (some ⟨w1.heap.size+1,0,none⟩),.pointer (some ⟨w1.heap.size+1+1,0,none⟩),.int .i64 (x:Nat),.pointer (some ⟨ar,0,none⟩),.pointer (some ⟨ar,0,none⟩),.pointer (some ⟨ar,0,none⟩),.pointer (some ⟨v,0,none⟩),.int .i64 (nb:Nat),.slice (some ⟨w1.heap.size,0,none⟩) nb nb,.pointer (some ⟨ar,0,none⟩),.func (.func 59) #[] #[.pointer (some ⟨w4.heap.size,0,none⟩)],.int .i64 (x:Nat),undef,undef,undef,undef,undef,undef,undef,undef,undef,undef,undef,undef,undef,undef,undef,undef,undef,undef,undef],defers:=[] }) ?assign ?body ?done ?stop
 case assign=>
  intro l2 x X Kk hK
  unfold encN
  gi_wp2
  exact hK
 case body=>
  rintro l2 pre x X hi kc
  have c1:=hi.box.cell
  have c2:=hi.ok.cell
  have f2:=hi.ok.frozen
  have HX:=hide hi
  have hg:=hi.size
  have h1:tk nb (pre ++ [x])=((tk nb pre).1,false)→KeepsFrom w5.heap.size X (X.setCell ⟨w1.heap.size+1+1,0,none⟩ (.bool false))∧KpS (fun k=>k < w1.heap.size∨k=w4.heap.size) X (X.setCell ⟨w1.heap.size+1+1,0,none⟩ (.bool false))∧TkI w1 w1.heap.size nb w5.heap.size (pre ++ [x]) (X.setCell ⟨w1.heap.size+1+1,0,none⟩ (.bool false)):=fun h0=>by
   have hi:=HX.out
   refine ⟨(KeepsOthers.setCell _ _ _).from _,⟨by simp [World.setCell],fun k _ hk=>blk_setCell_other _ _ _ _ (by show k≠w1.heap.size+1+1;rcases hk with hk | hk <;> omega)⟩,?_,?_,?_,?_,?_⟩
   · rw [h0];exact hi.row.of_block (blk_setCell_other _ _ _ _ (by show w1.heap.size≠w1.heap.size+1+1;omega))
   · exact (blk_setCell_other _ _ _ _ (by show w1.heap.size+1≠w1.heap.size+1+1;omega)).trans hi.box
   · rw [h0];exact hi.ok.set _
   · exact hi.below.setCell (p:=⟨w1.heap.size+1+1,0,none⟩) (by show w1.heap.size≤w1.heap.size+1+1;omega) _
   · simpa [World.setCell] using hi.size
  have HB:=hide h1
  clear hi h1 hg
  by_cases k5:x < 2
  · have e1:(x:Int) < 2:=by omega
    have h0:tk nb (pre ++ [x])=((tk nb pre).1,false):=by rw [tk_snoc];unfold tkStep;rw [if_pos (.inl k5)]
    have HS:=hide h0
    clear h0
    gi_wp2
    exact HB.out HS.out
  · have e1:¬ (x:Int) < 2:=by omega
    by_cases k6:nb≤x
    · have e2:(x:Int)≥(nb:Int):=by omega
      have h0:tk nb (pre ++ [x])=((tk nb pre).1,false):=by rw [tk_snoc];unfold tkStep;rw [if_pos (.inr (.inl k6))]
      have HS:=hide h0
      clear h0
      gi_wp2
      exact HB.out HS.out
    · have e2:¬ (x:Int)≥(nb:Int):=by omega
      have kd:x < nb:=by omega
      have c3:=HX.out.row.cell (i:=x) kd
      have f3:=HX.out.row.frozen x
      cases ha:(tk nb pre).1 x with
      | true=>
       rw [ha] at c3
       have h0:tk nb (pre ++ [x])=((tk nb pre).1,false):=by rw [tk_snoc];unfold tkStep;rw [if_pos (.inr (.inr ha))]
       have HS:=hide h0
       clear h0
       gi_wp2
       exact HB.out HS.out
      | false=>
       rw [ha] at c3
       have h0:tk nb (pre ++ [x])=(fun j=>if j=x then true else (tk nb pre).1 j,(tk nb pre).2):=by
        rw [tk_snoc];unfold tkStep;rw [if_neg]
        rintro (q | q | q)
        · exact k5 q
        · exact k6 q
        · rw [ha] at q;cases q
       have HS:=hide h0
       clear h0
       gi_wp2
       have h0:=HS.out
       have hi:=HX.out
       refine ⟨(KeepsOthers.setCell _ _ _).from _,⟨by simp [World.setCell],fun k _ hk=>blk_setCell_other _ _ _ _ (by show k≠w1.heap.size;rcases hk with hk | hk <;> omega)⟩,?_,?_,?_,?_,?_⟩
       · rw [h0]
         refine (hi.row.set x (.bool true)).congr fun j hj=>?_
         by_cases e:j=x
         · simp [e]
         · simp [e]
       · exact (blk_setCell_other _ _ _ _ (by show w1.heap.size+1≠w1.heap.size;omega)).trans hi.box
       · rw [h0];exact (blk_setCell_other _ _ _ _ (by show w1.heap.size+1+1≠w1.heap.size;omega)).trans hi.ok
       · exact hi.below.setCell (p:=⟨w1.heap.size,x,none⟩) (Nat.le_refl _) _
       · simpa [World.setCell] using hi.size
 case done=>
  rintro D1 xs X ke k7 hi hK
  rw [k7] at hi
  have c1:=hi.box.cell
  have c2:=hi.ok.cell
  have HX:=hide2 hi hK
  clear hi hK k7
  obtain ⟨tb,hh⟩:∃ tb,(tk nb (P ++ allSt os)).2=tb:=⟨_,rfl⟩
  rw [hh] at c2
  have HT:=hide hh
  clear hh
  gi_wp2
  gi_region
  gi_wp2
  obtain ⟨hi,hK⟩:=HX.out
  have k8:X.drew.heap[D1]?=some (.deferred (some [])):=hK
  refine end_tmp2 (t:=2) (u:=3) (x:=.slice (some ⟨w1.heap.size,0,none⟩) nb nb) (y:=.bool tb) Tryz.results93 rfl rfl rfl k8 ⟨w1.heap.size,by rw [HT.out],Nat.le_refl _,?_,?_⟩
  · exact hi.row.of_block (World.putObj_heap_other (w:=X.drew) (by omega))
  · exact Below.putObj' hi.below.drew (by omega) (Array.getElem?_eq_some_iff.1 k8).1 _
 case stop=>
  rintro D1 cc pre X ke kf hx hK
  exact hx.elim
end
section
attribute [local go_sem] Oper.semAt_some
def frees (T:Nat→Bool) (k:Nat):List Nat:=(List.range k).filter (fun j=>decide (2≤j) && !T j)
theorem frees_two (T:Nat→Bool):frees T 2=[]:=by simp [frees,List.range_succ]
theorem frees_succ (T:Nat→Bool) (k:Nat):frees T (k+1)=frees T k ++ (if 2≤k∧T k=false then [k] else []):=by
 unfold frees
 rw [List.range_succ,List.filter_append]
 congr 1
 by_cases h:2≤k∧T k=false
 · rw [if_pos h];simp [h.1,h.2]
 · rw [if_neg h]
   by_cases h2:2≤k
   · have:T k=true:=by cases q:T k <;> simp_all
     simp [this]
   · simp [h2]
theorem frees_mono (T:Nat→Bool) {k m:Nat} (h:k≤m):frees T k <+: frees T m:=by
 induction m with
 | zero=>rw [show k=0 by omega];exact List.prefix_refl _
 | succ m ih=>
  by_cases e:k=m+1
  · rw [e];exact List.prefix_refl _
  · rw [frees_succ];exact (ih (by omega)).trans (List.prefix_append _ _)
theorem arcFree_any (ar:Nat) (w:World) :
 Calls Tryz.prog 100 #[.pointer (some ⟨ar,0,none⟩)] w fun e w'=>e=.returned (.func (.func 124) #[] #[.pointer (some ⟨w.heap.size,0,none⟩)])∧w'=w.alloc (.cells #[.pointer (some ⟨ar,0,none⟩)] 52):=by
 have h0:∀ (fn:Fn) (first cap:Array Value) (w:World),(Instr.makeFunc fn first cap).run Tryz.prog w=.ok (.func fn first cap) w:=fun _ _ _ _=>rfl
 go_enter Tryz.func100,Tryz.ntmps100
 go_wp2
 go_ret
 exact ⟨rfl,rfl⟩
def KpC (b0:Nat) (W W':World):Prop:=W.heap.size≤W'.heap.size∧∀ k o,b0≤k→W.heap[k]?=some o→o.isCells=true→W'.heap[k]?=some o
theorem KpC.trans {a b c:World} (h:KpC b0 a b) (k:KpC b0 b c):KpC b0 a c:=⟨Nat.le_trans h.1 k.1,fun i o h1 h2 h3=>k.2 i o h1 (h.2 i o h1 h2 h3) h3⟩
theorem KpC.row {W':World} (h:KpC b0 W W') {g n:Nat} {t:TypeId} {f:Nat→Value} (hg:b0≤g) (hr:W.rowIs g t n f):W'.rowIs g t n f:=by
 obtain ⟨c,hc,_⟩:=id hr
 exact hr.of_block ((h.2 g _ hg hc rfl).trans hc.symm)
theorem free1_in (hA:ArcAt W ar v D' L' G' t f nn pg ob off) (hV:VolAt W v p D L G ps ho) (h:ArrAt W p A F) (hf:A.fit) (hn:0 < A.n) (P:List Nat) (os:List Ob) (hP:Ints (fun k=>k < W.heap.size) W pg P) (hC:Cat (fun k=>k < W.heap.size) W ob os)
 (n l b1 b0:Nat) (hq:b0≤W.heap.size) (J Jx:List Nat→World→Prop) (hc:∀ pre A B,J pre A→Below A.heap.size A B→J pre B)
 (hY:∀ pre x W,J pre W→pre.length < (frees (tk A.nb (P ++ allSt os)).1 A.nb).length→YieldAt Fence.wide (n - 1) Tryz.prog l (encN x) W fun e W'=>(e=.returned (.bool true)∧J (pre ++ [x]) W'∧KpC b0 W W')∨(e=.returned (.bool false)∧Jx (pre ++ [x]) W'))
 (h1:W.cell? ⟨b1,0,none⟩=some (.pointer (some ⟨ar,0,none⟩))) (h0:J [] W) :
 CallsIn Fence.wide n Tryz.prog 124 #[.func (.yield l) #[] #[],.pointer (some ⟨b1,0,none⟩)] W fun e W'=>(∃ v,e=.returned v) ∧
  ((∃ ys,ys=frees (tk A.nb (P ++ allSt os)).1 A.nb∧J ys W')∨(∃ pre,pre <+: frees (tk A.nb (P ++ allSt os)).1 A.nb∧Jx pre W')):=by
 have h3:=taken_any hA hV h hf hn P os hP hC
 have hh:=hf.nb
 obtain ⟨nb,h4⟩:∃ nb,A.nb=nb:=⟨_,rfl⟩
 rw [h4] at h3 hh hY ⊢
 obtain ⟨T,hT⟩:∃ T,tk nb (P ++ allSt os)=T:=⟨_,rfl⟩
 rw [hT] at h3 hY ⊢
 obtain ⟨tm,tr⟩:=T
 simp only at h3 hY ⊢
 clear h4 hT hA hV h hf hn hP hC
 refine callsIn_of_wp Tryz.func124 rfl trivial ?_ rfl
 simp only [Tryz.ntmps124,List.size_toArray,List.length_cons,List.length_nil,Nat.reduceAdd,Nat.reduceSub,Array.replicate_succ,Array.replicate_zero,List.push_toArray,List.append_toArray,List.nil_append,List.cons_append]
 gi_wp2
 refine at_wide h3 ?_
 rintro e w1 ⟨g,rfl,hg,h2,h6⟩
 have h7:=hc _ _ _ h0 h6
 have H1:=hide2 h2 h7
 clear h2 h6 h7 h3 h0 h1
 gi_wp2
 gi_loopw [5] (fun p wr=>∃ k:Nat,p=.int .i64 (k:Nat)∧2≤k∧(k≤nb∨k=2)∧J (frees tm k) wr∧wr.rowIs g 4 nb (fun j=>.bool (tm j)))
  (fun p _=>nb - (intOf p).toNat)
 case atStart=>
  exact ⟨2,rfl,Nat.le_refl _,.inr rfl,by rw [frees_two];exact H1.out.2,H1.out.1⟩
 case round=>
  obtain ⟨k,rfl,hi,hk,hJ,h2⟩:=hrel
  by_cases hj:k < nb
  · have c1:=h2.cell (i:=k) hj
    cases hm:tm k with
    | true=>
     rw [hm] at c1
     have he:frees tm (k+1)=frees tm k:=by rw [frees_succ,if_neg (by rw [hm];simp),List.append_nil]
     rw [← he] at hJ
     have HM:=hide2 hJ h2
     clear hJ h2 he hm
     gi_wp2
     refine ⟨fun _ h=>(by cases h),?_⟩
     gi_wp2
     go_roundw
     case rel=>exact ⟨k+1,by go_num,by omega,.inl (by omega),HM.out.1,HM.out.2⟩
     case measure=>simp only [intOf];omega
    | false=>
     rw [hm] at c1
     have he:frees tm k ++ [k]=frees tm (k+1):=by rw [frees_succ,if_pos ⟨hi,hm⟩]
     have h8:(frees tm k).length < (frees tm nb).length:=by
      have:=(frees_mono tm (show k+1≤nb by omega)).length_le
      rw [← he,List.length_append] at this
      simp at this
      omega
     obtain ⟨fn,tmps,assign,body,hp,hR⟩:=hY _ k _ hJ h8
     unfold encN at hp
     rw [he] at hR
     have HM:=hide2 h2 hR
     clear hJ h2 hR he hm h8
     gi_wp2
     refine ⟨fun h=>(by cases h),HM.out.2.mono ?_⟩
     rintro e W3 (⟨rfl,h9,ha⟩ | ⟨rfl,h5⟩)
     · have H3:=hide2 h9 (ha.row (by omega) HM.out.1)
       clear h9 ha
       gi_wp2
       go_roundw
       case rel=>exact ⟨k+1,by go_num,by omega,.inl (by omega),H3.out.1,H3.out.2⟩
       case measure=>simp only [intOf];omega
     · have H3:=hide h5
       clear h5
       gi_wp2
       refine bodyPost_ret (results_none rfl _ _ _) rfl ?_
       exact ⟨⟨_,rfl⟩,.inr ⟨_,frees_mono tm (show k+1≤nb by omega),H3.out⟩⟩
  · have he:frees tm k=frees tm nb:=by
     rcases hk with hk | hk
     · rw [show k=nb by omega]
     · subst hk
       rw [frees_two]
       exact (List.prefix_nil.1 (by have:=frees_mono tm (show nb≤2 by omega);rwa [frees_two] at this)).symm
    rw [he] at hJ
    have HM:=hide hJ
    clear hJ he h2
    gi_wp2
    go_end0
    exact ⟨⟨_,rfl⟩,.inl ⟨_,rfl,HM.out⟩⟩
theorem free_stops (hA:ArcAt w ar v D' L' G' t f nn pg ob off) (hV:VolAt w v p D L G ps ho) (h:ArrAt w p A F) (hf:A.fit) (hn:0 < A.n) (P:List Nat) (os:List Ob) (hP:Ints (fun k=>k < w.heap.size) w pg P) (hC:Cat (fun k=>k < w.heap.size) w ob os)
 (n b1:Nat) (hb:b1 < w.heap.size) (h1:w.cell? ⟨b1,0,none⟩=some (.pointer (some ⟨ar,0,none⟩))) :
 SeqStopsK Fence.wide n Tryz.prog 124 #[.pointer (some ⟨b1,0,none⟩)] encN (KpC w.heap.size) (fun ys=>ys=frees (tk A.nb (P ++ allSt os)).1 A.nb) (fun pre=>pre <+: frees (tk A.nb (P ++ allSt os)).1 A.nb) (frees (tk A.nb (P ++ allSt os)).1 A.nb).length w:=fun l J Jx W hW hJ _ hY h0=>by
 have h2:∀ {v:Value} {l:List Nat},Ints (fun k=>k < w.heap.size) W v l→Ints (fun k=>k < W.heap.size) W v l:=fun ⟨ao,c,q1,q2,q3⟩=>⟨ao,c,q1,q2,fun hl=>by obtain ⟨b,off,r1,r2,r3⟩:=q3 hl;exact ⟨b,off,r1,Nat.lt_of_lt_of_le r2 hW.size,r3⟩⟩
 have h3:Cat (fun k=>k < W.heap.size) W ob os:=by
  obtain ⟨ao,c,q1,q2,q3⟩:=hC.keep (KpS.of_below hW)
  refine ⟨ao,c,q1,q2,fun hl=>?_⟩
  obtain ⟨b,off,r1,r2,r3,r4⟩:=q3 hl
  refine ⟨b,off,r1,Nat.lt_of_lt_of_le r2 hW.size,r3,fun i hi=>?_⟩
  obtain ⟨sv,s1,s2,s3,s4⟩:=r4 i hi
  exact ⟨sv,s1,s2,s3,h2 s4⟩
 exact free1_in (hA.keep (hW.block _ hA.lt)) (hV.keep (hW.block _ hV.lt)) (h.below hW (Nat.le_refl _)) hf hn P os (h2 (hP.keep (KpS.of_below hW))) h3 n l b1 w.heap.size hW.size J Jx (fun pre A B h hb=>hJ pre A B none h ⟨hb.os,hb.tape,hb.output,hb.size,fun k hk _=>hb.block k hk⟩ (fun r e=>by cases e)) hY ((hW.cell (p:=⟨b1,0,none⟩) hb).trans h1) h0
end
section
attribute [local go_sem] Oper.semAt_some
def ivs (l:List Nat):List Value:=l.map fun (x:Nat)=>Value.int .i64 (x:Int)
theorem Tryz.infoIntT:(Tryz.prog.info? 3).map (fun i=>(i.zero,i.size,i.bytes))=some (some (.int .i64 0),1,8):=by kernel_rfl
structure TaI (w:World) (q count B:Nat) (pre:List Nat) (X:World):Prop where
 cnt:Boxed X w.heap.size 3 (.int .i64 (count:Nat))
 box:Boxed X q 94 (.slice (some ⟨w.heap.size+1,0,none⟩) pre.length count)
 own:X.ownsRow (w.heap.size+1) 3 1 (.slice (some ⟨w.heap.size+1,0,none⟩) pre.length count) pre.length (ivs pre)
 below:Below w.heap.size w X
 size:B≤X.heap.size
 le:pre.length≤count
theorem TaI.own' (hB:w.heap.size+3≤B) (hq:q < B):OwnFrom B (TaI w q count B):=by
 rintro pre X Y row ⟨h1,h2,h3,h4,h5,h6⟩ hg hr
 have hk:∀ k,k < B→Y.heap[k]?=X.heap[k]?:=fun k hk=>hg.block k (by omega) (fun e=>by have:=(hr k e.symm).1;omega)
 exact ⟨(hk _ (by omega)).trans h1,(hk _ (by omega)).trans h2,own_keep h3 hg fun r e=>(hr r e).2,h4.grown hg h4.size (fun k e=>by have:=(hr k e).1;omega),Nat.le_trans h5 hg.size,h6⟩
def TaX (w:World) (q count B id:Nat) (c:Code) (pre':List Nat) (X:World):Prop:=c=.exit id∧∃ pre x,pre'=pre ++ [x]∧pre.length=count∧TaI w q count B pre X
theorem TaX.own' {id:Nat} (hB:w.heap.size+3≤B) (hq:q < B) (c:Code):OwnFrom B (TaX w q count B id c):=by
 rintro pre' X Y row ⟨h1,pre,x,h2,h3,h4⟩ hg hr
 exact ⟨h1,pre,x,h2,h3,TaI.own' hB hq pre X Y row h4 hg hr⟩
theorem arcTake_any (hA:ArcAt w ar v D' L' G' t f nn pg ob off) (hV:VolAt w v p D L G ps ho) (h:ArrAt w p A F) (hf:A.fit) (hn:0 < A.n) (P:List Nat) (os:List Ob) (hP:Ints (fun k=>k < w.heap.size) w pg P) (hC:Cat (fun k=>k < w.heap.size) w ob os) (count:Nat) (k0:count≤1000000) :
 Calls Tryz.prog 76 #[.pointer (some ⟨ar,0,none⟩),.int .i64 (count:Nat)] w fun e w'=>∃ u,e=.returned (.tuple #[u,.bool (decide (count≤(frees (tk A.nb (P ++ allSt os)).1 A.nb).length))]) ∧
  w'.ownsRow w.heap.size 3 1 u ((frees (tk A.nb (P ++ allSt os)).1 A.nb).take count).length (ivs ((frees (tk A.nb (P ++ allSt os)).1 A.nb).take count))∧Below w.heap.size w w':=by
 obtain ⟨n,HN⟩:∃ n:Nat,Hid (9≤n):=⟨9,Nat.le_refl _⟩
 have H0:=hide5 hA hV h hP hC
 clear hA hV h hP hC
 refine (callsIn_wide (n:=n)).1 ?_
 refine callsIn_of_wp_marks Tryz.func76 rfl trivial ?_ rfl
 simp only [Tryz.ntmps76,List.size_toArray,List.length_cons,List.length_nil,Nat.reduceAdd,Nat.reduceSub,Array.replicate_succ,Array.replicate_zero,List.push_toArray,List.append_toArray,List.nil_append,List.cons_append]
 obtain ⟨i0,kk,q7,km,q8⟩:=info_parts Tryz.infoIntT
 have hh:(w.alloc (.cells #[.int .i64 (count:Int)] 3)).heap.size=w.heap.size+1:=by simp
 have kn:Below w.heap.size w (w.alloc (.cells #[.int .i64 (count:Int)] 3)):=(Below.refl _ w).alloc (Nat.le_refl _) _
 have ko:Boxed (w.alloc (.cells #[.int .i64 (count:Int)] 3)) w.heap.size 3 (.int .i64 (count:Nat)):=Boxed.new w _ _
 have HA:=hide3 hh kn ko
 clear hh kn ko
 gi_wp2_with (gi_at_make;refine wpListIn_make_own _ rfl (.const (.int .i64 0)) (.tmp 8) 94 rfl (w.heap.size+1) 3 i0 (.int .i64 0) 1 Tryz.underlying94 kk q7 km .i64 .i64 _ count (by rfl) (by rfl) rfl (by rw [q8];omega) (by unfold maxLen;omega) (by rw [HA.out.1];exact Nat.le_refl _) ?_;intro w2 h6 hs)
 rw [HA.out.1] at h6
 have k5:=hs.size
 rw [HA.out.1] at k5
 have qi:w.heap.size+1 < w2.heap.size:=(h6.lt (w.heap.size+1) rfl).2
 have hj:Below w.heap.size w w2:=HA.out.2.1.grown hs (by rw [HA.out.1];omega) (fun k e=>by cases e)
 have h8:Boxed w2 w.heap.size 3 (.int .i64 (count:Nat)):=(hs.block _ (by rw [HA.out.1];omega) (by simp)).trans HA.out.2.2
 have h2:Boxed (w2.alloc (.cells #[.slice (some ⟨w.heap.size+1,0,none⟩) 0 count] 94)) w2.heap.size 94 (.slice (some ⟨w.heap.size+1,0,none⟩) 0 count):=Boxed.new w2 _ _
 have hx:Below w2.heap.size w2 (w2.alloc (.cells #[.slice (some ⟨w.heap.size+1,0,none⟩) 0 count] 94)):=(Below.refl _ w2).alloc (Nat.le_refl _) _
 have hy:(w2.alloc (.cells #[.slice (some ⟨w.heap.size+1,0,none⟩) 0 count] 94)).heap.size=w2.heap.size+1:=by simp
 obtain ⟨w3,kp⟩:∃ w3,w2.alloc (.cells #[.slice (some ⟨w.heap.size+1,0,none⟩) 0 count] 94)=w3:=⟨_,rfl⟩
 rw [kp] at h2 hx hy ⊢
 refine at_wide (arcFree_any ar w3) ?_
 rintro e w' ⟨rfl,rfl⟩
 have h5:(w3.alloc (.cells #[.pointer (some ⟨ar,0,none⟩)] 52)).cell? ⟨w3.heap.size,0,none⟩=some (.pointer (some ⟨ar,0,none⟩)):=(Boxed.new w3 _ _).cell
 have kr:(w3.alloc (.cells #[.pointer (some ⟨ar,0,none⟩)] 52)).heap.size=w3.heap.size+1:=by simp
 have k6:Below w3.heap.size w3 (w3.alloc (.cells #[.pointer (some ⟨ar,0,none⟩)] 52)):=(Below.refl _ w3).alloc (Nat.le_refl _) _
 obtain ⟨w5,hm⟩:∃ w5,w3.alloc (.cells #[.pointer (some ⟨ar,0,none⟩)] 52)=w5:=⟨_,rfl⟩
 have h7:Below w2.heap.size w2 w5:=by rw [← hm];exact hx.trans (k6.mono hx.size)
 have h9:Below w.heap.size w w5:=hj.trans (h7.mono (by omega))
 have ks:TaI w w2.heap.size count w5.heap.size [] w5:=⟨(h7.block _ (by omega)).trans h8,by rw [← hm];exact (k6.block _ (by omega)).trans h2,ownsRow_below h6 h7,h9,Nat.le_refl _,Nat.zero_le _⟩
 have kv:w5.heap.size=w2.heap.size+2:=by rw [← hm,kr,hy]
 have hp:=hide5 h5 ks h9 hy kv
 clear h5 ks kr k6 h7 h9 kv h2 hx hy h6 hs hj h8
 gi_wp2
 rw [hm] at hp
 clear hm kp
 obtain ⟨qj,qk,qm,qn⟩:w3.heap.size≤w2.heap.size+1∧w2.heap.size+1≤w3.heap.size∧w5.heap.size≤w2.heap.size+2∧w2.heap.size+2≤w5.heap.size:=by have:=hp.out.2.2.2;omega
 have h0:=hp.out.2.2.1
 obtain ⟨hA,hV,h,hP,hC⟩:=H0.out
 have k7:∀ {v:Value} {l:List Nat},Ints (fun k=>k < w.heap.size) w5 v l→Ints (fun k=>k < w5.heap.size) w5 v l:=fun ⟨ao,c,q1,q2,q3⟩=>⟨ao,c,q1,q2,fun hl=>by obtain ⟨b,off,r1,r2,r3⟩:=q3 hl;exact ⟨b,off,r1,Nat.lt_of_lt_of_le r2 h0.size,r3⟩⟩
 have kx:=k7 (hP.keep (KpS.of_below h0))
 have ky:Cat (fun k=>k < w5.heap.size) w5 ob os:=by
  obtain ⟨ao,c,q1,q2,q3⟩:=hC.keep (KpS.of_below h0)
  refine ⟨ao,c,q1,q2,fun hl=>?_⟩
  obtain ⟨b,off,r1,r2,r3,r4⟩:=q3 hl
  refine ⟨b,off,r1,Nat.lt_of_lt_of_le r2 h0.size,r3,fun i hi=>?_⟩
  obtain ⟨sv,s1,s2,s3,s4⟩:=r4 i hi
  exact ⟨sv,s1,s2,s3,k7 s4⟩
 have k8:=free_stops (hA.keep (h0.block _ hA.lt)) (hV.keep (h0.block _ hV.lt)) (h.below h0 (Nat.le_refl _)) hf hn P os kx ky (n - 1) w3.heap.size (by omega) hp.out.1
 obtain ⟨fr,k9⟩:∃ fr,frees (tk A.nb (P ++ allSt os)).1 A.nb=fr:=⟨_,rfl⟩
 rw [k9] at k8
 have kz:=hide k9
 have q9:=hide k8
 clear k9 k8 kx ky k7 hA hV h hP hC
 refine wpIn_rangeFunc_ownG rfl (by have:=HN.out;omega) (gf:=124) (lb:=#[.pointer (some ⟨w3.heap.size,0,none⟩)]) rfl trivial (enters_of Tryz.func124 (by kernel_rfl) rfl)
  q9.out (fun h k=>h.trans k) (fun W l o o' hl ho hc _=>⟨by simp [World.putObj],fun k o2 _ hk q0=>(World.putObj_heap_other (fun e=>by subst e;rw [hk] at ho;cases ho;rw [hc] at q0;cases q0)).trans hk⟩) (Below.refl _ _) (fun _=>rfl)
  (TaI w w2.heap.size count w5.heap.size) (TaX w w2.heap.size count w5.heap.size 0) (TaI.own' (by omega) (by omega)) (TaX.own' (by omega) (by omega)) hp.out.2.1
  (fun x=>{ tmps:=#[.pointer (some ⟨ar,0,none⟩),.int .i64 (count:Nat),undef,.pointer (some ⟨w.heap.size,0,none⟩),.slice none 0 0,.bool false,.pointer (some ⟨w2.heap.size,0,none⟩),.int .i64 (x:Nat),.int .i64 (count:Nat),.slice (some ⟨w.heap.size+1,0,none⟩) 0 count,.pointer (some ⟨ar,0,none⟩),.func (.func 124) #[] #[.pointer (some ⟨w3.heap.size,0,none⟩)],.int .i64 (x:Nat),undef,undef,undef,undef,undef,undef,undef,undef,undef,undef,undef,undef,undef],defers:=[] }) ?assign ?body ?done ?stop
 case assign=>
  intro l2 x X Kk hK
  unfold encN
  gi_wp2
  exact hK
 case body=>
  rintro l2 pre x X hi qa
  have c1:=hi.cnt.cell
  have c2:=hi.box.cell
  have ka:=hi.le
  by_cases h3:pre.length=count
  · have e1:((pre.length:Nat):Int)=((count:Nat):Int):=by omega
    have HX:=hide hi
    clear hi
    rw [h3] at c2
    gi_wp2
    exact ⟨KeepsFrom.refl _ _,rfl,pre,x,rfl,h3,HX.out⟩
  · have e1:¬ ((pre.length:Nat):Int)=((count:Nat):Int):=by omega
    obtain ⟨pl,ha⟩:∃ pl,pre.length=pl:=⟨_,rfl⟩
    have HO:Hid ((X.alloc (.cells #[.int .i64 (x:Nat)] 3)).ownsRow (w.heap.size+1) 3 1 (.slice (some ⟨w.heap.size+1,0,none⟩) pl count) pl (ivs pre)):=hide (by have:=ownsRow_below hi.own ((Below.refl _ X).alloc (Nat.le_refl _) (.cells #[.int .i64 (x:Nat)] 3));rwa [ha] at this)
    have hq:∀ j u,[Value.int .i64 ((x:Nat):Int)][j]?=some u→(X.alloc (.cells #[.int .i64 (x:Nat)] 3)).cell? ((⟨X.heap.size,0,none⟩:Addr).add j)=some u:=one_made X (.int .i64 (x:Nat)) 3
    have qb:=hide hq
    have qc:w2.heap.size < X.heap.size:=by have:=hi.size;omega
    have HX:=hide2 hi ha
    rw [ha] at c2 e1 ka
    have q4:Boxed X w2.heap.size 94 (.slice (some ⟨w.heap.size+1,0,none⟩) pl count):=by have:=hi.box;rwa [ha] at this
    have qd:=hide q4
    clear hi hq q4 h3 ha
    gi_wp2_with (
     gi_at_builtin;
     refine wpListIn_append_fits _ rfl (.tmp 17) (.tmp 19) 94 rfl (w.heap.size+1) 3 i0 1 Tryz.underlying94 kk km (w.heap.size+1) pl count (ivs pre) (by rfl) (by exact HO.out) ⟨X.heap.size,0,none⟩ 1 1 [.int .i64 (x:Nat)] (by rfl) rfl (by exact qb.out) (fun u hu=>by simp at hu;subst hu;rfl) (by omega) ?_;
     intro w6 hr h1;
     have kb:Boxed w6 w2.heap.size 94 (.slice (some ⟨w.heap.size+1,0,none⟩) pl count):=(h1.block _ (by simp;omega) (fun e=>by have:=Option.some.inj e;omega)).trans ((blk_alloc_lt _ _ _ qc).trans qd.out);
     have d0:=kb.cell;
     have f0:=kb.frozen)
    obtain ⟨hi,ha⟩:=HX.out
    have hz:∀ k,k < X.heap.size→k≠w.heap.size+1→w6.heap[k]?=X.heap[k]?:=fun k hk qe=>(h1.block k (by simp;omega) (fun e=>qe (Option.some.inj e))).trans (blk_alloc_lt _ _ _ hk)
    have kc:=h1.size
    simp only [World.size_alloc] at kc
    have kd:∀ k,k≠w2.heap.size→(w6.setCell ⟨w2.heap.size,0,none⟩ (.slice (some ⟨w.heap.size+1,0,none⟩) (pl+1) count)).heap[k]?=w6.heap[k]?:=fun k hk=>blk_setCell_other _ _ _ _ hk
    have h4:(pre ++ [x]).length=pl+1:=by rw [List.length_append,ha];rfl
    have ke:ivs (pre ++ [x])=ivs pre ++ [.int .i64 (x:Nat)]:=by unfold ivs;rw [List.map_append];rfl
    refine ⟨⟨by simp [World.setCell];omega,fun k o hk ho _=>?_⟩,⟨by simp [World.setCell];omega,fun k o hk ho _=>?_⟩,?_,?_,?_,?_,?_,?_⟩
    · exact ((kd k (by omega)).trans (hz k (Array.getElem?_eq_some_iff.1 ho).1 (by omega))).trans ho
    · exact ((kd k (by omega)).trans (hz k (Array.getElem?_eq_some_iff.1 ho).1 (by omega))).trans ho
    · exact ((kd _ (by omega)).trans (hz _ (by omega) (by omega))).trans hi.cnt
    · rw [h4];exact kb.set _
    · rw [h4,ke];exact hr.kept (grown_setC w6 w2.heap.size 0 _) (.inr fun e=>by have q:w.heap.size+1=w2.heap.size:=Option.some.inj e;omega)
    · refine Below.setCell (p:=⟨w2.heap.size,0,none⟩) ?_ (by show w.heap.size≤w2.heap.size;omega) _
      exact ⟨h1.os.trans hi.below.os,h1.tape.trans hi.below.tape,h1.output.trans hi.below.output,by have:=hi.below.size;omega,fun k hk=>(hz k (by have:=hi.below.size;omega) (by omega)).trans (hi.below.block k hk)⟩
    · have:=hi.size;simp [World.setCell];omega
    · rw [h4];omega
 case done=>
  rintro D1 xs X qf q5 hi hK
  have kf:xs=fr:=q5
  subst kf
  have c1:=hi.cnt.cell
  have c2:=hi.box.cell
  have ka:=hi.le
  have HX:=hide2 hi hK
  clear hi hK q5
  obtain ⟨xl,hg⟩:∃ xl,xs.length=xl:=⟨_,rfl⟩
  rw [hg] at c2 ka
  have HL:=hide hg
  clear hg
  gi_wp2
  gi_region
  gi_wp2
  obtain ⟨hi,hK⟩:=HX.out
  have hg:=HL.out
  have he:X.drew.heap[D1]?=some (.deferred (some [])):=hK
  have kg:xs.take count=xs:=List.take_of_length_le (by omega)
  have qg:decide (count≤xs.length)=(((xl:Nat):Int) == ((count:Nat):Int)):=by
   by_cases e:xl=count
   · rw [decide_eq_true (by omega)];subst e;simp
   · rw [decide_eq_false (by omega)]
     have:¬ ((xl:Nat):Int)=((count:Nat):Int):=by omega
     simp [this]
  rw [kz.out,kg,qg]
  refine end_tmp2 (t:=4) (u:=5) (x:=.slice (some ⟨w.heap.size+1,0,none⟩) xl count) (y:=.bool (((xl:Nat):Int) == ((count:Nat):Int))) Tryz.results76 rfl rfl rfl he ⟨_,rfl,?_,?_⟩
  · have ho:=hi.own
    rw [hg] at ho
    have kh:X.drew.ownsRow (w.heap.size+1) 3 1 (.slice (some ⟨w.heap.size+1,0,none⟩) xl count) xl (ivs xs):=ownsRow_below ho ((Below.refl _ X).drew)
    rw [hg]
    exact ownsRow_weaken (own_keep kh (grownBy_putObj' X.drew D1 (.deferred none)) fun r e=>by cases e;exact ⟨_,he,rfl⟩) (by omega)
  · exact Below.putObj' hi.below.drew (by omega) (Array.getElem?_eq_some_iff.1 he).1 _
 case stop=>
  rintro D1 cc pre X qf ki ⟨rfl,pre1,x,rfl,kj,hi⟩ hK
  have c1:=hi.cnt.cell
  have c2:=hi.box.cell
  have HX:=hide2 hi hK
  rw [kj] at c2
  clear hi hK
  gi_wp2
  gi_region
  gi_wp2
  obtain ⟨hi,hK⟩:=HX.out
  have he:X.drew.heap[D1]?=some (.deferred (some [])):=hK
  obtain ⟨rr,q6⟩:=ki
  have kg:fr.take count=pre1:=by rw [← q6,List.append_assoc,List.take_append_of_le_length (by omega),List.take_of_length_le (by omega)]
  have qh:count≤fr.length:=by rw [← q6];simp;omega
  rw [kz.out,kg,decide_eq_true qh]
  refine end_tmp2 (t:=4) (u:=5) (x:=.slice (some ⟨w.heap.size+1,0,none⟩) count count) (y:=.bool true) Tryz.results76 rfl rfl rfl he ⟨_,rfl,?_,?_⟩
  · have ho:=hi.own
    rw [kj] at ho
    have kh:X.drew.ownsRow (w.heap.size+1) 3 1 (.slice (some ⟨w.heap.size+1,0,none⟩) count count) count (ivs pre1):=ownsRow_below ho ((Below.refl _ X).drew)
    rw [kj]
    exact ownsRow_weaken (own_keep kh (grownBy_putObj' X.drew D1 (.deferred none)) fun r e=>by cases e;exact ⟨_,he,rfl⟩) (by omega)
  · exact Below.putObj' hi.below.drew (by omega) (Array.getElem?_eq_some_iff.1 he).1 _
end
end Go.Proofs.YthcgahldacpolaaGreatDoor
