import Derived.Test.YthcgahldacpolaaGreatDoorM15
set_option maxRecDepth 100000
set_option maxHeartbeats 8000000
namespace Go.Proofs.YthcgahldacpolaaGreatDoor
open Go.RowKit
variable {a a':Act} {Q:Exit→Act→World→Prop} {dl:List Nat} {xs:List Value} {base n v g D i p L G ps ho r b N gone sp:Nat} {o:Oper} {P:Program} {e:TypeId} {Vi:Value→World→Prop} {w w':World} {B S:World→Prop}
section
open Go.Shelf Go.Deep Gf
attribute [local go_sem] Oper.semAt_some
theorem own_cells {size:Nat} {v:Value} (h:w.ownsRow base e size v n xs) {j:Nat} {o:Obj} (hj:v.ownBlock=some j) (ho:w.heap[j]?=some o):o.isCells=true:=by
 rcases h.2 with ⟨h0,_⟩ | ⟨g,cap,cur,e1,e2,e3,_⟩
 · rw [h0] at hj;simp [Value.ownBlock] at hj
 · rw [e1] at hj
   simp [Value.ownBlock] at hj
   subst hj
   rw [e3] at ho
   cases ho
   rfl
theorem own_keep {size:Nat} {v:Value} {row:Option Nat} (h:w.ownsRow base e size v n xs) (hg:w.grownBy w' row) (hr:∀ r,row=some r→∃ o:Obj,w.heap[r]?=some o∧o.isCells=false):w'.ownsRow base e size v n xs:=by
 cases row with
 | none=>
  cases hv:v.ownBlock with
  | none=>exact h.kept hg (.inl hv)
  | some q=>exact h.kept hg (.inr (by rw [hv];intro e;cases e))
 | some r=>
  obtain ⟨o,ho,hc⟩:=hr r rfl
  exact h.kept hg (.inr fun e=>by have:=own_cells h e ho;rw [hc] at this;cases this)
theorem grown_setC (w:World) (b i:Nat) (v:Value):w.grownBy (w.setCell ⟨b,i,none⟩ v) (some b):=
 ⟨rfl,rfl,rfl,by simp [World.setCell],fun k _ h0=>blk_setCell_other _ _ _ _ (fun e=>h0 (by rw [e]))⟩
theorem end_tmp {fn:Func} {Z:World} {D' t:Nat} {x:Value} {R:Ending→World→Prop} (hr:fn.results=#[.tmp t]) (hd:a.defers=[{ target:=.collected D',args:=#[] }]) (hx:a.tmps.getD t undef=x)
 (hK:Z.heap[D']?=some (.deferred (some []))) (hR:R (.returned x) (Z.putObj D' (.deferred none))):bodyPostM Fence.wide n Tryz.prog fn R .ret a Z:=by
 obtain ⟨tm,df⟩:=a
 simp only at hd hx
 subst hd
 refine ⟨by simp,.inl ⟨_,_,rfl,run_takeDeferred hK,?_⟩⟩
 refine ⟨x,?_,hR⟩
 have h0:tm[t]?.getD undef=x:=by simpa using hx
 simp [results,hr,h0]
def ApI (w:World) (g:Nat) (B D:Nat) (pre:List (Ch D)) (X:World):Prop:=
 (∃ v,Boxed X w.heap.size 57 v∧X.ownsRow (w.heap.size+1) 33 1 v pre.length (pre.map fun x=>chV g x.1))∧Below w.heap.size w X∧B≤X.heap.size
theorem ApI.own {B:Nat} (hB:w.heap.size+1≤B):OwnFrom B (ApI w g B D):=by
 rintro pre X Y row ⟨⟨v,h1,h2⟩,h3,h4⟩ hg hr
 exact ⟨⟨v,(hg.block _ h1.lt (fun e=>by have:=(hr _ e.symm).1;omega)).trans h1,own_keep h2 hg fun r e=>(hr r e).2⟩,h3.grown hg h3.size (fun k e=>by have:=(hr k e).1;omega),Nat.le_trans h4 hg.size⟩
theorem Tryz.infoBytes2:(Tryz.prog.info? 33).map (fun i=>(i.zero,i.size,i.bytes))=some (some (.slice none 0 0),1,24):=by kernel_rfl
theorem in_chunk {F:Fence} {ops:Array Oper} {rest:List Oper} (hg:o.guard=none) (x y:Operand) (ho:o.op=.call { callee:=.builtin .append,args:=#[x,y],argTypes:=#[57,57] })
 (n0 q:Nat) (k:Nat) (xs:List Value) (u v:Value) (hx:a.eval x=v) (hy:a.eval y=.slice (some ⟨q,0,none⟩) 1 1) (h3:w.ownsRow n0 33 1 v k xs) (hc:w.cell? ⟨q,0,none⟩=some u) (hu:u.oneCell'=true) (h5:n0≤w.heap.size) (hk:k≤1000000)
 (hK:∀ g' cap' w2,n0≤g'→w2.ownsRow n0 33 1 (.slice (some ⟨g',0,none⟩) (k+1) cap') (k+1) (xs ++ [u])→w.grownBy w2 v.ownBlock→wpListIn F n Tryz.prog ops Q rest (a.put o.dst (.slice (some ⟨g',0,none⟩) (k+1) cap')) w2):wpListIn F n Tryz.prog ops Q (o :: rest) a w:=by
 obtain ⟨i0,h6,h7,h8,h9⟩:=info_parts Tryz.infoBytes2
 refine wpListIn_append_own w hg x y 57 ho n0 33 i0 (.slice none 0 0) 1 24 Tryz.underlying57 h6 h7 h8 h9 rfl (by decide) v k xs hx h3 ⟨q,0,none⟩ 1 1 [u] hy rfl (fun j u' hj=>?_) (fun u' h4=>by simp at h4;subst h4;exact hu) (by unfold maxLen;omega) (by omega) h5 ?_
 · cases j with
   | zero=>simp at hj;subst hj;exact hc
   | succ j=>simp at hj
 · intro v' w2 h1 h2 _
   obtain ⟨g',cap',rfl,ha⟩:∃ g' cap',v'=.slice (some ⟨g',0,none⟩) (k+1) cap'∧n0≤g':=by
    rcases h1.2 with ⟨_,h0⟩ | ⟨g,cap,cur,hv,hb,_⟩
    · omega
    · exact ⟨g,cap,hv,hb⟩
   exact hK g' cap' w2 ha h1 h2
theorem appendSeq_chunks (g D b1 b2:Nat) (hD:D≤1000) (w:World) (he:b1 < w.heap.size) (hf:b2 < w.heap.size) (h1:w.cell? ⟨b1,0,none⟩=some (.slice (some ⟨g,0,none⟩) (D*44) (D*44))) (h2:w.cell? ⟨b2,0,none⟩=some (.int .i64 44)) :
 Calls Tryz.prog 166 #[.slice none 0 0,.func (.func 167) #[] #[.pointer (some ⟨b1,0,none⟩),.pointer (some ⟨b2,0,none⟩)]] w fun e w'=>∃ v,e=.returned v∧w'.ownsRow w.heap.size 33 1 v D ((List.range D).map (chV g))∧Below w.heap.size w w':=by
 obtain ⟨n,HN⟩:∃ n:Nat,Hid (9≤n):=⟨9,Nat.le_refl _⟩
 refine (callsIn_wide (n:=n)).1 ?_
 refine callsIn_of_wp_marks Tryz.func166 rfl trivial ?_ rfl
 simp only [Tryz.ntmps166,List.size_toArray,List.length_cons,List.length_nil,Nat.reduceAdd,Nat.reduceSub,Array.replicate_succ,Array.replicate_zero,List.push_toArray,List.append_toArray,List.nil_append,List.cons_append]
 gi_wp2
 obtain ⟨w1,h8⟩:∃ w1,w.alloc (.cells #[.slice none 0 0] 57)=w1:=⟨_,rfl⟩
 have h0:Boxed w1 w.heap.size 57 (.slice none 0 0):=by rw [← h8];exact Boxed.new w _ _
 have k6:w1.heap.size=w.heap.size+1:=by rw [← h8];simp
 have hb:Below w.heap.size w w1:=by rw [← h8];exact (Below.refl _ w).alloc (Nat.le_refl _) _
 rw [h8]
 clear h8
 have hi:ApI w g w1.heap.size D [] w1:=⟨⟨_,h0,World.ownsRow_nil _ _ _ _⟩,hb,Nat.le_refl _⟩
 refine wpIn_rangeFunc_ownG rfl (by have:=HN.out;omega) (gf:=167) (lb:=#[.pointer (some ⟨b1,0,none⟩),.pointer (some ⟨b2,0,none⟩)]) rfl trivial (enters_of Tryz.func167 (by kernel_rfl) rfl)
  (chunks_stops (n - 1) b1 b2 g D hD w1 (by omega) (by omega) ((hb.cell (p:=⟨b1,0,none⟩) he).trans h1) ((hb.cell (p:=⟨b2,0,none⟩) hf).trans h2)) (fun h k=>⟨k.1.trans h.1,k.2.trans h.2⟩) (fun W l o o' hl _ _ _=>⟨World.putObj_heap_other (by omega),World.putObj_heap_other (by omega)⟩) (Below.refl _ _) (fun _=>rfl)
  (ApI w g w1.heap.size D) (fun _ _ _=>False) (ApI.own (by omega)) (fun _ _ _ _ _ h _ _=>h.elim) hi
  (fun x=>{ tmps:=#[.slice none 0 0,.func (.func 167) #[] #[.pointer (some ⟨b1,0,none⟩),.pointer (some ⟨b2,0,none⟩)],.pointer (some ⟨w.heap.size,0,none⟩),undef,.slice none 0 0,chV g x.1,.func (.func 167) #[] #[.pointer (some ⟨b1,0,none⟩),.pointer (some ⟨b2,0,none⟩)],chV g x.1,undef,undef,undef,undef,undef],defers:=[] }) ?assign ?body ?done ?stop
 case assign=>
  intro l2 x X Kk hK
  unfold encCh
  gi_wp2
  exact hK
 case body=>
  rintro l2 pre x X ⟨⟨v,hv,h4⟩,h5,hX⟩ hj
  have c0:=hv.cell
  have hz:=hv.lt
  have k7:pre.length≤1000:=by omega
  obtain ⟨kk,hm⟩:∃ kk,x.1*44=kk:=⟨_,rfl⟩
  have h9:chV g x.1=.slice (some ⟨g,kk,none⟩) 44 44:=by rw [← hm];rfl
  have ha:(Value.slice (some ⟨g,kk,none⟩) 44 44).oneCell'=true:=rfl
  have hn:(X.alloc (.cells #[.slice (some ⟨g,kk,none⟩) 44 44] 33)).cell? ⟨X.heap.size,0,none⟩=some (.slice (some ⟨g,kk,none⟩) 44 44):=(Boxed.new X 33 (.slice (some ⟨g,kk,none⟩) 44 44)).cell
  have H:=hide5 hv h4 h5 hX h9
  rw [h9]
  clear hv h4 h5 hX h9
  have HA:Hid ((X.alloc (.cells #[.slice (some ⟨g,kk,none⟩) 44 44] 33)).ownsRow (w.heap.size+1) 33 1 v pre.length (pre.map fun x=>chV g x.1)):=hide (ownsRow_below H.out.2.1 ((Below.refl _ X).alloc (Nat.le_refl _) _))
  have HB:Hid (w.heap.size+1≤(X.alloc (.cells #[.slice (some ⟨g,kk,none⟩) 44 44] 33)).heap.size):=hide (by simp;omega)
  gi_wp2_with (
   gi_at_builtin;
   refine in_chunk rfl (.tmp 8) (.tmp 10) rfl (w.heap.size+1) X.heap.size pre.length (pre.map fun x=>chV g x.1) (.slice (some ⟨g,kk,none⟩) 44 44) v (by rfl) (by rfl) (by exact HA.out) (by exact hn) ha HB.out (by omega) ?_;
   intro g' cap' w2 k8 h6 h3;
   have hc:Boxed w2 w.heap.size 57 v:=(h3.block w.heap.size (by simp;omega) (fun e=>by have:=(H.out.2.1.lt _ e.symm).1;omega)).trans (H.out.1.alloc _);
   have d0:=hc.cell;
   have f0:=hc.frozen)
  obtain ⟨hv,h4,h5,hX,h9⟩:=H.out
  have hp:∀ q,v.ownBlock=some q→w.heap.size+1≤q:=fun q e=>(h4.lt q e).1
  have hq:=h3.size
  simp only [World.size_alloc] at hq
  have hr:KeepsOthers X w2:=(KeepsOthers.alloc X (.cells #[.slice (some ⟨g,kk,none⟩) 44 44] 33)).trans (KeepsOthers.of_grownBy h3 fun j o e ho=>own_cells HA.out e ho)
  have h7:∀ k,k < w.heap.size→w2.heap[k]?=X.heap[k]?:=fun k hk=>(h3.block k (by simp;omega) (fun e=>by have:=hp k e.symm;omega)).trans (blk_alloc_lt _ _ _ (by omega))
  have hg:∀ k,k≠w.heap.size→(w2.setCell ⟨w.heap.size,0,none⟩ (.slice (some ⟨g',0,none⟩) (pre.length+1) cap')).heap[k]?=w2.heap[k]?:=fun k hk=>blk_setCell_other _ _ _ _ hk
  refine ⟨(hr.trans (KeepsOthers.setCell _ _ _)).from _,⟨(hg _ (by omega)).trans (h7 _ he),(hg _ (by omega)).trans (h7 _ hf)⟩,⟨_,hc.set _,?_⟩,?_,by simp [World.setCell];omega⟩
  · have q:=h6.kept (grown_setC w2 w.heap.size 0 (.slice (some ⟨g',0,none⟩) (pre.length+1) cap')) (.inr fun e=>by have:=(h6.lt _ e).1;omega)
    have e:(pre ++ [x]).map (fun x=>chV g x.1)=pre.map (fun x=>chV g x.1) ++ [.slice (some ⟨g,kk,none⟩) 44 44]:=by rw [List.map_append,← h9];rfl
    rw [e,List.length_append]
    exact q
  · refine (Below.setCell (p:=⟨w.heap.size,0,none⟩) ?_ (Nat.le_refl _) _)
    exact ⟨h3.os.trans h5.os,h3.tape.trans h5.tape,h3.output.trans h5.output,by have:=h5.size;omega,fun k hk=>(h7 k hk).trans (h5.block k hk)⟩
 case done=>
  rintro D' xs X hs hh ⟨⟨v,hv,h4⟩,h5,hX⟩ hK
  have c0:=hv.cell
  have H:=hide3 h4 h5 hK
  have k9:=hv.lt
  clear hv h4 h5 hK
  gi_wp2
  obtain ⟨h4,h5,hK⟩:=H.out
  have hy:xs.length=D:=by have:=congrArg List.length hh;simpa using this
  have k0:xs.map (fun x=>chV g x.1)=(List.range D).map (chV g):=by rw [← hh,List.map_map];rfl
  rw [hy,k0] at h4
  refine end_tmp (t:=4) Tryz.results166 rfl rfl hK ⟨_,rfl,?_,?_⟩
  · exact ownsRow_weaken (own_keep h4 (grownBy_putObj' X D' (.deferred none)) fun r e=>by cases e;exact ⟨_,hK,rfl⟩) (by omega)
  · exact Below.putObj' h5 (by omega) (Array.getElem?_eq_some_iff.1 hK).1 _
 case stop=>
  rintro D' cc pre X hs k5 hx hK
  exact hx.elim
theorem collect_chunks (g D b1 b2:Nat) (hD:D≤1000) (w:World) (h3:b1 < w.heap.size) (h4:b2 < w.heap.size) (h1:w.cell? ⟨b1,0,none⟩=some (.slice (some ⟨g,0,none⟩) (D*44) (D*44))) (h2:w.cell? ⟨b2,0,none⟩=some (.int .i64 44)) :
 Calls Tryz.prog 156 #[.func (.func 167) #[] #[.pointer (some ⟨b1,0,none⟩),.pointer (some ⟨b2,0,none⟩)]] w fun e w'=>∃ v,e=.returned v∧w'.ownsRow w.heap.size 33 1 v D ((List.range D).map (chV g))∧Below w.heap.size w w':=by
 have hc:=appendSeq_chunks g D b1 b2 hD w h3 h4 h1 h2
 clear h1 h2
 go_enter Tryz.func156,Tryz.ntmps156
 go_wp2_with fail
 refine hc.mono ?_
 rintro e w' ⟨v,rfl,h0,hb⟩
 have H:=hide2 h0 hb
 clear hc h0 hb
 go_wp2
 go_ret
 exact ⟨_,rfl,H.out.1,H.out.2⟩
def padD (D:Nat) (dl:List Nat):List Nat:=dl ++ List.replicate (D*44 - dl.length) 0
def rowsD (D:Nat) (dl:List Nat):List (List Nat):=(List.range D).map fun i=>((padD D dl).drop (i*44)).take 44
theorem padD_len (h:dl.length≤D*44):(padD D dl).length=D*44:=by unfold padD;simp;omega
theorem rowsD_len (D:Nat) (dl:List Nat):(rowsD D dl).length=D:=by simp [rowsD]
theorem rowsD_at (hi:i < (rowsD D dl).length):(rowsD D dl)[i]=((padD D dl).drop (i*44)).take 44:=by simp [rowsD]
theorem rowsD_row (h:dl.length≤D*44) (hi:i < D):(((padD D dl).drop (i*44)).take 44).length=44:=by
 rw [List.length_take,List.length_drop,padD_len h];omega
theorem padD_lt (h:∀ x∈dl,x < 256):∀ x∈padD D dl,x < 256:=by
 intro x hx
 unfold padD at hx
 rw [List.mem_append] at hx
 rcases hx with hx | hx
 · exact h x hx
 · have:=List.eq_of_mem_replicate hx;omega
theorem cut_ok (h:VolAt w v p D L G ps ho) (hD:D≤12) (vd:Value) (dl:List Nat) (hd:Bs w vd dl) (hl:dl.length≤D*44) :
 Calls Tryz.prog 142 #[.pointer (some ⟨v,0,none⟩),vd] w fun e w'=>∃ u,e=.returned u∧Rd w' u (rowsD D dl)∧Below w.heap.size w w':=by
 have hs:=stripeSize_any h (by omega)
 obtain ⟨dd,h9⟩:∃ dd,D*44=dd:=⟨_,rfl⟩
 have hp:dd≤528:=by omega
 rw [h9] at hs hl
 have HD:=hide hd
 clear hd
 go_enter Tryz.func142,Tryz.ntmps142
 go_wp2_with fail
 refine hs.mono ?_
 rintro e w1 ⟨rfl,rfl⟩
 go_wp2_with (at_make;refine wpList_mk _ rfl (.tmp 7) (.tmp 7) rfl _ dd (by rfl) (by rfl) rfl (by omega) ?_;intro w2 hB hc k5;obtain ⟨w3,hq,h4,he⟩:=row_copy (n:=dd) (cap:=dd) (off:=0) 3 hB (HD.out.mono hc) (by omega) (by simp;omega))
 have h5:Below w1.heap.size w1 w3:=hc.grown he (by omega) (fun k e=>by cases e;exact Nat.le_refl _)
 have k6:=he.size
 have h6:spl (List.replicate dd 0) 0 dl=padD D dl:=by
  unfold spl padD
  rw [List.take_zero,List.nil_append,Nat.zero_add,List.drop_replicate,h9]
 rw [h6] at h4
 have hf:=chunk_any w1.heap.size D w3
 rw [h9] at hf
 have H3:=hide3 h4 h5 hf
 clear hq hB hc he h4 h5 hf h6
 refine H3.out.2.2.mono ?_
 rintro e w4 ⟨rfl,rfl⟩
 obtain ⟨w4,h3⟩:∃ w4,(w3.alloc (.cells #[.slice (some ⟨w1.heap.size,0,none⟩) dd dd] 33)).alloc (.cells #[.int .i64 44] 3)=w4:=⟨_,rfl⟩
 have h7:Below w3.heap.size w3 w4:=by rw [← h3];exact ((Below.refl _ w3).alloc (Nat.le_refl _) _).alloc (by simp) _
 have hy:w4.heap.size=w3.heap.size+2:=by rw [← h3];simp
 have g1:w4.cell? ⟨w3.heap.size,0,none⟩=some (.slice (some ⟨w1.heap.size,0,none⟩) (D*44) (D*44)):=by rw [← h3,h9];exact ((Boxed.new w3 _ _).alloc _).cell
 have g2:w4.cell? ⟨w3.heap.size+1,0,none⟩=some (.int .i64 44):=by
  have:=(Boxed.new (w3.alloc (.cells #[.slice (some ⟨w1.heap.size,0,none⟩) dd dd] 33)) 3 (.int .i64 44)).cell
  rw [World.size_alloc] at this
  rw [← h3];exact this
 have hk:=collect_chunks w1.heap.size D w3.heap.size (w3.heap.size+1) (by omega) w4 (by omega) (by omega) g1 g2
 rw [h3]
 have H4:=hide2 h7 hk
 clear h3 h7 hk g1 g2 hy
 go_wp2_with fail
 refine H4.out.2.mono ?_
 rintro e w5 ⟨u,rfl,h2,ha⟩
 have H5:=hide2 h2 ha
 clear h2 ha
 go_wp2
 go_ret
 obtain ⟨h4,h5,_⟩:=H3.out
 obtain ⟨h7,_⟩:=H4.out
 obtain ⟨h2,ha⟩:=H5.out
 have h8:Below w3.heap.size w3 w5:=h7.trans (ha.mono h7.size)
 have hz:Brow w5 w1.heap.size (padD D dl):=h4.below h8
 refine ⟨u,rfl,?_,h5.trans (h8.mono h5.size)⟩
 rcases h2.2 with ⟨h0,h1⟩ | ⟨q,cap,cur,e1,e2,e3,e4,e5,e6,e7⟩
 · subst h0
   have:rowsD D dl=[]:=by rw [← List.length_eq_zero_iff,rowsD_len];exact h1
   exact ⟨none,0,by rw [this];rfl,by rw [this];decide,fun hh=>absurd this hh⟩
 · refine ⟨some ⟨q,0,none⟩,cap,by rw [e1,rowsD_len],by rw [rowsD_len];omega,fun _=>⟨q,0,rfl,fun i hi=>?_⟩⟩
   have hg:=hi
   rw [rowsD_len] at hg
   refine ⟨chV w1.heap.size i,?_,?_⟩
   · have:=h2.cells (g:=q) (by rw [e1];rfl) i (chV w1.heap.size i) (by simp [hg])
     rw [add0] at this
     rw [Nat.zero_add];exact this
   · rw [rowsD_at hi]
     have hj:=rowsD_row (D:=D) (dl:=dl) (by omega) hg
     have hr:w5.rangeAt w1.heap.size 0 (bts (padD D dl)):=fun j u hu=>by
      have hh:=hz.heapB
      have k0:(bts (padD D dl)).toArray[j]?=some u:=by simpa using hu
      simp [World.cell?,hh,k0]
     have hn:=range_take 44 (range_drop (i*44) hr)
     rw [Nat.zero_add] at hn
     have hm:=Bs.mid (c:=44) (l:=((padD D dl).drop (i*44)).take 44) (by omega) (by omega) (fun x hx=>padD_lt HD.out.lt x (List.mem_of_mem_drop (List.mem_of_mem_take hx))) hn
     rw [hj] at hm
     exact hm
end
section
open Go.Deep Gf
def rdA (v b g N gone sp:Nat):Array Value:=#[.pointer (some ⟨v,0,none⟩),.int .i64 b,.slice (some ⟨g,0,none⟩) N N,.int .u64 gone,.int .u64 sp]
def RdAt (w:World) (r v b g N gone sp:Nat):Prop:=w.heap[r]?=some (.cells (rdA v b g N gone sp) 149 (0,0))
theorem RdAt.keep (h:RdAt w r v b g N gone sp) (e:w'.heap[r]?=w.heap[r]?):RdAt w' r v b g N gone sp:=e.trans h
theorem RdAt.lt (h:RdAt w r v b g N gone sp):r < w.heap.size:=(Array.getElem?_eq_some_iff.1 h).1
theorem RdAt.cells (h:RdAt w r v b g N gone sp):w.cell? ⟨r,0,none⟩=some (.pointer (some ⟨v,0,none⟩))∧w.cell? ⟨r,1,none⟩=some (.int .i64 b)∧w.cell? ⟨r,2,none⟩=some (.slice (some ⟨g,0,none⟩) N N)∧w.cell? ⟨r,3,none⟩=some (.int .u64 gone)∧w.cell? ⟨r,4,none⟩=some (.int .u64 sp):=by
 have h':w.heap[r]?=some (.cells (rdA v b g N gone sp) 149 (0,0)):=h
 simp [World.cell?,h',rdA]
theorem RdAt.free (h:RdAt w r v b g N gone sp) (i:Nat):w.frozen? ⟨r,i,none⟩=false:=by
 have h':w.heap[r]?=some (.cells (rdA v b g N gone sp) 149 (0,0)):=h
 simp [World.frozen?,h']
theorem wpList_mkNils (w:World) {ops:Array Oper} {rest:List Oper} {o:Oper} {a:Act} {Q:Exit→Act→World→Prop}
 (hg:o.guard=none) (l c:Operand) (h1:o.op=Op.makeSlice 57 l c) (C:Int) (n:Nat) (hl:a.eval l=.int .i64 C) (hc:a.eval c=.int .i64 C) (hC:C=(n:Int)) (hn:n≤1000000)
 (hK:∀ w',w'.rowIs w.heap.size 33 n (fun _=>.slice none 0 0)→Below w.heap.size w w'→w'.heap.size=w.heap.size+1→wpList Tryz.prog ops Q rest (a.put o.dst (.slice (some ⟨w.heap.size,0,none⟩) n n)) w') :
 wpList Tryz.prog ops Q (o :: rest) a w:=by
 refine wpList_plain hg fun K h2=>?_
 have h0:=run_make_row' (P:=Tryz.prog) 57 33 (.slice none 0 0) 24 Tryz.underlying57 Tryz.infoBytes2 rfl .i64 .i64 n (by omega) (by omega) w
 subst hC
 unfold Oper.wp
 simp [execOp,h1,hl,hc,h0,Result.andThen]
 exact h2 _ _ (hK _ (World.rowIs_made w _ n _) ((Below.refl _ _).alloc (Nat.le_refl _) _) (nblk_alloc _ _))
theorem run_clear_nils (w:World) (ty:TypeId) (g N c:Nat) (f:Nat→Value) (h:w.rowIs g 33 N f) (hN:0 < N):(Builtin.clear_ #[57] ty #[.slice (some ⟨g,0,none⟩) N c]).run Tryz.prog w=.ok (.tuple #[]) (w.setRow g (List.replicate N (Value.slice none 0 0)).toArray):=by
 obtain ⟨cs,h1,h2,h3⟩:=h
 obtain ⟨i0,h0,h4,h5,h6⟩:=info_parts Tryz.infoBytes2
 have hz:(Builtin.zeroCells (Value.cells (.slice none 0 0)) N).toList=List.replicate N (Value.slice none 0 0):=by
  apply List.ext_getElem
  · simp [Builtin.zeroCells,Value.cells]
  · intro i _ _
    simp [Builtin.zeroCells,Value.cells,Nat.mod_one]
 have hs:=run_storeCells_from (P:=Tryz.prog) g 33 (List.replicate N (Value.slice none 0 0)) 0 cs w h1 (by simp [h2]) (fun v hv=>by rw [List.eq_of_mem_replicate hv];rfl)
 have h7:N≠0:=by omega
 simp only [List.take_zero,List.nil_append] at hs
 obtain ⟨m,rfl⟩:∃ m,N=m+1:=⟨N - 1,by omega⟩
 simp [Builtin.clear_,run_underlying Tryz.underlying57,zeroValue,typeInfo,h0,h4,hz,hs]
theorem wpList_clear (w:World) {ops:Array Oper} {rest:List Oper} {o:Oper} {a:Act} {Q:Exit→Act→World→Prop} (h2:o.guard=none) (s:Operand)
 (ho:o.op=.call { callee:=.builtin .clear,args:=#[s],argTypes:=#[57] }) (h0:o.dst=none) {g N c:Nat} {f:Nat→Value} (hv:a.eval s=.slice (some ⟨g,0,none⟩) N c) (hr:w.rowIs g 33 N f) (hN:0 < N)
 (h:∀ w',w'.rowIs g 33 N (fun _=>.slice none 0 0)→Outside (fun k=>k=g) w w'→wpList Tryz.prog ops Q rest a w'):wpList Tryz.prog ops Q (o :: rest) a w:=by
 refine wpList_plain h2 fun K hK=>?_
 unfold Oper.wp execOp
 simp only [ho,resolve,invoke,builtin,Sem.run_bind,Sem.run_pure,Result.andThen_ok,List.map_toArray,List.map_cons,List.map_nil,hv,run_clear_nils w _ g N c f hr hN]
 have hg:=grown_setRow' w g (List.replicate N (Value.slice none 0 0)).toArray
 obtain ⟨cs,h1,_⟩:=hr
 refine hK _ _ ?_
 rw [h0]
 exact h _ ⟨_,setRow_heap _ _ _ _ _ _ h1,by simp,fun i hi=>by simp [hi]⟩ ⟨hg.os,hg.tape,hg.output,hg.size,fun k hk h3=>hg.block k hk (fun e=>h3 (Option.some.inj e))⟩
theorem setRow_of3 (w:World) (r:Nat) {v b0 g N gone sp:Nat} (h:RdAt w r v b0 g N gone sp) (b ho:Nat):RdAt (((w.setCell ⟨r,1,none⟩ (.int .i64 b)).setCell ⟨r,3,none⟩ (.int .u64 0)).setCell ⟨r,4,none⟩ (.int .u64 ho)) r v b g N 0 ho∧Outside (fun k=>k=r) w (((w.setCell ⟨r,1,none⟩ (.int .i64 b)).setCell ⟨r,3,none⟩ (.int .u64 0)).setCell ⟨r,4,none⟩ (.int .u64 ho)):=by
 refine ⟨?_,((Outside.setCell (S:=fun k=>k=r) w ⟨r,1,none⟩ _ rfl).trans (Outside.setCell _ ⟨r,3,none⟩ _ rfl)).trans (Outside.setCell _ ⟨r,4,none⟩ _ rfl)⟩
 have h1:=heap_setCell_same w r 1 _ _ (.int .i64 b) h
 have h2:=heap_setCell_same _ r 3 _ _ (.int .u64 0) h1
 exact heap_setCell_same _ r 4 _ _ (.int .u64 ho) h2
theorem turn_ok {b0:Nat} {f:Nat→Value} (h:RdAt w r v b0 g N gone sp) (hV:VolAt w v p D L G ps ho) (hr:w.rowIs g 33 N f) (hN:0 < N) (h1:g≠r) (h3:v≠g) (b:Nat) :
 Calls Tryz.prog 61 #[.pointer (some ⟨r,0,none⟩),.int .i64 b] w fun e w'=>e=.returned (.tuple #[])∧RdAt w' r v b g N 0 ho∧w'.rowIs g 33 N (fun _=>.slice none 0 0)∧Outside (fun k=>k=r∨k=g) w w':=by
 obtain ⟨c0,c1,c2,c3,c4⟩:=h.cells
 have H:=hide3 h hV hr
 clear h hV hr
 go_enter Tryz.func61,Tryz.ntmps61
 go_wp2_with (show wpList _ _ _ ({ dst:=none,op:=.call { callee:=.builtin .clear,args:=_,argTypes:=_ },type:=_,pos:=_,after:=_,guard:=_ } :: _) _ _;refine wpList_clear _ rfl (.tmp 7) rfl rfl (g:=g) (N:=N) (c:=N) (f:=f) rfl (by exact H.out.2.2) hN ?_;intro w1 h2 h0;obtain ⟨d0,d1,d2,d3,d4⟩:=(H.out.1.keep (h0.block _ H.out.1.lt (fun e=>h1 e.symm))).cells;obtain ⟨_,_,_,_,_,v5⟩:=(H.out.2.1.keep (h0.block _ H.out.2.1.lt h3)).cells;have f1:=(H.out.1.keep (h0.block _ H.out.1.lt (fun e=>h1 e.symm))).free 1;have f3:=(H.out.1.keep (h0.block _ H.out.1.lt (fun e=>h1 e.symm))).free 3;have f4:=(H.out.1.keep (h0.block _ H.out.1.lt (fun e=>h1 e.symm))).free 4;have H1:=hide2 h2 h0;clear h2 h0 c0 c1 c2 c3 c4)
 first | go_end0 | skip
 have hh:=H.out.1.keep (H1.out.2.block _ H.out.1.lt (fun e=>h1 e.symm))
 have e1:=setRow_of3 w1 r hh b ho
 refine ⟨rfl,e1.1,H1.out.1.of_block (e1.2.block _ H1.out.1.lt (fun e=>h1 e)),(H1.out.2.mono fun _ _ e=>.inr e).trans (e1.2.mono fun _ _ e=>.inl e)⟩
end
section
open Go.Shelf
theorem opW_val {v:Value} (hr:(execOp a.eval o).run P w=.ok (.value v) w') (h0:∀ c,o.op≠.defer c) {d:Nat} (hd:o.dst=some d) (h:B w'∧Vi v w'∧S w') :
 o.wpIn Fence.wide n P a w (fun a' w'=>∃ v,a'=a.put o.dst v∧(o.dst=none→v=undef)∧B w'∧Vi v w'∧S w') Q:=by
 refine ⟨fun _ _=>trivial,?_⟩
 rw [Oper.semAt_plain _ _ _ h0,hr]
 exact ⟨v,rfl,fun e=>(by rw [hd] at e;cases e),h.1,h.2.1,h.2.2⟩
theorem opW_skip (hr:(execOp a.eval o).run P w=.ok .skip w') (h0:∀ c,o.op≠.defer c) (h:B w'∧Vi undef w'∧S w') :
 o.wpIn Fence.wide n P a w (fun a' w'=>∃ v,a'=a.put o.dst v∧(o.dst=none→v=undef)∧B w'∧Vi v w'∧S w') Q:=by
 refine ⟨fun _ _=>trivial,?_⟩
 rw [Oper.semAt_plain _ _ _ h0,hr]
 exact ⟨undef,rfl,fun _=>rfl,h.1,h.2.1,h.2.2⟩
theorem opW_call {w1:World} {f:FuncId} {args:Array Value} {Rr:Ending→World→Prop} (hr:(execOp a.eval o).run P w=.ok (.enter f args) w1) (h0:∀ c,o.op≠.defer c) {d:Nat} (hd:o.dst=some d) (hc:Calls P f args w1 Rr)
 (h:∀ e w',Rr e w'→∃ v,e=.returned v∧B w'∧Vi v w'∧S w'):o.wpIn Fence.wide n P a w (fun a' w'=>∃ v,a'=a.put o.dst v∧(o.dst=none→v=undef)∧B w'∧Vi v w'∧S w') Q:=by
 refine ⟨fun _ _=>trivial,?_⟩
 rw [Oper.semAt_plain _ _ _ h0,hr]
 refine ⟨fun h=>(by cases h),(callsIn_wide.2 (hc.mono fun e w' hR=>?_))⟩
 obtain ⟨v,rfl,q1,q2,q3⟩:=h e w' hR
 exact ⟨v,rfl,fun e=>(by rw [hd] at e;cases e),q1,q2,q3⟩
end
def inTwo (ds:List (Option Nat)) (l1 n1 l2 n2:Nat):Bool:=ds.all fun x=>match x with
 | none=>true
 | some d=>(decide (l1≤d) && decide (d < l1+n1)) || (decide (l2≤d) && decide (d < l2+n2))
theorem out2 {l1 l2:Nat} {vs1 vs2:List Value} {ds:List (Option Nat)} (h1:a'.tmps.size=a.tmps.size) (h2:a'.defers=a.defers) (h0:∀ s,(∀ x∈ds,x≠some s)→a'.eval (.tmp s)=a.eval (.tmp s)) (h3:inTwo ds l1 vs1.length l2 vs2.length=true)
 (h7:l1+vs1.length≤l2) (hs:l2+vs2.length≤a.tmps.size) (h4:∀ i,i < vs1.length→a'.eval (.tmp (l1+i))=vs1.getD i undef) (h5:∀ i,i < vs2.length→a'.eval (.tmp (l2+i))=vs2.getD i undef):a'=Act.putFrom (Act.putFrom a l1 vs1) l2 vs2:=by
 obtain ⟨p1,p2⟩:=putFrom_size vs1 a l1
 obtain ⟨q1,q2⟩:=putFrom_size vs2 (Act.putFrom a l1 vs1) l2
 refine act_ext (h1.trans (q1.trans p1).symm) (h2.trans (q2.trans p2).symm) fun s _=>?_
 rw [putFrom_eval vs2 _ l2 s (by rw [p1];exact hs)]
 by_cases e:l2≤s∧s < l2+vs2.length
 · rw [if_pos e]
   have:=h5 (s - l2) (by omega)
   rwa [show l2+(s - l2)=s by omega] at this
 · rw [if_neg e,putFrom_eval vs1 a l1 s (by omega)]
   by_cases e1:l1≤s∧s < l1+vs1.length
   · rw [if_pos e1]
     have:=h4 (s - l1) (by omega)
     rwa [show l1+(s - l1)=s by omega] at this
   · rw [if_neg e1]
     refine h0 s fun x hx h6=>?_
     unfold inTwo at h3
     rw [List.all_eq_true] at h3
     have:=h3 x hx
     rw [h6] at this
     simp at this
     omega
theorem same_ds {sh:List (Op×Option Nat×List Nat)} (h:∀ s,(∀ i,i < sh.length→(shAt sh i).2.1≠some s)→a'.eval (.tmp s)=a.eval (.tmp s)):∀ s,(∀ x∈sh.map (fun x=>x.2.1),x≠some s)→a'.eval (.tmp s)=a.eval (.tmp s):=fun s hs=>h s fun i hi e=>hs _ (List.mem_map.2 ⟨sh[i],List.getElem_mem hi,rfl⟩) (by
 have:shAt sh i=sh[i]:=by simp [shAt,hi]
 rw [← this];exact e)
end Go.Proofs.YthcgahldacpolaaGreatDoor
