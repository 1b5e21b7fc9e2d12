import Derived.Test.YthcgahldacpolaaGreatDoorM06
import Derived.Test.YthcgahldacpolaaGreatDoorM12
set_option maxRecDepth 100000
set_option maxHeartbeats 8000000
namespace Go.Proofs.YthcgahldacpolaaGreatDoor
open Go.RowKit
variable {a:Act} {ops:Array Oper} {Q:Exit→Act→World→Prop} {Fc:Fence} {F:Foot} {sh:List (Op×Option Nat×List Nat)} {v p D L G ps ho n b lo hi l:Nat} {o:Oper} {P:Program} {Vi:Value→World→Prop} {w w' Z:World} {B S:World→Prop}
section
open Go.Shelf Go.Deep Gf
attribute [local go_sem] Oper.semAt_some
def Arr.putAt (A:Arr) (ds:List Nat) (b:Nat) (f:Nat→List Nat):Arr:={ A with blk:=fun i m=>if i∈ds∧m=b then f i else A.blk i m,bad:=fun i m=>if i∈ds∧m=b then false else A.bad i m }
theorem putAt_nil (A:Arr) (b:Nat) (f:Nat→List Nat):A.putAt [] b f=A:=by simp [Arr.putAt]
theorem putAt_snoc (A:Arr) (ds:List Nat) (d b:Nat) (f:Nat→List Nat):((A.putAt ds b f).setBlk d b (f d)).setBad d b false=A.putAt (ds ++ [d]) b f:=by
 unfold Arr.putAt Arr.setBlk Arr.setBad
 congr 1
 · funext i m
   simp only [List.mem_append,List.mem_singleton]
   by_cases e:i=d∧m=b
   · obtain ⟨rfl,rfl⟩:=e
     rw [if_pos ⟨rfl,rfl⟩,if_pos ⟨.inr rfl,rfl⟩]
   · rw [if_neg e]
     by_cases e2:i∈ds∧m=b
     · rw [if_pos e2,if_pos ⟨.inl e2.1,e2.2⟩]
     · rw [if_neg e2,if_neg (fun q=>q.1.elim (fun h=>e2 ⟨h,q.2⟩) (fun h=>e ⟨h,q.2⟩))]
 · funext i m
   simp only [List.mem_append,List.mem_singleton]
   by_cases e:i=d∧m=b
   · obtain ⟨rfl,rfl⟩:=e
     rw [if_pos ⟨rfl,rfl⟩,if_pos ⟨.inr rfl,rfl⟩]
   · rw [if_neg e]
     by_cases e2:i∈ds∧m=b
     · rw [if_pos e2,if_pos ⟨.inl e2.1,e2.2⟩]
     · rw [if_neg e2,if_neg (fun q=>q.1.elim (fun h=>e2 ⟨h,q.2⟩) (fun h=>e ⟨h,q.2⟩))]
theorem Arr.fit.putAt {A:Arr} (h:A.fit) (ds:List Nat) (b:Nat) (f:Nat→List Nat) (hf:∀ i,i∈ds→(f i).length=64∧∀ x∈f i,x < 256):(A.putAt ds b f).fit:=by
 refine ⟨h.n,h.nb,fun k m=>?_,fun k m=>?_⟩
 · show (if k∈ds∧m=b then f k else A.blk k m).length=64
   split
   · rename_i q;exact (hf k q.1).1
   · exact h.len k m
 · show ∀ x∈(if k∈ds∧m=b then f k else A.blk k m),x < 256
   split
   · rename_i q;exact (hf k q.1).2
   · exact h.byt k m
theorem tabLaid.keep (h:tabLaid w) (e:w'.heap[1]?=w.heap[1]?):tabLaid w':=fun j hj=>by
 rw [← h j hj]
 unfold World.cell?
 rw [e]
theorem tabLaid.lt (h:tabLaid w):1 < w.heap.size:=block_lt_of_cell (h 0 (by decide))
theorem hvLaid.keep (h:hvLaid w) (e:w'.heap[2]?=w.heap[2]?):hvLaid w':=fun j hj=>by
 rw [← h j hj]
 unfold World.cell?
 rw [e]
structure Vol (w:World) (v p D L G ps ho:Nat) (A:Arr) (F:Foot):Prop where
 vol:VolAt w v p D L G ps ho
 arr:ArrAt w p A F
 laid:hvLaid w
 tab:tabLaid w
 room:3≤w.heap.size
structure Free (F:Foot) (p n v:Nat):Prop where
 v:¬ F.has p n v
 g:¬ F.has p n 2
 t:¬ F.has p n 1
theorem Vol.below {A:Arr} (h:Vol w v p D L G ps ho A F) {B:Nat} (hb:Below B w w') (hB:w.heap.size≤B):Vol w' v p D L G ps ho A F:=
 ⟨h.vol.keep (hb.block _ (Nat.lt_of_lt_of_le h.vol.lt hB)),h.arr.below hb hB,h.laid.below hb (Nat.lt_of_lt_of_le h.laid.lt hB),h.tab.keep (hb.block _ (Nat.lt_of_lt_of_le h.tab.lt hB)),Nat.le_trans h.room hb.size⟩
theorem Vol.turn {A A':Arr} (h:Vol w v p D L G ps ho A F) (hF:Free F p n v) (hO:Outside (F.has p n) w w') (hA:ArrAt w' p A' F):Vol w' v p D L G ps ho A' F:=
 ⟨h.vol.keep (hO.block _ h.vol.lt hF.v),hA,h.laid.keep (hO.block _ h.laid.lt hF.g),h.tab.keep (hO.block _ h.tab.lt hF.t),Nat.le_trans h.room hO.size⟩
theorem end_cell {fn:Func} {D' t8:Nat} {ty:TypeId} {x:Value} {R:Ending→World→Prop} (hr:fn.results=#[.cell t8 ty]) (hd:a.defers=[{ target:=.collected D',args:=#[] }]) (h8:a.tmps.getD t8 undef=.pointer (some ⟨b,0,none⟩))
 (hl:∀ w,w.heap[b]?=Z.heap[b]?→(loadVar ty ⟨b,0,none⟩).run Tryz.prog w=.ok x w) (hK:Z.heap[D']?=some (.deferred (some []))) (hD:b≠D')
 (hR:R (.returned x) (Z.putObj D' (.deferred none))):bodyPostM Fence.wide n Tryz.prog fn R .ret a Z:=by
 obtain ⟨tm,df⟩:=a
 simp only at hd h8
 subst hd
 refine ⟨by simp,.inl ⟨_,_,rfl,run_takeDeferred hK,?_⟩⟩
 have c0:=hl (Z.putObj D' (.deferred none)) (World.putObj_heap_other hD)
 refine ⟨x,?_,hR⟩
 have h0:tm[t8]?.getD undef=.pointer (some ⟨b,0,none⟩):=by simpa using h8
 simp [results,hr,asAddr,h0,c0]
theorem load_set {s:Nat} (h:Boxed Z b 101 (.int .u64 s)) (w:World) (e:w.heap[b]?=Z.heap[b]?):(loadVar 101 ⟨b,0,none⟩).run Tryz.prog w=.ok (.int .u64 s) w:=by
 have hc:w.cell? ⟨b,0,none⟩=some (.int .u64 s):=(show Boxed w b 101 (.int .u64 s) from e.trans h).cell
 simp [go_sem,hc]
structure WcI (w:World) (v p b:Nat) (r:Rec) (A:Arr) (F:Foot) (B S:Nat) (pre:List (Mb S)) (X:World):Prop where
 b0:Boxed X w.heap.size 91 (.pointer (some ⟨v,0,none⟩))
 b1:Boxed X (w.heap.size+1) 3 (.int .i64 b)
 b2:Boxed X (w.heap.size+1+1) 164 (recV r)
 b3:Boxed X (w.heap.size+1+1+1) 101 (.int .u64 0)
 arr:ArrAt X p (A.putAt (preM pre) b (fun _=>r.blk)) F
 out:Outside (F.has p A.n) w X
 size:B≤X.heap.size
theorem WcI.own {r:Rec} {A:Arr} {B S:Nat} (hB:w.heap.size+4≤B) (hF:∀ k,F.has p A.n k→k < w.heap.size):OwnFrom B (WcI w v p b r A F B S):=by
 rintro pre X Y row ⟨h0,h1,h2,h3,h4,h5,h6⟩ hg hr
 have hk:∀ k,k < w.heap.size+4→Y.heap[k]?=X.heap[k]?:=fun k hk=>hg.block k (by omega) (fun e=>by have:=(hr k e.symm).1;omega)
 exact ⟨(hk _ (by omega)).trans h0,(hk _ (by omega)).trans h1,(hk _ (by omega)).trans h2,(hk _ (by omega)).trans h3,h4.keep fun k h7=>hk k (by have:=hF k h7;omega),h5.later (T:=fun k=>w.heap.size≤k) ⟨hg.os,hg.tape,hg.output,hg.size,fun k h8 h9=>hk k (by omega)⟩ (fun k h8 h9=>by omega),Nat.le_trans h6 hg.size⟩
theorem writeCopies_ok {A:Arr} (hV:Vol w v p D L G ps ho A F) (hF:Free F p A.n v) (hf:A.fit) (b S:Nat) (hb:b < A.nb) (hS:S < 65536) (k7:∀ i,i∈mems S→i < A.n) (hw:A.wait < 0) (hl:∀ i,i∈mems S→A.lost i=false)
 (r:Rec) (hr:r.ok) (hm:Makes r) :
 Calls Tryz.prog 69 #[.pointer (some ⟨v,0,none⟩),.int .i64 b,recV r,.int .u64 S] w fun e w'=>e=.returned (.int .u64 0)∧ArrAt w' p (A.putAt (mems S) b (fun _=>r.blk)) F∧Outside (F.has p A.n) w w':=by
 obtain ⟨n,HN⟩:∃ n:Nat,Hid (9≤n):=⟨9,Nat.le_refl _⟩
 obtain ⟨rv,h9⟩:∃ rv,recV r=rv:=⟨_,rfl⟩
 have k8:∃ ty rx,rv=.iface ty rx:=by cases r <;> exact ⟨_,_,h9.symm⟩
 obtain ⟨ty,rx,rfl⟩:=k8
 rw [h9]
 have HR:=hide h9
 clear h9
 have hh:∀ k,F.has p A.n k→k < w.heap.size:=fun k hk=>hV.arr.has_lt hk
 have k9:=blk_len hr
 have ka:=blk_lt hr
 refine (callsIn_wide (n:=n)).1 ?_
 refine callsIn_of_wp_marks Tryz.func69 rfl trivial ?_ rfl
 simp only [Tryz.ntmps69,List.size_toArray,List.length_cons,List.length_nil,Nat.reduceAdd,Nat.reduceSub,Array.replicate_succ,Array.replicate_zero,List.push_toArray,List.append_toArray,List.nil_append,List.cons_append]
 gi_wp2
 obtain ⟨w4,h6⟩:∃ w4,(((w.alloc (.cells #[.pointer (some ⟨v,0,none⟩)] 91)).alloc (.cells #[.int .i64 (b:Int)] 3)).alloc (.cells #[.iface ty rx] 164)).alloc (.cells #[.int .u64 0] 101)=w4:=⟨_,rfl⟩
 have h0:Boxed w4 w.heap.size 91 (.pointer (some ⟨v,0,none⟩)):=by rw [← h6];exact (((Boxed.new w _ _).alloc _).alloc _).alloc _
 have h1:Boxed w4 (w.heap.size+1) 3 (.int .i64 b):=by
  rw [← h6]
  have:=Boxed.new (w.alloc (.cells #[.pointer (some ⟨v,0,none⟩)] 91)) 3 (.int .i64 b)
  rw [World.size_alloc] at this
  exact (this.alloc _).alloc _
 have h2:Boxed w4 (w.heap.size+1+1) 164 (recV r):=by
  rw [← h6,HR.out]
  have:=Boxed.new ((w.alloc (.cells #[.pointer (some ⟨v,0,none⟩)] 91)).alloc (.cells #[.int .i64 (b:Int)] 3)) 164 (.iface ty rx)
  rw [World.size_alloc,World.size_alloc] at this
  exact this.alloc _
 have h3:Boxed w4 (w.heap.size+1+1+1) 101 (.int .u64 0):=by
  rw [← h6]
  have:=Boxed.new (((w.alloc (.cells #[.pointer (some ⟨v,0,none⟩)] 91)).alloc (.cells #[.int .i64 (b:Int)] 3)).alloc (.cells #[.iface ty rx] 164)) 101 (.int .u64 0)
  rw [World.size_alloc,World.size_alloc,World.size_alloc] at this
  exact this
 have hj:w4.heap.size=w.heap.size+4:=by rw [← h6];simp
 have hq:Below w.heap.size w w4:=by rw [← h6];exact ((((Below.refl _ w).alloc (Nat.le_refl _) _).alloc (by simp) _).alloc (by simp;omega) _).alloc (by simp;omega) _
 rw [h6]
 clear h6
 refine at_wide (members_any S w4) ?_
 rintro e w' ⟨rfl,rfl⟩
 have hs:(w4.alloc (.cells #[.int .u64 (S:Int)] 101)).heap.size=w4.heap.size+1:=by simp
 have hy:(w4.alloc (.cells #[.int .u64 (S:Int)] 101)).cell? ⟨w4.heap.size,0,none⟩=some (.int .u64 (S:Int)):=(Boxed.new w4 101 (.int .u64 (S:Int))).cell
 have ha:Below w.heap.size w (w4.alloc (.cells #[.int .u64 (S:Int)] 101)):=hq.alloc (by omega) _
 have hz:WcI w v p b r A F (w4.heap.size+1) S [] (w4.alloc (.cells #[.int .u64 (S:Int)] 101)):=
  ⟨h0.alloc _,h1.alloc _,h2.alloc _,h3.alloc _,by rw [show preM ([]:List (Mb S))=[] from rfl,putAt_nil];exact hV.arr.below ha (Nat.le_refl _),Outside.of_all ha _,by omega⟩
 obtain ⟨w6,k0⟩:∃ w6,w4.alloc (.cells #[.int .u64 (S:Int)] 101)=w6:=⟨_,rfl⟩
 have k5:=hide hy
 have hc:=hide2 hz ha
 have kb:=hide hj
 clear hy hz h0 h1 h2 h3 hq ha hj
 gi_wp2
 obtain ⟨hj,kc⟩:w.heap.size+4≤w4.heap.size∧w4.heap.size≤w.heap.size+4:=by have:=kb.out;omega
 rw [k0] at hs k5 hc
 clear k0
 rw [← hs] at hc
 refine wpIn_rangeFunc_ownG rfl (by have:=HN.out;omega) (gf:=83) (lb:=#[.pointer (some ⟨w4.heap.size,0,none⟩)]) rfl trivial (enters_of Tryz.func83 (by kernel_rfl) rfl)
  (members_mb (n - 1) w4.heap.size S hS w6 (by omega) k5.out (by have:=hV.room;omega) (hV.tab.mono (by exact hV.tab.lt) hc.out.2)) (fun h k=>kpT_t h k) (kpT_b (by have:=hV.room;omega)) (Below.refl _ _) (fun _=>rfl)
  (WcI w v p b r A F w6.heap.size S) (fun _ _ _=>False) (WcI.own (by omega) hh) (fun _ _ _ _ _ h _ _=>h.elim) hc.out.1
  (fun x=>{ tmps:=#[.pointer (some ⟨v,0,none⟩),.int .i64 (b:Int),.iface ty rx,.int .u64 (S:Int),.pointer (some ⟨w.heap.size,0,none⟩),.pointer (some ⟨w.heap.size+1,0,none⟩),.pointer (some ⟨w.heap.size+1+1,0,none⟩),undef,.pointer (some ⟨w.heap.size+1+1+1,0,none⟩),.int .i64 (x.1:Int),.int .u64 (S:Int),.func (.func 83) #[] #[.pointer (some ⟨w4.heap.size,0,none⟩)],.int .i64 (x.1:Int),undef,undef,undef,undef,undef,undef,undef,undef,undef,undef],defers:=[] }) ?assign ?body ?done ?stop
 case assign=>
  intro l2 x X Kk hK
  unfold encMb
  gi_wp2
  exact hK
 case body=>
  rintro l2 pre x X hi hn
  have k6:x.1∈mems S:=mem_mems.2 x.2
  have he:=hV.turn hF hi.out hi.arr
  have h5:=volWrite_ok he.vol he.arr (hf.putAt _ _ _ fun _ _=>⟨k9,ka⟩) x.1 b (k7 _ k6) hb hw (hl _ k6) r hr hm he.laid hF.g hF.v
  rw [putAt_snoc,HR.out] at h5
  have c0:=hi.b0.cell
  have c1:=hi.b1.cell
  have c2:=hi.b2.cell
  rw [HR.out] at c2
  have HI:=hide hi
  clear hi hn he
  gi_wp2
  refine at_round h5 ?_
  clear h5
  rintro e w2 ⟨rfl,hg,h8⟩
  have h7:∀ k,w.heap.size≤k→k < X.heap.size→w2.heap[k]?=X.heap[k]?:=fun k hk kd=>h8.block k kd (fun q=>by have:=hh k q;omega)
  have h4:=HI.out.b3.lt
  have H2:=hide3 hg h8 h7
  clear hg h8 h7
  gi_wp2
  obtain ⟨hg,h8,h7⟩:=H2.out
  have hi:=HI.out
  have hO:Outside (F.has p A.n) w w2:=hi.out.trans h8
  refine ⟨⟨h8.size,fun k o hk ho _=>(h7 k (by omega) (Array.getElem?_eq_some_iff.1 ho).1).trans ho⟩,fun _=>hV.tab.keep (hO.block _ hV.tab.lt hF.t),?_⟩
  exact ⟨(h7 _ (by omega) (by omega)).trans hi.b0,(h7 _ (by omega) (by omega)).trans hi.b1,(h7 _ (by omega) (by omega)).trans hi.b2,(h7 _ (by omega) (by omega)).trans hi.b3,by rw [preM_snoc];exact hg,hO,Nat.le_trans hi.size h8.size⟩
 case done=>
  rintro D' xs X ke kf hi hK
  have c3:=hi.b3.cell
  have f3:=hi.b3.frozen
  have HI:=hide2 hi hK
  clear hi hK
  gi_wp2
  obtain ⟨hi,hK⟩:=HI.out
  have hp:preM xs=mems S:=kf
  have kg:=hi.b3.set (.int .u64 0)
  have kh:=KeepsOthers.setCell X ⟨w.heap.size+1+1+1,0,none⟩ (.int .u64 0)
  have ki:=kh.same D' _ hK rfl
  have km:=(Array.getElem?_eq_some_iff.1 hK).1
  refine end_cell (b:=w.heap.size+1+1+1) (t8:=8) Tryz.results69 rfl rfl (load_set (s:=0) kg) ki (by omega) ⟨rfl,?_,?_⟩
  · have h4:=hi.arr
    rw [hp] at h4
    exact h4.keep fun k hk=>by have:=hh k hk;exact (World.putObj_heap_other (by omega)).trans (blk_setCell_other _ _ _ _ (by show k≠w.heap.size+1+1+1;omega))
  · exact hi.out.later (T:=fun k=>w.heap.size≤k) ⟨rfl,rfl,rfl,by simp [World.setCell,World.putObj],fun k _ kj=>(World.putObj_heap_other (by omega)).trans (blk_setCell_other _ _ _ _ (by show k≠w.heap.size+1+1+1;omega))⟩ (fun k kn kj=>by omega)
 case stop=>
  rintro D' cc pre X ke kk hx hK
  exact hx.elim
end
section
open Go.Deep Gf
theorem volAll_any (h:VolAt w v p D L G ps ho) (hD:D≤12) (hL:L≤4) (hG:G≤4) (h1:D+L+G≤16):Calls Tryz.prog 63 #[.pointer (some ⟨v,0,none⟩)] w fun e w'=>e=.returned (.int .u64 ((2^(D+L+G) - 1:Nat):Int))∧Below w.heap.size w w':=by
 obtain ⟨_,c1,c2,c3,_⟩:=h.cells
 obtain ⟨m,hm⟩:∃ m,D+L+G=m:=⟨_,rfl⟩
 obtain ⟨q,hq⟩:∃ q,((2^m - 1:Nat):Int)=q:=⟨_,rfl⟩
 rw [hm,hq]
 have HQ:=hide hq
 clear hq
 go_enter Tryz.func63,Tryz.ntmps63
 go_wp2_with fail
 refine (shards_any (D:Int) (L:Int) (G:Int) w ⟨by omega,by omega⟩ ⟨by omega,by omega⟩ ⟨by omega,by omega⟩).mono ?_
 rintro e w5 ⟨rfl,h0⟩
 rw [show ((D:Int)+(L:Int)+(G:Int))=(m:Int) by omega]
 have H:=hide h0
 clear h0
 go_wp2_with fail
 refine (first_any m (by omega) w5).mono ?_
 rw [HQ.out]
 rintro e w6 ⟨rfl,rfl⟩
 go_wp2
 go_ret
 exact ⟨rfl,H.out⟩
def Arr.readTo (A:Arr) (k:Nat):Arr:={ A with reads:=fun i=>if i < k then wrap64 (A.reads i+1) else A.reads i }
theorem readTo_zero (A:Arr):A.readTo 0=A:=by simp [Arr.readTo]
theorem readTo_succ (A:Arr) (k:Nat):(A.readTo k).setReads k (wrap64 ((A.readTo k).reads k+1))=A.readTo (k+1):=by
 unfold Arr.readTo Arr.setReads
 congr 1
 funext i
 simp only
 by_cases e:i=k
 · subst e
   rw [if_pos rfl,if_neg (Nat.lt_irrefl i),if_pos (Nat.lt_succ_self i)]
 · rw [if_neg e]
   by_cases e2:i < k
   · rw [if_pos e2,if_pos (by omega)]
   · rw [if_neg e2,if_neg (by omega)]
theorem Arr.fit.readTo {A:Arr} (h:A.fit) (k:Nat):(A.readTo k).fit:=⟨h.n,h.nb,h.len,h.byt⟩
theorem Tryz.infoRecord:(Tryz.prog.info? 164).map (fun i=>(i.zero,i.size,i.bytes))=some (some .nilIface,1,16):=by kernel_rfl
theorem wpList_mkRecs (w:World) {ops:Array Oper} {rest:List Oper} {o:Oper} {a:Act} {Q:Exit→Act→World→Prop}
 (hg:o.guard=none) (l c:Operand) (h1:o.op=Op.makeSlice 139 l c) (C:Int) (n:Nat) (hl:a.eval l=.int .i64 C) (hc:a.eval c=.int .i64 C) (hC:C=(n:Int)) (hn:n≤1000000)
 (hK:∀ w',w'.rowIs w.heap.size 164 n (fun _=>.nilIface)→Below w.heap.size w w'→w'.heap.size=w.heap.size+1→wpList Tryz.prog ops Q rest (a.put o.dst (.slice (some ⟨w.heap.size,0,none⟩) n n)) w') :
 wpList Tryz.prog ops Q (o :: rest) a w:=by
 refine wpList_plain hg fun K h2=>?_
 have h0:=run_make_row' (P:=Tryz.prog) 139 164 .nilIface 16 Tryz.underlying139 Tryz.infoRecord rfl .i64 .i64 n (by omega) (by omega) w
 subst hC
 unfold Oper.wp
 simp [execOp,h1,hl,hc,h0,Result.andThen]
 exact h2 _ _ (hK _ (World.rowIs_made w _ n _) ((Below.refl _ _).alloc (Nat.le_refl _) _) (nblk_alloc _ _))
theorem recV_iface (r:Rec):∃ ty x,recV r=.iface ty x:=by cases r <;> exact ⟨_,_,rfl⟩
def rcF (r:Nat→Rec) (k i:Nat):Value:=if i < k then recV (r i) else .nilIface
def RrR (w1:World) (g p N:Nat) (A:Arr) (F:Foot) (r:Nat→Rec) (i:Value) (wr:World):Prop:=∃ k:Nat,k≤N∧i=.int .i64 k∧ArrAt wr p (A.readTo k) F∧Outside (fun j=>j=g∨F.has p A.n j) w1 wr∧wr.rowIs g 164 N (rcF r k)
def RrPost (w:World) (p:Nat) (A:Arr) (F:Foot) (r:Nat→Rec) (e:Ending) (w':World):Prop:=∃ g,e=.returned (.slice (some ⟨g,0,none⟩) A.n A.n)∧w.heap.size≤g∧w'.rowIs g 164 A.n (fun i=>recV (r i))∧ArrAt w' p (A.readTo A.n) F∧Outside (F.has p A.n) w w'
theorem readCopies_ok {A:Arr} (hP:Vol w v p D L G ps ho A F) (h6:Free F p A.n v) (hf:A.fit) (b:Nat) (hn:A.n=D+L+G) (hD:D≤12) (hL:L≤4) (hG:G≤4) (hb:b < A.nb) (hw:A.wait≠0) (hl:∀ d,A.lost d=false) (h7:∀ d,A.bad d b=false)
 (r:Nat→Rec) (hr:∀ i,(r i).ok) (hm:∀ i,Makes (r i)) (he:∀ i,i < A.n→A.blk i b=(r i).blk) :
 Calls Tryz.prog 53 #[.pointer (some ⟨v,0,none⟩),.int .i64 b] w fun e w'=>RrPost w p A F r e w':=by
 obtain ⟨_,c1,c2,c3,_⟩:=hP.vol.cells
 have hN:((D:Int)+(L:Int)+(G:Int))=((A.n:Nat):Int):=by omega
 have ka:A.n≤1000:=hf.n
 go_enter Tryz.func53,Tryz.ntmps53
 go_wp2_with fail
 refine (shards_any (D:Int) (L:Int) (G:Int) w ⟨by omega,by omega⟩ ⟨by omega,by omega⟩ ⟨by omega,by omega⟩).mono ?_
 rintro e w5 ⟨rfl,ha⟩
 rw [hN]
 clear hN hn
 simp only []
 go_wp2_with (at_make;refine wpList_mkRecs _ rfl (.tmp 13) (.tmp 13) rfl _ A.n rfl rfl rfl (by omega) ?_;intro w6 h3 hc kb)
 have h1:Below w.heap.size w w5:=ha
 have h2:Below w.heap.size w w6:=h1.trans (hc.mono h1.size)
 have k6:w.heap.size≤w5.heap.size:=h1.size
 have hg:¬ F.has p A.n w5.heap.size:=fun q=>by have:=hP.arr.has_lt q;omega
 have h4:=hP.below h2 (Nat.le_refl _)
 have k7:v≠w5.heap.size:=fun e=>by have:=hP.vol.lt;omega
 have k8:2≠w5.heap.size:=fun e=>by have:=hP.laid.lt;omega
 have hh:ArrAt w6 p (A.readTo 0) F:=by rw [readTo_zero];exact h4.arr
 have hp:w6.rowIs w5.heap.size 164 A.n (rcF r 0):=h3.congr fun i hi=>by unfold rcF;rw [if_neg (by omega)]
 clear h3 ha h1 hc hP c1 c2 c3
 go_loopw [17] (fun i wr=>RrR w6 w5.heap.size p A.n A F r i wr) (fun i _=>A.n - (intOf i).toNat)
 case atStart=>exact ⟨0,Nat.zero_le _,rfl,hh,Outside.refl _ _,hp⟩
 case round=>
  clear hh hp
  obtain ⟨k,hk,rfl,hA,hO,hR⟩:=hrel
  by_cases h8:k < A.n
  · have hq:VolAt wr v p D L G ps ho:=h4.vol.keep (hO.block _ h4.vol.lt (fun q=>q.elim k7 h6.v))
    have hy:hvLaid wr:=h4.laid.keep (hO.block _ h4.laid.lt (fun q=>q.elim k8 h6.g))
    have h0:=volRead_ok hq hA (hf.readTo k) k b h8 hb hw (hl k) (h7 k) (r k) (hr k) (hm k) (he k h8) hy h6.g
    rw [readTo_succ] at h0
    obtain ⟨ty,x,hx⟩:=recV_iface (r k)
    rw [hx] at h0
    have H:=hide3 hO hR h0
    clear hq hy h0 hA hO hR
    go_wp2_with fail
    refine H.out.2.2.mono ?_
    rintro e w7 ⟨rfl,hz,h9⟩
    have h5:w7.rowIs w5.heap.size 164 A.n (rcF r k):=H.out.2.1.of_block (h9.block w5.heap.size H.out.2.1.lt hg)
    have cS:=h5.cell (i:=k) h8
    have fS:=h5.frozen k
    have kc:((k:Nat):Int).toNat=k:=by omega
    have H7:=hide3 hz (H.out.1.trans (h9.mono fun _ _ q=>.inr q)) h5
    clear hz h9 H h5
    go_wp2
    refine ⟨⟨k+1,by omega,by go_num,H7.out.1.keep fun j hj=>blk_setCell_other _ _ _ _ (fun e=>hg (by have e':j=w5.heap.size:=e;rwa [e'] at hj)),H7.out.2.1.trans (Outside.setCell _ _ _ (.inl rfl)),(H7.out.2.2.set k _).congr fun i hi=>?_⟩,by simp [intOf];omega⟩
    unfold rcF
    by_cases e:i=k
    · subst e
      rw [if_pos rfl,if_pos (by omega),hx]
    · rw [if_neg e]
      by_cases e2:i < k
      · rw [if_pos e2,if_pos (by omega)]
      · rw [if_neg e2,if_neg (by omega)]
  · have k9:k=A.n:=by omega
    subst k9
    have k0:Outside (F.has p A.n) w wr:=(hO.mono (T:=fun j=>j=w5.heap.size∨F.has p A.n j) fun _ _ q=>q) |> fun h=>⟨h.os.trans h2.os,h.tape.trans h2.tape,h.output.trans h2.output,Nat.le_trans h2.size h.size,fun j hj hs=>(h.block j (Nat.lt_of_lt_of_le hj h2.size) (fun q=>q.elim (fun e=>by omega) hs)).trans (h2.block j hj)⟩
    have k5:wr.rowIs w5.heap.size 164 A.n (fun i=>recV (r i)):=hR.congr fun i hi=>by unfold rcF;rw [if_pos hi]
    have H:=hide3 hA k0 k5
    clear hA hO k0 hR k5
    go_wp2
    go_ret
    exact ⟨_,rfl,k6,H.out.2.2,H.out.1,H.out.2.1⟩
end
section
open Go.Shelf
def StepOkI (Fc:Fence) (n:Nat) (P:Program) (Q:Exit→Act→World→Prop) (lo hi:Nat) (sh:List (Op×Option Nat×List Nat)) (a0:Act) (V:Nat→Value→World→Prop) (B:(Nat→Bool)→World→Prop) (i:Nat):Prop:=
 ∀ (o:Oper) (a:Act) (w:World) (D:Nat→Bool),o.guard=none→o.op=(shAt sh i).1→o.dst=(shAt sh i).2.1→Framed lo hi a0 a→D i=false→(∀ j,D j=true→j < sh.length∧∀ k∈(shAt sh j).2.2,D k=true) →
  (∀ k∈(shAt sh i).2.2,D k=true)→B D w→(∀ j,D j=true→V j (slotD (shAt sh j).2.1 a) w) →
  o.wpIn Fc n P a w (fun a' w'=>∃ v,a'=a.put o.dst v∧(o.dst=none→v=undef)∧B (upd D i) w'∧V i v w'∧∀ j u,D j=true→V j u w→V j u w') Q
theorem any_factsI (h7:RegShape ops lo hi sh) (a0:Act) (hp:hi≤a0.tmps.size)
 (V:Nat→Value→World→Prop) (B:(Nat→Bool)→World→Prop) (ha:∀ i,i < sh.length→StepOkI Fc n P Q lo hi sh a0 V B i)
 (hg:∀ (a:Act) (w:World),Framed lo hi a0 a→(∀ s,(∀ i,i < sh.length→(shAt sh i).2.1≠some s)→a.eval (.tmp s)=a0.eval (.tmp s))→(∃ D,(∀ i,i < sh.length→D i=true)∧B D w)→(∀ i,i < sh.length→V i (slotD (shAt sh i).2.1 a) w)→Q .normal a w) :
 ∀ (f:Nat) (listed:Array Bool) (a:Act) (w:World),listed.size=sh.length→toCome listed=f→Framed lo hi a0 a→(∀ s,(∀ i,i < sh.length→(shAt sh i).2.1≠some s)→a.eval (.tmp s)=a0.eval (.tmp s))→(∀ j,listed.getD j false=true→j < sh.length∧∀ k∈(shAt sh j).2.2,listed.getD k false=true)→B (fun j=>listed.getD j false) w →
  (∀ i,listed.getD i false=true→V i (slotD (shAt sh i).2.1 a) w)→wpAnyIn Fc n P .any ops Q f listed a w:=by
 have k6:=h7.size
 have h6:∀ listed:Array Bool,listed.size=sh.length→toCome listed≠0→Region.ready .any ops listed≠[]:=by
  intro listed hl hc hr
  have hh:∀ i,i < sh.length→listed.getD i false=true:=by
   intro i
   induction i using Nat.strongRecOn with
   | ind i ih=>
    intro h0
    by_cases hd:listed.getD i false=true
    · exact hd
    · exfalso
      have hm:i∈Region.ready .any ops listed:=ready_iff.2 ⟨by omega,by simpa [Array.getD_eq_getD_getElem?,show i < listed.size by omega] using hd,fun k hk=>by
       obtain ⟨o,_,_,_,_,e⟩:=h7.get i h0
       rw [e] at hk
       have:=h7.early i h0 k hk
       exact ih k this (by omega)⟩
      rw [hr] at hm
      cases hm
  apply hc
  unfold toCome
  rw [List.length_eq_zero_iff,List.filter_eq_nil_iff]
  intro b hb
  obtain ⟨i,h0,rfl⟩:=List.getElem_of_mem hb
  have hq:i < listed.size:=by simpa using h0
  have:=hh i (by omega)
  simp [Array.getD_eq_getD_getElem?,hq] at this
  simp [this]
 intro f
 induction f with
 | zero=>
  intro listed a w hl hc hk h4 hf hB hV
  refine ⟨?_,hg a w hk h4 ⟨_,fun i h0=>toCome_zero hc i (by omega),hB⟩ fun i h0=>hV i (toCome_zero hc i (by omega))⟩
  rw [List.eq_nil_iff_forall_not_mem]
  intro i hm
  obtain ⟨h1,h2,_⟩:=ready_iff.1 hm
  have:=toCome_zero hc i (by omega)
  simp [Array.getD_eq_getD_getElem?,show i < listed.size by omega] at this h2
  rw [this] at h2
  cases h2
 | succ f ih=>
  intro listed a w hl hc hk h4 hf hB hV
  refine ⟨fun e=>absurd e (h6 listed hl (by omega)),fun i hm=>?_⟩
  obtain ⟨h1,h2,h3⟩:=ready_iff.1 hm
  have h0:i < sh.length:=by omega
  have hn:i < listed.size:=by omega
  obtain ⟨o,e1,e2,e3,e4,e5⟩:=h7.get i h0
  have hx:listed.getD i false=false:=by simpa [Array.getD_eq_getD_getElem?,hn] using h2
  have h5:∀ j,(listed.setIfInBounds i true).getD j false=upd (fun j=>listed.getD j false) i j:=by
   intro j
   unfold upd
   by_cases ej:j=i
   · subst ej
     rw [if_pos rfl]
     simp [Array.getD_eq_getD_getElem?,hn]
   · rw [if_neg ej,Array.getD_eq_getD_getElem?,Array.getElem?_setIfInBounds,if_neg (fun q:i=j=>ej q.symm),← Array.getD_eq_getD_getElem?]
  unfold wpOpIn
  rw [e1]
  show if Region.wanted o (yielded ops a.tmps)=true then _ else _
  rw [if_pos (by simp [Region.wanted,e4])]
  refine (Oper.wpIn_mono (fun a' w' h=>?_) (ha i h0 o a w (fun j=>listed.getD j false) e4 e2 e3 hk hx hf (fun k h8=>?_) hB hV))
  · obtain ⟨v,rfl,hu,hy,hz,k0⟩:=h
    have he:∀ d,o.dst=some d→lo≤d∧d < hi:=fun d hd=>by rw [e3] at hd;exact (h7.slots i i d h0 h0 hd).1
    refine ih _ _ _ (by simpa using hl) (by have:=toCome_set h2;omega) (hk.put v he) (fun s hs=>?_) (fun j hj=>?_) ?_ fun j h9=>?_
    · refine Eq.trans ?_ (h4 s hs)
      cases hd:o.dst with
      | none=>rfl
      | some d=>exact rf_other _ _ _ _ (fun e=>hs i h0 (by rw [show (shAt sh i).2.1=o.dst from e3.symm,hd,e]))
    · rw [h5] at hj
      unfold upd at hj
      by_cases ej:j=i
      · subst ej
        refine ⟨h0,fun k h8=>?_⟩
        rw [h5];unfold upd
        by_cases ek:k=j
        · rw [if_pos ek]
        · rw [if_neg ek];rw [← e5] at h8;exact h3 k h8
      · rw [if_neg ej] at hj
        obtain ⟨q1,q2⟩:=hf j hj
        refine ⟨q1,fun k h8=>?_⟩
        rw [h5];unfold upd
        by_cases ek:k=i
        · rw [if_pos ek]
        · rw [if_neg ek];exact q2 k h8
    · have e:(fun j=>(listed.setIfInBounds i true).getD j false)=upd (fun j=>listed.getD j false) i:=funext h5
      rw [e];exact hy
    · rw [h5] at h9
      unfold upd at h9
      by_cases ej:j=i
      · subst ej
        have:slotD (shAt sh j).2.1 (a.put o.dst v)=v:=by
         show slotD (sh.getD j (.move (.const undef),none,[])).2.1 (a.put o.dst v)=v
         rw [← e3]
         cases hd:o.dst with
         | none=>exact (hu hd).symm
         | some d=>exact rf_same _ _ _ (Nat.lt_of_lt_of_le (he d hd).2 (by rw [hk.size];exact hp))
        rw [this];exact hz
      · rw [if_neg ej] at h9
        have:slotD (shAt sh j).2.1 (a.put o.dst v)=slotD (shAt sh j).2.1 a:=by
         cases k5:(shAt sh j).2.1 with
         | none=>rfl
         | some d'=>
          cases hd:o.dst with
          | none=>rfl
          | some d=>
           refine rf_other _ _ _ _ fun q=>ej ?_
           subst q
           rw [e3] at hd
           exact (h7.slots j i d (hf j h9).1 h0 k5).2 hd
        rw [this]
        exact k0 j _ h9 (hV j h9)
  · exact h3 k (by rw [e5];exact h8)
theorem region_factsI {m:Nat} (hm:P.follows .mixedOrders=true) (h3:RegShape ops lo hi sh) (a0:Act) (w0:World) (h4:hi≤a0.tmps.size)
 (V:Nat→Value→World→Prop) (B:(Nat→Bool)→World→Prop) (hB:B (fun _=>false) w0.drew) (h1:∀ i,i < sh.length→StepOkI Fc n P Q lo hi sh a0 V B i)
 (h2:∀ (a:Act) (w:World),Framed lo hi a0 a→(∀ s,(∀ i,i < sh.length→(shAt sh i).2.1≠some s)→a.eval (.tmp s)=a0.eval (.tmp s))→(∃ D,(∀ i,i < sh.length→D i=true)∧B D w)→(∀ i,i < sh.length→V i (slotD (shAt sh i).2.1 a) w)→Q .normal a w):(Code.region m ops true).wpIn Fc n P Q a0 w0:=by
 refine wpIn_region_any hm ?_
 have h5:=h3.size
 have h0:∀ i,(Array.replicate ops.size false).getD i false=false:=fun i=>by
  simp only [Array.getD_eq_getD_getElem?,Array.getElem?_replicate]
  split <;> rfl
 refine any_factsI h3 a0 h4 V B h1 h2 _ _ a0 w0.drew (by simp [h5]) ?_ (Framed.refl _ _ _) (fun _ _=>rfl) (fun j hj=>?_) ?_ fun i h=>?_
 · unfold toCome
   simp
 · rw [h0] at hj;cases hj
 · have e:(fun j=>(Array.replicate ops.size false).getD j false)=fun _=>false:=funext h0
   rw [e];exact hB
 · rw [h0] at h;cases h
theorem opI_val {v:Value} (hr:(execOp a.eval o).run P w=.ok (.value v) w') (h0:∀ c,o.op≠.defer c) {d:Nat} (hd:o.dst=some d) (h:B w'∧Vi v w'∧S w') :
 o.wpIn (Fence.wide.inRound l) n P a w (fun a' w'=>∃ v,a'=a.put o.dst v∧(o.dst=none→v=undef)∧B w'∧Vi v w'∧S w') Q:=by
 refine ⟨fun _ _=>trivial,?_⟩
 rw [Oper.semAt_plain _ _ _ h0,hr]
 exact ⟨v,rfl,fun e=>(by rw [hd] at e;cases e),h.1,h.2.1,h.2.2⟩
theorem opI_skip (hr:(execOp a.eval o).run P w=.ok .skip w') (h0:∀ c,o.op≠.defer c) (h:B w'∧Vi undef w'∧S w') :
 o.wpIn (Fence.wide.inRound l) n P a w (fun a' w'=>∃ v,a'=a.put o.dst v∧(o.dst=none→v=undef)∧B w'∧Vi v w'∧S w') Q:=by
 refine ⟨fun _ _=>trivial,?_⟩
 rw [Oper.semAt_plain _ _ _ h0,hr]
 exact ⟨undef,rfl,fun _=>rfl,h.1,h.2.1,h.2.2⟩
theorem opI_call {w1:World} {f:FuncId} {args:Array Value} {Rr:Ending→World→Prop} (hr:(execOp a.eval o).run P w=.ok (.enter f args) w1) (h0:∀ c,o.op≠.defer c) {d:Nat} (hd:o.dst=some d) (hc:Calls P f args w1 Rr)
 (h:∀ e w',Rr e w'→∃ v,e=.returned v∧B w'∧Vi v w'∧S w'):o.wpIn (Fence.wide.inRound l) n P a w (fun a' w'=>∃ v,a'=a.put o.dst v∧(o.dst=none→v=undef)∧B w'∧Vi v w'∧S w') Q:=by
 refine ⟨fun _ _=>trivial,?_⟩
 rw [Oper.semAt_plain _ _ _ h0,hr]
 refine ⟨fun h=>(by cases h),CallsIn.inRound l (callsIn_wide.2 (hc.mono fun e w' hR=>?_))⟩
 obtain ⟨v,rfl,q1,q2,q3⟩:=h e w' hR
 exact ⟨v,rfl,fun e=>(by rw [hd] at e;cases e),q1,q2,q3⟩
end
end Go.Proofs.YthcgahldacpolaaGreatDoor
