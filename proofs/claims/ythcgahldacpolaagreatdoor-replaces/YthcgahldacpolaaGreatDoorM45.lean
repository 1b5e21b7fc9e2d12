import Derived.Test.YthcgahldacpolaaGreatDoorM44
import Derived.Test.YthcgahldacpolaaGreatDoorM27
set_option maxRecDepth 100000
set_option maxHeartbeats 8000000
namespace Go.Proofs.YthcgahldacpolaaGreatDoor
open Go.RowKit Go.Deep
variable {A A':Arr} {off:Bool} {F:Foot} {P l:List Nat} {D L G t b f v p ps ho ar D' L' G' nn d sb:Nat} {T K:Nat→Prop} {xs:Obs} {pg ob:Value} {w X Y w':World}
section
open Go.Shelf Gf
theorem stripe_of (h:OnDisk A D L G t P xs) (hD:D≤12) (hG:G≤4) (x:Nat) (hx:x∈P ++ allSt xs.os):∃ M:List (List Nat),M.length=D+L+G∧(∀ i (hi:i < M.length),M[i].length=44∧∀ b∈M[i],b < 256)∧∀ i,i < A.n→A.blk i x=(Rec.shard (M.getD i [])).blk:=by
 rcases List.mem_append.1 hx with hp | hs
 · obtain ⟨k,hk,rfl⟩:=List.getElem_of_mem hp
   refine ⟨stripeL D L G (pageB D P (packL xs.os) k),stripeL_len ..,fun i hi=>stripeL_row hD hG _ i hi,fun i hi=>?_⟩
   have:=h.page k hk i hi
   rwa [getD_in hk] at this
 · unfold allSt Obs.os at hs
   obtain ⟨o,ho,h0⟩:=List.mem_flatMap.1 hs
   obtain ⟨y,hy,rfl⟩:=List.mem_map.1 ho
   obtain ⟨j,hj,rfl⟩:=List.getElem_of_mem h0
   refine ⟨stripeL D L G (chunkB D y.2 j),stripeL_len ..,fun i hi=>stripeL_row hD hG _ i hi,fun i hi=>?_⟩
   have:=h.held y hy j hj i hi
   rwa [getD_in hj] at this
theorem putL_rd {S:Nat} {f:Nat→List Nat} (rs:Nat→Int) (h:∀ i,i∈mems S→A.blk i b=f i) (h0:∀ i m,A.bad i m=false):(A.rd rs).putL (mems S) b f=A.rd rs:=by
 unfold Arr.putL Arr.putAt Arr.rd
 simp only [Arr.mk.injEq,true_and,and_true]
 refine ⟨?_,?_⟩
 · funext i m
   split
   · exact (h0 i m).symm
   · rfl
 · funext i m
   split
   · rename_i hq
     obtain ⟨h1,rfl⟩:=hq
     exact (h i (List.mem_filter.1 h1).1).symm
   · rfl
def Jok (v p D L G ps:Nat) (A:Arr) (F:Foot) (X:World) (A':Arr) (ho:Nat):Prop:=ho=0∧Vol X v p D L G ps 0 A' F∧∃ rs,A'=A.rd rs
theorem Vol.later (h0:Vol w v p D L G ps ho A F) (hn:A'.n=A.n) (h:Vol X v p D L G ps ho A' F) (hO:Outside T X Y) (hT:∀ k,T k→w.heap.size≤k):Vol Y v p D L G ps ho A' F:=by
 have hk:∀ k,k < w.heap.size→¬ T k:=fun k hk q=>by have:=hT k q;omega
 refine ⟨h.vol.keep (hO.block _ h.vol.lt (hk _ h0.vol.lt)),h.arr.keep fun k h1=>hO.block k (h.arr.has_lt h1) (hk _ (h0.arr.has_lt (by rw [← hn];exact h1))),h.laid.keep (hO.block _ h.laid.lt (hk _ h0.laid.lt)),h.tab.keep (hO.block _ h.tab.lt (hk _ h0.tab.lt)),Nat.le_trans h.room hO.size⟩
theorem Arr.fit.rd (h:A.fit) (rs:Nat→Int):(A.rd rs).fit:=⟨h.n,h.nb,h.len,h.byt⟩
theorem mends_ok (h:Live w ar v p ps D L G t pg ob P xs A F) {q S:Nat} (h9:¬ F.has p A.n q) (hS:S < 65536) (h8:∀ i,i∈mems S→i < A.n)
 (hm:(Rec.root D L G t (P.getD 0 0) (packL xs.os).length).ok) (hn:Makes (Rec.root D L G t (P.getD 0 0) (packL xs.os).length)) (hp:Rec.filled.ok) (hq:Makes Rec.filled) (hj:A.n≤16) (hs:0 < A.n) (hD:D≤12) (hL:L≤4) (hG:G≤4) (k5:2≤A.nb) :
 ∃ R,Mends w ar v p D L G ps t (P.getD 0 0) (packL xs.os).length A.n q S 0 pg ob false A.n A.nb F (F.has p A.n) (P ++ allSt xs.os) R (Jok v p D L G ps A F):=by
 obtain ⟨R,hR⟩:∃ R:Nat→List (List Nat),∀ x,x∈P ++ allSt xs.os→(R x).length=D+L+G∧(∀ i (hi:i < (R x).length),(R x)[i].length=44∧∀ b∈(R x)[i],b < 256)∧∀ i,i < A.n→A.blk i x=(Rec.shard ((R x).getD i [])).blk:=by
  have:∀ x,∃ M:List (List Nat),x∈P ++ allSt xs.os→M.length=D+L+G∧(∀ i (hi:i < M.length),M[i].length=44∧∀ b∈M[i],b < 256)∧∀ i,i < A.n→A.blk i x=(Rec.shard (M.getD i [])).blk:=fun x=>by
   by_cases hx:x∈P ++ allSt xs.os
   · obtain ⟨M,hM⟩:=stripe_of h.disk hD hG x hx
     exact ⟨M,fun _=>hM⟩
   · exact ⟨[],fun q=>absurd q hx⟩
  exact ⟨fun x=>Classical.choose (this x),fun x=>Classical.choose_spec (this x)⟩
 have hd:=h.disk
 have hN:=hd.n
 have hK:3≤w.heap.size:=h.vol.room
 have he:∀ k,F.has p A.n k→k < w.heap.size:=fun k hk=>h.vol.arr.has_lt hk
 refine ⟨R,?_,?_,?_,?_,?_,?_,fun x hx=>(hR x hx).1.trans hN.symm,fun x hx=>(hd.inb x hx).2,hS,h8,rfl,hN,hD,hL,hG,fun _ q=>q,h.nar,h9,he⟩
 · rintro X A' ho ⟨rfl,hV,rs,rfl⟩
   exact ⟨hV,h.fit.rd rs,rfl,rfl,hd.wait,lsOf_none hd.lost _⟩
 · rintro X Y A' ho T ⟨rfl,hV,rs,rfl⟩ hO hT
   exact ⟨rfl,h.vol.later rfl hV hO hT,rs,rfl⟩
 · rintro X Y A' ho x ⟨rfl,hV,rs,rfl⟩ hx hO hA
   rw [putL_rd rs (fun i hi=>(hR x hx).2.2 i (h8 i hi)) hd.bad] at hA ⊢
   exact ⟨rfl,hV.turn h.free hO hA,rs,rfl⟩
 · rintro X A' ho r g b0 gone sp f0 x ⟨rfl,hV,rs,rfl⟩ hx hr hg hy hz h6
   have k6:=h.vol.vol.lt
   have h0:∀ i,i < A.n→(Rec.shard ((R x).getD i [])).ok:=fun i hi=>by
    have h7:i < (R x).length:=by rw [(hR x hx).1];omega
    have e:(R x).getD i []=(R x)[i]:=by simp [h7]
    rw [e];exact (hR x hx).2.1 i h7
   refine (whole_ok hV h.free (h.fit.rd rs) hz h6 hN rfl hD hL hG (by omega) hs (hd.inb x hx).2 (by show A.wait≠0;have:=hd.wait;omega) hd.lost (fun i _=>hd.bad i x) (fun i=>(R x).getD i []) h0 (fun i hi=>(hR x hx).2.2 i hi) (fun q=>by have:=he g q;omega) (fun q=>by have:=he r q;omega) hy (by omega) (by omega) (by omega) (by omega)).mono ?_
   rintro e Y ⟨rfl,h1,⟨f1,h2,h3⟩,⟨rs2,h4⟩,k0,h5⟩
   have hf:=h2.lt
   refine ⟨0,0,0,f1,_,0,rfl,h1,h2,⟨hg,hf,fun i hi=>?_⟩,⟨rfl,?_,rs2,rfl⟩,h5⟩
   · have h7:i < A.n:=by rw [(hR x hx).1] at hi;omega
     obtain ⟨bl,q1,q2,q3,q4⟩:=h3.2 i (List.mem_range.2 h7)
     have e:(R x).getD i []=(R x)[i]:=by simp [hi]
     have hc:=h2.cell (i:=i) h7
     rw [q1] at hc
     have q4':Y.heap[bl]?=some (.cells (bts (R x)[i]).toArray 162 (0,0)):=by rw [← e];exact q4
     refine ⟨bl,0,44,hc,by have:=hV.room;have:=h6.lt;omega,q3,?_,(hR x hx).2.1 i hi⟩
     intro j u hu
     simp [World.cell?,q4',hu]
   · exact ⟨k0,h4,hV.laid.keep (h5.block _ hV.laid.lt (fun q=>by have:=h.vol.laid.lt;rcases q with q | q | q;omega;omega;exact h.free.g q)),hV.tab.keep (h5.block _ hV.tab.lt (fun q=>by have:=h.vol.tab.lt;rcases q with q | q | q;omega;omega;exact h.free.t q)),Nat.le_trans hV.room h5.size⟩
 · rintro X A' ho ⟨rfl,hV,rs,rfl⟩ ha hh
   refine (mendCopies_any ha hV h.free h.nar (h.fit.rd rs) 0 hN hD hL hG hj (by show 0 < A.nb;omega) hd.wait hd.bad _ hm hn (like_root _ _ _ _ _ _) hd.root hh h9 hS h8).mono ?_
   rintro e Y ⟨rfl,⟨rs2,hA⟩,hO⟩
   exact ⟨by rw [lsOf_none (A:=A.rd rs) hd.lost],hO,_,0,rfl,hV.turn h.free hO hA,rs2,rfl⟩
 · rintro X A' ho ⟨rfl,hV,rs,rfl⟩ ha hh
   refine (mendCopies_any ha hV h.free h.nar (h.fit.rd rs) 1 hN hD hL hG hj (by show 1 < A.nb;omega) hd.wait hd.bad _ hp hq like_filled hd.fill hh h9 hS h8).mono ?_
   rintro e Y ⟨rfl,⟨rs2,hA⟩,hO⟩
   exact ⟨by rw [lsOf_none (A:=A.rd rs) hd.lost],hO,_,0,rfl,hV.turn h.free hO hA,rs2,rfl⟩
end
section
open Go.Shelf Gf
theorem replace_none (ha:ArcAt w ar v D' L' G' t f nn pg ob off) (hV:VolAt w v p D L G ps ho) (hD:D≤12) (hL:L≤4) (hG:G≤4) (d:Int) (hd:d < 0∨((D+L+G:Nat):Int)≤d) :
 Calls Tryz.prog 22 #[.pointer (some ⟨ar,0,none⟩),.int .i64 d] w fun e w'=>e=.returned (.iface 37 (.int .i64 11))∧Below w.heap.size w w':=by
 have c0:=ha.cells.1
 have h2:=volParams_at hV
 have h3:=fun w1:World=>shards_sz (D:Int) (L:Int) (G:Int) w1 ⟨by omega,by omega⟩ ⟨by omega,by omega⟩ ⟨by omega,by omega⟩
 have H:=hide2 h2 h3
 clear h2 h3 ha hV
 by_cases h0:d < 0
 · clear hd
   go_enter Tryz.func22,Tryz.ntmps22
   go_wp2
   go_ret
   exact ⟨rfl,Below.refl _ _⟩
 · have h1:((D:Int)+(L:Int)+(G:Int))≤d:=by omega
   clear hd
   go_enter Tryz.func22,Tryz.ntmps22
   go_wp2_with fail
   refine H.out.1.mono ?_
   rintro e w1 ⟨rfl,h4,_⟩
   go_wp2_with fail
   refine (H.out.2 _).mono ?_
   rintro e w2 ⟨rfl,rfl⟩
   go_wp2
   go_ret
   exact ⟨rfl,h4.alloc h4.size _⟩
theorem replace_lost (ha:ArcAt w ar v D' L' G' t f nn pg ob off) (hV:VolAt w v p D L G ps ho) (hD:D≤12) (hL:L≤4) (hG:G≤4) (d ls:Nat) (hd:d < D+L+G) (he:ls≠0) (K:World→Prop)
 (h4:∀ W q,Below w.heap.size w W→w.heap.size≤q→Boxed W q 101 (.int .u64 (2^d:Nat))→Calls Tryz.prog 35 #[.pointer (some ⟨ar,0,none⟩),chsV q] W fun e Y=>e=.returned (.tuple #[.int .u64 ls,.nilIface])∧K Y) :
 Calls Tryz.prog 22 #[.pointer (some ⟨ar,0,none⟩),.int .i64 d] w fun e w'=>e=.returned (.iface 37 (.int .i64 11))∧K w':=by
 have c0:=ha.cells.1
 have h5:=volParams_at hV
 have h6:=fun w1:World=>shards_sz (D:Int) (L:Int) (G:Int) w1 ⟨by omega,by omega⟩ ⟨by omega,by omega⟩ ⟨by omega,by omega⟩
 have h7:=fun w1:World=>with_any 0 d (by decide) (by omega) w1
 have H:=hide4 h5 h6 h7 h4
 clear h5 h6 ha hV h7 h4
 have h0:¬ (d:Int) < 0:=by omega
 have h1:¬ (d:Int)≥(D:Int)+(L:Int)+(G:Int):=by omega
 have h2:¬ (ls:Int)=0:=by omega
 clear hd
 go_enter Tryz.func22,Tryz.ntmps22
 go_wp2_with fail
 refine H.out.1.mono ?_
 rintro e w1 ⟨rfl,h3,_⟩
 go_wp2_with fail
 refine (H.out.2.1 _).mono ?_
 rintro e w2 ⟨rfl,h8⟩
 have h9:Below w.heap.size w w2:=by rw [h8];exact h3.alloc h3.size _
 have HB:=hide h9
 clear h8 h3 h9
 go_wp2_with fail
 refine (H.out.2.2.1 _).mono ?_
 rintro e w3 ⟨rfl,rfl⟩
 go_wp2_with fail
 have hc:Boxed (w3.alloc (.cells #[.int .u64 ((2:Int)^d)] 101)) w3.heap.size 101 (.int .u64 (2^d:Nat)):=by
  rw [Int.natCast_pow]
  exact Boxed.new w3 _ _
 refine (H.out.2.2.2 _ _ (HB.out.alloc HB.out.size _) HB.out.size hc).mono ?_
 rintro e Y ⟨rfl,hY⟩
 have HY:=hide hY
 clear hY hc
 go_wp2
 go_ret
 exact ⟨rfl,HY.out⟩
theorem replace_done (ha:ArcAt w ar v D' L' G' t f nn pg ob off) (hV:VolAt w v p D L G ps ho) (hD:D≤12) (hL:L≤4) (hG:G≤4) (d:Nat) (hd:d < D+L+G) (K:World→Prop)
 (h6:∀ W q,Below w.heap.size w W→w.heap.size≤q→Boxed W q 101 (.int .u64 (2^d:Nat))→Calls Tryz.prog 35 #[.pointer (some ⟨ar,0,none⟩),chsV q] W fun e Y=>e=.returned (.tuple #[.int .u64 (0:Nat),.nilIface])∧K Y∧ArcAt Y ar v D' L' G' t f nn pg ob off∧VolAt Y v p D L G ps 0∧Boxed Y q 101 (.int .u64 (2^d:Nat))) :
 Calls Tryz.prog 22 #[.pointer (some ⟨ar,0,none⟩),.int .i64 d] w fun e w'=>e=.returned .nilIface∧∃ Y,K Y∧w'=(Y.setCell ⟨v,5,none⟩ (.int .u64 (0:Nat))).drew:=by
 have c0:=ha.cells.1
 have h7:=volParams_at hV
 have h8:=fun w1:World=>shards_sz (D:Int) (L:Int) (G:Int) w1 ⟨by omega,by omega⟩ ⟨by omega,by omega⟩ ⟨by omega,by omega⟩
 have h9:=fun w1:World=>with_any 0 d (by decide) (by omega) w1
 have H:=hide4 h7 h8 h9 h6
 clear h7 h8 ha hV h9 h6
 have h0:¬ (d:Int) < 0:=by omega
 have h1:¬ (d:Int)≥(D:Int)+(L:Int)+(G:Int):=by omega
 clear hd
 go_enter Tryz.func22,Tryz.ntmps22
 go_wp2_with fail
 refine H.out.1.mono ?_
 rintro e w1 ⟨rfl,h3,_⟩
 go_wp2_with fail
 refine (H.out.2.1 _).mono ?_
 rintro e w2 ⟨rfl,hc⟩
 have he:Below w.heap.size w w2:=by rw [hc];exact h3.alloc h3.size _
 have HB:=hide he
 clear hc h3 he
 go_wp2_with fail
 refine (H.out.2.2.1 _).mono ?_
 rintro e w3 ⟨rfl,rfl⟩
 go_wp2_with fail
 have hf:Boxed (w3.alloc (.cells #[.int .u64 ((2:Int)^d)] 101)) w3.heap.size 101 (.int .u64 (2^d:Nat)):=by
  rw [Int.natCast_pow]
  exact Boxed.new w3 _ _
 refine (H.out.2.2.2 _ _ (HB.out.alloc HB.out.size _) HB.out.size hf).mono ?_
 rintro e Y ⟨rfl,hY,h4,h2,h5⟩
 have cA:=h4.cells.1
 have k5:=h2.cells.2.2.2.2.2
 have cq:=h5.cell
 have fv:Y.frozen? ⟨v,5,none⟩=false:=by
  have h':Y.heap[v]?=_:=h2
  simp [World.frozen?,h']
 have hg:bits .andNot .u64 (0:Int) ((2:Int)^d)=0:=by
  simp [bits]
  decide
 have HY:=hide4 hY h4 h2 h5
 clear hY hf h4 h2 h5 c0
 go_wp2
 go_region
 go_wp2
 go_ret
 exact ⟨rfl,Y,HY.out.1,rfl⟩
end
section
open Go.Shelf Gf
theorem mems_one:∀ i,i∈mems (2^d)→i=d:=fun i hi=>by
 have h:=(mem_mems.1 hi).2
 rw [Nat.testBit_two_pow] at h
 exact (of_decide_eq_true h).symm
theorem two_lt (hd:d < 16):2^d < 65536:=by
 have:2^d < 2^16:=Nat.pow_lt_pow_right (by decide) hd
 omega
theorem OnDisk.rd (h:OnDisk A D L G t P xs) (rs:Nat→Int):OnDisk (A.rd rs) D L G t P xs:=h.congr rfl rfl rfl (fun _=>rfl) (fun _ _=>rfl) (fun _ _ _=>rfl)
theorem Live.rootOk (h:Live w ar v p ps D L G t pg ob P xs A F):(Rec.root D L G t (P.getD 0 0) (packL xs.os).length).ok:=by
 have h0:P.getD 0 0 < A.nb:=by
  by_cases hP:0 < P.length
  · rw [getD_in hP];exact (h.disk.inb _ (List.mem_append_left _ (List.getElem_mem hP))).2
  · have:P=[]:=List.eq_nil_of_length_eq_zero (by omega)
    subst this
    have:=h.disk.room
    show 0 < A.nb
    omega
 have:=h.par.d;have:=h.par.l4;have:=h.par.g;have:=h.nb;have:=h.turn;have:=h.packL_le
 exact ⟨by omega,by omega,by omega,by omega,by omega,by omega⟩
theorem replace_live {w:World} {ar v p ps D L G t:Nat} {pg ob:Value} {P:List Nat} {xs:Obs} {A:Arr} {F:Foot} (h:Live w ar v p ps D L G t pg ob P xs A F) (d:Nat) (hd:d < A.n) :
 Calls Tryz.prog 22 #[.pointer (some ⟨ar,0,none⟩),.int .i64 d] w fun e w'=>e=.returned .nilIface∧(∃ rs,Live w' ar v p ps D L G t pg ob P xs (A.rd rs) F)∧Outside (F.has p A.n) w w':=by
 have h5:=h.rootOk
 have h9:2≤A.nb:=by have:=h.disk.room;omega
 have hn:=h.disk.n
 have hs:=h.par.s
 have h2:d < 16:=by omega
 refine (replace_done h.arc h.vol.vol h.par.d h.par.l4 h.par.g d (by omega) (fun Y=>(∃ rs,Vol Y v p D L G ps 0 (A.rd rs) F)∧Outside (F.has p A.n) w Y) ?_).mono ?_
 · intro W q hb hq h3
   have hW:=h.below hb
   obtain ⟨R,hM⟩:=mends_ok hW (q:=q) (S:=2^d) (fun c=>by have:=h.vol.arr.has_lt c;omega) (two_lt h2) (fun i hi=>by rw [mems_one i hi];exact hd) h5 (makes_root h5) trivial makes_filled (by omega) hW.n0 h.par.d h.par.l4 h.par.g h9
   have h6:∀ {u:Value} {l:List Nat},Ints (fun k=>ar < k∧¬ F.has p A.n k) W u l→Ints (fun k=>k < W.heap.size∧¬ F.has p A.n k) W u l:=fun ⟨ao,c,q1,q2,q3⟩=>⟨ao,c,q1,q2,fun hl=>by obtain ⟨b,off,r1,r2,r3,r4⟩:=q3 hl;exact ⟨b,off,r1,⟨r3,r2.2⟩,r3,r4⟩⟩
   have ha:Cat (fun k=>k < W.heap.size∧¬ F.has p A.n k) W ob xs.os:=by
    obtain ⟨ao,c,q1,q2,q3⟩:=hW.cat
    refine ⟨ao,c,q1,q2,fun hl=>?_⟩
    obtain ⟨b,off,r1,r2,r3,r4⟩:=q3 hl
    refine ⟨b,off,r1,⟨r3,r2.2⟩,r3,fun i hi=>?_⟩
    obtain ⟨sv,t1,t2,t3,t4⟩:=r4 i hi
    exact ⟨sv,t1,t2,t3,h6 t4⟩
   have hc:A=A.rd A.reads:=rfl
   refine (mend_any hM (A:=A) (ho:=0) ⟨rfl,hW.vol,A.reads,hc⟩ hW.arc h3 (by decide) hW.free (h6 hW.pgs) ha).mono ?_
   rintro e Y ⟨rfl,⟨A1,he,⟨rfl,h0,rs,rfl⟩⟩,hO⟩
   have h7:Outside (F.has p A.n) w Y:=(Outside.of_all hb _).trans hO
   exact ⟨rfl,⟨⟨rs,h0⟩,h7⟩,h.arc.keep (h7.block _ h.arc.lt h.nar),h0.vol,(hO.block _ h3.lt (fun c=>by have:=h.vol.arr.has_lt c;omega)).trans h3⟩
 · rintro e w' ⟨rfl,Y,⟨⟨rs,h0⟩,hO⟩,rfl⟩
   have h4:∀ j,((Y.setCell ⟨v,5,none⟩ (.int .u64 (0:Nat))).drew).heap[j]?=Y.heap[j]?:=fun j=>by
    by_cases e:j=v
    · subst e
      exact (heap_setCell_at (j:=5) h0.vol (.int .u64 (0:Nat))).trans h0.vol.symm
    · exact blk_setCell_other _ _ _ _ e
   have hb:Below Y.heap.size Y ((Y.setCell ⟨v,5,none⟩ (.int .u64 (0:Nat))).drew):=⟨rfl,rfl,rfl,by simp [World.setCell,World.drew],fun j _=>h4 j⟩
   have h1:=hO.trans (Outside.of_all hb _)
   have h8:KpS (fun k=>ar < k∧¬ F.has p A.n k) w ((Y.setCell ⟨v,5,none⟩ (.int .u64 (0:Nat))).drew):=⟨h1.size,fun k hk q=>h1.block k hk q.2⟩
   exact ⟨rfl,⟨rs,⟨h.arc.keep (h1.block _ h.arc.lt h.nar),h0.below hb (Nat.le_refl _),h.free,h.nar,h.vne,h.arK,h.fit.rd rs,h.par,h.disk.rd rs,h.pgs.keep h8,h.cat.keep h8,h.nb,h.turn⟩⟩,h1⟩
end
section
open Go.Shelf Gf
structure Lame (w:World) (ar v p sb D L G t d:Nat) (pg ob:Value) (P:List Nat) (xs:Obs) (A:Arr) (F:Foot):Prop where
 arc:ArcAt w ar v D L G t (P.getD 0 0) (packL xs.os).length pg ob false
 vol:Vol w v p D L G (sb+1+1+1) 0 (A.setLost d true) F
 free:Free F p A.n v
 nar:¬ F.has p A.n ar
 fit:A.fit
 par:Pars D L G
 disk:OnDisk A D L G t P xs
 pgs:Ints (fun k=>ar < k∧¬ F.has p A.n k) w pg P
 cat:Cat (fun k=>ar < k∧¬ F.has p A.n k) w ob xs.os
 nb:A.nb≤1000
 turn:t≤1000000
 sh:ShAt w sb 0
 shF:∀ k,F.has p A.n k→k < sb
 sbK:3≤sb
 shv:sb+1+1+1 < v
 var:v < ar
 dn:d < A.n
 told:∃ C,tells (cks D L G) (mems (goneN (D+L+G) (2^d)))=some C
 rok:(Rec.root D L G t (P.getD 0 0) (packL xs.os).length).ok
theorem Lame.below (h:Lame w ar v p sb D L G t d pg ob P xs A F) (hb:Below w.heap.size w w'):Lame w' ar v p sb D L G t d pg ob P xs A F:=
 ⟨h.arc.keep (hb.block _ h.arc.lt),h.vol.below hb (Nat.le_refl _),h.free,h.nar,h.fit,h.par,h.disk,h.pgs.keep (KpS.of_below hb),h.cat.keep (KpS.of_below hb),h.nb,h.turn,h.sh.below hb,h.shF,h.sbK,h.shv,h.var,h.dn,h.told,h.rok⟩
theorem mems_two (hd:d < 16):mems (2^d)=[d]:=by
 have h1:∀ i,i∈mems (2^d)↔i=d:=fun i=>⟨mems_one i,fun e=>by subst e;exact mem_mems.2 ⟨hd,by rw [Nat.testBit_two_pow];exact decide_eq_true rfl⟩⟩
 have h2:=mems_nodup (2^d)
 match hq:mems (2^d) with
 | []=>rw [hq] at h1;exact absurd ((h1 d).2 rfl) (by simp)
 | [a]=>rw [hq] at h1;rw [(h1 a).1 (by simp)]
 | a :: b :: r=>
  rw [hq] at h1 h2
  have ha:=(h1 a).1 (by simp)
  have hb:=(h1 b).1 (by simp)
  subst ha
  rw [hb] at h2
  simp at h2
theorem ls_two (h:Lone A d) (hd:d < 16):lsOf A (mems (2^d))=2^d:=by
 rw [mems_two hd,show ([d]:List Nat)=[] ++ [d] from rfl,lsOf_lost A [] d (by rw [h];exact decide_eq_true rfl)]
 simp [lsOf]
theorem rowsD_lt (h:∀ x∈l,x < 256):∀ r∈rowsD D l,∀ x∈r,x < 256:=by
 intro r hr x hx
 unfold rowsD at hr
 obtain ⟨i,_,rfl⟩:=List.mem_map.1 hr
 have h1:=List.mem_of_mem_drop (List.mem_of_mem_take hx)
 unfold padD at h1
 rcases List.mem_append.1 h1 with q | q
 · exact h x q
 · rw [List.eq_of_mem_replicate q];decide
theorem stripe_dl (h:OnDisk A D L G t P xs) (x:Nat) (hx:x∈P ++ allSt xs.os):∃ dl:List (List Nat),dl.length=D∧(∀ l∈dl,∀ b∈l,b < 256)∧∀ i,i < A.n→A.blk i x=(Rec.shard ((encL (matL D L G) dl 44).getD i [])).blk:=by
 rcases List.mem_append.1 hx with hp | hs
 · obtain ⟨k,hk,rfl⟩:=List.getElem_of_mem hp
   refine ⟨rowsD D (pageB D P (packL xs.os) k),rowsD_len _ _,rowsD_lt (pageB_lt (packL_lt _) P k),fun i hi=>?_⟩
   have:=h.page k hk i hi
   rwa [getD_in hk] at this
 · unfold allSt Obs.os at hs
   obtain ⟨o,ho,h0⟩:=List.mem_flatMap.1 hs
   obtain ⟨y,hy,rfl⟩:=List.mem_map.1 ho
   obtain ⟨j,hj,rfl⟩:=List.getElem_of_mem h0
   refine ⟨rowsD D (chunkB D y.2 j),rowsD_len _ _,rowsD_lt (fun b hb=>(h.fits y hy).byt b (List.mem_of_mem_drop (List.mem_of_mem_take hb))),fun i hi=>?_⟩
   have:=h.held y hy j hj i hi
   rwa [getD_in hj] at this
theorem lone_set (h:∀ i,A.lost i=false) (d:Nat):Lone (A.setLost d true) d:=fun i=>by
 show (if i=d then true else A.lost i)=decide (i=d)
 by_cases e:i=d
 · rw [if_pos e,decide_eq_true e]
 · rw [if_neg e,decide_eq_false e,h]
def Jlo (v p D L G sb d:Nat) (A:Arr) (F:Foot) (X:World) (A':Arr) (ho:Nat):Prop:=ho < 65536∧Vol X v p D L G (sb+1+1+1) ho A' F∧(∃ rs,A'=(A.setLost d true).rd rs)∧ShAt X sb 0
def MvL (v p sb:Nat) (A:Arr) (F:Foot) (k:Nat):Prop:=k=v∨k=sb∨k=sb+1∨F.has p A.n k
theorem Vol.later2 {h1:Nat} (h0:Vol w v p D L G ps ho A F) (hn:A'.n=A.n) (h:Vol X v p D L G ps h1 A' F) (hO:Outside T X Y) (hT:∀ k,T k→w.heap.size≤k):Vol Y v p D L G ps h1 A' F:=by
 have hk:∀ k,k < w.heap.size→¬ T k:=fun k hk q=>by have:=hT k q;omega
 refine ⟨h.vol.keep (hO.block _ h.vol.lt (hk _ h0.vol.lt)),h.arr.keep fun k h2=>hO.block k (h.arr.has_lt h2) (hk _ (h0.arr.has_lt (by rw [← hn];exact h2))),h.laid.keep (hO.block _ h.laid.lt (hk _ h0.laid.lt)),h.tab.keep (hO.block _ h.tab.lt (hk _ h0.tab.lt)),Nat.le_trans h.room hO.size⟩
theorem mends_lost (h:Lame w ar v p sb D L G t d pg ob P xs A F) {q:Nat} (h4:¬ MvL v p sb A F q)
 (h8:(Rec.root D L G t (P.getD 0 0) (packL xs.os).length).ok) (hz:2≤A.nb) :
 ∃ R,Mends w ar v p D L G (sb+1+1+1) t (P.getD 0 0) (packL xs.os).length A.n q (2^d) (2^d) pg ob false A.n A.nb F (MvL v p sb A F) (P ++ allSt xs.os) R (Jlo v p D L G sb d A F):=by
 obtain ⟨R,hR⟩:∃ R:Nat→List (List Nat),∀ x,x∈P ++ allSt xs.os→(R x).length=D∧(∀ l∈R x,∀ b∈l,b < 256)∧∀ i,i < A.n→A.blk i x=(Rec.shard ((encL (matL D L G) (R x) 44).getD i [])).blk:=by
  have:∀ x,∃ M:List (List Nat),x∈P ++ allSt xs.os→M.length=D∧(∀ l∈M,∀ b∈l,b < 256)∧∀ i,i < A.n→A.blk i x=(Rec.shard ((encL (matL D L G) M 44).getD i [])).blk:=fun x=>by
   by_cases hx:x∈P ++ allSt xs.os
   · obtain ⟨M,hM⟩:=stripe_dl h.disk x hx
     exact ⟨M,fun _=>hM⟩
   · exact ⟨[],fun q=>absurd q hx⟩
  exact ⟨fun x=>Classical.choose (this x),fun x=>Classical.choose_spec (this x)⟩
 have hd:=h.disk
 have hN:=hd.n
 have hp:=h.par
 have h9:A.n≤16:=by have:=hp.s;omega
 have h0:d < 16:=by have:=h.dn;omega
 have h3:=lone_set hd.lost d
 have h5:∀ k,F.has p A.n k→k < w.heap.size:=fun k hk=>h.vol.arr.has_lt hk
 have k0:=h.sh.lt
 have k5:=h.vol.vol.lt
 have k6:2 < 3:=by decide
 have k7:1 < 3:=by decide
 have k8:=h.sbK
 have hf:=h.shv
 have hh:=h.var
 have h2:∀ rs,((A.setLost d true).rd rs).fit:=fun rs=>⟨h.fit.n,h.fit.nb,h.fit.len,h.fit.byt⟩
 have hc:∀ x,(encL (matL D L G) (R x) 44).length=A.n:=fun x=>by rw [enc_len,mat_len];exact hN.symm
 have hj:∀ x i (hi:i < (encL (matL D L G) (R x) 44).length),(encL (matL D L G) (R x) 44)[i].length=44∧∀ b∈(encL (matL D L G) (R x) 44)[i],b < 256:=fun x i hi=>by
  have hm:i < (matL D L G).length:=by rw [mat_len];rw [hc] at hi;omega
  have e:(encL (matL D L G) (R x) 44)[i]=combTo (matL D L G)[i] (R x) 44 (R x).length:=by simp [encL]
  rw [e]
  exact ⟨combTo_len _ _ _ _,combTo_lt _ _ (mat_byte D L G hp.d hp.g _ (List.getElem_mem hm)) _ _⟩
 obtain ⟨C,hC⟩:=h.told
 refine ⟨fun x=>encL (matL D L G) (R x) 44,?_,?_,?_,?_,?_,?_,fun x _=>hc x,fun x hx=>(hd.inb x hx).2,two_lt h0,fun i hi=>by rw [mems_one i hi];exact h.dn,rfl,hN,hp.d,hp.l4,hp.g,fun _ q=>.inr (.inr (.inr q)),?_,h4,?_⟩
 · rintro X A' ho ⟨_,hV,⟨rs,rfl⟩,_⟩
   exact ⟨hV,h2 rs,rfl,rfl,hd.wait,ls_two (A:=(A.setLost d true).rd rs) h3 h0⟩
 · rintro X Y A' ho T ⟨h1,hV,⟨rs,rfl⟩,hS⟩ hO hT
   exact ⟨h1,h.vol.later2 rfl hV hO hT,⟨rs,rfl⟩,hS.keep fun k q1 q2=>hO.block k (by have:=hS.lt;omega) (fun q=>by have:=hT k q;omega)⟩
 · rintro X Y A' ho x ⟨h1,hV,⟨rs,rfl⟩,hS⟩ hx hO hA
   rw [putL_rds (A:=A.setLost d true) rs (fun i hi=>(hR x hx).2.2 i (by rw [mems_one i hi];exact h.dn)) hd.bad] at hA ⊢
   exact ⟨h1,hV.turn h.free hO hA,⟨rs,rfl⟩,hS.keep fun k q1 q2=>hO.block k (by have:=hS.lt;omega) (fun q=>by have:=h.shF k q;omega)⟩
 · rintro X A' ho r g b0 gone sp f0 x ⟨h1,hV,⟨rs,rfl⟩,hS⟩ hx hr hg hn he h6
   have k9:=he.lt
   refine (whole_lost (base:=w.heap.size) (A:=(A.setLost d true).rd rs) (dl:=R x) hV h.free (h2 rs) he h6 hS hN rfl hp.r hp.d1 hp.d hp.l1 hp.l4 hp.g hp.div hp.s (hd.inb x hx).2 (by show A.wait≠0;have:=hd.wait;omega) h1 h.dn h3 (fun i _=>hd.bad i x) (hR x hx).1 (hR x hx).2.1 hC (hj x) (hR x hx).2.2 (fun q=>by have:=h5 g q;omega) (fun q=>by have:=h5 r q;omega) hn (by omega) (by omega) (by omega) (by omega) (by omega) h.shF hf (by omega) (by omega) hg (by omega)).mono ?_
   rintro e Y ⟨rfl,hY⟩
   obtain ⟨f1,hq⟩:=hY.row
   obtain ⟨rs2,hs⟩:=hY.arr
   have hy:ho|||2^d < 65536:=Nat.or_lt_two_pow (n:=16) h1 (Nat.pow_lt_pow_right (by decide) h0)
   refine ⟨2^d,2^d,0,f1,(A.setLost d true).rd rs2,ho|||2^d,rfl,hY.rd,hq,hY.rws,⟨hy,⟨hY.vol,hs,?_,?_,Nat.le_trans hV.room hY.out.size⟩,⟨rs2,rfl⟩,hY.sh⟩,hY.out.mono fun k _ q=>?_⟩
   · exact hV.laid.keep (hY.out.block _ hV.laid.lt (fun q=>by rcases q with q | q | q | q | q | q;omega;omega;omega;omega;omega;exact h.free.g q))
   · exact hV.tab.keep (hY.out.block _ hV.tab.lt (fun q=>by rcases q with q | q | q | q | q | q;omega;omega;omega;omega;omega;exact h.free.t q))
   · rcases q with q | q | q | q | q | q
     · exact .inl q
     · exact .inr (.inl q)
     · exact .inr (.inr (.inl q))
     · exact .inr (.inr (.inr (.inl q)))
     · exact .inr (.inr (.inr (.inr (.inl q))))
     · exact .inr (.inr (.inr (.inr (.inr q))))
 · rintro X A' ho ⟨h1,hV,⟨rs,rfl⟩,hS⟩ ha h7
   refine (mendCopies_any (A:=(A.setLost d true).rd rs) ha hV h.free h.nar (h2 rs) 0 hN hp.d hp.l4 hp.g h9 (by show 0 < A.nb;omega) hd.wait hd.bad _ h8 (makes_root h8) (like_root _ _ _ _ _ _) hd.root h7 (fun q=>h4 (.inr (.inr (.inr q)))) (two_lt h0) (fun i hi=>by rw [mems_one i hi];exact h.dn)).mono ?_
   rintro e Y ⟨rfl,⟨rs2,hA⟩,hO⟩
   exact ⟨by rw [ls_two (A:=(A.setLost d true).rd rs) h3 h0],hO.mono fun _ _ q=>.inr (.inr (.inr q)),_,ho,h1,hV.turn h.free hO hA,⟨rs2,rfl⟩,hS.keep fun k q1 q2=>hO.block k (by have:=hS.lt;omega) (fun q=>by have:=h.shF k q;omega)⟩
 · rintro X A' ho ⟨h1,hV,⟨rs,rfl⟩,hS⟩ ha h7
   refine (mendCopies_any (A:=(A.setLost d true).rd rs) ha hV h.free h.nar (h2 rs) 1 hN hp.d hp.l4 hp.g h9 (by show 1 < A.nb;omega) hd.wait hd.bad .filled trivial makes_filled like_filled hd.fill h7 (fun q=>h4 (.inr (.inr (.inr q)))) (two_lt h0) (fun i hi=>by rw [mems_one i hi];exact h.dn)).mono ?_
   rintro e Y ⟨rfl,⟨rs2,hA⟩,hO⟩
   exact ⟨by rw [ls_two (A:=(A.setLost d true).rd rs) h3 h0],hO.mono fun _ _ q=>.inr (.inr (.inr q)),_,ho,h1,hV.turn h.free hO hA,⟨rs2,rfl⟩,hS.keep fun k q1 q2=>hO.block k (by have:=hS.lt;omega) (fun q=>by have:=h.shF k q;omega)⟩
 · rintro (q | q | q | q)
   · omega
   · omega
   · omega
   · exact h.nar q
 · rintro k (q | q | q | q)
   · omega
   · omega
   · omega
   · exact h5 k q
end
theorem powered2_ok (k:FuncId) (first cap:Array Value) (h3:∀ (args:Array Value) (w:World),(callFunc k args).run Tryz.prog w=.ok (.enter k args) w) (w:World) (R:World→Value→World→Prop)
 (h2:∀ w1,Below w.heap.size w w1→w1.heap.size=w.heap.size+1→w1.heap[w.heap.size]?=some (.cells #[.nilIface] 29 (0,0))→Calls Tryz.prog k (first ++ cap) w1 fun e w2=>∃ v,e=.returned v∧isErr v∧R w1 v w2∧w2.heap[w.heap.size]?=w1.heap[w.heap.size]?) :
 Calls Tryz.prog 31 #[.func (.func k) first cap] w fun e w'=>∃ v w1 w2,e=.returned v∧isErr v∧Below w.heap.size w w1∧w1.heap.size=w.heap.size+1∧R w1 v w2∧w'=w2.setCell ⟨w.heap.size,0,none⟩ v:=by
 have h4:∀ (fn:Fn) (first cap:Array Value) (w:World),(Instr.makeFunc fn first cap).run Tryz.prog w=.ok (.func fn first cap) w:=fun _ _ _ _=>rfl
 have hc:=h2 (w.alloc (.cells #[.nilIface] 29)) ((Below.refl _ w).alloc (Nat.le_refl _) _) (by simp) (heap_alloc_last w _)
 have h0:(w.alloc (.cells #[.nilIface] 29)).heap[w.heap.size]?=some (.cells #[.nilIface] 29 (0,0)):=blk_alloc_new _ _
 go_enter_defers Tryz.func31,Tryz.ntmps31
 go_wp2_with fail
 refine hc.mono ?_
 clear hc
 rintro e w2 ⟨v,rfl,hv,hR,h1⟩
 have ht:w2.heap[w.heap.size]?=some (.cells #[.nilIface] 29 (0,0)):=h1.trans h0
 have c2:w2.cell? ⟨w.heap.size,0,none⟩=some .nilIface:=by simp [World.cell?,ht]
 have f2:w2.frozen? ⟨w.heap.size,0,none⟩=false:=by simp [World.frozen?,ht]
 have c3:(w2.setCell ⟨w.heap.size,0,none⟩ v).cell? ⟨w.heap.size,0,none⟩=some v:=by simp [World.cell?,World.setCell,Array.getElem?_modify,ht]
 have H:=hide2 hR hv
 clear hR h1 ht h0 h2
 rcases hv with rfl | ⟨t,u,rfl⟩
 · go_wp2
   refine leaves_cons (f:=45) (args:=#[.pointer (some ⟨w.heap.size,0,none⟩)]) (by simp) (by simp [go_sem]) ?_
   refine (catch_idle ⟨w.heap.size,0,none⟩ _).mono ?_
   rintro e u' w'' ⟨rfl,rfl,rfl⟩
   refine ⟨.nilIface,by simp [results,Tryz.results31,go_sem,c3],_,_,w2,rfl,.inl rfl,(Below.refl _ w).alloc (Nat.le_refl _) (.cells #[.nilIface] 29),by simp,H.out.1,rfl⟩
 · go_wp2
   refine leaves_cons (f:=45) (args:=#[.pointer (some ⟨w.heap.size,0,none⟩)]) (by simp) (by simp [go_sem]) ?_
   refine (catch_idle ⟨w.heap.size,0,none⟩ _).mono ?_
   rintro e u' w'' ⟨rfl,rfl,rfl⟩
   refine ⟨.iface t u,by simp [results,Tryz.results31,go_sem,c3],_,_,w2,rfl,.inr ⟨t,u,rfl⟩,(Below.refl _ w).alloc (Nat.le_refl _) (.cells #[.nilIface] 29),by simp,H.out.1,rfl⟩
theorem arcPowered2_ok (k:FuncId) (first cap:Array Value) (hi:∀ (args:Array Value) (w:World),(callFunc k args).run Tryz.prog w=.ok (.enter k args) w) (w:World) (a:Nat) (cs:Array Value) (ha:w.heap[a]?=some (.cells cs 98 (0,0))) (h9:cs[9]?=some (.bool false)) (R:World→Value→World→Prop)
 (h8:∀ w1,Below w.heap.size w w1→w1.heap.size=w.heap.size+1→w1.heap[w.heap.size]?=some (.cells #[.nilIface] 29 (0,0))→Calls Tryz.prog k (first ++ cap) w1 fun e w2=>∃ v,e=.returned v∧noCut v∧R w1 v w2∧w2.heap[w.heap.size]?=w1.heap[w.heap.size]?∧∃ cs',w2.heap[a]?=some (.cells cs' 98 (0,0))∧cs'[9]?=some (.bool false)) :
 Calls Tryz.prog 20 #[.pointer (some ⟨a,0,none⟩),.func (.func k) first cap] w fun e w'=>∃ v w1 w2,e=.returned v∧noCut v∧Below w.heap.size w w1∧w1.heap.size=w.heap.size+1∧R w1 v w2∧w'=(w2.setCell ⟨w.heap.size,0,none⟩ v).setCell ⟨a,9,none⟩ (.bool false):=by
 have hj:a < w.heap.size:=(Array.getElem?_eq_some_iff.1 ha).1
 have c9:w.cell? ⟨a,9,none⟩=some (.bool false):=by simp [World.cell?,ha,h9]
 have hP:=powered2_ok k first cap hi w (fun w1 v w2=>noCut v∧R w1 v w2∧∃ cs',w2.heap[a]?=some (.cells cs' 98 (0,0))∧cs'[9]?=some (.bool false)) (fun w1 h1 h2 h3=>(h8 w1 h1 h2 h3).mono (by
  rintro e w2 ⟨v,rfl,h3,h4,h5,h6⟩
  exact ⟨v,rfl,h3.isErr,⟨h3,h4,h6⟩,h5⟩))
 go_enter Tryz.func20,Tryz.ntmps20
 go_wp2_with fail
 refine hP.mono ?_
 rintro e w3 ⟨v,w1,w2,rfl,_,hc,he,⟨hf,hR,cs',hg,hh⟩,rfl⟩
 have h0:(w2.setCell ⟨w.heap.size,0,none⟩ v).heap[a]?=some (.cells cs' 98 (0,0)):=(blk_setCell_other _ _ _ _ (by show a≠w.heap.size;omega)).trans hg
 obtain ⟨w3,h7⟩:∃ w3,w2.setCell ⟨w.heap.size,0,none⟩ v=w3:=⟨_,rfl⟩
 rw [h7] at h0 ⊢
 have d9:w3.cell? ⟨a,9,none⟩=some (.bool false):=by simp [World.cell?,h0,hh]
 have f9:w3.frozen? ⟨a,9,none⟩=false:=by simp [World.frozen?,h0]
 have H:=hide5 hc he hR hf h7
 clear hc he hR hP h8 h0 hh hg h7
 rcases hf with rfl | ⟨n,hn,rfl⟩
 · go_wp2_with fail
   refine (is_nil 13 w3).mono ?_
   rintro e w' ⟨rfl,rfl⟩
   go_wp2
   go_ret
   obtain ⟨q1,q2,q3,q4,q5⟩:=H.out
   exact ⟨.nilIface,w1,w2,rfl,q4,q1,q2,q3,by rw [q5]⟩
 · go_wp2_with fail
   refine (is_errno n hn w3).mono ?_
   rintro e w' ⟨rfl,rfl⟩
   go_wp2
   go_ret
   obtain ⟨q1,q2,q3,q4,q5⟩:=H.out
   exact ⟨.iface 37 (.int .i64 n),w1,w2,rfl,q4,q1,q2,q3,by rw [q5]⟩
section
open Gf
def NoNum (w:World) (b:Nat):Prop:=∀ off u,w.cell? ⟨b,off,none⟩=some u→(∀ x,u≠.int .i64 x)∧∀ s,u≠.string s
theorem noNum_err (hb:w.heap[b]?=some (.cells #[.nilIface] 29 (0,0))):NoNum w b:=fun off u h=>by
 cases off with
 | zero=>simp [World.cell?,hb] at h;subst h;exact ⟨fun _=>nofun,fun _=>nofun⟩
 | succ n=>simp [World.cell?,hb] at h
theorem Ints.aside {v:Value} (h:Ints K w v l) (hb:NoNum w b) (hz:w.heap.size≤w'.heap.size) (hk:∀ k,k≠b→k < w.heap.size→w'.heap[k]?=w.heap[k]?):Ints K w' v l:=by
 obtain ⟨ao,c,h1,h2,h3⟩:=h
 refine ⟨ao,c,h1,h2,fun hl=>?_⟩
 obtain ⟨b',off,q1,q2,q3,q4⟩:=h3 hl
 have h0:b'≠b:=fun e=>by
  subst e
  exact (hb _ _ (q4 0 (List.length_pos_iff.2 hl))).1 _ rfl
 exact ⟨b',off,q1,q2,Nat.lt_of_lt_of_le q3 hz,fun i hi=>(World.cell?_of_block (hk b' h0 q3)).trans (q4 i hi)⟩
theorem Cat.aside {v:Value} {os:List Ob} (h:Cat K w v os) (hb:NoNum w b) (hz:w.heap.size≤w'.heap.size) (hk:∀ k,k≠b→k < w.heap.size→w'.heap[k]?=w.heap[k]?):Cat K w' v os:=by
 obtain ⟨ao,c,h1,h2,h3⟩:=h
 refine ⟨ao,c,h1,h2,fun hl=>?_⟩
 obtain ⟨b',off,q1,q2,q3,q4⟩:=h3 hl
 have h4:b'≠b:=fun e=>by
  subst e
  obtain ⟨sv,r1,_⟩:=q4 0 (List.length_pos_iff.2 hl)
  exact (hb _ _ r1).2 _ rfl
 refine ⟨b',off,q1,q2,Nat.lt_of_lt_of_le q3 hz,fun i hi=>?_⟩
 obtain ⟨sv,r1,r2,r3,r4⟩:=q4 i hi
 have h0:=hk b' h4 q3
 exact ⟨sv,(World.cell?_of_block h0).trans r1,(World.cell?_of_block h0).trans r2,(World.cell?_of_block h0).trans r3,r4.aside hb hz hk⟩
theorem Live.aside {B:Nat} (h:Live w ar v p ps D L G t pg ob P xs A F) (hb:NoNum w b) (hz:w.heap.size≤w'.heap.size) (hk:∀ k,k≠b→k < w.heap.size→w'.heap[k]?=w.heap[k]?) (hB:B≤b) (hF:∀ k,F.has p A.n k→k < B) (hv:v < B) (ha:ar < B) (hK:3≤B):Live w' ar v p ps D L G t pg ob P xs A F:=by
 have k1:2 < 3:=by decide
 have k2:1 < 3:=by decide
 exact ⟨h.arc.keep (hk _ (by omega) h.arc.lt),⟨h.vol.vol.keep (hk _ (by omega) h.vol.vol.lt),h.vol.arr.keep fun j hj=>hk j (by have:=hF j hj;omega) (h.vol.arr.has_lt hj),h.vol.laid.keep (hk _ (by omega) h.vol.laid.lt),h.vol.tab.keep (hk _ (by omega) h.vol.tab.lt),Nat.le_trans h.vol.room hz⟩,h.free,h.nar,h.vne,h.arK,h.fit,h.par,h.disk,h.pgs.aside hb hz hk,h.cat.aside hb hz hk,h.nb,h.turn⟩
def Aside (b:Nat) (w w':World):Prop:=w.heap[b]?=some (.cells #[.nilIface] 29 (0,0))∧w'.heap.size=w.heap.size∧∀ j,j≠b→w'.heap[j]?=w.heap[j]?
theorem arcDoT (h:Live w ar v p ps D L G t pg ob P xs A F) (k:FuncId) (first cap:Array Value) (hg:∀ (args:Array Value) (w:World),(callFunc k args).run Tryz.prog w=.ok (.enter k args) w) (Q:Value→Nat→Obs→Arr→World→Prop) (T:Nat→Prop) (hT:∀ j,T j→j≠w.heap.size)
 (hh:∀ x t' xs' B w2 w',Aside w.heap.size w2 w'→Q x t' xs' B w2→Q x t' xs' B w')
 (hi:∀ w1,Below w.heap.size w w1→w1.heap.size=w.heap.size+1→Calls Tryz.prog k (first ++ cap) w1 fun e w2=>∃ x t' pg' ob' P' xs' B,e=.returned x∧noCut x∧Live w2 ar v p ps D L G t' pg' ob' P' xs' B F∧B.n=A.n∧B.nb=A.nb∧Outside (fun j=>j=ar∨F.has p A.n j∨T j) w1 w2∧Q x t' xs' B w2) :
 Calls Tryz.prog 20 #[.pointer (some ⟨ar,0,none⟩),.func (.func k) first cap] w fun e w'=>∃ x t' pg' ob' P' xs' B,e=.returned x∧noCut x∧Live w' ar v p ps D L G t' pg' ob' P' xs' B F∧B.n=A.n∧B.nb=A.nb∧Outside (fun j=>j=ar∨F.has p A.n j∨T j) w w'∧Q x t' xs' B w':=by
 have h5:=h.arc.lt
 have hk:=h.vol.vol.lt
 have ha:∀ j,F.has p A.n j→j < w.heap.size:=fun j hj=>h.vol.arr.has_lt hj
 have h0:=h.vol.room
 have hm:=arcPowered2_ok k first cap hg w ar _ h.arc rfl (fun w1 x w2=>Below w.heap.size w w1∧w1.heap.size=w.heap.size+1∧w2.heap[w.heap.size]?=some (.cells #[.nilIface] 29 (0,0))∧∃ t' pg' ob' P' xs' B,Live w2 ar v p ps D L G t' pg' ob' P' xs' B F∧B.n=A.n∧B.nb=A.nb∧Outside (fun j=>j=ar∨F.has p A.n j∨T j) w1 w2∧Q x t' xs' B w2)
  (fun w1 h4 h6 hp=>(hi w1 h4 h6).mono (by
   rintro e w2 ⟨x,t',pg',ob',P',xs',B,rfl,hx,hl,hn,h7,hO,hQ⟩
   have hc:=hO
   have he:w2.heap[w.heap.size]?=w1.heap[w.heap.size]?:=hc.block _ (by omega) (fun e=>by
    rcases e with e | e | e
    · omega
    · have:=ha _ e;omega
    · exact hT _ e rfl)
   exact ⟨x,rfl,hx,⟨h4,h6,he.trans hp,t',pg',ob',P',xs',B,hl,hn,h7,hc,hQ⟩,he,_,hl.arc,rfl⟩))
 refine hm.mono ?_
 rintro e w' ⟨x,w1,w2,rfl,hx,_,_,⟨h4,h6,hf,t',pg',ob',P',xs',B,hl,hn,h7,hO,hQ⟩,rfl⟩
 have h8:(w2.setCell ⟨w.heap.size,0,none⟩ x).heap[ar]?=some (.cells (arcA v D L G t' (P'.getD 0 0) (packL xs'.os).length pg' ob' false) 98 (0,0)):=(blk_setCell_other _ _ _ _ (by show ar≠w.heap.size;omega)).trans hl.arc
 have h9:=heap_setCell_at (j:=9) h8 (.bool false)
 have h3:Aside w.heap.size w2 ((w2.setCell ⟨w.heap.size,0,none⟩ x).setCell ⟨ar,9,none⟩ (.bool false)):=by
  refine ⟨hf,by simp [World.setCell],fun j hj=>?_⟩
  by_cases e:j=ar
  · subst e
    exact h9.trans hl.arc.symm
  · exact (blk_setCell_other _ _ _ _ e).trans (blk_setCell_other _ _ _ _ hj)
 have hq:=hl.aside (w':=(w2.setCell ⟨w.heap.size,0,none⟩ x).setCell ⟨ar,9,none⟩ (.bool false)) (b:=w.heap.size) (B:=w.heap.size) (noNum_err hf) (by rw [h3.2.1];exact Nat.le_refl _) (fun j hj _=>h3.2.2 j hj) (Nat.le_refl _) (by rw [hn];exact ha) hk h5 h0
 refine ⟨x,t',pg',ob',P',xs',B,rfl,hx,hq,hn,h7,?_,hh _ _ _ _ _ _ h3 hQ⟩
 have hr:Outside (fun j=>j=ar∨F.has p A.n j∨T j) w w2:=(Outside.of_all h4 _).trans hO
 exact hr.later (T:=fun j=>w.heap.size≤j) ⟨rfl,rfl,rfl,by rw [h3.2.1];exact Nat.le_refl _,fun j _ hj=>h3.2.2 j (by omega)⟩ (fun j h1 h2=>by omega)
theorem arcDo (h:Live w ar v p ps D L G t pg ob P xs A F) (k:FuncId) (first cap:Array Value) (h0:∀ (args:Array Value) (w:World),(callFunc k args).run Tryz.prog w=.ok (.enter k args) w) (Q:Value→Nat→Obs→Arr→World→Prop)
 (h8:∀ x t' xs' B w2 w',Aside w.heap.size w2 w'→Q x t' xs' B w2→Q x t' xs' B w')
 (h9:∀ w1,Below w.heap.size w w1→w1.heap.size=w.heap.size+1→Calls Tryz.prog k (first ++ cap) w1 fun e w2=>∃ x t' pg' ob' P' xs' B,e=.returned x∧noCut x∧Live w2 ar v p ps D L G t' pg' ob' P' xs' B F∧B.n=A.n∧B.nb=A.nb∧Outside (fun j=>j=ar∨F.has p A.n j) w1 w2∧Q x t' xs' B w2) :
 Calls Tryz.prog 20 #[.pointer (some ⟨ar,0,none⟩),.func (.func k) first cap] w fun e w'=>∃ x t' pg' ob' P' xs' B,e=.returned x∧noCut x∧Live w' ar v p ps D L G t' pg' ob' P' xs' B F∧B.n=A.n∧B.nb=A.nb∧Outside (fun j=>j=ar∨F.has p A.n j) w w'∧Q x t' xs' B w':=by
 refine (arcDoT h k first cap h0 Q (fun _=>False) (fun _ e=>e.elim) h8 fun w1 ha hc=>(h9 w1 ha hc).mono ?_).mono ?_
 · rintro e w2 ⟨x,t',pg',ob',P',xs',B,h1,h2,h3,h4,h5,h6,h7⟩
   exact ⟨x,t',pg',ob',P',xs',B,h1,h2,h3,h4,h5,h6.mono fun j _ hj=>hj.elim .inl (fun q=>.inr (.inl q)),h7⟩
 · rintro e w2 ⟨x,t',pg',ob',P',xs',B,h1,h2,h3,h4,h5,h6,h7⟩
   exact ⟨x,t',pg',ob',P',xs',B,h1,h2,h3,h4,h5,h6.mono fun j _ hj=>hj.elim .inl (fun q=>q.elim .inr (fun q=>q.elim)),h7⟩
end
section
open Gf
def RepQ (t:Nat) (xs:Obs) (A:Arr) (d:Int) (r:Value) (t':Nat) (xs':Obs) (B:Arr) (_:World):Prop:=t'=t∧xs'=xs∧(∃ rs,B=A.rd rs)∧((0≤d∧d < A.n∧r=.nilIface)∨((d < 0∨(A.n:Int)≤d)∧r=.iface 37 (.int .i64 11)))
def RepPost (w:World) (ar v p ps D L G:Nat) (A:Arr) (F:Foot) (Q:Value→Nat→Obs→Arr→World→Prop) (e:Ending) (w':World):Prop:=
 ∃ x t' pg' ob' P' xs' B,e=.returned x∧noCut x∧Live w' ar v p ps D L G t' pg' ob' P' xs' B F∧B.n=A.n∧B.nb=A.nb∧Outside (fun j=>j=ar∨F.has p A.n j) w w'∧Q x t' xs' B w'
theorem RepPost.later {w1:World} {Q:Value→Nat→Obs→Arr→World→Prop} {e:Ending} (h:RepPost w1 ar v p ps D L G A F Q e w') (hb:Below w.heap.size w w1):RepPost w ar v p ps D L G A F Q e w':=by
 obtain ⟨x,t',pg',ob',P',xs',B,h1,h2,h3,h4,h5,h6,h7⟩:=h
 exact ⟨x,t',pg',ob',P',xs',B,h1,h2,h3,h4,h5,(Outside.of_all hb _).trans h6,h7⟩
theorem replace_all (h:Live w ar v p ps D L G t pg ob P xs A F) (d:Int) :
 Calls Tryz.prog 22 #[.pointer (some ⟨ar,0,none⟩),.int .i64 d] w (RepPost w ar v p ps D L G A F (RepQ t xs A d)):=by
 by_cases hd:0≤d∧d < A.n
 · obtain ⟨k,rfl⟩:∃ k:Nat,d=k:=⟨d.toNat,by omega⟩
   refine (replace_live h k (by omega)).mono ?_
   rintro e w' ⟨rfl,⟨rs,hl⟩,hO⟩
   exact ⟨_,_,_,_,_,_,_,rfl,.inl rfl,hl,rfl,rfl,hO.mono fun _ _ q=>.inr q,rfl,rfl,⟨rs,rfl⟩,.inl ⟨hd.1,hd.2,rfl⟩⟩
 · have hn:=h.disk.n
   refine (replace_none h.arc h.vol.vol h.par.d h.par.l4 h.par.g d (by omega)).mono ?_
   rintro e w' ⟨rfl,hb⟩
   exact ⟨_,_,_,_,_,_,A,rfl,.inr ⟨11,by decide,rfl⟩,h.below hb,rfl,rfl,Outside.of_all hb _,rfl,rfl,⟨A.reads,rfl⟩,.inr ⟨by omega,rfl⟩⟩
theorem aReplace (h:Live w ar v p ps D L G t pg ob P xs A F) (d:Int) :
 Calls Tryz.prog 14 #[.pointer (some ⟨ar,0,none⟩),.int .i64 d] w (RepPost w ar v p ps D L G A F (RepQ t xs A d)):=by
 have hc:∀ (fn:Fn) (first cap:Array Value) (w:World),(Instr.makeFunc fn first cap).run Tryz.prog w=.ok (.func fn first cap) w:=fun _ _ _ _=>rfl
 have ha:∀ (args:Array Value) (w:World),(callFunc 21 args).run Tryz.prog w=.ok (.enter 21 args) w:=enters_of Tryz.func21 (by kernel_rfl) rfl
 obtain ⟨w3,h6⟩:∃ w3,(w.alloc (.cells #[.pointer (some ⟨ar,0,none⟩)] 52)).alloc (.cells #[.int .i64 d] 3)=w3:=⟨_,rfl⟩
 have h1:Boxed w3 w.heap.size 52 (.pointer (some ⟨ar,0,none⟩)):=by rw [← h6];exact (Boxed.new w _ _).alloc _
 have h2:Boxed w3 (w.heap.size+1) 3 (.int .i64 d):=by
  have:=Boxed.new (w.alloc (.cells #[.pointer (some ⟨ar,0,none⟩)] 52)) 3 (.int .i64 d)
  rw [World.size_alloc] at this
  rw [← h6];exact this
 have h0:Below w.heap.size w w3:=by rw [← h6];exact ((Below.refl _ w).alloc (Nat.le_refl _) _).alloc (by simp) _
 have h4:∀ w1,Below w3.heap.size w3 w1→Calls Tryz.prog 21 #[.pointer (some ⟨w.heap.size,0,none⟩),.pointer (some ⟨w.heap.size+1,0,none⟩)] w1 (RepPost w1 ar v p ps D L G A F (RepQ t xs A d)):=fun w1 h3=>by
  have g1:=(show Boxed w1 w.heap.size 52 _ from (h3.block _ h1.lt).trans h1).cell
  have g2:=(show Boxed w1 (w.heap.size+1) 3 _ from (h3.block _ h2.lt).trans h2).cell
  have h5:Below w.heap.size w w1:=h0.trans (h3.mono h0.size)
  have hp:=replace_all (h.below h5) d
  clear h1 h2 h3 h5 h6 h0
  go_enter Tryz.func21,Tryz.ntmps21
  go_wp2_with fail
  refine hp.mono ?_
  rintro e w2 h7
  obtain ⟨r,_,_,_,_,_,_,rfl,_⟩:=id h7
  have H:=hide h7
  clear h7 hp
  go_wp2
  go_ret
  exact H.out
 have h9:=arcDo (h.below h0) 21 #[] #[.pointer (some ⟨w.heap.size,0,none⟩),.pointer (some ⟨w.heap.size+1,0,none⟩)] ha (RepQ t xs A d) (fun _ _ _ _ _ _ _ q=>q) (fun w1 h3 _=>h4 w1 h3)
 have c1:=h1.cell
 have H:=hide2 h9 h0
 clear h9 h0 h4 h1 h2 h
 go_enter Tryz.func14,Tryz.ntmps14
 go_wp2_with fail
 refine H.out.1.mono ?_
 rintro e w8 h8
 obtain ⟨r,_,_,_,_,_,_,rfl,_⟩:=id h8
 have H8:=hide (RepPost.later h8 H.out.2)
 clear h8
 go_wp2
 go_ret
 exact H8.out
theorem sReplace {sa:Nat} (hs:Boxed w sa 54 (.pointer (some ⟨ar,0,none⟩))) (h:Live w ar v p ps D L G t pg ob P xs A F) (d:Int) :
 Calls Tryz.prog 6 #[.pointer (some ⟨sa,0,none⟩),.int .i64 d] w (RepPost w ar v p ps D L G A F (RepQ t xs A d)):=by
 have cs:=hs.cell
 have hc:=aReplace h d
 clear hs h
 go_enter Tryz.func6,Tryz.ntmps6
 go_wp2_with fail
 refine hc.mono ?_
 rintro e w8 h0
 obtain ⟨r,_,_,_,_,_,_,rfl,_⟩:=id h0
 have H8:=hide h0
 clear h0 hc
 go_wp2
 go_ret
 exact H8.out
end
end Go.Proofs.YthcgahldacpolaaGreatDoor
