import Derived.Test.YthcgahldacpolaaGreatDoorM36
import Derived.RangeFuncRecord
import Derived.Deep.CutRange
set_option maxRecDepth 100000
set_option maxHeartbeats 8000000
namespace Go.Proofs.YthcgahldacpolaaGreatDoor
open Go.RowKit Go.Deep
variable {es:Array MapEntry} {D L G lost regs room:Int} {xs:List Value} {m n sb base s:Nat} {steps ne ol v:Value} {w w' w2:World}
section
open Go.Shelf Gf
structure CI (w:World) (D L G:Int) (X:World):Prop where
 par:X.heap[w.heap.size]?=some (.cells #[.int .i64 D,.int .i64 L,.int .i64 G] 23 (0,0))
 res:X.heap[w.heap.size+1]?=some (.cells #[.int .i64 0,.slice none 0 0] 155 (0,0))
 below:Below w.heap.size w X
theorem CI.mono {X Y:World} {B:Nat} (h:CI w D L G X) (hb:Below B X Y) (hB:w.heap.size+2≤B):CI w D L G Y:=
 ⟨(hb.block _ (by omega)).trans h.par,(hb.block _ (by omega)).trans h.res,h.below.trans (hb.mono (by omega))⟩
theorem CI.new (w:World) (D L G:Int):CI w D L G ((w.alloc (.cells #[.int .i64 D,.int .i64 L,.int .i64 G] 23)).alloc (.cells #[.int .i64 0,.slice none 0 0] 155)):=by
 refine ⟨?_,?_,((Below.refl _ w).alloc (Nat.le_refl _) _).alloc (by simp) _⟩
 · rw [Below.heap_alloc _ _ _ (by simp)];exact World.alloc_heap_new _ _
 · have:=World.alloc_heap_new (w.alloc (.cells #[.int .i64 D,.int .i64 L,.int .i64 G] 23)) (.cells #[.int .i64 0,.slice none 0 0] 155)
   rwa [World.size_alloc] at this
def allN (n:Nat):Nat:=2^n - 1
theorem gone_key (lost n:Nat) (hl:lost < 18446744073709551616) (hn:n≤16):bits .and .u64 (lost:Int) (allN n:Int)=((goneN n lost:Nat):Int):=by
 have:=pow16 hn
 have h2:0 < 2^n:=Nat.two_pow_pos n
 exact and_u64 lost (2^n - 1) hl (by omega)
theorem kept_key (lost n:Nat) (hn:n≤16):bits .andNot .u64 (allN n:Int) ((goneN n lost:Nat):Int)=((keptN n lost:Nat):Int):=by
 have h1:=pow16 hn
 have h2:=goneN_lt lost hn
 exact u64_andNot_nat (2^n - 1) (goneN n lost) (by omega) (by omega)
def CpPost (D L G lost:Nat) (w:World) (e:Ending) (w':World):Prop:=
 Below w.heap.size w w'∧((tells (cks D L G) (mems (goneN (D+L+G) lost))=none∧e=.returned (.tuple #[.agg #[.int .i64 0,.slice none 0 0],.iface 37 (.int .i64 3)])) ∨
  (∃ C v,tells (cks D L G) (mems (goneN (D+L+G) lost))=some C∧e=.returned (.tuple #[.agg #[.int .i64 (1+((mems (goneN (D+L+G) lost)).length:Int)),v],.nilIface]) ∧
   w'.ownsRow w.heap.size 238 4 v (wrAll (fewestS 8 C (keptN (D+L+G) lost)).1 (goneN (D+L+G) lost) (keptN (D+L+G) lost)).length (stcs .u8 (wrAll (fewestS 8 C (keptN (D+L+G) lost)).1 (goneN (D+L+G) lost) (keptN (D+L+G) lost)))))
theorem first_eq {z:Int} (k:Nat) (hk:k≤16) (hz:z=(k:Int)) (w:World) :
 Calls Tryz.prog 80 #[.int .i64 z] w fun e w'=>e=.returned (.int .u64 (allN k:Int))∧w'=w:=by subst hz;exact first_any k hk w
theorem compile_right (D L G lost:Nat) (hr:rightB D L G=true) (kd:1≤D) (hD:D≤12) (hL:1≤L) (k5:L≤4) (hG:G≤4) (hp:D % L=0) (h5:D+L+G≤16) (hl:lost < 18446744073709551616) (w:World) (hT:tabLaid w) (h2:3≤w.heap.size) :
 Calls Tryz.prog 130 #[.agg #[.int .i64 D,.int .i64 L,.int .i64 G],.int .u64 lost] w fun e w'=>CpPost D L G lost w e w':=by
 have h3:=CI.new w D L G
 have h9:((w.alloc (.cells #[.int .i64 (D:Int),.int .i64 (L:Int),.int .i64 (G:Int)] 23)).alloc (.cells #[.int .i64 0,.slice none 0 0] 155)).heap.size=w.heap.size+2:=by simp
 obtain ⟨p0,p1,p2⟩:=par_cells h3.par
 have H0:=hide2 h3 h9
 clear h3 h9
 go_enter Tryz.func130,Tryz.ntmps130
 go_wp2_with fail
 refine (right_any D L G _).mono ?_
 rintro e w1 ⟨rfl,hk⟩
 obtain ⟨h3,h9⟩:=H0.out
 rw [h9] at hk
 have ke:=hk.size
 rw [h9] at ke
 have h7:=h3.mono hk (Nat.le_refl _)
 obtain ⟨p0,p1,p2⟩:=par_cells h7.par
 have H1:=hide h7
 clear H0 h3 h9 hk h7
 go_wp2_with fail
 refine (shards_any D L G _ (by omega) (by omega) (by omega)).mono ?_
 rintro e w2 ⟨rfl,hq⟩
 have kf:=hq.size
 have h8:=H1.out.mono hq (by omega)
 obtain ⟨p0,p1,p2⟩:=par_cells h8.par
 have H2:=hide h8
 clear h8 hq H1
 go_wp2_with fail
 refine (first_eq (D+L+G) h5 (by omega) w2).mono ?_
 rintro e w2' ⟨rfl,hs⟩
 subst hs
 have kg:=gone_key lost (D+L+G) hl h5
 go_wp2_with fail
 refine (checksFor_right D L G (goneN (D+L+G) lost) hr kd hD hL k5 hG hp h5 (goneN_lt lost h5) w2' (hT.mono (by omega) H2.out.below) (by omega)).mono ?_
 rintro e w4 ⟨hm,he⟩
 have kh:=hm.size
 have h4:=H2.out.mono hm (by omega)
 have hz:=zeroCk
 have hx:=ckA_size ckZ
 rcases he with ⟨hn,rfl⟩ | ⟨C,hC,rfl⟩
 · have hf:=ckA_size ckZ
   have hg:Below w4.heap.size w4 ((w4.alloc (.cells (ckA ckZ) 273)).setRow w4.heap.size (ckA ckZ)):=((Below.refl _ _).alloc (Nat.le_refl _) _).grown (grown_setRow _ _ _) (by simp) (fun k e=>by cases e;exact Nat.le_refl _)
   have h0:=h4.mono hg (by omega)
   obtain ⟨r0,r1,g1,g0⟩:=obj_cells h0.res
   have H5:=hide2 h0 hn
   clear h4 h0 hm hg H2 hn
   go_wp2_with (refine wpList_store_row rfl 273 (.tmp 8) (.tmp 25) rfl w4.heap.size (ckA ckZ) rfl rfl 273 (ckA ckZ) (CkAt.new w4 ckZ).heap (ckA_info _) rfl (ckA_one _) ?_)
   obtain ⟨hi,hn⟩:=H5.out
   have e1:=set2b (y':=.slice none 0 0) (set2a (x':=.int .i64 0) hi.res)
   obtain ⟨n0,n1,_⟩:=obj_cells e1
   refine bodyPost_ret (v:=.tuple #[.agg #[.int .i64 0,.slice none 0 0],.iface 37 (.int .i64 3)]) (by simp [results,Tryz.results130,go_sem,n0,n1]) rfl ?_
   exact ⟨(hi.below.setCell (p:=⟨w.heap.size+1,0,none⟩) (by show w.heap.size≤w.heap.size+1;omega) _).setCell (p:=⟨w.heap.size+1,1,none⟩) (by show w.heap.size≤w.heap.size+1;omega) _,.inl ⟨hn,rfl⟩⟩
 · have h1:=(plan_of hD hG hC).1
   have hh:=cks_fit hD k5 hG hC
   have h6:CkFit (fewestS 8 C (keptN (D+L+G) lost)).1:=⟨h1.byt,h1.le,by have:=h1.most;omega⟩
   have ki:=kept_key lost (D+L+G) h5
   have hf:=ckA_size C
   have hg:Below w4.heap.size w4 ((w4.alloc (.cells (ckA ckZ) 273)).setRow w4.heap.size (ckA C)):=((Below.refl _ _).alloc (Nat.le_refl _) _).grown (grown_setRow _ _ _) (by simp) (fun k e=>by cases e;exact Nat.le_refl _)
   have k6:CkAt ((w4.alloc (.cells (ckA ckZ) 273)).setRow w4.heap.size (ckA C)) w4.heap.size C:=(CkAt.new w4 ckZ).setRow C
   have h0:=h4.mono hg (by omega)
   have k7:((w4.alloc (.cells (ckA ckZ) 273)).setRow w4.heap.size (ckA C)).heap.size=w4.heap.size+1:=by simp [World.setRow]
   have k8:=hT.mono (by omega) h0.below
   have H5:=hide5 h0 k6 k7 k8 hC
   have HF:=hide2 hh h6
   clear h4 h0 hm hg k6 k7 k8 H2 hC h1 hh h6
   go_wp2_with (first
    | refine wpList_store_row rfl 273 (.tmp 8) (.tmp 25) rfl w4.heap.size (ckA C) rfl rfl 273 (ckA ckZ) (CkAt.new w4 ckZ).heap (ckA_info _) (by rw [ckA_size,ckA_size]) (ckA_one _) ?_
    | refine wpList_load_row rfl 273 (.tmp 8) rfl w4.heap.size rfl 273 (ckA C) (0,0) _ H5.out.2.1.heap Tryz.underlying273 rfl (ckA_info _) ?_)
   obtain ⟨w5,k9⟩:∃ w5,(w4.alloc (.cells (ckA ckZ) 273)).setRow w4.heap.size (ckA C)=w5:=⟨_,rfl⟩
   rw [k9] at H5 ⊢
   clear k9 hf hx hz
   refine (fewest_any C (keptN (D+L+G) lost) w5 HF.out.1 (keptN_lt lost h5) H5.out.2.2.2.1 (by have:=H5.out.2.2.1;omega)).mono ?_
   rintro e w7 ⟨rfl,hy⟩
   have kj:=hy.size
   have ka:=H5.out.1.mono hy (by have:=H5.out.2.2.1;omega)
   have kk:w4.heap.size+1≤w7.heap.size:=by have:=H5.out.2.2.1;omega
   have kb:=hide ka
   clear ka hy
   go_wp2_with fail
   refine (write_any (fewestS 8 C (keptN (D+L+G) lost)).1 (goneN (D+L+G) lost) (keptN (D+L+G) lost) w7 HF.out.2 (goneN_lt lost h5) (keptN_lt lost h5) (hT.mono (by omega) kb.out.below) (by omega)).mono ?_
   rintro e w8 ⟨v,rfl,kc,ha⟩
   obtain ⟨ao,m,cc,rfl⟩:∃ ao m cc,v=.slice ao m cc:=by
    rcases ha.2 with ⟨rfl,_⟩ | ⟨g,cap,cur,rfl,_⟩
    · exact ⟨_,_,_,rfl⟩
    · exact ⟨_,_,_,rfl⟩
   have hc:=kb.out.mono kc (by omega)
   obtain ⟨r0,r1,g1,g0⟩:=obj_cells hc.res
   have H8:=hide2 hc ha
   clear hc ha kc
   go_wp2
   obtain ⟨hc,ha⟩:=H8.out
   have e1:=set2b (y':=.slice ao m cc) (set2a (x':=.int .i64 (1+((mems (goneN (D+L+G) lost)).length:Int))) hc.res)
   obtain ⟨n0,n1,_⟩:=obj_cells e1
   have hj:(Value.slice ao m cc).ownBlock≠some (w.heap.size+1):=fun e=>by have:=own_from ha e;omega
   have k0:=(ha.kept (grown_set' w8 (w.heap.size+1) 0 (.int .i64 (1+((mems (goneN (D+L+G) lost)).length:Int)))) (.inr hj)).kept (grown_set' _ (w.heap.size+1) 1 (.slice ao m cc)) (.inr hj)
   refine bodyPost_ret (v:=.tuple #[.agg #[.int .i64 (1+((mems (goneN (D+L+G) lost)).length:Int)),.slice ao m cc],.nilIface]) (by simp [results,Tryz.results130,go_sem,n0,n1]) rfl ?_
   exact ⟨(hc.below.setCell (p:=⟨w.heap.size+1,0,none⟩) (by show w.heap.size≤w.heap.size+1;omega) _).setCell (p:=⟨w.heap.size+1,1,none⟩) (by show w.heap.size≤w.heap.size+1;omega) _,.inr ⟨C,_,H5.out.2.2.2.2,rfl,owns_mono k0 (by omega)⟩⟩
end
def wishV (D L G lost:Int):Value:=.agg #[.int .i64 D,.int .i64 L,.int .i64 G,.int .u64 lost,.bool false]
theorem wish_key (e:Bool) (D L G lost:Int) (w:World):(Instr.checkKey e 10000 170 (wishV D L G lost)).run Tryz.prog w=.ok () w:=by kernel_rfl
theorem wish_eq (D L G lost:Int) (w:World):(Op.equal 170 (wishV D L G lost) (wishV D L G lost)).run Tryz.prog w=.ok true w:=by
 unfold wishV Op.equal Op.maxDepth
 go_simp
theorem getMap (h:w.heap[m]?=some (.map es n)):(getObj m).run Tryz.prog w=.ok (.map es n) w:=by simp [getObj,Sem.run,h]
theorem setMap (h:w.heap[m]?=some (.map es n)) (o:Obj):(setObj m o).run Tryz.prog w=.ok () (w.putObj m o):=by simp [setObj,Sem.run,h,World.putObj]
theorem look_none (h:w.heap[m]?=some (.map #[] n)) (D L G lost:Int):(Instr.lookup 203 (.map (some m)) (wishV D L G lost) true).run Tryz.prog w=.ok (.tuple #[.pointer none,.bool false]) w:=by
 have h1:=getMap h
 have h2:=wish_key true D L G lost w
 simp [Instr.lookup,run_underlying Tryz.underlying203,h1,h2,Instr.findKey,Instr.findNow,run_underlying Tryz.underlying170]
theorem put_first (h:w.heap[m]?=some (.map #[] n)) (D L G lost:Int) (v:Value):(Instr.mapUpdate 203 (.map (some m)) (wishV D L G lost) v).run Tryz.prog w=.ok () (w.putObj m (.map #[{ key:=wishV D L G lost,val:=v,born:=n }] (n+1))):=by
 have h1:=getMap h
 have h2:=wish_key false D L G lost w
 simp [Instr.mapUpdate,run_underlying Tryz.underlying203,h1,h2,Instr.findKey,Instr.findNow,run_underlying Tryz.underlying170,setMap h]
theorem del_only {k:Nat} (D L G lost:Int) (v:Value) (t:TypeId) (h:w.heap[m]?=some (.map #[{ key:=wishV D L G lost,val:=v,born:=k }] n)):(Builtin.delete_ #[203,170] t #[.map (some m),wishV D L G lost]).run Tryz.prog w=.ok (.tuple #[]) (w.putObj m (.map #[] n)):=by
 have h1:=getMap h
 have h2:=wish_key false D L G lost w
 have h3:=wish_eq D L G lost w
 simp [Builtin.delete_,run_underlying Tryz.underlying203,h1,h2,Instr.findKey,Instr.findNow,Instr.findAsking,run_underlying Tryz.underlying170,h3,Instr.sameNow,setMap h]
def NdAt (w:World) (n:Nat) (D L G lost:Int) (regs:Int) (steps:Value) (ne ol:Value):Prop:=w.heap[n]?=some (.cells (nodeA D L G lost false regs steps ne ol) 202 (0,0))
theorem NdAt.lt (h:NdAt w n D L G lost regs steps ne ol):n < w.heap.size:=(Array.getElem?_eq_some_iff.1 h).1
theorem NdAt.cells (h:NdAt w n D L G lost regs steps ne ol):w.cell? ⟨n,7,none⟩=some ne∧w.cell? ⟨n,8,none⟩=some ol∧w.frozen? ⟨n,7,none⟩=false∧w.frozen? ⟨n,8,none⟩=false:=by
 have h':w.heap[n]?=some (.cells (nodeA D L G lost false regs steps ne ol) 202 (0,0)):=h
 simp [World.cell?,World.frozen?,h',nodeA]
theorem NdAt.set7 (h:NdAt w n D L G lost regs steps ne ol) (x:Value):NdAt (w.setCell ⟨n,7,none⟩ x) n D L G lost regs steps x ol:=heap_setCell_at (j:=7) h x
theorem NdAt.set8 (h:NdAt w n D L G lost regs steps ne ol) (x:Value):NdAt (w.setCell ⟨n,8,none⟩ x) n D L G lost regs steps ne x:=heap_setCell_at (j:=8) h x
theorem NdAt.keep (h:NdAt w n D L G lost regs steps ne ol) (e:w'.heap[n]?=w.heap[n]?):NdAt w' n D L G lost regs steps ne ol:=e.trans h
theorem two_out (w:World) (b i j:Nat) (x y:Value):Outside (fun k=>k=b) w ((w.setCell ⟨b,i,none⟩ x).setCell ⟨b,j,none⟩ y):=by
 have h1:Outside (fun k=>k=b) w (w.setCell ⟨b,i,none⟩ x):=Outside.setCell _ _ _ rfl
 have h2:Outside (fun k=>k=b) (w.setCell ⟨b,i,none⟩ x) ((w.setCell ⟨b,i,none⟩ x).setCell ⟨b,j,none⟩ y):=Outside.setCell _ _ _ rfl
 exact h1.trans h2
def EndAt (w:World) (sb n:Nat):Prop:=NdAt w sb 0 0 0 0 0 (.slice none 0 0) (.pointer (some ⟨n,0,none⟩)) (.pointer (some ⟨n,0,none⟩))
def ListAt (w:World) (sb:Nat) (room:Int):Prop:=w.heap[sb+1+1]?=some (.cells #[.int .i64 room,.map (some (sb+1)),.pointer (some ⟨sb,0,none⟩)] 205 (0,0))
theorem takeOut_only (hn:NdAt w n D L G lost regs steps (.pointer (some ⟨sb,0,none⟩)) (.pointer (some ⟨sb,0,none⟩))) (he:EndAt w sb n) :
 Calls Tryz.prog 127 #[.pointer (some ⟨n,0,none⟩)] w fun e w'=>e=.returned (.tuple #[])∧EndAt w' sb sb∧Outside (fun k=>k=sb) w w':=by
 obtain ⟨a7,a8,_,_⟩:=hn.cells
 obtain ⟨e7,e8,g7,g8⟩:=NdAt.cells he
 have H:=hide2 hn he
 clear hn he
 go_enter Tryz.func127,Tryz.ntmps127
 go_region
 go_end0
 have he:=H.out.2
 exact ⟨rfl,NdAt.set7 (NdAt.set8 he _) _,((two_out w sb 8 7 _ _).trans (Outside.drew _))⟩
theorem putFirst_only (hl:ListAt w sb room) (hn:NdAt w n D L G lost regs steps (.pointer none) (.pointer none)) (he:EndAt w sb sb) (h5:n≠sb) :
 Calls Tryz.prog 128 #[.pointer (some ⟨sb+1+1,0,none⟩),.pointer (some ⟨n,0,none⟩)] w fun e w'=>e=.returned (.tuple #[])∧NdAt w' n D L G lost regs steps (.pointer (some ⟨sb,0,none⟩)) (.pointer (some ⟨sb,0,none⟩))∧EndAt w' sb n∧Outside (fun k=>k=n∨k=sb) w w':=by
 obtain ⟨a7,a8,b7,b8⟩:=hn.cells
 obtain ⟨e7,e8,g7,g8⟩:=NdAt.cells he
 have l2:w.cell? ⟨sb+1+1,2,none⟩=some (.pointer (some ⟨sb,0,none⟩)):=by
  have h':w.heap[sb+1+1]?=_:=hl
  simp [World.cell?,h']
 have H:=hide3 hl hn he
 clear hl hn he
 go_enter Tryz.func128,Tryz.ntmps128
 go_wp2
 go_region
 obtain ⟨hl,hn,he⟩:=H.out
 have h6:=(hn.set7 (.pointer (some ⟨sb,0,none⟩))).set8 (.pointer (some ⟨sb,0,none⟩))
 have h4:Outside (fun k=>k=n) w ((w.setCell ⟨n,7,none⟩ (.pointer (some ⟨sb,0,none⟩))).setCell ⟨n,8,none⟩ (.pointer (some ⟨sb,0,none⟩))):=two_out w n 7 8 _ _
 have h7:EndAt _ sb sb:=he.keep (h4.block sb he.lt (fun e=>h5 e.symm))
 obtain ⟨w2,h1⟩:∃ w2,((w.setCell ⟨n,7,none⟩ (.pointer (some ⟨sb,0,none⟩))).setCell ⟨n,8,none⟩ (.pointer (some ⟨sb,0,none⟩))).drew=w2:=⟨_,rfl⟩
 rw [h1]
 have h0:NdAt w2 n D L G lost regs steps (.pointer (some ⟨sb,0,none⟩)) (.pointer (some ⟨sb,0,none⟩)):=by rw [← h1];exact h6
 have h2:EndAt w2 sb sb:=by rw [← h1];exact h7
 have h3:Outside (fun k=>k=n) w w2:=by rw [← h1];exact h4.trans (Outside.drew _)
 obtain ⟨a7,a8,_,_⟩:=h0.cells
 obtain ⟨e7,e8,g7,g8⟩:=NdAt.cells h2
 have H2:=hide3 h0 h2 h3
 clear hl hn he h6 h4 h7 h0 h2 h3 h1
 go_wp2
 go_region
 go_end0
 obtain ⟨h0,h2,h3⟩:=H2.out
 have h8:Outside (fun k=>k=sb) w2 ((w2.setCell ⟨sb,8,none⟩ (.pointer (some ⟨n,0,none⟩))).setCell ⟨sb,7,none⟩ (.pointer (some ⟨n,0,none⟩))):=two_out w2 sb 8 7 _ _
 exact ⟨rfl,h0.keep (h8.block n h0.lt h5),NdAt.set7 (NdAt.set8 h2 _) _,(h3.mono fun _ _ q=>.inl q).trans ((h8.mono fun _ _ q=>.inr q).trans (Outside.drew _))⟩
theorem recGet_none (hl:ListAt w sb room) (hm:w.heap[sb+1]?=some (.map #[] n)) (D L G lost:Int) :
 Calls Tryz.prog 105 #[.pointer (some ⟨sb+1+1,0,none⟩),wishV D L G lost] w fun e w'=>e=.returned (.tuple #[.agg #[.int .i64 0,.slice none 0 0],.bool false])∧Below w.heap.size w w':=by
 have l1:w.cell? ⟨sb+1+1,1,none⟩=some (.map (some (sb+1))):=by
  have h':w.heap[sb+1+1]?=_:=hl
  simp [World.cell?,h']
 have h5:∀ w',Below w.heap.size w w'→(Instr.lookup 203 (.map (some (sb+1))) (wishV D L G lost) true).run Tryz.prog w'=.ok (.tuple #[.pointer none,.bool false]) w':=fun w' hb=>look_none ((hb.block _ (Array.getElem?_eq_some_iff.1 hm).1).trans hm) D L G lost
 obtain ⟨w2,h3⟩:∃ w2,(w.alloc (.cells #[.int .i64 D,.int .i64 L,.int .i64 G,.int .u64 lost,.bool false] 170)).alloc (.cells #[.int .i64 0,.slice none 0 0] 155)=w2:=⟨_,rfl⟩
 have h0:Below w.heap.size w w2:=by rw [← h3];exact ((Below.refl _ w).alloc (Nat.le_refl _) _).alloc (by simp) _
 have hx:w2.heap[w.heap.size]?=some (.cells #[.int .i64 D,.int .i64 L,.int .i64 G,.int .u64 lost,.bool false] 170 (0,0)):=by rw [← h3];exact (blk_alloc_lt _ _ _ (by simp)).trans (blk_alloc_new _ _)
 have c0:w2.cell? ⟨w.heap.size,0,none⟩=some (.int .i64 D):=by simp [World.cell?,hx]
 have c1:w2.cell? ⟨w.heap.size,1,none⟩=some (.int .i64 L):=by simp [World.cell?,hx]
 have c2:w2.cell? ⟨w.heap.size,2,none⟩=some (.int .i64 G):=by simp [World.cell?,hx]
 have c3:w2.cell? ⟨w.heap.size,3,none⟩=some (.int .u64 lost):=by simp [World.cell?,hx]
 have c4:w2.cell? ⟨w.heap.size,4,none⟩=some (.bool false):=by simp [World.cell?,hx]
 have hy:w2.heap[w.heap.size+1]?=some (.cells #[.int .i64 0,.slice none 0 0] 155 (0,0)):=by
  have:=blk_alloc_new (w.alloc (.cells #[.int .i64 D,.int .i64 L,.int .i64 G,.int .u64 lost,.bool false] 170)) (.cells #[.int .i64 0,.slice none 0 0] 155)
  rw [World.size_alloc] at this
  rw [← h3];exact this
 have l2:=(h0.cell (p:=⟨sb+1+1,1,none⟩) (block_lt_of_cell l1)).trans l1
 have h6:=h5 w2.drew h0.drew
 unfold wishV at h6 ⊢
 have h1:w2.heap.size=w.heap.size+2:=by rw [← h3];simp
 have H:=hide3 h0 hy h1
 clear hl hm h5 h0 hx hy h1
 go_enter Tryz.func105,Tryz.ntmps105
 go_wp2
 go_region
 obtain ⟨h0,hy,h1⟩:=H.out
 have h2:Below w2.heap.size w2 (w2.drew.alloc (.cells #[.int .i64 0,.slice none 0 0] 155)):=((Below.refl _ w2).drew).alloc (Nat.le_refl _) _
 obtain ⟨w3,h7⟩:∃ w3,w2.drew.alloc (.cells #[.int .i64 0,.slice none 0 0] 155)=w3:=⟨_,rfl⟩
 rw [h7] at h2
 have h4:=(h2.block (w.heap.size+1) (by omega)).trans hy
 obtain ⟨r0,r1,g1,g0⟩:=obj_cells h4
 have h8:w3.heap[w2.heap.size]?=some (.cells #[.int .i64 0,.slice none 0 0] 155 (0,0)):=by rw [← h7];exact blk_alloc_new w2.drew _
 obtain ⟨s0,s1,_,_⟩:=obj_cells h8
 have H3:=hide4 h4 h2 h0 h1
 clear h0 hy h1 h2 h4 h8 c0 c1 c2 c3 c4 l1 l2 h6 h3
 go_wp2
 obtain ⟨h4,h2,h0,h1⟩:=H3.out
 obtain ⟨n0,n1,_⟩:=obj_cells (set2b (y':=.slice none 0 0) (set2a (x':=.int .i64 0) h4))
 refine bodyPost_ret (v:=.tuple #[.agg #[.int .i64 0,.slice none 0 0],.bool false]) (by simp [results,Tryz.results105,go_sem,n0,n1]) rfl ?_
 exact ⟨rfl,((h0.trans (h2.mono h0.size)).setCell (p:=⟨w.heap.size+1,0,none⟩) (by show w.heap.size≤w.heap.size+1;omega) _).setCell (p:=⟨w.heap.size+1,1,none⟩) (by show w.heap.size≤w.heap.size+1;omega) _⟩
theorem list_cells (hl:ListAt w sb room):w.cell? ⟨sb+1+1,0,none⟩=some (.int .i64 room)∧w.cell? ⟨sb+1+1,1,none⟩=some (.map (some (sb+1)))∧w.cell? ⟨sb+1+1,2,none⟩=some (.pointer (some ⟨sb,0,none⟩)):=by
 have h':w.heap[sb+1+1]?=_:=hl
 simp [World.cell?,h']
theorem len_map {x:MapEntry} (h:w.heap[m]?=some (.map #[x] n)) (t:TypeId):(Builtin.len_ #[203] t #[.map (some m)]).run Tryz.prog w=.ok (.int .i64 1) w:=by
 simp [Builtin.len_,getMap h,run_underlying Tryz.underlying203]
 rfl
theorem Outside.putObj {S:Nat→Prop} (w:World) (m:Nat) (o:Obj) (h:S m):Outside S w (w.putObj m o):=⟨rfl,rfl,rfl,by simp [World.putObj],fun k _ hk=>World.putObj_heap_other (fun e=>hk (e ▸ h))⟩
theorem recAdd_none (hl:ListAt w sb 0) (hm:w.heap[sb+1]?=some (.map #[] n)) (he:EndAt w sb sb) (D L G lost regs:Int) (ao:Option Addr) (m c:Nat) :
 Calls Tryz.prog 107 #[.pointer (some ⟨sb+1+1,0,none⟩),wishV D L G lost,.agg #[.int .i64 regs,.slice ao m c]] w fun e w'=>e=.returned (.tuple #[])∧(∃ n',w'.heap[sb+1]?=some (.map #[] n'))∧EndAt w' sb sb∧Outside (fun k=>k=sb∨k=sb+1) w w':=by
 obtain ⟨w3,hj⟩:∃ w3,((w.alloc (.cells #[.int .i64 D,.int .i64 L,.int .i64 G,.int .u64 lost,.bool false] 170)).alloc (.cells #[.int .i64 regs,.slice ao m c] 155)).alloc (.cells #[.int .i64 D,.int .i64 L,.int .i64 G,.int .u64 lost,.bool false,.int .i64 regs,.slice ao m c,.pointer none,.pointer none] 202)=w3:=⟨_,rfl⟩
 have h0:Below w.heap.size w w3:=by rw [← hj];exact (((Below.refl _ w).alloc (Nat.le_refl _) _).alloc (by simp) _).alloc (by simp;omega) _
 obtain ⟨hx,_,hn⟩:=alloc3_blocks w (.cells #[.int .i64 D,.int .i64 L,.int .i64 G,.int .u64 lost,.bool false] 170) (.cells #[.int .i64 regs,.slice ao m c] 155) (.cells #[.int .i64 D,.int .i64 L,.int .i64 G,.int .u64 lost,.bool false,.int .i64 regs,.slice ao m c,.pointer none,.pointer none] 202)
 rw [hj] at hx hn
 have h8:NdAt w3 (w.heap.size+1+1) D L G lost regs (.slice ao m c) (.pointer none) (.pointer none):=hn
 have h7:sb+1+1 < w.heap.size:=(Array.getElem?_eq_some_iff.1 hl).1
 have h4:ListAt w3 sb 0:=(h0.block _ h7).trans hl
 have hs:=(h0.block _ (by omega)).trans hm
 have ha:EndAt w3 sb sb:=he.keep (h0.block _ he.lt)
 have c0:w3.cell? ⟨w.heap.size,0,none⟩=some (.int .i64 D):=by simp [World.cell?,hx]
 have c1:w3.cell? ⟨w.heap.size,1,none⟩=some (.int .i64 L):=by simp [World.cell?,hx]
 have c2:w3.cell? ⟨w.heap.size,2,none⟩=some (.int .i64 G):=by simp [World.cell?,hx]
 have c3:w3.cell? ⟨w.heap.size,3,none⟩=some (.int .u64 lost):=by simp [World.cell?,hx]
 have c4:w3.cell? ⟨w.heap.size,4,none⟩=some (.bool false):=by simp [World.cell?,hx]
 obtain ⟨_,l1,_⟩:=list_cells h4
 have hp:=put_first (w:=w3.drew) hs D L G lost (.pointer (some ⟨w.heap.size+1+1,0,none⟩))
 have h2:Outside (fun k=>k=sb+1) w3 (w3.drew.putObj (sb+1) (.map #[{ key:=wishV D L G lost,val:=.pointer (some ⟨w.heap.size+1+1,0,none⟩),born:=n }] (n+1))):=(Outside.drew w3).trans (Outside.putObj _ _ _ rfl)
 have h6:(w3.drew.putObj (sb+1) (.map #[{ key:=wishV D L G lost,val:=.pointer (some ⟨w.heap.size+1+1,0,none⟩),born:=n }] (n+1))).heap[sb+1]?=some (.map #[{ key:=wishV D L G lost,val:=.pointer (some ⟨w.heap.size+1+1,0,none⟩),born:=n }] (n+1)):=by
  have hz:=h0.size
  unfold World.putObj
  exact Array.getElem?_setIfInBounds_self_of_lt (by show sb+1 < w3.heap.size;omega)
 obtain ⟨w4,hy⟩:∃ w4,w3.drew.putObj (sb+1) (.map #[{ key:=wishV D L G lost,val:=.pointer (some ⟨w.heap.size+1+1,0,none⟩),born:=n }] (n+1))=w4:=⟨_,rfl⟩
 rw [hy] at hp h2 h6
 unfold wishV at hp ⊢
 have H:=hide7 h0 h8 h4 ha h2 h6 h7
 clear hl hm he h0 h8 h4 hs ha h2 h6 hx hn hy
 go_enter Tryz.func107,Tryz.ntmps107
 go_wp2
 go_region
 clear c0 c1 c2 c3 c4 l1 hp hj
 obtain ⟨h0,h8,h4,ha,h2,h6,h7⟩:=H.out
 have ke:=h0.size
 have k0:=putFirst_only (w:=w4) (n:=w.heap.size+1+1) (show ListAt w4 sb 0 from (h2.block _ (by omega) (by omega)).trans h4) (h8.keep (h2.block _ h8.lt (by omega))) (ha.keep (h2.block _ ha.lt (by omega))) (by omega)
 have H4:=hide7 h6 h2 h4 h0 h8.lt h7 k0
 clear h0 h8 h4 ha h2 h6 k0
 go_wp2_with fail
 refine H4.out.2.2.2.2.2.2.mono ?_
 rintro e w5 ⟨rfl,h9,hc,hq⟩
 obtain ⟨h6,h2,h4,h0,kb,h7,_⟩:=H4.out
 have h1:Outside (fun k=>k=sb+1∨k=w.heap.size+1+1∨k=sb) w3 w5:=(h2.mono fun _ _ q=>.inl q).trans (hq.mono fun _ _ q=>.inr q)
 have hf:ListAt w5 sb 0:=(h1.block _ (by omega) (by omega)).trans h4
 have kf:=h2.size
 have hg:=(hq.block (sb+1) (by omega) (by omega)).trans h6
 obtain ⟨l0,l1,l2⟩:=list_cells hf
 obtain ⟨e7,e8,_,_⟩:=NdAt.cells hc
 have kc:=fun t=>len_map (w:=w5.drew) hg t
 have k5:=takeOut_only (w:=w5.drew) h9 hc
 have H5:=hide7 h9 hc h1 hf hg k5 h7
 clear h6 h2 h4 h1 hf hg h9 hc hq k5
 go_wp2
 go_region
 go_wp2_with fail
 refine H5.out.2.2.2.2.2.1.mono ?_
 rintro e w6 ⟨rfl,hr,k6⟩
 clear l0 l1 l2 e7 e8 kc
 obtain ⟨h9,hc,h1,hf,hg,_,h7⟩:=H5.out
 have h3:Outside (fun k=>k=sb) w5 w6:=(Outside.drew w5).trans k6
 have kg:=h1.size
 have k7:ListAt w6 sb 0:=(h3.block _ (by omega) (by omega)).trans hf
 have k8:=h9.keep (h3.block _ h9.lt (by omega))
 have k9:=(h3.block (sb+1) (by omega) (by omega)).trans hg
 obtain ⟨_,l1,_⟩:=list_cells k7
 have hh:w6.heap[w.heap.size+1+1]?=some (.cells (nodeA D L G lost false regs (.slice ao m c) (.pointer (some ⟨sb,0,none⟩)) (.pointer (some ⟨sb,0,none⟩))) 202 (0,0)):=k8
 have c0:w6.cell? ⟨w.heap.size+1+1,0,none⟩=some (.int .i64 D):=by simp [World.cell?,hh,nodeA]
 have c1:w6.cell? ⟨w.heap.size+1+1,1,none⟩=some (.int .i64 L):=by simp [World.cell?,hh,nodeA]
 have c2:w6.cell? ⟨w.heap.size+1+1,2,none⟩=some (.int .i64 G):=by simp [World.cell?,hh,nodeA]
 have c3:w6.cell? ⟨w.heap.size+1+1,3,none⟩=some (.int .u64 lost):=by simp [World.cell?,hh,nodeA]
 have c4:w6.cell? ⟨w.heap.size+1+1,4,none⟩=some (.bool false):=by simp [World.cell?,hh,nodeA]
 have kd:=fun t=>del_only (w:=w6.drew) D L G lost _ t k9
 unfold wishV at kd
 have hi:(w6.drew.putObj (sb+1) (.map #[] (n+1))).heap[sb+1]?=some (.map #[] (n+1))∧EndAt (w6.drew.putObj (sb+1) (.map #[] (n+1))) sb sb∧Outside (fun k=>k=sb∨k=sb+1) w (w6.drew.putObj (sb+1) (.map #[] (n+1))):=by
  obtain ⟨h6,h2,h4,h0,kb,h7,_⟩:=H4.out
  have ka:Outside (fun k=>k=sb+1) w6 (w6.drew.putObj (sb+1) (.map #[] (n+1))):=(Outside.drew w6).trans (Outside.putObj _ _ _ rfl)
  have h5:Outside (fun k=>k=sb∨k=sb+1∨k=w.heap.size+1+1) w3 (w6.drew.putObj (sb+1) (.map #[] (n+1))):=(h1.mono fun _ _ q=>by omega).trans ((h3.mono fun _ _ q=>.inl q).trans (ka.mono fun _ _ q=>.inr (.inl q)))
  refine ⟨?_,hr.keep (ka.block _ hr.lt (by omega)),?_⟩
  · unfold World.putObj
    exact Array.getElem?_setIfInBounds_self_of_lt (by show sb+1 < w6.heap.size;have:=h3.size;omega)
  · exact ⟨h5.os.trans h0.os,h5.tape.trans h0.tape,h5.output.trans h0.output,Nat.le_trans h0.size h5.size,fun k hk hn=>(h5.block k (by omega) (by omega)).trans (h0.block k hk)⟩
 have H6:=hide hi
 clear h9 hc h1 hf hg k7 k8 k9 hh hi k6 h3 hr
 go_wp2
 go_region
 go_end0
 obtain ⟨q1,q2,q3⟩:=H6.out
 exact ⟨rfl,⟨_,q1⟩,q2,q3⟩
section
open Go.Shelf Gf
def FxPost (D L G lost:Nat) (C:Ck) (w:World) (T:Nat→Prop) (e:Ending) (w':World):Prop:=
 ∃ ao m c,e=.returned (.tuple #[.agg #[.int .i64 (1+((mems (goneN (D+L+G) lost)).length:Int)),.slice ao m c],.nilIface])∧w'.ownsRow w.heap.size 238 4 (.slice ao m c) (cmpP D L G lost C).length (stcs .u8 (cmpP D L G lost C))∧Outside T w w'
theorem own_slc {e:Nat} (h0:w.ownsRow base e s v n xs):∃ ao m cc,v=.slice ao m cc:=by
 rcases h0.2 with ⟨rfl,_⟩ | ⟨g,cap,cur,rfl,_⟩
 · exact ⟨_,_,_,rfl⟩
 · exact ⟨_,_,_,rfl⟩
structure WrAt (w w2:World) (D L G lost:Int):Prop where
 par:w2.heap[w.heap.size]?=some (.cells #[.int .i64 D,.int .i64 L,.int .i64 G,.int .u64 lost,.bool false] 170 (0,0))
 res:w2.heap[w.heap.size+1]?=some (.cells #[.int .i64 0,.slice none 0 0] 155 (0,0))
 below:Below w.heap.size w w2
 size:w.heap.size+2≤w2.heap.size
theorem WrAt.new (w:World) (D L G lost:Int):WrAt w ((w.alloc (.cells #[.int .i64 D,.int .i64 L,.int .i64 G,.int .u64 lost,.bool false] 170)).alloc (.cells #[.int .i64 0,.slice none 0 0] 155)) D L G lost:=by
 refine ⟨(blk_alloc_lt _ _ _ (by simp)).trans (blk_alloc_new _ _),?_,((Below.refl _ w).alloc (Nat.le_refl _) _).alloc (by simp) _,by simp⟩
 have:=blk_alloc_new (w.alloc (.cells #[.int .i64 D,.int .i64 L,.int .i64 G,.int .u64 lost,.bool false] 170)) (.cells #[.int .i64 0,.slice none 0 0] 155)
 rwa [World.size_alloc] at this
theorem WrAt.mono {w3:World} (h:WrAt w w2 D L G lost) (hb:Below w2.heap.size w2 w3):WrAt w w3 D L G lost:=by
 have:=h.size
 exact ⟨(hb.block _ (by omega)).trans h.par,(hb.block _ (by omega)).trans h.res,h.below.trans (hb.mono h.below.size),Nat.le_trans h.size hb.size⟩
theorem WrAt.cells (h:WrAt w w2 D L G lost):w2.cell? ⟨w.heap.size,0,none⟩=some (.int .i64 D)∧w2.cell? ⟨w.heap.size,1,none⟩=some (.int .i64 L)∧w2.cell? ⟨w.heap.size,2,none⟩=some (.int .i64 G)∧w2.cell? ⟨w.heap.size,3,none⟩=some (.int .u64 lost)∧w2.cell? ⟨w.heap.size,4,none⟩=some (.bool false):=by
 have h':=h.par
 simp [World.cell?,h']
section
variable (D L G lost:Nat) {C:Ck} (hr:rightB D L G=true) (hD1:1≤D) (hD:D≤12) (hL:1≤L) (hL4:L≤4) (hG:G≤4) (hdiv:D % L=0) (h16:D+L+G≤16) (hl:lost < 18446744073709551616) (hC:tells (cks D L G) (mems (goneN (D+L+G) lost))=some C)
include hr hD1 hD hL hL4 hG hdiv h16 hl hC
theorem compile_of (w:World) (hT:tabLaid w) (h2:3≤w.heap.size):Calls Tryz.prog 130 #[.agg #[.int .i64 D,.int .i64 L,.int .i64 G],.int .u64 lost] w (FxPost D L G lost C w (fun _=>False)):=by
 refine (compile_right D L G lost hr hD1 hD hL hL4 hG hdiv h16 hl w hT h2).mono ?_
 rintro e w1 ⟨h5,h0⟩
 rcases h0 with ⟨h1,rfl⟩ | ⟨C',v,h3,rfl,h4⟩
 · rw [hC] at h1;cases h1
 · rw [hC] at h3
   obtain rfl:=Option.some.inj h3
   obtain ⟨ao,m,cc,rfl⟩:=own_slc h4
   exact ⟨ao,m,cc,rfl,h4,Outside.of_all h5 _⟩
theorem grant_of (w:World) (hT:tabLaid w) (h2:3≤w.heap.size):Calls Tryz.prog 106 #[wishV D L G lost] w (FxPost D L G lost C w (fun _=>False)):=by
 have hw:=WrAt.new w D L G lost
 obtain ⟨w2,h6⟩:∃ w2,(w.alloc (.cells #[.int .i64 (D:Int),.int .i64 (L:Int),.int .i64 (G:Int),.int .u64 (lost:Int),.bool false] 170)).alloc (.cells #[.int .i64 0,.slice none 0 0] 155)=w2:=⟨_,rfl⟩
 rw [h6] at hw
 obtain ⟨c0,c1,c2,c3,c4⟩:=hw.cells
 have h4:=compile_of D L G lost hr hD1 hD hL hL4 hG hdiv h16 hl hC w2 (hT.mono (by omega) hw.below) (Nat.le_trans h2 hw.below.size)
 obtain ⟨z,hz⟩:∃ z:Int,1+((mems (goneN (D+L+G) lost)).length:Int)=z:=⟨_,rfl⟩
 unfold FxPost at h4 ⊢
 rw [hz] at h4 ⊢
 have H:=hide2 hw h4
 clear hw h4 hT
 unfold wishV
 go_enter Tryz.func106,Tryz.ntmps106
 go_wp2_with fail
 refine H.out.2.mono ?_
 rintro e w3 ⟨ao,m,c,rfl,h0,hO⟩
 have hw:=H.out.1
 have hs:=hw.size
 have h1:=(hO.block (w.heap.size+1) (by omega) (fun q=>q)).trans hw.res
 obtain ⟨r0,r1,g1,g0⟩:=obj_cells h1
 have H3:=hide4 h0 hO h1 hs
 clear h0 hO h1 c0 c1 c2 c3 c4 h6 hw
 go_wp2
 obtain ⟨h0,hO,h1,hs⟩:=H3.out
 obtain ⟨n0,n1,_⟩:=obj_cells (set2b (y':=.slice ao m c) (set2a (x':=.int .i64 z) h1))
 have h3:(Value.slice ao m c).ownBlock≠some (w.heap.size+1):=fun e=>by have:=own_from h0 e;omega
 have h5:=(h0.kept (grown_set' w3 (w.heap.size+1) 0 (.int .i64 z)) (.inr h3)).kept (grown_set' _ (w.heap.size+1) 1 (.slice ao m c)) (.inr h3)
 refine bodyPost_ret (v:=.tuple #[.agg #[.int .i64 z,.slice ao m c],.nilIface]) (by simp [results,Tryz.results106,go_sem,n0,n1]) rfl ?_
 have h7:Below w.heap.size w w3:=⟨hO.os.trans H.out.1.below.os,hO.tape.trans H.out.1.below.tape,hO.output.trans H.out.1.below.output,Nat.le_trans H.out.1.below.size hO.size,fun k hk=>(hO.block k (by omega) (fun q=>q)).trans (H.out.1.below.block k hk)⟩
 exact ⟨ao,m,c,rfl,owns_mono h5 (by omega),Outside.of_all ((h7.setCell (p:=⟨w.heap.size+1,0,none⟩) (by show w.heap.size≤w.heap.size+1;omega) _).setCell (p:=⟨w.heap.size+1,1,none⟩) (by show w.heap.size≤w.heap.size+1;omega) _) _⟩
end
theorem owns_outside {e:TypeId} {T:Nat→Prop} (h:w.ownsRow base e s v n xs) (hO:Outside T w w') (hT:∀ k,T k→k < base):w'.ownsRow base e s v n xs:=by
 refine ⟨h.1,?_⟩
 rcases h.2 with h0 | ⟨g,cap,cur,e1,e2,e3,e4⟩
 · exact .inl h0
 · exact .inr ⟨g,cap,cur,e1,e2,(hO.block g (Array.getElem?_eq_some_iff.1 e3).1 (fun q=>by have:=hT g q;omega)).trans e3,e4⟩
theorem ShAt.parts (h:ShAt w sb room):ListAt w sb room∧(∃ n,w.heap[sb+1]?=some (.map #[] n))∧EndAt w sb sb∧w.cell? ⟨sb+1+1+1,0,none⟩=some (.pointer (some ⟨sb+1+1,0,none⟩)):=by
 refine ⟨h.list,h.map,h.ends,?_⟩
 have h':=h.shelf
 simp [World.cell?,h']
section
variable (D L G lost:Nat) {C:Ck} (hr:rightB D L G=true) (hD1:1≤D) (hD:D≤12) (hL:1≤L) (hL4:L≤4) (hG:G≤4) (hdiv:D % L=0) (h16:D+L+G≤16) (hl:lost < 18446744073709551616) (hC:tells (cks D L G) (mems (goneN (D+L+G) lost))=some C)
include hr hD1 hD hL hL4 hG hdiv h16 hl hC
theorem plan_of_none (hS:ShAt w sb 0) (hT:tabLaid w) (h2:3≤w.heap.size):Calls Tryz.prog 81 #[.pointer (some ⟨sb+1+1+1,0,none⟩),wishV D L G lost] w fun e w'=>ShAt w' sb 0∧FxPost D L G lost C w (fun k=>k=sb∨k=sb+1) e w':=by
 have hw:=WrAt.new w D L G lost
 obtain ⟨w2,kk⟩:∃ w2,(w.alloc (.cells #[.int .i64 (D:Int),.int .i64 (L:Int),.int .i64 (G:Int),.int .u64 (lost:Int),.bool false] 170)).alloc (.cells #[.int .i64 0,.slice none 0 0] 155)=w2:=⟨_,rfl⟩
 rw [kk] at hw
 obtain ⟨c0,c1,c2,c3,c4⟩:=hw.cells
 have hf:=hS.below hw.below
 obtain ⟨k5,⟨n,k6⟩,km,kn⟩:=hf.parts
 have hh:∀ w',Below w2.heap.size w2 w'→Calls Tryz.prog 105 #[.pointer (some ⟨sb+1+1,0,none⟩),wishV D L G lost] w' fun e w''=>e=.returned (.tuple #[.agg #[.int .i64 0,.slice none 0 0],.bool false])∧Below w'.heap.size w' w'':=fun w' hb=>recGet_none ((hb.block _ (Array.getElem?_eq_some_iff.1 k5).1).trans k5) ((hb.block _ (Array.getElem?_eq_some_iff.1 k6).1).trans k6) D L G lost
 have k7:Below w2.heap.size w2 (w2.alloc (.cells #[.int .i64 0,.slice none 0 0] 155)):=(Below.refl _ w2).alloc (Nat.le_refl _) _
 obtain ⟨d0,d1,d2,d3,d4⟩:=(hw.mono k7).cells
 have dp:=(hf.below k7).parts.2.2.2
 have ko:=hide hS.lt
 have kv:=hw.size
 have kp:w.heap.size≠w2.heap.size:=by omega
 have H:=hide3 hw hf hh
 clear hw hf hh k5 k6 km hS k7
 obtain ⟨z,hz⟩:∃ z:Int,1+((mems (goneN (D+L+G) lost)).length:Int)=z:=⟨_,rfl⟩
 unfold wishV at H ⊢
 unfold FxPost
 rw [hz]
 go_enter Tryz.func81,Tryz.ntmps81
 go_upto_region 1 with fail
 go_cut [6,7] from 10 to 18 (fun v6 v7 wx=>v7=.bool false∧Below w2.heap.size w2 wx)
 case first=>
  go_region_with (go_at_call 105;refine (H.out.2.2 _ ?_).mono ?_;(first | exact (Below.refl _ _).drew | exact ((Below.refl _ _).drew).alloc (Nat.le_refl _) _);rintro e w3 ⟨rfl,hc⟩;(try (have q3:w3.heap[w2.heap.size]?=some (.cells #[.int .i64 0,.slice none 0 0] 155 (0,0)):=(hc.block w2.heap.size (by simp)).trans (blk_alloc_new w2.drew _);obtain ⟨r0,r1,g1,g0⟩:=obj_cells q3;clear q3));have hi:Below w2.heap.size w2 w3:=(by first | exact ((Below.refl _ w2).drew).trans hc | exact (((Below.refl _ w2).alloc (Nat.le_refl _) _).drew).trans (hc.mono (by simp)));have H3:=hide hi;clear hc hi)
  all_goals (go_wp2_with fail;go_meet;case rel=>(refine ⟨rfl,?_⟩;first | exact H3.out.alloc H3.out.size _ | exact (H3.out.setCell (p:=⟨w2.heap.size,0,none⟩) (Nat.le_refl _) _).setCell (p:=⟨w2.heap.size,1,none⟩) (Nat.le_refl _) _))
 case rest=>
  clear c0 c1 c2 c3 c4 d0 d1 d2 d3 d4 dp kn kp
  rename World=>w3
  obtain ⟨rfl,hc⟩:=hcut
  obtain ⟨hw,hf,_⟩:=H.out
  have h7:=hw.mono hc
  have hj:=hf.below hc
  obtain ⟨c0,c1,c2,c3,c4⟩:=h7.cells
  have hm:=grant_of D L G lost hr hD1 hD hL hL4 hG hdiv h16 hl hC w3 (hT.mono (by omega) h7.below) (Nat.le_trans h2 h7.below.size)
  unfold FxPost at hm
  unfold wishV at hm
  rw [hz] at hm
  have H3:=hide3 h7 hj hm
  clear hw hf h7 hj hm hc hT
  go_wp2_with fail
  refine H3.out.2.2.mono ?_
  rintro e w4 ⟨ao,m,c,rfl,kd,hO⟩
  clear c0 c1 c2 c3 c4
  obtain ⟨h7,hj,_⟩:=H3.out
  have k0:Below w3.heap.size w3 w4:=⟨hO.os,hO.tape,hO.output,hO.size,fun k hk=>hO.block k hk (fun q=>q)⟩
  have kr:=hide (show w.heap.size+2≤w3.heap.size∧w3.heap.size≤w4.heap.size from ⟨h7.size,k0.size⟩)
  have h8:Below w4.heap.size w4 (w4.alloc (.cells #[.int .i64 z,.slice ao m c] 155)):=(Below.refl _ w4).alloc (Nat.le_refl _) _
  have h3:=k0.trans (h8.mono k0.size)
  have h4:=h7.mono h3
  have h9:=hj.below h3
  obtain ⟨k8,⟨n5,k9⟩,ka,ke⟩:=h9.parts
  have he:(w4.alloc (.cells #[.int .i64 z,.slice ao m c] 155)).heap[w4.heap.size]?=some (.cells #[.int .i64 z,.slice ao m c] 155 (0,0)):=blk_alloc_new _ _
  have h5:=ownsRow_below kd h8
  obtain ⟨w5,kb⟩:∃ w5,w4.alloc (.cells #[.int .i64 z,.slice ao m c] 155)=w5:=⟨_,rfl⟩
  rw [kb] at h8 h3 h4 h9 k8 k9 ka ke he h5
  obtain ⟨c0,c1,c2,c3,c4⟩:=h4.cells
  obtain ⟨r0,r1,_,_⟩:=obj_cells he
  have hg:=recAdd_none (w:=w5.drew) k8 k9 ka D L G lost z ao m c
  unfold wishV at hg
  have H5:=hide6 h4 h9 he h5 h3 hg
  clear hO kd k0 h8 h3 h4 h9 k8 k9 ka he h5 hg h7 hj
  go_upto_region 6 with fail
  go_cut [34] from 28 to 33 (fun _v wx=>(∃ n',wx.heap[sb+1]?=some (.map #[] n'))∧EndAt wx sb sb∧Outside (fun k=>k=sb∨k=sb+1) w5.drew wx)
  case first=>
   go_region_with (go_at_call 107;refine H5.out.2.2.2.2.2.mono ?_;rintro e w6 ⟨rfl,hp,hq,hs⟩;have H6:=hide3 hp hq hs;clear hp hq hs)
   all_goals (go_wp2_with fail;go_meet;case rel=>exact H6.out)
  case rest=>
   rename World=>w6
   clear c0 c1 c2 c3 c4 r0 r1 ke
   obtain ⟨hp,hq,hs⟩:=hcut
   obtain ⟨h4,h9,he,h5,h3,_⟩:=H5.out
   have h0:Outside (fun k=>k=sb∨k=sb+1) w5 w6:=(Outside.drew w5).trans hs
   have kf:=h9.lt
   have kg:=h4.size
   have kh:sb+1+1+1 < w.heap.size:=ko.out
   have ks:w4.heap.size < w5.heap.size:=(Array.getElem?_eq_some_iff.1 he).1
   have ki:=kr.out
   have hx:=(h0.block (w.heap.size+1) (by omega) (by omega)).trans h4.res
   have kj:=(h0.block w4.heap.size ks (by omega)).trans he
   have hy:ShAt w6 sb 0:=⟨hq,hp,(h0.block _ (by omega) (by omega)).trans h9.list,(h0.block _ (by omega) (by omega)).trans h9.shelf⟩
   have ha:w6.ownsRow w3.heap.size 238 4 (.slice ao m c) (cmpP D L G lost C).length (stcs .u8 (cmpP D L G lost C)):=owns_outside h5 h0 (fun k hk=>by omega)
   obtain ⟨q0,q1,g1,g0⟩:=obj_cells hx
   obtain ⟨r0,r1,_,_⟩:=obj_cells kj
   have H6:=hide8 hx hy ha h0 kf kg kh ki
   clear hp hq hs h4 h9 he h5 h3 h0 hx kj hy ha
   go_wp2
   obtain ⟨hx,hy,ha,h0,kf,kg,kh,ki⟩:=H6.out
   obtain ⟨n0,n1,_⟩:=obj_cells (set2b (y':=.slice ao m c) (set2a (x':=.int .i64 z) hx))
   have kc:Outside (fun k=>k=w.heap.size+1) w6 ((w6.setCell ⟨w.heap.size+1,0,none⟩ (.int .i64 z)).setCell ⟨w.heap.size+1,1,none⟩ (.slice ao m c)):=two_out w6 (w.heap.size+1) 0 1 _ _
   refine bodyPost_ret (v:=.tuple #[.agg #[.int .i64 z,.slice ao m c],.nilIface]) (by simp [results,Tryz.results81,go_sem,n0,n1]) rfl ?_
   obtain ⟨h4,_⟩:=H5.out
   have h6:=(h0.mono fun _ _ q=>(.inl q:_∨_)).trans (kc.mono fun _ _ q=>(.inr q:(_=sb∨_=sb+1)∨_))
   refine ⟨hy.keep fun k h1 h2=>kc.block k (by have:=hy.lt;omega) (by omega),ao,m,c,rfl,owns_mono (owns_outside ha kc (fun k hk=>by omega)) (by omega),⟨h6.os.trans h4.below.os,h6.tape.trans h4.below.tape,h6.output.trans h4.below.output,Nat.le_trans h4.below.size h6.size,fun k hk hn=>(h6.block k (by have:=h4.below.size;omega) (by omega)).trans (h4.below.block k hk)⟩⟩
theorem repairing_none (hS:ShAt w sb 0) (hT:tabLaid w) (h2:3≤w.heap.size):Calls Tryz.prog 64 #[.pointer (some ⟨sb+1+1+1,0,none⟩),.agg #[.int .i64 D,.int .i64 L,.int .i64 G],.int .u64 lost] w fun e w'=>(ShAt w' sb 0∧w'.heap[w.heap.size]?=some (.cells #[.int .i64 D,.int .i64 L,.int .i64 G] 23 (0,0)))∧FxPost D L G lost C w (fun k=>k=sb∨k=sb+1) e w':=by
 have hw:=CI.new w D L G
 have hz:((w.alloc (.cells #[.int .i64 (D:Int),.int .i64 (L:Int),.int .i64 (G:Int)] 23)).alloc (.cells #[.int .i64 0,.slice none 0 0] 155)).heap.size=w.heap.size+2:=by simp
 obtain ⟨w2,h8⟩:∃ w2,(w.alloc (.cells #[.int .i64 (D:Int),.int .i64 (L:Int),.int .i64 (G:Int)] 23)).alloc (.cells #[.int .i64 0,.slice none 0 0] 155)=w2:=⟨_,rfl⟩
 rw [h8] at hw hz
 obtain ⟨c0,c1,c2⟩:=par_cells hw.par
 have h3:=plan_of_none D L G lost hr hD1 hD hL hL4 hG hdiv h16 hl hC (hS.below hw.below) (hT.mono (by omega) hw.below) (Nat.le_trans h2 hw.below.size)
 obtain ⟨z,h9⟩:∃ z:Int,1+((mems (goneN (D+L+G) lost)).length:Int)=z:=⟨_,rfl⟩
 unfold FxPost at h3 ⊢
 rw [h9] at h3 ⊢
 unfold wishV at h3
 have H:=hide4 hw hz h3 hS.lt
 clear hw hz h3 hS hT
 go_enter Tryz.func64,Tryz.ntmps64
 go_wp2_with fail
 refine H.out.2.2.1.mono ?_
 rintro e w3 ⟨h4,ao,m,c,rfl,h6,hO⟩
 obtain ⟨hw,hz,_,ha⟩:=H.out
 have h5:=(hO.block (w.heap.size+1) (by omega) (by omega)).trans hw.res
 obtain ⟨r0,r1,g1,g0⟩:=obj_cells h5
 have H3:=hide4 h4 h6 hO h5
 clear h4 h6 hO h5 c0 c1 c2 h8
 go_wp2
 obtain ⟨h4,h6,hO,h5⟩:=H3.out
 obtain ⟨n0,n1,_⟩:=obj_cells (set2b (y':=.slice ao m c) (set2a (x':=.int .i64 z) h5))
 have h7:Outside (fun k=>k=w.heap.size+1) w3 ((w3.setCell ⟨w.heap.size+1,0,none⟩ (.int .i64 z)).setCell ⟨w.heap.size+1,1,none⟩ (.slice ao m c)):=two_out w3 (w.heap.size+1) 0 1 _ _
 refine bodyPost_ret (v:=.tuple #[.agg #[.int .i64 z,.slice ao m c],.nilIface]) (by simp [results,Tryz.results64,go_sem,n0,n1]) rfl ?_
 have h0:=(hO.mono fun _ _ q=>(.inl q:_∨_)).trans (h7.mono fun _ _ q=>(.inr q:(_=sb∨_=sb+1)∨_))
 exact ⟨⟨h4.keep fun k h1 h2=>h7.block k (by have:=h4.lt;omega) (by omega),(h7.block _ (by have:=hO.size;omega) (by omega)).trans ((hO.block _ (by omega) (by omega)).trans hw.par)⟩,ao,m,c,rfl,owns_mono (owns_outside h6 h7 (fun k hk=>by omega)) (by omega),⟨h0.os.trans hw.below.os,h0.tape.trans hw.below.tape,h0.output.trans hw.below.output,Nat.le_trans hw.below.size h0.size,fun k hk hn=>(h0.block k (by have:=hw.below.size;omega) (by omega)).trans (hw.below.block k hk)⟩⟩
end
end
end Go.Proofs.YthcgahldacpolaaGreatDoor
