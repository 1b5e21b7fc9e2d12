import Derived.Test.YthcgahldacpolaaGreatDoorM03
import Derived.RegionTactic
set_option maxRecDepth 100000
set_option maxHeartbeats 8000000
namespace Go.Proofs.YthcgahldacpolaaGreatDoor
open Go.RowKit
variable {listed:Array Bool} {ops:Array Oper} {vals:Array Value} {sh:List (Op×Option Nat×List Nat)} {l:List Nat} {b off c q lo hi i m:Nat} {o:Oper} {x:Operand} {P:Program} {v:Value} {Vi:Value→World→Prop} {w w0 w':World} {B S:World→Prop}
section
open Go.Deep
def rootA (D L G t f n:Nat):Array Value:=#[.int .i64 D,.int .i64 L,.int .i64 G,.int .u64 t,.int .i64 f,.int .i64 n]
theorem Bs.of_owns {base:Nat} {n:Nat} (h:w.ownsRow base 5 1 v n (bts l)) (hx:∀ x∈l,x < 256) (hl:l.length≤1000000):Bs w v l:=by
 have hn:l.length=n:=by have:=h.1;rw [bts_len] at this;omega
 rcases h.2 with ⟨rfl,h0⟩ | ⟨g,cap,cur,rfl,e2,e3,e4,e5,e6,e7⟩
 · subst h0
   have:l=[]:=List.eq_nil_of_length_eq_zero hn
   subst this
   exact ⟨none,0,rfl,by simp,by simp,hx,fun h=>absurd rfl h⟩
 · refine ⟨some ⟨g,0,none⟩,cap,by rw [hn],by omega,by omega,hx,fun _=>⟨g,0,rfl,fun k hk=>?_⟩⟩
   have:=h.cells (g:=g) rfl k (.int .u8 ((l.getD k 0:Nat):Int)) (by unfold bts;rw [List.getElem?_map,List.getElem?_eq_getElem hk,List.getD_eq_getElem?_getD,List.getElem?_eq_getElem hk];rfl)
   rw [add0] at this
   rw [Nat.zero_add];exact this
theorem owns_lit4 (w:World) (a b c d:Nat):(w.alloc (.cells #[.int .u8 (a:Int),.int .u8 (b:Int),.int .u8 (c:Int),.int .u8 (d:Int)] 5)).ownsRow w.heap.size 5 1 (.slice (some ⟨w.heap.size,0,none⟩) 4 4) 4 (bts [a,b,c,d]):=
 ⟨rfl,.inr ⟨w.heap.size,4,_,rfl,Nat.le_refl _,blk_alloc_new _ _,Nat.le_refl _,by unfold maxLen;omega,rfl,rfl⟩⟩
theorem blank_body (w:World):Calls Tryz.prog 212 #[.agg #[]] w fun e w'=>e=.returned (.slice none 0 0)∧Below w.heap.size w w':=by
 go_enter Tryz.func212,Tryz.ntmps212
 go_wp2
 go_ret
 exact ⟨rfl,(Below.refl _ w).alloc (Nat.le_refl _) _⟩
theorem root_body (D L G t f n:Nat) (w:World) (k8:(Rec.root D L G t f n).ok) :
 Calls Tryz.prog 198 #[.agg (rootA D L G t f n)] w fun e w'=>∃ v,e=.returned v∧Bs w' v (Rec.root D L G t f n).body∧Below w.heap.size w w':=by
 obtain ⟨h1,h2,h3,h4,h5,h6⟩:=k8
 have hx:(w.alloc (.cells (rootA D L G t f n) 93)).heap[w.heap.size]?=some (.cells (rootA D L G t f n) 93 (0,0)):=blk_alloc_new _ _
 have hy:(w.alloc (.cells (rootA D L G t f n) 93)).heap.size=w.heap.size+1:=by simp
 have hm:=owns_lit4 (w.alloc (.cells (rootA D L G t f n) 93)) 1 D L G
 have hh:((w.alloc (.cells (rootA D L G t f n) 93)).alloc (.cells #[.int .u8 1,.int .u8 (D:Int),.int .u8 (L:Int),.int .u8 (G:Int)] 5)).heap[w.heap.size]?=some (.cells (rootA D L G t f n) 93 (0,0)):=(blk_alloc_lt _ _ _ (by simp)).trans hx
 have hn:Below w.heap.size w ((w.alloc (.cells (rootA D L G t f n) 93)).alloc (.cells #[.int .u8 1,.int .u8 (D:Int),.int .u8 (L:Int),.int .u8 (G:Int)] 5)):=((Below.refl _ w).alloc (Nat.le_refl _) _).alloc (by simp) _
 have hp:((w.alloc (.cells (rootA D L G t f n) 93)).alloc (.cells #[.int .u8 1,.int .u8 (D:Int),.int .u8 (L:Int),.int .u8 (G:Int)] 5)).heap.size=w.heap.size+2:=by simp
 rw [hy] at hm
 unfold rootA at *
 obtain ⟨w1,hq⟩:∃ w1,(w.alloc (.cells #[.int .i64 D,.int .i64 L,.int .i64 G,.int .u64 t,.int .i64 f,.int .i64 n] 93)).alloc (.cells #[.int .u8 1,.int .u8 (D:Int),.int .u8 (L:Int),.int .u8 (G:Int)] 5)=w1:=⟨_,rfl⟩
 have ha:w1.ownsRow (w.heap.size+1) 5 1 (.slice (some ⟨w.heap.size+1,0,none⟩) 4 4) 4 (bts [1,D,L,G]):=by rw [← hq];exact hm
 rw [hq] at hh hn hp
 have c1:w1.cell? ⟨w.heap.size,3,none⟩=some (.int .u64 t):=by simp [World.cell?,hh]
 have H1:=hide4 ha hh hn hp
 clear hm ha hh hn hx hy hp
 go_enter Tryz.func198,Tryz.ntmps198
 go_wp2_with fail
 refine (append_num (w.heap.size+1) _ 4 (bts [1,D,L,G]) t 8 w1 H1.out.1 (by have:=H1.out.2.2.2;omega) (by decide) (by decide)).mono ?_
 rintro e w2 ⟨v2,rfl,hz,hi,hc⟩
 have h7:w2.heap[w.heap.size]?=some (.cells #[.int .i64 D,.int .i64 L,.int .i64 G,.int .u64 t,.int .i64 f,.int .i64 n] 93 (0,0)):=(hi.block _ (by have:=H1.out.2.2.2;omega) (fun e=>by simp [Value.ownBlock] at e)).trans H1.out.2.1
 have he:Below w.heap.size w w2:=H1.out.2.2.1.trans (hi.below fun k hk=>⟨by have:=H1.out.2.2.2;omega,fun e=>by simp [Value.ownBlock] at e;omega⟩)
 have k0:=hi.size
 have c2:w2.cell? ⟨w.heap.size,4,none⟩=some (.int .i64 f):=by simp [World.cell?,h7]
 have H2:=hide5 hz h7 he k0 hc
 clear hz hi hc h7 he k0 hq
 go_wp2_with fail
 refine (append_num (w.heap.size+1) _ (4+8) (bts [1,D,L,G] ++ bts (be t 8)) f 4 w2 H2.out.1 (by have:=H1.out.2.2.2;have:=H2.out.2.2.2.1;omega) (by decide) (by decide)).mono ?_
 rintro e w3 ⟨v3,rfl,k5,hj,hr⟩
 have h8:∀ k,k≤w.heap.size→¬ v2.ownBlock=some k:=fun k hk e=>by have:=(H2.out.1.lt k e).1;omega
 have h9:w3.heap[w.heap.size]?=some (.cells #[.int .i64 D,.int .i64 L,.int .i64 G,.int .u64 t,.int .i64 f,.int .i64 n] 93 (0,0)):=(hj.block _ (by have:=H1.out.2.2.2;have:=H2.out.2.2.2.1;omega) (h8 _ (Nat.le_refl _))).trans H2.out.2.1
 have hf:Below w.heap.size w w3:=H2.out.2.2.1.trans (hj.below fun k hk=>⟨by have:=H1.out.2.2.2;have:=H2.out.2.2.2.1;omega,h8 k (by omega)⟩)
 have k6:=Nat.le_trans H2.out.2.2.2.1 hj.size
 have c3:w3.cell? ⟨w.heap.size,5,none⟩=some (.int .i64 n):=by simp [World.cell?,h9]
 have H3:=hide4 k5 h9 hf k6
 clear k5 hj hr h9 hf k6 c2 h8
 go_wp2_with fail
 refine (append_num (w.heap.size+1) _ (4+8+4) (bts [1,D,L,G] ++ bts (be t 8) ++ bts (be f 4)) n 4 w3 H3.out.1 (by have:=H1.out.2.2.2;have:=H3.out.2.2.2;omega) (by decide) (by decide)).mono ?_
 rintro e w4 ⟨v4,rfl,hg,k7,hs⟩
 have h0:Below w.heap.size w w4:=H3.out.2.2.1.trans (k7.below fun k hk=>⟨by have:=H1.out.2.2.2;have:=H3.out.2.2.2;omega,fun e=>by have:=(H3.out.1.lt k e).1;omega⟩)
 have H4:=hide2 hg h0
 clear hg k7 hs h0 c3
 go_wp2
 go_ret
 obtain ⟨hg,h0⟩:=H4.out
 refine ⟨v4,rfl,?_,h0⟩
 have hl:bts [1,D,L,G] ++ bts (be t 8) ++ bts (be f 4) ++ bts (be n 4)=bts (Rec.root D L G t f n).body:=by
  rw [← bts_append,← bts_append,← bts_append]
  simp only [Rec.body,Nat.mod_eq_of_lt h1,Nat.mod_eq_of_lt h2,Nat.mod_eq_of_lt h3,List.append_assoc]
 rw [hl] at hg
 exact Bs.of_owns hg (body_lt (r:=.root D L G t f n) ⟨h1,h2,h3,h4,h5,h6⟩) (Nat.le_trans (body_len (r:=.root D L G t f n) ⟨h1,h2,h3,h4,h5,h6⟩) (by decide))
theorem Bs.mid (hc:l.length≤c) (hl:l.length≤1000000) (hx:∀ x∈l,x < 256) (h:w.rangeAt b off (bts l)):Bs w (.slice (some ⟨b,off,none⟩) l.length c) l:=
 ⟨_,c,rfl,hc,by omega,hx,fun _=>⟨b,off,rfl,fun k hk=>h k _ (by unfold bts;rw [List.getElem?_map,List.getElem?_eq_getElem hk,List.getD_eq_getElem?_getD,List.getElem?_eq_getElem hk];rfl)⟩⟩
theorem range_take (s:Nat) (h:w.rangeAt b off (bts l)):w.rangeAt b off (bts (l.take s)):=fun j v hv=>by
 unfold bts at hv
 rw [List.map_take,List.getElem?_take] at hv
 split at hv
 · exact h j v hv
 · cases hv
theorem range_drop (s:Nat) (h:w.rangeAt b off (bts l)):w.rangeAt b (off+s) (bts (l.drop s)):=fun j v hv=>by
 unfold bts at hv
 rw [List.map_drop,List.getElem?_drop] at hv
 rw [Nat.add_assoc]
 exact h (s+j) v hv
theorem take_any (q b off c s:Nat) (l:List Nat) (w:World) (hq:w.heap[q]?=some (.cells #[.slice (some ⟨b,off,none⟩) l.length c] 33 (0,0))) (h0:c≤1000) (hx:∀ x∈l,x < 256) (hr:w.rangeAt b off (bts l)) (hs:s≤l.length) (h1:s < c) :
 Calls Tryz.prog 150 #[.int .i64 s,.pointer (some ⟨q,0,none⟩)] w fun e w'=>e=.returned (.int .u64 (ofB (l.take s):Nat))∧w'=w.setCell ⟨q,0,none⟩ (.slice (some ⟨b,off+s,none⟩) (l.length - s) (c - s)):=by
 have hb:Bs w (.slice (some ⟨b,off,none⟩) (l.take s).length c) (l.take s):=Bs.mid (by rw [List.length_take];omega) (by rw [List.length_take];omega) (fun x h=>hx x (List.mem_of_mem_take h)) (range_take s hr)
 rw [List.length_take,Nat.min_eq_left hs] at hb
 have c0:w.cell? ⟨q,0,none⟩=some (.slice (some ⟨b,off,none⟩) l.length c):=by simp [World.cell?,hq]
 have fz:w.frozen? ⟨q,0,none⟩=false:=by simp [World.frozen?,hq]
 go_enter Tryz.func150,Tryz.ntmps150
 go_wp2_with fail
 refine (of_num _ (l.take s) w hb).mono ?_
 rintro e w' ⟨rfl,rfl⟩
 have h2:¬ c=s:=by omega
 clear hb hr hx
 go_wp2
 go_ret
 exact ⟨rfl,rfl⟩
structure RtS (w0 w:World) (q b off c:Nat) (l:List Nat) (vals:Array Value):Prop where
 box:w.heap[q]?=some (.cells #[.slice (some ⟨b,off,none⟩) l.length c] 33 (0,0))
 res:w.heap[q+1]?=some (.cells #[.int .i64 0,.int .i64 0,.int .i64 0,.int .u64 0,.int .i64 0,.int .i64 0] 93 (0,0))
 rv:w.heap[q+1+1]?=some (.cells vals 93 (0,0))
 below:Below q w0 w
 rng:w.rangeAt b off (bts l)
 lt:b < q
theorem heap_setCell_at {j:Nat} {cs:Array Value} {t:TypeId} (h:w.heap[b]?=some (.cells cs t (0,0))) (v:Value):(w.setCell ⟨b,j,none⟩ v).heap[b]?=some (.cells (cs.setIfInBounds j v) t (0,0)):=by
 simp [World.setCell,Array.getElem?_modify,h]
theorem range_set {l:List Value} (h:w.rangeAt b off l) {a:Addr} (ha:b≠a.block) (v:Value):(w.setCell a v).rangeAt b off l:=fun j u hu=>by
 have:=h j u hu
 rw [← this]
 exact World.cell?_of_block (blk_setCell_other _ _ _ _ ha)
theorem RtS.step (h:RtS w0 w q b off c l vals) (s j:Nat) (v:Value) :
 RtS w0 ((w.setCell ⟨q,0,none⟩ (.slice (some ⟨b,off+s,none⟩) (l.length - s) (c - s))).setCell ⟨q+1+1,j,none⟩ v) q b (off+s) (c - s) (l.drop s) (vals.setIfInBounds j v):=by
 obtain ⟨h1,h2,h3,h4,h5,h6⟩:=h
 refine ⟨?_,?_,?_,?_,?_,h6⟩
 · rw [blk_setCell_other _ _ _ _ (by show q≠q+1+1;omega),heap_setCell_at h1,List.length_drop];rfl
 · rw [blk_setCell_other _ _ _ _ (by show q+1≠q+1+1;omega),blk_setCell_other _ _ _ _ (by show q+1≠q;omega)];exact h2
 · exact heap_setCell_at ((blk_setCell_other _ _ _ _ (by show q+1+1≠q;omega)).trans h3) v
 · exact (h4.setCell (p:=⟨q,0,none⟩) (Nat.le_refl _) _).setCell (p:=⟨q+1+1,j,none⟩) (by show q≤q+1+1;omega) _
 · exact range_set (range_set (range_drop s h5) (by show b≠q;omega) _) (by show b≠q+1+1;omega) _
theorem RtS.cells (h:RtS w0 w q b off c l vals) (s j:Nat) (u:Value) (hj:vals[j]?=some u) :
 (w.setCell ⟨q,0,none⟩ (.slice (some ⟨b,off+s,none⟩) (l.length - s) (c - s))).cell? ⟨q+1+1,j,none⟩=some u∧(w.setCell ⟨q,0,none⟩ (.slice (some ⟨b,off+s,none⟩) (l.length - s) (c - s))).frozen? ⟨q+1+1,j,none⟩=false:=by
 have e:(w.setCell ⟨q,0,none⟩ (.slice (some ⟨b,off+s,none⟩) (l.length - s) (c - s))).heap[q+1+1]?=_:=(blk_setCell_other _ _ _ _ (by show q+1+1≠q;omega)).trans h.rv
 exact ⟨by simp [World.cell?,e,hj],by simp [World.frozen?,e]⟩
theorem ofB_small:∀ (l:List Nat),l.length≤7→(∀ x∈l,x < 256)→ofB l < 256^l.length:=by
 intro l hl hx
 induction hn:l.length generalizing l with
 | zero=>
  have:l=[]:=List.eq_nil_of_length_eq_zero hn
  subst this;decide
 | succ n ih=>
  rcases List.eq_nil_or_concat l with rfl | ⟨l',x,rfl⟩
  · simp at hn
  · rw [List.concat_eq_append] at *
    simp at hn
    have h0:l'.length≤7:=by simp at hl;omega
    have h1:=ih l' h0 (fun y hy=>hx y (by simp [hy])) hn
    have h2:=hx x (by simp)
    rw [ofB_snoc,Nat.pow_succ]
    exact Nat.lt_of_le_of_lt (Nat.mod_le _ _) (by omega)
theorem rootOf_any (b off:Nat) (l:List Nat) (w:World) (hl:l.length=59) (hx:∀ x∈l,x < 256) (hr:w.rangeAt b off (bts l)) (hb:b < w.heap.size) :
 Calls Tryz.prog 135 #[.slice (some ⟨b,off,none⟩) l.length 59] w fun e w'=>e=.returned (.agg (rootA (ofB (l.take 1)) (ofB ((l.drop 1).take 1)) (ofB ((l.drop 2).take 1)) (ofB ((l.drop 3).take 8)) (ofB ((l.drop 11).take 4)) (ofB ((l.drop 15).take 4))))∧Below w.heap.size w w':=by
 have kn:∀ (fn:Fn) (first cap:Array Value) (w:World),(Instr.makeFunc fn first cap).run Tryz.prog w=.ok (.func fn first cap) w:=fun _ _ _ _=>rfl
 have hf:∀ s,∀ x∈l.drop s,x < 256:=fun s x h=>hx x (List.mem_of_mem_drop h)
 have hq:∀ s k,k≤7→ofB ((l.drop s).take k) < 256^k:=fun s k hk=>by
  have hg:((l.drop s).take k).length≤k:=by rw [List.length_take];omega
  exact Nat.lt_of_lt_of_le (ofB_small _ (by omega) (fun x h=>hf s x (List.mem_of_mem_take h))) (Nat.pow_le_pow_right (by decide) hg)
 have h0:RtS w (((w.alloc (.cells #[.slice (some ⟨b,off,none⟩) l.length 59] 33)).alloc (.cells #[.int .i64 0,.int .i64 0,.int .i64 0,.int .u64 0,.int .i64 0,.int .i64 0] 93)).alloc (.cells #[.int .i64 0,.int .i64 0,.int .i64 0,.int .u64 0,.int .i64 0,.int .i64 0] 93)) w.heap.size b off 59 l #[.int .i64 0,.int .i64 0,.int .i64 0,.int .u64 0,.int .i64 0,.int .i64 0]:=by
  refine ⟨?_,?_,?_,(((Below.refl _ w).alloc (Nat.le_refl _) _).alloc (by simp) _).alloc (by simp;omega) _,World.rangeAt_alloc (World.rangeAt_alloc (World.rangeAt_alloc hr _) _) _,hb⟩
  · rw [blk_alloc_lt _ _ _ (by simp;omega),blk_alloc_lt _ _ _ (by simp)];exact blk_alloc_new _ _
  · rw [blk_alloc_lt _ _ _ (by simp)]
    have:=blk_alloc_new (w.alloc (.cells #[.slice (some ⟨b,off,none⟩) l.length 59] 33)) (.cells #[.int .i64 0,.int .i64 0,.int .i64 0,.int .u64 0,.int .i64 0,.int .i64 0] 93)
    simpa using this
  · have:=blk_alloc_new ((w.alloc (.cells #[.slice (some ⟨b,off,none⟩) l.length 59] 33)).alloc (.cells #[.int .i64 0,.int .i64 0,.int .i64 0,.int .u64 0,.int .i64 0,.int .i64 0] 93)) (.cells #[.int .i64 0,.int .i64 0,.int .i64 0,.int .u64 0,.int .i64 0,.int .i64 0] 93)
    simpa using this
 obtain ⟨w1,hs⟩:∃ w1,((w.alloc (.cells #[.slice (some ⟨b,off,none⟩) l.length 59] 33)).alloc (.cells #[.int .i64 0,.int .i64 0,.int .i64 0,.int .u64 0,.int .i64 0,.int .i64 0] 93)).alloc (.cells #[.int .i64 0,.int .i64 0,.int .i64 0,.int .u64 0,.int .i64 0,.int .i64 0] 93)=w1:=⟨_,rfl⟩
 rw [hs] at h0
 have HX:=hide3 hf hq hl
 have H0:Hid (RtS w w1 w.heap.size b (off+0) 59 (l.drop 0) #[.int .i64 0,.int .i64 0,.int .i64 0,.int .u64 0,.int .i64 0,.int .i64 0]):=h0
 clear h0 hr hx hf hq hl hb
 go_enter Tryz.func135,Tryz.ntmps135
 go_wp2_with fail
 obtain ⟨x0,hi⟩:∃ x,ofB ((l.drop 0).take 1)=x:=⟨_,rfl⟩
 have b0:x0 < 4294967296:=Nat.lt_of_lt_of_le (hi ▸ HX.out.2.1 0 1 (by decide)) (by decide)
 have h1:=H0.out
 refine (take_any w.heap.size b (off+0) 59 1 (l.drop 0) w1 h1.box (by decide) (HX.out.1 0) h1.rng (by rw [List.length_drop,HX.out.2.2];decide) (by decide)).mono ?_
 rintro e y0 ⟨rfl,hy⟩
 rw [hi]
 have h2:=h1.step 1 0 (.int .i64 (x0:Nat))
 obtain ⟨cc0,ff0⟩:=h1.cells 1 0 _ rfl
 rw [← hy] at h2 cc0 ff0
 clear hy
 obtain ⟨w2,hz⟩:∃ z,y0.setCell ⟨w.heap.size+1+1,0,none⟩ (.int .i64 (x0:Nat))=z:=⟨_,rfl⟩
 rw [hz] at h2
 have k0:RtS w w2 w.heap.size b (off+1) 58 (l.drop 1) #[.int .i64 (x0:Nat),.int .i64 0,.int .i64 0,.int .u64 0,.int .i64 0,.int .i64 0]:=by
  rw [List.drop_drop,Nat.add_assoc off] at h2;exact h2
 have H1:=hide k0
 clear h1 h2 k0
 go_wp2_with fail
 obtain ⟨x1,hj⟩:∃ x,ofB ((l.drop 1).take 1)=x:=⟨_,rfl⟩
 have b1:x1 < 4294967296:=Nat.lt_of_lt_of_le (hj ▸ HX.out.2.1 1 1 (by decide)) (by decide)
 have h3:=H1.out
 refine (take_any w.heap.size b (off+1) 58 1 (l.drop 1) w2 h3.box (by decide) (HX.out.1 1) h3.rng (by rw [List.length_drop,HX.out.2.2];decide) (by decide)).mono ?_
 rintro e y1 ⟨rfl,k5⟩
 rw [hj]
 have h4:=h3.step 1 1 (.int .i64 (x1:Nat))
 obtain ⟨cc1,ff1⟩:=h3.cells 1 1 _ rfl
 rw [← k5] at h4 cc1 ff1
 clear k5
 obtain ⟨w3,k6⟩:∃ z,y1.setCell ⟨w.heap.size+1+1,1,none⟩ (.int .i64 (x1:Nat))=z:=⟨_,rfl⟩
 rw [k6] at h4
 have k7:RtS w w3 w.heap.size b (off+2) 57 (l.drop 2) #[.int .i64 (x0:Nat),.int .i64 (x1:Nat),.int .i64 0,.int .u64 0,.int .i64 0,.int .i64 0]:=by
  rw [List.drop_drop,Nat.add_assoc off] at h4;exact h4
 have H2:=hide k7
 clear h3 h4 k7
 go_wp2_with fail
 obtain ⟨x2,hm⟩:∃ x,ofB ((l.drop 2).take 1)=x:=⟨_,rfl⟩
 have b2:x2 < 4294967296:=Nat.lt_of_lt_of_le (hm ▸ HX.out.2.1 2 1 (by decide)) (by decide)
 have h5:=H2.out
 refine (take_any w.heap.size b (off+2) 57 1 (l.drop 2) w3 h5.box (by decide) (HX.out.1 2) h5.rng (by rw [List.length_drop,HX.out.2.2];decide) (by decide)).mono ?_
 rintro e y2 ⟨rfl,k8⟩
 rw [hm]
 have h6:=h5.step 1 2 (.int .i64 (x2:Nat))
 obtain ⟨cc2,ff2⟩:=h5.cells 1 2 _ rfl
 rw [← k8] at h6 cc2 ff2
 clear k8
 obtain ⟨w4,k9⟩:∃ z,y2.setCell ⟨w.heap.size+1+1,2,none⟩ (.int .i64 (x2:Nat))=z:=⟨_,rfl⟩
 rw [k9] at h6
 have ka:RtS w w4 w.heap.size b (off+3) 56 (l.drop 3) #[.int .i64 (x0:Nat),.int .i64 (x1:Nat),.int .i64 (x2:Nat),.int .u64 0,.int .i64 0,.int .i64 0]:=by
  rw [List.drop_drop,Nat.add_assoc off] at h6;exact h6
 have H3:=hide ka
 clear h5 h6 ka
 go_wp2_with fail
 obtain ⟨x3,kb⟩:∃ x,ofB ((l.drop 3).take 8)=x:=⟨_,rfl⟩
 have h7:=H3.out
 refine (take_any w.heap.size b (off+3) 56 8 (l.drop 3) w4 h7.box (by decide) (HX.out.1 3) h7.rng (by rw [List.length_drop,HX.out.2.2];decide) (by decide)).mono ?_
 rintro e y3 ⟨rfl,kc⟩
 rw [kb]
 have h8:=h7.step 8 3 (.int .u64 (x3:Nat))
 obtain ⟨cc3,ff3⟩:=h7.cells 8 3 _ rfl
 rw [← kc] at h8 cc3 ff3
 clear kc
 obtain ⟨w5,kd⟩:∃ z,y3.setCell ⟨w.heap.size+1+1,3,none⟩ (.int .u64 (x3:Nat))=z:=⟨_,rfl⟩
 rw [kd] at h8
 have ke:RtS w w5 w.heap.size b (off+11) 48 (l.drop 11) #[.int .i64 (x0:Nat),.int .i64 (x1:Nat),.int .i64 (x2:Nat),.int .u64 (x3:Nat),.int .i64 0,.int .i64 0]:=by
  rw [List.drop_drop,Nat.add_assoc off] at h8;exact h8
 have H4:=hide ke
 clear h7 h8 ke
 go_wp2_with fail
 obtain ⟨x4,hn⟩:∃ x,ofB ((l.drop 11).take 4)=x:=⟨_,rfl⟩
 have b4:x4 < 4294967296:=Nat.lt_of_lt_of_le (hn ▸ HX.out.2.1 11 4 (by decide)) (by decide)
 have h9:=H4.out
 refine (take_any w.heap.size b (off+11) 48 4 (l.drop 11) w5 h9.box (by decide) (HX.out.1 11) h9.rng (by rw [List.length_drop,HX.out.2.2];decide) (by decide)).mono ?_
 rintro e y4 ⟨rfl,kf⟩
 rw [hn]
 have ha:=h9.step 4 4 (.int .i64 (x4:Nat))
 obtain ⟨cc4,ff4⟩:=h9.cells 4 4 _ rfl
 rw [← kf] at ha cc4 ff4
 clear kf
 obtain ⟨w6,kg⟩:∃ z,y4.setCell ⟨w.heap.size+1+1,4,none⟩ (.int .i64 (x4:Nat))=z:=⟨_,rfl⟩
 rw [kg] at ha
 have kh:RtS w w6 w.heap.size b (off+15) 44 (l.drop 15) #[.int .i64 (x0:Nat),.int .i64 (x1:Nat),.int .i64 (x2:Nat),.int .u64 (x3:Nat),.int .i64 (x4:Nat),.int .i64 0]:=by
  rw [List.drop_drop,Nat.add_assoc off] at ha;exact ha
 have H5:=hide kh
 clear h9 ha kh
 go_wp2_with fail
 obtain ⟨x5,hp⟩:∃ x,ofB ((l.drop 15).take 4)=x:=⟨_,rfl⟩
 have b5:x5 < 4294967296:=Nat.lt_of_lt_of_le (hp ▸ HX.out.2.1 15 4 (by decide)) (by decide)
 have hc:=H5.out
 refine (take_any w.heap.size b (off+15) 44 4 (l.drop 15) w6 hc.box (by decide) (HX.out.1 15) hc.rng (by rw [List.length_drop,HX.out.2.2];decide) (by decide)).mono ?_
 rintro e y5 ⟨rfl,ki⟩
 rw [hp]
 have he:=hc.step 4 5 (.int .i64 (x5:Nat))
 obtain ⟨cc5,ff5⟩:=hc.cells 4 5 _ rfl
 rw [← ki] at he cc5 ff5
 clear ki
 obtain ⟨w7,kk⟩:∃ z,y5.setCell ⟨w.heap.size+1+1,5,none⟩ (.int .i64 (x5:Nat))=z:=⟨_,rfl⟩
 rw [kk] at he
 have kj:RtS w w7 w.heap.size b (off+19) 40 (l.drop 19) #[.int .i64 (x0:Nat),.int .i64 (x1:Nat),.int .i64 (x2:Nat),.int .u64 (x3:Nat),.int .i64 (x4:Nat),.int .i64 (x5:Nat)]:=by
  rw [List.drop_drop,Nat.add_assoc off] at he;exact he
 have H6:=hide kj
 clear hc he kj
 have g0:w7.cell? ⟨w.heap.size+1+1,0,none⟩=some (.int .i64 (x0:Nat)):=by simp [World.cell?,H6.out.rv]
 have g1:w7.cell? ⟨w.heap.size+1+1,1,none⟩=some (.int .i64 (x1:Nat)):=by simp [World.cell?,H6.out.rv]
 have g2:w7.cell? ⟨w.heap.size+1+1,2,none⟩=some (.int .i64 (x2:Nat)):=by simp [World.cell?,H6.out.rv]
 have g3:w7.cell? ⟨w.heap.size+1+1,3,none⟩=some (.int .u64 (x3:Nat)):=by simp [World.cell?,H6.out.rv]
 have g4:w7.cell? ⟨w.heap.size+1+1,4,none⟩=some (.int .i64 (x4:Nat)):=by simp [World.cell?,H6.out.rv]
 have g5:w7.cell? ⟨w.heap.size+1+1,5,none⟩=some (.int .i64 (x5:Nat)):=by simp [World.cell?,H6.out.rv]
 have r0:w7.cell? ⟨w.heap.size+1,0,none⟩=some (.int .i64 0):=by simp [World.cell?,H6.out.res]
 have r1:w7.cell? ⟨w.heap.size+1,1,none⟩=some (.int .i64 0):=by simp [World.cell?,H6.out.res]
 have r2:w7.cell? ⟨w.heap.size+1,2,none⟩=some (.int .i64 0):=by simp [World.cell?,H6.out.res]
 have r3:w7.cell? ⟨w.heap.size+1,3,none⟩=some (.int .u64 0):=by simp [World.cell?,H6.out.res]
 have r4:w7.cell? ⟨w.heap.size+1,4,none⟩=some (.int .i64 0):=by simp [World.cell?,H6.out.res]
 have r5:w7.cell? ⟨w.heap.size+1,5,none⟩=some (.int .i64 0):=by simp [World.cell?,H6.out.res]
 have rf:∀ k,w7.frozen? ⟨w.heap.size+1,k,none⟩=false:=fun k=>by simp [World.frozen?,H6.out.res]
 have f0:=rf 0
 have f1:=rf 1
 have f2:=rf 2
 have f3:=rf 3
 have f4:=rf 4
 have f5:=rf 5
 clear rf hs hz k6 k9 kd kg cc0 cc1 cc2 cc3 cc4 ff0 ff1 ff2 ff3 ff4 H0 H1 H2 H3 H4 H5
 go_wp2
 have hh:=heap_setCell_at (j:=5) (heap_setCell_at (j:=4) (heap_setCell_at (j:=3) (heap_setCell_at (j:=2) (heap_setCell_at (j:=1) (heap_setCell_at (j:=0) H6.out.res (.int .i64 (x0:Nat))) (.int .i64 (x1:Nat))) (.int .i64 (x2:Nat))) (.int .u64 (x3:Nat))) (.int .i64 (x4:Nat))) (.int .i64 (x5:Nat))
 refine bodyPost_ret (v:=.agg (rootA x0 x1 x2 x3 x4 x5)) (results_cell_row Tryz.results135 _ _ (w.heap.size+1) 93 (rootA x0 x1 x2 x3 x4 x5) (0,0) _ rfl hh Tryz.underlying93 rfl (by kernel_rfl)) rfl ?_
 have km:=H6.out.below
 refine ⟨?_,(((((km.setCell (p:=⟨w.heap.size+1,0,none⟩) (by show w.heap.size≤w.heap.size+1;omega) _).setCell (p:=⟨w.heap.size+1,1,none⟩) (by show w.heap.size≤w.heap.size+1;omega) _).setCell (p:=⟨w.heap.size+1,2,none⟩) (by show w.heap.size≤w.heap.size+1;omega) _).setCell (p:=⟨w.heap.size+1,3,none⟩) (by show w.heap.size≤w.heap.size+1;omega) _).setCell (p:=⟨w.heap.size+1,4,none⟩) (by show w.heap.size≤w.heap.size+1;omega) _).setCell (p:=⟨w.heap.size+1,5,none⟩) (by show w.heap.size≤w.heap.size+1;omega) _⟩
 rw [← hi,← hj,← hm,← kb,← hn,← hp,List.drop_zero]
end
theorem rf_same (a:Act) (i:Nat) (v:Value) (h:i < a.tmps.size):(a.put (some i) v).eval (.tmp i)=v:=by simp [Act.put,Act.eval,h]
theorem rf_other (a:Act) (i j:Nat) (v:Value) (h:i≠j):(a.put (some i) v).eval (.tmp j)=a.eval (.tmp j):=by
 simp [Act.put,Act.eval,Array.getD_eq_getD_getElem?,h]
theorem rf_size (a:Act) (d:Option Nat) (v:Value):(a.put d v).tmps.size=a.tmps.size:=by
 cases d <;> simp [Act.put]
structure Framed (lo hi:Nat) (a a':Act):Prop where
 size:a'.tmps.size=a.tmps.size
 defers:a'.defers=a.defers
 slot:∀ s,s < lo∨hi≤s→a'.eval (.tmp s)=a.eval (.tmp s)
theorem Framed.refl (lo hi:Nat) (a:Act):Framed lo hi a a:=⟨rfl,rfl,fun _ _=>rfl⟩
theorem Framed.put {a a':Act} (h:Framed lo hi a a') {d:Option Nat} (v:Value) (hd:∀ i,d=some i→lo≤i∧i < hi):Framed lo hi a (a'.put d v):=by
 cases d with
 | none=>exact h
 | some d=>
  obtain ⟨h1,h2⟩:=hd d rfl
  exact ⟨by rw [rf_size];exact h.size,h.defers,fun s hs=>by rw [rf_other _ _ _ _ (by omega)];exact h.slot s hs⟩
def Act.putFrom (a:Act):Nat→List Value→Act
 | _,[]=>a
 | d,v :: r=>Act.putFrom (a.put (some d) v) (d+1) r
theorem putFrom_size:∀ (vs:List Value) (a:Act) (d:Nat),(Act.putFrom a d vs).tmps.size=a.tmps.size∧(Act.putFrom a d vs).defers=a.defers
 | [],_,_=>⟨rfl,rfl⟩
 | v :: r,a,d=>by
  obtain ⟨h1,h2⟩:=putFrom_size r (a.put (some d) v) (d+1)
  exact ⟨h1.trans (rf_size _ _ _),h2⟩
theorem putFrom_eval:∀ (vs:List Value) (a:Act) (d s:Nat),d+vs.length≤a.tmps.size→(Act.putFrom a d vs).eval (.tmp s)=if d≤s∧s < d+vs.length then vs.getD (s - d) undef else a.eval (.tmp s)
 | [],a,d,s,_=>by
  show a.eval (.tmp s)=if d≤s∧s < d+0 then _ else _
  rw [if_neg (by omega)]
 | v :: r,a,d,s,h=>by
  simp only [List.length_cons] at h ⊢
  show (Act.putFrom (a.put (some d) v) (d+1) r).eval (.tmp s)=_
  rw [putFrom_eval r _ _ _ (by rw [rf_size];omega)]
  by_cases e:s=d
  · subst e
    rw [if_neg (by omega),if_pos (by omega),Nat.sub_self,rf_same _ _ _ (by omega)];rfl
  · rw [rf_other _ _ _ _ (fun q=>e q.symm)]
    by_cases e2:d+1≤s∧s < d+1+r.length
    · rw [if_pos e2,if_pos (by omega),show s - d=(s - (d+1))+1 by omega];rfl
    · rw [if_neg e2,if_neg (by omega)]
theorem act_ext {a b:Act} (h1:a.tmps.size=b.tmps.size) (h2:a.defers=b.defers) (h3:∀ s,s < a.tmps.size→a.eval (.tmp s)=b.eval (.tmp s)):a=b:=by
 obtain ⟨ta,da⟩:=a
 obtain ⟨tb,db⟩:=b
 simp only at h1 h2
 subst h2
 congr 1
 refine Array.ext h1 fun i q1 q2=>?_
 have:=h3 i q1
 simpa [Act.eval,q1,q2] using this
theorem Framed.out {a a':Act} (h:Framed lo hi a a') (vs:List Value) (hl:lo+vs.length=hi) (hs:hi≤a.tmps.size) (hv:∀ i,i < vs.length→a'.eval (.tmp (lo+i))=vs.getD i undef):a'=Act.putFrom a lo vs:=by
 obtain ⟨p1,p2⟩:=putFrom_size vs a lo
 refine act_ext (h.size.trans p1.symm) (h.defers.trans p2.symm) fun s _=>?_
 rw [putFrom_eval vs a lo s (by omega)]
 by_cases e:lo≤s∧s < lo+vs.length
 · rw [if_pos e]
   have:=hv (s - lo) (by omega)
   rwa [show lo+(s - lo)=s by omega] at this
 · rw [if_neg e];exact h.slot s (by omega)
def depsOf (ops:Array Oper) (i:Nat):List Nat:=match ops[i]? with
 | some o=>(o.after.toList.filter (fun e=>Region.binds .any e)).map (fun e=>e.on)
 | none=>[]
theorem ready_iff:i∈Region.ready .any ops listed↔i < ops.size∧listed.getD i true=false∧∀ k∈depsOf ops i,listed.getD k false=true:=by
 unfold Region.ready depsOf
 rw [List.mem_filter,List.mem_range,Bool.and_eq_true_iff]
 constructor
 · rintro ⟨h1,h2,h3⟩
   refine ⟨h1,by simpa using h2,fun k hk=>?_⟩
   rw [Array.getElem?_eq_getElem h1] at h3 hk
   simp only [Option.map_some,Option.getD_some] at h3
   rw [List.mem_map] at hk
   obtain ⟨e,he,rfl⟩:=hk
   obtain ⟨m1,m2⟩:=List.mem_filter.1 he
   have:=Array.all_eq_true'.1 h3 e (by simpa using m1)
   simpa [m2] using this
 · rintro ⟨h1,h2,h3⟩
   refine ⟨h1,by simpa using h2,?_⟩
   rw [Array.getElem?_eq_getElem h1] at h3 ⊢
   simp only [Option.map_some,Option.getD_some]
   rw [Array.all_eq_true']
   intro e he
   by_cases hb:Region.binds .any e=true
   · have:=h3 e.on (List.mem_map.2 ⟨e,List.mem_filter.2 ⟨by simpa using he,hb⟩,rfl⟩)
     simp [this]
   · simp [hb]
def toCome (listed:Array Bool):Nat:=(listed.toList.filter (fun b=>!b)).length
theorem toCome_set (h:listed.getD i true=false):toCome (listed.setIfInBounds i true)+1=toCome listed:=by
 have hi:i < listed.size:=by
  by_cases h':i < listed.size
  · exact h'
  · simp [Array.getD_eq_getD_getElem?,h'] at h
 unfold toCome
 rw [Array.toList_setIfInBounds]
 have hg:listed.toList[i]?=some false:=by
  simp [Array.getD_eq_getD_getElem?,hi] at h
  simp [hi,h]
 generalize listed.toList=l at hg
 clear h hi
 induction l generalizing i with
 | nil=>simp at hg
 | cons b l ih=>
  cases i with
  | zero=>
   simp at hg
   subst hg
   simp
  | succ i=>
   simp at hg
   have:=ih hg
   cases b <;> simp [List.set_cons_succ] <;> omega
theorem toCome_zero (h:toCome listed=0) (i:Nat) (hi:i < listed.size):listed.getD i false=true:=by
 unfold toCome at h
 have h2:=List.length_eq_zero_iff.1 h
 rw [List.filter_eq_nil_iff] at h2
 have:=h2 listed[i] (by simp)
 simpa [Array.getD_eq_getD_getElem?,hi] using this
def slotD (d:Option Nat) (a:Act):Value:=match d with
 | some d=>a.eval (.tmp d)
 | none=>undef
structure RegShape (ops:Array Oper) (lo hi:Nat) (sh:List (Op×Option Nat×List Nat)):Prop where
 at_:(List.range ops.size).map (fun i=>((ops[i]?.map fun o=>(o.op,o.dst,o.guard)),depsOf ops i))=sh.map (fun x=>(some (x.1,x.2.1,none),x.2.2))
 early:∀ i,i < sh.length→∀ k∈(sh.getD i (.move (.const undef),none,[])).2.2,k < i
 slots:∀ i j d,i < sh.length→j < sh.length→(sh.getD i (.move (.const undef),none,[])).2.1=some d→(lo≤d∧d < hi)∧((sh.getD j (.move (.const undef),none,[])).2.1=some d→i=j)
def shOk (lo hi:Nat) (sh:List (Op×Option Nat×List Nat)):Bool:=(List.range sh.length).all fun i=>(sh.getD i (.move (.const undef),none,[])).2.2.all (fun k=>decide (k < i)) && match (sh.getD i (.move (.const undef),none,[])).2.1 with
 | none=>true
 | some d=>decide (lo≤d) && decide (d < hi) && (List.range sh.length).all fun j=>(sh.getD j (.move (.const undef),none,[])).2.1 != some d || i == j
theorem regShape (h1:(List.range ops.size).map (fun i=>((ops[i]?.map fun o=>(o.op,o.dst,o.guard)),depsOf ops i))=sh.map (fun x=>(some (x.1,x.2.1,none),x.2.2))) (h2:shOk lo hi sh=true):RegShape ops lo hi sh:=by
 unfold shOk at h2
 rw [List.all_eq_true] at h2
 refine ⟨h1,fun i h0 k hk=>?_,fun i j d h0 hj hd=>?_⟩
 · have:=h2 i (List.mem_range.2 h0)
   rw [Bool.and_eq_true_iff,List.all_eq_true] at this
   exact of_decide_eq_true (this.1 k hk)
 · have:=(Bool.and_eq_true_iff.1 (h2 i (List.mem_range.2 h0))).2
   rw [hd] at this
   simp only [Bool.and_eq_true_iff,decide_eq_true_eq,List.all_eq_true] at this
   refine ⟨this.1,fun h3=>?_⟩
   have q:=this.2 j (List.mem_range.2 hj)
   rw [h3] at q
   simpa using q
theorem RegShape.size (h:RegShape ops lo hi sh):ops.size=sh.length:=by
 have:=congrArg List.length h.at_
 simpa using this
theorem RegShape.get (h:RegShape ops lo hi sh) (i:Nat) (hi:i < sh.length) :
 ∃ o,ops[i]?=some o∧o.op=(sh.getD i (.move (.const undef),none,[])).1∧o.dst=(sh.getD i (.move (.const undef),none,[])).2.1∧o.guard=none∧depsOf ops i=(sh.getD i (.move (.const undef),none,[])).2.2:=by
 have hs:=h.size
 have:=congrArg (fun l=>l[i]?) h.at_
 have h0:i < ops.size:=by omega
 simp only [List.getElem?_map,List.getElem?_range h0,Option.map_some,List.getElem?_eq_getElem hi,Option.some.injEq,Prod.mk.injEq,Option.map_eq_some_iff] at this
 obtain ⟨⟨o,h1,h2,h3,h4⟩,h5⟩:=this
 have e:sh.getD i (.move (.const undef),none,[])=sh[i]:=by simp [hi]
 rw [e]
 exact ⟨o,h1,h2,h3,h4,h5⟩
def upd (D:Nat→Bool) (i:Nat):Nat→Bool:=fun j=>if j=i then true else D j
abbrev shAt (sh:List (Op×Option Nat×List Nat)) (i:Nat):Op×Option Nat×List Nat:=sh.getD i (.move (.const undef),none,[])
def StepOk (P:Program) (Q:Exit→Act→World→Prop) (lo hi:Nat) (sh:List (Op×Option Nat×List Nat)) (a0:Act) (V:Nat→Value→World→Prop) (B:(Nat→Bool)→World→Prop) (i:Nat):Prop:=
 ∀ (o:Oper) (a:Act) (w:World) (D:Nat→Bool),o.guard=none→o.op=(shAt sh i).1→o.dst=(shAt sh i).2.1→Framed lo hi a0 a→D i=false→(∀ j,D j=true→j < sh.length∧∀ k∈(shAt sh j).2.2,D k=true) →
  (∀ k∈(shAt sh i).2.2,D k=true)→B D w→(∀ j,D j=true→V j (slotD (shAt sh j).2.1 a) w) →
  o.wp P a w (fun a' w'=>∃ v,a'=a.put o.dst v∧(o.dst=none→v=undef)∧B (upd D i) w'∧V i v w'∧∀ j u,D j=true→V j u w→V j u w') Q
theorem any_factsS {Q:Exit→Act→World→Prop} (h7:RegShape ops lo hi sh) (a0:Act) (hp:hi≤a0.tmps.size)
 (V:Nat→Value→World→Prop) (B:(Nat→Bool)→World→Prop) (ha:∀ i,i < sh.length→StepOk P Q lo hi sh a0 V B i)
 (hg:∀ (a:Act) (w:World),Framed lo hi a0 a→(∀ s,(∀ i,i < sh.length→(shAt sh i).2.1≠some s)→a.eval (.tmp s)=a0.eval (.tmp s))→(∃ D,(∀ i,i < sh.length→D i=true)∧B D w)→(∀ i,i < sh.length→V i (slotD (shAt sh i).2.1 a) w)→Q .normal a w) :
 ∀ (f:Nat) (listed:Array Bool) (a:Act) (w:World),listed.size=sh.length→toCome listed=f→Framed lo hi a0 a→(∀ s,(∀ i,i < sh.length→(shAt sh i).2.1≠some s)→a.eval (.tmp s)=a0.eval (.tmp s))→(∀ j,listed.getD j false=true→j < sh.length∧∀ k∈(shAt sh j).2.2,listed.getD k false=true)→B (fun j=>listed.getD j false) w →
  (∀ i,listed.getD i false=true→V i (slotD (shAt sh i).2.1 a) w)→wpAny P .any ops Q f listed a w:=by
 have k6:=h7.size
 have h6:∀ listed:Array Bool,listed.size=sh.length→toCome listed≠0→Region.ready .any ops listed≠[]:=by
  intro listed hl hc hr
  have hh:∀ i,i < sh.length→listed.getD i false=true:=by
   intro i
   induction i using Nat.strongRecOn with
   | ind i ih=>
    intro h0
    by_cases hd:listed.getD i false=true
    · exact hd
    · exfalso
      have hm:i∈Region.ready .any ops listed:=ready_iff.2 ⟨by omega,by simpa [Array.getD_eq_getD_getElem?,show i < listed.size by omega] using hd,fun k hk=>by
       obtain ⟨o,_,_,_,_,e⟩:=h7.get i h0
       rw [e] at hk
       have:=h7.early i h0 k hk
       exact ih k this (by omega)⟩
      rw [hr] at hm
      cases hm
  apply hc
  unfold toCome
  rw [List.length_eq_zero_iff,List.filter_eq_nil_iff]
  intro b hb
  obtain ⟨i,h0,rfl⟩:=List.getElem_of_mem hb
  have hq:i < listed.size:=by simpa using h0
  have:=hh i (by omega)
  simp [Array.getD_eq_getD_getElem?,hq] at this
  simp [this]
 intro f
 induction f with
 | zero=>
  intro listed a w hl hc hk h4 hf hB hV
  refine ⟨?_,hg a w hk h4 ⟨_,fun i h0=>toCome_zero hc i (by omega),hB⟩ fun i h0=>hV i (toCome_zero hc i (by omega))⟩
  rw [List.eq_nil_iff_forall_not_mem]
  intro i hm
  obtain ⟨h1,h2,_⟩:=ready_iff.1 hm
  have:=toCome_zero hc i (by omega)
  simp [Array.getD_eq_getD_getElem?,show i < listed.size by omega] at this h2
  rw [this] at h2
  cases h2
 | succ f ih=>
  intro listed a w hl hc hk h4 hf hB hV
  refine ⟨fun e=>absurd e (h6 listed hl (by omega)),fun i hm=>?_⟩
  obtain ⟨h1,h2,h3⟩:=ready_iff.1 hm
  have h0:i < sh.length:=by omega
  have hn:i < listed.size:=by omega
  obtain ⟨o,e1,e2,e3,e4,e5⟩:=h7.get i h0
  have hx:listed.getD i false=false:=by simpa [Array.getD_eq_getD_getElem?,hn] using h2
  have h5:∀ j,(listed.setIfInBounds i true).getD j false=upd (fun j=>listed.getD j false) i j:=by
   intro j
   unfold upd
   by_cases ej:j=i
   · subst ej
     rw [if_pos rfl]
     simp [Array.getD_eq_getD_getElem?,hn]
   · rw [if_neg ej,Array.getD_eq_getD_getElem?,Array.getElem?_setIfInBounds,if_neg (fun q:i=j=>ej q.symm),← Array.getD_eq_getD_getElem?]
  unfold wpOp
  rw [e1]
  show if Region.wanted o (yielded ops a.tmps)=true then _ else _
  rw [if_pos (by simp [Region.wanted,e4])]
  refine .inl (Oper.wp_mono (fun a' w' h=>?_) (ha i h0 o a w (fun j=>listed.getD j false) e4 e2 e3 hk hx hf (fun k h8=>?_) hB hV))
  · obtain ⟨v,rfl,hu,hy,hz,k0⟩:=h
    have he:∀ d,o.dst=some d→lo≤d∧d < hi:=fun d hd=>by rw [e3] at hd;exact (h7.slots i i d h0 h0 hd).1
    refine ih _ _ _ (by simpa using hl) (by have:=toCome_set h2;omega) (hk.put v he) (fun s hs=>?_) (fun j hj=>?_) ?_ fun j h9=>?_
    · refine Eq.trans ?_ (h4 s hs)
      cases hd:o.dst with
      | none=>rfl
      | some d=>exact rf_other _ _ _ _ (fun e=>hs i h0 (by rw [show (shAt sh i).2.1=o.dst from e3.symm,hd,e]))
    · rw [h5] at hj
      unfold upd at hj
      by_cases ej:j=i
      · subst ej
        refine ⟨h0,fun k h8=>?_⟩
        rw [h5];unfold upd
        by_cases ek:k=j
        · rw [if_pos ek]
        · rw [if_neg ek];rw [← e5] at h8;exact h3 k h8
      · rw [if_neg ej] at hj
        obtain ⟨q1,q2⟩:=hf j hj
        refine ⟨q1,fun k h8=>?_⟩
        rw [h5];unfold upd
        by_cases ek:k=i
        · rw [if_pos ek]
        · rw [if_neg ek];exact q2 k h8
    · have e:(fun j=>(listed.setIfInBounds i true).getD j false)=upd (fun j=>listed.getD j false) i:=funext h5
      rw [e];exact hy
    · rw [h5] at h9
      unfold upd at h9
      by_cases ej:j=i
      · subst ej
        have:slotD (shAt sh j).2.1 (a.put o.dst v)=v:=by
         show slotD (sh.getD j (.move (.const undef),none,[])).2.1 (a.put o.dst v)=v
         rw [← e3]
         cases hd:o.dst with
         | none=>exact (hu hd).symm
         | some d=>exact rf_same _ _ _ (Nat.lt_of_lt_of_le (he d hd).2 (by rw [hk.size];exact hp))
        rw [this];exact hz
      · rw [if_neg ej] at h9
        have:slotD (shAt sh j).2.1 (a.put o.dst v)=slotD (shAt sh j).2.1 a:=by
         cases k5:(shAt sh j).2.1 with
         | none=>rfl
         | some d'=>
          cases hd:o.dst with
          | none=>rfl
          | some d=>
           refine rf_other _ _ _ _ fun q=>ej ?_
           subst q
           rw [e3] at hd
           exact (h7.slots j i d (hf j h9).1 h0 k5).2 hd
        rw [this]
        exact k0 j _ h9 (hV j h9)
  · exact h3 k (by rw [e5];exact h8)
theorem region_factsS {Q:Exit→Act→World→Prop} (hm:P.follows .mixedOrders=true) (h3:RegShape ops lo hi sh) (a0:Act) (w0:World) (h4:hi≤a0.tmps.size)
 (V:Nat→Value→World→Prop) (B:(Nat→Bool)→World→Prop) (hB:B (fun _=>false) w0.drew) (h1:∀ i,i < sh.length→StepOk P Q lo hi sh a0 V B i)
 (h2:∀ (a:Act) (w:World),Framed lo hi a0 a→(∀ s,(∀ i,i < sh.length→(shAt sh i).2.1≠some s)→a.eval (.tmp s)=a0.eval (.tmp s))→(∃ D,(∀ i,i < sh.length→D i=true)∧B D w)→(∀ i,i < sh.length→V i (slotD (shAt sh i).2.1 a) w)→Q .normal a w):(Code.region m ops true).wp P Q a0 w0:=by
 refine wp_region_any hm ?_
 have h5:=h3.size
 have h0:∀ i,(Array.replicate ops.size false).getD i false=false:=fun i=>by
  simp only [Array.getD_eq_getD_getElem?,Array.getElem?_replicate]
  split <;> rfl
 refine any_factsS h3 a0 h4 V B h1 h2 _ _ a0 w0.drew (by simp [h5]) ?_ (Framed.refl _ _ _) (fun _ _=>rfl) (fun j hj=>?_) ?_ fun i h=>?_
 · unfold toCome
   simp
 · rw [h0] at hj;cases hj
 · have e:(fun j=>(Array.replicate ops.size false).getD j false)=fun _=>false:=funext h0
   rw [e];exact hB
 · rw [h0] at h;cases h
theorem region_facts {Q:Exit→Act→World→Prop} (hm:P.follows .mixedOrders=true) (h5:RegShape ops lo hi sh) (a0:Act) (w0:World) (h6:hi≤a0.tmps.size)
 (V:Nat→Value→World→Prop) (B:(Nat→Bool)→World→Prop) (hB:B (fun _=>false) w0.drew) (h0:∀ i,i < sh.length→StepOk P Q lo hi sh a0 V B i)
 (h4:∀ (a:Act) (w:World),Framed lo hi a0 a→(∃ D,(∀ i,i < sh.length→D i=true)∧B D w)→(∀ i,i < sh.length→V i (slotD (shAt sh i).2.1 a) w)→Q .normal a w):(Code.region m ops true).wp P Q a0 w0:=
 region_factsS hm h5 a0 w0 h6 V B hB h0 fun a w h1 _ h2 h3=>h4 a w h1 h2 h3
theorem op_val {Q:Exit→Act→World→Prop} {a:Act} (hr:(execOp a.eval o).run P w=.ok (.value v) w') {d:Nat} (hd:o.dst=some d) (h:B w'∧Vi v w'∧S w') :
 o.wp P a w (fun a' w'=>∃ v,a'=a.put o.dst v∧(o.dst=none→v=undef)∧B w'∧Vi v w'∧S w') Q:=by
 unfold Oper.wp;rw [hr];exact ⟨v,rfl,fun h=>(by rw [hd] at h;cases h),h⟩
theorem op_skip {Q:Exit→Act→World→Prop} {a:Act} (hr:(execOp a.eval o).run P w=.ok .skip w') (h:B w'∧Vi undef w'∧S w') :
 o.wp P a w (fun a' w'=>∃ v,a'=a.put o.dst v∧(o.dst=none→v=undef)∧B w'∧Vi v w'∧S w') Q:=by
 unfold Oper.wp;rw [hr];exact ⟨undef,rfl,fun _=>rfl,h⟩
theorem op_call {Q:Exit→Act→World→Prop} {a:Act} {w1:World} {f:FuncId} {args:Array Value} {Rr:Ending→World→Prop} (hr:(execOp a.eval o).run P w=.ok (.enter f args) w1) {d:Nat} (hd:o.dst=some d) (hc:Calls P f args w1 Rr)
 (h:∀ e w',Rr e w'→∃ v,e=.returned v∧B w'∧Vi v w'∧S w'):o.wp P a w (fun a' w'=>∃ v,a'=a.put o.dst v∧(o.dst=none→v=undef)∧B w'∧Vi v w'∧S w') Q:=by
 unfold Oper.wp
 rw [hr]
 refine hc.mono fun e w' he=>?_
 obtain ⟨v,rfl,h1⟩:=h e w' he
 exact ⟨v,rfl,fun h=>(by rw [hd] at h;cases h),h1⟩
theorem run_op_move {a:Act} (ho:o.op=.move x) (hx:a.eval x=v) (w:World):(execOp a.eval o).run P w=.ok (.value v) w:=by simp [execOp,ho,hx]
theorem run_op_nil {a:Act} {ad:Addr} (ho:o.op=.nilCheck x) (hx:a.eval x=.pointer (some ad)) (w:World):(execOp a.eval o).run P w=.ok (.value (.pointer (some ad))) w:=by simp only [execOp,ho,hx];go_simp
theorem kq {D:Nat→Bool} {V:Nat→Value→Prop}:∀ j u,D j=true→V j u→V j u:=fun _ _ _ q=>q
theorem run_max_int (ats:Array TypeId) (ty:TypeId) (x y:Int) (w:World):(Builtin.max_ ats ty #[.int .i64 x,.int .i64 y]).run P w=.ok (.int .i64 (if y > x then y else x)) w:=by
 simp [Builtin.max_,Builtin.max2]
theorem run_min_int (ats:Array TypeId) (ty:TypeId) (x y:Int) (w:World):(Builtin.min_ ats ty #[.int .i64 x,.int .i64 y]).run P w=.ok (.int .i64 (if y < x then y else x)) w:=by
 simp [Builtin.min_,Builtin.min2]
theorem run_op_max {a:Act} {s t:Operand} {ats:Array TypeId} (ho:o.op=.call { callee:=.builtin .max,args:=#[s,t],argTypes:=ats }) {x y:Int} (hx:a.eval s=.int .i64 x) (hy:a.eval t=.int .i64 y) (w:World) :
 (execOp a.eval o).run P w=.ok (.value (.int .i64 (if y > x then y else x))) w:=by
 unfold execOp
 simp only [ho,resolve,invoke,builtin,Sem.run_bind,Sem.run_pure,Result.andThen_ok,List.map_toArray,List.map_cons,List.map_nil,hx,hy,run_max_int]
def rgf:Code→Nat→Option (Array Oper)
 | .region i ops _,n=>if i=n then some ops else none
 | .seq a b,n=>(rgf a n).orElse fun _=>rgf b n
 | .cond _ a b,n=>(rgf a n).orElse fun _=>rgf b n
 | .block _ a,n=>rgf a n
 | .loop a,n=>rgf a n
 | .scope a,n=>rgf a n
 | .rangeFunc _ _ a b,n=>(rgf a n).orElse fun _=>rgf b n
 | _,_=>none
end Go.Proofs.YthcgahldacpolaaGreatDoor
