import Derived.Test.YthcgahldacpolaaGreatDoorM05
set_option maxRecDepth 100000
set_option maxHeartbeats 8000000
namespace Go.Proofs.YthcgahldacpolaaGreatDoor
open Go.RowKit Go.Deep
variable {a:Act} {A:Arr} {ops:Array Oper} {Q:Exit→Act→World→Prop} {F:Foot} {l s:List Nat} {b v D p d L G ps ho:Nat} {w w0 w':World}
theorem Brow.heapB (h:Brow w b l):w.heap[b]?=some (.cells (bts l).toArray 5 (0,0)):=by
 obtain ⟨c,hc,hs,hg⟩:=h
 have e:c=(bts l).toArray:=by
  apply Array.ext_getElem?
  intro i
  by_cases hi:i < l.length
  · rw [hg i hi]
    unfold vb bts
    simp [List.getD_eq_getElem?_getD,List.getElem?_eq_getElem hi]
  · rw [Array.getElem?_eq_none (by omega),Array.getElem?_eq_none (by rw [List.size_toArray,bts_len];omega)]
 rw [← e];exact hc
theorem Brow.of_heapB (h:w.heap[b]?=some (.cells (bts l).toArray 5 (0,0))):Brow w b l:=
 ⟨_,h,by rw [List.size_toArray,bts_len],fun i hi=>by
  unfold vb bts
  simp [List.getD_eq_getElem?_getD,List.getElem?_eq_getElem hi]⟩
theorem row_copy {off n cap:Nat} {src:List Nat} {v:Value} (ty:TypeId) (hB:Brow w b l) (hS:Bs w v src) (hn:src.length≤n) (hf:off+src.length≤l.length) :
 ∃ w',(Builtin.copy_ #[33,33] ty #[.slice (some ⟨b,off,none⟩) n cap,v]).run Tryz.prog w=.ok (.int .i64 (src.length:Nat)) w'∧Brow w' b (spl l off src)∧w.grownBy w' (some b):=by
 obtain ⟨ao,c,rfl,h1,h2,h3,h4⟩:=hS
 have h7:(Tryz.prog.info? 5).map (fun i=>i.size)=some 1:=by kernel_rfl
 by_cases h0:src=[]
 · subst h0
   refine ⟨w,run_copy_none (P:=Tryz.prog) w 33 33 ty 5 (some ⟨b,off,none⟩) ao n cap 0 c Tryz.underlying33 h7 (by simp),?_,World.grownBy.refl _ _⟩
   have e:spl l off []=l:=by unfold spl;simp
   rw [e];exact hB
 · obtain ⟨g,o,rfl,hc⟩:=h4 h0
   have h5:=run_copy_row (P:=Tryz.prog) w 33 33 ty 5 b off n cap ⟨g,o,none⟩ src.length c (bts l).toArray 5 (bts src) Tryz.underlying33 h7 hB.heapB (by rw [bts_len];exact (Nat.min_eq_left hn).symm) (fun j u hj=>by
    have h6:j < src.length:=by obtain ⟨q,_⟩:=List.getElem?_eq_some_iff.1 hj;rwa [bts_len] at q
    rw [Addr.add_mid,hc j h6,← hj]
    unfold bts
    rw [List.getElem?_map,List.getElem?_eq_getElem h6,List.getD_eq_getElem?_getD,List.getElem?_eq_getElem h6];rfl) (by rw [bts_len,List.size_toArray,bts_len];exact hf) (fun u hu=>by
    unfold bts at hu;rw [List.mem_map] at hu;obtain ⟨x,_,rfl⟩:=hu;rfl)
   have e:(List.take off (bts l) ++ bts src ++ List.drop (off+(bts src).length) (bts l)).toArray=(bts (spl l off src)).toArray:=by
    rw [bts_len]
    unfold spl
    rw [bts_append,bts_append,List.append_assoc]
    unfold bts
    rw [List.map_take,List.map_drop]
   refine ⟨w.setRow b (bts (spl l off src)).toArray,?_,Brow.of_heapB (setRow_heap w b (bts l).toArray (bts (spl l off src)).toArray _ _ hB.heapB),grown_setRow' _ _ _⟩
   rw [h5]
   simp only [List.append_assoc] at e ⊢
   rw [e,bts_len]
   rfl
theorem owns_lit1 (w:World) (a:Nat):(w.alloc (.cells #[.int .u8 (a:Int)] 5)).ownsRow w.heap.size 5 1 (.slice (some ⟨w.heap.size,0,none⟩) 1 1) 1 (bts [a]):=
 ⟨rfl,.inr ⟨w.heap.size,1,_,rfl,Nat.le_refl _,blk_alloc_new _ _,Nat.le_refl _,by unfold maxLen;omega,rfl,rfl⟩⟩
theorem filled_body (w:World):Calls Tryz.prog 210 #[.agg #[]] w fun e w'=>∃ v,e=.returned v∧Bs w' v Rec.filled.body∧Below w.heap.size w w':=by
 have ho:=owns_lit1 (w.alloc (.cells #[] 137)) 2
 have hb:Below w.heap.size w ((w.alloc (.cells #[] 137)).alloc (.cells #[.int .u8 ((2:Nat):Int)] 5)):=((Below.refl _ w).alloc (Nat.le_refl _) _).alloc (by simp) _
 have H:=hide2 ho hb
 clear ho hb
 go_enter Tryz.func210,Tryz.ntmps210
 go_wp2
 go_ret
 have hs:=Bs.of_owns H.out.1 (fun x hx=>by simp at hx;omega) (by decide)
 simp only [World.size_alloc] at hs
 exact ⟨_,rfl,hs,H.out.2⟩
noncomputable def RSb:Array Oper:=((Tryz.f211.body.bind (rgf · 3))).getD #[]
def shSb:List (Op×Option Nat×List Nat):=[(Op.move (.tmp 3),some 7,[]),
 (Op.slice 33 (.tmp 7) (some (Operand.const (Value.int IntKind.i64 16))) none none,some 8,[0]),
 (Op.fieldAddr 162 (.tmp 1) 0,some 9,[]),
 (Op.slice 160 (.tmp 9) none none none,some 10,[2]),
 (Op.call { callee:=Callee.builtin Builtin.copy,args:=#[.tmp 8,.tmp 10],argTypes:=#[33,33] },some 11,[1,3])]
theorem RSb_shape:RegShape RSb 7 12 shSb:=regShape (by kernel_rfl) (by kernel_rfl)
def VSb (b q:Nat) (i:Nat) (u:Value) (_:World):Prop:=match i with
 | 0=>u=.slice (some ⟨b,0,none⟩) 60 60
 | 1=>u=.slice (some ⟨b,16,none⟩) 44 44
 | 2=>u=.pointer (some ⟨q,0,none⟩)
 | 3=>u=.slice (some ⟨q,0,none⟩) 44 44
 | _=>True
def BSb (w0:World) (b:Nat) (l s:List Nat) (D:Nat→Bool) (w:World):Prop:=Brow w b (if D 4=true then spl l 16 s else l)∧Outside (fun k=>k=b) w0 w
theorem BSb_upd {D:Nat→Bool} (h:BSb w0 b l s D w) (i:Nat) (hi:i≠4):BSb w0 b l s (upd D i) w:=by
 refine ⟨?_,h.2⟩
 unfold upd
 rw [if_neg (fun e:4=i=>hi e.symm)]
 exact h.1
theorem shard_region {q:Nat} (h4:RSb=ops) (hB:Brow w b l) (hl:l.length=60) (hq:w.heap[q]?=some (.cells (bts s).toArray 162 (0,0))) (hs:s.length=44) (hx:∀ x∈s,x < 256) (h8:q≠b) (hp:a.tmps.size=13)
 (e3:a.eval (.tmp 3)=.slice (some ⟨b,0,none⟩) 60 60) (e1:a.eval (.tmp 1)=.pointer (some ⟨q,0,none⟩)) (hQ:∀ (w':World) (vs:List Value),vs.length=5→Brow w' b (spl l 16 s)→Outside (fun k=>k=b) w w'→Q .normal (Act.putFrom a 7 vs) w'):(Code.region 3 ops true).wp Tryz.prog Q a w:=by
 subst h4
 refine region_facts (by kernel_rfl) RSb_shape a w (by omega) (VSb b q) (BSb w b l s) ⟨hB,Outside.drew w⟩ ?_ ?_
 · intro i hi
   match i,hi with
   | 0,_=>exact fun o a' w' Dn hg ho h0 hk h2 h5 h1 hB hV=>op_val (run_op_move ho ((hk.slot 3 (by omega)).trans e3) w') h0 ⟨BSb_upd hB _ (by decide),rfl,kq⟩
   | 1,_=>
    intro o a' w' D hg ho h0 hk h2 h5 h1 hB hV
    have u0:a'.eval (.tmp 7)=.slice (some ⟨b,0,none⟩) 60 60:=hV 0 (h1 0 (by decide))
    exact op_val (v:=.slice (some ⟨b,16,none⟩) 44 44) (by simp only [execOp,show o.op=Op.slice 33 (.tmp 7) (some (Operand.const (Value.int IntKind.i64 16))) none none from ho,u0];go_simp) h0 ⟨BSb_upd hB 1 (by decide),rfl,kq⟩
   | 2,_=>
    intro o a' w' D hg ho h0 hk h2 h5 h1 hB hV
    have u0:a'.eval (.tmp 1)=.pointer (some ⟨q,0,none⟩):=(hk.slot 1 (by omega)).trans e1
    exact op_val (v:=.pointer (some ⟨q,0,none⟩)) (by simp only [execOp,show o.op=Op.fieldAddr 162 (.tmp 1) 0 from ho,u0];go_simp) h0 ⟨BSb_upd hB 2 (by decide),rfl,kq⟩
   | 3,_=>
    intro o a' w' D hg ho h0 hk h2 h5 h1 hB hV
    have u0:a'.eval (.tmp 9)=.pointer (some ⟨q,0,none⟩):=hV 2 (h1 2 (by decide))
    exact op_val (v:=.slice (some ⟨q,0,none⟩) 44 44) (by simp only [execOp,show o.op=Op.slice 160 (.tmp 9) none none none from ho,u0];go_simp) h0 ⟨BSb_upd hB 3 (by decide),rfl,kq⟩
   | 4,_=>
    intro o a' w' D hg ho h0 hk h2 h9 h1 hB hV
    have u0:a'.eval (.tmp 8)=.slice (some ⟨b,16,none⟩) 44 44:=hV 1 (h1 1 (by decide))
    have u1:a'.eval (.tmp 10)=.slice (some ⟨q,0,none⟩) 44 44:=hV 3 (h1 3 (by decide))
    have ha:Brow w' b l:=by have:=hB.1;rw [if_neg (by rw [h2];decide)] at this;exact this
    have hc:w'.heap[q]?=some (.cells (bts s).toArray 162 (0,0)):=(hB.2.block q (Array.getElem?_eq_some_iff.1 hq).1 (fun e=>h8 e)).trans hq
    have h6:Bs w' (.slice (some ⟨q,0,none⟩) s.length 44) s:=Bs.mid (by omega) (by omega) hx (fun j u hu=>by
     have:(bts s).toArray[j]?=some u:=by simpa using hu
     simp [World.cell?,hc,this])
    rw [hs] at h6
    obtain ⟨w2,he,hf,h3⟩:=row_copy (n:=44) (cap:=44) (off:=16) o.type ha h6 (by omega) (by omega)
    refine op_val (v:=.int .i64 (s.length:Nat)) (w':=w2) (by simp only [execOp,show o.op=Op.call { callee:=Callee.builtin Builtin.copy,args:=#[.tmp 8,.tmp 10],argTypes:=#[33,33] } from ho,resolve,invoke,builtin,Sem.run_bind,Sem.run_pure,Result.andThen_ok,List.map_toArray,List.map_cons,List.map_nil,u0,u1,he]) h0 ⟨⟨?_,hB.2.later (T:=fun k=>k=b) ⟨h3.os,h3.tape,h3.output,h3.size,fun k hk hh=>h3.block k hk (fun e=>hh (by cases e;rfl))⟩ (fun _ _ q=>q)⟩,trivial,fun j u hj q=>by
     match j,q with
     | 0,q | 1,q | 2,q | 3,q=>exact q
     | j+4,_=>trivial⟩
    show Brow _ b (if upd D 4 4=true then _ else _)
    rw [if_pos (by unfold upd;rw [if_pos rfl])]
    exact hf
   | n+5,hn=>exact absurd hn (by show ¬ n+5 < 5;omega)
 · rintro a' w' hm ⟨D,hD,h7⟩ hV
   have e:a'=Act.putFrom a 7 ((List.range 5).map fun i=>a'.eval (.tmp (7+i))):=hm.out _ (by rw [List.length_map,List.length_range]) (by omega) (fun i hi=>by
    rw [List.length_map,List.length_range] at hi
    rw [List.getD_eq_getElem?_getD,List.getElem?_map,List.getElem?_range hi];rfl)
   rw [e]
   have:=h7.1
   rw [if_pos (hD 4 (by decide))] at this
   exact hQ w' _ (by rw [List.length_map,List.length_range]) this h7.2
theorem list5 {vs:List Value} (h:vs.length=5):∃ x0 x1 x2 x3 x4,vs=[x0,x1,x2,x3,x4]:=by
 match vs,h with
 | [x0,x1,x2,x3,x4],_=>exact ⟨x0,x1,x2,x3,x4,rfl⟩
theorem shard_body (l:List Nat) (w:World) (hf:(Rec.shard l).ok) :
 Calls Tryz.prog 211 #[.agg (bts l).toArray] w fun e w'=>∃ v,e=.returned v∧Bs w' v (Rec.shard l).body∧Below w.heap.size w w':=by
 obtain ⟨hl,hx⟩:=hf
 have hq:=blk_alloc_new w (.cells (bts l).toArray 162)
 have h0:Below w.heap.size w (w.alloc (.cells (bts l).toArray 162)):=(Below.refl _ w).alloc (Nat.le_refl _) _
 have hz:(w.alloc (.cells (bts l).toArray 162)).heap.size=w.heap.size+1:=by simp
 have hg:(bts l).toArray.size=44:=by rw [List.size_toArray,bts_len,hl]
 obtain ⟨w1,h5⟩:∃ w1,w.alloc (.cells (bts l).toArray 162)=w1:=⟨_,rfl⟩
 rw [h5] at hq h0 hz
 obtain ⟨ra,h1⟩:∃ ra,(bts l).toArray=ra:=⟨_,rfl⟩
 have H:=hide5 hq h0 hz hx h1
 rw [h1] at h5 hg ⊢
 clear hq h0 hz hx h1
 go_enter Tryz.func211,Tryz.ntmps211
 go_wp2_with (at_make;refine wpList_mk _ rfl (.const (.int .i64 60)) (.const (.int .i64 60)) rfl _ 60 rfl rfl rfl (by omega) ?_;intro w2 hB h6 hh;have c0:=hB.cell 0 (by decide);have f0:=hB.frozen 0)
 have h7:Brow (w2.setCell ⟨w1.heap.size,0,none⟩ (.int .u8 3)) w1.heap.size ((List.replicate 60 0).set 0 3):=hB.set 0 3
 have hi:=H.out.2.2.1
 have h8:(w2.setCell ⟨w1.heap.size,0,none⟩ (.int .u8 3)).heap[w.heap.size]?=some (.cells (bts l).toArray 162 (0,0)):=(blk_setCell_other _ _ _ _ (by show w.heap.size≠w1.heap.size;omega)).trans ((h6.block _ (by omega)).trans H.out.1)
 have h2:Below w.heap.size w (w2.setCell ⟨w1.heap.size,0,none⟩ (.int .u8 3)):=(H.out.2.1.trans (h6.mono (by omega))).setCell (p:=⟨w1.heap.size,0,none⟩) (by show w.heap.size≤w1.heap.size;omega) _
 refine shard_region (by kernel_rfl) h7 (by simp) h8 hl H.out.2.2.2.1 (by omega) rfl rfl rfl ?_
 intro w4 vs h9 h3 ha
 obtain ⟨x0,x1,x2,x3,x4,rfl⟩:=list5 h9
 have hc:Below w.heap.size w w4:=h2.trans (ha.below fun k hk=>⟨by have:=h2.size;omega,fun e=>by omega⟩)
 have he:spl ((List.replicate 60 0).set 0 3) 16 l=(Rec.shard l).body:=by
  unfold spl Rec.body
  rw [hl]
  simp [List.replicate]
 rw [he] at h3
 have h4:=Bs.of_row (n:=60) h3 (by rw [← he,spl_len (by simp [hl])];simp) (by decide) (body_lt (r:=.shard l) ⟨hl,H.out.2.2.2.1⟩)
 rw [List.take_of_length_le (body_len (r:=.shard l) ⟨hl,H.out.2.2.2.1⟩),show (Rec.shard l).body.length=60 by rw [← he,spl_len (by simp [hl])];simp] at h4
 have H4:=hide2 h4 hc
 clear h4 hc h3 ha h2 h8 h7 h9
 rename_i hK
 refine hK _ _ ?_
 clear hK
 simp only [Act.putFrom,Act.put,List.setIfInBounds_toArray,List.set_cons_succ,List.set_cons_zero]
 go_wp2
 go_ret
 exact ⟨_,rfl,H4.out.1,H4.out.2⟩
theorem block_filled (w:World) (hv:hvLaid w) :
 Calls Tryz.prog 86 #[recV .filled] w fun e w'=>e=.returned (.agg (blkA Rec.filled.blk))∧Below w.heap.size w w':=by
 have hz:=zeroBlk
 have hn:(blkA zb).size=64:=by rw [blkA_size,zb_len]
 have h0:=Two.new w
 obtain ⟨w1,hp⟩:∃ w1,(w.alloc (.cells (blkA zb) 197)).alloc (.cells (blkA zb) 197)=w1:=⟨_,rfl⟩
 rw [hp] at h0
 have he:=body_len (r:=.filled) trivial
 have ha:=body_lt (r:=.filled) trivial
 have h8:Rec.filled.blk=sealed Rec.filled.body:=by unfold Rec.blk;rw [if_neg (by simp [Rec.body])]
 have h7:0 < Rec.filled.body.length:=by simp [Rec.body]
 have h1:=filled_body w1
 rw [h8]
 obtain ⟨body,h6⟩:∃ body,Rec.filled.body=body:=⟨_,rfl⟩
 rw [h6] at he ha h7 h1 ⊢
 have H0:=hide3 h0 ha hv
 unfold recV
 clear h0 ha hv h8 h6
 go_enter Tryz.func86,Tryz.ntmps86
 go_wp2_with fail
 refine h1.mono ?_
 clear h1
 rintro e w2 ⟨v,rfl,hS,hf⟩
 have h2:=H0.out.1.mono hf
 obtain ⟨ao,c,rfl,hq,hr,hs,hx⟩:=id hS
 have hy:(0:Int) < ((body.length:Nat):Int):=by omega
 have hg:body≠[]:=by intro e;rw [e] at h7;simp at h7
 have k0:=blk_copy (n:=60) (cap:=60) (off:=4) 3 h2.blk hS hg (by omega) (by rw [zb_len];omega)
 have h3:Two w (w2.setRow (w.heap.size+1) (blkA (spl zb 4 body))) w.heap.size (w.heap.size+1) (spl zb 4 body):=h2.set (Outside.setRow (S:=fun k=>k=w.heap.size+1) _ _ _ rfl) (h2.blk.setRow _)
 obtain ⟨w3,hh⟩:∃ w3,w2.setRow (w.heap.size+1) (blkA (spl zb 4 body))=w3:=⟨_,rfl⟩
 rw [hh] at k0 h3
 have k5:(spl zb 4 body).length=64:=by rw [spl_len (by rw [zb_len];omega),zb_len]
 have hG:=H0.out.2.2.lt
 have hv3:hvLaid w3:=H0.out.2.2.below h3.below hG
 have H3:=hide2 h3 hv3
 clear h2 hS hf hq hr hs hx hh h3 hv3 hg
 go_wp2_with fail
 refine block_region (by kernel_rfl) H3.out.1.blk k5 (spl_lt zb_lt H0.out.2.1) H3.out.2 (by omega) rfl rfl ?_
 intro w4 vs hi hj hm
 obtain ⟨x0,x1,x2,x3,x4,x5,rfl⟩:=list6 hi
 have h4:=H3.out.1.set hm hj
 rw [seal_eq he] at h4
 have h9:(sealed body).length=64:=by unfold sealed;simp [be_len];omega
 obtain ⟨sb,hc⟩:∃ sb,sealed body=sb:=⟨_,rfl⟩
 rw [hc] at h4 h9
 have k6:=hide hc
 have H4:=hide h4
 clear h4 hj hm hi hc
 rename_i hK
 refine hK _ _ ?_
 clear hK
 simp only [Act.putFrom,Act.put,List.setIfInBounds_toArray,List.set_cons_succ,List.set_cons_zero]
 go_wp2_with (first | (refine bl_load rfl (.tmp 3) rfl (w.heap.size+1) sb rfl H4.out.blk h9 ?_) | (refine bl_store rfl (.tmp 2) (.tmp 19) rfl w.heap.size sb zb rfl rfl H4.out.res zb_len h9 ?_))
 have h5:=H4.out.res.setRow sb
 refine bodyPost_ret (v:=.agg (blkA sb)) (results_cell_row Tryz.results86 _ _ w.heap.size 197 (blkA sb) (0,0) _ rfl h5 Tryz.underlying197 rfl (blkA_info h9)) rfl ?_
 exact ⟨by rw [k6.out],H4.out.below.trans ⟨rfl,rfl,rfl,by simp [World.setRow],fun k hk=>(grown_setRow' _ _ _).block k (by have:=H4.out.res.lt;omega) (fun e=>by cases e;omega)⟩⟩
theorem block_shard (l:List Nat) (w:World) (h9:(Rec.shard l).ok) (hv:hvLaid w) :
 Calls Tryz.prog 86 #[recV (.shard l)] w fun e w'=>e=.returned (.agg (blkA (Rec.shard l).blk))∧Below w.heap.size w w':=by
 have hz:=zeroBlk
 have hq:(blkA zb).size=64:=by rw [blkA_size,zb_len]
 have h0:=Two.new w
 obtain ⟨w1,hr⟩:∃ w1,(w.alloc (.cells (blkA zb) 197)).alloc (.cells (blkA zb) 197)=w1:=⟨_,rfl⟩
 rw [hr] at h0
 have hf:=body_len h9
 have hc:=body_lt h9
 have h8:(Rec.shard l).blk=sealed (Rec.shard l).body:=by unfold Rec.blk;rw [if_neg (by simp [Rec.body])]
 have h7:0 < (Rec.shard l).body.length:=by simp [Rec.body]
 have h1:=shard_body l w1 h9
 rw [h8]
 obtain ⟨body,h6⟩:∃ body,(Rec.shard l).body=body:=⟨_,rfl⟩
 rw [h6] at hf hc h7 h1 ⊢
 have H0:=hide3 h0 hc hv
 unfold recV
 obtain ⟨ra,hg⟩:∃ ra,(bts l).toArray=ra:=⟨_,rfl⟩
 simp only [hg] at h1 ⊢
 clear h0 hc hv h9 h8 hg h6
 go_enter Tryz.func86,Tryz.ntmps86
 go_wp2_with fail
 refine h1.mono ?_
 clear h1
 rintro e w2 ⟨v,rfl,hS,hh⟩
 have h2:=H0.out.1.mono hh
 obtain ⟨ao,c,rfl,hs,hx,hy,k0⟩:=id hS
 have k5:(0:Int) < ((body.length:Nat):Int):=by omega
 have hi:body≠[]:=by intro e;rw [e] at h7;simp at h7
 have k6:=blk_copy (n:=60) (cap:=60) (off:=4) 3 h2.blk hS hi (by omega) (by rw [zb_len];omega)
 have h3:Two w (w2.setRow (w.heap.size+1) (blkA (spl zb 4 body))) w.heap.size (w.heap.size+1) (spl zb 4 body):=h2.set (Outside.setRow (S:=fun k=>k=w.heap.size+1) _ _ _ rfl) (h2.blk.setRow _)
 obtain ⟨w3,hj⟩:∃ w3,w2.setRow (w.heap.size+1) (blkA (spl zb 4 body))=w3:=⟨_,rfl⟩
 rw [hj] at k6 h3
 have k7:(spl zb 4 body).length=64:=by rw [spl_len (by rw [zb_len];omega),zb_len]
 have hG:=H0.out.2.2.lt
 have hv3:hvLaid w3:=H0.out.2.2.below h3.below hG
 have H3:=hide2 h3 hv3
 clear h2 hS hh hs hx hy k0 hj h3 hv3 hi
 go_wp2_with fail
 refine block_region (by kernel_rfl) H3.out.1.blk k7 (spl_lt zb_lt H0.out.2.1) H3.out.2 (by omega) rfl rfl ?_
 intro w4 vs hm hn hp
 obtain ⟨x0,x1,x2,x3,x4,x5,rfl⟩:=list6 hm
 have h4:=H3.out.1.set hp hn
 rw [seal_eq hf] at h4
 have ha:(sealed body).length=64:=by unfold sealed;simp [be_len];omega
 obtain ⟨sb,he⟩:∃ sb,sealed body=sb:=⟨_,rfl⟩
 rw [he] at h4 ha
 have k8:=hide he
 have H4:=hide h4
 clear h4 hn hp hm he
 rename_i hK
 refine hK _ _ ?_
 clear hK
 simp only [Act.putFrom,Act.put,List.setIfInBounds_toArray,List.set_cons_succ,List.set_cons_zero]
 go_wp2_with (first | (refine bl_load rfl (.tmp 3) rfl (w.heap.size+1) sb rfl H4.out.blk ha ?_) | (refine bl_store rfl (.tmp 2) (.tmp 19) rfl w.heap.size sb zb rfl rfl H4.out.res zb_len ha ?_))
 have h5:=H4.out.res.setRow sb
 refine bodyPost_ret (v:=.agg (blkA sb)) (results_cell_row Tryz.results86 _ _ w.heap.size 197 (blkA sb) (0,0) _ rfl h5 Tryz.underlying197 rfl (blkA_info ha)) rfl ?_
 exact ⟨by rw [k8.out],H4.out.below.trans ⟨rfl,rfl,rfl,by simp [World.setRow],fun k hk=>(grown_setRow' _ _ _).block k (by have:=H4.out.res.lt;omega) (fun e=>by cases e;omega)⟩⟩
theorem makes_filled:Makes .filled:=fun w hv=>block_filled w hv
theorem makes_shard (h0:(Rec.shard l).ok):Makes (.shard l):=fun w hv=>block_shard l w h0 hv
theorem find_ok (h:ArrAt w p A F) (hf:A.fit) (d b:Nat) (hd:d < A.n) (hb:b < A.nb) (hw:A.wait≠0) (hl:A.lost d=false) :
 Calls Tryz.prog 113 #[.pointer (some ⟨p,0,none⟩),.int .i64 d,.int .i64 b] w fun e w'=>e=.returned (.tuple #[.pointer (some ⟨F.g,d*4,none⟩),.nilIface])∧w'=w:=by
 obtain ⟨c0,c1,_,_⟩:=h.p_cells
 obtain ⟨d0,d1,d2,d3⟩:=h.drvs d hd
 have hn:=hf.n
 have h0:=hf.nb
 have e1:¬ (d:Int) < 0:=by omega
 have e2:¬ (A.n:Int)≤(d:Int):=by omega
 have e2':(d:Int) < (A.n:Int):=by omega
 have e3:¬ (b:Int) < 0:=by omega
 have e4:¬ (A.nb:Int)≤(b:Int):=by omega
 go_enter Tryz.func113,Tryz.ntmps113
 go_wp2
 go_ret2
 exact ⟨rfl,rfl⟩
theorem read_ok (h:ArrAt w p A F) (hf:A.fit) (d b:Nat) (hd:d < A.n) (hb:b < A.nb) (hw:A.wait≠0) (hl:A.lost d=false) (h8:A.bad d b=false) :
 Calls Tryz.prog 88 #[.pointer (some ⟨p,0,none⟩),.int .i64 d,.int .i64 b] w fun e w'=>e=.returned (.tuple #[.agg (blkA (A.blk d b)),.nilIface]) ∧
  ArrAt w' p (A.setReads d (wrap64 (A.reads d+1))) F∧Outside (F.has p A.n) w w':=by
 have hz:=zeroBlk
 have h0:=hf.len d b
 have hn:=hf.n
 have hg:=hf.nb
 have h1:=h.alloc (.cells (blkA zb) 197)
 have h4:=BlkAt.new w zb
 have hh:=h.p_lt
 have hi:=h.g_lt
 have h5:Outside (F.has p A.n) w (w.alloc (.cells (blkA zb) 197)):=Outside.alloc w _
 obtain ⟨w1,h9⟩:∃ w1,w.alloc (.cells (blkA zb) 197)=w1:=⟨_,rfl⟩
 rw [h9] at h1 h4 h5
 have ha:(blkA zb).size=64:=by rw [blkA_size,zb_len]
 go_enter Tryz.func88,Tryz.ntmps88
 go_wp2_with fail
 refine (find_ok h1 hf d b hd hb hw hl).mono ?_
 rintro e w' ⟨rfl,rfl⟩
 have h2:=h1.setReads d (wrap64 (A.reads d+1))
 obtain ⟨d0,d1,d2,d3⟩:=h1.drvs d hd
 have hj:=h1.unfrozen (d*4+3)
 obtain ⟨w2,h3⟩:∃ w2,w'.setCell ⟨F.g,d*4+3,none⟩ (.int .i64 (wrap64 (A.reads d+1)))=w2:=⟨_,rfl⟩
 rw [h3] at h2
 obtain ⟨q0,q1,q2,q3⟩:=h2.drvs d hd
 have qb:w2.cell? ⟨F.bd d,b,none⟩=some (.bool (A.bad d b)):=h2.badC d b hd hb
 have qr:w2.rangeAt (F.bb d) (b*64) (bts (A.blk d b)):=h2.range (hf.setReads _ _) d b hd hb
 have h6:BlkAt w2 w.heap.size zb:=h4.keep (by rw [← h3];exact blk_setCell_other _ _ _ _ (by show w.heap.size≠F.g;omega))
 have h7:Outside (F.has p A.n) w w2:=h5.trans (by rw [← h3];exact Outside.setCell _ _ _ (.inr (.inl rfl)))
 have e3:¬ (b:Int) < 0:=by omega
 have e4:(b:Int) < (A.nb:Int):=by omega
 go_wp2_with (first | (refine bl_loadMid rfl (.tmp 46) rfl (F.bb d) (b*64) (A.blk d b) rfl qr h0 ?_) | (refine bl_store rfl (.tmp 6) (.tmp 47) rfl w.heap.size (A.blk d b) zb rfl rfl h6 zb_len h0 ?_))
 have hc:=h6.setRow (A.blk d b)
 have he:=blk_loadVar hc h0
 refine bodyPost_ret (v:=.tuple #[.agg (blkA (A.blk d b)),.nilIface]) (results_cell_slot Tryz.results88 _ _ _ _ _ rfl rfl he) rfl ?_
 refine ⟨rfl,h2.keep fun k hk=>?_,h7.later (T:=fun k=>k=w.heap.size) (Outside.setRow _ _ _ rfl) fun k hk e=>absurd e (by omega)⟩
 · have:=h.has_lt (k:=k) hk
   exact (grown_setRow' w2 w.heap.size (blkA (A.blk d b))).block k (Nat.lt_of_lt_of_le this h7.size) (fun e=>by cases e;omega)
noncomputable def RWr:Array Oper:=((Tryz.f85.body.bind (rgf · 9))).getD #[]
def shWr:List (Op×Option Nat×List Nat):=[(Op.move (.tmp 9),some 49,[]),
 (Op.nilCheck (.tmp 49),some 50,[0]),
 (Op.fieldAddr 68 (.tmp 50) 1,some 51,[1]),
 (Op.load 65 (.tmp 51),some 52,[2]),
 (Op.move (.tmp 2),some 53,[]),
 (Op.move (.tmp 9),some 54,[]),
 (Op.nilCheck (.tmp 54),some 55,[5]),
 (Op.fieldAddr 68 (.tmp 55) 2,some 56,[6]),
 (Op.load 66 (.tmp 56),some 57,[7]),
 (Op.move (.tmp 2),some 58,[]),
 (Op.load 197 (.tmp 7),some 59,[]),
 (Op.indexAddr 65 (.tmp 52) (.tmp 53),some 60,[3,4,0,1,2,3,4,8,10]),
 (Op.store 197 (.tmp 60) (.tmp 59),none,[11,10,0,1,2,3,4,8,10]),
 (Op.indexAddr 66 (.tmp 57) (.tmp 58),some 61,[8,9,0,1,2,3,4,5,6,7,8,9,10,11,12]),
 (Op.store 4 (.tmp 61) (Operand.const (Value.bool false)),none,[13,12,0,1,2,3,4,5,6,7,8,9,10,11,12])]
theorem RWr_shape:RegShape RWr 49 62 shWr:=regShape (by kernel_rfl) (by kernel_rfl)
def vsWr (F:Foot) (nb d b:Nat) (l:List Nat):List Value:=[.pointer (some ⟨F.g,d*4,none⟩),.pointer (some ⟨F.g,d*4,none⟩),.pointer (some ⟨F.g,d*4+1,none⟩),.slice (some ⟨F.bb d,0,none⟩) nb nb,.int .i64 b,
 .pointer (some ⟨F.g,d*4,none⟩),.pointer (some ⟨F.g,d*4,none⟩),.pointer (some ⟨F.g,d*4+2,none⟩),.slice (some ⟨F.bd d,0,none⟩) nb nb,.int .i64 b,.agg (blkA l),.pointer (some ⟨F.bb d,b*64,none⟩),undef,.pointer (some ⟨F.bd d,b,none⟩),undef]
def wsWr (F:Foot) (nb d b:Nat) (l:List Nat):List Value:=[.pointer (some ⟨F.g,d*4,none⟩),.pointer (some ⟨F.g,d*4,none⟩),.pointer (some ⟨F.g,d*4+1,none⟩),.slice (some ⟨F.bb d,0,none⟩) nb nb,.int .i64 b,.pointer (some ⟨F.g,d*4,none⟩),.pointer (some ⟨F.g,d*4,none⟩),.pointer (some ⟨F.g,d*4+2,none⟩),.slice (some ⟨F.bd d,0,none⟩) nb nb,.int .i64 b,.agg (blkA l),.pointer (some ⟨F.bb d,b*64,none⟩),.pointer (some ⟨F.bd d,b,none⟩)]
def arWr (A:Arr) (d b:Nat) (l:List Nat) (D:Nat→Bool):Arr:=if D 14=true then (A.setBlk d b l).setBad d b false else if D 12=true then A.setBlk d b l else A
theorem arWr_upd (A:Arr) (d b:Nat) (l:List Nat) (D:Nat→Bool) (i:Nat) (h1:i≠12) (h2:i≠14):arWr A d b l (upd D i)=arWr A d b l D:=by
 unfold arWr upd
 rw [if_neg (fun e:14=i=>h2 e.symm),if_neg (fun e:12=i=>h1 e.symm)]
theorem arWr_n (A:Arr) (d b:Nat) (l:List Nat) (D:Nat→Bool):(arWr A d b l D).n=A.n∧(arWr A d b l D).nb=A.nb:=by
 unfold arWr
 split
 · exact ⟨rfl,rfl⟩
 · split <;> exact ⟨rfl,rfl⟩
theorem write_region {box:Nat} (h9:RWr=ops) (h:ArrAt w p A F) (hf:A.fit) (hd:d < A.n) (hb:b < A.nb) (hl:l.length=64)
 (ha:BlkAt w box l) (he:¬ F.has p A.n box) (hh:a.tmps.size=62) (e9:a.eval (.tmp 9)=.pointer (some ⟨F.g,d*4,none⟩)) (e2:a.eval (.tmp 2)=.int .i64 b) (e7:a.eval (.tmp 7)=.pointer (some ⟨box,0,none⟩))
 (hQ:∀ w',ArrAt w' p ((A.setBlk d b l).setBad d b false) F→Outside (F.has p A.n) w w' →
  Q .normal (Act.putFrom a 49 (wsWr F A.nb d b l)) w') :
 (Code.region 9 ops true).wp Tryz.prog Q a w:=by
 subst h9
 have hj:=hf.nb
 have e3:¬ (b:Int) < 0:=by omega
 have e4:(b:Int) < (A.nb:Int):=by omega
 refine region_facts (by kernel_rfl) RWr_shape a w (by omega) (fun i v _=>v=(vsWr F A.nb d b l).getD i undef) (fun D w'=>ArrAt w' p (arWr A d b l D) F∧BlkAt w' box l∧Outside (F.has p A.n) w w') ⟨(h.keep fun _ _=>rfl:ArrAt w.drew p A F),ha,Outside.drew w⟩ ?_ ?_
 · intro i hi
   have h4:∀ (i:Nat),i≠12→i≠14→∀ (D:Nat→Bool) (w':World),(ArrAt w' p (arWr A d b l D) F∧BlkAt w' box l∧Outside (F.has p A.n) w w')→(ArrAt w' p (arWr A d b l (upd D i)) F∧BlkAt w' box l∧Outside (F.has p A.n) w w'):=fun i h1 h2 D w' q=>by rw [arWr_upd A d b l D i h1 h2];exact q
   match i,hi with
   | 0,_=>exact fun o a' w' D hg ho h3 hk h5 h6 h0 hB hV=>op_val (run_op_move ho ((hk.slot 9 (by omega)).trans e9) w') h3 ⟨h4 0 (by decide) (by decide) D w' hB,rfl,kq⟩
   | 1,_=>
    intro o a' w' D hg ho h3 hk h5 h6 h0 hB hV
    have v0:a'.eval (.tmp 49)=.pointer (some ⟨F.g,d*4,none⟩):=hV 0 (h0 0 (by decide))
    exact op_val (v:=.pointer (some ⟨F.g,d*4,none⟩)) (by simp only [execOp,show o.op=Op.nilCheck (.tmp 49) from ho,v0];go_simp) h3 ⟨h4 1 (by decide) (by decide) D w' hB,rfl,kq⟩
   | 2,_=>
    intro o a' w' D hg ho h3 hk h5 h6 h0 hB hV
    have v0:a'.eval (.tmp 50)=.pointer (some ⟨F.g,d*4,none⟩):=hV 1 (h0 1 (by decide))
    exact op_val (v:=.pointer (some ⟨F.g,d*4+1,none⟩)) (by simp only [execOp,show o.op=Op.fieldAddr 68 (.tmp 50) 1 from ho,v0];go_simp) h3 ⟨h4 2 (by decide) (by decide) D w' hB,rfl,kq⟩
   | 3,_=>
    intro o a' w' D hg ho h3 hk h5 h6 h0 hB hV
    have v0:a'.eval (.tmp 51)=.pointer (some ⟨F.g,d*4+1,none⟩):=hV 2 (h0 2 (by decide))
    have c:=(hB.1.drvs d (by rw [(arWr_n A d b l D).1];exact hd)).2.1
    rw [(arWr_n A d b l D).2] at c
    exact op_val (v:=.slice (some ⟨F.bb d,0,none⟩) A.nb A.nb) (by simp only [execOp,show o.op=Op.load 65 (.tmp 51) from ho,v0];go_simp) h3 ⟨h4 3 (by decide) (by decide) D w' hB,rfl,kq⟩
   | 4,_=>exact fun o a' w' D hg ho h3 hk h5 h6 h0 hB hV=>op_val (run_op_move ho ((hk.slot 2 (by omega)).trans e2) w') h3 ⟨h4 4 (by decide) (by decide) D w' hB,rfl,kq⟩
   | 5,_=>exact fun o a' w' D hg ho h3 hk h5 h6 h0 hB hV=>op_val (run_op_move ho ((hk.slot 9 (by omega)).trans e9) w') h3 ⟨h4 5 (by decide) (by decide) D w' hB,rfl,kq⟩
   | 6,_=>
    intro o a' w' D hg ho h3 hk h5 h6 h0 hB hV
    have v0:a'.eval (.tmp 54)=.pointer (some ⟨F.g,d*4,none⟩):=hV 5 (h0 5 (by decide))
    exact op_val (v:=.pointer (some ⟨F.g,d*4,none⟩)) (by simp only [execOp,show o.op=Op.nilCheck (.tmp 54) from ho,v0];go_simp) h3 ⟨h4 6 (by decide) (by decide) D w' hB,rfl,kq⟩
   | 7,_=>
    intro o a' w' D hg ho h3 hk h5 h6 h0 hB hV
    have v0:a'.eval (.tmp 55)=.pointer (some ⟨F.g,d*4,none⟩):=hV 6 (h0 6 (by decide))
    exact op_val (v:=.pointer (some ⟨F.g,d*4+2,none⟩)) (by simp only [execOp,show o.op=Op.fieldAddr 68 (.tmp 55) 2 from ho,v0];go_simp) h3 ⟨h4 7 (by decide) (by decide) D w' hB,rfl,kq⟩
   | 8,_=>
    intro o a' w' D hg ho h3 hk h5 h6 h0 hB hV
    have v0:a'.eval (.tmp 56)=.pointer (some ⟨F.g,d*4+2,none⟩):=hV 7 (h0 7 (by decide))
    have c:=(hB.1.drvs d (by rw [(arWr_n A d b l D).1];exact hd)).2.2.1
    rw [(arWr_n A d b l D).2] at c
    exact op_val (v:=.slice (some ⟨F.bd d,0,none⟩) A.nb A.nb) (by simp only [execOp,show o.op=Op.load 66 (.tmp 56) from ho,v0];go_simp) h3 ⟨h4 8 (by decide) (by decide) D w' hB,rfl,kq⟩
   | 9,_=>exact fun o a' w' D hg ho h3 hk h5 h6 h0 hB hV=>op_val (run_op_move ho ((hk.slot 2 (by omega)).trans e2) w') h3 ⟨h4 9 (by decide) (by decide) D w' hB,rfl,kq⟩
   | 10,_=>
    intro o a' w' D hg ho h3 hk h5 h6 h0 hB hV
    have v0:a'.eval (.tmp 7)=.pointer (some ⟨box,0,none⟩):=(hk.slot 7 (by omega)).trans e7
    exact op_val (v:=.agg (blkA l)) (by simp [execOp,show o.op=Op.load 197 (.tmp 7) from ho,v0,blk_loadAt hB.2.1 hl]) h3 ⟨h4 10 (by decide) (by decide) D w' hB,rfl,kq⟩
   | 11,_=>
    intro o a' w' D hg ho h3 hk h5 h6 h0 hB hV
    have v0:a'.eval (.tmp 52)=.slice (some ⟨F.bb d,0,none⟩) A.nb A.nb:=hV 3 (h0 3 (by decide))
    have v1:a'.eval (.tmp 53)=.int .i64 b:=hV 4 (h0 4 (by decide))
    exact op_val (v:=.pointer (some ⟨F.bb d,b*64,none⟩)) (by simp only [execOp,show o.op=Op.indexAddr 65 (.tmp 52) (.tmp 53) from ho,v0,v1];go_simp) h3 ⟨h4 11 (by decide) (by decide) D w' hB,rfl,kq⟩
   | 12,_=>
    intro o a' w' D hg ho h3 hk h5 h6 h0 hB hV
    have v0:a'.eval (.tmp 60)=.pointer (some ⟨F.bb d,b*64,none⟩):=hV 11 (h0 11 (by decide))
    have v1:a'.eval (.tmp 59)=.agg (blkA l):=hV 10 (h0 10 (by decide))
    have h7:D 14=false:=by
     cases q:D 14 with
     | false=>rfl
     | true=>have:=(h6 14 q).2 12 (by decide);rw [h5] at this;cases this
    have hA:arWr A d b l D=A:=by unfold arWr;rw [if_neg (by rw [h7];decide),if_neg (by rw [h5];decide)]
    have h8:arWr A d b l (upd D 12)=A.setBlk d b l:=by unfold arWr upd;rw [if_neg (by rw [if_neg (by decide),h7];decide),if_pos (by rw [if_pos rfl])]
    rw [hA] at hB
    refine op_skip (w':=w'.setCells (F.bb d) (b*64) (bts l)) ?_ ⟨?_,rfl,kq⟩
    · have:=run_storeAt_mid (P:=Tryz.prog) w' (F.bb d) (b*64) 197 (blkA l) (by rw [blkA_size,hl];exact hB.1.there d b hd hb) (blkA_info hl) (blkA_one l)
      rw [blkA_list] at this
      simp [execOp,show o.op=Op.store 197 (.tmp 60) (.tmp 59) from ho,v0,v1,this]
    · show ArrAt _ p (arWr A d b l (upd D 12)) F∧_∧_
      rw [h8]
      refine ⟨hB.1.setBlk d b hd l hl,hB.2.1.keep (heap_setCells_other _ _ _ _ _ (fun e=>he (.inr (.inr ⟨d,hd,.inl e⟩)))),hB.2.2.trans (Outside.setCells _ _ _ _ (.inr (.inr ⟨d,hd,.inl rfl⟩)))⟩
   | 13,_=>
    intro o a' w' D hg ho h3 hk h5 h6 h0 hB hV
    have v0:a'.eval (.tmp 57)=.slice (some ⟨F.bd d,0,none⟩) A.nb A.nb:=hV 8 (h0 8 (by decide))
    have v1:a'.eval (.tmp 58)=.int .i64 b:=hV 9 (h0 9 (by decide))
    exact op_val (v:=.pointer (some ⟨F.bd d,b,none⟩)) (by simp only [execOp,show o.op=Op.indexAddr 66 (.tmp 57) (.tmp 58) from ho,v0,v1];go_simp) h3 ⟨h4 13 (by decide) (by decide) D w' hB,rfl,kq⟩
   | 14,_=>
    intro o a' w' D hg ho h3 hk h5 h6 h0 hB hV
    have v0:a'.eval (.tmp 61)=.pointer (some ⟨F.bd d,b,none⟩):=hV 13 (h0 13 (by decide))
    have hc:D 12=true:=h0 12 (by decide)
    have hA:arWr A d b l D=A.setBlk d b l:=by unfold arWr;rw [if_neg (by rw [h5];decide),if_pos hc]
    have h8:arWr A d b l (upd D 14)=(A.setBlk d b l).setBad d b false:=by unfold arWr upd;rw [if_pos (by rw [if_pos rfl])]
    rw [hA] at hB
    have c:=hB.1.badC d b hd hb
    have fz:=(hB.1.bad d hd).frozen b
    refine op_skip (w':=w'.setCell ⟨F.bd d,b,none⟩ (.bool false)) ?_ ⟨?_,rfl,kq⟩
    · simp only [execOp,show o.op=Op.store 4 (.tmp 61) (.const (.bool false)) from ho,v0];go_simp
    · show ArrAt _ p (arWr A d b l (upd D 14)) F∧_∧_
      rw [h8]
      exact ⟨hB.1.setBad d b hd false,hB.2.1.keep (blk_setCell_other _ _ _ _ (fun e=>he (.inr (.inr ⟨d,hd,.inr e⟩)))),hB.2.2.trans (Outside.setCell _ _ _ (.inr (.inr ⟨d,hd,.inr rfl⟩)))⟩
   | n+15,hn=>exact absurd hn (by show ¬ n+15 < 15;omega)
 · rintro a' w' hk ⟨D,hD,hA,_,hO⟩ hV
   have h8:arWr A d b l D=(A.setBlk d b l).setBad d b false:=by unfold arWr;rw [if_pos (hD 14 (by decide))]
   rw [h8] at hA
   have hv:∀ i:Nat,i < 13→a'.eval (.tmp (49+i))=(wsWr F A.nb d b l).getD i undef:=by
    intro i hi
    match i,hi with
    | 0,_=>exact hV 0 (by decide)
    | 1,_=>exact hV 1 (by decide)
    | 2,_=>exact hV 2 (by decide)
    | 3,_=>exact hV 3 (by decide)
    | 4,_=>exact hV 4 (by decide)
    | 5,_=>exact hV 5 (by decide)
    | 6,_=>exact hV 6 (by decide)
    | 7,_=>exact hV 7 (by decide)
    | 8,_=>exact hV 8 (by decide)
    | 9,_=>exact hV 9 (by decide)
    | 10,_=>exact hV 10 (by decide)
    | 11,_=>exact hV 11 (by decide)
    | 12,_=>exact hV 13 (by decide)
    | n+13,hn=>exact absurd hn (by show ¬ n+13 < 13;omega)
   rw [hk.out (wsWr F A.nb d b l) rfl (by omega) hv]
   exact hQ w' hA hO
theorem write_ok (h:ArrAt w p A F) (hf:A.fit) (d b:Nat) (hd:d < A.n) (hb:b < A.nb) (hw:A.wait < 0) (hl:A.lost d=false) (l:List Nat) (h0:l.length=64) :
 Calls Tryz.prog 85 #[.pointer (some ⟨p,0,none⟩),.int .i64 d,.int .i64 b,.agg (blkA l)] w fun e w'=>e=.returned .nilIface ∧
  ArrAt w' p ((A.setBlk d b l).setBad d b false) F∧Outside (F.has p A.n) w w':=by
 have h1:=h.alloc (.cells (blkA l) 197)
 have h2:=BlkAt.new w l
 have h3:Outside (F.has p A.n) w (w.alloc (.cells (blkA l) 197)):=Outside.alloc w _
 have h4:¬ F.has p A.n w.heap.size:=fun q=>by have:=h.has_lt q;omega
 obtain ⟨w1,h5⟩:∃ w1,w.alloc (.cells (blkA l) 197)=w1:=⟨_,rfl⟩
 rw [h5] at h1 h2 h3
 have h6:(blkA l).size=64:=by rw [blkA_size,h0]
 obtain ⟨c0,c1,_,_⟩:=h1.p_cells
 have h7:¬ 0 < A.wait:=by omega
 go_enter Tryz.func85,Tryz.ntmps85
 go_wp2_with fail
 refine (find_ok h1 hf d b hd hb (by omega) hl).mono ?_
 rintro e w' ⟨rfl,rfl⟩
 go_wp2_with fail
 refine write_region (by kernel_rfl) h1 hf hd hb h0 h2 h4 rfl rfl rfl rfl ?_
 intro w3 hA hO
 rename_i hK
 refine hK _ _ ?_
 simp only [Act.putFrom,wsWr]
 go_wp2
 go_ret
 exact ⟨rfl,hA,h3.trans hO⟩
def VolAt (w:World) (v p D L G ps ho:Nat):Prop:=w.heap[v]?=some (.cells #[.pointer (some ⟨p,0,none⟩),.int .i64 D,.int .i64 L,.int .i64 G,.pointer (some ⟨ps,0,none⟩),.int .u64 ho] 108 (0,0))
theorem VolAt.keep (h:VolAt w v p D L G ps ho) (e:w'.heap[v]?=w.heap[v]?):VolAt w' v p D L G ps ho:=e.trans h
theorem VolAt.lt (h:VolAt w v p D L G ps ho):v < w.heap.size:=(Array.getElem?_eq_some_iff.1 h).1
theorem VolAt.cells (h:VolAt w v p D L G ps ho):w.cell? ⟨v,0,none⟩=some (.pointer (some ⟨p,0,none⟩))∧w.cell? ⟨v,1,none⟩=some (.int .i64 D)∧w.cell? ⟨v,2,none⟩=some (.int .i64 L)∧w.cell? ⟨v,3,none⟩=some (.int .i64 G)∧w.cell? ⟨v,4,none⟩=some (.pointer (some ⟨ps,0,none⟩))∧w.cell? ⟨v,5,none⟩=some (.int .u64 ho):=by
 have h':w.heap[v]?=some (.cells #[.pointer (some ⟨p,0,none⟩),.int .i64 D,.int .i64 L,.int .i64 G,.pointer (some ⟨ps,0,none⟩),.int .u64 ho] 108 (0,0)):=h
 simp [World.cell?,h']
theorem hvLaid.outside {S:Nat→Prop} (h:hvLaid w) (hO:Outside S w w') (hS:¬ S 2):hvLaid w':=fun j hj=>by
 have:=h j hj
 rw [← this]
 exact World.cell?_of_block (hO.block _ (block_lt_of_cell this) hS)
theorem is_nil (n:Int) (w:World):Calls Tryz.prog 32 #[.nilIface,.iface 37 (.int .i64 n)] w fun e w'=>e=.returned (.bool false)∧w'=w:=by
 have h0:∀ d w,(Op.equalIn (d+1) 29 .nilIface (.iface 37 (.int .i64 n))).run Tryz.prog w=.ok false w:=fun d w=>by
  simp only [Op.equalIn,Sem.run_bind,run_underlying Tryz.underlying29,Result.andThen_ok]
  rfl
 have he:∀ w,(Op.equalIn 10000 29 .nilIface (.iface 37 (.int .i64 n))).run Tryz.prog w=.ok false w:=fun w=>h0 9999 w
 have hn:∀ w,(binOp .eql 29 .nilIface (.iface 37 (.int .i64 n))).run Tryz.prog w=.ok (.bool false) w:=fun w=>by
  simp only [binOp]
  simp [Op.equal,Op.maxDepth,he]
 clear h0 he
 go_enter Tryz.func32,Tryz.ntmps32
 go_wp2
 go_ret
 exact ⟨rfl,rfl⟩
theorem stop_nil (w:World):Calls Tryz.prog 87 #[.nilIface] w fun e w'=>e=.returned (.tuple #[])∧w'=w:=by
 go_enter Tryz.func87,Tryz.ntmps87
 go_wp2_with fail
 refine (is_nil 13 w).mono ?_
 rintro e w' ⟨rfl,rfl⟩
 go_wp2
 first | go_end0 | skip
 exact ⟨rfl,rfl⟩
theorem volRead_ok (hV:VolAt w v p D L G ps ho) (h:ArrAt w p A F) (hf:A.fit) (d b:Nat) (hd:d < A.n) (hb:b < A.nb) (hw:A.wait≠0) (hl:A.lost d=false) (h2:A.bad d b=false)
 (r:Rec) (hr:r.ok) (hm:Makes r) (he:A.blk d b=r.blk) (hv:hvLaid w) (hg:¬ F.has p A.n 2) :
 Calls Tryz.prog 71 #[.pointer (some ⟨v,0,none⟩),.int .i64 d,.int .i64 b] w fun e w'=>e=.returned (.tuple #[recV r,.nilIface])∧ArrAt w' p (A.setReads d (wrap64 (A.reads d+1))) F∧Outside (F.has p A.n) w w':=by
 obtain ⟨c0,_⟩:=hV.cells
 have hz:=zeroBlk
 have hq:(blkA zb).size=64:=by rw [blkA_size,zb_len]
 have hc:=read_ok h hf d b hd hb hw hl h2
 rw [he] at hc
 obtain ⟨l,h3⟩:∃ l,r.blk=l:=⟨_,rfl⟩
 have h0:=blk_len hr
 rw [h3] at hc h0
 have HL:=hide h3
 clear h3 he
 go_enter Tryz.func71,Tryz.ntmps71
 go_wp2_with fail
 refine hc.mono ?_
 rintro e w1 ⟨rfl,h4,h5⟩
 have h9:=BlkAt.new w1 zb
 have hs:(blkA l).size=64:=by rw [blkA_size,h0]
 have ha:=h4.alloc (.cells (blkA zb) 197)
 have hh:Outside (F.has p A.n) w (w1.alloc (.cells (blkA zb) 197)):=h5.trans (Outside.alloc _ _)
 have hi:∀ k,F.has p A.n k→k≠w1.heap.size:=fun k hk e=>by have:=h4.has_lt (k:=k) hk;omega
 have H1:=hide4 h9 ha hh hi
 have hy:=h5.size
 clear hc h4 h5 h9 ha hh hi c0
 go_wp2_with (first | (refine bl_store rfl (.tmp 8) (.tmp 20) rfl w1.heap.size l zb rfl rfl H1.out.1 zb_len h0 ?_) | (refine bl_load rfl (.tmp 8) rfl w1.heap.size l rfl (H1.out.1.setRow l) h0 ?_))
 have hx:=H1.out.1.setRow l
 have h6:ArrAt ((w1.alloc (.cells (blkA zb) 197)).setRow w1.heap.size (blkA l)) p (A.setReads d (wrap64 (A.reads d+1))) F:=H1.out.2.1.keep fun k hk=>(grown_setRow' _ _ _).block k (H1.out.2.1.has_lt hk) (fun e=>H1.out.2.2.2 k hk (by cases e;rfl))
 have h1:Outside (F.has p A.n) w ((w1.alloc (.cells (blkA zb) 197)).setRow w1.heap.size (blkA l)):=H1.out.2.2.1.later (T:=fun k=>k=w1.heap.size) (Outside.setRow _ _ _ rfl) (fun k hk e=>absurd e (by omega))
 obtain ⟨w3,hj⟩:∃ w3,(w1.alloc (.cells (blkA zb) 197)).setRow w1.heap.size (blkA l)=w3:=⟨_,rfl⟩
 rw [hj] at h6 h1 ⊢
 have ho:=of_ok r w3 hm hr (hv.outside h1 hg)
 rw [HL.out] at ho
 refine ho.mono ?_
 rintro e w4 ⟨rfl,h7⟩
 have hn:=h6.below h7 (Nat.le_refl _)
 have hp:Outside (F.has p A.n) w w4:=h1.trans (Outside.of_all h7 _)
 have H4:=hide2 hn hp
 clear ho h7 hn hp h6 h1 hx hj H1
 obtain ⟨rv,h8⟩:∃ rv,recV r=rv:=⟨_,rfl⟩
 have HR:=hide h8
 simp only [h8]
 clear h8
 go_wp2
 go_ret2
 exact ⟨by rw [HR.out];rfl,H4.out.1,H4.out.2⟩
noncomputable def RVw:Array Oper:=((Tryz.f67.body.bind (rgf · 1))).getD #[]
def shVw:List (Op×Option Nat×List Nat):=[(Op.move (.tmp 0),some 10,[]),
 (Op.nilCheck (.tmp 10),some 11,[0]),
 (Op.fieldAddr 108 (.tmp 11) 0,some 12,[1]),
 (Op.load 30 (.tmp 12),some 13,[2]),
 (Op.move (.tmp 1),some 14,[]),
 (Op.move (.tmp 2),some 15,[]),
 (Op.move (.tmp 3),some 16,[]),
 (Op.call { callee:=Callee.value (Operand.func 86),args:=#[.tmp 16],argTypes:=#[164] },some 17,[6]),
 (Op.call { callee:=Callee.value (Operand.func 85),args:=#[.tmp 13,.tmp 14,.tmp 15,.tmp 17],argTypes:=#[30,3,3,197] },some 18,[3,4,5,7,7]),
 (Op.assign (.tmp 18),some 9,[8,8,0,1,2,3,4,5,6,7,8])]
theorem RVw_shape:RegShape RVw 9 19 shVw:=regShape (by kernel_rfl) (by kernel_rfl)
def vsVw (v p d b:Nat) (r:Rec):List Value:=[.pointer (some ⟨v,0,none⟩),.pointer (some ⟨v,0,none⟩),.pointer (some ⟨v,0,none⟩),.pointer (some ⟨p,0,none⟩),.int .i64 d,.int .i64 b,recV r,.agg (blkA r.blk),.nilIface,.nilIface]
def arVw (A:Arr) (d b:Nat) (r:Rec) (D:Nat→Bool):Arr:=if D 8=true then (A.setBlk d b r.blk).setBad d b false else A
def BVw (w0:World) (v p D L G ps ho:Nat) (A:Arr) (F:Foot) (d b:Nat) (r:Rec) (Dn:Nat→Bool) (w:World):Prop:=ArrAt w p (arVw A d b r Dn) F∧VolAt w v p D L G ps ho∧Outside (F.has p A.n) w0 w
theorem BVw_upd {r:Rec} {Dn:Nat→Bool} (h:BVw w0 v p D L G ps ho A F d b r Dn w) (i:Nat) (hi:i≠8) (hb:Below w.heap.size w w'):BVw w0 v p D L G ps ho A F d b r (upd Dn i) w':=by
 refine ⟨?_,h.2.1.keep (hb.block _ h.2.1.lt),h.2.2.trans (Outside.of_all hb _)⟩
 have e:arVw A d b r (upd Dn i)=arVw A d b r Dn:=by unfold arVw upd;rw [if_neg (fun e:8=i=>hi e.symm)]
 rw [e];exact h.1.below hb (Nat.le_refl _)
theorem volWrite_region (h4:RVw=ops) (hV:VolAt w v p D L G ps ho) (h:ArrAt w p A F) (hf:A.fit) (d b:Nat) (hd:d < A.n) (hb:b < A.nb) (hw:A.wait < 0) (hl:A.lost d=false)
 (r:Rec) (hr:r.ok) (hm:Makes r) (hv:hvLaid w) (hg:¬ F.has p A.n 2) (h6:¬ F.has p A.n v) (hc:a.tmps.size=22) (e0:a.eval (.tmp 0)=.pointer (some ⟨v,0,none⟩)) (e1:a.eval (.tmp 1)=.int .i64 d) (e2:a.eval (.tmp 2)=.int .i64 b) (e3:a.eval (.tmp 3)=recV r)
 (hQ:∀ w',ArrAt w' p ((A.setBlk d b r.blk).setBad d b false) F→Outside (F.has p A.n) w w'→Q .normal (Act.putFrom a 9 [.nilIface,.pointer (some ⟨v,0,none⟩),.pointer (some ⟨v,0,none⟩),.pointer (some ⟨v,0,none⟩),.pointer (some ⟨p,0,none⟩),.int .i64 d,.int .i64 b,recV r,.agg (blkA r.blk),.nilIface]) w') :
 (Code.region 1 ops true).wp Tryz.prog Q a w:=by
 subst h4
 refine region_facts (by kernel_rfl) RVw_shape a w (by omega) (fun i u _=>u=(vsVw v p d b r).getD i undef) (BVw w v p D L G ps ho A F d b r) ⟨h.keep fun _ _=>rfl,hV,Outside.drew w⟩ ?_ ?_
 · intro i hi
   match i,hi with
   | 0,_=>exact fun o a' w' Dn hg ho h0 hk h2 h3 h1 hB hV=>op_val (run_op_move ho ((hk.slot 0 (by omega)).trans e0) w') h0 ⟨BVw_upd hB _ (by decide) (Below.refl _ _),rfl,kq⟩
   | 1,_=>
    intro o a' w' Dn hg ho h0 hk h2 h3 h1 hB hV
    have u0:a'.eval (.tmp 10)=.pointer (some ⟨v,0,none⟩):=hV 0 (h1 0 (by decide))
    exact op_val (run_op_nil ho u0 w') h0 ⟨BVw_upd hB _ (by decide) (Below.refl _ _),rfl,kq⟩
   | 2,_=>
    intro o a' w' Dn hg ho h0 hk h2 h3 h1 hB hV
    have u0:a'.eval (.tmp 11)=.pointer (some ⟨v,0,none⟩):=hV 1 (h1 1 (by decide))
    exact op_val (v:=.pointer (some ⟨v,0,none⟩)) (by simp only [execOp,show o.op=Op.fieldAddr 108 (.tmp 11) 0 from ho,u0];go_simp) h0 ⟨BVw_upd hB _ (by decide) (Below.refl _ _),rfl,kq⟩
   | 3,_=>
    intro o a' w' Dn hg ho h0 hk h2 h3 h1 hB hV
    have u0:a'.eval (.tmp 12)=.pointer (some ⟨v,0,none⟩):=hV 2 (h1 2 (by decide))
    have c:=hB.2.1.cells.1
    exact op_val (v:=.pointer (some ⟨p,0,none⟩)) (by simp only [execOp,show o.op=Op.load 30 (.tmp 12) from ho,u0];go_simp) h0 ⟨BVw_upd hB _ (by decide) (Below.refl _ _),rfl,kq⟩
   | 4,_=>exact fun o a' w' Dn hg ho h0 hk h2 h3 h1 hB hV=>op_val (run_op_move ho ((hk.slot 1 (by omega)).trans e1) w') h0 ⟨BVw_upd hB _ (by decide) (Below.refl _ _),rfl,kq⟩
   | 5,_=>exact fun o a' w' Dn hg ho h0 hk h2 h3 h1 hB hV=>op_val (run_op_move ho ((hk.slot 2 (by omega)).trans e2) w') h0 ⟨BVw_upd hB _ (by decide) (Below.refl _ _),rfl,kq⟩
   | 6,_=>exact fun o a' w' Dn hg ho h0 hk h2 h3 h1 hB hV=>op_val (run_op_move ho ((hk.slot 3 (by omega)).trans e3) w') h0 ⟨BVw_upd hB _ (by decide) (Below.refl _ _),rfl,kq⟩
   | 7,_=>
    intro o a' w' Dn h7 ho h0 hk h2 h3 h1 hB hV
    have u0:a'.eval (.tmp 16)=recV r:=hV 6 (h1 6 (by decide))
    refine op_call (f:=86) (args:=#[recV r]) (w1:=w') (by simp only [execOp,show o.op=Op.call { callee:=Callee.value (Operand.func 86),args:=#[.tmp 16],argTypes:=#[164] } from ho];go_simp;simpa [Act.eval] using u0) h0 (hm w' (hv.outside hB.2.2 hg)) ?_
    rintro e w'' ⟨rfl,hb⟩
    exact ⟨_,rfl,BVw_upd hB 7 (by decide) hb,rfl,kq⟩
   | 8,_=>
    intro o a' w' Dn h7 ho h0 hk h2 h3 h1 hB hV
    have u0:a'.eval (.tmp 13)=.pointer (some ⟨p,0,none⟩):=hV 3 (h1 3 (by decide))
    have u1:a'.eval (.tmp 14)=.int .i64 d:=hV 4 (h1 4 (by decide))
    have u2:a'.eval (.tmp 15)=.int .i64 b:=hV 5 (h1 5 (by decide))
    have u3:a'.eval (.tmp 17)=.agg (blkA r.blk):=hV 7 (h1 7 (by decide))
    have hA:ArrAt w' p A F:=by have:=hB.1;unfold arVw at this;rw [if_neg (by rw [h2];decide)] at this;exact this
    refine op_call (f:=85) (args:=#[.pointer (some ⟨p,0,none⟩),.int .i64 d,.int .i64 b,.agg (blkA r.blk)]) (w1:=w') (by simp only [execOp,show o.op=Op.call { callee:=Callee.value (Operand.func 85),args:=#[.tmp 13,.tmp 14,.tmp 15,.tmp 17],argTypes:=#[30,3,3,197] } from ho];go_simp;exact ⟨by simpa [Act.eval] using u0,by simpa [Act.eval] using u1,by simpa [Act.eval] using u2,by simpa [Act.eval] using u3⟩) h0 (write_ok hA hf d b hd hb hw hl r.blk (blk_len hr)) ?_
    rintro e w'' ⟨rfl,h8,h5⟩
    refine ⟨_,rfl,⟨?_,hB.2.1.keep (h5.block _ hB.2.1.lt h6),hB.2.2.trans h5⟩,rfl,kq⟩
    have e:arVw A d b r (upd Dn 8)=(A.setBlk d b r.blk).setBad d b false:=by unfold arVw upd;rw [if_pos (by rw [if_pos rfl])]
    rw [e];exact h8
   | 9,_=>
    intro o a' w' Dn hg ho h0 hk h2 h3 h1 hB hV
    have u0:a'.eval (.tmp 18)=.nilIface:=hV 8 (h1 8 (by decide))
    exact op_val (v:=.nilIface) (by simp [execOp,show o.op=Op.assign (.tmp 18) from ho,u0]) h0 ⟨BVw_upd hB _ (by decide) (Below.refl _ _),rfl,kq⟩
   | n+10,hn=>exact absurd hn (by show ¬ n+10 < 10;omega)
 · rintro a' w' h9 ⟨Dn,hD,hB⟩ hV
   have e:arVw A d b r Dn=(A.setBlk d b r.blk).setBad d b false:=by unfold arVw;rw [if_pos (hD 8 (by decide))]
   have hA:=hB.1
   rw [e] at hA
   have ha:∀ i:Nat,i < 10→a'.eval (.tmp (9+i))=[.nilIface,.pointer (some ⟨v,0,none⟩),.pointer (some ⟨v,0,none⟩),.pointer (some ⟨v,0,none⟩),.pointer (some ⟨p,0,none⟩),.int .i64 d,.int .i64 b,recV r,.agg (blkA r.blk),.nilIface].getD i undef:=by
    intro i hi
    match i,hi with
    | 0,_=>exact hV 9 (by decide)
    | 1,_=>exact hV 0 (by decide)
    | 2,_=>exact hV 1 (by decide)
    | 3,_=>exact hV 2 (by decide)
    | 4,_=>exact hV 3 (by decide)
    | 5,_=>exact hV 4 (by decide)
    | 6,_=>exact hV 5 (by decide)
    | 7,_=>exact hV 6 (by decide)
    | 8,_=>exact hV 7 (by decide)
    | 9,_=>exact hV 8 (by decide)
    | n+10,hn=>exact absurd hn (by show ¬ n+10 < 10;omega)
   rw [h9.out [.nilIface,.pointer (some ⟨v,0,none⟩),.pointer (some ⟨v,0,none⟩),.pointer (some ⟨v,0,none⟩),.pointer (some ⟨p,0,none⟩),.int .i64 d,.int .i64 b,recV r,.agg (blkA r.blk),.nilIface] rfl (by omega) ha]
   exact hQ w' hA hB.2.2
theorem volWrite_ok (hV:VolAt w v p D L G ps ho) (h:ArrAt w p A F) (hf:A.fit) (d b:Nat) (hd:d < A.n) (hb:b < A.nb) (hw:A.wait < 0) (hl:A.lost d=false)
 (r:Rec) (hr:r.ok) (hm:Makes r) (hv:hvLaid w) (hg:¬ F.has p A.n 2) (h3:¬ F.has p A.n v) :
 Calls Tryz.prog 67 #[.pointer (some ⟨v,0,none⟩),.int .i64 d,.int .i64 b,recV r] w fun e w'=>e=.returned .nilIface∧ArrAt w' p ((A.setBlk d b r.blk).setBad d b false) F∧Outside (F.has p A.n) w w':=by
 obtain ⟨rv,h0⟩:∃ rv,recV r=rv:=⟨_,rfl⟩
 simp only [h0]
 have HR:=hide h0
 clear h0
 go_enter Tryz.func67,Tryz.ntmps67
 go_wp2_with fail
 refine volWrite_region (by kernel_rfl) hV h hf d b hd hb hw hl r hr hm hv hg h3 rfl rfl rfl rfl HR.out.symm ?_
 intro w1 h1 h2
 rw [HR.out]
 have H1:=hide2 h1 h2
 clear h1 h2
 rename_i hK
 refine hK _ _ ?_
 clear hK
 simp only [Act.putFrom,Act.put,List.setIfInBounds_toArray,List.set_cons_succ,List.set_cons_zero]
 generalize blkA r.blk=ba
 go_wp2_with fail
 refine (stop_nil w1).mono ?_
 rintro e w' ⟨rfl,rfl⟩
 go_wp2
 go_ret
 exact ⟨rfl,H1.out.1,H1.out.2⟩
end Go.Proofs.YthcgahldacpolaaGreatDoor
