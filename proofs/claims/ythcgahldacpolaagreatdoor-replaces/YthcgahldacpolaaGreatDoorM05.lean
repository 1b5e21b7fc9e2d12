import Derived.Test.YthcgahldacpolaaGreatDoorM04
import Derived.ChangeKeysEq
import Derived.Laws.StructEq
set_option maxRecDepth 100000
set_option maxHeartbeats 8000000
namespace Go.Proofs.YthcgahldacpolaaGreatDoor
open Go.RowKit Go.Deep
variable {a:Act} {ops:Array Oper} {Q:Exit→Act→World→Prop} {l src:List Nat} {b off n c r:Nat} {w w0 w':World}
def recV:Rec→Value
 | .blank=>.iface 180 (.agg #[])
 | .root D L G t f n=>.iface 93 (.agg (rootA D L G t f n))
 | .filled=>.iface 137 (.agg #[])
 | .shard l=>.iface 162 (.agg (bts l).toArray)
theorem blk_range (h:BlkAt w b l):w.rangeAt b 0 (bts l):=fun j v hv=>by
 have:(blkA l)[j]?=some v:=by unfold blkA;simpa using hv
 have h':w.heap[b]?=some (.cells (blkA l) 197 (0,0)):=h
 simp [World.cell?,h',this]
theorem blk_cell (h:BlkAt w b l) (i:Nat) (hi:i < l.length):w.cell? ⟨b,i,none⟩=some (.int .u8 ((l.getD i 0:Nat):Int)):=by
 have:=blk_range h i (.int .u8 ((l.getD i 0:Nat):Int)) (by unfold bts;rw [List.getElem?_map,List.getElem?_eq_getElem hi,List.getD_eq_getElem?_getD,List.getElem?_eq_getElem hi];rfl)
 rwa [Nat.zero_add] at this
theorem take_one (l:List Nat) (i:Nat) (h:i < l.length):(l.drop i).take 1=[l.getD i 0]:=by
 rw [List.drop_eq_getElem_cons h,List.getD_eq_getElem?_getD,List.getElem?_eq_getElem h];rfl
theorem prs_root (hl:l.length=64) (h4:l.getD 4 0=1):prs l=.root (ofB ((l.drop 5).take 1)) (ofB (((l.drop 5).drop 1).take 1)) (ofB (((l.drop 5).drop 2).take 1)) (ofB (((l.drop 5).drop 3).take 8)) (ofB (((l.drop 5).drop 11).take 4)) (ofB (((l.drop 5).drop 15).take 4)):=by
 unfold prs
 rw [if_pos h4,List.drop_drop,List.drop_drop,List.drop_drop,List.drop_drop,List.drop_drop,take_one l 5 (by omega),take_one l (5+1) (by omega),take_one l (5+2) (by omega)]
theorem fold_ins:∀ (l:List Value) (k:Nat) (z:Array Value),((l.zipIdx k).foldl (fun cs x=>cs.setIfInBounds x.2 x.1) z).size=z.size∧∀ i,((l.zipIdx k).foldl (fun cs x=>cs.setIfInBounds x.2 x.1) z)[i]?=if k≤i∧i < k+l.length∧i < z.size then l[i - k]? else z[i]?
 | [],k,z=>⟨rfl,fun i=>by
  show z[i]?=if k≤i∧i < k+0∧i < z.size then _ else z[i]?
  rw [if_neg (by omega)]⟩
 | v :: l,k,z=>by
  obtain ⟨h1,h2⟩:=fold_ins l (k+1) (z.setIfInBounds k v)
  rw [List.zipIdx_cons,List.foldl_cons]
  refine ⟨by rw [h1];simp,fun i=>?_⟩
  rw [h2 i,Array.size_setIfInBounds,Array.getElem?_setIfInBounds]
  simp only [List.length_cons]
  by_cases e:k=i
  · subst e
    rw [if_neg (by omega),if_pos rfl]
    by_cases e2:k < z.size
    · rw [if_pos e2,if_pos (by omega),Nat.sub_self];rfl
    · rw [if_neg e2,if_neg (by omega)]
      simp [e2]
  · rw [if_neg e]
    by_cases e2:k+1≤i∧i < k+1+l.length∧i < z.size
    · rw [if_pos e2,if_pos (by omega),show i - k=(i - (k+1))+1 by omega];rfl
    · rw [if_neg e2,if_neg (by omega)]
theorem build_one (z sa:Array Value) (n:Nat) (hz:z.size=n) (hs:sa.size=n):Array.foldl (fun cs x=>cs.setIfInBounds x.snd x.fst) z sa.zipIdx 0 n=sa:=by
 have e:Array.foldl (fun cs x=>cs.setIfInBounds x.snd x.fst) z sa.zipIdx 0 n=(sa.toList.zipIdx).foldl (fun cs x=>cs.setIfInBounds x.2 x.1) z:=by
  rw [← hs,show sa.size=sa.zipIdx.size by simp,← Array.foldl_toList,Array.toList_zipIdx]
 rw [e]
 obtain ⟨h1,h2⟩:=fold_ins sa.toList 0 z
 apply Array.ext_getElem?
 intro i
 rw [h2 i]
 by_cases hi:i < n
 · rw [if_pos (by simp;omega)]
   simp
 · rw [if_neg (by omega)]
   simp [Array.getElem?_eq_none (show z.size≤i by omega),Array.getElem?_eq_none (show sa.size≤i by omega)]
theorem parse_any (l:List Nat) (w:World) (hl:l.length=64) (hx:∀ x∈l,x < 256) :
 Calls Tryz.prog 116 #[.agg (blkA l)] w fun e w'=>e=.returned (recV (prs l))∧Below w.heap.size w w':=by
 have hb:=BlkAt.new w l
 have h5:Below w.heap.size w (w.alloc (.cells (blkA l) 197)):=(Below.refl _ w).alloc (Nat.le_refl _) _
 have hz:(w.alloc (.cells (blkA l) 197)).heap.size=w.heap.size+1:=by simp
 have hg:(blkA l).size=64:=by rw [blkA_size,hl]
 obtain ⟨w1,hh⟩:∃ w1,w.alloc (.cells (blkA l) 197)=w1:=⟨_,rfl⟩
 rw [hh] at hb h5 hz
 have c4:=blk_cell hb 4 (by omega)
 have h7:w1.rangeAt w.heap.size 5 (bts (l.drop 5)):=by have:=range_drop 5 (blk_range hb);rwa [Nat.zero_add] at this
 have h0:w1.rangeAt w.heap.size 20 (bts (l.drop 20)):=by have:=range_drop 20 (blk_range hb);rwa [Nat.zero_add] at this
 have h8:∀ x∈l.drop 5,x < 256:=fun x h=>hx x (List.mem_of_mem_drop h)
 have h6:(l.drop 5).length=59:=by rw [List.length_drop,hl]
 have h4:(l.drop 20).length=44:=by rw [List.length_drop,hl]
 by_cases h1:l.getD 4 0=1
 · have hp:=prs_root hl h1
   rw [h1] at c4
   have hc:=rootOf_any w.heap.size 5 (l.drop 5) w1 h6 h8 h7 (by omega)
   rw [h6] at hc
   rw [hp]
   obtain ⟨ra,h9⟩:∃ ra,rootA (ofB ((l.drop 5).take 1)) (ofB (((l.drop 5).drop 1).take 1)) (ofB (((l.drop 5).drop 2).take 1)) (ofB (((l.drop 5).drop 3).take 8)) (ofB (((l.drop 5).drop 11).take 4)) (ofB (((l.drop 5).drop 15).take 4))=ra:=⟨_,rfl⟩
   rw [h9] at hc
   have HR:=hide h9
   clear h9
   have H:=hide2 h5 hz
   clear hp h0 h7 h8 h4 hx h6 h5 hz
   go_enter Tryz.func116,Tryz.ntmps116
   go_wp2_with fail
   refine hc.mono ?_
   rintro e w2 ⟨rfl,he⟩
   clear hc
   have H2:=hide he
   clear he
   go_wp2
   go_ret
   exact ⟨by rw [show recV (.root (ofB ((l.drop 5).take 1)) (ofB (((l.drop 5).drop 1).take 1)) (ofB (((l.drop 5).drop 2).take 1)) (ofB (((l.drop 5).drop 3).take 8)) (ofB (((l.drop 5).drop 11).take 4)) (ofB (((l.drop 5).drop 15).take 4)))=.iface 93 (.agg ra) from (by unfold recV;rw [← HR.out])];rfl,H.out.1.trans (H2.out.mono (by have:=H.out.2;omega))⟩
 · by_cases h2:l.getD 4 0=2
   · have hp:prs l=.filled:=by unfold prs;rw [if_neg h1,if_pos h2]
     rw [h2] at c4
     rw [hp]
     have H:=hide2 h5 hz
     clear hp h0 h7 h8 h4 hx h6 h5 hz
     unfold recV
     go_enter Tryz.func116,Tryz.ntmps116
     go_wp2
     go_ret
     exact ⟨rfl,H.out.1⟩
   · by_cases h3:l.getD 4 0=3
     · have hp:prs l=.shard (l.drop 20):=by unfold prs;rw [if_neg h1,if_neg h2,if_pos h3]
       rw [h3] at c4
       rw [hp]
       have H:=hide4 h5 hz h0 h4
       clear hp h0 h7 h8 h4 hx h6 h5 hz
       have hj:∀ (ad:Addr) (w:World),(Instr.arrayAt 160 (.slice (some ad) 44 44)).run Tryz.prog w=.ok (.pointer (some ad)) w:=fun ad w=>by simp [Instr.arrayAt,run_underlying Tryz.underlying160]
       have hf:(bts (l.drop 20)).toArray.size=44:=by rw [List.size_toArray,bts_len];exact H.out.2.2.2
       go_enter Tryz.func116,Tryz.ntmps116
       obtain ⟨sa,ha⟩:∃ sa,(bts (l.drop 20)).toArray=sa:=⟨_,rfl⟩
       rw [ha] at hf
       have HS:=hide ha
       go_wp2_with (refine wpList_load_mid rfl 160 (.tmp 17) rfl w.heap.size 20 rfl (bts (l.drop 20)) _ H.out.2.2.1 Tryz.underlying160 rfl (by rw [bts_len,H.out.2.2.2];kernel_rfl) ?_;rw [HS.out];clear ha)
       have hi:∀ z:Array Value,z.size=44→Array.foldl (fun cs x=>cs.setIfInBounds x.snd x.fst) z sa.zipIdx 0 44=sa:=fun z hz=>build_one z sa 44 hz hf
       rw [hi _ rfl]
       go_ret
       exact ⟨by rw [show recV (.shard (l.drop 20))=.iface 162 (.agg sa) from (by unfold recV;rw [← HS.out])];rfl,H.out.1⟩
     · have hp:prs l=.blank:=by unfold prs;rw [if_neg h1,if_neg h2,if_neg h3]
       rw [hp]
       have H:=hide2 h5 hz
       have n1:¬ ((l.getD 4 0:Nat):Int)=1:=by omega
       have n2:¬ ((l.getD 4 0:Nat):Int)=2:=by omega
       have n3:¬ ((l.getD 4 0:Nat):Int)=3:=by omega
       clear hp h0 h7 h8 h4 hx h6 h5 hz
       generalize l.getD 4 0=x at *
       unfold recV
       go_enter Tryz.func116,Tryz.ntmps116
       go_wp2
       go_ret
       exact ⟨rfl,H.out.1⟩
def spl (l:List Nat) (off:Nat) (src:List Nat):List Nat:=l.take off ++ (src ++ l.drop (off+src.length))
theorem spl_len (h:off+src.length≤l.length):(spl l off src).length=l.length:=by unfold spl;simp;omega
theorem blk_copy {cap:Nat} {v:Value} (ty:TypeId) (hB:BlkAt w b l) (hS:Bs w v src) (h0:src≠[]) (hn:src.length≤n) (hf:off+src.length≤l.length) :
 (Builtin.copy_ #[33,33] ty #[.slice (some ⟨b,off,none⟩) n cap,v]).run Tryz.prog w=.ok (.int .i64 (src.length:Nat)) (w.setRow b (blkA (spl l off src))):=by
 obtain ⟨ao,c,rfl,h1,h2,h3,h4⟩:=hS
 obtain ⟨g,o,rfl,hc⟩:=h4 h0
 have h5:=run_copy_row (P:=Tryz.prog) w 33 33 ty 5 b off n cap ⟨g,o,none⟩ src.length c (blkA l) 197 (bts src) Tryz.underlying33 (by kernel_rfl) hB (by rw [bts_len];exact (Nat.min_eq_left hn).symm) (fun j u hj=>by
  have h6:j < src.length:=by obtain ⟨q,_⟩:=List.getElem?_eq_some_iff.1 hj;rwa [bts_len] at q
  rw [Addr.add_mid,hc j h6,← hj]
  unfold bts
  rw [List.getElem?_map,List.getElem?_eq_getElem h6,List.getD_eq_getElem?_getD,List.getElem?_eq_getElem h6];rfl) (by rw [bts_len,blkA_size];exact hf) (fun u hu=>by
  unfold bts at hu;rw [List.mem_map] at hu;obtain ⟨x,_,rfl⟩:=hu;rfl)
 rw [h5]
 have e:(List.take off (blkA l).toList ++ bts src ++ List.drop (off+(bts src).length) (blkA l).toList).toArray=blkA (spl l off src):=by
  rw [blkA_list,bts_len]
  unfold blkA spl
  rw [bts_append,bts_append,List.append_assoc]
  unfold bts
  rw [List.map_take,List.map_drop]
 simp only [List.append_assoc] at e ⊢
 rw [e,bts_len]
 rfl
noncomputable def RBk:Array Oper:=((Tryz.f86.body.bind (rgf · 5))).getD #[]
def shBk:List (Op×Option Nat×List Nat):=[(Op.slice 197 (.tmp 3) none (some (Operand.const (Value.int IntKind.i64 4))) none,some 13,[]),
 (Op.slice 197 (.tmp 3) (some (Operand.const (Value.int IntKind.i64 4))) none none,some 14,[]),
 (Op.call { callee:=Callee.value (Operand.func 115),args:=#[.tmp 14],argTypes:=#[33] },some 15,[1]),
 (Op.convert 245 43 (.tmp 15),some 16,[2]),
 (Op.call { callee:=Callee.value (Operand.func 114),args:=#[Operand.const (Value.slice none 0 0),.tmp 16,Operand.const (Value.int IntKind.i64 4)],argTypes:=#[33,43,3] },some 17,[3,2]),
 (Op.call { callee:=Callee.builtin Builtin.copy,args:=#[.tmp 13,.tmp 17],argTypes:=#[33,33] },some 18,[0,4,4])]
theorem RBk_shape:RegShape RBk 13 19 shBk:=regShape (by kernel_rfl) (by kernel_rfl)
def VBk (w0:World) (b c:Nat) (i:Nat) (u:Value) (w:World):Prop:=match i with
 | 0=>u=.slice (some ⟨b,0,none⟩) 4 64
 | 1=>u=.slice (some ⟨b,4,none⟩) 60 60
 | 2=>u=.int .u32 (c:Nat)
 | 3=>u=.int .u64 (c:Nat)
 | 4=>w.ownsRow w0.heap.size 5 1 u (0+4) (bts (be c 4))
 | _=>True
theorem VBk_keep (hb:b < w0.heap.size) (hk:∀ k,k≠b→k < w.heap.size→w'.heap[k]?=w.heap[k]?) (hs:w.os=w'.os∧w.tape=w'.tape∧w.output=w'.output∧w.heap.size≤w'.heap.size) (i:Nat) (u:Value) (h:VBk w0 b c i u w):VBk w0 b c i u w':=by
 match i with
 | 0 | 1 | 2 | 3=>exact h
 | 4=>exact World.ownsRow.kept h (row:=some b) ⟨hs.1.symm,hs.2.1.symm,hs.2.2.1.symm,hs.2.2.2,fun k h0 h1=>hk k (fun e=>h1 (by rw [e])) h0⟩ (.inr fun e=>by have:=(World.ownsRow.lt h b e).1;omega)
 | n+5=>trivial
def BBk (w0:World) (b c:Nat) (l:List Nat) (D:Nat→Bool) (w:World):Prop:=BlkAt w b (if D 5=true then spl l 0 (be c 4) else l)∧Outside (fun k=>k=b) w0 w
theorem BBk_upd {D:Nat→Bool} (h:BBk w0 b c l D w) (i:Nat) (hi:i≠5) (hw:Outside (fun _=>False) w w'):BBk w0 b c l (upd D i) w':=by
 refine ⟨?_,h.2.later hw (fun _ _ q=>q.elim)⟩
 unfold upd
 rw [if_neg (fun e:5=i=>hi e.symm)]
 exact h.1.keep (hw.block _ h.1.lt (fun q=>q))
theorem hvLaid.out (h:hvLaid w) (hO:Outside (fun k=>k=b) w w') (hb:b≠2):hvLaid w':=fun j hj=>by
 have:=h j hj
 rw [← this]
 exact World.cell?_of_block (hO.block _ (block_lt_of_cell this) (fun e=>hb e.symm))
theorem block_region (h7:RBk=ops) (hB:BlkAt w b l) (hl:l.length=64) (hx:∀ x∈l,x < 256) (hv:hvLaid w) (hb:b≠2) (hr:a.tmps.size=20)
 (e3:a.eval (.tmp 3)=.pointer (some ⟨b,0,none⟩)) (hQ:∀ (w':World) (vs:List Value),vs.length=6→BlkAt w' b (spl l 0 (be (crc (l.drop 4)) 4))→Outside (fun k=>k=b) w w'→Q .normal (Act.putFrom a 13 vs) w'):(Code.region 5 ops true).wp Tryz.prog Q a w:=by
 subst h7
 obtain ⟨c,hc⟩:∃ c,crc (l.drop 4)=c:=⟨_,rfl⟩
 have h4:c < 4294967296:=hc ▸ crc_lt _
 rw [hc] at hQ
 have h8:=hB.lt
 refine region_facts (by kernel_rfl) RBk_shape a w (by omega) (VBk w b c) (BBk w b c l) ⟨hB,Outside.drew w⟩ ?_ ?_
 · intro i hi
   match i,hi with
   | 0,_=>
    intro o a' w' D hg ho h0 hk h2 h4 h1 hB hV
    have u0:a'.eval (.tmp 3)=.pointer (some ⟨b,0,none⟩):=(hk.slot 3 (by omega)).trans e3
    exact op_val (v:=.slice (some ⟨b,0,none⟩) 4 64) (by simp only [execOp,show o.op=Op.slice 197 (.tmp 3) none (some (Operand.const (Value.int IntKind.i64 4))) none from ho,u0];go_simp) h0 ⟨BBk_upd hB 0 (by decide) (Outside.refl _ _),rfl,kq⟩
   | 1,_=>
    intro o a' w' D hg ho h0 hk h2 h4 h1 hB hV
    have u0:a'.eval (.tmp 3)=.pointer (some ⟨b,0,none⟩):=(hk.slot 3 (by omega)).trans e3
    exact op_val (v:=.slice (some ⟨b,4,none⟩) 60 60) (by simp only [execOp,show o.op=Op.slice 197 (.tmp 3) (some (Operand.const (Value.int IntKind.i64 4))) none none from ho,u0];go_simp) h0 ⟨BBk_upd hB 1 (by decide) (Outside.refl _ _),rfl,kq⟩
   | 2,_=>
    intro o a' w' D hg ho h0 hk h2 h4 h1 hB hV
    have u0:a'.eval (.tmp 14)=.slice (some ⟨b,4,none⟩) 60 60:=hV 1 (h1 1 (by decide))
    have he:D 5=false:=by
     cases q:D 5 with
     | false=>rfl
     | true=>have:=(h4 5 q).2 4 (by decide);have:=(h4 4 this).2 2 (by decide);rw [h2] at this;cases this
    have h6:BlkAt w' b l:=by have:=hB.1;rw [if_neg (by rw [he];decide)] at this;exact this
    have h9:Bs w' (.slice (some ⟨b,4,none⟩) (l.drop 4).length 60) (l.drop 4):=Bs.mid (by rw [List.length_drop,hl];decide) (by rw [List.length_drop,hl];decide) (fun x h=>hx x (List.mem_of_mem_drop h)) (by have:=range_drop 4 (blk_range h6);rwa [Nat.zero_add] at this)
    rw [show (l.drop 4).length=60 by rw [List.length_drop,hl]] at h9
    refine op_call (f:=115) (args:=#[.slice (some ⟨b,4,none⟩) 60 60]) (w1:=w') (by simp only [execOp,show o.op=Op.call { callee:=Callee.value (Operand.func 115),args:=#[.tmp 14],argTypes:=#[33] } from ho];go_simp;simpa [Act.eval] using u0) h0 (sum_any _ (l.drop 4) w' h9 (hv.out hB.2 hb)) ?_
    rintro e w'' ⟨rfl,rfl⟩
    rw [hc]
    exact ⟨_,rfl,BBk_upd hB 2 (by decide) (Outside.refl _ _),rfl,kq⟩
   | 3,_=>
    intro o a' w' D hg ho h0 hk h2 h5 h1 hB hV
    have u0:a'.eval (.tmp 15)=.int .u32 (c:Nat):=hV 2 (h1 2 (by decide))
    exact op_val (v:=.int .u64 (c:Nat)) (by simp only [execOp,show o.op=Op.convert 245 43 (.tmp 15) from ho,u0];go_simp;rw [IntKind.wrap_u64];omega) h0 ⟨BBk_upd hB 3 (by decide) (Outside.refl _ _),rfl,kq⟩
   | 4,_=>
    intro o a' w' D hg ho h0 hk h2 h5 h1 hB hV
    have u0:a'.eval (.tmp 16)=.int .u64 (c:Nat):=hV 3 (h1 3 (by decide))
    refine op_call (f:=114) (args:=#[.slice none 0 0,.int .u64 (c:Nat),.int .i64 (4:Nat)]) (w1:=w') (by simp only [execOp,show o.op=Op.call { callee:=Callee.value (Operand.func 114),args:=#[Operand.const (Value.slice none 0 0),.tmp 16,Operand.const (Value.int IntKind.i64 4)],argTypes:=#[33,43,3] } from ho];go_simp;simpa [Act.eval] using u0) h0 (append_num w.heap.size (.slice none 0 0) 0 [] c 4 w' (World.ownsRow_nil _ _ _ _) hB.2.size (by decide) (by decide)) ?_
    rintro e w'' ⟨v',rfl,hf,hh,hs⟩
    have h3:Outside (fun _=>False) w' w'':=hh.mono (fun k _ q=>by simp [Value.ownBlock] at q)
    refine ⟨v',rfl,BBk_upd hB 4 (by decide) h3,hf,fun j u hj q=>VBk_keep h8 (fun k _ hk=>h3.block k hk (fun q=>q)) ⟨h3.os.symm,h3.tape.symm,h3.output.symm,h3.size⟩ j u q⟩
   | 5,_=>
    intro o a' w' D hg ho h0 hk h2 h5 h1 hB hV
    have u0:a'.eval (.tmp 13)=.slice (some ⟨b,0,none⟩) 4 64:=hV 0 (h1 0 (by decide))
    have u1:w'.ownsRow w.heap.size 5 1 (a'.eval (.tmp 17)) (0+4) (bts (be c 4)):=hV 4 (h1 4 (by decide))
    have h6:BlkAt w' b l:=by have:=hB.1;rw [if_neg (by rw [h2];decide)] at this;exact this
    have hm:=blk_copy (n:=4) (cap:=64) (off:=0) o.type h6 (Bs.of_owns u1 (be_lt _ _) (by rw [be_len];decide)) (by intro e;have:=be_len c 4;rw [e] at this;cases this) (by rw [be_len];decide) (by rw [be_len,hl];decide)
    refine op_val (v:=.int .i64 ((be c 4).length:Nat)) (w':=w'.setRow b (blkA (spl l 0 (be c 4)))) (by simp only [execOp,show o.op=Op.call { callee:=Callee.builtin Builtin.copy,args:=#[.tmp 13,.tmp 17],argTypes:=#[33,33] } from ho,resolve,invoke,builtin,Sem.run_bind,Sem.run_pure,Result.andThen_ok,List.map_toArray,List.map_cons,List.map_nil,u0,hm]) h0 ⟨⟨?_,hB.2.later (Outside.setRow (S:=fun k=>k=b) _ _ _ rfl) (fun _ _ q=>q)⟩,trivial,fun j u hj q=>VBk_keep h8 (fun k hp hk=>(grown_setRow' _ _ _).block k hk (fun e=>hp (by cases e;rfl))) ⟨rfl,rfl,rfl,by simp [World.setRow]⟩ j u q⟩
    show BlkAt _ b (if upd D 5 5=true then _ else _)
    rw [if_pos (by unfold upd;rw [if_pos rfl])]
    exact h6.setRow _
   | n+6,hn=>exact absurd hn (by show ¬ n+6 < 6;omega)
 · rintro a' w' hq ⟨D,hD,ha⟩ hV
   have e:a'=Act.putFrom a 13 ((List.range 6).map fun i=>a'.eval (.tmp (13+i))):=hq.out _ (by rw [List.length_map,List.length_range]) (by omega) (fun i hi=>by
    rw [List.length_map,List.length_range] at hi
    rw [List.getD_eq_getElem?_getD,List.getElem?_map,List.getElem?_range hi];rfl)
   rw [e]
   have:=ha.1
   rw [if_pos (hD 5 (by decide))] at this
   exact hQ w' _ (by rw [List.length_map,List.length_range]) this ha.2
theorem list6 {vs:List Value} (h:vs.length=6):∃ x0 x1 x2 x3 x4 x5,vs=[x0,x1,x2,x3,x4,x5]:=by
 match vs,h with
 | [x0,x1,x2,x3,x4,x5],_=>exact ⟨_,_,_,_,_,_,rfl⟩
structure Two (w0 w:World) (r b:Nat) (l:List Nat):Prop where
 res:BlkAt w r zb
 blk:BlkAt w b l
 below:Below w0.heap.size w0 w
 rs:r=w0.heap.size
 bs:b=w0.heap.size+1
theorem Two.new (w:World):Two w ((w.alloc (.cells (blkA zb) 197)).alloc (.cells (blkA zb) 197)) w.heap.size (w.heap.size+1) zb:=by
 refine ⟨(blk_alloc_lt _ _ _ (by simp)).trans (blk_alloc_new _ _),?_,((Below.refl _ w).alloc (Nat.le_refl _) _).alloc (by simp) _,rfl,rfl⟩
 have:=blk_alloc_new (w.alloc (.cells (blkA zb) 197)) (.cells (blkA zb) 197)
 simpa [BlkAt] using this
theorem Two.mono (h:Two w0 w r b l) (hb:Below w.heap.size w w'):Two w0 w' r b l:=
 ⟨h.res.keep (hb.block _ h.res.lt),h.blk.keep (hb.block _ h.blk.lt),h.below.trans (hb.mono (by have:=h.res.lt;have:=h.rs;omega)),h.rs,h.bs⟩
theorem Two.set {l':List Nat} (h:Two w0 w r b l) (hO:Outside (fun k=>k=b) w w') (hb:BlkAt w' b l'):Two w0 w' r b l':=
 ⟨h.res.keep (hO.block _ h.res.lt (fun e=>by have:=h.rs;have:=h.bs;omega)),hb,h.below.trans (hO.below fun k hk=>⟨by have:=h.blk.lt;have:=h.bs;omega,fun e=>by have:=h.bs;omega⟩),h.rs,h.bs⟩
theorem hvLaid.below {B:Nat} (h:hvLaid w) (hb:Below B w w') (hB:2 < B):hvLaid w':=fun j hj=>(hb.cell (p:=⟨2,j,none⟩) hB).trans (h j hj)
theorem hvLaid.lt (h:hvLaid w):2 < w.heap.size:=block_lt_of_cell (h 0 (by decide))
theorem seal_eq {body:List Nat} (hb:body.length≤60):spl (spl zb 4 body) 0 (be (crc ((spl zb 4 body).drop 4)) 4)=sealed body:=by
 have e1:(spl zb 4 body).drop 4=body ++ List.replicate (60 - body.length) 0:=by
  unfold spl
  rw [List.drop_append_of_le_length (by simp [zb]),show (List.take 4 zb).drop 4=[] by simp [zb]]
  simp only [List.nil_append]
  congr 1
  unfold zb
  rw [List.drop_replicate]
  congr 1
  omega
 have e2:∀ (X s:List Nat),spl X 0 s=s ++ X.drop s.length:=fun X s=>by unfold spl;rw [List.take_zero,List.nil_append,Nat.zero_add]
 rw [e2,be_len,e1]
 rfl
theorem spl_lt (h1:∀ x∈l,x < 256) (h2:∀ x∈src,x < 256):∀ x∈spl l off src,x < 256:=by
 intro x hx
 unfold spl at hx
 simp only [List.mem_append] at hx
 rcases hx with h | h | h
 · exact h1 x (List.mem_of_mem_take h)
 · exact h2 x h
 · exact h1 x (List.mem_of_mem_drop h)
theorem zb_lt:∀ x∈zb,x < 256:=fun x hx=>by have:=List.eq_of_mem_replicate hx;omega
theorem block_blank (w:World):Calls Tryz.prog 86 #[recV .blank] w fun e w'=>e=.returned (.agg (blkA Rec.blank.blk))∧Below w.heap.size w w':=by
 have hz:=zeroBlk
 have h4:(blkA zb).size=64:=by rw [blkA_size,zb_len]
 have h0:=Two.new w
 obtain ⟨w1,h5⟩:∃ w1,(w.alloc (.cells (blkA zb) 197)).alloc (.cells (blkA zb) 197)=w1:=⟨_,rfl⟩
 rw [h5] at h0
 have H0:=hide h0
 clear h0
 unfold recV
 go_enter Tryz.func86,Tryz.ntmps86
 go_wp2_with fail
 refine (blank_body w1).mono ?_
 rintro e w2 ⟨rfl,h1⟩
 have h2:=H0.out.mono h1
 have H2:=hide h2
 clear h2 h1 H0
 go_wp2_with (first | (refine bl_load rfl (.tmp 3) rfl (w.heap.size+1) zb rfl H2.out.blk zb_len ?_) | (refine bl_store rfl (.tmp 2) (.tmp 19) rfl w.heap.size zb zb rfl rfl H2.out.res zb_len zb_len ?_))
 have h3:=H2.out.res.setRow zb
 refine bodyPost_ret (v:=.agg (blkA zb)) (results_cell_row Tryz.results86 _ _ w.heap.size 197 (blkA zb) (0,0) _ rfl h3 Tryz.underlying197 rfl (blkA_info zb_len)) rfl ?_
 exact ⟨rfl,H2.out.below.trans ⟨rfl,rfl,rfl,by simp [World.setRow],fun k hk=>(grown_setRow' _ _ _).block k (by have:=H2.out.res.lt;omega) (fun e=>by cases e;omega)⟩⟩
theorem block_root (D L G t f n:Nat) (w:World) (h9:(Rec.root D L G t f n).ok) (hv:hvLaid w) :
 Calls Tryz.prog 86 #[recV (.root D L G t f n)] w fun e w'=>e=.returned (.agg (blkA (Rec.root D L G t f n).blk))∧Below w.heap.size w w':=by
 have hz:=zeroBlk
 have hq:(blkA zb).size=64:=by rw [blkA_size,zb_len]
 have h0:=Two.new w
 obtain ⟨w1,hr⟩:∃ w1,(w.alloc (.cells (blkA zb) 197)).alloc (.cells (blkA zb) 197)=w1:=⟨_,rfl⟩
 rw [hr] at h0
 have hf:=body_len h9
 have hc:=body_lt h9
 have h8:(Rec.root D L G t f n).blk=sealed (Rec.root D L G t f n).body:=by unfold Rec.blk;rw [if_neg (by simp [Rec.body])]
 have h7:0 < (Rec.root D L G t f n).body.length:=by simp [Rec.body]
 have h1:=root_body D L G t f n w1 h9
 rw [h8]
 obtain ⟨body,h6⟩:∃ body,(Rec.root D L G t f n).body=body:=⟨_,rfl⟩
 rw [h6] at hf hc h7 h1 ⊢
 have H0:=hide3 h0 hc hv
 unfold recV
 obtain ⟨ra,hg⟩:∃ ra,rootA D L G t f n=ra:=⟨_,rfl⟩
 simp only [hg] at h1 ⊢
 clear h0 hc hv h9 h8 hg h6
 go_enter Tryz.func86,Tryz.ntmps86
 go_wp2_with fail
 refine h1.mono ?_
 clear h1
 rintro e w2 ⟨v,rfl,hS,hh⟩
 have h2:=H0.out.1.mono hh
 obtain ⟨ao,c,rfl,hs,hx,hy,k0⟩:=id hS
 have k5:(0:Int) < ((body.length:Nat):Int):=by omega
 have hi:body≠[]:=by intro e;rw [e] at h7;simp at h7
 have k6:=blk_copy (n:=60) (cap:=60) (off:=4) 3 h2.blk hS hi (by omega) (by rw [zb_len];omega)
 have h3:Two w (w2.setRow (w.heap.size+1) (blkA (spl zb 4 body))) w.heap.size (w.heap.size+1) (spl zb 4 body):=h2.set (Outside.setRow (S:=fun k=>k=w.heap.size+1) _ _ _ rfl) (h2.blk.setRow _)
 obtain ⟨w3,hj⟩:∃ w3,w2.setRow (w.heap.size+1) (blkA (spl zb 4 body))=w3:=⟨_,rfl⟩
 rw [hj] at k6 h3
 have k7:(spl zb 4 body).length=64:=by rw [spl_len (by rw [zb_len];omega),zb_len]
 have hG:=H0.out.2.2.lt
 have hv3:hvLaid w3:=H0.out.2.2.below h3.below hG
 have H3:=hide2 h3 hv3
 clear h2 hS hh hs hx hy k0 hj h3 hv3 hi
 go_wp2_with fail
 refine block_region (by kernel_rfl) H3.out.1.blk k7 (spl_lt zb_lt H0.out.2.1) H3.out.2 (by omega) rfl rfl ?_
 intro w4 vs hm hn hp
 obtain ⟨x0,x1,x2,x3,x4,x5,rfl⟩:=list6 hm
 have h4:=H3.out.1.set hp hn
 rw [seal_eq hf] at h4
 have ha:(sealed body).length=64:=by unfold sealed;simp [be_len];omega
 obtain ⟨sb,he⟩:∃ sb,sealed body=sb:=⟨_,rfl⟩
 rw [he] at h4 ha
 have k8:=hide he
 have H4:=hide h4
 clear h4 hn hp hm he
 rename_i hK
 refine hK _ _ ?_
 clear hK
 simp only [Act.putFrom,Act.put,List.setIfInBounds_toArray,List.set_cons_succ,List.set_cons_zero]
 go_wp2_with (first | (refine bl_load rfl (.tmp 3) rfl (w.heap.size+1) sb rfl H4.out.blk ha ?_) | (refine bl_store rfl (.tmp 2) (.tmp 19) rfl w.heap.size sb zb rfl rfl H4.out.res zb_len ha ?_))
 have h5:=H4.out.res.setRow sb
 refine bodyPost_ret (v:=.agg (blkA sb)) (results_cell_row Tryz.results86 _ _ w.heap.size 197 (blkA sb) (0,0) _ rfl h5 Tryz.underlying197 rfl (blkA_info ha)) rfl ?_
 exact ⟨by rw [k8.out],H4.out.below.trans ⟨rfl,rfl,rfl,by simp [World.setRow],fun k hk=>(grown_setRow' _ _ _).block k (by have:=H4.out.res.lt;omega) (fun e=>by cases e;omega)⟩⟩
def Makes (r:Rec):Prop:=∀ w,hvLaid w→Calls Tryz.prog 86 #[recV r] w fun e w'=>e=.returned (.agg (blkA r.blk))∧Below w.heap.size w w'
theorem makes_blank:Makes .blank:=fun w _=>block_blank w
theorem makes_root {D L G t f:Nat} (h0:(Rec.root D L G t f n).ok):Makes (.root D L G t f n):=fun w hv=>block_root D L G t f n w h0 hv
noncomputable def ROf:Array Oper:=((Tryz.f89.body.bind (rgf · 2))).getD #[]
def shOf:List (Op×Option Nat×List Nat):=[(Op.move (.tmp 4),some 7,[]),
 (Op.call { callee:=Callee.value (Operand.func 86),args:=#[.tmp 7],argTypes:=#[164] },some 8,[0]),
 (Op.load 197 (.tmp 1),some 9,[]),
 (Op.binOp BinOp.neq 197 (.tmp 8) (.tmp 9) 197,some 10,[1,2])]
theorem ROf_shape:RegShape ROf 7 11 shOf:=regShape (by kernel_rfl) (by kernel_rfl)
theorem Tryz.cellsByte1:Tryz.prog.cellsOf 5=1:=by kernel_rfl
theorem part_byte (l:List Nat) (i:Nat) (hi:i < l.length) (w:World):(part 5 (blkA l) (i*1)).run Tryz.prog w=.ok (.int .u8 ((l.getD i 0:Nat):Int)) w:=by
 have hg:(blkA l)[i]?=some (.int .u8 ((l.getD i 0:Nat):Int)):=by
  unfold blkA bts
  rw [List.getElem?_toArray,List.getElem?_map,List.getElem?_eq_getElem hi,List.getD_eq_getElem?_getD,List.getElem?_eq_getElem hi];rfl
 rw [Nat.mul_one]
 have hu:=Tryz.underlying5
 simp [part,isAgg,run_underlying hu,hg]
theorem eq_bytes (d:Nat) (l1 l2:List Nat) (w:World):∀ (is:List Nat),(∀ i∈is,i < l1.length∧i < l2.length)→(Op.eqItems (d+1) 5 1 (blkA l1) (blkA l2) is).run Tryz.prog w=.ok (is.all fun i=>l1.getD i 0 == l2.getD i 0) w
 | [],_=>by simp [Op.eqItems]
 | i :: is,h=>by
  obtain ⟨h1,h2⟩:=h i (by simp)
  have ih:=eq_bytes d l1 l2 w is (fun j hj=>h j (by simp [hj]))
  have he:=run_equalIn_int (P:=Tryz.prog) (w:=w) d 5 .u8 .u8 ((l1.getD i 0:Nat):Int) ((l2.getD i 0:Nat):Int) Tryz.underlying5
  simp only [Op.eqItems,Sem.run_bind,part_byte l1 i h1 w,part_byte l2 i h2 w,Result.andThen_ok,he,List.all_cons]
  generalize l1.getD i 0=x
  generalize l2.getD i 0=y
  by_cases e:x=y
  · subst e
    rw [if_neg (by simp),ih]
    simp
  · have e2:¬ ((x:Nat):Int)=((y:Nat):Int):=fun q=>e (by omega)
    have e3:((x:Int) == (y:Int))=false:=by simpa using e2
    have e4:(x == y)=false:=by simpa using e
    rw [e3,e4]
    simp
theorem all_same {l1 l2:List Nat} (h1:l1.length=64) (h2:l2.length=64):((List.range 64).all fun i=>l1.getD i 0 == l2.getD i 0)=decide (l1=l2):=by
 rw [Bool.eq_iff_iff,List.all_eq_true,decide_eq_true_eq]
 constructor
 · intro h
   refine List.ext_getElem (by omega) fun i a1 a2=>?_
   have:=h i (List.mem_range.2 (by omega))
   simpa [a1,a2] using this
 · rintro rfl i _
   simp
theorem eq_blk (l1 l2:List Nat) (h1:l1.length=64) (h2:l2.length=64) (w:World):(Op.equalIn 10000 197 (.agg (blkA l1)) (.agg (blkA l2))).run Tryz.prog w=.ok (decide (l1=l2)) w:=by
 obtain ⟨i0,h0,_⟩:=info_parts Tryz.infoByte
 rw [show (10000:Nat)=9998+1+1 from rfl,run_equalIn_array w (9998+1) (t:=197) (e:=5) (n:=64) (blkA l1) (blkA l2) Tryz.underlying197 h0,Tryz.cellsByte1,eq_bytes 9998 l1 l2 w _ (fun i hi=>by have:=List.mem_range.1 hi;omega),all_same h1 h2]
theorem of_region {r:Rec} (h3:ROf=ops) (hm:Makes r) (hr:r.ok) (hB:BlkAt w b l) (hl:l.length=64) (hv:hvLaid w) (h8:a.tmps.size=12)
 (e1:a.eval (.tmp 1)=.pointer (some ⟨b,0,none⟩)) (e4:a.eval (.tmp 4)=recV r) (hQ:∀ (w':World),Below w.heap.size w w'→Q .normal (Act.putFrom a 7 [recV r,.agg (blkA r.blk),.agg (blkA l),.bool (!decide (r.blk=l))]) w'):(Code.region 2 ops true).wp Tryz.prog Q a w:=by
 subst h3
 refine region_facts (by kernel_rfl) ROf_shape a w (by omega) (fun i v _=>v=[recV r,.agg (blkA r.blk),.agg (blkA l),.bool (!decide (r.blk=l))].getD i undef) (fun _ w'=>BlkAt w' b l∧Below w.heap.size w w') ⟨hB,(Below.refl _ w).drew⟩ ?_ ?_
 · intro i hi
   match i,hi with
   | 0,_=>exact fun o a' w' D hg ho h0 hk h4 h5 h1 hB hV=>op_val (run_op_move ho ((hk.slot 4 (by omega)).trans e4) w') h0 ⟨hB,rfl,kq⟩
   | 1,_=>
    intro o a' w' D hg ho h0 hk h4 h5 h1 h2 hV
    have u0:a'.eval (.tmp 7)=recV r:=hV 0 (h1 0 (by decide))
    refine op_call (f:=86) (args:=#[recV r]) (w1:=w') (by simp only [execOp,show o.op=Op.call { callee:=Callee.value (Operand.func 86),args:=#[.tmp 7],argTypes:=#[164] } from ho];go_simp;simpa [Act.eval] using u0) h0 (hm w' (hv.below h2.2 hv.lt)) ?_
    rintro e w'' ⟨rfl,hb⟩
    exact ⟨_,rfl,⟨h2.1.keep (hb.block _ h2.1.lt),h2.2.trans (hb.mono h2.2.size)⟩,rfl,kq⟩
   | 2,_=>
    intro o a' w' D hg ho h0 hk h4 h5 h1 h2 hV
    have u0:a'.eval (.tmp 1)=.pointer (some ⟨b,0,none⟩):=(hk.slot 1 (by omega)).trans e1
    exact op_val (v:=.agg (blkA l)) (by simp [execOp,show o.op=Op.load 197 (.tmp 1) from ho,u0,blk_loadAt h2.1 hl]) h0 ⟨h2,rfl,kq⟩
   | 3,_=>
    intro o a' w' D hg ho h0 hk h4 h5 h1 h2 hV
    have u0:a'.eval (.tmp 8)=.agg (blkA r.blk):=hV 1 (h1 1 (by decide))
    have u1:a'.eval (.tmp 9)=.agg (blkA l):=hV 2 (h1 2 (by decide))
    exact op_val (v:=.bool (!decide (r.blk=l))) (by simp only [execOp,show o.op=Op.binOp BinOp.neq 197 (.tmp 8) (.tmp 9) 197 from ho,u0,u1];go_simp;rw [eq_blk r.blk l (blk_len hr) hl w'];rfl) h0 ⟨h2,rfl,kq⟩
   | n+4,hn=>exact absurd hn (by show ¬ n+4 < 4;omega)
 · rintro a' w' h6 ⟨D,hD,h2⟩ hV
   have h7:∀ i:Nat,i < 4→a'.eval (.tmp (7+i))=[recV r,.agg (blkA r.blk),.agg (blkA l),.bool (!decide (r.blk=l))].getD i undef:=by
    intro i hi
    match i,hi with
    | 0,_=>exact hV 0 (by decide)
    | 1,_=>exact hV 1 (by decide)
    | 2,_=>exact hV 2 (by decide)
    | 3,_=>exact hV 3 (by decide)
    | n+4,hn=>exact absurd hn (by show ¬ n+4 < 4;omega)
   rw [h6.out [recV r,.agg (blkA r.blk),.agg (blkA l),.bool (!decide (r.blk=l))] rfl (by omega) h7]
   exact hQ w' h2.2
theorem of_ok (r:Rec) (w:World) (hm:Makes r) (hr:r.ok) (hv:hvLaid w) :
 Calls Tryz.prog 89 #[.agg (blkA r.blk)] w fun e w'=>e=.returned (.tuple #[recV r,.bool true])∧Below w.heap.size w w':=by
 have hl:=blk_len hr
 have hx:=blk_lt hr
 have hp:=prs_blk hr
 have hb:=BlkAt.new w r.blk
 have h2:Below w.heap.size w (w.alloc (.cells (blkA r.blk) 197)):=(Below.refl _ w).alloc (Nat.le_refl _) _
 have h3:(blkA r.blk).size=64:=by rw [blkA_size,hl]
 obtain ⟨w1,h7⟩:∃ w1,w.alloc (.cells (blkA r.blk) 197)=w1:=⟨_,rfl⟩
 rw [h7] at hb h2
 have hc:=parse_any r.blk w1 hl hx
 rw [hp] at hc
 obtain ⟨rv,h4⟩:∃ rv,recV r=rv:=⟨_,rfl⟩
 obtain ⟨l,h5⟩:∃ l,r.blk=l:=⟨_,rfl⟩
 rw [h5] at hl hx hb h3 hc h7 ⊢
 rw [h4] at hc ⊢
 have HR:=hide2 h4 h5
 have H1:=hide2 hb h2
 clear hx hp hb h2 h4 h5
 go_enter Tryz.func89,Tryz.ntmps89
 go_wp2_with (refine bl_load rfl (.tmp 1) rfl w.heap.size l rfl H1.out.1 hl ?_)
 refine hc.mono ?_
 rintro e w2 ⟨rfl,h6⟩
 have h8:=H1.out.1.keep (h6.block _ H1.out.1.lt)
 have h0:=H1.out.2.trans (h6.mono H1.out.2.size)
 have H2:=hide2 h8 h0
 clear hc h6 h8 h0
 go_wp2_with fail
 refine of_region (by kernel_rfl) hm hr H2.out.1 hl (hv.below H2.out.2 hv.lt) rfl rfl HR.out.1.symm ?_
 intro w3 h9
 rw [HR.out.1,HR.out.2,decide_eq_true (rfl:l=l)]
 have h1:=H2.out.2.trans (h9.mono H2.out.2.size)
 have H3:=hide h1
 clear h9 h1
 rename_i hK
 refine hK _ _ ?_
 clear hK
 simp only [Act.putFrom,Act.put,List.setIfInBounds_toArray,List.set_cons_succ,List.set_cons_zero]
 go_wp2
 go_ret2
 exact ⟨rfl,H3.out⟩
end Go.Proofs.YthcgahldacpolaaGreatDoor
