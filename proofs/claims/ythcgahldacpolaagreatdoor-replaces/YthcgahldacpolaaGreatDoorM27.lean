import Derived.Test.YthcgahldacpolaaGreatDoorM26
import Derived.Lib.BufferWrite
import Derived.Laws.CopyRow
import Derived.Laws.IdiomStrings
import Derived.Laws.Cover1
import Derived.Lib.UnsafeStr
import Derived.Lib.AppendZerosOnto
import Derived.Lib.Overlaps
import Derived.Laws.Externs
import Derived.Shelf.RegionOpenPlain
import Derived.Sort.QuietIn
import Derived.Sort.QuietTacIn
set_option maxRecDepth 100000
set_option maxHeartbeats 8000000
namespace Go.Proofs.YthcgahldacpolaaGreatDoor
open Go.RowKit
variable {a b:ByteArray} {l:List Nat} {xs cur:List Value} {n nb p k D t L G g ar ps:Nat} {e:TypeId} {v0 v:Value} {w0 w w' wr:World}
section
open Go.Deep
def newArr (n nb:Nat):Arr:=⟨n,nb,-1,fun _=>false,fun _ _=>false,fun _ _=>zb,fun _=>0⟩
theorem newArr_fit (h1:n≤1000) (h2:nb≤1000000):(newArr n nb).fit:=⟨h1,h2,fun _ _=>zb_len,fun _ _ x hx=>by have:=List.eq_of_mem_replicate hx;show x < 256;omega⟩
def zRow (w:World) (b nb:Nat):Prop:=w.rowIs b 197 (64*nb) (fun _=>.int .u8 0)
def zBad (w:World) (b nb:Nat):Prop:=w.rowIs b 4 nb (fun _=>.bool false)
def dCells (nb:Nat) (q:Nat×Nat):List Value:=[.bool false,.slice (some ⟨q.1,0,none⟩) nb nb,.slice (some ⟨q.2,0,none⟩) nb nb,.int .i64 0]
def dAll (nb:Nat) (l:List (Nat×Nat)):List Value:=l.flatMap (dCells nb)
theorem Tryz.infoDrive:(Tryz.prog.info? 68).map (fun i=>(i.zero,i.size,i.bytes))=some (some (.agg #[.bool false,.slice none 0 0,.slice none 0 0,.int .i64 0]),4,64):=by kernel_rfl
theorem Tryz.infoBool1:(Tryz.prog.info? 4).map (fun i=>(i.zero,i.size,i.bytes))=some (some (.bool false),1,1):=by kernel_rfl
theorem made_blk (w:World) (nb:Nat):zRow (w.alloc (.cells (madeCells (blkA zb) (nb*64)) 197)) w.heap.size nb:=by
 refine ⟨_,blk_alloc_new _ _,by rw [size_madeCells];omega,fun i hi=>?_⟩
 have hs:(blkA zb).size=64:=by rw [blkA_size,zb_len]
 have hm:i % 64 < 64:=Nat.mod_lt _ (by decide)
 have hg:(blkA zb)[i % 64]! = .int .u8 0:=by
  have e:blkA zb=Array.replicate 64 (.int .u8 0):=by simp only [blkA,bts,zb,List.map_replicate,List.toArray_replicate];rfl
  rw [getElem!_pos (blkA zb) (i % 64) (by omega)]
  simp only [e,Array.getElem_replicate]
 simp [madeCells,hs,hg,show i < nb*64 by omega]
noncomputable def RNa:Array Oper:=((Tryz.f12.body.bind (rgf · 4))).getD #[]
def shNa:List (Op×Option Nat×List Nat):=[(Op.move (.tmp 5),some 11,[]),
 (Op.move (.tmp 5),some 12,[]),
 (Op.nilCheck (.tmp 12),some 13,[1]),
 (Op.fieldAddr 64 (.tmp 13) 0,some 14,[2]),
 (Op.load 62 (.tmp 14),some 15,[3]),
 (Op.move (.tmp 1),some 16,[]),
 (Op.call { callee:=Callee.builtin Builtin.max,args:=#[.tmp 16,Operand.const (Value.int IntKind.i64 0)],argTypes:=#[3,3] },some 17,[5]),
 (Op.makeSlice 65 (.tmp 17) (.tmp 17),some 18,[6,6]),
 (Op.move (.tmp 1),some 19,[]),
 (Op.call { callee:=Callee.builtin Builtin.max,args:=#[.tmp 19,Operand.const (Value.int IntKind.i64 0)],argTypes:=#[3,3] },some 20,[8]),
 (Op.makeSlice 66 (.tmp 20) (.tmp 20),some 21,[9,9]),
 (Op.build 68 #[(1,.tmp 18),(2,.tmp 21)],some 22,[7,10]),
 (Op.buildSlice 62 1 #[(0,.tmp 22)],some 23,[11]),
 (Op.call { callee:=Callee.builtin Builtin.append,args:=#[.tmp 15,.tmp 23],argTypes:=#[62,62] },some 24,[4,12]),
 (Op.nilCheck (.tmp 11),some 25,[0,0,1,2,3,4,5,6,7,8,9,10,11,12,13]),
 (Op.fieldAddr 64 (.tmp 25) 0,some 26,[14,0,1,2,3,4,5,6,7,8,9,10,11,12,13]),
 (Op.store 62 (.tmp 26) (.tmp 24),none,[15,13,13,0,1,2,3,4,5,6,7,8,9,10,11,12,13])]
theorem RNa_shape:RegShape RNa 11 27 shNa:=regShape (by kernel_rfl) (by kernel_rfl)
def VNa (w0:World) (p nb:Nat) (v0:Value) (xs:List Value) (k:Nat) (i:Nat) (u:Value) (w:World):Prop:=match i with
 | 0 | 1 | 2 | 3 | 14 | 15=>u=.pointer (some ⟨p,0,none⟩)
 | 4=>u=v0
 | 5 | 6 | 8 | 9=>u=.int .i64 nb
 | 7=>∃ b,w0.heap.size≤b∧u=.slice (some ⟨b,0,none⟩) nb nb∧zRow w b nb
 | 10=>∃ b,w0.heap.size≤b∧u=.slice (some ⟨b,0,none⟩) nb nb∧zBad w b nb
 | 11=>∃ q:Nat×Nat,w0.heap.size≤q.1∧w0.heap.size≤q.2∧u=.agg (dCells nb q).toArray∧zRow w q.1 nb∧zBad w q.2 nb
 | 12=>∃ (c:Nat) (q:Nat×Nat),w0.heap.size≤c∧w0.heap.size≤q.1∧w0.heap.size≤q.2∧u=.slice (some ⟨c,0,none⟩) 1 1∧w.heap[c]?=some (.cells (dCells nb q).toArray 68 (0,0))∧zRow w q.1 nb∧zBad w q.2 nb
 | 13=>∃ q:Nat×Nat,w0.heap.size≤q.1∧w0.heap.size≤q.2∧w.ownsRow (p+1) 68 4 u (k+1) (xs ++ dCells nb q)∧zRow w q.1 nb∧zBad w q.2 nb
 | 16=>∃ (v':Value) (q:Nat×Nat),w.heap[p]?=some (.cells #[v',.int .i64 (-1)] 64 (0,0))∧w0.heap.size≤q.1∧w0.heap.size≤q.2∧w.ownsRow (p+1) 68 4 v' (k+1) (xs ++ dCells nb q)∧zRow w q.1 nb∧zBad w q.2 nb
 | _=>True
theorem VNa_keep (hk:∀ b,w0.heap.size≤b→b < w.heap.size→w'.heap[b]?=w.heap[b]?) (i:Nat) (u:Value) (hi:i≠13∧i≠16) (h:VNa w0 p nb v0 xs k i u w):VNa w0 p nb v0 xs k i u w':=by
 have hz:∀ b,w0.heap.size≤b→zRow w b nb→zRow w' b nb:=fun b hb q=>World.rowIs.of_block q (hk b hb q.lt)
 have hb:∀ b,w0.heap.size≤b→zBad w b nb→zBad w' b nb:=fun b hb q=>World.rowIs.of_block q (hk b hb q.lt)
 match i with
 | 0 | 1 | 2 | 3 | 14 | 15 | 4 | 5 | 6 | 8 | 9=>exact h
 | 7=>obtain ⟨b,q1,q2,q3⟩:=h;exact ⟨b,q1,q2,hz b q1 q3⟩
 | 10=>obtain ⟨b,q1,q2,q3⟩:=h;exact ⟨b,q1,q2,hb b q1 q3⟩
 | 11=>obtain ⟨q,q1,q2,q3,q4,q5⟩:=h;exact ⟨q,q1,q2,q3,hz _ q1 q4,hb _ q2 q5⟩
 | 12=>obtain ⟨c,q,q0,q1,q2,q3,q4,q5,q6⟩:=h;exact ⟨c,q,q0,q1,q2,q3,(hk c q0 (Array.getElem?_eq_some_iff.1 q4).1).trans q4,hz _ q1 q5,hb _ q2 q6⟩
 | 13=>exact absurd rfl hi.1
 | 16=>exact absurd rfl hi.2
 | n+17=>trivial
def BNa (w0:World) (p:Nat) (v0:Value) (D:Nat→Bool) (w:World):Prop:=(∀ k,k < w0.heap.size→(D 13=true→v0.ownBlock≠some k)→(D 16=true→k≠p)→w.heap[k]?=w0.heap[k]?)∧w0.heap.size≤w.heap.size∧w.os=w0.os∧w.tape=w0.tape∧w.output=w0.output
theorem BNa_upd {D:Nat→Bool} (h:BNa w0 p v0 D w) (i:Nat) (h1:w.heap.size≤w'.heap.size∧w'.os=w.os∧w'.tape=w.tape∧w'.output=w.output) (hk:∀ k,k < w0.heap.size→(i=13→v0.ownBlock≠some k)→(i=16→k≠p)→w'.heap[k]?=w.heap[k]?):BNa w0 p v0 (upd D i) w':=by
 obtain ⟨q1,q2,q3,q4,q5⟩:=h
 refine ⟨fun k h3 h0 h2=>?_,Nat.le_trans q2 h1.1,h1.2.1.trans q3,h1.2.2.1.trans q4,h1.2.2.2.trans q5⟩
 unfold upd at h0 h2
 refine (hk k h3 (fun e=>h0 (by rw [if_pos e.symm])) (fun e=>h2 (by rw [if_pos e.symm]))).trans (q1 k h3 (fun e=>h0 ?_) (fun e=>h2 ?_))
 · split
   · rfl
   · exact e
 · split
   · rfl
   · exact e
theorem BNa_pure {D:Nat→Bool} (h:BNa w0 p v0 D w) (i:Nat):BNa w0 p v0 (upd D i) w:=BNa_upd h i ⟨Nat.le_refl _,rfl,rfl,rfl⟩ (fun _ _ _ _=>rfl)
theorem BNa_alloc {D:Nat→Bool} (h:BNa w0 p v0 D w) (i:Nat) (o:Obj):BNa w0 p v0 (upd D i) (w.alloc o):=
 BNa_upd h i ⟨by simp,rfl,rfl,rfl⟩ (fun k hk _ _=>blk_alloc_lt _ _ _ (Nat.lt_of_lt_of_le hk h.2.1))
theorem new_region {ops:Array Oper} {Q:Exit→Act→World→Prop} {a:Act} (hx:RNa=ops) (kn:nb≤1000000) (hk:k≤1000) (hh:w.ownsRow (p+1) 68 4 v0 k xs)
 (hm:w.heap[p]?=some (.cells #[v0,.int .i64 (-1)] 64 (0,0))) (ko:a.tmps.size=29) (e5:a.eval (.tmp 5)=.pointer (some ⟨p,0,none⟩)) (e1:a.eval (.tmp 1)=.int .i64 nb)
 (hQ:∀ (w':World) (vs:List Value) (v':Value) (q:Nat×Nat),vs.length=16→w.heap.size≤q.1→w.heap.size≤q.2→w'.ownsRow (p+1) 68 4 v' (k+1) (xs ++ dCells nb q)→zRow w' q.1 nb→zBad w' q.2 nb→w'.heap[p]?=some (.cells #[v',.int .i64 (-1)] 64 (0,0)) →
  Outside (fun j=>j=p∨v0.ownBlock=some j) w w'→Q .normal (Act.putFrom a 11 vs) w'):(Code.region 4 ops true).wp Tryz.prog Q a w:=by
 subst hx
 have hy:p < w.heap.size:=(Array.getElem?_eq_some_iff.1 hm).1
 have n1:¬ (nb:Int) < 0:=by omega
 have k5:∀ (i:Nat),shNa.length=17:=fun _=>rfl
 obtain ⟨ib,k6,k7,k8,k9⟩:=info_parts Tryz.zeroBlk
 obtain ⟨ic,ka,kb,kc,kd⟩:=info_parts Tryz.infoBool1
 obtain ⟨id,hid,ke,kf,kg⟩:=info_parts Tryz.infoDrive
 refine region_facts (by kernel_rfl) RNa_shape a w (by omega) (VNa w p nb v0 xs k) (BNa w p v0) ⟨fun _ _ _ _=>rfl,Nat.le_refl _,rfl,rfl,rfl⟩ ?_ ?_
 · intro i hi
   match i,hi with
   | 0,_=>exact fun o a' w' D hg ho h0 hk h8 h9 h7 hB hV=>op_val (run_op_move ho ((hk.slot 5 (by omega)).trans e5) w') h0 ⟨BNa_pure hB _,rfl,kq⟩
   | 1,_=>exact fun o a' w' D hg ho h0 hk h8 h9 h7 hB hV=>op_val (run_op_move ho ((hk.slot 5 (by omega)).trans e5) w') h0 ⟨BNa_pure hB _,rfl,kq⟩
   | 2,_=>
    intro o a' w' D hg ho h0 hk h8 h9 h7 hB hV
    have u0:a'.eval (.tmp 12)=.pointer (some ⟨p,0,none⟩):=hV 1 (h7 1 (by decide))
    exact op_val (run_op_nil ho u0 w') h0 ⟨BNa_pure hB _,rfl,kq⟩
   | 3,_=>
    intro o a' w' D hg ho h0 hk h8 h9 h7 hB hV
    have u0:a'.eval (.tmp 13)=.pointer (some ⟨p,0,none⟩):=hV 2 (h7 2 (by decide))
    exact op_val (v:=.pointer (some ⟨p,0,none⟩)) (by simp only [execOp,show o.op=Op.fieldAddr 64 (.tmp 13) 0 from ho,u0];go_simp) h0 ⟨BNa_pure hB _,rfl,kq⟩
   | 4,_=>
    intro o a' w' D hg ho h0 hk h8 h9 h7 hB hV
    have u0:a'.eval (.tmp 14)=.pointer (some ⟨p,0,none⟩):=hV 3 (h7 3 (by decide))
    have hz:D 13=false:=by
     cases q:D 13 with
     | false=>rfl
     | true=>have:=(h9 13 q).2 4 (by decide);rw [h8] at this;cases this
    have hf:D 16=false:=by
     cases q:D 16 with
     | false=>rfl
     | true=>have:=(h9 16 q).2 4 (by decide);rw [h8] at this;cases this
    have c:w'.cell? ⟨p,0,none⟩=some v0:=by
     have:=(hB.1 p hy (fun q=>by rw [hz] at q;cases q) (fun q=>by rw [hf] at q;cases q)).trans hm
     simp [World.cell?,this]
    exact op_val (v:=v0) (by simp only [execOp,show o.op=Op.load 62 (.tmp 14) from ho,u0];go_simp) h0 ⟨BNa_pure hB _,rfl,kq⟩
   | 5,_=>exact fun o a' w' D hg ho h0 hk h8 h9 h7 hB hV=>op_val (run_op_move ho ((hk.slot 1 (by omega)).trans e1) w') h0 ⟨BNa_pure hB _,rfl,kq⟩
   | 6,_=>
    intro o a' w' D hg ho h0 hk h8 h9 h7 hB hV
    have u0:a'.eval (.tmp 16)=.int .i64 nb:=hV 5 (h7 5 (by decide))
    exact op_val (v:=.int .i64 nb) (by have:=run_op_max (P:=Tryz.prog) (s:=.tmp 16) (t:=.const (.int .i64 0)) ho u0 rfl w';rwa [if_neg (show ¬ (0:Int) > (nb:Int) by omega)] at this) h0 ⟨BNa_pure hB _,rfl,kq⟩
   | 7,_=>
    intro o a' w' D hg ho h0 hk h8 h9 h7 hB hV
    have u0:a'.eval (.tmp 17)=.int .i64 nb:=hV 6 (h7 6 (by decide))
    have hr:=run_make (P:=Tryz.prog) w' 65 197 ib (.agg (blkA zb)) Tryz.underlying65 k6 k7 .i64 .i64 nb nb (by omega) (Int.le_refl _) (by rw [k9];omega) (by omega)
    rw [k8,Int.toNat_natCast] at hr
    refine op_val (v:=.slice (some ⟨w'.heap.size,0,none⟩) nb nb) (w':=w'.alloc (.cells (madeCells (blkA zb) (nb*64)) 197)) (by simp [execOp,show o.op=Op.makeSlice 65 (.tmp 17) (.tmp 17) from ho,u0,hr,Value.cells]) h0 ⟨BNa_alloc hB _ _,⟨_,hB.2.1,rfl,made_blk w' nb⟩,fun j u hj q=>?_⟩
    refine VNa_keep (fun b _ hb=>blk_alloc_lt _ _ _ hb) j u ⟨fun e=>?_,fun e=>?_⟩ q
    · subst e;have:=(h9 13 hj).2 12 (by decide);have:=(h9 12 this).2 11 (by decide);have:=(h9 11 this).2 7 (by decide);rw [h8] at this;cases this
    · subst e;have:=(h9 16 hj).2 7 (by decide);rw [h8] at this;cases this
   | 8,_=>exact fun o a' w' D hg ho h0 hk h8 h9 h7 hB hV=>op_val (run_op_move ho ((hk.slot 1 (by omega)).trans e1) w') h0 ⟨BNa_pure hB _,rfl,kq⟩
   | 9,_=>
    intro o a' w' D hg ho h0 hk h8 h9 h7 hB hV
    have u0:a'.eval (.tmp 19)=.int .i64 nb:=hV 8 (h7 8 (by decide))
    exact op_val (v:=.int .i64 nb) (by have:=run_op_max (P:=Tryz.prog) (s:=.tmp 19) (t:=.const (.int .i64 0)) ho u0 rfl w';rwa [if_neg (show ¬ (0:Int) > (nb:Int) by omega)] at this) h0 ⟨BNa_pure hB _,rfl,kq⟩
   | 10,_=>
    intro o a' w' D hg ho h0 hk h8 h9 h7 hB hV
    have u0:a'.eval (.tmp 20)=.int .i64 nb:=hV 9 (h7 9 (by decide))
    have hr:=run_make (P:=Tryz.prog) w' 66 4 ic (.bool false) Tryz.underlying66 ka kb .i64 .i64 nb nb (by omega) (Int.le_refl _) (by rw [kd];omega) (by omega)
    rw [kc,Int.toNat_natCast,Nat.mul_one] at hr
    refine op_val (v:=.slice (some ⟨w'.heap.size,0,none⟩) nb nb) (w':=w'.alloc (.cells (madeCells #[.bool false] nb) 4)) (by simp [execOp,show o.op=Op.makeSlice 66 (.tmp 20) (.tmp 20) from ho,u0,hr,Value.cells]) h0 ⟨BNa_alloc hB _ _,⟨_,hB.2.1,rfl,World.rowIs_made w' (.bool false) nb _⟩,fun j u hj q=>?_⟩
    refine VNa_keep (fun b _ hb=>blk_alloc_lt _ _ _ hb) j u ⟨fun e=>?_,fun e=>?_⟩ q
    · subst e;have:=(h9 13 hj).2 12 (by decide);have:=(h9 12 this).2 11 (by decide);have:=(h9 11 this).2 10 (by decide);rw [h8] at this;cases this
    · subst e;have:=(h9 16 hj).2 10 (by decide);rw [h8] at this;cases this
   | 11,_=>
    intro o a' w' D hg ho h0 hk h8 h9 h7 hB hV
    obtain ⟨b1,q1,u0,z1⟩:VNa w p nb v0 xs k 7 (a'.eval (.tmp 18)) w':=hV 7 (h7 7 (by decide))
    obtain ⟨b2,q2,u1,z2⟩:VNa w p nb v0 xs k 10 (a'.eval (.tmp 21)) w':=hV 10 (h7 10 (by decide))
    exact op_val (v:=.agg (dCells nb (b1,b2)).toArray) (by simp only [execOp,show o.op=Op.build 68 #[(1,.tmp 18),(2,.tmp 21)] from ho,List.map_toArray,List.map_cons,List.map_nil,u0,u1,dCells];go_simp) h0 ⟨BNa_pure hB _,⟨(b1,b2),q1,q2,rfl,z1,z2⟩,kq⟩
   | 12,_=>
    intro o a' w' D hg ho h0 hk h8 h9 h7 hB hV
    obtain ⟨q,q1,q2,u0,z1,z2⟩:VNa w p nb v0 xs k 11 (a'.eval (.tmp 22)) w':=hV 11 (h7 11 (by decide))
    refine op_val (v:=.slice (some ⟨w'.heap.size,0,none⟩) 1 1) (w':=w'.alloc (.cells (dCells nb q).toArray 68)) (by simp only [execOp,show o.op=Op.buildSlice 62 1 #[(0,.tmp 22)] from ho,List.map_toArray,List.map_cons,List.map_nil,u0,dCells];go_simp) h0 ⟨BNa_alloc hB _ _,⟨_,q,hB.2.1,q1,q2,rfl,blk_alloc_new _ _,z1.alloc _,z2.alloc _⟩,fun j u hj r=>?_⟩
    refine VNa_keep (fun b _ hb=>blk_alloc_lt _ _ _ hb) j u ⟨fun e=>?_,fun e=>?_⟩ r
    · subst e;have:=(h9 13 hj).2 12 (by decide);rw [h8] at this;cases this
    · subst e;have:=(h9 16 hj).2 12 (by decide);rw [h8] at this;cases this
   | 13,_=>
    intro o a' w' D hg ho h0 k0 h8 h9 h7 hB hV
    have u0:a'.eval (.tmp 15)=v0:=hV 4 (h7 4 (by decide))
    obtain ⟨c,q,q0,q1,q2,u1,hc,z1,z2⟩:VNa w p nb v0 xs k 12 (a'.eval (.tmp 23)) w':=hV 12 (h7 12 (by decide))
    have hf:D 16=false:=by
     cases q:D 16 with
     | false=>rfl
     | true=>have:=(h9 16 q).2 13 (by decide);rw [h8] at this;cases this
    have ha:w'.ownsRow (p+1) 68 4 v0 k xs:=hh.kept (row:=none) ⟨hB.2.2.1,hB.2.2.2.1,hB.2.2.2.2,hB.2.1,fun j hj _=>hB.1 j hj (fun q=>by rw [h8] at q;cases q) (fun q=>by rw [hf] at q;cases q)⟩ (by cases v0.ownBlock <;> simp)
    refine wp_append_own w' (.tmp 15) (.tmp 23) 62 ho (p+1) 68 id _ 4 64 Tryz.underlying62 hid ke kf kg rfl (by decide) v0 k xs u0 ha ⟨c,0,none⟩ 1 1 (dCells nb q) u1 rfl (fun j u hj=>?_) (fun u hu=>?_) (by simp [maxLen];omega) (by omega) (Nat.le_trans hy hB.2.1) ?_
    · rw [add0];simp only [World.cell?,hc];simpa using hj
    · simp [dCells] at hu;rcases hu with rfl | rfl | rfl | rfl <;> rfl
    · intro v' w'' kh hq _
      have hp:∀ b,w.heap.size≤b→b < w'.heap.size→w''.heap[b]?=w'.heap[b]?:=fun b hb ki=>hq.block b ki (fun e=>by have:=(hh.lt b e.symm).2;omega)
      refine ⟨v',rfl,fun e=>(by rw [h0] at e;cases e),BNa_upd hB 13 ⟨hq.size,hq.os,hq.tape,hq.output⟩ (fun j hj kj _=>hq.block j (Nat.lt_of_lt_of_le hj hB.2.1) (fun e=>kj rfl e.symm)),⟨q,q1,q2,kh,World.rowIs.of_block z1 (hp _ q1 z1.lt),World.rowIs.of_block z2 (hp _ q2 z2.lt)⟩,fun j u hj r=>VNa_keep hp j u ⟨fun e=>(by subst e;rw [h8] at hj;cases hj),fun e=>(by subst e;rw [hf] at hj;cases hj)⟩ r⟩
   | 14,_=>
    intro o a' w' D hg ho h0 hk h8 h9 h7 hB hV
    have u0:a'.eval (.tmp 11)=.pointer (some ⟨p,0,none⟩):=hV 0 (h7 0 (by decide))
    exact op_val (run_op_nil ho u0 w') h0 ⟨BNa_pure hB _,rfl,kq⟩
   | 15,_=>
    intro o a' w' D hg ho h0 hk h8 h9 h7 hB hV
    have u0:a'.eval (.tmp 25)=.pointer (some ⟨p,0,none⟩):=hV 14 (h7 14 (by decide))
    exact op_val (v:=.pointer (some ⟨p,0,none⟩)) (by simp only [execOp,show o.op=Op.fieldAddr 64 (.tmp 25) 0 from ho,u0];go_simp) h0 ⟨BNa_pure hB _,rfl,kq⟩
   | 16,_=>
    intro o a' w' D hg ho h0 hk h8 h9 h7 hB hV
    have u0:a'.eval (.tmp 26)=.pointer (some ⟨p,0,none⟩):=hV 15 (h7 15 (by decide))
    obtain ⟨q,q1,q2,ha,z1,z2⟩:VNa w p nb v0 xs k 13 (a'.eval (.tmp 24)) w':=hV 13 (h7 13 (by decide))
    have he:w'.heap[p]?=some (.cells #[v0,.int .i64 (-1)] 64 (0,0)):=(hB.1 p hy (fun _ e=>by have:=(hh.lt p e).1;omega) (fun q=>by rw [h8] at q;cases q)).trans hm
    obtain ⟨u,hu⟩:∃ u,a'.eval (.tmp 24)=u:=⟨_,rfl⟩
    have c:w'.cell? ⟨p,0,none⟩=some v0:=by simp [World.cell?,he]
    have fz:w'.frozen? ⟨p,0,none⟩=false:=by simp [World.frozen?,he]
    rw [hu] at ha
    obtain ⟨so,sl,sc,kk⟩:∃ so sl sc,u=.slice so sl sc:=by
     rcases ha.2 with ⟨e,_⟩ | ⟨g,cap,cur,e,_⟩
     · exact ⟨_,_,_,e⟩
     · exact ⟨_,_,_,e⟩
    refine op_skip (w':=w'.setCell ⟨p,0,none⟩ u) (by rw [kk] at hu ⊢;simp only [execOp,show o.op=Op.store 62 (.tmp 26) (.tmp 24) from ho,u0,hu];go_simp) ⟨BNa_upd hB 16 ⟨by simp [World.setCell],rfl,rfl,rfl⟩ (fun j _ _ km=>blk_setCell_other _ _ _ _ (km rfl)),?_,fun j x hj r=>?_⟩
    · refine ⟨u,q,by simp [World.setCell,Array.getElem?_modify,he],q1,q2,ha.kept (row:=some p) ⟨rfl,rfl,rfl,by simp [World.setCell],fun i _ hi=>blk_setCell_other _ _ _ _ (fun e=>hi (by rw [e]))⟩ (.inr fun e=>by have:=(ha.lt p e).1;omega),World.rowIs.of_block z1 (blk_setCell_other _ _ _ _ (by show q.1≠p;omega)),World.rowIs.of_block z2 (blk_setCell_other _ _ _ _ (by show q.2≠p;omega))⟩
    have hp:∀ b,w.heap.size≤b→b < w'.heap.size→(w'.setCell ⟨p,0,none⟩ u).heap[b]?=w'.heap[b]?:=fun b hb _=>blk_setCell_other _ _ _ _ (by show b≠p;omega)
    by_cases e:j=13
    · subst e
      obtain ⟨q,q1,q2,r1,r2,r3⟩:=r
      refine ⟨q,q1,q2,r1.kept (row:=some p) ⟨rfl,rfl,rfl,by simp [World.setCell],fun i _ hi=>blk_setCell_other _ _ _ _ (fun e=>hi (by rw [e]))⟩ (.inr fun e=>by have:=(r1.lt p e).1;omega),World.rowIs.of_block r2 (hp _ q1 r2.lt),World.rowIs.of_block r3 (hp _ q2 r3.lt)⟩
    · exact VNa_keep hp j x ⟨e,fun e=>(by subst e;rw [h8] at hj;cases hj)⟩ r
   | n+17,hn=>exact absurd hn (by show ¬ n+17 < 17;omega)
 · rintro a' w' k0 ⟨D,hD,hB⟩ hV
   obtain ⟨v',q,h1,h2,h3,h4,h5,h6⟩:VNa w p nb v0 xs k 16 undef w':=hV 16 (by decide)
   have e:a'=Act.putFrom a 11 ((List.range 16).map fun i=>a'.eval (.tmp (11+i))):=k0.out _ (by rw [List.length_map,List.length_range]) (by omega) (fun i hi=>by
    rw [List.length_map,List.length_range] at hi
    rw [List.getD_eq_getElem?_getD,List.getElem?_map,List.getElem?_range hi];rfl)
   rw [e]
   refine hQ w' _ v' q (by rw [List.length_map,List.length_range]) h2 h3 h4 h5 h6 h1 ⟨hB.2.2.1,hB.2.2.2.1,hB.2.2.2.2,hB.2.1,fun j hj hs=>hB.1 j hj (fun _ e=>hs (.inr e)) (fun _ e=>hs (.inl e))⟩
def NaS (w:World) (p nb k:Nat) (L:List (Nat×Nat)) (v:Value) (wr:World):Prop:=
 L.length=k∧wr.heap[p]?=some (.cells #[v,.int .i64 (-1)] 64 (0,0))∧wr.ownsRow (p+1) 68 4 v k (dAll nb L)∧(∀ q∈L,(p < q.1∧p < q.2)∧zRow wr q.1 nb∧zBad wr q.2 nb)∧(L.map (fun q=>q.1)).Nodup∧(L.map (fun q=>q.2)).Nodup∧Below p w wr
def NaR (w:World) (p nb n:Nat) (i:Value) (wr:World):Prop:=∃ k L v,k≤n∧i=.int .i64 (k:Nat)∧NaS w p nb k L v wr
theorem own_not {base:Nat} {b m:Nat} {f:Nat→Value} (h:w.ownsRow base 68 4 v n xs) (hb:w.rowIs b t m f) (ht:t≠68):v.ownBlock≠some b:=by
 intro e
 rcases h.2 with ⟨h0,_⟩ | ⟨g,cap,cur,e1,e2,e3,e4⟩
 · rw [h0] at e;simp [Value.ownBlock] at e
 · rw [e1] at e
   simp [Value.ownBlock] at e
   subst e
   obtain ⟨c,hc,_⟩:=hb
   rw [hc] at e3
   simp at e3
   exact ht e3.2
theorem nodup_snoc {b:Nat} (h:l.Nodup) (hb:∀ x∈l,x < b) (c:Nat) (hc:b≤c):(l ++ [c]).Nodup:=by
 rw [List.nodup_append]
 refine ⟨h,by simp,fun x hx y hy e=>?_⟩
 simp at hy
 have:=hb x hx
 omega
theorem NaS.next {L:List (Nat×Nat)} {v':Value} {q:Nat×Nat} (h:NaS w p nb k L v wr) (q1:wr.heap.size≤q.1) (q2:wr.heap.size≤q.2) (ho:w'.ownsRow (p+1) 68 4 v' (k+1) (dAll nb L ++ dCells nb q))
 (z1:zRow w' q.1 nb) (z2:zBad w' q.2 nb) (ht:w'.heap[p]?=some (.cells #[v',.int .i64 (-1)] 64 (0,0))) (hO:Outside (fun j=>j=p∨v.ownBlock=some j) wr w'):NaS w p nb (k+1) (L ++ [q]) v' w':=by
 obtain ⟨h1,h2,h3,h4,h5,h6,h7⟩:=h
 have h8:p < wr.heap.size:=(Array.getElem?_eq_some_iff.1 h2).1
 have h0:∀ x∈L,zRow w' x.1 nb∧zBad w' x.2 nb:=fun x hx=>by
  obtain ⟨⟨a1,a2⟩,a3,a4⟩:=h4 x hx
  refine ⟨World.rowIs.of_block a3 (hO.block _ a3.lt ?_),World.rowIs.of_block a4 (hO.block _ a4.lt ?_)⟩
  · rintro (e | e)
    · omega
    · exact own_not h3 a3 (by decide) e
  · rintro (e | e)
    · omega
    · exact own_not h3 a4 (by decide) e
 refine ⟨by simp [h1],ht,?_,fun x hx=>?_,?_,?_,⟨hO.os.trans h7.os,hO.tape.trans h7.tape,hO.output.trans h7.output,Nat.le_trans h7.size hO.size,fun j hj=>(hO.block j (by omega) (fun e=>?_)).trans (h7.block j hj)⟩⟩
 · have e:dAll nb (L ++ [q])=dAll nb L ++ dCells nb q:=by simp [dAll]
   rw [e];exact ho
 · rcases List.mem_append.1 hx with hx | hx
   · exact ⟨(h4 x hx).1,h0 x hx⟩
   · simp at hx
     subst hx
     exact ⟨⟨by omega,by omega⟩,z1,z2⟩
 · rw [List.map_append]
   exact nodup_snoc h5 (fun x hx=>by obtain ⟨y,hy,rfl⟩:=List.mem_map.1 hx;exact (h4 y hy).2.1.lt) _ q1
 · rw [List.map_append]
   exact nodup_snoc h6 (fun x hx=>by obtain ⟨y,hy,rfl⟩:=List.mem_map.1 hx;exact (h4 y hy).2.2.lt) _ q2
 · rcases e with e | e
   · omega
   · have:=(h3.lt j e).1;omega
def NaPost (n nb:Nat) (w:World) (e:Ending) (w':World):Prop:=e=.returned (.pointer (some ⟨w.heap.size,0,none⟩))∧Below w.heap.size w w' ∧
 ((n=0∧∃ ao cap,w'.heap[w.heap.size]?=some (.cells #[.slice ao 0 cap,.int .i64 (-1)] 64 (0,0)))∨(0 < n∧∃ F:Foot,ArrAt w' w.heap.size (newArr n nb) F∧∀ k,F.has w.heap.size n k→w.heap.size≤k))
theorem dAll_get (nb:Nat):∀ (L:List (Nat×Nat)) (k:Nat),k < 4*L.length→(dAll nb L)[k]?=some (drvV (newArr L.length nb) ⟨0,0,fun i=>(L.getD i (0,0)).1,fun i=>(L.getD i (0,0)).2⟩ k)
 | [],k,h=>absurd h (by simp)
 | q :: L,k,h=>by
  simp only [List.length_cons] at h
  have e:dAll nb (q :: L)=dCells nb q ++ dAll nb L:=by simp [dAll]
  rw [e]
  by_cases hk:k < 4
  · rw [List.getElem?_append_left (by simpa [dCells] using hk)]
    match k,hk with
    | 0,_=>rfl
    | 1,_=>rfl
    | 2,_=>rfl
    | 3,_=>rfl
  · rw [List.getElem?_append_right (by simp [dCells];omega)]
    have ih:=dAll_get nb L (k - 4) (by omega)
    rw [show (dCells nb q).length=4 from rfl,ih]
    obtain ⟨j,rfl⟩:∃ j,k=j+4:=⟨k - 4,by omega⟩
    rw [Nat.add_sub_cancel]
    unfold drvV
    rw [show (j+4) % 4=j % 4 by omega,show (j+4) / 4=j / 4+1 by omega]
    rfl
theorem nodup_at (h:l.Nodup) {i j:Nat} (hi:i < l.length) (hj:j < l.length) (e:l[i]=l[j]):i=j:=(List.getElem_inj h).1 e
theorem NaS.post {L:List (Nat×Nat)} (h:NaS w w.heap.size nb n L v wr):NaPost n nb w (.returned (.pointer (some ⟨w.heap.size,0,none⟩))) wr:=by
 obtain ⟨h1,h2,h3,h4,h5,h6,h7⟩:=h
 refine ⟨rfl,h7,?_⟩
 rcases h3.2 with ⟨rfl,h0⟩ | ⟨g,cap,cur,rfl,e2,e3,e4,e5,e6,e7⟩
 · exact .inl ⟨h0,_,_,h2⟩
 · by_cases hn:n=0
   · subst hn
     exact .inl ⟨rfl,_,_,h2⟩
   · have h8:∀ i,i < n→(L.getD i (0,0))∈L:=fun i hi=>by
      rw [List.getD_eq_getElem?_getD,List.getElem?_eq_getElem (show i < L.length by omega)]
      exact List.getElem_mem _
     refine .inr ⟨by omega,⟨g,cap,fun i=>(L.getD i (0,0)).1,fun i=>(L.getD i (0,0)).2⟩,⟨h2,⟨cur,e3,fun k hk=>?_⟩,fun i hi=>?_,fun i hi=>?_,fun i j hi hj=>⟨fun e=>?_,fun e=>?_⟩⟩,?_⟩
     · have h9:k < 4*L.length:=by rw [h1];exact hk
       have q:=dAll_get nb L k h9
       rw [← e7,List.getElem?_take_of_lt (by rw [h1] at h9;omega)] at q
       rw [← Array.getElem?_toList,q]
       unfold drvV
       rfl
     · refine World.rowIs.congr (h4 _ (h8 i hi)).2.1 fun j hj=>?_
       show Value.int .u8 0=Value.int .u8 ((zb.getD (j % 64) 0:Nat):Int)
       have hz:zb.getD (j % 64) 0=0:=by
        unfold zb
        rw [List.getD_eq_getElem?_getD,List.getElem?_replicate]
        split <;> rfl
       rw [hz];rfl
     · exact (h4 _ (h8 i hi)).2.2
     · have e1:i < (L.map (fun q=>q.1)).length:=by rw [List.length_map,h1];exact hi
       have e2:j < (L.map (fun q=>q.1)).length:=by rw [List.length_map,h1];exact hj
       refine nodup_at h5 e1 e2 ?_
       have a1:i < L.length:=by rw [h1];exact hi
       have a2:j < L.length:=by rw [h1];exact hj
       simpa [a1,a2] using e
     · have e1:i < (L.map (fun q=>q.2)).length:=by rw [List.length_map,h1];exact hi
       have e2:j < (L.map (fun q=>q.2)).length:=by rw [List.length_map,h1];exact hj
       refine nodup_at h6 e1 e2 ?_
       have a1:i < L.length:=by rw [h1];exact hi
       have a2:j < L.length:=by rw [h1];exact hj
       simpa [a1,a2] using e
     · rintro k (rfl | rfl | ⟨i,hi,rfl | rfl⟩)
       · exact Nat.le_refl _
       · exact Nat.le_of_succ_le e2
       · exact Nat.le_of_lt (h4 _ (h8 i hi)).1.1
       · exact Nat.le_of_lt (h4 _ (h8 i hi)).1.2
theorem list16 {vs:List Value} (h:vs.length=16):∃ x0 x1 x2 x3 x4 x5 x6 x7 x8 x9 xa xb xc xd xe xf,vs=[x0,x1,x2,x3,x4,x5,x6,x7,x8,x9,xa,xb,xc,xd,xe,xf]:=by
 match vs,h with
 | [x0,x1,x2,x3,x4,x5,x6,x7,x8,x9,xa,xb,xc,xd,xe,xf],_=>exact ⟨_,_,_,_,_,_,_,_,_,_,_,_,_,_,_,_,rfl⟩
theorem newArray_any (n nb:Nat) (w:World) (hn:n≤1000) (h2:nb≤1000000) :
 Calls Tryz.prog 12 #[.int .i64 n,.int .i64 nb] w fun e w'=>NaPost n nb w e w':=by
 go_enter Tryz.func12,Tryz.ntmps12
 have h0:NaS w w.heap.size nb 0 [] (.slice none 0 0) (w.alloc (.cells #[.slice none 0 0,.int .i64 (-1)] 64)):=⟨rfl,blk_alloc_new _ _,World.ownsRow_nil _ _ _ _,fun q hq=>(by simp at hq),by simp,by simp,(Below.refl _ w).alloc (Nat.le_refl _) _⟩
 go_wp2_with fail
 go_loopw [9] (fun i wr=>NaR w w.heap.size nb n i wr) (fun i _=>n - (intOf i).toNat)
 case atStart=>exact ⟨0,[],_,Nat.zero_le _,rfl,h0⟩
 case round=>
  clear h0
  obtain ⟨k,L,v,hk,rfl,hS⟩:=hrel
  by_cases h4:k < n
  · have HS:=hide hS
    clear hS
    go_wp2_with fail
    refine new_region (by kernel_rfl) h2 (by omega) HS.out.2.2.1 HS.out.2.1 rfl rfl rfl ?_
    intro w' vs v' q h1 q1 q2 ho z1 z2 ht hO
    obtain ⟨x0,x1,x2,x3,x4,x5,x6,x7,x8,x9,xa,xb,xc,xd,xe,xf,rfl⟩:=list16 h1
    have hN:=HS.out.next q1 q2 ho z1 z2 ht hO
    have HN:=hide hN
    clear hN ho z1 z2 ht hO HS q1 q2 h1
    rename_i hK
    refine hK _ _ ?_
    clear hK
    simp only [Act.putFrom]
    go_wp2
    exact ⟨⟨k+1,_,_,by omega,by go_num,HN.out⟩,by simp [intOf];omega⟩
  · have h3:k=n:=by omega
    subst h3
    have HS:=hide hS
    clear hS
    go_wp2
    go_ret
    exact HS.out.post
end
section
open Go.Deep Gf
theorem rem_key (d:Int) (m:Nat) (hm:0 < m) (h3:m≤1000):∃ n:Nat,n < m∧wrap64 ((IntKind.u64.wrap d).tmod m)=(n:Int):=by
 have h0:0≤IntKind.u64.wrap d:=by rw [IntKind.wrap_u64];omega
 rw [Int.tmod_eq_emod_of_nonneg h0]
 have h1:=Int.emod_nonneg (IntKind.u64.wrap d) (show (m:Int)≠0 by omega)
 have h2:=Int.emod_lt_of_pos (IntKind.u64.wrap d) (show (0:Int) < m by omega)
 refine ⟨(IntKind.u64.wrap d % m).toNat,by omega,?_⟩
 rw [show ((IntKind.u64.wrap d % (m:Int)).toNat:Int)=IntKind.u64.wrap d % m by omega]
 generalize IntKind.u64.wrap d % (m:Int)=z at h1 h2
 unfold wrap64
 omega
theorem newArc_fit {A:Arr} (h:A.fit) {D L G:Nat} (hD:D≤12) (hL:L≤4) (hG:G≤4) (hn:A.n=D+L+G):(newArc A D L G).fit:=by
 have hf:(Rec.filled).ok:=trivial
 have hr:(Rec.root D L G 1 2 0).ok:=⟨by omega,by omega,by omega,by decide,by decide,by decide⟩
 exact (pagesTo_fit (h.putAt _ _ _ fun _ _=>⟨blk_len hf,blk_lt hf⟩) hD hG hn [2] [] 1).putAt _ _ _ fun _ _=>⟨blk_len hr,blk_lt hr⟩
end
section
open Go.Deep Gf
def nameB (s:ByteArray):List Nat:=s.toList.map (fun (b:UInt8)=>b.toNat) ++ List.replicate (16 - s.size) 0
def packOb (o:Ob):List Nat:=be o.name.size 1 ++ nameB o.name ++ be o.size 2 ++ o.stripes.flatMap (fun s=>be s 4)
def packL (os:List Ob):List Nat:=os.flatMap packOb
structure Ob.fit (o:Ob):Prop where
 name:1≤o.name.size∧o.name.size≤16
 size:o.size≤1500
 st:∀ s∈o.stripes,s < 4294967296
 len:o.stripes.length≤1000
theorem flat4_len (l:List Nat):(l.flatMap (fun s=>be s 4)).length=4*l.length:=by
 induction l with
 | nil=>rfl
 | cons x l ih=>rw [List.flatMap_cons,List.length_append,ih,be_len,List.length_cons];omega
theorem nameB_len {s:ByteArray} (h:s.size≤16):(nameB s).length=16:=by
 unfold nameB
 rw [List.length_append,List.length_map,List.length_replicate,ByteArray.toList_eq]
 have:s.data.toList.length=s.size:=by rw [Array.length_toList];rfl
 omega
theorem packOb_len {o:Ob} (h:o.fit):(packOb o).length=19+4*o.stripes.length:=by
 unfold packOb
 rw [List.length_append,List.length_append,List.length_append,be_len,be_len,nameB_len h.name.2,flat4_len]
end
section
open Go.Deep Gf
def leS (a b:ByteArray):Bool:=Op.bytesLess a.toList b.toList || a.toList == b.toList
end
theorem bl_eq:∀ (x y:List UInt8),Op.bytesLess x y=decide (x < y)
 | [],[]=>by simp [Op.bytesLess]
 | _ :: _,[]=>by simp [Op.bytesLess]
 | [],_ :: _=>by simp [Op.bytesLess]
 | a :: x,b :: y=>by
  rw [Op.bytesLess,bl_eq x y]
  simp only [List.cons_lt_cons_iff]
  by_cases h1:a < b <;> by_cases h2:a=b <;> by_cases h3:x < y <;> simp [h1,h2,h3]
def ltN (a b:ByteArray):Bool:=Op.bytesLess a.toList b.toList
theorem ltN_iff:ltN a b=true↔a.toList < b.toList:=by unfold ltN;rw [bl_eq];simp
theorem ltN_not:ltN a b=false↔¬ a.toList < b.toList:=by unfold ltN;rw [bl_eq];simp
theorem ltN_trans {c:ByteArray} (h:ltN a b=true) (k:ltN b c=true):ltN a c=true:=ltN_iff.2 (List.lt_trans (ltN_iff.1 h) (ltN_iff.1 k))
theorem toList_inj (h:a.toList=b.toList):a=b:=by
 have h1:a.data.toList=b.data.toList:=by rw [← Lib.toList_data,← Lib.toList_data];exact h
 have h2:a.data=b.data:=Array.toList_inj.1 h1
 cases a;cases b;simpa using h2
theorem ltN_tri (h:ltN a b=false) (k:ltN b a=false):a=b:=toList_inj (List.le_antisymm (ltN_not.1 k) (ltN_not.1 h))
theorem leS_false (h:leS a b=false):ltN b a=true:=by
 unfold leS at h
 rw [Bool.or_eq_false_iff] at h
 cases hb:ltN b a
 · have e:=ltN_tri (a:=a) (b:=b) h.1 hb
   rw [e] at h
   simp at h
 · rfl
def Up (ns:List ByteArray):Prop:=ns.Pairwise (fun a b=>ltN a b=true)
def namesOf (os:List Ob):List ByteArray:=os.map (·.name)
theorem pair_step (ns:List ByteArray) (h:∀ i (hi:i+1 < ns.length),ltN ns[i] ns[i+1]=true):Up ns:=by
 unfold Up
 rw [List.pairwise_iff_getElem]
 intro i j hi hj h0
 obtain ⟨d,rfl⟩:∃ d,j=i+1+d:=⟨j - (i+1),by omega⟩
 clear h0
 induction d with
 | zero=>exact h i hj
 | succ d ih=>exact ltN_trans (ih (by omega)) (h (i+1+d) hj)
section
open Gf
def chunkB (D:Nat) (d:List Nat) (k:Nat):List Nat:=(d.drop (k*(D*44))).take (D*44)
theorem getD_in (h:k < l.length):l.getD k 0=l[k]:=by rw [List.getD_eq_getElem?_getD,List.getElem?_eq_getElem h];rfl
abbrev Obs:=List (Ob×List Nat)
def Obs.os (xs:Obs):List Ob:=xs.map (·.1)
def Obs.names (xs:Obs):List ByteArray:=namesOf xs.os
def Held (A:Arr) (D L G:Nat) (x:Ob×List Nat):Prop:=∀ j,j < x.1.stripes.length→∀ i,i < A.n→A.blk i (x.1.stripes.getD j 0)=(Rec.shard ((stripeL D L G (chunkB D x.2 j)).getD i [])).blk
structure ObFit (D:Nat) (x:Ob×List Nat):Prop where
 fit:x.1.fit
 st:x.1.stripes.length=max 1 ((x.1.size+D*44 - 1) / (D*44))
 len:x.2.length=x.1.size
 byt:∀ b∈x.2,b < 256
structure OnDisk (A:Arr) (D L G t:Nat) (P:List Nat) (xs:Obs):Prop where
 n:A.n=D+L+G
 wait:A.wait < 0
 lost:∀ i,A.lost i=false
 bad:∀ i m,A.bad i m=false
 turn:0 < t
 root:∀ i,i < A.n→A.blk i 0=(Rec.root D L G t (P.getD 0 0) (packL xs.os).length).blk
 fill:∀ i,i < A.n→A.blk i 1=Rec.filled.blk
 pl:P.length=pgs D (packL xs.os).length
 page:∀ k,k < P.length→∀ i,i < A.n→A.blk i (P.getD k 0)=(Rec.shard ((stripeL D L G (pageB D P (packL xs.os) k)).getD i [])).blk
 nod:(P ++ allSt xs.os).Nodup
 inb:∀ x∈P ++ allSt xs.os,2≤x∧x < A.nb
 fits:∀ x∈xs,ObFit D x
 up:Up xs.names
 held:∀ x∈xs,Held A D L G x
 room:(allSt xs.os).length+2*P.length+2≤A.nb
theorem OnDisk.congr {A B:Arr} {P:List Nat} {xs:Obs} (h:OnDisk A D L G t P xs) (h1:B.n=A.n) (h2:B.nb=A.nb) (h3:B.wait=A.wait) (h4:∀ i,B.lost i=A.lost i) (h5:∀ i m,B.bad i m=A.bad i m) (h6:∀ i m,i < A.n→B.blk i m=A.blk i m):OnDisk B D L G t P xs:=
 ⟨h1.trans h.n,by rw [h3];exact h.wait,fun i=>(h4 i).trans (h.lost i),fun i m=>(h5 i m).trans (h.bad i m),h.turn,fun i hi=>by rw [h1] at hi;rw [h6 i 0 hi];exact h.root i hi,fun i hi=>by rw [h1] at hi;rw [h6 i 1 hi];exact h.fill i hi,h.pl,
  fun k hk i hi=>by rw [h1] at hi;rw [h6 i _ hi];exact h.page k hk i hi,h.nod,by rw [h2];exact h.inb,h.fits,h.up,fun x hx j hj i hi=>by rw [h1] at hi;rw [h6 i _ hi];exact h.held x hx j hj i hi,by rw [h2];exact h.room⟩
end
section
open Gf
def Obs.del (xs:Obs) (k:Nat):Obs:=xs.take k ++ xs.drop (k+1)
theorem os_del (xs:Obs) (k:Nat):(xs.del k).os=xs.os.take k ++ xs.os.drop (k+1):=by
 unfold Obs.del Obs.os
 rw [List.map_append,List.map_take,List.map_drop]
theorem allSt_cons (o:Ob) (os:List Ob):allSt (o :: os)=o.stripes ++ allSt os:=by unfold allSt;rw [List.flatMap_cons]
end
section
open Gf
theorem st_le (q s:Nat) (hq:1≤q):max 1 ((s+q - 1) / q)≤s / q+1:=by
 have h1:(s+q - 1) / q≤(s+q) / q:=Nat.div_le_div_right (by omega)
 rw [Nat.add_div_right _ (by omega)] at h1
 generalize s / q=a at h1 ⊢
 generalize (s+q - 1) / q=b at h1 ⊢
 omega
def sumSt (D:Nat) (xs:Obs):Nat:=(xs.map fun x=>x.2.length / (D*44)+1).sum
theorem used_le (hD:1≤D):∀ {xs:Obs},(∀ x∈xs,ObFit D x)→(allSt xs.os).length≤sumSt D xs
 | [],_=>by simp [sumSt,allSt,Obs.os]
 | x :: xs,h=>by
  have ih:=used_le hD (xs:=xs) (fun y hy=>h y (by simp [hy]))
  have hx:=h x (by simp)
  have h1:=st_le (D*44) x.1.size (by omega)
  rw [← hx.st] at h1
  have e:allSt (Obs.os (x :: xs))=x.1.stripes ++ allSt (Obs.os xs):=by unfold Obs.os;rw [List.map_cons,allSt_cons]
  rw [e,List.length_append]
  unfold sumSt at ih ⊢
  rw [List.map_cons,List.sum_cons,hx.len]
  omega
theorem packL_bound (hD:1≤D):∀ {xs:Obs},(∀ x∈xs,ObFit D x)→(packL xs.os).length≤xs.length*(19+4*(1500 / (D*44)+1))
 | [],_=>by simp [packL,Obs.os]
 | x :: xs,h=>by
  have ih:=packL_bound hD (xs:=xs) (fun y hy=>h y (by simp [hy]))
  have hx:=h x (by simp)
  have h1:=st_le (D*44) x.1.size (by omega)
  rw [← hx.st] at h1
  have h2:x.1.size / (D*44)≤1500 / (D*44):=Nat.div_le_div_right hx.fit.size
  have e:packL (Obs.os (x :: xs))=packOb x.1 ++ packL (Obs.os xs):=by unfold Obs.os packL;rw [List.map_cons,List.flatMap_cons]
  rw [e,List.length_append,packOb_len hx.fit,List.length_cons,Nat.add_mul]
  omega
end
section
open Go.Deep
def RowC (w:World) (g:Nat) (e:TypeId) (cur:List Value):Prop:=w.heap[g]?=some (.cells cur.toArray e (0,0))
theorem RowC.lt (h:RowC w g e cur):g < w.heap.size:=(Array.getElem?_eq_some_iff.1 h).1
theorem RowC.cell (h:RowC w g e cur) {j:Nat} {u:Value} (hj:cur[j]?=some u):w.cell? ⟨g,j,none⟩=some u:=by
 unfold RowC at h
 simp [World.cell?,h,hj]
theorem RowC.thaw (h:RowC w g e cur) (j:Nat):w.frozen? ⟨g,j,none⟩=false:=by
 unfold RowC at h
 simp [World.frozen?,h]
theorem RowC.keep (h:RowC w g e cur) (hk:w'.heap[g]?=w.heap[g]?):RowC w' g e cur:=hk.trans h
theorem setA_list:∀ (vs:List Value) (o:Nat) (cur:Array Value),o+vs.length≤cur.size→setA cur o vs=(cur.toList.take o ++ vs ++ cur.toList.drop (o+vs.length)).toArray
 | [],o,cur,_=>by simp [setA]
 | v :: r,o,cur,h=>by
  simp only [List.length_cons] at h ⊢
  unfold setA
  rw [setA_list r (o+1) (cur.setIfInBounds o v) (by simp;omega),Array.toList_setIfInBounds]
  have e:(cur.toList.set o v).take (o+1)=cur.toList.take o ++ [v]:=by
   rw [List.take_add_one,List.take_set_of_le (Nat.le_refl o),List.getElem?_set_self (by simp;omega)]
   rfl
  have e2:(cur.toList.set o v).drop (o+1+r.length)=cur.toList.drop (o+(r.length+1)):=by
   rw [List.drop_set_of_lt (by omega),show o+1+r.length=o+(r.length+1) by omega]
  rw [e,e2]
  simp
theorem RowC.set (h:RowC w g e cur) (o:Nat) (vs:List Value) (ho:o+vs.length≤cur.length):RowC (w.setCells g o vs) g e (cur.take o ++ vs ++ cur.drop (o+vs.length)):=by
 unfold RowC at h ⊢
 rw [heap_setCells vs o w h,setA_list vs o cur.toArray (by simpa using ho)]
theorem Ints.widen {K K':Nat→Prop} (h:Ints K w v l) (hk:∀ k,K k→K' k):Ints K' w v l:=by
 obtain ⟨ao,c,h1,h2,h3⟩:=h
 refine ⟨ao,c,h1,h2,fun hl=>?_⟩
 obtain ⟨b,off,q1,q2,q3⟩:=h3 hl
 exact ⟨b,off,q1,hk b q2,q3⟩
end
section
open Go.Deep Gf
structure Pars (D L G:Nat):Prop where
 r:rightB D L G=true
 d1:1≤D
 d:D≤12
 l1:1≤L
 l4:L≤4
 g:G≤4
 div:D % L=0
 s:D+L+G≤16
structure Live (w:World) (ar v p ps D L G t:Nat) (pg ob:Value) (P:List Nat) (xs:Obs) (A:Arr) (F:Foot):Prop where
 arc:ArcAt w ar v D L G t (P.getD 0 0) (packL xs.os).length pg ob false
 vol:Vol w v p D L G ps 0 A F
 free:Free F p A.n v
 nar:¬ F.has p A.n ar
 vne:v≠ar
 arK:3≤ar
 fit:A.fit
 par:Pars D L G
 disk:OnDisk A D L G t P xs
 pgs:Ints (fun k=>ar < k∧¬ F.has p A.n k) w pg P
 cat:Cat (fun k=>ar < k∧¬ F.has p A.n k) w ob xs.os
 nb:A.nb≤1000
 turn:t≤1000000
theorem allSt_ge:∀ {xs:Obs},(∀ x∈xs,ObFit D x)→xs.os.length≤(allSt xs.os).length
 | [],_=>Nat.le_refl _
 | x :: xs,h=>by
  have ih:=allSt_ge (xs:=xs) (fun y hy=>h y (by simp [hy]))
  have hx:=(h x (by simp)).st
  have h1:1≤x.1.stripes.length:=by rw [hx];exact Nat.le_max_left _ _
  have e:allSt (Obs.os (x :: xs))=x.1.stripes ++ allSt (Obs.os xs):=by simp [allSt,Obs.os]
  have e2:(Obs.os (x :: xs)).length=(Obs.os xs).length+1:=by simp [Obs.os]
  rw [e,e2,List.length_append]
  omega
section
variable {w:World} {ar v p ps D L G t:Nat} {pg ob:Value} {P:List Nat} {xs:Obs} {A:Arr} {F:Foot}
theorem Live.n0 (h:Live w ar v p ps D L G t pg ob P xs A F):0 < A.n:=by have:=h.disk.n;have:=h.par.d1;omega
theorem Live.few (h:Live w ar v p ps D L G t pg ob P xs A F):xs.os.length≤1000∧(allSt xs.os).length≤1000∧P.length≤1000:=by
 have h1:=allSt_ge h.disk.fits
 have h2:=h.disk.room
 have h3:=h.nb
 omega
theorem Live.packL_le (h:Live w ar v p ps D L G t pg ob P xs A F):(packL xs.os).length≤1000000:=by
 have h1:=packL_bound h.par.d1 h.disk.fits
 have h2:=h.few.1
 have e:xs.os.length=xs.length:=by simp [Obs.os]
 have h3:1500 / (D*44)≤34:=by
  have:=h.par.d1
  have:1500 / (D*44)≤1500 / 44:=Nat.div_le_div_left (by omega) (by decide)
  omega
 have h4:xs.length*(19+4*(1500 / (D*44)+1))≤1000*(19+4*(34+1)):=Nat.mul_le_mul (by omega) (by omega)
 omega
theorem Live.below (h:Live w ar v p ps D L G t pg ob P xs A F) {w':World} (hb:Below w.heap.size w w'):Live w' ar v p ps D L G t pg ob P xs A F:=
 ⟨h.arc.keep (hb.block _ h.arc.lt),h.vol.below hb (Nat.le_refl _),h.free,h.nar,h.vne,h.arK,h.fit,h.par,h.disk,h.pgs.keep (KpS.of_below hb),h.cat.keep (KpS.of_below hb),h.nb,h.turn⟩
end
end
section
open Go.Deep
theorem few_any (a b c:Int) (w:World):Calls Tryz.prog 4 #[.int .i64 a,.int .i64 b,.int .i64 c] w fun e w'=>∃ D L G:Nat,e=.returned (.agg #[.int .i64 D,.int .i64 L,.int .i64 G])∧Pars D L G∧D≤6∧Below w.heap.size w w':=by
 obtain ⟨ka,h3,eka⟩:=rem_key a 6 (by decide) (by decide)
 obtain ⟨kb,h4,ekb⟩:=rem_key b 3 (by decide) (by decide)
 obtain ⟨kc,h8,ekc⟩:=rem_key c 4 (by decide) (by decide)
 have eka':wrap64 ((IntKind.u64.wrap a).tmod 6)=(ka:Int):=by simpa using eka
 have ekb':wrap64 ((IntKind.u64.wrap b).tmod 3)=(kb:Int):=by simpa using ekb
 have ekc':wrap64 ((IntKind.u64.wrap c).tmod 4)=(kc:Int):=by simpa using ekc
 obtain ⟨D,hD⟩:∃ D,ka+1=D:=⟨_,rfl⟩
 obtain ⟨l0,h5⟩:∃ l0,kb+1=l0:=⟨_,rfl⟩
 have eD:wrap64 (1+(ka:Int))=(D:Int):=by unfold wrap64;omega
 have el:wrap64 (1+(kb:Int))=(l0:Int):=by unfold wrap64;omega
 clear eka ekb ekc
 have h9:1≤D∧D≤6:=by omega
 have h2:1≤l0∧l0≤3:=by omega
 clear hD h5 h3 h4
 go_enter Tryz.func4,Tryz.ntmps4
 go_wp2
 go_loopw [8] (fun v wr=>∃ l:Nat,1≤l∧l≤3∧v=.int .i64 (l:Nat)∧wr=w.alloc (.cells #[.int .i64 0,.int .i64 0,.int .i64 0] 23)) (fun v _=>(intOf v).toNat)
 case atStart=>exact ⟨l0,h2.1,h2.2,by rw [el],rfl⟩
 case round=>
  obtain ⟨l,h6,h7,rfl,rfl⟩:=hrel
  have ha:¬ (l:Int)=0:=by omega
  have hm:Int.tmod (D:Int) (l:Int)=((D % l:Nat):Int):=by rw [Int.tmod_eq_emod_of_nonneg (by omega),Int.natCast_emod]
  obtain ⟨m,h1⟩:∃ m,D % l=m:=⟨_,rfl⟩
  rw [h1] at hm
  by_cases h0:m=0
  · subst h0
    have HP:Hid (Pars D l kc):=hide ⟨by unfold rightB;apply decide_eq_true;refine ⟨by omega,by omega,by omega,by omega,by omega,by omega,?_,by omega⟩;rw [← Int.natCast_emod,h1];rfl,by omega,by omega,h6,by omega,by omega,h1,by omega⟩
    clear h1
    go_wp2
    have hR:RowC (w.alloc (.cells #[.int .i64 (D:Nat),.int .i64 (l:Nat),.int .i64 (kc:Nat)] 23)) w.heap.size 23 [.int .i64 (D:Nat),.int .i64 (l:Nat),.int .i64 (kc:Nat)]:=heap_alloc_last w _
    have x0:=hR.cell (j:=0) (u:=.int .i64 (D:Nat)) rfl
    have x1:=hR.cell (j:=1) (u:=.int .i64 (l:Nat)) rfl
    have x2:=hR.cell (j:=2) (u:=.int .i64 (kc:Nat)) rfl
    refine bodyPost_ret (v:=.agg #[.int .i64 (D:Nat),.int .i64 (l:Nat),.int .i64 (kc:Nat)]) (by simp [results,Tryz.results4,go_sem,x0,x1,x2]) rfl ?_
    exact ⟨D,l,kc,rfl,HP.out,by omega,(Below.refl _ w).alloc (Nat.le_refl _) _⟩
  · have hc:2≤l:=by
     rcases Nat.lt_or_ge l 2 with h | h
     · have:l=1:=by omega
       subst this
       rw [Nat.mod_one] at h1
       omega
     · exact h
    have he:¬ (m:Int)=0:=by omega
    have hw:IntKind.i64.wrap ((l:Int) - 1)=(l:Int) - 1:=by rw [IntKind.wrap_i64];omega
    clear h1
    go_wp2
    refine ⟨⟨l - 1,by omega,by omega,by rw [show ((l - 1:Nat):Int)=(l:Int) - 1 by omega],trivial⟩,?_⟩
    show ((l:Int) - 1).toNat < ((l:Int)).toNat
    omega
end
section
open Go.Shelf Go.Deep Gf
attribute [local go_sem] Oper.semAt_some
end
section
open Go.Deep Gf
theorem packL_lt (os:List Ob):∀ x∈packL os,x < 256:=by
 intro x hx
 unfold packL at hx
 obtain ⟨o,_,hx⟩:=List.mem_flatMap.1 hx
 unfold packOb at hx
 simp only [List.mem_append] at hx
 rcases hx with ((h | h) | h) | h
 · exact be_lt _ _ x h
 · unfold nameB at h
   rcases List.mem_append.1 h with h | h
   · obtain ⟨b,_,rfl⟩:=List.mem_map.1 h
     exact b.toNat_lt
   · rw [List.eq_of_mem_replicate h];decide
 · exact be_lt _ _ x h
 · obtain ⟨s,_,h⟩:=List.mem_flatMap.1 h
   exact be_lt _ _ x h
end
section
open Go.Deep Gf
theorem vol_ne_arc {v f D' L' G' ho:Nat} {pg ob:Value} {off:Bool} (ha:ArcAt w ar v D L G t f n pg ob off) (hv:VolAt w v p D' L' G' ps ho):v≠ar:=fun e=>by
 subst e
 have h1:w.heap[v]?=some (.cells (arcA v D L G t f n pg ob off) 98 (0,0)):=ha
 have h2:=hv
 unfold VolAt at h2
 rw [h1] at h2
 cases h2
theorem live_new {v:Nat} {u:Value} {A:Arr} {F:Foot} {cache:Int} (h:NewArc w w' p D L G ar v ps u A F cache) (hA:ArrAt w p A F) (hn:A.n=D+L+G) (hr:Pars D L G) (hc:8≤A.nb) (h1:A.nb≤1000) (hw:A.wait < 0) (h0:∀ i,A.lost i=false) (h2:∀ i m,A.bad i m=false) (hK:3≤w.heap.size) (h5:¬ F.has p A.n 2) (h6:¬ F.has p A.n 1) (h7:(newArc (A.readTo A.n) D L G).fit) :
 Live w' ar v p ps D L G 1 u (.slice none 0 0) [2] [] (newArc (A.readTo A.n) D L G) F:=by
 have h3:∀ j,F.has p A.n j→j < w.heap.size:=fun j hj=>hA.has_lt hj
 have he:(newArc (A.readTo A.n) D L G).n=A.n:=rfl
 have h4:(newArc (A.readTo A.n) D L G).nb=A.nb:=rfl
 have ho:=newOn (A:=A.readTo A.n) D L G h2 h0 hw
 have h8:pgs D 0=1:=by
  unfold pgs
  have:=hr.d1
  rw [Nat.zero_add,Nat.div_eq_of_lt (by omega)];rfl
 have h9:=h.arGe
 have hf:=h.vGe
 refine ⟨h.arc,h.vol,⟨fun e=>by have:=h3 _ e;omega,h5,h6⟩,fun e=>by have:=h3 _ e;omega,vol_ne_arc h.arc h.vol.vol,by omega,h7,hr,?_,?_,Cat.nil _ _,by rw [h4];exact h1,by decide⟩
 · refine ⟨hn,ho.wait,ho.lost,ho.bad,by decide,ho.root,ho.fill,?_,?_,by decide,?_,(fun x hx=>by cases hx),List.Pairwise.nil,(fun x hx=>by cases hx),?_⟩
   · show 1=pgs D 0
     exact h8.symm
   · intro k hk i hi
     have ha:k=0:=by have:k < 1:=hk;omega
     subst ha
     exact ho.page i hi
   · intro x hx
     have:x=2:=by simpa [allSt,Obs.os] using hx
     rw [this,h4];omega
   · show 0+2*1+2≤A.nb
     omega
 · exact h.pg.widen fun k hk=>⟨hk.2,fun e=>by have:=h3 _ e;have:=hk.1;omega⟩
end
end Go.Proofs.YthcgahldacpolaaGreatDoor
