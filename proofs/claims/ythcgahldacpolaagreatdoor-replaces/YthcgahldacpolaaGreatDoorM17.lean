import Derived.Test.YthcgahldacpolaaGreatDoorM16
import Derived.Deep.RegionHeld
import Derived.Deep.WholeRow
import Derived.Laws.Tables
set_option maxRecDepth 100000
set_option maxHeartbeats 8000000
namespace Go.Proofs.YthcgahldacpolaaGreatDoor
open Go.RowKit Go.Deep Gf
variable {a:Act} {ops:Array Oper} {cs:Array Value} {Q:Exit→Act→World→Prop} {i S g x q7 n r v b N q l gone sp k c:Nat} {D Dn:Nat→Bool} {f:Nat→Value} {w w':World} {K:World→Prop}
section
open Go.Shelf
theorem upd_ne {j:Nat} (h:j≠i):upd D i j=D j:=if_neg h
theorem upd_eq:upd D i i=true:=if_pos rfl
theorem andNot_zero (S:Nat) (hS:S < 65536):bits .andNot .u64 (S:Int) 0=(S:Int):=by
 have:=behind_key S 0 hS (by omega)
 simpa using this
def BF1 (w:World) (S:Nat) (Dn:Nat→Bool) (w':World):Prop:=w'=if Dn 11=true then w.drew.alloc (.cells #[.int .u64 S] 101) else w.drew
theorem BF1_upd (h:BF1 w S Dn w') (i:Nat) (hi:11≠i):BF1 w S (upd Dn i) w':=by unfold BF1;rw [upd_ne hi];exact h
theorem BF1_cell (h:BF1 w S Dn w') {a:Addr} {v:Value} (hc:w.cell? a=some v):w'.cell? a=some v:=by
 unfold BF1 at h
 subst h
 split
 · exact (World.cell?_alloc_some w.drew a _ (by rw [show w.drew.cell? a=w.cell? a from rfl,hc];rfl)).trans hc
 · exact hc
def BRd (w:World) (K:World→Prop) (Dn:Nat→Bool) (w':World):Prop:=if Dn 9=true then K w' else w'=w.drew
theorem BRd_upd (h:BRd w K Dn w') (i:Nat) (hi:9≠i):BRd w K (upd Dn i) w':=by unfold BRd;rw [upd_ne hi];exact h
def BF8 (w:World) (g x q7:Nat) (Dn:Nat→Bool) (w':World):Prop:=w'=if Dn 8=true then w.drew.setCell ⟨g,x,none⟩ (.slice (some ⟨q7,0,none⟩) 44 44) else w.drew
theorem BF8_upd (h:BF8 w g x q7 Dn w') (i:Nat) (hi:8≠i):BF8 w g x q7 (upd Dn i) w':=by unfold BF8;rw [upd_ne hi];exact h
theorem BF8_cell (h:BF8 w g x q7 Dn w') {a:Addr} (hg:a.block≠g) {v:Value} (hc:w.cell? a=some v):w'.cell? a=some v:=by
 unfold BF8 at h
 subst h
 split
 · exact (World.cell?_of_block (blk_setCell_other _ _ _ _ hg)).trans hc
 · exact hc
noncomputable def RFe1:Array Oper:=((Tryz.f62.body.bind (rgf · 1))).getD #[]
def shFe1:List (Op×Option Nat×List Nat):=[(Op.move (.tmp 1),some 9,[]),
 (Op.load 127 (.tmp 2),some 10,[]),
 (Op.nilCheck (.tmp 10),some 11,[1]),
 (Op.fieldAddr 149 (.tmp 11) 3,some 12,[2]),
 (Op.load 101 (.tmp 12),some 13,[3]),
 (Op.binOp BinOp.andNot 101 (.tmp 9) (.tmp 13) 101,some 14,[0,4]),
 (Op.load 127 (.tmp 2),some 15,[]),
 (Op.nilCheck (.tmp 15),some 16,[6]),
 (Op.fieldAddr 149 (.tmp 16) 4,some 17,[7]),
 (Op.load 101 (.tmp 17),some 18,[8]),
 (Op.binOp BinOp.andNot 101 (.tmp 14) (.tmp 18) 101,some 19,[5,9]),
 (Op.call { callee:=Callee.value (Operand.func 66),args:=#[.tmp 19],argTypes:=#[101] },some 20,[10])]
theorem RFe1_shape:RegShape RFe1 9 21 shFe1:=regShape (by kernel_rfl) (by kernel_rfl)
def vsFe1 (w:World) (r S:Nat):List Value:=[.int .u64 S,.pointer (some ⟨r,0,none⟩),.pointer (some ⟨r,0,none⟩),.pointer (some ⟨r,3,none⟩),.int .u64 0,.int .u64 S,.pointer (some ⟨r,0,none⟩),.pointer (some ⟨r,0,none⟩),.pointer (some ⟨r,4,none⟩),.int .u64 0,.int .u64 S,.func (.func 83) #[] #[.pointer (some ⟨w.heap.size,0,none⟩)]]
theorem fetch_region1 (h2:Boxed w q 127 (.pointer (some ⟨r,0,none⟩))) (hr:RdAt w r v b g N 0 0) (hS:S < 65536) (h6:RFe1=ops) (ha:a.tmps.size=100)
 (e1:a.eval (.tmp 1)=.int .u64 S) (e2:a.eval (.tmp 2)=.pointer (some ⟨q,0,none⟩))
 (hQ:∀ (w':World),w'=w.drew.alloc (.cells #[.int .u64 S] 101)→Q .normal (Act.putFrom a 9 [.int .u64 S,.pointer (some ⟨r,0,none⟩),.pointer (some ⟨r,0,none⟩),.pointer (some ⟨r,3,none⟩),.int .u64 0,.int .u64 S,.pointer (some ⟨r,0,none⟩),.pointer (some ⟨r,0,none⟩),.pointer (some ⟨r,4,none⟩),.int .u64 0,.int .u64 S,.func (.func 83) #[] #[.pointer (some ⟨w.heap.size,0,none⟩)]]) w'):(Code.region 1 ops true).wpIn Fence.wide n Tryz.prog Q a w:=by
 subst h6
 obtain ⟨_,_,_,c3,c4⟩:=hr.cells
 have cq:=h2.cell
 have hc:=andNot_zero S hS
 refine region_factsI (by kernel_rfl) RFe1_shape a w (by omega) (fun i u _=>u=(vsFe1 w r S).getD i undef) (BF1 w S) rfl ?_ ?_
 · intro i hi
   match i,hi with
   | 0,_=>
    intro o a' w' Dn hg ho h0 hk h4 h5 h1 hB h3
    have u0:a'.eval (.tmp 1)=.int .u64 S:=(hk.slot 1 (by omega)).trans e1
    exact opW_val (run_op_move ho u0 w') (by rw [ho];intro c h;cases h) h0 ⟨BF1_upd hB 0 (by decide),rfl,kq⟩
   | 1,_=>
    intro o a' w' Dn hg ho h0 hk h4 h5 h1 hB h3
    have u0:a'.eval (.tmp 2)=.pointer (some ⟨q,0,none⟩):=(hk.slot 2 (by omega)).trans e2
    have cc:w'.cell? ⟨q,0,none⟩=some (.pointer (some ⟨r,0,none⟩)):=BF1_cell hB cq
    exact opW_val (v:=.pointer (some ⟨r,0,none⟩)) (by simp only [execOp,show o.op=Op.load 127 (.tmp 2) from ho,u0];go_simp) (by rw [ho];intro c h;cases h) h0 ⟨BF1_upd hB 1 (by decide),rfl,kq⟩
   | 2,_=>
    intro o a' w' Dn hg ho h0 hk h4 h5 h1 hB h3
    have u0:a'.eval (.tmp 10)=.pointer (some ⟨r,0,none⟩):=h3 1 (h1 1 (by decide))
    exact opW_val (run_op_nil ho u0 w') (by rw [ho];intro c h;cases h) h0 ⟨BF1_upd hB 2 (by decide),rfl,kq⟩
   | 3,_=>
    intro o a' w' Dn hg ho h0 hk h4 h5 h1 hB h3
    have u0:a'.eval (.tmp 11)=.pointer (some ⟨r,0,none⟩):=h3 2 (h1 2 (by decide))
    exact opW_val (v:=.pointer (some ⟨r,3,none⟩)) (by simp only [execOp,show o.op=Op.fieldAddr 149 (.tmp 11) 3 from ho,u0];go_simp) (by rw [ho];intro c h;cases h) h0 ⟨BF1_upd hB 3 (by decide),rfl,kq⟩
   | 4,_=>
    intro o a' w' Dn hg ho h0 hk h4 h5 h1 hB h3
    have u0:a'.eval (.tmp 12)=.pointer (some ⟨r,3,none⟩):=h3 3 (h1 3 (by decide))
    have cc:w'.cell? ⟨r,3,none⟩=some (.int .u64 0):=BF1_cell hB c3
    exact opW_val (v:=.int .u64 0) (by simp only [execOp,show o.op=Op.load 101 (.tmp 12) from ho,u0];go_simp) (by rw [ho];intro c h;cases h) h0 ⟨BF1_upd hB 4 (by decide),rfl,kq⟩
   | 5,_=>
    intro o a' w' Dn hg ho h0 hk h4 h5 h1 hB h3
    have u0:a'.eval (.tmp 9)=.int .u64 S:=h3 0 (h1 0 (by decide))
    have u1:a'.eval (.tmp 13)=.int .u64 0:=h3 4 (h1 4 (by decide))
    exact opW_val (v:=.int .u64 S) (by simp only [execOp,show o.op=Op.binOp BinOp.andNot 101 (.tmp 9) (.tmp 13) 101 from ho,u0,u1];go_simp) (by rw [ho];intro c h;cases h) h0 ⟨BF1_upd hB 5 (by decide),rfl,kq⟩
   | 6,_=>
    intro o a' w' Dn hg ho h0 hk h4 h5 h1 hB h3
    have u0:a'.eval (.tmp 2)=.pointer (some ⟨q,0,none⟩):=(hk.slot 2 (by omega)).trans e2
    have cc:w'.cell? ⟨q,0,none⟩=some (.pointer (some ⟨r,0,none⟩)):=BF1_cell hB cq
    exact opW_val (v:=.pointer (some ⟨r,0,none⟩)) (by simp only [execOp,show o.op=Op.load 127 (.tmp 2) from ho,u0];go_simp) (by rw [ho];intro c h;cases h) h0 ⟨BF1_upd hB 6 (by decide),rfl,kq⟩
   | 7,_=>
    intro o a' w' Dn hg ho h0 hk h4 h5 h1 hB h3
    have u0:a'.eval (.tmp 15)=.pointer (some ⟨r,0,none⟩):=h3 6 (h1 6 (by decide))
    exact opW_val (run_op_nil ho u0 w') (by rw [ho];intro c h;cases h) h0 ⟨BF1_upd hB 7 (by decide),rfl,kq⟩
   | 8,_=>
    intro o a' w' Dn hg ho h0 hk h4 h5 h1 hB h3
    have u0:a'.eval (.tmp 16)=.pointer (some ⟨r,0,none⟩):=h3 7 (h1 7 (by decide))
    exact opW_val (v:=.pointer (some ⟨r,4,none⟩)) (by simp only [execOp,show o.op=Op.fieldAddr 149 (.tmp 16) 4 from ho,u0];go_simp) (by rw [ho];intro c h;cases h) h0 ⟨BF1_upd hB 8 (by decide),rfl,kq⟩
   | 9,_=>
    intro o a' w' Dn hg ho h0 hk h4 h5 h1 hB h3
    have u0:a'.eval (.tmp 17)=.pointer (some ⟨r,4,none⟩):=h3 8 (h1 8 (by decide))
    have cc:w'.cell? ⟨r,4,none⟩=some (.int .u64 0):=BF1_cell hB c4
    exact opW_val (v:=.int .u64 0) (by simp only [execOp,show o.op=Op.load 101 (.tmp 17) from ho,u0];go_simp) (by rw [ho];intro c h;cases h) h0 ⟨BF1_upd hB 9 (by decide),rfl,kq⟩
   | 10,_=>
    intro o a' w' Dn hg ho h0 hk h4 h5 h1 hB h3
    have u0:a'.eval (.tmp 14)=.int .u64 S:=h3 5 (h1 5 (by decide))
    have u1:a'.eval (.tmp 18)=.int .u64 0:=h3 9 (h1 9 (by decide))
    exact opW_val (v:=.int .u64 S) (by simp only [execOp,show o.op=Op.binOp BinOp.andNot 101 (.tmp 14) (.tmp 18) 101 from ho,u0,u1];go_simp) (by rw [ho];intro c h;cases h) h0 ⟨BF1_upd hB 10 (by decide),rfl,kq⟩
   | 11,_=>
    intro o a' w' Dn hg ho h0 hk h4 h5 h1 hB h3
    have u0:a'.eval (.tmp 19)=.int .u64 S:=h3 10 (h1 10 (by decide))
    refine opW_call (f:=66) (args:=#[.int .u64 S]) (w1:=w') (by simp only [execOp,show o.op=Op.call { callee:=Callee.value (Operand.func 66),args:=#[.tmp 19],argTypes:=#[101] } from ho];go_simp;simpa [Act.eval] using u0) (by rw [ho];intro c h;cases h) h0 (members_any S w') ?_
    rintro e w'' ⟨rfl,rfl⟩
    have hw:w'=w.drew:=by have:=hB;unfold BF1 at this;rw [if_neg (by rw [h4];decide)] at this;exact this
    subst hw
    exact ⟨_,rfl,by unfold BF1;rw [if_pos upd_eq],rfl,kq⟩
   | n+12,hn=>exact absurd hn (by show ¬ n+12 < 12;omega)
 · rintro a' w' h8 h7 ⟨Dn,h9,hB⟩ h3
   have e:a'=Act.putFrom a 9 [.int .u64 S,.pointer (some ⟨r,0,none⟩),.pointer (some ⟨r,0,none⟩),.pointer (some ⟨r,3,none⟩),.int .u64 0,.int .u64 S,.pointer (some ⟨r,0,none⟩),.pointer (some ⟨r,0,none⟩),.pointer (some ⟨r,4,none⟩),.int .u64 0,.int .u64 S,.func (.func 83) #[] #[.pointer (some ⟨w.heap.size,0,none⟩)]]:=h8.out _ rfl (by omega) (fun i hi=>?_)
   · rw [e];exact hQ w' (by unfold BF1 at hB;rw [if_pos (h9 11 (by decide))] at hB;exact hB)
   · match i,hi with
     | 0,_=>exact h3 0 (by decide)
     | 1,_=>exact h3 1 (by decide)
     | 2,_=>exact h3 2 (by decide)
     | 3,_=>exact h3 3 (by decide)
     | 4,_=>exact h3 4 (by decide)
     | 5,_=>exact h3 5 (by decide)
     | 6,_=>exact h3 6 (by decide)
     | 7,_=>exact h3 7 (by decide)
     | 8,_=>exact h3 8 (by decide)
     | 9,_=>exact h3 9 (by decide)
     | 10,_=>exact h3 10 (by decide)
     | 11,_=>exact h3 11 (by decide)
     | n+12,hn=>exact absurd hn (by simp)
noncomputable def RF4:Array Oper:=((Tryz.f62.body.bind (rgf · 4))).getD #[]
def shF4:List (Op×Option Nat×List Nat):=[(Op.load 127 (.tmp 2),some 31,[]),
 (Op.nilCheck (.tmp 31),some 32,[0]),
 (Op.fieldAddr 149 (.tmp 32) 0,some 33,[1]),
 (Op.load 91 (.tmp 33),some 34,[2]),
 (Op.move (.tmp 4),some 35,[]),
 (Op.load 127 (.tmp 2),some 36,[]),
 (Op.nilCheck (.tmp 36),some 37,[5]),
 (Op.fieldAddr 149 (.tmp 37) 1,some 38,[6]),
 (Op.load 3 (.tmp 38),some 39,[7]),
 (Op.call { callee:=Callee.value (Operand.func 71),args:=#[.tmp 34,.tmp 35,.tmp 39],argTypes:=#[91,3,3] },some 40,[3,4,8]),
 (Op.move (.tmp 40),some 30,[9]),
 (Op.extract (.tmp 30) 0,some 41,[10]),
 (Op.extract (.tmp 30) 1,some 42,[10]),
 (Op.assign (.tmp 41),some 5,[11,9,0,1,2,3,4,5,6,7,8,9,10,11]),
 (Op.assign (.tmp 42),some 6,[12,13,0,1,2,3,4,5,6,7,8,9,10,11,12,13])]
theorem RF4_shape:RegShape RF4 5 43 shF4:=regShape (by kernel_rfl) (by kernel_rfl)
def vsF4 (r v x b:Nat) (Xv Yv:Value):List Value:=[.pointer (some ⟨r,0,none⟩),.pointer (some ⟨r,0,none⟩),.pointer (some ⟨r,0,none⟩),.pointer (some ⟨v,0,none⟩),.int .i64 x,.pointer (some ⟨r,0,none⟩),.pointer (some ⟨r,0,none⟩),.pointer (some ⟨r,1,none⟩),.int .i64 b,.tuple #[Xv,Yv],.tuple #[Xv,Yv],Xv,Yv,Xv,Yv]
theorem fetch_region4 {Xv Yv:Value} (x:Nat) (h8:Calls Tryz.prog 71 #[.pointer (some ⟨v,0,none⟩),.int .i64 x,.int .i64 b] w.drew fun e w'=>e=.returned (.tuple #[Xv,Yv])∧K w') (h2:Boxed w q 127 (.pointer (some ⟨r,0,none⟩))) (hr:RdAt w r v b g N gone sp) (ha:RF4=ops) (hf:a.tmps.size=100)
 (e2:a.eval (.tmp 2)=.pointer (some ⟨q,0,none⟩)) (e4:a.eval (.tmp 4)=.int .i64 x)
 (hQ:∀ (w':World),K w'→Q .normal (Act.putFrom (Act.putFrom a 5 [Xv,Yv]) 30 [.tuple #[Xv,Yv],.pointer (some ⟨r,0,none⟩),.pointer (some ⟨r,0,none⟩),.pointer (some ⟨r,0,none⟩),.pointer (some ⟨v,0,none⟩),.int .i64 x,.pointer (some ⟨r,0,none⟩),.pointer (some ⟨r,0,none⟩),.pointer (some ⟨r,1,none⟩),.int .i64 b,.tuple #[Xv,Yv],Xv,Yv]) w'):(Code.region 4 ops true).wpIn (Fence.wide.inRound l) n Tryz.prog Q a w:=by
 subst ha
 have cq:=h2.cell
 obtain ⟨c0,c1,_⟩:=hr.cells
 refine region_factsI (by kernel_rfl) RF4_shape a w (by omega) (fun i u _=>u=(vsF4 r v x b Xv Yv).getD i undef) (BRd w K) rfl ?_ ?_
 · intro i hi
   match i,hi with
   | 0,_=>
    intro o a' w' Dn hg ho h0 hk h5 h4 h1 hB h3
    have u0:a'.eval (.tmp 2)=.pointer (some ⟨q,0,none⟩):=(hk.slot 2 (by omega)).trans e2
    have h7:w'=w.drew:=by
     have h6:=hB
     unfold BRd at h6
     rwa [if_neg (fun e=>by have q:=((h4 1 ((h4 2 ((h4 3 ((h4 9 e).2 3 (by decide))).2 2 (by decide))).2 1 (by decide))).2 0 (by decide));rw [h5] at q;cases q)] at h6
    have cc:w'.cell? ⟨q,0,none⟩=some (.pointer (some ⟨r,0,none⟩)):=by rw [h7];exact cq
    exact opI_val (v:=.pointer (some ⟨r,0,none⟩)) (by simp only [execOp,show o.op=Op.load 127 (.tmp 2) from ho,u0];go_simp) (by rw [ho];intro c h;cases h) h0 ⟨BRd_upd hB 0 (by decide),rfl,kq⟩
   | 1,_=>
    intro o a' w' Dn hg ho h0 hk h5 h4 h1 hB h3
    have u0:a'.eval (.tmp 31)=.pointer (some ⟨r,0,none⟩):=h3 0 (h1 0 (by decide))
    exact opI_val (run_op_nil ho u0 w') (by rw [ho];intro c h;cases h) h0 ⟨BRd_upd hB 1 (by decide),rfl,kq⟩
   | 2,_=>
    intro o a' w' Dn hg ho h0 hk h5 h4 h1 hB h3
    have u0:a'.eval (.tmp 32)=.pointer (some ⟨r,0,none⟩):=h3 1 (h1 1 (by decide))
    exact opI_val (v:=.pointer (some ⟨r,0,none⟩)) (by simp only [execOp,show o.op=Op.fieldAddr 149 (.tmp 32) 0 from ho,u0];go_simp) (by rw [ho];intro c h;cases h) h0 ⟨BRd_upd hB 2 (by decide),rfl,kq⟩
   | 3,_=>
    intro o a' w' Dn hg ho h0 hk h5 h4 h1 hB h3
    have u0:a'.eval (.tmp 33)=.pointer (some ⟨r,0,none⟩):=h3 2 (h1 2 (by decide))
    have h7:w'=w.drew:=by
     have h6:=hB
     unfold BRd at h6
     rwa [if_neg (fun e=>by have q:=((h4 9 e).2 3 (by decide));rw [h5] at q;cases q)] at h6
    have cc:w'.cell? ⟨r,0,none⟩=some (.pointer (some ⟨v,0,none⟩)):=by rw [h7];exact c0
    exact opI_val (v:=.pointer (some ⟨v,0,none⟩)) (by simp only [execOp,show o.op=Op.load 91 (.tmp 33) from ho,u0];go_simp) (by rw [ho];intro c h;cases h) h0 ⟨BRd_upd hB 3 (by decide),rfl,kq⟩
   | 4,_=>
    intro o a' w' Dn hg ho h0 hk h5 h4 h1 hB h3
    have u0:a'.eval (.tmp 4)=.int .i64 x:=(hk.slot 4 (by omega)).trans e4
    exact opI_val (run_op_move ho u0 w') (by rw [ho];intro c h;cases h) h0 ⟨BRd_upd hB 4 (by decide),rfl,kq⟩
   | 5,_=>
    intro o a' w' Dn hg ho h0 hk h5 h4 h1 hB h3
    have u0:a'.eval (.tmp 2)=.pointer (some ⟨q,0,none⟩):=(hk.slot 2 (by omega)).trans e2
    have h7:w'=w.drew:=by
     have h6:=hB
     unfold BRd at h6
     rwa [if_neg (fun e=>by have q:=((h4 6 ((h4 7 ((h4 8 ((h4 9 e).2 8 (by decide))).2 7 (by decide))).2 6 (by decide))).2 5 (by decide));rw [h5] at q;cases q)] at h6
    have cc:w'.cell? ⟨q,0,none⟩=some (.pointer (some ⟨r,0,none⟩)):=by rw [h7];exact cq
    exact opI_val (v:=.pointer (some ⟨r,0,none⟩)) (by simp only [execOp,show o.op=Op.load 127 (.tmp 2) from ho,u0];go_simp) (by rw [ho];intro c h;cases h) h0 ⟨BRd_upd hB 5 (by decide),rfl,kq⟩
   | 6,_=>
    intro o a' w' Dn hg ho h0 hk h5 h4 h1 hB h3
    have u0:a'.eval (.tmp 36)=.pointer (some ⟨r,0,none⟩):=h3 5 (h1 5 (by decide))
    exact opI_val (run_op_nil ho u0 w') (by rw [ho];intro c h;cases h) h0 ⟨BRd_upd hB 6 (by decide),rfl,kq⟩
   | 7,_=>
    intro o a' w' Dn hg ho h0 hk h5 h4 h1 hB h3
    have u0:a'.eval (.tmp 37)=.pointer (some ⟨r,0,none⟩):=h3 6 (h1 6 (by decide))
    exact opI_val (v:=.pointer (some ⟨r,1,none⟩)) (by simp only [execOp,show o.op=Op.fieldAddr 149 (.tmp 37) 1 from ho,u0];go_simp) (by rw [ho];intro c h;cases h) h0 ⟨BRd_upd hB 7 (by decide),rfl,kq⟩
   | 8,_=>
    intro o a' w' Dn hg ho h0 hk h5 h4 h1 hB h3
    have u0:a'.eval (.tmp 38)=.pointer (some ⟨r,1,none⟩):=h3 7 (h1 7 (by decide))
    have h7:w'=w.drew:=by
     have h6:=hB
     unfold BRd at h6
     rwa [if_neg (fun e=>by have q:=((h4 9 e).2 8 (by decide));rw [h5] at q;cases q)] at h6
    have cc:w'.cell? ⟨r,1,none⟩=some (.int .i64 b):=by rw [h7];exact c1
    exact opI_val (v:=.int .i64 b) (by simp only [execOp,show o.op=Op.load 3 (.tmp 38) from ho,u0];go_simp) (by rw [ho];intro c h;cases h) h0 ⟨BRd_upd hB 8 (by decide),rfl,kq⟩
   | 9,_=>
    intro o a' w' Dn hg ho h0 hk h5 h4 h1 hB h3
    have u0:a'.eval (.tmp 34)=.pointer (some ⟨v,0,none⟩):=h3 3 (h1 3 (by decide))
    have u1:a'.eval (.tmp 35)=.int .i64 x:=h3 4 (h1 4 (by decide))
    have u2:a'.eval (.tmp 39)=.int .i64 b:=h3 8 (h1 8 (by decide))
    have h7:w'=w.drew:=by
     have h6:=hB
     unfold BRd at h6
     rwa [if_neg (fun e=>by have q:=e;rw [h5] at q;cases q)] at h6
    refine opI_call (f:=71) (args:=#[.pointer (some ⟨v,0,none⟩),.int .i64 x,.int .i64 b]) (w1:=w') (by simp only [execOp,show o.op=Op.call { callee:=Callee.value (Operand.func 71),args:=#[.tmp 34,.tmp 35,.tmp 39],argTypes:=#[91,3,3] } from ho];go_simp;exact ⟨by simpa [Act.eval] using u0,by simpa [Act.eval] using u1,by simpa [Act.eval] using u2⟩) (by rw [ho];intro c h;cases h) h0 (by rw [h7];exact h8) ?_
    rintro e w'' ⟨rfl,hK⟩
    exact ⟨_,rfl,by unfold BRd;rw [if_pos upd_eq];exact hK,rfl,kq⟩
   | 10,_=>
    intro o a' w' Dn hg ho h0 hk h5 h4 h1 hB h3
    have u0:a'.eval (.tmp 40)=.tuple #[Xv,Yv]:=h3 9 (h1 9 (by decide))
    exact opI_val (run_op_move ho u0 w') (by rw [ho];intro c h;cases h) h0 ⟨BRd_upd hB 10 (by decide),rfl,kq⟩
   | 11,_=>
    intro o a' w' Dn hg ho h0 hk h5 h4 h1 hB h3
    have u0:a'.eval (.tmp 30)=.tuple #[Xv,Yv]:=h3 10 (h1 10 (by decide))
    exact opI_val (v:=Xv) (by simp only [execOp,show o.op=Op.extract (.tmp 30) 0 from ho,u0];go_simp) (by rw [ho];intro c h;cases h) h0 ⟨BRd_upd hB 11 (by decide),rfl,kq⟩
   | 12,_=>
    intro o a' w' Dn hg ho h0 hk h5 h4 h1 hB h3
    have u0:a'.eval (.tmp 30)=.tuple #[Xv,Yv]:=h3 10 (h1 10 (by decide))
    exact opI_val (v:=Yv) (by simp only [execOp,show o.op=Op.extract (.tmp 30) 1 from ho,u0];go_simp) (by rw [ho];intro c h;cases h) h0 ⟨BRd_upd hB 12 (by decide),rfl,kq⟩
   | 13,_=>
    intro o a' w' Dn hg ho h0 hk h5 h4 h1 hB h3
    have u0:a'.eval (.tmp 41)=Xv:=h3 11 (h1 11 (by decide))
    exact opI_val (v:=Xv) (by simp only [execOp,show o.op=Op.assign (.tmp 41) from ho,u0];go_simp) (by rw [ho];intro c h;cases h) h0 ⟨BRd_upd hB 13 (by decide),rfl,kq⟩
   | 14,_=>
    intro o a' w' Dn hg ho h0 hk h5 h4 h1 hB h3
    have u0:a'.eval (.tmp 42)=Yv:=h3 12 (h1 12 (by decide))
    exact opI_val (v:=Yv) (by simp only [execOp,show o.op=Op.assign (.tmp 42) from ho,u0];go_simp) (by rw [ho];intro c h;cases h) h0 ⟨BRd_upd hB 14 (by decide),rfl,kq⟩
   | n+15,hn=>exact absurd hn (by show ¬ n+15 < 15;omega)
 · rintro a' w' hc h9 ⟨Dn,he,hB⟩ h3
   have e:a'=Act.putFrom (Act.putFrom a 5 [Xv,Yv]) 30 [.tuple #[Xv,Yv],.pointer (some ⟨r,0,none⟩),.pointer (some ⟨r,0,none⟩),.pointer (some ⟨r,0,none⟩),.pointer (some ⟨v,0,none⟩),.int .i64 x,.pointer (some ⟨r,0,none⟩),.pointer (some ⟨r,0,none⟩),.pointer (some ⟨r,1,none⟩),.int .i64 b,.tuple #[Xv,Yv],Xv,Yv]:=out2 hc.size hc.defers (same_ds h9) (by rfl) (by show 5+2≤30;omega) (by show 43≤_;omega) (fun i hi=>?_) (fun i hi=>?_)
   · rw [e];exact hQ w' (by unfold BRd at hB;rw [if_pos (he 9 (by decide))] at hB;exact hB)
   · match i,hi with
     | 0,_=>exact h3 13 (by decide)
     | 1,_=>exact h3 14 (by decide)
     | n+2,hn=>exact absurd hn (by simp)
   · match i,hi with
     | 0,_=>exact h3 10 (by decide)
     | 1,_=>exact h3 0 (by decide)
     | 2,_=>exact h3 1 (by decide)
     | 3,_=>exact h3 2 (by decide)
     | 4,_=>exact h3 3 (by decide)
     | 5,_=>exact h3 4 (by decide)
     | 6,_=>exact h3 5 (by decide)
     | 7,_=>exact h3 6 (by decide)
     | 8,_=>exact h3 7 (by decide)
     | 9,_=>exact h3 8 (by decide)
     | 10,_=>exact h3 9 (by decide)
     | 11,_=>exact h3 11 (by decide)
     | 12,_=>exact h3 12 (by decide)
     | n+13,hn=>exact absurd hn (by simp)
noncomputable def RF8:Array Oper:=((Tryz.f62.body.bind (rgf · 8))).getD #[]
def shF8:List (Op×Option Nat×List Nat):=[(Op.load 127 (.tmp 2),some 47,[]),
 (Op.nilCheck (.tmp 47),some 48,[0]),
 (Op.fieldAddr 149 (.tmp 48) 2,some 49,[1]),
 (Op.load 57 (.tmp 49),some 50,[2]),
 (Op.move (.tmp 4),some 51,[]),
 (Op.fieldAddr 162 (.tmp 7) 0,some 52,[]),
 (Op.slice 160 (.tmp 52) none none none,some 53,[5]),
 (Op.indexAddr 57 (.tmp 50) (.tmp 51),some 54,[3,4,0,1,2,3,4,5,6]),
 (Op.store 33 (.tmp 54) (.tmp 53),none,[7,6,0,1,2,3,4,5,6])]
theorem RF8_shape:RegShape RF8 47 55 shF8:=regShape (by kernel_rfl) (by kernel_rfl)
def vsF8 (r g N x q7:Nat):List Value:=[.pointer (some ⟨r,0,none⟩),.pointer (some ⟨r,0,none⟩),.pointer (some ⟨r,2,none⟩),.slice (some ⟨g,0,none⟩) N N,.int .i64 x,.pointer (some ⟨q7,0,none⟩),.slice (some ⟨q7,0,none⟩) 44 44,.pointer (some ⟨g,x,none⟩),undef]
theorem fetch_region8 (h2:Boxed w q 127 (.pointer (some ⟨r,0,none⟩))) (hr:RdAt w r v b g N gone sp) (h6:w.rowIs g 33 N f) (x:Nat) (hx:x < N) (h9:q≠g) (ha:r≠g) (h7:RF8=ops) (hf:a.tmps.size=100)
 (e2:a.eval (.tmp 2)=.pointer (some ⟨q,0,none⟩)) (e4:a.eval (.tmp 4)=.int .i64 x) (e7:a.eval (.tmp 7)=.pointer (some ⟨q7,0,none⟩))
 (hQ:∀ (w':World),w'=w.drew.setCell ⟨g,x,none⟩ (.slice (some ⟨q7,0,none⟩) 44 44)→Q .normal (Act.putFrom a 47 [.pointer (some ⟨r,0,none⟩),.pointer (some ⟨r,0,none⟩),.pointer (some ⟨r,2,none⟩),.slice (some ⟨g,0,none⟩) N N,.int .i64 x,.pointer (some ⟨q7,0,none⟩),.slice (some ⟨q7,0,none⟩) 44 44,.pointer (some ⟨g,x,none⟩)]) w'):(Code.region 8 ops true).wpIn (Fence.wide.inRound l) n Tryz.prog Q a w:=by
 subst h7
 obtain ⟨_,_,c2,_,_⟩:=hr.cells
 have cq:=h2.cell
 have cg:=h6.cell (i:=x) hx
 have fg:=h6.frozen x
 refine region_factsI (by kernel_rfl) RF8_shape a w (by omega) (fun i u _=>u=(vsF8 r g N x q7).getD i undef) (BF8 w g x q7) rfl ?_ ?_
 · intro i hi
   match i,hi with
   | 0,_=>
    intro o a' w' Dn hg ho h0 hk h4 h5 h1 hB h3
    have u0:a'.eval (.tmp 2)=.pointer (some ⟨q,0,none⟩):=(hk.slot 2 (by omega)).trans e2
    have cc:w'.cell? ⟨q,0,none⟩=some (.pointer (some ⟨r,0,none⟩)):=BF8_cell hB h9 cq
    exact opI_val (v:=.pointer (some ⟨r,0,none⟩)) (by simp only [execOp,show o.op=Op.load 127 (.tmp 2) from ho,u0];go_simp) (by rw [ho];intro c h;cases h) h0 ⟨BF8_upd hB 0 (by decide),rfl,kq⟩
   | 1,_=>
    intro o a' w' Dn hg ho h0 hk h4 h5 h1 hB h3
    have u0:a'.eval (.tmp 47)=.pointer (some ⟨r,0,none⟩):=h3 0 (h1 0 (by decide))
    exact opI_val (run_op_nil ho u0 w') (by rw [ho];intro c h;cases h) h0 ⟨BF8_upd hB 1 (by decide),rfl,kq⟩
   | 2,_=>
    intro o a' w' Dn hg ho h0 hk h4 h5 h1 hB h3
    have u0:a'.eval (.tmp 48)=.pointer (some ⟨r,0,none⟩):=h3 1 (h1 1 (by decide))
    exact opI_val (v:=.pointer (some ⟨r,2,none⟩)) (by simp only [execOp,show o.op=Op.fieldAddr 149 (.tmp 48) 2 from ho,u0];go_simp) (by rw [ho];intro c h;cases h) h0 ⟨BF8_upd hB 2 (by decide),rfl,kq⟩
   | 3,_=>
    intro o a' w' Dn hg ho h0 hk h4 h5 h1 hB h3
    have u0:a'.eval (.tmp 49)=.pointer (some ⟨r,2,none⟩):=h3 2 (h1 2 (by decide))
    have cc:w'.cell? ⟨r,2,none⟩=some (.slice (some ⟨g,0,none⟩) N N):=BF8_cell hB ha c2
    exact opI_val (v:=.slice (some ⟨g,0,none⟩) N N) (by simp only [execOp,show o.op=Op.load 57 (.tmp 49) from ho,u0];go_simp) (by rw [ho];intro c h;cases h) h0 ⟨BF8_upd hB 3 (by decide),rfl,kq⟩
   | 4,_=>
    intro o a' w' Dn hg ho h0 hk h4 h5 h1 hB h3
    have u0:a'.eval (.tmp 4)=.int .i64 x:=(hk.slot 4 (by omega)).trans e4
    exact opI_val (run_op_move ho u0 w') (by rw [ho];intro c h;cases h) h0 ⟨BF8_upd hB 4 (by decide),rfl,kq⟩
   | 5,_=>
    intro o a' w' Dn hg ho h0 hk h4 h5 h1 hB h3
    have u0:a'.eval (.tmp 7)=.pointer (some ⟨q7,0,none⟩):=(hk.slot 7 (by omega)).trans e7
    exact opI_val (v:=.pointer (some ⟨q7,0,none⟩)) (by simp only [execOp,show o.op=Op.fieldAddr 162 (.tmp 7) 0 from ho,u0];go_simp) (by rw [ho];intro c h;cases h) h0 ⟨BF8_upd hB 5 (by decide),rfl,kq⟩
   | 6,_=>
    intro o a' w' Dn hg ho h0 hk h4 h5 h1 hB h3
    have u0:a'.eval (.tmp 52)=.pointer (some ⟨q7,0,none⟩):=h3 5 (h1 5 (by decide))
    exact opI_val (v:=.slice (some ⟨q7,0,none⟩) 44 44) (by simp only [execOp,show o.op=Op.slice 160 (.tmp 52) none none none from ho,u0];go_simp) (by rw [ho];intro c h;cases h) h0 ⟨BF8_upd hB 6 (by decide),rfl,kq⟩
   | 7,_=>
    intro o a' w' Dn hg ho h0 hk h4 h5 h1 hB h3
    have u0:a'.eval (.tmp 50)=.slice (some ⟨g,0,none⟩) N N:=h3 3 (h1 3 (by decide))
    have u1:a'.eval (.tmp 51)=.int .i64 x:=h3 4 (h1 4 (by decide))
    exact opI_val (v:=.pointer (some ⟨g,x,none⟩)) (by simp only [execOp,show o.op=Op.indexAddr 57 (.tmp 50) (.tmp 51) from ho,u0,u1];go_simp) (by rw [ho];intro c h;cases h) h0 ⟨BF8_upd hB 7 (by decide),rfl,kq⟩
   | 8,_=>
    intro o a' w' Dn hg ho h0 hk h4 h5 h1 hB h3
    have u0:a'.eval (.tmp 54)=.pointer (some ⟨g,x,none⟩):=h3 7 (h1 7 (by decide))
    have u1:a'.eval (.tmp 53)=.slice (some ⟨q7,0,none⟩) 44 44:=h3 6 (h1 6 (by decide))
    have hw:w'=w.drew:=by have:=hB;unfold BF8 at this;rw [if_neg (by rw [h4];decide)] at this;exact this
    subst hw
    have cc:w.drew.cell? ⟨g,x,none⟩=some (f x):=cg
    have ff:w.drew.frozen? ⟨g,x,none⟩=false:=fg
    exact opI_skip (w':=w.drew.setCell ⟨g,x,none⟩ (.slice (some ⟨q7,0,none⟩) 44 44)) (by simp only [execOp,show o.op=Op.store 33 (.tmp 54) (.tmp 53) from ho,u0,u1];go_simp) (by rw [ho];intro c h;cases h) ⟨by unfold BF8;rw [if_pos upd_eq],rfl,kq⟩
   | n+9,hn=>exact absurd hn (by show ¬ n+9 < 9;omega)
 · rintro a' w' hc h8 ⟨Dn,he,hB⟩ h3
   have e:a'=Act.putFrom a 47 [.pointer (some ⟨r,0,none⟩),.pointer (some ⟨r,0,none⟩),.pointer (some ⟨r,2,none⟩),.slice (some ⟨g,0,none⟩) N N,.int .i64 x,.pointer (some ⟨q7,0,none⟩),.slice (some ⟨q7,0,none⟩) 44 44,.pointer (some ⟨g,x,none⟩)]:=hc.out _ rfl (by omega) (fun i hi=>?_)
   · rw [e];exact hQ w' (by unfold BF8 at hB;rw [if_pos (he 8 (by decide))] at hB;exact hB)
   · match i,hi with
     | 0,_=>exact h3 0 (by decide)
     | 1,_=>exact h3 1 (by decide)
     | 2,_=>exact h3 2 (by decide)
     | 3,_=>exact h3 3 (by decide)
     | 4,_=>exact h3 4 (by decide)
     | 5,_=>exact h3 5 (by decide)
     | 6,_=>exact h3 6 (by decide)
     | 7,_=>exact h3 7 (by decide)
     | n+8,hn=>exact absurd hn (by simp)
end
section
open Go.Shelf
attribute [local go_sem] Oper.semAt_some
theorem ta_shard (v:Value) (w:World):(Instr.typeAssert (.iface 162 v) 164 162 true).run Tryz.prog w=.ok (.tuple #[v,.bool true]) w:=by
 simp [Instr.typeAssert,run_underlying Tryz.underlying162]
theorem infoShard:(Tryz.prog.info? 162).map (·.size)=some 44:=by kernel_rfl
theorem shard_store (w:World) (z:Array Value) (hz:z.size=44) (l:List Nat) (hl:l.length=44):(Instr.storeAt 162 (.pointer (some ⟨w.heap.size,0,none⟩)) (.agg (bts l).toArray)).run Tryz.prog (w.alloc (.cells z 162))=.ok () (w.alloc (.cells (bts l).toArray 162)):=by
 have hs:(bts l).toArray.size=44:=by rw [List.size_toArray,bts_len,hl]
 have:=run_storeVar_new (P:=Tryz.prog) w 162 z (bts l).toArray (by rw [hs];exact infoShard) (by rw [hs,hz]) (by
  rw [List.all_toArray,List.all_eq_true]
  intro u hu
  obtain ⟨x,_,rfl⟩:=List.mem_map.1 hu
  rfl)
 simp only [Instr.storeAt,Instr.sureAddr,Sem.run_bind,Sem.run_pure,Result.andThen_ok,this]
theorem in_shard_new {F:Fence} {rest:List Oper} {o:Oper} (hg:o.guard=none) (x y:Operand) (ho:o.op=.store 162 x y) {z:Array Value} {l:List Nat}
 (hx:a.eval x=.pointer (some ⟨w.heap.size,0,none⟩)) (hy:a.eval y=.agg (bts l).toArray) (hz:z.size=44) (hl:l.length=44) (h:wpListIn F n Tryz.prog ops Q rest (a.put o.dst undef) (w.alloc (.cells (bts l).toArray 162))):wpListIn F n Tryz.prog ops Q (o :: rest) a (w.alloc (.cells z 162)):=by
 refine wpListIn_plain hg fun K h0=>?_
 unfold Oper.wpIn
 refine ⟨by simp [Oper.about,ho],?_⟩
 rw [Oper.semAt_plain F _ _ (by rw [ho];intro c h;cases h)]
 simp [execOp,ho,hx,hy,shard_store w z hz l hl,Result.andThen]
 exact h0 _ _ h
theorem end_none {fn:Func} {Z:World} {D':Nat} {R:Ending→World→Prop} (hr:fn.results=#[]) (hd:a.defers=[{ target:=.collected D',args:=#[] }])
 (hK:Z.heap[D']?=some (.deferred (some []))) (hR:R (.returned (.tuple #[])) (Z.putObj D' (.deferred none))):bodyPostM Fence.wide n Tryz.prog fn R .normal a Z:=by
 obtain ⟨tm,df⟩:=a
 simp only at hd
 subst hd
 refine ⟨by simp,.inl ⟨_,_,rfl,run_takeDeferred hK,?_⟩⟩
 refine ⟨.tuple #[],?_,hR⟩
 simp [results,hr]
def Kn (w:World) (base:Nat) (f0 f:Nat→Value) (R:Nat→List Nat) (ds:List Nat):Prop:=(∀ i,i∉ds→f i=f0 i)∧∀ i,i∈ds→∃ bl,f i=.slice (some ⟨bl,0,none⟩) 44 44∧base≤bl∧bl < w.heap.size∧w.heap[bl]?=some (.cells (bts (R i)).toArray 162 (0,0))
theorem Kn.keep {base:Nat} {f0:Nat→Value} {R:Nat→List Nat} {ds:List Nat} (h:Kn w base f0 f R ds) (hz:w.heap.size≤w'.heap.size) (hk:∀ k o,base≤k→w.heap[k]?=some o→o.isCells=true→w'.heap[k]?=some o):Kn w' base f0 f R ds:=by
 refine ⟨h.1,fun i hi=>?_⟩
 obtain ⟨bl,q1,q2,q3,q4⟩:=h.2 i hi
 exact ⟨bl,q1,q2,Nat.lt_of_lt_of_le q3 hz,hk bl _ q2 q4 rfl⟩
theorem Kn.nil (w:World) (base:Nat) (f0:Nat→Value) (R:Nat→List Nat):Kn w base f0 f0 R []:=⟨fun _ _=>rfl,fun _ h=>by cases h⟩
end
theorem mems_first (h:k≤16):mems (2^k - 1)=List.range k:=mems_all h
def tabN (c j:Nat):Nat:=if j < 16 then gm c j else gm c ((j - 16)*16)
def tv (f:Nat→Nat) (j:Nat):Value:=.int .u8 ((f j:Nat):Int)
theorem mul_eq {x y:Int} (a b:Nat) (hx:x=(a:Int)) (hy:y=(b:Int)) (ha:a < 256) (hb:b < 256) (w:World) :
 Calls Tryz.prog 123 #[.int .u8 x,.int .u8 y] w fun e w'=>e=.returned (.int .u8 ((gm a b:Nat):Int))∧w'=w:=by
 subst hx hy;exact mul_any a b ha hb w
def mulTo (c n j:Nat):Nat:=if j < n then gm c j else 0
def pw2 (q:Nat):Prop:=q=1∨q=2∨q=4∨q=8∨q=16
def MulR (w:World) (B c:Nat) (i d:Value) (wr:World):Prop:=
 ∃ q:Nat,pw2 q∧i=.int .i64 q∧d=.int .u8 ((gm c q:Nat):Int)∧wr.rowIs (B+1) 255 16 (tv (mulTo c q))∧wr.rowIs B 255 16 (fun _=>.int .u8 0)∧Below B w wr
def MulR2 (w:World) (B c q:Nat) (i:Value) (wr:World):Prop:=
 ∃ k:Nat,k≤q∧i=.int .i64 k∧wr.rowIs (B+1) 255 16 (tv (mulTo c (q+k)))∧wr.rowIs B 255 16 (fun _=>.int .u8 0)∧Below B w wr
theorem zero16 (w:World):(w.alloc (.cells (Array.replicate 16 (.int .u8 0)) 255)).rowIs w.heap.size 255 16 (fun _=>.int .u8 0):=by
 have h:=World.rowIs_alloc w (Array.replicate 16 (.int .u8 0)) 255 (fun _=>.int .u8 0) (fun i hi=>by simp at hi;simp [hi])
 simpa using h
theorem zero32 (w:World):(w.alloc (.cells (Array.replicate 32 (.int .u8 0)) 263)).rowIs w.heap.size 263 32 (fun _=>.int .u8 0):=by
 have h:=World.rowIs_alloc w (Array.replicate 32 (.int .u8 0)) 263 (fun _=>.int .u8 0) (fun i hi=>by simp at hi;simp [hi])
 simpa using h
theorem xor_pow1:∀ i,i < 1→i^^^1=1+i:=by decide
theorem xor_pow2:∀ i,i < 2→i^^^2=2+i:=by decide
theorem xor_pow4:∀ i,i < 4→i^^^4=4+i:=by decide
theorem xor_pow8:∀ i,i < 8→i^^^8=8+i:=by decide
theorem xor_pow (hq:pw2 q) (h0:q < 16) (h:i < q):i^^^q=q+i:=by
 rcases hq with rfl | rfl | rfl | rfl | rfl
 · exact xor_pow1 i h
 · exact xor_pow2 i h
 · exact xor_pow4 i h
 · exact xor_pow8 i h
 · omega
theorem tx_gm1:∀ c,c < 256→tx (gm c 1)=gm c 2:=by decide +kernel
theorem tx_gm2:∀ c,c < 256→tx (gm c 2)=gm c 4:=by decide +kernel
theorem tx_gm4:∀ c,c < 256→tx (gm c 4)=gm c 8:=by decide +kernel
theorem tx_gm8:∀ c,c < 256→tx (gm c 8)=gm c 16:=by decide +kernel
theorem tx_gm (hq:pw2 q) (h0:q < 16) (hc:c < 256):tx (gm c q)=gm c (q*2):=by
 rcases hq with rfl | rfl | rfl | rfl | rfl
 · exact tx_gm1 c hc
 · exact tx_gm2 c hc
 · exact tx_gm4 c hc
 · exact tx_gm8 c hc
 · omega
theorem pw2_next (hq:pw2 q) (h0:q < 16):pw2 (q*2):=by unfold pw2 at *;omega
theorem mulTo_step (hq:pw2 q) (h0:q < 16) (hk:k < q) (j:Nat):tv (mulTo c (q+(k+1))) j=if j=q+k then .int .u8 ((mulTo c (q+k) k^^^gm c q:Nat):Int) else tv (mulTo c (q+k)) j:=by
 unfold tv mulTo
 by_cases h1:j=q+k
 · rw [if_pos h1,if_pos (by omega),if_pos (by omega),← gm_add,xor_pow hq h0 hk,h1]
 · rw [if_neg h1]
   by_cases h2:j < q+k
   · rw [if_pos h2,if_pos (by omega)]
   · rw [if_neg h2,if_neg (by omega)]
theorem one_cells {f:Nat→Nat} (hs:cs.size=n) (h:∀ j,j < n→cs[j]?=some (tv f j)):cs.all (fun v=>v.oneCell')=true:=by
 rw [Array.all_eq_true]
 intro i hi
 have:=h i (by omega)
 rw [Array.getElem?_eq_getElem hi] at this
 simp at this
 rw [this];rfl
theorem timesX_eq {x:Int} (a:Nat) (hx:x=(a:Int)) (h:a < 256) (w:World):Calls Tryz.prog 140 #[.int .u8 x] w fun e w'=>e=.returned (.int .u8 (tx a:Int))∧w'=w:=by
 subst hx;exact timesX_any a h w
theorem mulTo_lt (c n j:Nat) (hc:c < 256):mulTo c n j < 256:=by
 unfold mulTo;split
 · exact gm_lt _ hc
 · decide
theorem Tryz.infoArr16:(Tryz.prog.info? 255).map (fun i=>i.size)=some 16:=by kernel_rfl
theorem multiples_any (c:Nat) (hc:c < 256) (w:World) :
 Calls Tryz.prog 149 #[.int .u8 c] w fun e w'=>∃ cs:Array Value,e=.returned (.agg cs)∧cs.size=16∧(∀ j,j < 16→cs[j]?=some (tv (mulTo c 16) j))∧Below w.heap.size w w':=by
 go_enter Tryz.func149,Tryz.ntmps149
 go_wp2
 go_loopw [4,0] (fun i d wr=>MulR w w.heap.size c i d wr) (fun i _ _=>16 - (intOf i).toNat)
 case atStart=>
  refine ⟨1,.inl rfl,rfl,by rw [gm_one c hc],?_,?_,?_⟩
  · have h:=zero16 (w.alloc (.cells (Array.replicate 16 (.int .u8 0)) 255))
    rw [nblk_alloc] at h
    refine h.congr fun j hj=>?_
    unfold tv mulTo
    by_cases e:j < 1
    · rw [if_pos e,show j=0 by omega,gm_zero];rfl
    · rw [if_neg e];rfl
  · exact (zero16 w).alloc _
  · exact ((Below.refl _ _).alloc (Nat.le_refl _) _).alloc (by rw [nblk_alloc];omega) _
 case round=>
  obtain ⟨q,hq,rfl,rfl,hR,hZ,hb⟩:=hrel
  have h2:q≤16:=by unfold pw2 at hq;omega
  have h5:gm c q < 256:=gm_lt _ hc
  by_cases h3:q < 16
  · have hp:q≤8:=by unfold pw2 at hq;omega
    have HQ:=hide hq
    have H0:=hide (show MulR2 w w.heap.size c q (.int .i64 (0:Nat)) wr from ⟨0,Nat.zero_le _,rfl,hR,hZ,hb⟩)
    clear hR hZ hb hq
    have hr:(q:Int) < 16:=by omega
    rename World=>wo
    go_wp2
    go_loopw [11] (fun i wr=>MulR2 w w.heap.size c q i wr) (fun i _=>q - (intOf i).toNat)
    case atStart=>exact H0.out
    case round=>
     obtain ⟨k,hk,rfl,hR,hZ,hb⟩:=hrel
     by_cases he:k < q
     · have c1:=hR.cell (i:=k) (by omega)
       have c2:=hR.cell (i:=q+k) (by omega)
       have f2:=hR.frozen (q+k)
       have hf:=mulTo_lt c (q+k) k hc
       have hs:=u8_xor _ _ hf h5
       have h6:=(hR.set (q+k) (.int .u8 ((mulTo c (q+k) k^^^gm c q:Nat):Int))).congr (fun j hj=>(mulTo_step HQ.out h3 he j).symm)
       have h7:=hZ.setOther (a:=⟨w.heap.size+1,q+k,none⟩) (by simp) (.int .u8 ((mulTo c (q+k) k^^^gm c q:Nat):Int))
       have h8:=hb.setCell (p:=⟨w.heap.size+1,q+k,none⟩) (by simp) (.int .u8 ((mulTo c (q+k) k^^^gm c q:Nat):Int))
       have HH:=hide3 h6 h7 h8
       clear h6 h7 h8 hR hZ hb
       unfold tv at c1 c2
       have hg:(k:Int) < q:=by omega
       have hm:(k:Int) < 16:=by omega
       have hx:(q:Int)+(k:Int) < 16:=by omega
       have hy:IntKind.i64.wrap ((q:Int)+(k:Int))=((q+k:Nat):Int):=by rw [IntKind.wrap_i64];omega
       have hz:wrap64 ((q:Int)+(k:Int))=((q+k:Nat):Int):=by unfold wrap64;omega
       go_wp2
       go_roundw
       case rel=>exact ⟨k+1,by omega,by go_num,HH.out.1,HH.out.2.1,HH.out.2.2⟩
       case measure=>simp [intOf];omega
     · have hn:k=q:=by omega
       have HR:=hide3 hR hZ hb
       clear hR hZ hb
       have hg:¬ ((k:Int) < q):=by omega
       go_wp2_with fail
       refine (timesX_eq (gm c q) rfl h5 _).mono ?_
       rintro e w' ⟨rfl,rfl⟩
       go_wp2
       go_roundw
       case rel=>exact ⟨q*2,pw2_next HQ.out h3,by go_num,by rw [tx_gm HQ.out h3 hc],by have:=HR.out.1;rwa [hn,show q+q=q*2 by omega] at this,HR.out.2.1,HR.out.2.2⟩
       case measure=>have hh:=HQ.out;unfold pw2 at hh;simp only [intOf];omega
  · have h2:q=16:=by omega
    subst h2
    obtain ⟨cs,h9,h4,h0⟩:=hR
    obtain ⟨zs,ha,k0,_⟩:=hZ
    have h1:=one_cells h4 h0
    have HG:=hide h0
    have hi:(Tryz.prog.info? 255).map (fun i=>i.size)=some cs.size:=by rw [Tryz.infoArr16,h4]
    have HI:=hide hi
    have HC:=hide h9
    have HZ:=hide ha
    clear h0 hi h9 ha
    go_wp2_with (first
     | refine wpList_load_row rfl 255 (.tmp 3) rfl (w.heap.size+1) rfl 255 cs (0,0) _ HC.out Tryz.underlying255 rfl HI.out ?_
     | refine wpList_store_row rfl 255 (.tmp 2) (.tmp 26) rfl w.heap.size cs rfl rfl 255 zs HZ.out HI.out (by omega) h1 ?_)
    exact bodyPost_ret (v:=.agg cs) (results_cell_row Tryz.results149 _ _ w.heap.size 255 cs (0,0) _ rfl (setRow_heap _ _ zs cs _ _ HZ.out) Tryz.underlying255 rfl HI.out) rfl ⟨cs,rfl,h4,HG.out,below_setRow hb (Nat.le_refl _) cs⟩
theorem Tryz.infoTable:(Tryz.prog.info? 263).map (fun i=>i.size)=some 32:=by kernel_rfl
theorem mulTo_tab (c j:Nat) (hc:c < 256) (hj:j < 32):(if j < 16 then mulTo c 16 j else mulTo (gm c 16) 16 (j - 16))=tabN c j:=by
 unfold mulTo tabN
 by_cases h:j < 16
 · rw [if_pos h,if_pos h,if_pos h]
 · rw [if_neg h,if_neg h,if_pos (by omega),gm_assoc hc (by decide) (by omega)]
   congr 1
   have:∀ x,x < 16→gm 16 x=x*16:=by decide +kernel
   exact this _ (by omega)
def tabCs (c:Nat):Array Value:=((List.range 32).map (fun j=>Value.int .u8 ((if j < 16 then mulTo c 16 j else mulTo (gm c 16) 16 (j - 16):Nat):Int))).toArray
theorem tabCs_size (c:Nat):(tabCs c).size=32:=by unfold tabCs;rw [List.size_toArray,List.length_map,List.length_range]
theorem tabCs_get (c j:Nat) (hc:c < 256) (hj:j < 32):(tabCs c)[j]?=some (tv (tabN c) j):=by
 unfold tabCs tv
 simp only [List.getElem?_toArray,List.getElem?_map,List.getElem?_range hj,Option.map_some,mulTo_tab c j hc hj]
theorem tabCs_info (c:Nat):(Tryz.prog.info? 263).map (fun i=>i.size)=some (tabCs c).size:=by rw [tabCs_size,Tryz.infoTable]
theorem arr16_eq {f:Nat→Nat} (hs:cs.size=16) (h:∀ j,j < 16→cs[j]?=some (tv f j)) :
 cs=#[tv f 0,tv f 1,tv f 2,tv f 3,tv f 4,tv f 5,tv f 6,tv f 7,tv f 8,tv f 9,tv f 10,tv f 11,tv f 12,tv f 13,tv f 14,tv f 15]:=by
 have e:cs=((List.range 16).map (tv f)).toArray:=by
  refine Array.ext (by simp [hs]) fun i h1 h2=>?_
  have:=h i (by omega)
  rw [Array.getElem?_eq_getElem h1] at this
  simp at this ⊢
  exact this
 exact e
theorem tableOf_any (c:Nat) (hc:c < 256) (w:World) :
 Calls Tryz.prog 133 #[.int .u8 c] w fun e w'=>∃ cs:Array Value,e=.returned (.agg cs)∧cs.size=32∧(∀ j,j < 32→cs[j]?=some (tv (tabN c) j))∧Below w.heap.size w w':=by
 have hZ:=zero32 w
 have hg:gm c 16 < 256:=gm_lt _ hc
 go_enter Tryz.func133,Tryz.ntmps133
 go_wp2_with fail
 refine (multiples_any c hc _).mono ?_
 rintro e w1 ⟨cs1,rfl,h3,h4,h0⟩
 obtain rfl:=arr16_eq h3 h4
 clear h3 h4
 simp only [tv]
 go_wp2_with fail
 refine (mul_eq c 16 rfl rfl hc (by decide) _).mono ?_
 rintro e w' ⟨rfl,rfl⟩
 go_wp2_with fail
 refine (multiples_any (gm c 16) hg _).mono ?_
 rintro e w2 ⟨cs2,rfl,h5,h6,h1⟩
 obtain rfl:=arr16_eq h5 h6
 clear h5 h6
 simp only [tv]
 obtain ⟨zs,h7,ha,_⟩:=hZ
 have h8:w2.heap[w.heap.size]?=some (.cells zs 263 (0,0)):=(h1.block _ (by have:=h0.size;rw [nblk_alloc] at this;omega)).trans ((h0.block _ (by rw [nblk_alloc];omega)).trans h7)
 have HZ:=hide h8
 have HB:Hid (Below w.heap.size w w2):=hide ((((Below.refl _ w).alloc (Nat.le_refl _) _).trans (h0.mono (by rw [nblk_alloc];omega))).trans (h1.mono (by have:=h0.size;rw [nblk_alloc] at this;omega)))
 clear h0 h1 h7 h8
 have HI:=hide (tabCs_info c)
 have HS:Hid (zs.size=(tabCs c).size):=hide (by rw [ha,tabCs_size])
 have H1:=hide (one_cells (tabCs_size c) (fun j hj=>tabCs_get c j hc hj))
 have HE:Hid (∀ j,j < 32→(tabCs c)[j]?=some (tv (tabN c) j)):=hide (fun j hj=>tabCs_get c j hc hj)
 have h9:=hide (tabCs_size c)
 obtain ⟨cs,h2⟩:∃ cs,tabCs c=cs:=⟨_,rfl⟩
 rw [h2] at HI HS H1 HE h9
 have HC:=hide h2
 clear h2
 go_wp2_with (refine wpList_store_row rfl 263 (.tmp 2) (.tmp 8) rfl w.heap.size cs rfl (by rw [← HC.out];rfl) 263 zs HZ.out HI.out HS.out H1.out ?_)
 refine bodyPost_ret (v:=.agg cs) (results_cell_row Tryz.results133 _ _ w.heap.size 263 cs (0,0) _ rfl (setRow_heap _ _ zs cs _ _ HZ.out) Tryz.underlying263 rfl HI.out) rfl ?_
 exact ⟨cs,rfl,h9.out,HE.out,below_setRow HB.out (Nat.le_refl _) _⟩
def TableAt (w:World) (t c:Nat):Prop:=∀ j,j < 32→w.cell? ⟨t,j,none⟩=some (tv (tabN c) j)
theorem split16:∀ b,b < 256→b=(b % 16)^^^(b / 16*16):=by decide +kernel
theorem times_eq (c b:Nat) (hb:b < 256):tabN c (b % 16)^^^tabN c (16+b / 16)=gm c b:=by
 unfold tabN
 rw [if_pos (by omega),if_neg (by omega),Nat.add_sub_cancel_left,← gm_add,← split16 b hb]
theorem tabN_lt (c j:Nat) (hc:c < 256):tabN c j < 256:=by
 unfold tabN;split <;> exact gm_lt _ hc
theorem and15 (b:Nat) (hb:b < 256):bits .and .u8 (b:Int) 15=((b % 16:Nat):Int):=by
 rw [u8_and15 _ (by omega) (by omega)];rfl
theorem times_any (t c b:Nat) (hc:c < 256) (hb:b < 256) (w:World) (ht:TableAt w t c) :
 Calls Tryz.prog 134 #[.pointer (some ⟨t,0,none⟩),.int .u8 b] w fun e w'=>e=.returned (.int .u8 ((gm c b:Nat):Int))∧∃ m,w'=w.drewN m:=by
 have c1:=ht (b % 16) (by omega)
 have c2:=ht (16+b / 16) (by omega)
 have x1:=tabN_lt c (b % 16) hc
 have x2:=tabN_lt c (16+b / 16) hc
 have h0:=times_eq c b hb
 have h1:=and15 b hb
 have h2:=u8_xor _ _ x1 x2
 unfold tv at c1 c2
 rw [h0] at h2
 have h3:(b:Int) < 256:=by omega
 clear ht h0
 go_enter Tryz.func134,Tryz.ntmps134
 go_wp2
 go_quiet (fail)
 go_wp2
 go_ret
 exact ⟨rfl,_,rfl⟩
end Go.Proofs.YthcgahldacpolaaGreatDoor
