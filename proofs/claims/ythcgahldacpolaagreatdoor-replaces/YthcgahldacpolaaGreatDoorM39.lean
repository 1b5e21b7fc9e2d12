import Derived.Test.YthcgahldacpolaaGreatDoorM37
import Derived.Test.YthcgahldacpolaaGreatDoorM38
set_option maxRecDepth 100000
set_option maxHeartbeats 8000000
namespace Go.Proofs.YthcgahldacpolaaGreatDoor
open Go.RowKit Go.Deep Gf
variable {F:Foot} {z:Int} {xs:List Value} {b n v p D L G ps ho S:Nat} {Dn:Nat→Bool} {T:Nat→Prop} {r:Rec} {u:Value} {w w0 w':World} {K:World→Prop}
section
open Go.Shelf
def Pr2 (w:World) (b:Nat):Prop:=∃ x y,w.heap[b]?=some (.cells #[x,y] 155 (0,0))
def V7 (w0:World) (u:Value) (w:World):Prop:=(u=.pointer (some ⟨w0.heap.size,0,none⟩)∧Pr2 w w0.heap.size)∨(u=.pointer (some ⟨w.heap.size - 1,0,none⟩)∧w0.heap.size < w.heap.size - 1∧(∃ pc,w.heap[w0.heap.size]?=some (.cells pc 23 (0,0)))∧Pr2 w (w.heap.size - 1))
theorem prog_params:(155:TypeId)≠23:=by decide
theorem step_prog:(238:TypeId)≠155:=by decide
theorem Pr2.no {pc:Array Value} (h:Pr2 w b) (h2:w.heap[b]?=some (.cells pc 23 (0,0))):False:=by
 obtain ⟨x,y,h1⟩:=h
 rw [h1] at h2
 injection h2 with h3
 injection h3 with _ h4
 exact prog_params h4
theorem V7.at (h:V7 w0 u w):∃ b,u=.pointer (some ⟨b,0,none⟩)∧w0.heap.size≤b∧Pr2 w b:=by
 rcases h with ⟨h1,h2⟩ | ⟨h1,h2,_,h3⟩
 · exact ⟨_,h1,Nat.le_refl _,h2⟩
 · exact ⟨_,h1,by omega,h3⟩
theorem V7.store (h:V7 w0 u w) (hb:Pr2 w b) (h0:Pr2 w' b) (ho:∀ k,k≠b→w'.heap[k]?=w.heap[k]?) (hz:w'.heap.size=w.heap.size):V7 w0 u w':=by
 have hp:∀ k,Pr2 w k→Pr2 w' k:=fun k hk=>by
  by_cases e:k=b
  · rw [e];exact h0
  · obtain ⟨x,y,q⟩:=hk
    exact ⟨x,y,(ho k e).trans q⟩
 rcases h with ⟨h1,h2⟩ | ⟨h1,h2,⟨pc,h3⟩,h4⟩
 · exact .inl ⟨h1,hp _ h2⟩
 · refine .inr ⟨by rw [hz];exact h1,by rw [hz];exact h2,⟨pc,(ho _ (fun e=>?_)).trans h3⟩,by rw [hz];exact hp _ h4⟩
   rw [← e] at hb
   exact hb.no h3
theorem owns_keep {base:Nat} {v:Value} (h:w.ownsRow base 238 4 v n xs) (hk:∀ (g:Nat) (cur:Array Value),w.heap[g]?=some (.cells cur 238 (0,0))→w'.heap[g]?=w.heap[g]?):w'.ownsRow base 238 4 v n xs:=by
 refine ⟨h.1,?_⟩
 rcases h.2 with h0 | ⟨g,cap,cur,e1,e2,e3,e4⟩
 · exact .inl h0
 · exact .inr ⟨g,cap,cur,e1,e2,(hk g cur e3).trans e3,e4⟩
def FulP (w0:World) (z:Int) (n:Nat) (xs:List Value) (w:World):Prop:=∃ ao m c,w.ownsRow w0.heap.size 238 4 (.slice ao m c) n xs∧(w.heap[w0.heap.size]?=some (.cells #[.int .i64 z,.slice ao m c] 155 (0,0))∨((∃ pc,w.heap[w0.heap.size]?=some (.cells pc 23 (0,0)))∧w.heap[w.heap.size - 1]?=some (.cells #[.int .i64 z,.slice ao m c] 155 (0,0))))
theorem V7.full (h:V7 w0 u w) (hf:FulP w0 z n xs w):∃ b ao m c,u=.pointer (some ⟨b,0,none⟩)∧w0.heap.size≤b∧w.heap[b]?=some (.cells #[.int .i64 z,.slice ao m c] 155 (0,0))∧w.ownsRow w0.heap.size 238 4 (.slice ao m c) n xs:=by
 obtain ⟨ao,m,c,h0,hc⟩:=hf
 rcases h with ⟨h1,h2⟩ | ⟨h1,h2,⟨pc,h3⟩,h4⟩
 · rcases hc with q | ⟨⟨pc,q⟩,_⟩
   · exact ⟨_,ao,m,c,h1,Nat.le_refl _,q,h0⟩
   · exact (h2.no q).elim
 · rcases hc with q | ⟨_,q⟩
   · exact (Pr2.no ⟨_,_,q⟩ h3).elim
   · exact ⟨_,ao,m,c,h1,by omega,q,h0⟩
def BW (w0:World) (T:Nat→Prop) (K:World→Prop) (z:Int) (n:Nat) (xs:List Value) (Dn:Nat→Bool) (w:World):Prop:=
 if Dn 18=true then K w∧Outside T w0 w∧w0.heap.size < w.heap.size∧(Dn 22=false→∃ pc,w.heap[w0.heap.size]?=some (.cells pc 23 (0,0)))∧(Dn 23=true→FulP w0 z n xs w)
 else w=if Dn 22=true then w0.drew.alloc (.cells #[.int .i64 0,.slice none 0 0] 155) else w0.drew
theorem BW_upd (h:BW w0 T K z n xs Dn w) (i:Nat) (h1:18≠i) (h2:22≠i) (h3:23≠i):BW w0 T K z n xs (upd Dn i) w:=by
 unfold BW;rw [upd_ne h1,upd_ne h2,upd_ne h3];exact h
theorem BW_out (h:BW w0 T K z n xs Dn w):Outside T w0 w:=by
 unfold BW at h
 split at h
 · exact h.2.1
 · split at h
   · subst h;exact (Outside.drew w0).trans (Outside.alloc _ _)
   · subst h;exact Outside.drew w0
theorem BW_pre (h:BW w0 T K z n xs Dn w) (hn:Dn 18=false):w=if Dn 22=true then w0.drew.alloc (.cells #[.int .i64 0,.slice none 0 0] 155) else w0.drew:=by
 unfold BW at h
 rwa [if_neg (by rw [hn];decide)] at h
theorem BW_below (h:BW w0 T K z n xs Dn w) (hn:Dn 18=false):Below w0.heap.size w0 w:=by
 have:=BW_pre h hn
 subst this
 split
 · exact ((Below.refl _ w0).drew).alloc (Nat.le_refl _) _
 · exact (Below.refl _ w0).drew
def VW (w0:World) (z:Int) (n:Nat) (xs:List Value) (vs:List Value) (i:Nat) (u:Value) (w:World):Prop:=match i with
 | 18 | 19=>∃ ao m c,u=.tuple #[.agg #[.int .i64 z,.slice ao m c],.nilIface]∧w.ownsRow w0.heap.size 238 4 (.slice ao m c) n xs
 | 20=>∃ ao m c,u=.agg #[.int .i64 z,.slice ao m c]∧w.ownsRow w0.heap.size 238 4 (.slice ao m c) n xs
 | 21 | 24=>u=.nilIface
 | 22=>V7 w0 u w
 | 23=>True
 | i=>u=vs.getD i undef
theorem VW_stay {vs:List Value} (ho:∀ (g:Nat) (cur:Array Value),w.heap[g]?=some (.cells cur 238 (0,0))→w'.heap[g]?=w.heap[g]?) (j:Nat) (u:Value) (h7:j=22→V7 w0 u w→V7 w0 u w') (h:VW w0 z n xs vs j u w):VW w0 z n xs vs j u w':=by
 unfold VW at h ⊢
 split at h
 · obtain ⟨ao,m,c,h1,h2⟩:=h;exact ⟨ao,m,c,h1,owns_keep h2 ho⟩
 · obtain ⟨ao,m,c,h1,h2⟩:=h;exact ⟨ao,m,c,h1,owns_keep h2 ho⟩
 · obtain ⟨ao,m,c,h1,h2⟩:=h;exact ⟨ao,m,c,h1,owns_keep h2 ho⟩
 · exact h
 · exact h
 · exact h7 rfl h
 · trivial
 · exact h
theorem vol_parLd (h:VolAt w v p D L G ps ho):(Instr.loadAt 23 (.pointer (some ⟨v,1,none⟩))).run Tryz.prog w=.ok (.agg #[.int .i64 D,.int .i64 L,.int .i64 G]) w:=by
 have h':w.heap[v]?=some (.cells #[.pointer (some ⟨p,0,none⟩),.int .i64 D,.int .i64 L,.int .i64 G,.pointer (some ⟨ps,0,none⟩),.int .u64 ho] 108 (0,0)):=h
 have hr:w.rangeAt v 1 [.int .i64 (D:Int),.int .i64 (L:Int),.int .i64 (G:Int)]:=fun j u hu=>by
  match j with
  | 0 | 1 | 2=>simp at hu;subst hu;simp [World.cell?,h']
  | j+3=>simp at hu
 exact run_loadAt_mid (P:=Tryz.prog) w v 1 23 [.int .i64 (D:Int),.int .i64 (L:Int),.int .i64 (G:Int)] _ hr Tryz.underlying23 rfl (by kernel_rfl)
noncomputable def RW6:Array Oper:=((Tryz.f49.body.bind (rgf · 6))).getD #[]
def shW6:List (Op×Option Nat×List Nat):=[(Op.move (.tmp 0),some 31,[]),
 (Op.nilCheck (.tmp 31),some 32,[0]),
 (Op.fieldAddr 149 (.tmp 32) 0,some 33,[1]),
 (Op.load 91 (.tmp 33),some 34,[2]),
 (Op.nilCheck (.tmp 34),some 35,[3]),
 (Op.fieldAddr 108 (.tmp 35) 2,some 36,[4]),
 (Op.load 106 (.tmp 36),some 37,[5]),
 (Op.move (.tmp 0),some 38,[]),
 (Op.nilCheck (.tmp 38),some 39,[7]),
 (Op.fieldAddr 149 (.tmp 39) 0,some 40,[8]),
 (Op.load 91 (.tmp 40),some 41,[9]),
 (Op.nilCheck (.tmp 41),some 42,[10]),
 (Op.fieldAddr 108 (.tmp 42) 1,some 43,[11]),
 (Op.load 23 (.tmp 43),some 44,[12]),
 (Op.move (.tmp 0),some 45,[]),
 (Op.nilCheck (.tmp 45),some 46,[14]),
 (Op.fieldAddr 149 (.tmp 46) 3,some 47,[15]),
 (Op.load 101 (.tmp 47),some 48,[16]),
 (Op.call { callee:=Callee.value (Operand.func 64),args:=#[.tmp 37,.tmp 44,.tmp 48],argTypes:=#[106,23,101] },some 49,[6,13,17]),
 (Op.move (.tmp 49),some 30,[18]),
 (Op.extract (.tmp 30) 0,some 50,[19]),
 (Op.extract (.tmp 30) 1,some 51,[19]),
 (Op.alloc 155,some 7,[]),
 (Op.store 155 (.tmp 7) (.tmp 50),none,[22,20,18,0,1,2,3,4,5,6,7,8,9,10,11,12,13,14,15,16,17,18,19,20,22]),
 (Op.assign (.tmp 51),some 6,[21,23,0,1,2,3,4,5,6,7,8,9,10,11,12,13,14,15,16,17,18,19,20,21,22,23])]
theorem RW6_shape:RegShape RW6 6 52 shW6:=regShape (by kernel_rfl) (by kernel_rfl)
def vsW6 (r v ps D L G gone:Nat):List Value:=[.pointer (some ⟨r,0,none⟩),.pointer (some ⟨r,0,none⟩),.pointer (some ⟨r,0,none⟩),.pointer (some ⟨v,0,none⟩),.pointer (some ⟨v,0,none⟩),.pointer (some ⟨v,4,none⟩),.pointer (some ⟨ps,0,none⟩),.pointer (some ⟨r,0,none⟩),.pointer (some ⟨r,0,none⟩),.pointer (some ⟨r,0,none⟩),.pointer (some ⟨v,0,none⟩),.pointer (some ⟨v,0,none⟩),.pointer (some ⟨v,1,none⟩),.agg #[.int .i64 D,.int .i64 L,.int .i64 G],.pointer (some ⟨r,0,none⟩),.pointer (some ⟨r,0,none⟩),.pointer (some ⟨r,3,none⟩),.int .u64 gone,undef,undef,undef,.nilIface,undef,undef,.nilIface]
theorem whole_region6 {ops:Array Oper} {Q:Exit→Act→World→Prop} {a:Act} {r ke g N gone sp:Nat} (hV:VolAt w v p D L G ps ke) (hr:RdAt w r v b g N gone sp) (kk:¬ T r) (km:¬ T v) (hK:∀ x y,K x→Outside (fun k=>w.heap.size≤k) x y→K y) (hT:∀ k,T k→k < w.heap.size)
 (hq:∀ w',Below w.heap.size w w'→Calls Tryz.prog 64 #[.pointer (some ⟨ps,0,none⟩),.agg #[.int .i64 D,.int .i64 L,.int .i64 G],.int .u64 gone] w' fun e w''=>∃ ao m c,e=.returned (.tuple #[.agg #[.int .i64 z,.slice ao m c],.nilIface])∧w''.ownsRow w'.heap.size 238 4 (.slice ao m c) n xs∧Outside T w' w''∧K w''∧(∃ pc,w''.heap[w'.heap.size]?=some (.cells pc 23 (0,0)))) (k7:RW6=ops) (ky:a.tmps.size=68)
 (e0:a.eval (.tmp 0)=.pointer (some ⟨r,0,none⟩))
 (hQ:∀ (w':World) (vs:List Value) (b7 m c:Nat) (ao:Option Addr),vs.length=22→w.heap.size≤b7→w'.heap[b7]?=some (.cells #[.int .i64 z,.slice ao m c] 155 (0,0))→w'.ownsRow w.heap.size 238 4 (.slice ao m c) n xs→K w'→Outside T w w'→Q .normal (Act.putFrom (Act.putFrom a 6 [.nilIface,.pointer (some ⟨b7,0,none⟩)]) 30 vs) w'):(Code.region 6 ops true).wp Tryz.prog Q a w:=by
 subst k7
 have kf:∀ w',Outside T w w'→VolAt w' v p D L G ps ke:=fun w' hO=>hV.keep (hO.block _ hV.lt km)
 have k8:∀ w',Outside T w w'→RdAt w' r v b g N gone sp:=fun w' hO=>hr.keep (hO.block _ hr.lt kk)
 refine region_factsS (by kernel_rfl) RW6_shape a w (by omega) (VW w z n xs (vsW6 r v ps D L G gone)) (BW w T K z n xs) rfl ?_ ?_
 · intro i hi
   match i,hi with
   | 0,_=>
    intro o a' w' Dn hg ho h5 hk h9 ha h0 hB h8
    have u0:a'.eval (.tmp 0)=.pointer (some ⟨r,0,none⟩):=(hk.slot 0 (by omega)).trans e0
    exact op_val (run_op_move ho u0 w') h5 ⟨BW_upd hB 0 (by decide) (by decide) (by decide),rfl,kq⟩
   | 1,_=>
    intro o a' w' Dn hg ho h5 hk h9 ha h0 hB h8
    have u0:a'.eval (.tmp 31)=.pointer (some ⟨r,0,none⟩):=h8 0 (h0 0 (by decide))
    exact op_val (run_op_nil ho u0 w') h5 ⟨BW_upd hB 1 (by decide) (by decide) (by decide),rfl,kq⟩
   | 2,_=>
    intro o a' w' Dn hg ho h5 hk h9 ha h0 hB h8
    have u0:a'.eval (.tmp 32)=.pointer (some ⟨r,0,none⟩):=h8 1 (h0 1 (by decide))
    exact op_val (v:=.pointer (some ⟨r,0,none⟩)) (by simp only [execOp,show o.op=Op.fieldAddr 149 (.tmp 32) 0 from ho,u0];go_simp) h5 ⟨BW_upd hB 2 (by decide) (by decide) (by decide),rfl,kq⟩
   | 3,_=>
    intro o a' w' Dn hg ho h5 hk h9 ha h0 hB h8
    have u0:a'.eval (.tmp 33)=.pointer (some ⟨r,0,none⟩):=h8 2 (h0 2 (by decide))
    have cc:=(k8 w' (BW_out hB)).cells.1
    exact op_val (v:=.pointer (some ⟨v,0,none⟩)) (by simp only [execOp,show o.op=Op.load 91 (.tmp 33) from ho,u0];go_simp) h5 ⟨BW_upd hB 3 (by decide) (by decide) (by decide),rfl,kq⟩
   | 4,_=>
    intro o a' w' Dn hg ho h5 hk h9 ha h0 hB h8
    have u0:a'.eval (.tmp 34)=.pointer (some ⟨v,0,none⟩):=h8 3 (h0 3 (by decide))
    exact op_val (run_op_nil ho u0 w') h5 ⟨BW_upd hB 4 (by decide) (by decide) (by decide),rfl,kq⟩
   | 5,_=>
    intro o a' w' Dn hg ho h5 hk h9 ha h0 hB h8
    have u0:a'.eval (.tmp 35)=.pointer (some ⟨v,0,none⟩):=h8 4 (h0 4 (by decide))
    exact op_val (v:=.pointer (some ⟨v,4,none⟩)) (by simp only [execOp,show o.op=Op.fieldAddr 108 (.tmp 35) 2 from ho,u0];go_simp) h5 ⟨BW_upd hB 5 (by decide) (by decide) (by decide),rfl,kq⟩
   | 6,_=>
    intro o a' w' Dn hg ho h5 hk h9 ha h0 hB h8
    have u0:a'.eval (.tmp 36)=.pointer (some ⟨v,4,none⟩):=h8 5 (h0 5 (by decide))
    have cc:=(kf w' (BW_out hB)).cells.2.2.2.2.1
    exact op_val (v:=.pointer (some ⟨ps,0,none⟩)) (by simp only [execOp,show o.op=Op.load 106 (.tmp 36) from ho,u0];go_simp) h5 ⟨BW_upd hB 6 (by decide) (by decide) (by decide),rfl,kq⟩
   | 7,_=>
    intro o a' w' Dn hg ho h5 hk h9 ha h0 hB h8
    have u0:a'.eval (.tmp 0)=.pointer (some ⟨r,0,none⟩):=(hk.slot 0 (by omega)).trans e0
    exact op_val (run_op_move ho u0 w') h5 ⟨BW_upd hB 7 (by decide) (by decide) (by decide),rfl,kq⟩
   | 8,_=>
    intro o a' w' Dn hg ho h5 hk h9 ha h0 hB h8
    have u0:a'.eval (.tmp 38)=.pointer (some ⟨r,0,none⟩):=h8 7 (h0 7 (by decide))
    exact op_val (run_op_nil ho u0 w') h5 ⟨BW_upd hB 8 (by decide) (by decide) (by decide),rfl,kq⟩
   | 9,_=>
    intro o a' w' Dn hg ho h5 hk h9 ha h0 hB h8
    have u0:a'.eval (.tmp 39)=.pointer (some ⟨r,0,none⟩):=h8 8 (h0 8 (by decide))
    exact op_val (v:=.pointer (some ⟨r,0,none⟩)) (by simp only [execOp,show o.op=Op.fieldAddr 149 (.tmp 39) 0 from ho,u0];go_simp) h5 ⟨BW_upd hB 9 (by decide) (by decide) (by decide),rfl,kq⟩
   | 10,_=>
    intro o a' w' Dn hg ho h5 hk h9 ha h0 hB h8
    have u0:a'.eval (.tmp 40)=.pointer (some ⟨r,0,none⟩):=h8 9 (h0 9 (by decide))
    have cc:=(k8 w' (BW_out hB)).cells.1
    exact op_val (v:=.pointer (some ⟨v,0,none⟩)) (by simp only [execOp,show o.op=Op.load 91 (.tmp 40) from ho,u0];go_simp) h5 ⟨BW_upd hB 10 (by decide) (by decide) (by decide),rfl,kq⟩
   | 11,_=>
    intro o a' w' Dn hg ho h5 hk h9 ha h0 hB h8
    have u0:a'.eval (.tmp 41)=.pointer (some ⟨v,0,none⟩):=h8 10 (h0 10 (by decide))
    exact op_val (run_op_nil ho u0 w') h5 ⟨BW_upd hB 11 (by decide) (by decide) (by decide),rfl,kq⟩
   | 12,_=>
    intro o a' w' Dn hg ho h5 hk h9 ha h0 hB h8
    have u0:a'.eval (.tmp 42)=.pointer (some ⟨v,0,none⟩):=h8 11 (h0 11 (by decide))
    exact op_val (v:=.pointer (some ⟨v,1,none⟩)) (by simp only [execOp,show o.op=Op.fieldAddr 108 (.tmp 42) 1 from ho,u0];go_simp) h5 ⟨BW_upd hB 12 (by decide) (by decide) (by decide),rfl,kq⟩
   | 13,_=>
    intro o a' w' Dn hg ho h5 hk h9 ha h0 hB h8
    have u0:a'.eval (.tmp 43)=.pointer (some ⟨v,1,none⟩):=h8 12 (h0 12 (by decide))
    have kn:=vol_parLd (kf w' (BW_out hB))
    exact op_val (v:=.agg #[.int .i64 D,.int .i64 L,.int .i64 G]) (by simp [execOp,show o.op=Op.load 23 (.tmp 43) from ho,u0,kn]) h5 ⟨BW_upd hB 13 (by decide) (by decide) (by decide),rfl,kq⟩
   | 14,_=>
    intro o a' w' Dn hg ho h5 hk h9 ha h0 hB h8
    have u0:a'.eval (.tmp 0)=.pointer (some ⟨r,0,none⟩):=(hk.slot 0 (by omega)).trans e0
    exact op_val (run_op_move ho u0 w') h5 ⟨BW_upd hB 14 (by decide) (by decide) (by decide),rfl,kq⟩
   | 15,_=>
    intro o a' w' Dn hg ho h5 hk h9 ha h0 hB h8
    have u0:a'.eval (.tmp 45)=.pointer (some ⟨r,0,none⟩):=h8 14 (h0 14 (by decide))
    exact op_val (run_op_nil ho u0 w') h5 ⟨BW_upd hB 15 (by decide) (by decide) (by decide),rfl,kq⟩
   | 16,_=>
    intro o a' w' Dn hg ho h5 hk h9 ha h0 hB h8
    have u0:a'.eval (.tmp 46)=.pointer (some ⟨r,0,none⟩):=h8 15 (h0 15 (by decide))
    exact op_val (v:=.pointer (some ⟨r,3,none⟩)) (by simp only [execOp,show o.op=Op.fieldAddr 149 (.tmp 46) 3 from ho,u0];go_simp) h5 ⟨BW_upd hB 16 (by decide) (by decide) (by decide),rfl,kq⟩
   | 17,_=>
    intro o a' w' Dn hg ho h5 hk h9 ha h0 hB h8
    have u0:a'.eval (.tmp 47)=.pointer (some ⟨r,3,none⟩):=h8 16 (h0 16 (by decide))
    have cc:=(k8 w' (BW_out hB)).cells.2.2.2.1
    exact op_val (v:=.int .u64 gone) (by simp only [execOp,show o.op=Op.load 101 (.tmp 47) from ho,u0];go_simp) h5 ⟨BW_upd hB 17 (by decide) (by decide) (by decide),rfl,kq⟩
   | 18,_=>
    intro o a' w' Dn hg ho h5 hk h9 ha h0 hB h8
    have u0:a'.eval (.tmp 37)=.pointer (some ⟨ps,0,none⟩):=h8 6 (h0 6 (by decide))
    have u1:a'.eval (.tmp 44)=.agg #[.int .i64 D,.int .i64 L,.int .i64 G]:=h8 13 (h0 13 (by decide))
    have u2:a'.eval (.tmp 48)=.int .u64 gone:=h8 17 (h0 17 (by decide))
    have k9:=BW_below hB h9
    have hc:=BW_pre hB h9
    refine op_call (f:=64) (args:=#[.pointer (some ⟨ps,0,none⟩),.agg #[.int .i64 D,.int .i64 L,.int .i64 G],.int .u64 gone]) (w1:=w') (by simp only [execOp,show o.op=Op.call { callee:=Callee.value (Operand.func 64),args:=#[.tmp 37,.tmp 44,.tmp 48],argTypes:=#[106,23,101] } from ho];go_simp;exact ⟨by simpa [Act.eval] using u0,by simpa [Act.eval] using u1,by simpa [Act.eval] using u2⟩) h5 (hq w' k9) ?_
    rintro e w'' ⟨ao,m,c,rfl,he,kg,ko,pc,hs⟩
    have kp:=k9.size
    have kz:=(Array.getElem?_eq_some_iff.1 hs).1
    refine ⟨_,rfl,?_,⟨ao,m,c,rfl,owns_mono he kp⟩,?_⟩
    · unfold BW
      rw [if_pos upd_eq]
      refine ⟨ko,(Outside.of_all k9 _).trans kg,by omega,fun hz=>?_,fun k0=>?_⟩
      · rw [upd_ne (by decide)] at hz
        rw [if_neg (by rw [hz];decide)] at hc
        rw [hc] at hs
        exact ⟨pc,hs⟩
      · rw [upd_ne (by decide)] at k0
        exact absurd ((ha 23 k0).2 18 (by decide)) (by rw [h9];decide)
    · intro j u hj h
      have ka:j≠18∧j≠19∧j≠20:=by
       refine ⟨fun e=>?_,fun e=>?_,fun e=>?_⟩
       · subst e;rw [h9] at hj;cases hj
       · subst e;exact absurd ((ha 19 hj).2 18 (by decide)) (by rw [h9];decide)
       · subst e;have kr:=(ha 20 hj).2 19 (by decide);exact absurd ((ha 19 kr).2 18 (by decide)) (by rw [h9];decide)
      unfold VW at h ⊢
      split at h
      · exact absurd rfl ka.1
      · exact absurd rfl ka.2.1
      · exact absurd rfl ka.2.2
      · exact h
      · exact h
      · rw [if_pos hj] at hc
        subst hc
        have k5:(w.drew.alloc (.cells #[.int .i64 0,.slice none 0 0] 155)).heap[w.heap.size]?=some (.cells #[.int .i64 0,.slice none 0 0] 155 (0,0)):=blk_alloc_new w.drew _
        refine .inl ⟨?_,_,_,(kg.block _ (by simp) (fun q=>by have:=hT _ q;omega)).trans k5⟩
        rcases h with ⟨h1,_⟩ | ⟨_,h2,_⟩
        · exact h1
        · simp at h2
      · trivial
      · exact h
   | 19,_=>
    intro o a' w' Dn hg ho h5 hk h9 ha h0 hB h8
    obtain ⟨ao,m,c,u0,he⟩:VW w z n xs (vsW6 r v ps D L G gone) 18 (a'.eval (.tmp 49)) w':=h8 18 (h0 18 (by decide))
    exact op_val (run_op_move ho u0 w') h5 ⟨BW_upd hB 19 (by decide) (by decide) (by decide),⟨ao,m,c,rfl,he⟩,kq⟩
   | 20,_=>
    intro o a' w' Dn hg ho h5 hk h9 ha h0 hB h8
    obtain ⟨ao,m,c,u0,he⟩:VW w z n xs (vsW6 r v ps D L G gone) 19 (a'.eval (.tmp 30)) w':=h8 19 (h0 19 (by decide))
    exact op_val (v:=.agg #[.int .i64 z,.slice ao m c]) (by simp only [execOp,show o.op=Op.extract (.tmp 30) 0 from ho,u0];go_simp) h5 ⟨BW_upd hB 20 (by decide) (by decide) (by decide),⟨ao,m,c,rfl,he⟩,kq⟩
   | 21,_=>
    intro o a' w' Dn hg ho h5 hk h9 ha h0 hB h8
    obtain ⟨ao,m,c,u0,he⟩:VW w z n xs (vsW6 r v ps D L G gone) 19 (a'.eval (.tmp 30)) w':=h8 19 (h0 19 (by decide))
    exact op_val (v:=.nilIface) (by simp only [execOp,show o.op=Op.extract (.tmp 30) 1 from ho,u0];go_simp) h5 ⟨BW_upd hB 21 (by decide) (by decide) (by decide),rfl,kq⟩
   | 22,_=>
    intro o a' w' Dn hg ho h5 hk h9 ha h0 hB h8
    have k5:(w'.alloc (.cells #[.int .i64 0,.slice none 0 0] 155)).heap[w'.heap.size]?=some (.cells #[.int .i64 0,.slice none 0 0] 155 (0,0)):=blk_alloc_new w' _
    have k6:Below w'.heap.size w' (w'.alloc (.cells #[.int .i64 0,.slice none 0 0] 155)):=(Below.refl _ w').alloc (Nat.le_refl _) _
    have kb:(w'.alloc (.cells #[.int .i64 0,.slice none 0 0] 155)).heap.size=w'.heap.size+1:=by simp
    have ks:∀ j u,Dn j=true→VW w z n xs (vsW6 r v ps D L G gone) j u w'→VW w z n xs (vsW6 r v ps D L G gone) j u (w'.alloc (.cells #[.int .i64 0,.slice none 0 0] 155)):=fun j u hj h=>VW_stay (fun g cur hg=>k6.block g (Array.getElem?_eq_some_iff.1 hg).1) j u (fun e _=>by subst e;rw [h9] at hj;cases hj) h
    refine op_val (v:=.pointer (some ⟨w'.heap.size,0,none⟩)) (w':=w'.alloc (.cells #[.int .i64 0,.slice none 0 0] 155)) (by simp only [execOp,show o.op=Op.alloc 155 from ho];go_simp) h5 ⟨?_,?_,ks⟩
    · unfold BW at hB ⊢
      rw [upd_ne (show 18≠22 by decide),upd_ne (show 23≠22 by decide),upd_eq]
      by_cases hm:Dn 18=true
      · rw [if_pos hm] at hB ⊢
        exact ⟨hK _ _ hB.1 (Outside.of_all k6 _),hB.2.1.trans (Outside.of_all k6 _),by omega,(fun h=>by cases h),fun k0=>absurd ((ha 23 k0).2 22 (by decide)) (by rw [h9];decide)⟩
      · rw [if_neg hm] at hB ⊢
        rw [if_neg (by rw [h9];decide)] at hB
        rw [if_pos rfl,hB]
    · by_cases hm:Dn 18=true
      · unfold BW at hB
        rw [if_pos hm] at hB
        obtain ⟨pc,hs⟩:=hB.2.2.2.1 h9
        refine .inr ⟨by rw [kb];rfl,by rw [kb];have:=hB.2.2.1;omega,⟨pc,(k6.block _ hB.2.2.1).trans hs⟩,?_⟩
        rw [kb,Nat.add_sub_cancel]
        exact ⟨_,_,k5⟩
      · have hc:=BW_pre hB (by simpa using hm)
        rw [if_neg (by rw [h9];decide)] at hc
        subst hc
        exact .inl ⟨rfl,_,_,k5⟩
   | 23,_=>
    intro o a' w' Dn hg ho h5 hk h9 ha h0 hB h8
    obtain ⟨ao,m,c,u1,he⟩:VW w z n xs (vsW6 r v ps D L G gone) 20 (a'.eval (.tmp 50)) w':=h8 20 (h0 20 (by decide))
    have h7:V7 w (a'.eval (.tmp 7)) w':=h8 22 (h0 22 (by decide))
    obtain ⟨b7,u0,kc,x,y,hx⟩:=h7.at
    obtain ⟨r0,r1,g1,g0⟩:=obj_cells hx
    have hf:=set2b (y':=.slice ao m c) (set2a (x':=.int .i64 z) hx)
    have kh:Outside (fun k=>k=b7) w' ((w'.setCell ⟨b7,0,none⟩ (.int .i64 z)).setCell ⟨b7,1,none⟩ (.slice ao m c)):=two_out w' b7 0 1 _ _
    have kd:((w'.setCell ⟨b7,0,none⟩ (.int .i64 z)).setCell ⟨b7,1,none⟩ (.slice ao m c)).heap.size=w'.heap.size:=by simp [World.setCell]
    have hp:∀ k,k≠b7→((w'.setCell ⟨b7,0,none⟩ (.int .i64 z)).setCell ⟨b7,1,none⟩ (.slice ao m c)).heap[k]?=w'.heap[k]?:=fun k hk=>(blk_setCell_other _ _ _ _ hk).trans (blk_setCell_other _ _ _ _ hk)
    have hh:∀ (g:Nat) (cur:Array Value),w'.heap[g]?=some (.cells cur 238 (0,0))→((w'.setCell ⟨b7,0,none⟩ (.int .i64 z)).setCell ⟨b7,1,none⟩ (.slice ao m c)).heap[g]?=w'.heap[g]?:=fun g cur hg=>hp g (fun e=>by
     rw [e,hx] at hg
     injection hg with h3
     injection h3 with _ h4
     exact step_prog h4.symm)
    refine op_skip (w':=(w'.setCell ⟨b7,0,none⟩ (.int .i64 z)).setCell ⟨b7,1,none⟩ (.slice ao m c)) (by simp only [execOp,show o.op=Op.store 155 (.tmp 7) (.tmp 50) from ho,u0,u1];go_simp) ⟨?_,trivial,fun j u _ h=>VW_stay hh j u (fun _ kv=>kv.store ⟨x,y,hx⟩ ⟨_,_,hf⟩ hp kd) h⟩
    have hm:Dn 18=true:=(ha 19 ((ha 20 (h0 20 (by decide))).2 19 (by decide))).2 18 (by decide)
    unfold BW at hB ⊢
    rw [upd_ne (show 18≠23 by decide),upd_ne (show 22≠23 by decide),upd_eq]
    rw [if_pos hm] at hB ⊢
    refine ⟨hK _ _ hB.1 (kh.mono fun k _ q=>by rw [q];exact kc),hB.2.1.later kh (fun k h1 h2=>by omega),by rw [kd];exact hB.2.2.1,fun hz=>absurd (h0 22 (by decide)) (by rw [hz];decide),fun _=>⟨ao,m,c,owns_keep he hh,?_⟩⟩
    rcases h7 with ⟨q1,_⟩ | ⟨q1,q2,⟨pc,q3⟩,_⟩
    · rw [u0] at q1
      have e:b7=w.heap.size:=by injection q1 with q1;injection q1 with q1;injection q1
      rw [e] at hf ⊢
      exact .inl hf
    · rw [u0] at q1
      have e:b7=w'.heap.size - 1:=by injection q1 with q1;injection q1 with q1;injection q1
      refine .inr ⟨⟨pc,(hp _ (by omega)).trans q3⟩,?_⟩
      rw [kd,← e]
      exact hf
   | 24,_=>
    intro o a' w' Dn hg ho h5 hk h9 ha h0 hB h8
    have u0:a'.eval (.tmp 51)=.nilIface:=h8 21 (h0 21 (by decide))
    exact op_val (v:=.nilIface) (by simp only [execOp,show o.op=Op.assign (.tmp 51) from ho,u0];go_simp) h5 ⟨BW_upd hB 24 (by decide) (by decide) (by decide),rfl,kq⟩
   | n+25,hn=>exact absurd hn (by show ¬ n+25 < 25;omega)
 · rintro a' w' ki hy ⟨Dn,kj,hB⟩ h8
   have h7:V7 w (a'.eval (.tmp 7)) w':=h8 22 (by decide)
   have h6:a'.eval (.tmp 6)=.nilIface:=h8 24 (by decide)
   unfold BW at hB
   rw [if_pos (kj 18 (by decide))] at hB
   obtain ⟨b7,ao,m,c,e7,kc,kx,he⟩:=h7.full (hB.2.2.2.2 (kj 23 (by decide)))
   have e:a'=Act.putFrom (Act.putFrom a 6 [.nilIface,.pointer (some ⟨b7,0,none⟩)]) 30 ((List.range 22).map fun i=>a'.eval (.tmp (30+i))):=out2 ki.size ki.defers (same_ds hy) (by rfl) (by show 6+2≤30;omega) (by rw [List.length_map,List.length_range];omega) (fun i hi=>?_) (fun i hi=>?_)
   · rw [e];exact hQ w' _ b7 m c ao (by rw [List.length_map,List.length_range]) kc kx he hB.1 hB.2.1
   · match i,hi with
     | 0,_=>exact h6
     | 1,_=>exact e7
     | n+2,hn=>exact absurd hn (by simp)
   · rw [List.length_map,List.length_range] at hi
     rw [List.getD_eq_getElem?_getD,List.getElem?_map,List.getElem?_range hi];rfl
end
section
open Go.Shelf
attribute [local go_sem] Oper.semAt_some
def lsOf (A:Arr) (ds:List Nat):Nat:=ds.foldl (fun s d=>if A.lost d=true then s|||2^d else s) 0
theorem lsOf_ok (A:Arr) (ds:List Nat) (d:Nat) (h:A.lost d=false):lsOf A (ds ++ [d])=lsOf A ds:=by unfold lsOf;rw [List.foldl_append];simp [h]
theorem lsOf_lost (A:Arr) (ds:List Nat) (d:Nat) (h:A.lost d=true):lsOf A (ds ++ [d])=lsOf A ds|||2^d:=by unfold lsOf;rw [List.foldl_append];simp [h]
theorem lsOf_lt (A:Arr) (ds:List Nat) (h:∀ d∈ds,d < 16):lsOf A ds < 65536:=by
 unfold lsOf
 suffices ∀ (l:List Nat) (s:Nat),(∀ d∈l,d < 16)→s < 65536→l.foldl (fun s d=>if A.lost d=true then s|||2^d else s) s < 65536 from this ds 0 h (by decide)
 intro l
 induction l with
 | nil=>intro s _ hs;exact hs
 | cons d l ih=>
  intro s hd hs
  refine ih _ (fun x hx=>hd x (by simp [hx])) ?_
  show (if A.lost d=true then s|||2^d else s) < 65536
  split
  · exact Nat.or_lt_two_pow (n:=16) hs (Nat.pow_lt_pow_right (by decide) (hd d (by simp)))
  · exact hs
def Arr.putL (A:Arr) (ds:List Nat) (b:Nat) (f:Nat→List Nat):Arr:=A.putAt (ds.filter fun d=>!A.lost d) b f
theorem putL_nil (A:Arr) (b:Nat) (f:Nat→List Nat):A.putL [] b f=A:=putAt_nil A b f
theorem putL_snoc (A:Arr) (ds:List Nat) (d b:Nat) (f:Nat→List Nat) (h:A.lost d=false):((A.putL ds b f).setBlk d b (f d)).setBad d b false=A.putL (ds ++ [d]) b f:=by
 unfold Arr.putL
 rw [putAt_snoc,List.filter_append]
 simp [h]
theorem putL_lost (A:Arr) (ds:List Nat) (d b:Nat) (f:Nat→List Nat) (h:A.lost d=true):A.putL (ds ++ [d]) b f=A.putL ds b f:=by
 unfold Arr.putL
 rw [List.filter_append]
 simp [h]
structure WcL (w:World) (v p b:Nat) (r:Rec) (A:Arr) (F:Foot) (B S:Nat) (pre:List (Mb S)) (X:World):Prop where
 b0:Boxed X w.heap.size 91 (.pointer (some ⟨v,0,none⟩))
 b1:Boxed X (w.heap.size+1) 3 (.int .i64 b)
 b2:Boxed X (w.heap.size+1+1) 164 (recV r)
 b3:Boxed X (w.heap.size+1+1+1) 101 (.int .u64 (lsOf A (preM pre):Nat))
 arr:ArrAt X p (A.putL (preM pre) b (fun _=>r.blk)) F
 out:Outside (F.has p A.n) w X
 size:B≤X.heap.size
theorem WcL.own {A:Arr} {B:Nat} (hB:w.heap.size+4≤B) (hF:∀ k,F.has p A.n k→k < w.heap.size):OwnFrom B (WcL w v p b r A F B S):=by
 rintro pre X Y row ⟨h0,h1,h2,h3,h4,h5,h6⟩ hg hr
 have hk:∀ k,k < w.heap.size+4→Y.heap[k]?=X.heap[k]?:=fun k hk=>hg.block k (by omega) (fun e=>by have:=(hr k e.symm).1;omega)
 exact ⟨(hk _ (by omega)).trans h0,(hk _ (by omega)).trans h1,(hk _ (by omega)).trans h2,(hk _ (by omega)).trans h3,h4.keep fun k h7=>hk k (by have:=hF k h7;omega),h5.later (T:=fun k=>w.heap.size≤k) ⟨hg.os,hg.tape,hg.output,hg.size,fun k h8 h9=>hk k (by omega)⟩ (fun k h8 h9=>by omega),Nat.le_trans h6 hg.size⟩
theorem writeCopies_any {A:Arr} (hV:Vol w v p D L G ps ho A F) (hF:Free F p A.n v) (hf:A.fit) (b S:Nat) (hb:b < A.nb) (hS:S < 65536) (k7:∀ i,i∈mems S→i < A.n) (hw:A.wait < 0)
 (r:Rec) (hr:r.ok) (hm:Makes r) :
 Calls Tryz.prog 69 #[.pointer (some ⟨v,0,none⟩),.int .i64 b,recV r,.int .u64 S] w fun e w'=>e=.returned (.int .u64 (lsOf A (mems S):Nat))∧ArrAt w' p (A.putL (mems S) b (fun _=>r.blk)) F∧Outside (F.has p A.n) w w':=by
 obtain ⟨n,HN⟩:∃ n:Nat,Hid (9≤n):=⟨9,Nat.le_refl _⟩
 obtain ⟨rv,hj⟩:∃ rv,recV r=rv:=⟨_,rfl⟩
 have kh:∃ ty rx,rv=.iface ty rx:=by cases r <;> exact ⟨_,_,hj.symm⟩
 obtain ⟨ty,rx,rfl⟩:=kh
 rw [hj]
 have HR:=hide hj
 clear hj
 have hn:∀ k,F.has p A.n k→k < w.heap.size:=fun k hk=>hV.arr.has_lt hk
 have ki:=blk_len hr
 have kj:=blk_lt hr
 refine (callsIn_wide (n:=n)).1 ?_
 refine callsIn_of_wp_marks Tryz.func69 rfl trivial ?_ rfl
 simp only [Tryz.ntmps69,List.size_toArray,List.length_cons,List.length_nil,Nat.reduceAdd,Nat.reduceSub,Array.replicate_succ,Array.replicate_zero,List.push_toArray,List.append_toArray,List.nil_append,List.cons_append]
 gi_wp2
 obtain ⟨w4,h9⟩:∃ w4,(((w.alloc (.cells #[.pointer (some ⟨v,0,none⟩)] 91)).alloc (.cells #[.int .i64 (b:Int)] 3)).alloc (.cells #[.iface ty rx] 164)).alloc (.cells #[.int .u64 0] 101)=w4:=⟨_,rfl⟩
 have h0:Boxed w4 w.heap.size 91 (.pointer (some ⟨v,0,none⟩)):=by rw [← h9];exact (((Boxed.new w _ _).alloc _).alloc _).alloc _
 have h1:Boxed w4 (w.heap.size+1) 3 (.int .i64 b):=by
  rw [← h9]
  have:=Boxed.new (w.alloc (.cells #[.pointer (some ⟨v,0,none⟩)] 91)) 3 (.int .i64 b)
  rw [World.size_alloc] at this
  exact (this.alloc _).alloc _
 have h2:Boxed w4 (w.heap.size+1+1) 164 (recV r):=by
  rw [← h9,HR.out]
  have:=Boxed.new ((w.alloc (.cells #[.pointer (some ⟨v,0,none⟩)] 91)).alloc (.cells #[.int .i64 (b:Int)] 3)) 164 (.iface ty rx)
  rw [World.size_alloc,World.size_alloc] at this
  exact this.alloc _
 have h3:Boxed w4 (w.heap.size+1+1+1) 101 (.int .u64 0):=by
  rw [← h9]
  have:=Boxed.new (((w.alloc (.cells #[.pointer (some ⟨v,0,none⟩)] 91)).alloc (.cells #[.int .i64 (b:Int)] 3)).alloc (.cells #[.iface ty rx] 164)) 101 (.int .u64 0)
  rw [World.size_alloc,World.size_alloc,World.size_alloc] at this
  exact this
 have hz:w4.heap.size=w.heap.size+4:=by rw [← h9];simp
 have k8:Below w.heap.size w w4:=by rw [← h9];exact ((((Below.refl _ w).alloc (Nat.le_refl _) _).alloc (by simp) _).alloc (by simp;omega) _).alloc (by simp;omega) _
 rw [h9]
 clear h9
 refine at_wide (members_any S w4) ?_
 rintro e w' ⟨rfl,rfl⟩
 have k9:(w4.alloc (.cells #[.int .u64 (S:Int)] 101)).heap.size=w4.heap.size+1:=by simp
 have ka:(w4.alloc (.cells #[.int .u64 (S:Int)] 101)).cell? ⟨w4.heap.size,0,none⟩=some (.int .u64 (S:Int)):=(Boxed.new w4 101 (.int .u64 (S:Int))).cell
 have hp:Below w.heap.size w (w4.alloc (.cells #[.int .u64 (S:Int)] 101)):=k8.alloc (by omega) _
 have kb:WcL w v p b r A F (w4.heap.size+1) S [] (w4.alloc (.cells #[.int .u64 (S:Int)] 101)):=
  ⟨h0.alloc _,h1.alloc _,h2.alloc _,h3.alloc _,by rw [show preM ([]:List (Mb S))=[] from rfl,putL_nil];exact hV.arr.below hp (Nat.le_refl _),Outside.of_all hp _,by omega⟩
 obtain ⟨w6,kc⟩:∃ w6,w4.alloc (.cells #[.int .u64 (S:Int)] 101)=w6:=⟨_,rfl⟩
 have kd:=hide ka
 have hs:=hide2 kb hp
 have kk:=hide hz
 clear ka kb h0 h1 h2 h3 k8 hp hz
 gi_wp2
 obtain ⟨hz,km⟩:w.heap.size+4≤w4.heap.size∧w4.heap.size≤w.heap.size+4:=by have:=kk.out;omega
 rw [kc] at k9 kd hs
 clear kc
 rw [← k9] at hs
 refine wpIn_rangeFunc_ownG rfl (by have:=HN.out;omega) (gf:=83) (lb:=#[.pointer (some ⟨w4.heap.size,0,none⟩)]) rfl trivial (enters_of Tryz.func83 (by kernel_rfl) rfl)
  (members_mb (n - 1) w4.heap.size S hS w6 (by omega) kd.out (by have:=hV.room;omega) (hV.tab.mono (by exact hV.tab.lt) hs.out.2)) (fun h k=>kpT_t h k) (kpT_b (by have:=hV.room;omega)) (Below.refl _ _) (fun _=>rfl)
  (WcL w v p b r A F w6.heap.size S) (fun _ _ _=>False) (WcL.own (by omega) hn) (fun _ _ _ _ _ h _ _=>h.elim) hs.out.1
  (fun x=>{ tmps:=#[.pointer (some ⟨v,0,none⟩),.int .i64 (b:Int),.iface ty rx,.int .u64 (S:Int),.pointer (some ⟨w.heap.size,0,none⟩),.pointer (some ⟨w.heap.size+1,0,none⟩),.pointer (some ⟨w.heap.size+1+1,0,none⟩),undef,.pointer (some ⟨w.heap.size+1+1+1,0,none⟩),.int .i64 (x.1:Int),.int .u64 (S:Int),.func (.func 83) #[] #[.pointer (some ⟨w4.heap.size,0,none⟩)],.int .i64 (x.1:Int),undef,undef,undef,undef,undef,undef,undef,undef,undef,undef],defers:=[] }) ?assign ?body ?done ?stop
 case assign=>
  intro l2 x X Kk hK
  unfold encMb
  gi_wp2
  exact hK
 case body=>
  rintro l2 pre x X hi hg
  have ke:x.1∈mems S:=mem_mems.2 x.2
  have kn:=x.2.1
  have ha:=hV.turn hF hi.out hi.arr
  have kf:(A.putL (preM pre) b (fun _=>r.blk)).fit:=hf.putAt _ _ _ fun _ _=>⟨ki,kj⟩
  have q1:=lsOf_lt A (preM pre) (fun d hd=>by obtain ⟨y,_,rfl⟩:=List.mem_map.1 hd;exact y.2.1)
  cases h7:A.lost x.1 with
  | false=>
   have h5:=volWrite_ok ha.vol ha.arr kf x.1 b (k7 _ ke) hb hw h7 r hr hm ha.laid hF.g hF.v
   rw [putL_snoc _ _ _ _ _ h7,HR.out] at h5
   have c0:=hi.b0.cell
   have c1:=hi.b1.cell
   have c2:=hi.b2.cell
   rw [HR.out] at c2
   have HI:=hide2 hi h7
   clear hi hg ha h7
   gi_wp2
   refine at_round h5 ?_
   clear h5
   rintro e w2 ⟨rfl,hy,hc⟩
   have h6:∀ k,w.heap.size≤k→k < X.heap.size→w2.heap[k]?=X.heap[k]?:=fun k hk k0=>hc.block k k0 (fun q=>by have:=hn k q;omega)
   have h4:=HI.out.1.b3.lt
   have H2:=hide3 hy hc h6
   clear hy hc h6
   gi_wp2
   obtain ⟨hy,hc,h6⟩:=H2.out
   obtain ⟨hi,h7⟩:=HI.out
   have hO:Outside (F.has p A.n) w w2:=hi.out.trans hc
   refine ⟨⟨hc.size,fun k o hk ho _=>(h6 k (by omega) (Array.getElem?_eq_some_iff.1 ho).1).trans ho⟩,fun _=>hV.tab.keep (hO.block _ hV.tab.lt hF.t),?_⟩
   exact ⟨(h6 _ (by omega) (by omega)).trans hi.b0,(h6 _ (by omega) (by omega)).trans hi.b1,(h6 _ (by omega) (by omega)).trans hi.b2,by rw [preM_snoc,lsOf_ok _ _ _ h7];exact (h6 _ (by omega) (by omega)).trans hi.b3,by rw [preM_snoc];exact hy,hO,Nat.le_trans hi.size hc.size⟩
  | true=>
   have h5:=volWrite_lost ha.vol ha.arr kf x.1 b (k7 _ ke) (by show A.wait≠0;omega) h7 r hr hm ha.laid
   rw [HR.out] at h5
   have c0:=hi.b0.cell
   have c1:=hi.b1.cell
   have c2:=hi.b2.cell
   rw [HR.out] at c2
   have HI:=hide2 hi h7
   clear hi hg ha h7
   gi_wp2
   refine at_round h5 ?_
   clear h5
   rintro e w2 ⟨q,rfl,hq,_,h8⟩
   obtain ⟨hi,h7⟩:=HI.out
   have he:Boxed w2 (w.heap.size+1+1+1) 101 (.int .u64 (lsOf A (preM pre):Nat)):=(h8.block _ hi.b3.lt).trans hi.b3
   have d0:=he.cell
   have d1:=he.frozen
   have k5:=with_any (lsOf A (preM pre)) x.1 (by omega) (by omega) w2
   rw [← lsOf_lost _ _ _ h7] at k5
   unfold beV
   have h4:=hi.b3.lt
   have H2:=hide2 h8 he
   clear h8 he hi h7 c0 c1 c2
   generalize lsOf A (preM pre)=ls at *
   generalize kg:lsOf A (preM pre ++ [x.1])=ls2 at *
   have ko:=hide kg
   clear kg
   gi_wp2
   refine at_round k5 ?_
   rintro e w3 ⟨rfl,rfl⟩
   clear k5
   gi_wp2
   obtain ⟨h8,he⟩:=H2.out
   obtain ⟨hi,h7⟩:=HI.out
   have q2:=h8.size
   have h6:∀ k,k≠w.heap.size+1+1+1→k < X.heap.size→(w3.setCell ⟨w.heap.size+1+1+1,0,none⟩ (.int .u64 (ls2:Nat))).heap[k]?=X.heap[k]?:=fun k hk k0=>(blk_setCell_other _ _ _ _ hk).trans (h8.block k k0)
   have k6:X.heap.size≤(w3.setCell ⟨w.heap.size+1+1+1,0,none⟩ (.int .u64 (ls2:Nat))).heap.size:=by simp [World.setCell];omega
   have hO:Outside (F.has p A.n) w (w3.setCell ⟨w.heap.size+1+1+1,0,none⟩ (.int .u64 (ls2:Nat))):=hi.out.later (T:=fun k=>k=w.heap.size+1+1+1) ⟨h8.os,h8.tape,h8.output,k6,fun k hk kp=>h6 k kp hk⟩ (fun k h1 h2=>by omega)
   have q3:=hi.size
   refine ⟨⟨k6,fun k o hk ho _=>(h6 k (by omega) (Array.getElem?_eq_some_iff.1 ho).1).trans ho⟩,fun _=>hV.tab.keep (hO.block _ hV.tab.lt hF.t),?_⟩
   exact ⟨(h6 _ (by omega) (by omega)).trans hi.b0,(h6 _ (by omega) (by omega)).trans hi.b1,(h6 _ (by omega) (by omega)).trans hi.b2,by rw [preM_snoc,ko.out];exact he.set _,by rw [preM_snoc,putL_lost _ _ _ _ _ h7];exact hi.arr.keep fun k hk=>h6 k (by have:=hn k hk;omega) (hi.arr.has_lt hk),hO,Nat.le_trans hi.size k6⟩
 case done=>
  rintro D' xs X kr ks hi hK
  have c3:=hi.b3.cell
  have f3:=hi.b3.frozen
  have HI:=hide2 hi hK
  clear hi hK
  gi_wp2
  obtain ⟨hi,hK⟩:=HI.out
  have hh:preM xs=mems S:=ks
  have kv:=hi.b3.set (.int .u64 (lsOf A (preM xs):Nat))
  have kx:=KeepsOthers.setCell X ⟨w.heap.size+1+1+1,0,none⟩ (.int .u64 (lsOf A (preM xs):Nat))
  have ky:=kx.same D' _ hK rfl
  have q4:=(Array.getElem?_eq_some_iff.1 hK).1
  refine end_cell (b:=w.heap.size+1+1+1) (t8:=8) Tryz.results69 rfl rfl (load_set (s:=lsOf A (preM xs)) kv) ky (by omega) ⟨by rw [hh],?_,?_⟩
  · have h4:=hi.arr
    rw [hh] at h4
    exact h4.keep fun k hk=>by have:=hn k hk;exact (World.putObj_heap_other (by omega)).trans (blk_setCell_other _ _ _ _ (by show k≠w.heap.size+1+1+1;omega))
  · exact hi.out.later (T:=fun k=>w.heap.size≤k) ⟨rfl,rfl,rfl,by simp [World.setCell,World.putObj],fun k _ kz=>(World.putObj_heap_other (by omega)).trans (blk_setCell_other _ _ _ _ (by show k≠w.heap.size+1+1+1;omega))⟩ (fun k q5 kz=>by omega)
 case stop=>
  rintro D' cc pre X kr q0 hx hK
  exact hx.elim
end
def likeB (r:Rec):Prop:=∀ w:World,(binOp .neq 164 (recV r) (recV r)).run Tryz.prog w=.ok (.bool false) w
theorem like_of {tx:TypeId} {x:Value} (h:recV r=.iface tx x) (he:∀ w:World,(Op.equalIn 10000 164 (.iface tx x) (.iface tx x)).run Tryz.prog w=.ok true w):likeB r:=fun w=>by
 rw [h]
 simp only [binOp]
 simp [Op.equal,Op.maxDepth,he w]
theorem like_root (D L G t f n:Nat):likeB (.root D L G t f n):=like_of (x:=.agg (rootA D L G t f n)) rfl (eqRec_same D L G t f n)
theorem infoFilled:∃ i:TypeInfo,Tryz.prog.info? 137=some i∧i.comparable=true:=by
 have:(Tryz.prog.info? 137).map (fun i=>i.comparable)=some true:=by kernel_rfl
 rw [Option.map_eq_some_iff] at this
 exact this
theorem like_filled:likeB .filled:=like_of (x:=.agg #[]) rfl fun w=>by
 obtain ⟨i,h1,h2⟩:=infoFilled
 refine (eqIn_iface 9999 137 _ _ i h1 h2 w).trans ?_
 go_simp
theorem lsOf_none {A:Arr} (h:∀ i,A.lost i=false) (ds:List Nat):lsOf A ds=0:=by
 unfold lsOf
 suffices ∀ (l:List Nat),l.foldl (fun s d=>if A.lost d=true then s|||2^d else s) 0=0 from this ds
 intro l
 induction l with
 | nil=>rfl
 | cons d l ih=>rw [List.foldl_cons,h d];exact ih
def chsV (q:Nat):Value:=.func (.func 36) #[] #[.pointer (some ⟨q,0,none⟩)]
theorem choose_any {q:Nat} (h:Boxed w q 101 (.int .u64 S)) (x:Int):Calls Tryz.prog 36 #[.int .u64 x,.pointer (some ⟨q,0,none⟩)] w fun e w'=>e=.returned (.int .u64 S)∧w'=w:=by
 have c:=h.cell
 go_enter Tryz.func36,Tryz.ntmps36
 go_wp2
 go_ret
 exact ⟨rfl,rfl⟩
end Go.Proofs.YthcgahldacpolaaGreatDoor
