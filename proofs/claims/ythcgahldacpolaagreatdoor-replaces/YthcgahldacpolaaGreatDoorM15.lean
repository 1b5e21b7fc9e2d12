import Derived.Test.YthcgahldacpolaaGreatDoorM14
import Derived.LaidEql
import Derived.Stop.Asserts
import Derived.RowKitTokens
set_option maxRecDepth 100000
set_option maxHeartbeats 8000000
namespace Go.Proofs.YthcgahldacpolaaGreatDoor
open Go.RowKit Go.Deep
variable {off:Bool} {room:Int} {sb a p D L G n v t f ar D' L' G' t' f' n' ps ho:Nat} {pg ob:Value} {w w':World}
def nodeA (D L G:Int) (lost:Int) (reading:Bool) (regs:Int) (steps:Value) (n o:Value):Array Value:=#[.int .i64 D,.int .i64 L,.int .i64 G,.int .u64 lost,.bool reading,.int .i64 regs,steps,n,o]
structure ShAt (w:World) (sb:Nat) (room:Int):Prop where
 ends:w.heap[sb]?=some (.cells (nodeA 0 0 0 0 false 0 (.slice none 0 0) (.pointer (some ⟨sb,0,none⟩)) (.pointer (some ⟨sb,0,none⟩))) 202 (0,0))
 map:∃ n,w.heap[sb+1]?=some (.map #[] n)
 list:w.heap[sb+1+1]?=some (.cells #[.int .i64 room,.map (some (sb+1)),.pointer (some ⟨sb,0,none⟩)] 205 (0,0))
 shelf:w.heap[sb+1+1+1]?=some (.cells #[.pointer (some ⟨sb+1+1,0,none⟩)] 172 (0,0))
theorem ShAt.lt (h:ShAt w sb room):sb+1+1+1 < w.heap.size:=(Array.getElem?_eq_some_iff.1 h.shelf).1
theorem ShAt.keep (h:ShAt w sb room) (hk:∀ k,sb≤k→k≤sb+1+1+1→w'.heap[k]?=w.heap[k]?):ShAt w' sb room:=
 ⟨(hk _ (by omega) (by omega)).trans h.ends,h.map.imp fun _ q=>(hk _ (by omega) (by omega)).trans q,(hk _ (by omega) (by omega)).trans h.list,(hk _ (by omega) (by omega)).trans h.shelf⟩
theorem ShAt.below (h:ShAt w sb room) (hb:Below w.heap.size w w'):ShAt w' sb room:=h.keep fun k _ h2=>hb.block k (by have:=h.lt;omega)
theorem alloc3_blocks (w:World) (o1 o2 o3:Obj):(((w.alloc o1).alloc o2).alloc o3).heap[w.heap.size]?=some o1∧(((w.alloc o1).alloc o2).alloc o3).heap[w.heap.size+1]?=some o2∧(((w.alloc o1).alloc o2).alloc o3).heap[w.heap.size+1+1]?=some o3:=by
 refine ⟨(blk_alloc_lt _ _ _ (by simp;omega)).trans ((blk_alloc_lt _ _ _ (by simp)).trans (blk_alloc_new _ _)),(blk_alloc_lt _ _ _ (by simp)).trans ?_,?_⟩
 · have:=blk_alloc_new (w.alloc o1) o2
   rwa [World.size_alloc] at this
 · have:=blk_alloc_new ((w.alloc o1).alloc o2) o3
   rwa [World.size_alloc,World.size_alloc] at this
structure RlAt (w:World) (sb:Nat) (room:Int):Prop where
 ends:w.heap[sb]?=some (.cells (nodeA 0 0 0 0 false 0 (.slice none 0 0) (.pointer (some ⟨sb,0,none⟩)) (.pointer (some ⟨sb,0,none⟩))) 202 (0,0))
 map:∃ n,w.heap[sb+1]?=some (.map #[] n)
 list:w.heap[sb+1+1]?=some (.cells #[.int .i64 room,.map (some (sb+1)),.pointer (some ⟨sb,0,none⟩)] 205 (0,0))
theorem recentNew_any (n:Int) (w:World):Calls Tryz.prog 70 #[.int .i64 n] w fun e w'=>e=.returned (.pointer (some ⟨w.heap.size+1+1,0,none⟩))∧RlAt w' w.heap.size n∧w'.heap.size=w.heap.size+1+1+1∧Below w.heap.size w w':=by
 have h0:∀ w,(Instr.makeMap 203 none).run Tryz.prog w=.ok (.map (some w.heap.size)) (w.alloc (.map #[] 0)):=fun _=>rfl
 have h1:∀ o1 o2 o3:Obj,Below w.heap.size w (((w.alloc o1).alloc o2).alloc o3):=fun o1 o2 o3=>(((Below.refl _ w).alloc (Nat.le_refl _) _).alloc (by simp) _).alloc (by simp;omega) _
 have H:=hide h1
 clear h1
 go_enter Tryz.func70,Tryz.ntmps70
 go_wp2
 go_ret
 obtain ⟨q1,q2,q3⟩:=alloc3_blocks w (.cells (nodeA 0 0 0 0 false 0 (.slice none 0 0) (.pointer (some ⟨w.heap.size,0,none⟩)) (.pointer (some ⟨w.heap.size,0,none⟩))) 202) (.map #[] 0) (.cells #[.int .i64 n,.map (some (w.heap.size+1)),.pointer (some ⟨w.heap.size,0,none⟩)] 205)
 exact ⟨rfl,⟨q1,⟨0,q2⟩,q3⟩,by simp,H.out _ _ _⟩
theorem newShelf_any (n:Int) (w:World):Calls Tryz.prog 52 #[.int .i64 n] w fun e w'=>∃ b,e=.returned (.pointer (some ⟨b+1+1+1,0,none⟩))∧w.heap.size≤b∧ShAt w' b n∧Below w.heap.size w w':=by
 go_enter Tryz.func52,Tryz.ntmps52
 go_wp2_with fail
 refine (recentNew_any n w).mono ?_
 rintro e w1 ⟨rfl,hr,h0,h1⟩
 have H:=hide3 h1 hr h0
 have hz:=h1.size
 clear h1 hr h0
 go_wp2
 go_ret
 obtain ⟨h1,hr,h0⟩:=H.out
 have h2:Below w1.heap.size w1 (w1.alloc (.cells #[.pointer (some ⟨w.heap.size+1+1,0,none⟩)] 172)):=(Below.refl _ w1).alloc (Nat.le_refl _) _
 refine ⟨w.heap.size,by rw [h0];rfl,Nat.le_refl _,⟨(h2.block _ (by omega)).trans hr.ends,hr.map.imp fun _ q=>(h2.block _ (by omega)).trans q,(h2.block _ (by omega)).trans hr.list,?_⟩,h1.trans (h2.mono hz)⟩
 have:=blk_alloc_new w1 (.cells #[.pointer (some ⟨w.heap.size+1+1,0,none⟩)] 172)
 rwa [h0] at this
noncomputable def RVn:Array Oper:=((Tryz.f43.body.bind (rgf · 1))).getD #[]
def shVn:List (Op×Option Nat×List Nat):=[(Op.move (.tmp 0),some 7,[]),
 (Op.load 23 (.tmp 4),some 8,[]),
 (Op.move (.tmp 2),some 9,[]),
 (Op.call { callee:=Callee.value (Operand.func 52),args:=#[.tmp 9],argTypes:=#[3] },some 10,[2]),
 (Op.build 108 #[(0,.tmp 7),(1,.tmp 8),(2,.tmp 10)],some 11,[0,1,3]),
 (Op.box 108 (.tmp 11),some 12,[4]),
 (Op.assign (.tmp 12),some 6,[5,3,0,1,2,3,4,5])]
theorem RVn_shape:RegShape RVn 6 13 shVn:=regShape (by kernel_rfl) (by kernel_rfl)
def VVn (w0:World) (p D L G:Nat) (n:Int) (i:Nat) (u:Value) (w:World):Prop:=match i with
 | 0=>u=.pointer (some ⟨p,0,none⟩)
 | 1=>u=.agg #[.int .i64 D,.int .i64 L,.int .i64 G]
 | 2=>u=.int .i64 n
 | 3=>∃ b,u=.pointer (some ⟨b+1+1+1,0,none⟩)∧w0.heap.size≤b∧ShAt w b n
 | 4=>∃ b,u=.agg #[.pointer (some ⟨p,0,none⟩),.int .i64 D,.int .i64 L,.int .i64 G,.pointer (some ⟨b+1+1+1,0,none⟩),.int .u64 0]∧w0.heap.size≤b∧ShAt w b n
 | 5 | 6=>∃ v b,u=.pointer (some ⟨v,0,none⟩)∧b+1+1+1 < v∧VolAt w v p D L G (b+1+1+1) 0∧w0.heap.size≤b∧ShAt w b n
 | _=>True
theorem volNew_region {ops:Array Oper} {Q:Exit→Act→World→Prop} {a:Act} {q:Nat} {n:Int} (ha:RVn=ops) (hq:w.heap[q]?=some (.cells #[.int .i64 (D:Int),.int .i64 (L:Int),.int .i64 (G:Int)] 23 (0,0))) (hs:a.tmps.size=13)
 (e0:a.eval (.tmp 0)=.pointer (some ⟨p,0,none⟩)) (e4:a.eval (.tmp 4)=.pointer (some ⟨q,0,none⟩)) (e2:a.eval (.tmp 2)=.int .i64 n)
 (hQ:∀ (w':World) (vs:List Value) (v b:Nat),vs.length=6→b+1+1+1 < v→VolAt w' v p D L G (b+1+1+1) 0→w.heap.size≤b→ShAt w' b n→Below w.heap.size w w'→Q .normal (Act.putFrom a 6 (.pointer (some ⟨v,0,none⟩) :: vs)) w'):(Code.region 1 ops true).wp Tryz.prog Q a w:=by
 subst ha
 have hj:q < w.heap.size:=(Array.getElem?_eq_some_iff.1 hq).1
 refine region_facts (by kernel_rfl) RVn_shape a w (by omega) (VVn w p D L G n) (fun _ w'=>Below w.heap.size w w') ((Below.refl _ w).drew) ?_ ?_
 · intro i hi
   have hf:∀ (w' w'':World),Below w'.heap.size w' w''→∀ j u,VVn w p D L G n j u w'→VVn w p D L G n j u w'':=fun w' w'' hb j u h=>by
    match j,h with
    | 0,h | 1,h | 2,h=>exact h
    | 3,⟨b,h1,h2,h3⟩=>exact ⟨b,h1,h2,h3.below hb⟩
    | 4,⟨b,h1,h2,h3⟩=>exact ⟨b,h1,h2,h3.below hb⟩
    | 5,⟨v,b,h1,h2,h3,h4,h5⟩=>exact ⟨v,b,h1,h2,h3.keep (hb.block _ h3.lt),h4,h5.below hb⟩
    | 6,⟨v,b,h1,h2,h3,h4,h5⟩=>exact ⟨v,b,h1,h2,h3.keep (hb.block _ h3.lt),h4,h5.below hb⟩
    | j+7,_=>trivial
   match i,hi with
   | 0,_=>exact fun o a' w' Dn hg ho h0 hk h7 h8 h6 hB hV=>op_val (run_op_move ho ((hk.slot 0 (by omega)).trans e0) w') h0 ⟨hB,rfl,kq⟩
   | 1,_=>
    intro o a' w' Dn hg ho h0 hk h7 h8 h6 hB hV
    have u0:a'.eval (.tmp 4)=.pointer (some ⟨q,0,none⟩):=(hk.slot 4 (by omega)).trans e4
    have hm:w'.heap[q]?=_:=(hB.block q hj).trans hq
    have hp:(Instr.loadAt 23 (.pointer (some ⟨q,0,none⟩))).run Tryz.prog w'=.ok (.agg #[.int .i64 (D:Int),.int .i64 (L:Int),.int .i64 (G:Int)]) w':=by
     simp only [Instr.loadAt,Instr.sureAddr,Sem.run_bind,Sem.run_pure,Result.andThen_ok,run_loadVar_row w' q 23 23 #[.int .i64 (D:Int),.int .i64 (L:Int),.int .i64 (G:Int)] (0,0) _ hm Tryz.underlying23 rfl (by kernel_rfl)]
    exact op_val (v:=.agg #[.int .i64 D,.int .i64 L,.int .i64 G]) (by simp [execOp,show o.op=Op.load 23 (.tmp 4) from ho,u0,hp]) h0 ⟨hB,rfl,kq⟩
   | 2,_=>exact fun o a' w' Dn hg ho h0 hk h7 h8 h6 hB hV=>op_val (run_op_move ho ((hk.slot 2 (by omega)).trans e2) w') h0 ⟨hB,rfl,kq⟩
   | 3,_=>
    intro o a' w' Dn hg ho h0 hk h7 h8 h6 hB hV
    have u0:a'.eval (.tmp 9)=.int .i64 n:=hV 2 (h6 2 (by decide))
    refine op_call (f:=52) (args:=#[.int .i64 n]) (w1:=w') (by simp only [execOp,show o.op=Op.call { callee:=Callee.value (Operand.func 52),args:=#[.tmp 9],argTypes:=#[3] } from ho];go_simp;simpa [Act.eval] using u0) h0 (newShelf_any n w') ?_
    rintro e w'' ⟨b,rfl,hb,h9,hh⟩
    exact ⟨_,rfl,hB.trans (hh.mono hB.size),⟨b,rfl,Nat.le_trans hB.size hb,h9⟩,fun j u _ h=>hf w' w'' hh j u h⟩
   | 4,_=>
    intro o a' w' Dn hg ho h0 hk h7 h8 h6 hB hV
    have u0:a'.eval (.tmp 7)=.pointer (some ⟨p,0,none⟩):=hV 0 (h6 0 (by decide))
    have u1:a'.eval (.tmp 8)=.agg #[.int .i64 D,.int .i64 L,.int .i64 G]:=hV 1 (h6 1 (by decide))
    obtain ⟨b,u2,hc,h9⟩:VVn w p D L G n 3 (a'.eval (.tmp 10)) w':=hV 3 (h6 3 (by decide))
    exact op_val (v:=.agg #[.pointer (some ⟨p,0,none⟩),.int .i64 D,.int .i64 L,.int .i64 G,.pointer (some ⟨b+1+1+1,0,none⟩),.int .u64 0]) (by simp only [execOp,show o.op=Op.build 108 #[(0,.tmp 7),(1,.tmp 8),(2,.tmp 10)] from ho,List.map_toArray,List.map_cons,List.map_nil,u0,u1,u2];go_simp) h0 ⟨hB,⟨b,rfl,hc,h9⟩,kq⟩
   | 5,_=>
    intro o a' w' Dn hg ho h0 hk h7 h8 h6 hB hV
    obtain ⟨b,u0,hc,h9⟩:VVn w p D L G n 4 (a'.eval (.tmp 11)) w':=hV 4 (h6 4 (by decide))
    have he:Below w'.heap.size w' (w'.alloc (.cells #[.pointer (some ⟨p,0,none⟩),.int .i64 D,.int .i64 L,.int .i64 G,.pointer (some ⟨b+1+1+1,0,none⟩),.int .u64 0] 108)):=(Below.refl _ w').alloc (Nat.le_refl _) _
    exact op_val (v:=.pointer (some ⟨w'.heap.size,0,none⟩)) (w':=w'.alloc (.cells #[.pointer (some ⟨p,0,none⟩),.int .i64 D,.int .i64 L,.int .i64 G,.pointer (some ⟨b+1+1+1,0,none⟩),.int .u64 0] 108)) (by simp only [execOp,show o.op=Op.box 108 (.tmp 11) from ho,u0];go_simp) h0 ⟨hB.trans (he.mono hB.size),⟨_,b,rfl,h9.lt,blk_alloc_new _ _,hc,h9.below he⟩,fun j u _ h=>hf w' _ he j u h⟩
   | 6,_=>
    intro o a' w' Dn hg ho h0 hk h7 h8 h6 hB hV
    obtain ⟨v,b,u0,h1,h2,h3,h4⟩:VVn w p D L G n 5 (a'.eval (.tmp 12)) w':=hV 5 (h6 5 (by decide))
    exact op_val (v:=.pointer (some ⟨v,0,none⟩)) (by simp [execOp,show o.op=Op.assign (.tmp 12) from ho,u0]) h0 ⟨hB,⟨v,b,rfl,h1,h2,h3,h4⟩,kq⟩
   | n+7,hn=>exact absurd hn (by show ¬ n+7 < 7;omega)
 · rintro a' w' hr ⟨Dn,hD,hB⟩ hV
   obtain ⟨v,b,u0,h1,h2,h3,h4⟩:VVn w p D L G n 6 (a'.eval (.tmp 6)) w':=hV 6 (by decide)
   have e:a'=Act.putFrom a 6 (.pointer (some ⟨v,0,none⟩) :: (List.range 6).map fun i=>a'.eval (.tmp (7+i))):=hr.out _ (by simp) (by omega) (fun i hi=>by
    simp at hi
    cases i with
    | zero=>exact u0
    | succ i=>
     rw [List.getD_cons_succ,List.getD_eq_getElem?_getD,List.getElem?_map,List.getElem?_range (by omega),show 6+(i+1)=7+i by omega];rfl)
   rw [e]
   exact hQ w' _ v b (by rw [List.length_map,List.length_range]) h1 h2 h3 h4 hB
theorem volNew_any (p D L G:Nat) (n:Int) (w:World):Calls Tryz.prog 43 #[.pointer (some ⟨p,0,none⟩),.agg #[.int .i64 D,.int .i64 L,.int .i64 G],.int .i64 n] w fun e w'=>∃ v b,e=.returned (.pointer (some ⟨v,0,none⟩))∧w.heap.size≤v∧VolAt w' v p D L G (b+1+1+1) 0∧(w.heap.size≤b∧b+1+1+1 < v∧ShAt w' b n)∧Below w.heap.size w w':=by
 have hq:=blk_alloc_new w (.cells #[.int .i64 (D:Int),.int .i64 (L:Int),.int .i64 (G:Int)] 23)
 have h0:Below w.heap.size w (w.alloc (.cells #[.int .i64 (D:Int),.int .i64 (L:Int),.int .i64 (G:Int)] 23)):=(Below.refl _ w).alloc (Nat.le_refl _) _
 have hz:(w.alloc (.cells #[.int .i64 (D:Int),.int .i64 (L:Int),.int .i64 (G:Int)] 23)).heap.size=w.heap.size+1:=by simp
 go_enter Tryz.func43,Tryz.ntmps43
 go_wp2_with fail
 refine volNew_region (by kernel_rfl) hq rfl rfl rfl rfl ?_
 intro w' vs v b h1 hv hV h3 h2 hb
 obtain ⟨x0,x1,x2,x3,x4,x5,rfl⟩:=list6 h1
 rw [hz] at h3 hb
 have H:=hide3 hV h2 (h0.trans (hb.mono (by omega)))
 clear hV h2 hb h0 hq hz h1
 rename_i hK
 refine hK _ _ ?_
 clear hK
 simp only [Act.putFrom,Act.put,List.setIfInBounds_toArray,List.set_cons_succ,List.set_cons_zero]
 go_wp2
 go_ret
 exact ⟨v,b,rfl,by omega,H.out.1,⟨by omega,hv,H.out.2.1⟩,H.out.2.2⟩
section
open Go.Extern.Stop Go.Stop Go.Extern
theorem Tryz.valueOfP (t:Addr) (w:World):(ReflectliteValue.unpack (.iface 56 (.pointer (some t)))).run Tryz.prog w
 = .ok (.agg #[.pointer (some ⟨3,56,none⟩),.pointer (some ⟨w.heap.size,0,none⟩),.int .u64 150]) (w.alloc (.cells #[.pointer (some t)] 56)):=by kernel_rfl
theorem Tryz.typeP (a:Addr) (w:World):(ReflectliteValue.methodAny (ReflectliteValue.valueError "reflectlite.Value.Type" 0) (fun t _ _ _=>ReflectliteType.toType t) #[.agg #[.pointer (some ⟨3,56,none⟩),.pointer (some a),.int .u64 150]]).run Tryz.prog w
 = .ok (.iface 110 (.agg #[.pointer (some ⟨3,56,none⟩)])) w:=by kernel_rfl
theorem Tryz.methodKind (h:Value) (w:World):(Go.method 432 110 (.agg #[h]) "Kind").run Tryz.prog w=.ok (187,h) w:=by kernel_rfl
theorem Tryz.kindP (w:World):((ReflectliteType.abiMethod fun t=>(fun a:Nat=>Value.int IntKind.u8 (a:Int)) <$> Rtype.kind t) #[.pointer (some ⟨3,56,none⟩)]).run Tryz.prog w=.ok (.int .u8 22) w:=by kernel_rfl
theorem Tryz.kindE (w:World):((ReflectliteType.abiMethod fun t=>(fun a:Nat=>Value.int IntKind.u8 (a:Int)) <$> Rtype.kind t) #[.pointer (some ⟨3,37,none⟩)]).run Tryz.prog w=.ok (.int .u8 2) w:=by kernel_rfl
theorem Tryz.partsP (a:Addr) (w:World):(ReflectliteValue.parts (.agg #[.pointer (some ⟨3,56,none⟩),.pointer (some a),.int .u64 150])).run Tryz.prog w=.ok (some (56,a,150)) w:=by kernel_rfl
theorem Tryz.isNilP (a p:Addr) (W:World) (ha:W.cell? a=some (.pointer (some p))) :
 (ReflectliteValue.method (ReflectliteValue.valueError "reflectlite.Value.IsNil" 0) ReflectliteValue.isNil #[.agg #[.pointer (some ⟨3,56,none⟩),.pointer (some a),.int .u64 150]]).run Tryz.prog W=.ok (.bool false) W:=by
 refine Eq.trans (congrArg (fun z=>Sem.run Tryz.prog z W) (show ReflectliteValue.method _ _ #[.agg #[.pointer (some ⟨3,56,none⟩),.pointer (some a),.int .u64 150]]=(ReflectliteValue.parts (.agg #[.pointer (some ⟨3,56,none⟩),.pointer (some a),.int .u64 150]) >>= _) from rfl)) ?_
 simp only [Sem.run_bind,Tryz.partsP,Result.andThen]
 simp [ReflectliteValue.isNil,loadVar,isAgg,underlying,Tryz.underlying56,ha,Result.andThen]
theorem Tryz.methodElem (h:Value) (w:World):(Go.method 432 110 (.agg #[h]) "Elem").run Tryz.prog w=.ok (202,.agg #[h]) w:=by kernel_rfl
theorem Tryz.methodImplements (h:Value) (w:World):(Go.method 432 110 (.agg #[h]) "Implements").run Tryz.prog w=.ok (203,.agg #[h]) w:=by kernel_rfl
theorem Tryz.methodAssignableTo (h:Value) (w:World):(Go.method 432 110 (.agg #[h]) "AssignableTo").run Tryz.prog w=.ok (200,.agg #[h]) w:=by kernel_rfl
theorem Tryz.elemP (w:World):(ReflectliteType.method ReflectliteType.elem #[.agg #[.pointer (some ⟨3,56,none⟩)]]).run Tryz.prog w=.ok (.iface 110 (.agg #[.pointer (some ⟨3,37,none⟩)])) w:=by kernel_rfl
theorem Tryz.implementsE (w:World):(ReflectliteType.relation "Implements" ReflectliteType.implements_ #[.agg #[.pointer (some ⟨3,37,none⟩)],.iface 110 (.agg #[.pointer (some ⟨3,29,none⟩)])]).run Tryz.prog w=.ok (.bool true) w:=by kernel_rfl
theorem Tryz.typeOfE (v:Value) (w:World):(ReflectliteType.typeOf #[.iface 37 v]).run Tryz.prog w=.ok (.iface 110 (.agg #[.pointer (some ⟨3,37,none⟩)])) w:=by kernel_rfl
theorem Tryz.assignableE (w:World):(ReflectliteType.relation "AssignableTo" ReflectliteType.assignableTo #[.agg #[.pointer (some ⟨3,37,none⟩)],.iface 110 (.agg #[.pointer (some ⟨3,37,none⟩)])]).run Tryz.prog w=.ok (.bool true) w:=by kernel_rfl
theorem Tryz.valueOfE (x:Int) (w:World):(ReflectliteValue.unpack (.iface 37 (.int .i64 x))).run Tryz.prog w
 = .ok (.agg #[.pointer (some ⟨3,37,none⟩),.pointer (some ⟨w.heap.size,0,none⟩),.int .u64 130]) (w.alloc (.cells #[.int .i64 x] 37)):=by kernel_rfl
theorem Tryz.elemOfP (w:World):(Rtype.elem? 56).run Tryz.prog w=.ok (some 37) w:=by kernel_rfl
theorem Tryz.mkE (p:Addr) (w:World):(ReflectliteValue.mk 37 p ReflectliteValue.flagAddr).run Tryz.prog w=.ok (.agg #[.pointer (some ⟨3,37,none⟩),.pointer (some p),.int .u64 386]) w:=by kernel_rfl
theorem Tryz.elemVP (a p:Addr) (W:World) (ha:W.cell? a=some (.pointer (some p))) :
 (ReflectliteValue.method (ReflectliteValue.valueError "reflectlite.Value.Elem" 0) ReflectliteValue.elem #[.agg #[.pointer (some ⟨3,56,none⟩),.pointer (some a),.int .u64 150]]).run Tryz.prog W
  = .ok (.agg #[.pointer (some ⟨3,37,none⟩),.pointer (some p),.int .u64 386]) W:=by
 refine Eq.trans (congrArg (fun z=>Sem.run Tryz.prog z W) (show ReflectliteValue.method _ _ #[.agg #[.pointer (some ⟨3,56,none⟩),.pointer (some a),.int .u64 150]]=(ReflectliteValue.parts (.agg #[.pointer (some ⟨3,56,none⟩),.pointer (some a),.int .u64 150]) >>= _) from rfl)) ?_
 simp only [Sem.run_bind,Tryz.partsP,Result.andThen]
 simp [ReflectliteValue.elem,loadVar,isAgg,underlying,Tryz.underlying56,ha,Result.andThen,Tryz.elemOfP,Tryz.mkE]
theorem Tryz.partsEa (a:Addr) (w:World):(ReflectliteValue.parts (.agg #[.pointer (some ⟨3,37,none⟩),.pointer (some a),.int .u64 386])).run Tryz.prog w=.ok (some (37,a,386)) w:=by kernel_rfl
theorem Tryz.partsE (a:Addr) (w:World):(ReflectliteValue.parts (.agg #[.pointer (some ⟨3,37,none⟩),.pointer (some a),.int .u64 130])).run Tryz.prog w=.ok (some (37,a,130)) w:=by kernel_rfl
theorem Tryz.directE (w:World):(Rtype.directlyAssignable 37 37).run Tryz.prog w=.ok true w:=by kernel_rfl
theorem Tryz.setE (ta b:Addr) (x:Int) (old:Value) (W:World) (hb:W.cell? b=some (.int .i64 x)) (ht:W.cell? ta=some old) (hf:W.frozen? ta=false) :
 (ReflectliteValue.set #[.agg #[.pointer (some ⟨3,37,none⟩),.pointer (some ta),.int .u64 386],.agg #[.pointer (some ⟨3,37,none⟩),.pointer (some b),.int .u64 130]]).run Tryz.prog W
  = .ok (.tuple #[]) (W.setCell ta (.int .i64 x)):=by
 refine Eq.trans (congrArg (fun z=>Sem.run Tryz.prog z W) (show ReflectliteValue.set #[.agg #[.pointer (some ⟨3,37,none⟩),.pointer (some ta),.int .u64 386],.agg #[.pointer (some ⟨3,37,none⟩),.pointer (some b),.int .u64 130]]=(ReflectliteValue.parts (.agg #[.pointer (some ⟨3,37,none⟩),.pointer (some ta),.int .u64 386]) >>= fun p=>ReflectliteValue.parts (.agg #[.pointer (some ⟨3,37,none⟩),.pointer (some b),.int .u64 130]) >>= (_:_→Sem Value)) from rfl)) ?_
 simp only [Sem.run_bind,Tryz.partsEa,Tryz.partsE,Result.andThen]
 simp [ReflectliteValue.flagAddr,loadVar,isAgg,underlying,Tryz.underlying37,hb,Result.andThen,Tryz.directE,storeVar,Value.cells,storeCells,Addr.add]
 rw [run_store Tryz.prog W ta _ _ (by rfl)]
 simp [ht,hf]
theorem as_hit (x:Int) (t:Addr) (old:Value) (w:World) (hg:w.cell? ⟨0,0,none⟩=some (.iface 110 (.agg #[.pointer (some ⟨3,29,none⟩)]))) (h1:w.cell? t=some old) (h3:w.frozen? t=false) :
 Calls Tryz.prog 15 #[.iface 37 (.int .i64 x),.iface 56 (.pointer (some t))] w fun ev w'=>ev=.returned (.bool true)∧w'=((((w.alloc (.cells #[.pointer (some t)] 56)).alloc (.cells #[.pointer (some ⟨3,56,none⟩),.pointer (some ⟨w.heap.size,0,none⟩),.int .u64 150] 78)).alloc (.cells #[.pointer (some ⟨3,56,none⟩),.pointer (some ⟨w.heap.size,0,none⟩),.int .u64 150] 78)).alloc (.cells #[.int .i64 x] 37)).setCell t (.int .i64 x):=by
 have h6 := @run_callFunc_extern Tryz.prog 23 _ (fun args=>ReflectliteValue.unpack (args.getD 0 (.tuple #[]))) Tryz.func23 (by kernel_rfl) (by kernel_rfl) (by kernel_rfl) (by kernel_rfl)
 have h7 := @run_callFunc_extern Tryz.prog 24 _ (ReflectliteValue.methodAny (ReflectliteValue.valueError "reflectlite.Value.Type" 0) (fun t _ _ _=>ReflectliteType.toType t)) Tryz.func24 (by kernel_rfl) (by kernel_rfl) (by kernel_rfl) (by kernel_rfl)
 have h8 := @run_callFunc_extern Tryz.prog 25 _ (ReflectliteValue.method (ReflectliteValue.valueError "reflectlite.Value.IsNil" 0) ReflectliteValue.isNil) Tryz.func25 (by kernel_rfl) (by kernel_rfl) (by kernel_rfl) (by kernel_rfl)
 have h5 := @run_callFunc_extern Tryz.prog 187 _ (ReflectliteType.abiMethod fun t=>do pure (.int .u8 (← Rtype.kind t))) Tryz.func187 (by kernel_rfl) (by kernel_rfl) (by kernel_rfl) (by kernel_rfl)
 have h9 := @run_callFunc_extern Tryz.prog 202 _ (ReflectliteType.method ReflectliteType.elem) Tryz.func202 (by kernel_rfl) (by kernel_rfl) (by kernel_rfl) (by kernel_rfl)
 have ha := @run_callFunc_extern Tryz.prog 203 _ (ReflectliteType.relation "Implements" ReflectliteType.implements_) Tryz.func203 (by kernel_rfl) (by kernel_rfl) (by kernel_rfl) (by kernel_rfl)
 have hc := @run_callFunc_extern Tryz.prog 37 _ ReflectliteType.typeOf Tryz.func37 (by kernel_rfl) (by kernel_rfl) (by kernel_rfl) (by kernel_rfl)
 have he := @run_callFunc_extern Tryz.prog 200 _ (ReflectliteType.relation "AssignableTo" ReflectliteType.assignableTo) Tryz.func200 (by kernel_rfl) (by kernel_rfl) (by kernel_rfl) (by kernel_rfl)
 have hf := @run_callFunc_extern Tryz.prog 38 _ (ReflectliteValue.method (ReflectliteValue.valueError "reflectlite.Value.Elem" 0) ReflectliteValue.elem) Tryz.func38 (by kernel_rfl) (by kernel_rfl) (by kernel_rfl) (by kernel_rfl)
 have hh := @run_callFunc_extern Tryz.prog 39 _ ReflectliteValue.set Tryz.func39 (by kernel_rfl) (by kernel_rfl) (by kernel_rfl) (by kernel_rfl)
 have tO:=Tryz.typeOfE
 have mA:=Tryz.methodAssignableTo
 have aE:=Tryz.assignableE
 have vE:=Tryz.valueOfE
 have f6:=Tryz.valueOfP
 have f7:=Tryz.typeP
 have mK:=Tryz.methodKind
 have mE:=Tryz.methodElem
 have mI:=Tryz.methodImplements
 have kP:=Tryz.kindP
 have kE:=Tryz.kindE
 have eP:=Tryz.elemP
 have iE:=Tryz.implementsE
 have n8:=Tryz.isNilP ⟨w.heap.size,0,none⟩ t ((w.alloc (.cells #[.pointer (some t)] 56)).alloc (.cells #[.pointer (some ⟨3,56,none⟩),.pointer (some ⟨w.heap.size,0,none⟩),.int .u64 150] 78)) (by simp)
 have h4:0 < w.heap.size:=by
  rcases Nat.eq_zero_or_pos w.heap.size with h0 | h
  · simp [World.cell?,h0] at hg
  · exact h
 have hi:((w.alloc (.cells #[.pointer (some t)] 56)).alloc (.cells #[.pointer (some ⟨3,56,none⟩),.pointer (some ⟨w.heap.size,0,none⟩),.int .u64 150] 78)).cell? ⟨0,0,none⟩=some (.iface 110 (.agg #[.pointer (some ⟨3,29,none⟩)])):=by
  rw [World.cell?_alloc_lt _ _ ⟨0,0,none⟩ (by simp),World.cell?_alloc_lt _ _ ⟨0,0,none⟩ h4];exact hg
 have h2:t.block < w.heap.size:=by
  rcases Nat.lt_or_ge t.block w.heap.size with h | h
  · exact h
  · simp [World.cell?,Array.getElem?_eq_none h] at h1
 have el:=Tryz.elemVP ⟨w.heap.size,0,none⟩ t (((w.alloc (.cells #[.pointer (some t)] 56)).alloc (.cells #[.pointer (some ⟨3,56,none⟩),.pointer (some ⟨w.heap.size,0,none⟩),.int .u64 150] 78)).alloc (.cells #[.pointer (some ⟨3,56,none⟩),.pointer (some ⟨w.heap.size,0,none⟩),.int .u64 150] 78)) (by rw [World.cell?_alloc_lt _ _ ⟨w.heap.size,0,none⟩ (by simp;omega)];simp)
 have st:=Tryz.setE t ⟨w.heap.size+1+1+1,0,none⟩ x old ((((w.alloc (.cells #[.pointer (some t)] 56)).alloc (.cells #[.pointer (some ⟨3,56,none⟩),.pointer (some ⟨w.heap.size,0,none⟩),.int .u64 150] 78)).alloc (.cells #[.pointer (some ⟨3,56,none⟩),.pointer (some ⟨w.heap.size,0,none⟩),.int .u64 150] 78)).alloc (.cells #[.int .i64 x] 37))
  (by rw [World.cell?_alloc_at _ _ _ _ (by simp)];rfl)
  (by rw [World.cell?_alloc_lt _ _ t (by simp;omega),World.cell?_alloc_lt _ _ t (by simp;omega),World.cell?_alloc_lt _ _ t (by simp;omega),World.cell?_alloc_lt _ _ t h2];exact h1)
  (by rw [World.frozen?_alloc_old _ _ t (by simp;omega),World.frozen?_alloc_old _ _ t (by simp;omega),World.frozen?_alloc_old _ _ t (by simp;omega),World.frozen?_alloc_old _ _ t (Nat.ne_of_lt h2)];exact h3)
 go_enter Tryz.func15,Tryz.ntmps15
 go_wp2
 refine wp_loop_rounds 1 ?_
 rw [rounds_succ]
 go_wp2
 go_ret
 exact ⟨rfl,rfl⟩
theorem tell_nil (w:World) :
 Calls Tryz.prog 7 #[.nilIface] w fun e w'=>e=.returned (.int .i64 0)∧Below w.heap.size w w':=by
 go_enter Tryz.func7,Tryz.ntmps7
 go_wp2
 go_ret
 exact ⟨rfl,(Below.refl _ _).alloc (Nat.le_refl _) _⟩
theorem tell_errno (x:Int) (w:World) (hg:w.cell? ⟨0,0,none⟩=some (.iface 110 (.agg #[.pointer (some ⟨3,29,none⟩)]))) :
 Calls Tryz.prog 7 #[.iface 37 (.int .i64 x)] w fun e w'=>e=.returned (.int .i64 x)∧Below w.heap.size w w':=by
 have h1:0 < w.heap.size:=by
  rcases Nat.eq_zero_or_pos w.heap.size with h0 | h
  · simp [World.cell?,h0] at hg
  · exact h
 have h2:(w.alloc (.cells #[.int .i64 0] 37)).cell? ⟨0,0,none⟩=some (.iface 110 (.agg #[.pointer (some ⟨3,29,none⟩)])):=by
  rw [World.cell?_alloc_lt _ _ ⟨0,0,none⟩ h1];exact hg
 go_enter Tryz.func7,Tryz.ntmps7
 go_wp2_with (go_at_call 15;refine (as_hit x ⟨w.heap.size,0,none⟩ (.int .i64 0) _ h2 (by simp) (by simp)).mono ?_;rintro e w' ⟨rfl,rfl⟩)
 go_ret
 refine ⟨rfl,?_⟩
 repeat (first | exact Below.refl _ _ | refine Below.setCell ?_ (by simp) _ | refine Below.alloc ?_ (by (try simp only [nblk_alloc]);omega) _)
end
theorem Tryz.infoErrno:(Tryz.prog.info? 37).map (fun i=>i.comparable)=some true:=by kernel_rfl
theorem eql_errno (n m:Int) (w:World):(binOp .eql 29 (.iface 37 (.int .i64 n)) (.iface 37 (.int .i64 m))).run Tryz.prog w=.ok (.bool (n == m)) w:=by
 obtain ⟨i,hi,hc⟩:=Option.map_eq_some_iff.1 Tryz.infoErrno
 have h1:∀ d,(Op.equalIn (d+1) 37 (.int .i64 n) (.int .i64 m)).run Tryz.prog w=.ok (n == m) w:=fun d=>run_equalIn_int (w:=w) d 37 .i64 .i64 n m Tryz.underlying37
 have h2:∀ d,(Op.equalIn (d+1+1) 29 (.iface 37 (.int .i64 n)) (.iface 37 (.int .i64 m))).run Tryz.prog w=.ok (n == m) w:=fun d=>by
  rw [Op.equalIn]
  simp [Sem.run_bind,run_underlying Tryz.underlying29,Result.andThen_ok,typeInfo,hi,hc,h1 d]
 have he:=h2 9998
 simp only [binOp]
 simp [Op.equal,Op.maxDepth,he]
theorem is2_errno (n:Int) (hn:n≠13) (w:World):Calls Tryz.prog 46 #[.iface 37 (.int .i64 n),.iface 37 (.int .i64 13),.bool true] w fun e w'=>e=.returned (.bool false)∧w'=w:=by
 have h1:∀ w,(binOp .eql 29 (.iface 37 (.int .i64 n)) (.iface 37 (.int .i64 13))).run Tryz.prog w=.ok (.bool false) w:=fun w=>by rw [eql_errno];simp [hn]
 have a1:∀ w:World,(Instr.typeAssert (.iface 37 (.int .i64 n)) 29 145 true).run Tryz.prog w=.ok (.tuple #[.nilIface,.bool false]) w:=fun w=>run_typeAssert_lacksB Tryz.underlying145 (by kernel_rfl) (by kernel_rfl) _ _ w
 have a2:∀ w:World,(Instr.typeAssert (.iface 37 (.int .i64 n)) 29 118 true).run Tryz.prog w=.ok (.tuple #[.nilIface,.bool false]) w:=fun w=>run_typeAssert_lacksB Tryz.underlying118 (by kernel_rfl) (by kernel_rfl) _ _ w
 have a3:∀ w:World,(Instr.typeAssert (.iface 37 (.int .i64 n)) 29 119 true).run Tryz.prog w=.ok (.tuple #[.nilIface,.bool false]) w:=fun w=>run_typeAssert_lacksB Tryz.underlying119 (by kernel_rfl) (by kernel_rfl) _ _ w
 go_enter Tryz.func46,Tryz.ntmps46
 go_wp2
 refine wp_loop_rounds 1 ?_
 rw [rounds_succ]
 go_wp2
 go_ret
 exact ⟨rfl,rfl⟩
theorem is_errno (n:Int) (hn:n≠13) (w:World):Calls Tryz.prog 32 #[.iface 37 (.int .i64 n),.iface 37 (.int .i64 13)] w fun e w'=>e=.returned (.bool false)∧w'=w:=by
 have ht:=Tryz.typeOfE (.int .i64 13)
 have h0 := @run_callFunc_extern Tryz.prog 37 _ Extern.ReflectliteType.typeOf Tryz.func37 (by kernel_rfl) (by kernel_rfl) (by kernel_rfl) (by kernel_rfl)
 have mC:∀ (h:Value) (w:World),(Go.method 432 110 (.agg #[h]) "Comparable").run Tryz.prog w=.ok (201,.agg #[h]) w:=fun h w=>by kernel_rfl
 have hC:∀ w:World,(callFunc 201 #[.agg #[.pointer (some ⟨3,37,none⟩)]]).run Tryz.prog w=.ok (.value (.bool true)) w:=fun w=>by kernel_rfl
 go_enter Tryz.func32,Tryz.ntmps32
 go_wp2_with fail
 refine (is2_errno n hn w).mono ?_
 rintro e w' ⟨rfl,rfl⟩
 go_wp2
 go_ret
 exact ⟨rfl,rfl⟩
def arcA (v D L G t f n:Nat) (pg ob:Value) (off:Bool):Array Value:=#[.pointer (some ⟨v,0,none⟩),.int .i64 D,.int .i64 L,.int .i64 G,.int .u64 t,.int .i64 f,.int .i64 n,pg,ob,.bool off]
def ArcAt (w:World) (a v D L G t f n:Nat) (pg ob:Value) (off:Bool):Prop:=w.heap[a]?=some (.cells (arcA v D L G t f n pg ob off) 98 (0,0))
def noCut (v:Value):Prop:=v=.nilIface∨∃ n:Int,n≠13∧v=.iface 37 (.int .i64 n)
theorem noCut.isErr {v:Value} (h:noCut v):isErr v:=by
 rcases h with h | ⟨n,_,h⟩
 · exact .inl h
 · exact .inr ⟨_,_,h⟩
theorem arcPowered_ok (k:FuncId) (first cap:Array Value) (hi:∀ (args:Array Value) (w:World),(callFunc k args).run Tryz.prog w=.ok (.enter k args) w) (w:World) (a:Nat) (cs:Array Value) (ha:w.heap[a]?=some (.cells cs 98 (0,0))) (h9:cs[9]?=some (.bool false)) (R:World→Value→World→Prop)
 (h8:∀ w1,Below w.heap.size w w1→w1.heap.size=w.heap.size+1→Calls Tryz.prog k (first ++ cap) w1 fun e w2=>∃ v,e=.returned v∧noCut v∧R w1 v w2∧w2.heap[w.heap.size]?=w1.heap[w.heap.size]?∧∃ cs',w2.heap[a]?=some (.cells cs' 98 (0,0))∧cs'[9]?=some (.bool false)) :
 Calls Tryz.prog 20 #[.pointer (some ⟨a,0,none⟩),.func (.func k) first cap] w fun e w'=>∃ v w1 w2,e=.returned v∧noCut v∧Below w.heap.size w w1∧w1.heap.size=w.heap.size+1∧R w1 v w2∧w'=(w2.setCell ⟨w.heap.size,0,none⟩ v).setCell ⟨a,9,none⟩ (.bool false):=by
 have hj:a < w.heap.size:=(Array.getElem?_eq_some_iff.1 ha).1
 have c9:w.cell? ⟨a,9,none⟩=some (.bool false):=by simp [World.cell?,ha,h9]
 have hP:=powered_ok k first cap hi w (fun w1 v w2=>noCut v∧R w1 v w2∧∃ cs',w2.heap[a]?=some (.cells cs' 98 (0,0))∧cs'[9]?=some (.bool false)) (fun w1 h1 h2=>(h8 w1 h1 h2).mono (by
  rintro e w2 ⟨v,rfl,h3,h4,h5,h6⟩
  exact ⟨v,rfl,h3.isErr,⟨h3,h4,h6⟩,h5⟩))
 go_enter Tryz.func20,Tryz.ntmps20
 go_wp2_with fail
 refine hP.mono ?_
 rintro e w3 ⟨v,w1,w2,rfl,_,hc,he,⟨hf,hR,cs',hg,hh⟩,rfl⟩
 have h0:(w2.setCell ⟨w.heap.size,0,none⟩ v).heap[a]?=some (.cells cs' 98 (0,0)):=(blk_setCell_other _ _ _ _ (by show a≠w.heap.size;omega)).trans hg
 obtain ⟨w3,h7⟩:∃ w3,w2.setCell ⟨w.heap.size,0,none⟩ v=w3:=⟨_,rfl⟩
 rw [h7] at h0 ⊢
 have d9:w3.cell? ⟨a,9,none⟩=some (.bool false):=by simp [World.cell?,h0,hh]
 have f9:w3.frozen? ⟨a,9,none⟩=false:=by simp [World.frozen?,h0]
 have H:=hide5 hc he hR hf h7
 clear hc he hR hP h8 h0 hh hg h7
 rcases hf with rfl | ⟨n,hn,rfl⟩
 · go_wp2_with fail
   refine (is_nil 13 w3).mono ?_
   rintro e w' ⟨rfl,rfl⟩
   go_wp2
   go_ret
   obtain ⟨q1,q2,q3,q4,q5⟩:=H.out
   exact ⟨.nilIface,w1,w2,rfl,q4,q1,q2,q3,by rw [q5]⟩
 · go_wp2_with fail
   refine (is_errno n hn w3).mono ?_
   rintro e w' ⟨rfl,rfl⟩
   go_wp2
   go_ret
   obtain ⟨q1,q2,q3,q4,q5⟩:=H.out
   exact ⟨.iface 37 (.int .i64 n),w1,w2,rfl,q4,q1,q2,q3,by rw [q5]⟩
theorem ArcAt.cells (h:ArcAt w a v D L G t f n pg ob off):w.cell? ⟨a,0,none⟩=some (.pointer (some ⟨v,0,none⟩))∧w.cell? ⟨a,4,none⟩=some (.int .u64 t)∧w.cell? ⟨a,6,none⟩=some (.int .i64 n)∧w.cell? ⟨a,7,none⟩=some pg∧w.cell? ⟨a,8,none⟩=some ob:=by
 have h':w.heap[a]?=some (.cells (arcA v D L G t f n pg ob off) 98 (0,0)):=h
 simp [World.cell?,h',arcA]
theorem ArcAt.keep (h:ArcAt w ar v D' L' G' t' f' n' pg ob off) (e:w'.heap[ar]?=w.heap[ar]?):ArcAt w' ar v D' L' G' t' f' n' pg ob off:=Eq.trans e h
theorem ArcAt.lt (h:ArcAt w ar v D' L' G' t' f' n' pg ob off):ar < w.heap.size:=(Array.getElem?_eq_some_iff.1 h).1
theorem volParams_at (h:VolAt w v p D L G ps ho):Calls Tryz.prog 33 #[.pointer (some ⟨v,0,none⟩)] w fun e w'=>e=.returned (.agg #[.int .i64 D,.int .i64 L,.int .i64 G])∧Below w.heap.size w w'∧w'.heap.size=w.heap.size+1∧w'.heap[w.heap.size]?=some (.cells #[.int .i64 D,.int .i64 L,.int .i64 G] 23 (0,0)):=by
 have h3:=h.lt
 have h1:VolAt (w.alloc (.cells #[.int .i64 0,.int .i64 0,.int .i64 0] 23)) v p D L G ps ho:=h.keep (blk_alloc_lt _ _ _ h3)
 obtain ⟨c0,c1,c2,c3,c4⟩:=h1.cells
 have hb:Below w.heap.size w (w.alloc (.cells #[.int .i64 0,.int .i64 0,.int .i64 0] 23)):=(Below.refl _ w).alloc (Nat.le_refl _) _
 have ht:=blk_alloc_new w (.cells #[.int .i64 0,.int .i64 0,.int .i64 0] 23)
 obtain ⟨w1,h0⟩:∃ w1,w.alloc (.cells #[.int .i64 0,.int .i64 0,.int .i64 0] 23)=w1:=⟨_,rfl⟩
 rw [h0] at c0 c1 c2 c3 c4 hb ht
 have r0:w1.cell? ⟨w.heap.size,0,none⟩=some (.int .i64 0):=by simp [World.cell?,ht]
 have r1:w1.cell? ⟨w.heap.size,1,none⟩=some (.int .i64 0):=by simp [World.cell?,ht]
 have r2:w1.cell? ⟨w.heap.size,2,none⟩=some (.int .i64 0):=by simp [World.cell?,ht]
 have rf:∀ k,w1.frozen? ⟨w.heap.size,k,none⟩=false:=fun k=>by simp [World.frozen?,ht]
 have f0:=rf 0
 have f1:=rf 1
 have f2:=rf 2
 have h2:w1.heap.size=w.heap.size+1:=by rw [← h0];simp
 have H:=hide3 hb ht h2
 clear h1 hb ht rf h h2
 go_enter Tryz.func33,Tryz.ntmps33
 go_wp2
 have hh:=heap_setCell_at (j:=2) (heap_setCell_at (j:=1) (heap_setCell_at (j:=0) H.out.2.1 (.int .i64 (D:Int))) (.int .i64 (L:Int))) (.int .i64 (G:Int))
 refine bodyPost_ret (v:=.agg #[.int .i64 D,.int .i64 L,.int .i64 G]) (results_cell_row Tryz.results33 _ _ w.heap.size 23 #[.int .i64 (D:Int),.int .i64 (L:Int),.int .i64 (G:Int)] (0,0) _ rfl hh Tryz.underlying23 rfl (by kernel_rfl)) rfl ?_
 exact ⟨rfl,((H.out.1.setCell (p:=⟨w.heap.size,0,none⟩) (Nat.le_refl _) _).setCell (p:=⟨w.heap.size,1,none⟩) (Nat.le_refl _) _).setCell (p:=⟨w.heap.size,2,none⟩) (Nat.le_refl _) _,by simp [World.setCell,H.out.2.2],hh⟩
theorem volParams_any (h:VolAt w v p D L G ps ho):Calls Tryz.prog 33 #[.pointer (some ⟨v,0,none⟩)] w fun e w'=>e=.returned (.agg #[.int .i64 D,.int .i64 L,.int .i64 G])∧Below w.heap.size w w':=(volParams_at h).mono fun _ _ q=>⟨q.1,q.2.1⟩
theorem stripeSize_any (h:VolAt w v p D L G ps ho) (hD:D≤1000):Calls Tryz.prog 92 #[.pointer (some ⟨v,0,none⟩)] w fun e w'=>e=.returned (.int .i64 ((D*44:Nat):Int))∧w'=w:=by
 obtain ⟨c0,c1,c2,c3,c4⟩:=h.cells
 have e1:((D*44:Nat):Int)=(D:Int)*44:=by omega
 rw [e1]
 go_enter Tryz.func92,Tryz.ntmps92
 go_wp2
 go_ret
 exact ⟨rfl,rfl⟩
theorem pageSize_any (ha:ArcAt w a v D' L' G' t f n pg ob off) (h:VolAt w v p D L G ps ho) (h0:1≤D) (hD:D≤1000):Calls Tryz.prog 102 #[.pointer (some ⟨a,0,none⟩)] w fun e w'=>e=.returned (.int .i64 ((D*44 - 4:Nat):Int))∧w'=w:=by
 obtain ⟨c0,_⟩:=ha.cells
 have e1:((D*44 - 4:Nat):Int)=((D*44:Nat):Int) - 4:=by omega
 rw [e1]
 have hs:=stripeSize_any h hD
 have b1:D*44≤44000:=by omega
 generalize D*44=q at *
 go_enter Tryz.func102,Tryz.ntmps102
 go_wp2_with fail
 refine hs.mono ?_
 rintro e w' ⟨rfl,rfl⟩
 go_wp2
 go_ret
 exact ⟨rfl,rfl⟩
theorem length_nil (w:World):Calls Tryz.prog 125 #[.slice none 0 0] w fun e w'=>e=.returned (.int .i64 0)∧w'=w:=by
 go_enter Tryz.func125,Tryz.ntmps125
 go_wp2
 refine wp_loop_rounds 1 ?_
 rw [rounds_succ]
 go_wp2
 go_ret
 exact ⟨rfl,rfl⟩
end Go.Proofs.YthcgahldacpolaaGreatDoor
