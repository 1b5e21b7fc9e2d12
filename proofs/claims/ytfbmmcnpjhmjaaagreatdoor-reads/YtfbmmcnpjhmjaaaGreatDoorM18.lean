import Derived.Defers
import Derived.Recover
import Derived.Test.YtfbmmcnpjhmjaaaGreatDoorM17
set_option maxRecDepth 100000
set_option maxHeartbeats 8000000
open Go.IntKind renaming i64 -> Z9
open Go.Value renaming int -> Z8, pointer -> Z7, slice -> Z6
open Go.Obj renaming cells -> Z5
open Go.Ending renaming returned -> Z4
open Go.Operand renaming tmp -> Z3
open Go renaming undef -> Z2, World -> ZY, Value -> ZX, Calls -> ZV
open Option renaming none -> Z1, some -> Z0
open Bool renaming false -> ZZ
open Go.RowKit renaming Below -> ZW
open Array renaming getElem?_eq_some_iff -> Tm, replicate_succ -> Tr, replicate_zero -> Ts
open List renaming range -> Tn, nil_append -> Tp, push_toArray -> Tt, cons_append -> Tu, setIfInBounds_toArray -> Tv, set_cons_succ -> Tw, set_cons_zero -> Tx, append_toArray -> Ty, replicate -> Tz
open Nat renaming le_refl -> To, zero_add -> Tq
open Go.Proofs.Tryz renaming prog -> ZU
namespace Go.Proofs.YtfbmmcnpjhmjaaaGreatDoor
open Go.RowKit
variable {a:Act} {ops:Array Oper} {off:Bool} {Q:Exit->Act->ZY->Prop} {room:Int} {dl:List Nat} {xs:List ZX} {sb p D L G n v t f ar D' L' G' t' f' n' ps ho base size i:Nat} {o:Oper} {P:Program} {e:TypeId} {pg ob:ZX} {Vi:ZX->ZY->Prop} {w w':ZY} {B S:ZY->Prop}
section
open Go.Deep
theorem jX (p:Addr) (w:ZY):CallsD ZU 106 #[Z7 (Z0 p)] .returning w λe u' w'=>e=Z4 (.tuple #[])/\u'=.returning/\w'=w:=by
 refine callsD_of_wpS Tryz.func106 rfl λa cs f=>?_;have g:∀ w,(binOp .eql 20 .nilIface .nilIface).run ZU w=.ok (.bool true) w:=λw=>by
  have b:∀ d,(Op.equalIn (d+1) 20 .nilIface .nilIface).run ZU w=.ok true w:=λd=>by
   simp only [Op.equalIn,Sem.run_bind,run_underlying Tryz.underlying20,Result.andThen_ok];rfl
  have c:=b 9999;simp only [binOp];simp [Op.equal,Op.maxDepth,c]
 apply wpS_seq;apply wpS_region;generalize hN:Code.wpS ZU _ _=N;simp [wpOpsS,go_sem,recoverD,f,Tryz.ntmps106,Exit.thenS];rw [<- hN];clear hN;refine wpS_of_wp ?_;simp only [Tr,Ts,Tt,Tp,Tu,Tv,Tw,Tx,Ty];go_wp2;cases a;simp_all [bodyPostS,results,Tryz.results106]
def isErr (v:ZX):Prop:=v=.nilIface\/∃ t u,v=.iface t u
theorem Ce (k:FuncId) (first cap:Array ZX) (p:∀ (args:Array ZX) (w:ZY),(callFunc k args).run ZU w=.ok (.enter k args) w) (w:ZY) (R:ZY->ZX->ZY->Prop)
 (i:∀ w1,ZW w.heap.size w w1->w1.heap.size=w.heap.size+1->ZV ZU k (first++cap) w1 λe w2=>∃ v,e=Z4 v/\isErr v/\R w1 v w2/\w2.heap[w.heap.size]?=w1.heap[w.heap.size]?) :
 ZV ZU 71 #[.func (.func k) first cap] w λe w'=>∃ v w1 w2,e=Z4 v/\isErr v/\ZW w.heap.size w w1/\w1.heap.size=w.heap.size+1/\R w1 v w2/\w'=w2.setCell ⟨w.heap.size,0,Z1⟩ v:=by
 have q:∀ (d:Fn) (first cap:Array ZX) (w:ZY),(Instr.makeFunc d first cap).run ZU w=.ok (.func d first cap) w:=λ_ _ _ _=>rfl;have l:=i (w.alloc (Z5 #[.nilIface] 63)) (bA w _) (by simp);have g:(w.alloc (Z5 #[.nilIface] 63)).heap[w.heap.size]?=Z0 (Z5 #[.nilIface] 63 (0,0)):=blk_alloc_new _ _;go_enter_defers Tryz.func71,Tryz.ntmps71
 go_wp2_with fail;refine l.mono ?_;clear l;rintro e w2 ⟨v,rfl,m,j,h⟩;have a:w2.heap[w.heap.size]?=Z0 (Z5 #[.nilIface] 63 (0,0)):=h.trans g;have n:w2.cell? ⟨w.heap.size,0,Z1⟩=Z0 .nilIface:=by simp [World.cell?,a]
 have o:w2.frozen? ⟨w.heap.size,0,Z1⟩=ZZ:=by simp [World.frozen?,a]
 have c:(w2.setCell ⟨w.heap.size,0,Z1⟩ v).cell? ⟨w.heap.size,0,Z1⟩=Z0 v:=by simp [World.cell?,World.setCell,Array.getElem?_modify,a]
 have H:=hide2 j m;clear j h a g i;rcases m with rfl|⟨t,u,rfl⟩
 . go_wp2;refine leaves_cons (f:=106) (args:=#[Z7 (Z0 ⟨w.heap.size,0,Z1⟩)]) (by simp) (by simp [go_sem]) ?_;refine (jX ⟨w.heap.size,0,Z1⟩ _).mono ?_;rintro e u' b ⟨rfl,rfl,rfl⟩;refine ⟨.nilIface,by simp [results,Tryz.results71,go_sem,c],_,_,w2,rfl,.inl rfl,(Below.refl _ w).alloc lR (Z5 #[.nilIface] 63),by simp,H.out.1,rfl⟩
 . go_wp2;refine leaves_cons (f:=106) (args:=#[Z7 (Z0 ⟨w.heap.size,0,Z1⟩)]) (by simp) (by simp [go_sem]) ?_;refine (jX ⟨w.heap.size,0,Z1⟩ _).mono ?_;rintro e u' b ⟨rfl,rfl,rfl⟩;refine ⟨.iface t u,by simp [results,Tryz.results71,go_sem,c],_,_,w2,rfl,.inr ⟨t,u,rfl⟩,(Below.refl _ w).alloc lR (Z5 #[.nilIface] 63),by simp,H.out.1,rfl⟩
end
section
open Go.Deep
def pS (D L G:Int) (lost:Int) (reading:Bool) (regs:Int) (steps:ZX) (n o:ZX):Array ZX:=#[Z8 Z9 D,Z8 Z9 L,Z8 Z9 G,Z8 .u64 lost,.bool reading,Z8 Z9 regs,steps,n,o]
structure jF (w:ZY) (sb:Nat) (room:Int):Prop where
 ends:w.heap[sb]?=Z0 (Z5 (pS 0 0 0 0 ZZ 0 (Z6 Z1 0 0) (Z7 (Z0 ⟨sb,0,Z1⟩)) (Z7 (Z0 ⟨sb,0,Z1⟩))) 262 (0,0))
 map:∃ n,w.heap[sb+1]?=Z0 (.map #[] n)
 list:w.heap[sb+1+1]?=Z0 (Z5 #[Z8 Z9 room,.map (Z0 (sb+1)),Z7 (Z0 ⟨sb,0,Z1⟩)] 265 (0,0))
 shelf:w.heap[sb+1+1+1]?=Z0 (Z5 #[Z7 (Z0 ⟨sb+1+1,0,Z1⟩)] 230 (0,0))
theorem jF.lt (h:jF w sb room):sb+1+1+1<w.heap.size:=(Tm.1 h.shelf).1
theorem jF.keep (h:jF w sb room) (a:∀ k,sb<=k->k<=sb+1+1+1->w'.heap[k]?=w.heap[k]?):jF w' sb room:=
 ⟨(a _ (by omega) (by omega)).trans h.ends,h.map.imp λ_ q=>(a _ (by omega) (by omega)).trans q,(a _ (by omega) (by omega)).trans h.list,(a _ (by omega) (by omega)).trans h.shelf⟩
theorem jF.below (h:jF w sb room) (a:ZW w.heap.size w w'):jF w' sb room:=h.keep λk _ b=>a.block k (by have:=h.lt;omega)
theorem mF (w:ZY) (a b c:Obj):(((w.alloc a).alloc b).alloc c).heap[w.heap.size]?=Z0 a/\(((w.alloc a).alloc b).alloc c).heap[w.heap.size+1]?=Z0 b/\(((w.alloc a).alloc b).alloc c).heap[w.heap.size+1+1]?=Z0 c:=by
 refine ⟨(blk_alloc_lt _ _ _ (by simp;omega)).trans ((blk_alloc_lt _ _ _ (by simp)).trans (blk_alloc_new _ _)),(blk_alloc_lt _ _ _ (by simp)).trans ?_,?_⟩
 . have:=blk_alloc_new (w.alloc a) b;rwa [World.size_alloc] at this
 . have:=blk_alloc_new ((w.alloc a).alloc b) c;rwa [World.size_alloc,World.size_alloc] at this
structure Qk (w:ZY) (sb:Nat) (room:Int):Prop where
 ends:w.heap[sb]?=Z0 (Z5 (pS 0 0 0 0 ZZ 0 (Z6 Z1 0 0) (Z7 (Z0 ⟨sb,0,Z1⟩)) (Z7 (Z0 ⟨sb,0,Z1⟩))) 262 (0,0))
 map:∃ n,w.heap[sb+1]?=Z0 (.map #[] n)
 list:w.heap[sb+1+1]?=Z0 (Z5 #[Z8 Z9 room,.map (Z0 (sb+1)),Z7 (Z0 ⟨sb,0,Z1⟩)] 265 (0,0))
theorem ui (n:Int) (w:ZY):ZV ZU 136 #[Z8 Z9 n] w λe w'=>e=Z4 (Z7 (Z0 ⟨w.heap.size+1+1,0,Z1⟩))/\Qk w' w.heap.size n/\w'.heap.size=w.heap.size+1+1+1/\ZW w.heap.size w w':=by
 have i:∀ w,(Instr.makeMap 263 Z1).run ZU w=.ok (.map (Z0 w.heap.size)) (w.alloc (.map #[] 0)):=λ_=>rfl;have a:∀ b c d:Obj,ZW w.heap.size w (((w.alloc b).alloc c).alloc d):=λb c d=>((bA w _).alloc (by simp) _).alloc (by simp;omega) _;have H:=hide a;clear a;go_enter Tryz.func136,Tryz.ntmps136;go_wp2;go_ret;obtain ⟨f,g,h⟩:=mF w (Z5 (pS 0 0 0 0 ZZ 0 (Z6 Z1 0 0) (Z7 (Z0 ⟨w.heap.size,0,Z1⟩)) (Z7 (Z0 ⟨w.heap.size,0,Z1⟩))) 262) (.map #[] 0) (Z5 #[Z8 Z9 n,.map (Z0 (w.heap.size+1)),Z7 (Z0 ⟨w.heap.size,0,Z1⟩)] 265);exact ⟨rfl,⟨f,⟨0,g⟩,h⟩,by simp,H.out _ _ _⟩
theorem wW (n:Int) (w:ZY):ZV ZU 93 #[Z8 Z9 n] w λe w'=>∃ b,e=Z4 (Z7 (Z0 ⟨b+1+1+1,0,Z1⟩))/\w.heap.size<=b/\jF w' b n/\ZW w.heap.size w w':=by
 go_enter Tryz.func93,Tryz.ntmps93;go_wp2_with fail;refine (ui n w).mono ?_;rintro e w1 ⟨rfl,a,d,c⟩;have H:=hide3 c a d;have g:=c.size;clear c a d;go_wp2;go_ret;obtain ⟨c,a,d⟩:=H.out;have f:ZW w1.heap.size w1 (w1.alloc (Z5 #[Z7 (Z0 ⟨w.heap.size+1+1,0,Z1⟩)] 230)):=bA w1 _;refine ⟨w.heap.size,by rw [d];rfl,To _,⟨(f.block _ (by omega)).trans a.ends,a.map.imp λ_ q=>(f.block _ (by omega)).trans q,(f.block _ (by omega)).trans a.list,?_⟩,c.trans (f.mono g)⟩;have:=blk_alloc_new w1 (Z5 #[Z7 (Z0 ⟨w.heap.size+1+1,0,Z1⟩)] 230);rwa [d] at this
noncomputable def Q0:Array Oper:=((Tryz.f67.body.bind (mD · 1))).getD #[]
def Ql:List (Op×Option Nat×List Nat):=[(Op.move (Z3 0),Z0 7,[]),
 (Op.load 25 (Z3 4),Z0 8,[]),
 (Op.move (Z3 2),Z0 9,[]),
 (Op.call { callee:=Callee.value (Operand.func 93),args:=#[Z3 9],argTypes:=#[3] },Z0 10,[2]),
 (Op.build 130 #[(0,Z3 7),(1,Z3 8),(2,Z3 10)],Z0 11,[0,1,3]),
 (Op.box 130 (Z3 11),Z0 12,[4]),
 (Op.assign (Z3 12),Z0 6,[5,3,0,1,2,3,4,5])]
theorem Fe:aN Q0 6 13 Ql:=bt (by kernel_rfl) (by kernel_rfl)
def Ni (w0:ZY) (p D L G:Nat) (n:Int) (i:Nat) (u:ZX) (w:ZY):Prop:=match i with
 | 0=>u=Z7 (Z0 ⟨p,0,Z1⟩)
 | 1=>u=.agg #[Z8 Z9 D,Z8 Z9 L,Z8 Z9 G]
 | 2=>u=Z8 Z9 n
 | 3=>∃ b,u=Z7 (Z0 ⟨b+1+1+1,0,Z1⟩)/\w0.heap.size<=b/\jF w b n
 | 4=>∃ b,u=.agg #[Z7 (Z0 ⟨p,0,Z1⟩),Z8 Z9 D,Z8 Z9 L,Z8 Z9 G,Z7 (Z0 ⟨b+1+1+1,0,Z1⟩),Z8 .u64 0]/\w0.heap.size<=b/\jF w b n
 | 5|6=>∃ v b,u=Z7 (Z0 ⟨v,0,Z1⟩)/\b+1+1+1<v/\bq w v p D L G (b+1+1+1) 0/\w0.heap.size<=b/\jF w b n
 | _=>True
theorem uj {q:Nat} {n:Int} (U:Q0=ops) (N:w.heap[q]?=Z0 (Z5 #[Z8 Z9 (D:Int),Z8 Z9 (L:Int),Z8 Z9 (G:Int)] 25 (0,0))) (hs:a.tmps.size=13)
 (P:a.eval (Z3 0)=Z7 (Z0 ⟨p,0,Z1⟩)) (S:a.eval (Z3 4)=Z7 (Z0 ⟨q,0,Z1⟩)) (R:a.eval (Z3 2)=Z8 Z9 n)
 (T:∀ (w':ZY) (O:List ZX) (v b:Nat),O.length=6->b+1+1+1<v->bq w' v p D L G (b+1+1+1) 0->w.heap.size<=b->jF w' b n->ZW w.heap.size w w'->Q .normal (Act.putFrom a 6 (Z7 (Z0 ⟨v,0,Z1⟩)::O)) w'):(Code.region 1 ops true).wp ZU Q a w:=by
 subst U;have Y:q<w.heap.size:=(Tm.1 N).1;refine bZ (by kernel_rfl) Fe a w (by omega) (Ni w p D L G n) (λ_ w'=>ZW w.heap.size w w') ((Below.refl _ w).drew) ?_ ?_
 . intro i J;have M:∀ (w' t:ZY),ZW w'.heap.size w' t->∀ j u,Ni w p D L G n j u w'->Ni w p D L G n j u t:=λw' t y j u h=>by
    match j,h with
    | 0,h|1,h|2,h=>exact h
    | 3,⟨b,r,s,l⟩=>exact ⟨b,r,s,l.below y⟩
    | 4,⟨b,r,s,l⟩=>exact ⟨b,r,s,l.below y⟩
    | 5,⟨v,b,r,s,l,A,h5⟩=>exact ⟨v,b,r,s,l.keep (y.block _ l.lt),A,h5.below y⟩
    | 6,⟨v,b,r,s,l,A,h5⟩=>exact ⟨v,b,r,s,l.keep (y.block _ l.lt),A,h5.below y⟩
    | j+7,_=>trivial
   match i,J with
   | 0,_=>exact λo d w' z F ho k x B C m c g=>ab (ag ho ((x.slot 0 (by omega)).trans P) w') k ⟨c,rfl,kq⟩
   | 1,_=>
    intro o d w' z F ho k x B C m c g;have u0:d.eval (Z3 4)=Z7 (Z0 ⟨q,0,Z1⟩):=(x.slot 4 (by omega)).trans S;have X:w'.heap[q]?=_:=(c.block q Y).trans N;have W:(Instr.loadAt 25 (Z7 (Z0 ⟨q,0,Z1⟩))).run ZU w'=.ok (.agg #[Z8 Z9 (D:Int),Z8 Z9 (L:Int),Z8 Z9 (G:Int)]) w':=by
     simp only [Instr.loadAt,Instr.sureAddr,Sem.run_bind,Sem.run_pure,Result.andThen_ok,run_loadVar_row w' q 25 25 #[Z8 Z9 (D:Int),Z8 Z9 (L:Int),Z8 Z9 (G:Int)] (0,0) _ X Tryz.underlying25 rfl (by kernel_rfl)]
    exact ab (v:=.agg #[Z8 Z9 D,Z8 Z9 L,Z8 Z9 G]) (by simp [execOp,show o.op=Op.load 25 (Z3 4) from ho,u0,W]) k ⟨c,rfl,kq⟩
   | 2,_=>exact λo d w' z F ho k x B C m c g=>ab (ag ho ((x.slot 2 (by omega)).trans R) w') k ⟨c,rfl,kq⟩
   | 3,_=>
    intro o d w' z F ho k x B C m c g;have u0:d.eval (Z3 9)=Z8 Z9 n:=g 2 (m 2 (by decide));refine dz (f:=93) (args:=#[Z8 Z9 n]) (w1:=w') (by simp only [execOp,show o.op=Op.call { callee:=Callee.value (Operand.func 93),args:=#[Z3 9],argTypes:=#[3] } from ho];go_simp;simpa [Act.eval] using u0) k (wW n w') ?_;rintro e t ⟨b,rfl,y,E,K⟩;exact ⟨_,rfl,c.trans (K.mono c.size),⟨b,rfl,Nat.le_trans c.size y,E⟩,λj u _ h=>M w' t K j u h⟩
   | 4,_=>
    intro o d w' z F ho k x B C m c g;have u0:d.eval (Z3 7)=Z7 (Z0 ⟨p,0,Z1⟩):=g 0 (m 0 (by decide));have u1:d.eval (Z3 8)=.agg #[Z8 Z9 D,Z8 Z9 L,Z8 Z9 G]:=g 1 (m 1 (by decide));obtain ⟨b,u2,I,E⟩:Ni w p D L G n 3 (d.eval (Z3 10)) w':=g 3 (m 3 (by decide));exact ab (v:=.agg #[Z7 (Z0 ⟨p,0,Z1⟩),Z8 Z9 D,Z8 Z9 L,Z8 Z9 G,Z7 (Z0 ⟨b+1+1+1,0,Z1⟩),Z8 .u64 0]) (by simp only [execOp,show o.op=Op.build 130 #[(0,Z3 7),(1,Z3 8),(2,Z3 10)] from ho,List.map_toArray,List.map_cons,List.map_nil,u0,u1,u2];go_simp) k ⟨c,⟨b,rfl,I,E⟩,kq⟩
   | 5,_=>
    intro o d w' z F ho k x B C m c g;obtain ⟨b,u0,I,E⟩:Ni w p D L G n 4 (d.eval (Z3 11)) w':=g 4 (m 4 (by decide));have H:ZW w'.heap.size w' (w'.alloc (Z5 #[Z7 (Z0 ⟨p,0,Z1⟩),Z8 Z9 D,Z8 Z9 L,Z8 Z9 G,Z7 (Z0 ⟨b+1+1+1,0,Z1⟩),Z8 .u64 0] 130)):=bA w' _;exact ab (v:=Z7 (Z0 ⟨w'.heap.size,0,Z1⟩)) (w':=w'.alloc (Z5 #[Z7 (Z0 ⟨p,0,Z1⟩),Z8 Z9 D,Z8 Z9 L,Z8 Z9 G,Z7 (Z0 ⟨b+1+1+1,0,Z1⟩),Z8 .u64 0] 130)) (by simp only [execOp,show o.op=Op.box 130 (Z3 11) from ho,u0];go_simp) k ⟨c.trans (H.mono c.size),⟨_,b,rfl,E.lt,blk_alloc_new _ _,I,E.below H⟩,λj u _ h=>M w' _ H j u h⟩
   | 6,_=>
    intro o d w' z F ho k x B C m c g;obtain ⟨v,b,u0,r,s,l,A⟩:Ni w p D L G n 5 (d.eval (Z3 12)) w':=g 5 (m 5 (by decide));exact ab (v:=Z7 (Z0 ⟨v,0,Z1⟩)) (by simp [execOp,show o.op=Op.assign (Z3 12) from ho,u0]) k ⟨c,⟨v,b,rfl,r,s,l,A⟩,kq⟩
   | n+7,hn=>exact absurd hn (by show ¬ n+7<7;omega)
 . rintro d w' V ⟨z,Z,c⟩ g;obtain ⟨v,b,u0,r,s,l,A⟩:Ni w p D L G n 6 (d.eval (Z3 6)) w':=g 6 (by decide);have e:d=Act.putFrom a 6 (Z7 (Z0 ⟨v,0,Z1⟩)::(Tn 6).map λi=>d.eval (.tmp (7+i))):=V.out _ (by simp) (by omega) (λi J=>by
    simp at J;cases i with
    | zero=>exact u0
    | succ i=>
     rw [List.getD_cons_succ,List.getD_eq_getElem?_getD,List.getElem?_map,List.getElem?_range (by omega),show 6+(i+1)=7+i by omega];rfl)
   rw [e];exact T w' _ v b (by rw [List.length_map,List.length_range]) r s l A c
theorem Cf (p D L G:Nat) (n:Int) (w:ZY):ZV ZU 67 #[Z7 (Z0 ⟨p,0,Z1⟩),.agg #[Z8 Z9 D,Z8 Z9 L,Z8 Z9 G],Z8 Z9 n] w λe w'=>∃ v b,e=Z4 (Z7 (Z0 ⟨v,0,Z1⟩))/\w.heap.size<=v/\bq w' v p D L G (b+1+1+1) 0/\(w.heap.size<=b/\b+1+1+1<v/\jF w' b n)/\ZW w.heap.size w w':=by
 have h:=blk_alloc_new w (Z5 #[Z8 Z9 (D:Int),Z8 Z9 (L:Int),Z8 Z9 (G:Int)] 25);have c:ZW w.heap.size w (w.alloc (Z5 #[Z8 Z9 (D:Int),Z8 Z9 (L:Int),Z8 Z9 (G:Int)] 25)):=bA w _;have i:(w.alloc (Z5 #[Z8 Z9 (D:Int),Z8 Z9 (L:Int),Z8 Z9 (G:Int)] 25)).heap.size=w.heap.size+1:=by simp
 go_enter Tryz.func67,Tryz.ntmps67;go_wp2_with fail;refine uj (by kernel_rfl) h rfl rfl rfl rfl ?_;intro w' l v b f k g j d a;obtain ⟨m,o,q,r,s,t,rfl⟩:=D6 f;rw [i] at j a;have H:=hide3 g d (c.trans (a.mono (by omega)));clear g d a c h i f;rename_i hK
 refine hK _ _ ?_;clear hK;simp only [Act.putFrom,Act.put,Tv,Tw,Tx];go_wp2;go_ret;exact ⟨v,b,rfl,by omega,H.out.1,⟨by omega,k,H.out.2.1⟩,H.out.2.2⟩
end
section
open Go.Deep
def mz (v D L G t f n:Nat) (pg ob:ZX) (off:Bool):Array ZX:=#[Z7 (Z0 ⟨v,0,Z1⟩),Z8 Z9 D,Z8 Z9 L,Z8 Z9 G,Z8 .u64 t,Z8 Z9 f,Z8 Z9 n,pg,ob,.bool off]
def bJ (w:ZY) (a v D L G t f n:Nat) (pg ob:ZX) (off:Bool):Prop:=w.heap[a]?=Z0 (Z5 (mz v D L G t f n pg ob off) 121 (0,0))
def noCut (v:ZX):Prop:=v=.nilIface\/∃ n:Int,n≠13/\v=.iface 66 (Z8 Z9 n)
theorem noCut.isErr {v:ZX} (h:noCut v):isErr v:=by
 rcases h with h|⟨n,_,h⟩
 . exact .inl h
 . exact .inr ⟨_,_,h⟩
theorem uB (k:FuncId) (first cap:Array ZX) (F:∀ (args:Array ZX) (w:ZY),(callFunc k args).run ZU w=.ok (.enter k args) w) (w:ZY) (a:Nat) (cs:Array ZX) (r:w.heap[a]?=Z0 (Z5 cs 121 (0,0))) (E:cs[9]?=Z0 (.bool ZZ)) (R:ZY->ZX->ZY->Prop)
 (u:∀ w1,ZW w.heap.size w w1->w1.heap.size=w.heap.size+1->ZV ZU k (first++cap) w1 λe w2=>∃ v,e=Z4 v/\noCut v/\R w1 v w2/\w2.heap[w.heap.size]?=w1.heap[w.heap.size]?/\∃ b,w2.heap[a]?=Z0 (Z5 b 121 (0,0))/\b[9]?=Z0 (.bool ZZ)) :
 ZV ZU 46 #[Z7 (Z0 ⟨a,0,Z1⟩),.func (.func k) first cap] w λe w'=>∃ v w1 w2,e=Z4 v/\noCut v/\ZW w.heap.size w w1/\w1.heap.size=w.heap.size+1/\R w1 v w2/\w'=(w2.setCell ⟨w.heap.size,0,Z1⟩ v).setCell ⟨a,9,Z1⟩ (.bool ZZ):=by
 have L:a<w.heap.size:=(Tm.1 r).1;have I:w.cell? ⟨a,9,Z1⟩=Z0 (.bool ZZ):=by simp [World.cell?,r,E]
 have p:=Ce k first cap F w (λw1 v w2=>noCut v/\R w1 v w2/\∃ b,w2.heap[a]?=Z0 (Z5 b 121 (0,0))/\b[9]?=Z0 (.bool ZZ)) (λw1 z A=>(u w1 z A).mono (by
  rintro e w2 ⟨v,rfl,m,B,C,D⟩;exact ⟨v,rfl,m.isErr,⟨m,B,D⟩,C⟩))
 go_enter Tryz.func46,Tryz.ntmps46;go_wp2_with fail;refine p.mono ?_;rintro e c ⟨v,w1,w2,rfl,_,t,y,⟨x,q,b,s,o⟩,rfl⟩;have d:(w2.setCell ⟨w.heap.size,0,Z1⟩ v).heap[a]?=Z0 (Z5 b 121 (0,0)):=(blk_setCell_other _ _ _ _ (by show a≠w.heap.size;omega)).trans s;obtain ⟨c,f⟩:=nM (w2.setCell ⟨w.heap.size,0,Z1⟩ v);rw [f] at d ⊢;have J:c.cell? ⟨a,9,Z1⟩=Z0 (.bool ZZ):=by simp [World.cell?,d,o]
 have K:c.frozen? ⟨a,9,Z1⟩=ZZ:=by simp [World.frozen?,d]
 have H:=hide5 t y q x f;clear t y q p u d o s f;rcases x with rfl|⟨n,G,rfl⟩
 . go_wp2_with fail;refine (Cd 13 c).mono ?_;rintro e w' ⟨rfl,rfl⟩;go_wp2;go_ret;obtain ⟨g,h,i,j,l⟩:=H.out;exact ⟨.nilIface,w1,w2,rfl,j,g,h,i,by rw [l]⟩
 . go_wp2_with fail;refine (Ac n G c).mono ?_;rintro e w' ⟨rfl,rfl⟩;go_wp2;go_ret;obtain ⟨g,h,i,j,l⟩:=H.out;exact ⟨.iface 66 (Z8 Z9 n),w1,w2,rfl,j,g,h,i,by rw [l]⟩
end
section
open Go.Deep
theorem bJ.cells {a:Nat} (h:bJ w a v D L G t f n pg ob off):w.cell? ⟨a,0,Z1⟩=Z0 (Z7 (Z0 ⟨v,0,Z1⟩))/\w.cell? ⟨a,4,Z1⟩=Z0 (Z8 .u64 t)/\w.cell? ⟨a,6,Z1⟩=Z0 (Z8 Z9 n)/\w.cell? ⟨a,7,Z1⟩=Z0 pg/\w.cell? ⟨a,8,Z1⟩=Z0 ob:=by
 have b:w.heap[a]?=Z0 (Z5 (mz v D L G t f n pg ob off) 121 (0,0)):=h;simp [World.cell?,b,mz]
theorem bJ.keep (h:bJ w ar v D' L' G' t' f' n' pg ob off) (e:w'.heap[ar]?=w.heap[ar]?):bJ w' ar v D' L' G' t' f' n' pg ob off:=Eq.trans e h
theorem bJ.lt (h:bJ w ar v D' L' G' t' f' n' pg ob off):ar<w.heap.size:=(Tm.1 h).1
theorem oe (h:bq w v p D L G ps ho):ZV ZU 96 #[Z7 (Z0 ⟨v,0,Z1⟩)] w λe w'=>e=Z4 (.agg #[Z8 Z9 D,Z8 Z9 L,Z8 Z9 G])/\ZW w.heap.size w w'/\w'.heap.size=w.heap.size+1/\w'.heap[w.heap.size]?=Z0 (Z5 #[Z8 Z9 D,Z8 Z9 L,Z8 Z9 G] 25 (0,0)):=by
 have q:=h.lt;have f:bq (w.alloc (Z5 #[Z8 Z9 0,Z8 Z9 0,Z8 Z9 0] 25)) v p D L G ps ho:=h.keep (blk_alloc_lt _ _ _ q);obtain ⟨l,c1,m,n,o⟩:=f.cells;have c:ZW w.heap.size w (w.alloc (Z5 #[Z8 Z9 0,Z8 Z9 0,Z8 Z9 0] 25)):=bA w _;have a:=blk_alloc_new w (Z5 #[Z8 Z9 0,Z8 Z9 0,Z8 Z9 0] 25);obtain ⟨w1,d⟩:=nM (w.alloc (Z5 #[Z8 Z9 0,Z8 Z9 0,Z8 Z9 0] 25));rw [d] at l c1 m n o c a;have u:w1.cell? ⟨w.heap.size,0,Z1⟩=Z0 (Z8 Z9 0):=by simp [World.cell?,a]
 have x:w1.cell? ⟨w.heap.size,1,Z1⟩=Z0 (Z8 Z9 0):=by simp [World.cell?,a]
 have y:w1.cell? ⟨w.heap.size,2,Z1⟩=Z0 (Z8 Z9 0):=by simp [World.cell?,a]
 have b:∀ k,w1.frozen? ⟨w.heap.size,k,Z1⟩=ZZ:=λk=>by simp [World.frozen?,a]
 have r:=b 0;have s:=b 1;have t:=b 2;have g:w1.heap.size=w.heap.size+1:=by rw [<- d];simp
 have H:=hide3 c a g;clear f c a b h g;go_enter Tryz.func96,Tryz.ntmps96;go_wp2;have i:=aj (j:=2) (aj (j:=1) (aj (j:=0) H.out.2.1 (Z8 Z9 (D:Int))) (Z8 Z9 (L:Int))) (Z8 Z9 (G:Int));refine bodyPost_ret (v:=.agg #[Z8 Z9 D,Z8 Z9 L,Z8 Z9 G]) (results_cell_row Tryz.results96 _ _ w.heap.size 25 #[Z8 Z9 (D:Int),Z8 Z9 (L:Int),Z8 Z9 (G:Int)] (0,0) _ rfl i Tryz.underlying25 rfl (by kernel_rfl)) rfl ?_;exact ⟨rfl,((H.out.1.setCell (p:=⟨w.heap.size,0,Z1⟩) lR _).setCell (p:=⟨w.heap.size,1,Z1⟩) lR _).setCell (p:=⟨w.heap.size,2,Z1⟩) lR _,by simp [World.setCell,H.out.2.2],i⟩
theorem uC (h:bq w v p D L G ps ho):ZV ZU 96 #[Z7 (Z0 ⟨v,0,Z1⟩)] w λe w'=>e=Z4 (.agg #[Z8 Z9 D,Z8 Z9 L,Z8 Z9 G])/\ZW w.heap.size w w':=(oe h).mono λ_ _ q=>⟨q.1,q.2.1⟩
theorem dr (h:bq w v p D L G ps ho) (g:D<=1000):ZV ZU 77 #[Z7 (Z0 ⟨v,0,Z1⟩)] w λe w'=>e=Z4 (Z8 Z9 ((D*44:Nat):Int))/\w'=w:=by
 obtain ⟨b,c1,c,d,f⟩:=h.cells;have a:((D*44:Nat):Int)=(D:Int)*44:=by omega
 rw [a];go_enter Tryz.func77,Tryz.ntmps77;go_wp2;go_ret;exact ⟨rfl,rfl⟩
theorem og {a:Nat} (d:bJ w a v D' L' G' t f n pg ob off) (h:bq w v p D L G ps ho) (j:1<=D) (c:D<=1000):ZV ZU 119 #[Z7 (Z0 ⟨a,0,Z1⟩)] w λe w'=>e=Z4 (Z8 Z9 ((D*44-4:Nat):Int))/\w'=w:=by
 obtain ⟨i,_⟩:=d.cells;have b:((D*44-4:Nat):Int)=((D*44:Nat):Int)-4:=by omega
 rw [b];have g:=dr h c;have b1:D*44<=44000:=by omega
 generalize D*44=q at *;go_enter Tryz.func119,Tryz.ntmps119;go_wp2_with fail;refine g.mono ?_;rintro e w' ⟨rfl,rfl⟩;go_wp2;go_ret;exact ⟨rfl,rfl⟩
theorem length_nil (w:ZY):ZV ZU 84 #[Z6 Z1 0 0] w λe w'=>e=Z4 (Z8 Z9 0)/\w'=w:=by
 go_enter Tryz.func84,Tryz.ntmps84;go_wp2;refine wp_loop_rounds 1 ?_;rw [rounds_succ];go_wp2;go_ret;exact ⟨rfl,rfl⟩
end
section
open Go.Shelf Go.Deep Gf
attribute [local go_sem] Oper.semAt_some
theorem vG {v:ZX} (h:w.ownsRow base e size v n xs) {j:Nat} {o:Obj} (a:v.ownBlock=Z0 j) (ho:w.heap[j]?=Z0 o):o.isCells=true:=by
 rcases h.2 with ⟨d,_⟩|⟨g,cap,cur,b,f,c,_⟩
 . rw [d] at a;simp [Value.ownBlock] at a
 . rw [b] at a;simp [Value.ownBlock] at a;subst a;rw [c] at ho;cases ho;rfl
theorem lz {v:ZX} {row:Option Nat} (h:w.ownsRow base e size v n xs) (a:w.grownBy w' row) (c:∀ r,row=Z0 r->∃ o:Obj,w.heap[r]?=Z0 o/\o.isCells=ZZ):w'.ownsRow base e size v n xs:=by
 cases row with
 | none=>
  cases hv:v.ownBlock with
  | none=>exact h.kept a (.inl hv)
  | some q=>exact h.kept a (.inr (by rw [hv];intro e;cases e))
 | some r=>
  obtain ⟨o,ho,b⟩:=c r rfl;exact h.kept a (.inr λe=>by have:=vG h e ho;rw [b] at this;cases this)
theorem sg (w:ZY) (b i:Nat) (v:ZX):w.grownBy (w.setCell ⟨b,i,Z1⟩ v) (Z0 b):=
 ⟨rfl,rfl,rfl,by simp [World.setCell],λk _ a=>blk_setCell_other _ _ _ _ (λe=>a (by rw [e]))⟩
theorem Ei {fn:Func} {Z:ZY} {x:ZX} {R:Ending->ZY->Prop} (d:fn.results=#[.tmp t]) (b:a.defers=[{ target:=.collected D',args:=#[] }]) (hx:a.tmps.getD t Z2=x)
 (hK:Z.heap[D']?=Z0 (.deferred (Z0 []))) (hR:R (Z4 x) (Z.putObj D' (.deferred Z1))):bodyPostM Fence.wide n ZU fn R .ret a Z:=by
 obtain ⟨e,f⟩:=a;simp only at b hx;subst b;refine ⟨by simp,.inl ⟨_,_,rfl,run_takeDeferred hK,?_⟩⟩;refine ⟨x,?_,hR⟩;have c:e[t]?.getD Z2=x:=by simpa using hx
 simp [results,d,c]
def Pn (w:ZY) (g:Nat) (B D:Nat) (pre:List (Ch D)) (X:ZY):Prop:=
 (∃ v,Boxed X w.heap.size 95 v/\X.ownsRow (w.heap.size+1) 34 1 v pre.length (pre.map λx=>BL g x.1))/\ZW w.heap.size w X/\B<=X.heap.size
theorem Pn.own {g B:Nat} (i:w.heap.size+1<=B):OwnFrom B (Pn w g B D):=by
 rintro pre X Y row ⟨⟨v,c,f⟩,d,h⟩ a b;exact ⟨⟨v,(a.block _ c.lt (λe=>by have:=(b _ e.symm).1;omega)).trans c,lz f a λr e=>(b r e).2⟩,d.grown a d.size (λk e=>by have:=(b k e).1;omega),Nat.le_trans h a.size⟩
theorem Tryz.infoBytes2:(ZU.info? 34).map (λi=>(i.zero,i.size,i.bytes))=Z0 (Z0 (Z6 Z1 0 0),1,24):=by kernel_rfl
theorem I8 {F:Fence} {rest:List Oper} (t:o.guard=Z1) (x y:Operand) (ho:o.op=.call { callee:=.builtin .append,args:=#[x,y],argTypes:=#[95,95] })
 (n0 q:Nat) (k:Nat) (xs:List ZX) (u v:ZX) (hx:a.eval x=v) (hy:a.eval y=Z6 (Z0 ⟨q,0,Z1⟩) 1 1) (h3:w.ownsRow n0 34 1 v k xs) (hc:w.cell? ⟨q,0,Z1⟩=Z0 u) (hu:u.oneCell'=true) (h7:n0<=w.heap.size) (hk:k<=1000000)
 (hK:∀ c b w2,n0<=c->w2.ownsRow n0 34 1 (Z6 (Z0 ⟨c,0,Z1⟩) (k+1) b) (k+1) (xs++[u])->w.grownBy w2 v.ownBlock->wpListIn F n ZU ops Q rest (a.put o.dst (Z6 (Z0 ⟨c,0,Z1⟩) (k+1) b)) w2):wpListIn F n ZU ops Q (o::rest) a w:=by
 obtain ⟨A,l,m,p,r⟩:=info_parts Tryz.infoBytes2;refine wpListIn_append_own w t x y 95 ho n0 34 A (Z6 Z1 0 0) 1 24 Tryz.underlying95 l m p r rfl (by decide) v k xs hx h3 ⟨q,0,Z1⟩ 1 1 [u] hy rfl (λj u' d=>?_) (λu' f=>by simp at f;subst f;exact hu) (by unfold maxLen;omega) (by omega) h7 ?_
 . cases j with
   | zero=>simp at d;subst d;exact hc
   | succ j=>simp at d
 . intro B w2 e h _;obtain ⟨c,b,rfl,i⟩:∃ c b,B=Z6 (Z0 ⟨c,0,Z1⟩) (k+1) b/\n0<=c:=by
    rcases e.2 with ⟨_,C⟩|⟨g,cap,cur,z,s,_⟩
    . omega
    . exact ⟨g,cap,z,s⟩
   exact hK c b w2 i e h
theorem pf (g D b1 b2:Nat) (R:D<=1000) (w:ZY) (G:b1<w.heap.size) (I:b2<w.heap.size) (P:w.cell? ⟨b1,0,Z1⟩=Z0 (Z6 (Z0 ⟨g,0,Z1⟩) (D*44) (D*44))) (Q:w.cell? ⟨b2,0,Z1⟩=Z0 (Z8 Z9 44)) :
 ZV ZU 192 #[Z6 Z1 0 0,.func (.func 193) #[] #[Z7 (Z0 ⟨b1,0,Z1⟩),Z7 (Z0 ⟨b2,0,Z1⟩)]] w λe w'=>∃ v,e=Z4 v/\w'.ownsRow w.heap.size 34 1 v D ((Tn D).map (BL g))/\ZW w.heap.size w w':=by
 obtain ⟨n,M⟩:∃ n:Nat,Hid (9<=n):=⟨9,To _⟩;refine (callsIn_wide (n:=n)).1 ?_;refine callsIn_of_wp_marks Tryz.func192 rfl trivial ?_ rfl;simp only [Tryz.ntmps192,List.size_toArray,List.length_cons,List.length_nil,Nat.reduceAdd,Nat.reduceSub,Tr,Ts,Tt,Ty,Tp,Tu];gi_wp2;obtain ⟨w1,s⟩:=nM (w.alloc (Z5 #[Z6 Z1 0 0] 95));have O:Boxed w1 w.heap.size 95 (Z6 Z1 0 0):=by rw [<- s];exact Boxed.new w _ _
 have k9:w1.heap.size=w.heap.size+1:=by rw [<- s];simp
 have B:ZW w.heap.size w w1:=by rw [<- s];exact bA w _
 rw [s];clear s;have V:Pn w g w1.heap.size D [] w1:=⟨⟨_,O,World.ownsRow_nil _ _ _ _⟩,B,To _⟩;refine wpIn_rangeFunc_ownG rfl (by have:=M.out;omega) (gf:=193) (lb:=#[Z7 (Z0 ⟨b1,0,Z1⟩),Z7 (Z0 ⟨b2,0,Z1⟩)]) rfl trivial (enters_of Tryz.func193 (by kernel_rfl) rfl)
  (xH (n-1) b1 b2 g D R w1 (by omega) (by omega) ((B.cell (p:=⟨b1,0,Z1⟩) G).trans P) ((B.cell (p:=⟨b2,0,Z1⟩) I).trans Q)) (λh k=>⟨k.1.trans h.1,k.2.trans h.2⟩) (λW l o o' hl _ _ _=>⟨World.putObj_heap_other (by omega),World.putObj_heap_other (by omega)⟩) (Below.refl _ _) (λ_=>rfl)
  (Pn w g w1.heap.size D) (λ_ _ _=>False) (Pn.own (by omega)) (λ_ _ _ _ _ h _ _=>h.elim) V
  (λx=>{ tmps:=#[Z6 Z1 0 0,.func (.func 193) #[] #[Z7 (Z0 ⟨b1,0,Z1⟩),Z7 (Z0 ⟨b2,0,Z1⟩)],Z7 (Z0 ⟨w.heap.size,0,Z1⟩),Z2,Z6 Z1 0 0,BL g x.1,.func (.func 193) #[] #[Z7 (Z0 ⟨b1,0,Z1⟩),Z7 (Z0 ⟨b2,0,Z1⟩)],BL g x.1,Z2,Z2,Z2,Z2,Z2],defers:=[] }) ?assign ?body ?done ?stop
 case assign=>
  intro l2 x X Kk hK;unfold Eh;gi_wp2;exact hK
 case body=>
  rintro l2 pre x X ⟨⟨v,d,b⟩,a,y⟩ hq;have N:=d.cell;have hz:=d.lt;have k8:pre.length<=1000:=by omega
  obtain ⟨c,Z⟩:=nM (x.1*44);have m:BL g x.1=Z6 (Z0 ⟨g,c,Z1⟩) 44 44:=by rw [<- Z];rfl
  have S:(Value.slice (Z0 ⟨g,c,Z1⟩) 44 44).oneCell'=true:=rfl;have U:(X.alloc (Z5 #[Z6 (Z0 ⟨g,c,Z1⟩) 44 44] 34)).cell? ⟨X.heap.size,0,Z1⟩=Z0 (Z6 (Z0 ⟨g,c,Z1⟩) 44 44):=(Boxed.new X 34 (Z6 (Z0 ⟨g,c,Z1⟩) 44 44)).cell;have H:=hide5 d b a y m;rw [m];clear d b a y m;have C:Hid ((X.alloc (Z5 #[Z6 (Z0 ⟨g,c,Z1⟩) 44 44] 34)).ownsRow (w.heap.size+1) 34 1 v pre.length (pre.map λx=>BL g x.1)):=hide (aA H.out.2.1 (bA X _));have L:Hid (w.heap.size+1<=(X.alloc (Z5 #[Z6 (Z0 ⟨g,c,Z1⟩) 44 44] 34)).heap.size):=hide (by simp;omega);gi_wp2_with (
   gi_at_builtin;
   refine I8 rfl (Z3 8) (Z3 10) rfl (w.heap.size+1) X.heap.size pre.length (pre.map λx=>BL g x.1) (Z6 (Z0 ⟨g,c,Z1⟩) 44 44) v (by rfl) (by rfl) (by exact C.out) (by exact U) S L.out (by omega) ?_;
   intro E f w2 k6 F i;
   have A:Boxed w2 w.heap.size 95 v:=(i.block w.heap.size (by simp;omega) (λe=>by have:=(H.out.2.1.lt _ e.symm).1;omega)).trans (H.out.1.alloc _);
   have d0:=A.cell;
   have f0:=A.frozen)
  obtain ⟨d,b,a,y,m⟩:=H.out;have hr:∀ q,v.ownBlock=Z0 q->w.heap.size+1<=q:=λq e=>(b.lt q e).1;have hy:=i.size;simp only [World.size_alloc] at hy;have Y:KeepsOthers X w2:=(KeepsOthers.alloc X (Z5 #[Z6 (Z0 ⟨g,c,Z1⟩) 44 44] 34)).trans (KeepsOthers.of_grownBy i λj o e ho=>vG C.out e ho);have z:∀ k,k<w.heap.size->w2.heap[k]?=X.heap[k]?:=λk u=>(i.block k (by simp;omega) (λe=>by have:=hr k e.symm;omega)).trans (blk_alloc_lt _ _ _ (by omega));have J:∀ k,k≠w.heap.size->(w2.setCell ⟨w.heap.size,0,Z1⟩ (Z6 (Z0 ⟨E,0,Z1⟩) (pre.length+1) f)).heap[k]?=w2.heap[k]?:=λk u=>blk_setCell_other _ _ _ _ u;refine ⟨(Y.trans (KeepsOthers.setCell _ _ _)).from _,⟨(J _ (by omega)).trans (z _ G),(J _ (by omega)).trans (z _ I)⟩,⟨_,A.set _,?_⟩,?_,by simp [World.setCell];omega⟩
  . have q:=F.kept (sg w2 w.heap.size 0 (Z6 (Z0 ⟨E,0,Z1⟩) (pre.length+1) f)) (.inr λe=>by have:=(F.lt _ e).1;omega);have e:(pre++[x]).map (λx=>BL g x.1)=pre.map (λx=>BL g x.1)++[Z6 (Z0 ⟨g,c,Z1⟩) 44 44]:=(by rw [List.map_append,<- m];rfl);rw [e,List.length_append];exact q
  . refine (Below.setCell (p:=⟨w.heap.size,0,Z1⟩) ?_ lR _);exact ⟨i.os.trans a.os,i.tape.trans a.tape,i.output.trans a.output,by have:=a.size;omega,λk u=>(z k u).trans (a.block k u)⟩
 case done=>
  rintro D' xs X T K ⟨⟨v,d,b⟩,a,y⟩ hK;have N:=d.cell;have H:=hide3 b a hK;have k7:=d.lt;clear d b a hK;gi_wp2;obtain ⟨b,a,hK⟩:=H.out;have k0:xs.length=D:=by have:=congrArg List.length K;simpa using this
  have k5:xs.map (λx=>BL g x.1)=(Tn D).map (BL g):=by rw [<- K,List.map_map];rfl
  rw [k0,k5] at b;refine Ei (t:=4) Tryz.results192 rfl rfl hK ⟨_,rfl,?_,?_⟩
  . exact cT (lz b (grownBy_putObj' X D' (.deferred Z1)) λr e=>by cases e;exact ⟨_,hK,rfl⟩) (by omega)
  . exact Below.putObj' a (by omega) (Tm.1 hK).1 _
 case stop=>
  rintro D' cc pre X T hs hx hK;exact hx.elim
theorem si (g D b1 b2:Nat) (j:D<=1000) (w:ZY) (h:b1<w.heap.size) (i:b2<w.heap.size) (b:w.cell? ⟨b1,0,Z1⟩=Z0 (Z6 (Z0 ⟨g,0,Z1⟩) (D*44) (D*44))) (c:w.cell? ⟨b2,0,Z1⟩=Z0 (Z8 Z9 44)) :
 ZV ZU 182 #[.func (.func 193) #[] #[Z7 (Z0 ⟨b1,0,Z1⟩),Z7 (Z0 ⟨b2,0,Z1⟩)]] w λe w'=>∃ v,e=Z4 v/\w'.ownsRow w.heap.size 34 1 v D ((Tn D).map (BL g))/\ZW w.heap.size w w':=by
 have f:=pf g D b1 b2 j w h i b c;clear b c;go_enter Tryz.func182,Tryz.ntmps182;go_wp2_with fail;refine f.mono ?_;rintro e w' ⟨v,rfl,a,d⟩;have H:=hide2 a d;clear f a d;go_wp2;go_ret;exact ⟨_,rfl,H.out.1,H.out.2⟩
def ix (D:Nat) (dl:List Nat):List Nat:=dl++Tz (D*44-dl.length) 0
def di (D:Nat) (dl:List Nat):List (List Nat):=(Tn D).map λi=>((ix D dl).drop (i*44)).take 44
theorem I9 (h:dl.length<=D*44):(ix D dl).length=D*44:=by unfold ix;simp;omega
theorem dL (D:Nat) (dl:List Nat):(di D dl).length=D:=by simp [di]
theorem oh (a:i<(di D dl).length):(di D dl)[i]=((ix D dl).drop (i*44)).take 44:=by simp [di]
theorem mb (h:dl.length<=D*44) (a:i<D):(((ix D dl).drop (i*44)).take 44).length=44:=by
 rw [List.length_take,List.length_drop,I9 h];omega
theorem Lz (h:∀ x∈dl,x<256):∀ x∈ix D dl,x<256:=by
 intro x a;unfold ix at a;rw [List.mem_append] at a;rcases a with a|a
 . exact h x a
 . have:=List.eq_of_mem_replicate a;omega
theorem NI (h:bq w v p D L G ps ho) (hD:D<=12) (X:ZX) (dl:List Nat) (R:Bs w X dl) (hl:dl.length<=D*44) :
 ZV ZU 164 #[Z7 (Z0 ⟨v,0,Z1⟩),X] w λe w'=>∃ u,e=Z4 u/\Rd w' u (di D dl)/\ZW w.heap.size w w':=by
 have W:=dr h (by omega);obtain ⟨b,y⟩:=nM (D*44);have hv:b<=528:=by omega
 rw [y] at W hl;have J:=hide R;clear R;go_enter Tryz.func164,Tryz.ntmps164;go_wp2_with fail;refine W.mono ?_;rintro e w1 ⟨rfl,rfl⟩;go_wp2_with (at_make;refine eB _ rfl (Z3 7) (Z3 7) rfl _ b (by rfl) (by rfl) rfl (by omega) ?_;intro w2 Q z k0;obtain ⟨a,hq,o,B⟩:=zB (n:=b) (cap:=b) (off:=0) 3 Q (J.out.mono z) (by omega) (by simp;omega));have r:ZW w1.heap.size w1 a:=z.grown B (by omega) (λk e=>by cases e;exact To _);have k5:=B.size;have P:jA (Tz b 0) 0 dl=ix D dl:=by
  unfold jA ix;rw [List.take_zero,Tp,Tq,List.drop_replicate,y]
 rw [P] at o;have A:=FB w1.heap.size D a;rw [y] at A;have H:=hide3 o r A;clear hq Q z B o r A P;refine H.out.2.2.mono ?_;rintro e f ⟨rfl,rfl⟩;obtain ⟨f,d⟩:=nM ((a.alloc (Z5 #[Z6 (Z0 ⟨w1.heap.size,0,Z1⟩) b b] 34)).alloc (Z5 #[Z8 Z9 44] 3));have s:ZW a.heap.size a f:=by rw [<- d];exact (bA a _).alloc (by simp) _
 have hz:f.heap.size=a.heap.size+2:=by rw [<- d];simp
 have M:f.cell? ⟨a.heap.size,0,Z1⟩=Z0 (Z6 (Z0 ⟨w1.heap.size,0,Z1⟩) (D*44) (D*44)):=by rw [<- d,y];exact ((Boxed.new a _ _).alloc _).cell
 have N:f.cell? ⟨a.heap.size+1,0,Z1⟩=Z0 (Z8 Z9 44):=by
  have:=(Boxed.new (a.alloc (Z5 #[Z6 (Z0 ⟨w1.heap.size,0,Z1⟩) b b] 34)) 3 (Z8 Z9 44)).cell;rw [World.size_alloc] at this;rw [<- d];exact this
 have T:=si w1.heap.size D a.heap.size (a.heap.size+1) (by omega) f (by omega) (by omega) M N;rw [d];have I:=hide2 s T;clear d s T M N hz;go_wp2_with fail;refine I.out.2.mono ?_;rintro e F ⟨u,rfl,m,t⟩;have Y:=hide2 m t;clear m t;go_wp2;go_ret;obtain ⟨o,r,_⟩:=H.out;obtain ⟨s,_⟩:=I.out;obtain ⟨m,t⟩:=Y.out;have O:ZW a.heap.size a F:=s.trans (t.mono s.size);have hp:aM F w1.heap.size (ix D dl):=o.below O;refine ⟨u,rfl,?_,r.trans (O.mono r.size)⟩;rcases m.2 with ⟨Z,h1⟩|⟨q,cap,cur,K,e2,e3,e4,e5,e6,e7⟩
 . subst Z;have:di D dl=[]:=by rw [<- List.length_eq_zero_iff,dL];exact h1
   exact ⟨Z1,0,by rw [this];rfl,by rw [this];decide,λE=>absurd this E⟩
 . refine ⟨Z0 ⟨q,0,Z1⟩,cap,by rw [K,dL],by rw [dL];omega,λ_=>⟨q,0,rfl,λi S=>?_⟩⟩;have C:=S;rw [dL] at C;refine ⟨BL w1.heap.size i,?_,?_⟩
   . have:=m.cells (g:=q) (by rw [K];rfl) i (BL w1.heap.size i) (by simp [C]);rw [mw] at this;rw [Tq];exact this
   . rw [oh S];have hj:=mb (D:=D) (dl:=dl) (by omega) C;have hr:F.rangeAt w1.heap.size 0 (aH (ix D dl)):=λj u hu=>by
      have E:=hp.heapB;have hy:(aH (ix D dl)).toArray[j]?=Z0 u:=(by simpa using hu);simp [World.cell?,E,hy]
     have V:=mW 44 (fI (i*44) hr);rw [Tq] at V;have U:=Bs.mid (c:=44) (l:=((ix D dl).drop (i*44)).take 44) (by omega) (by omega) (λx hx=>Lz J.out.lt x (List.mem_of_mem_drop (List.mem_of_mem_take hx))) V;rw [hj] at U;exact U
end
section
open Go.Shelf
theorem j5 {v:ZX} (i:(execOp a.eval o).run P w=.ok (.value v) w') (f:∀ c,o.op≠.defer c) {d:Nat} (g:o.dst=Z0 d) (h:B w'/\Vi v w'/\S w') :
 o.wpIn Fence.wide n P a w (λb w'=>∃ v,b=a.put o.dst v/\(o.dst=Z1->v=Z2)/\B w'/\Vi v w'/\S w') Q:=by
 refine ⟨λ_ _=>trivial,?_⟩;rw [Oper.semAt_plain _ _ _ f,i];exact ⟨v,rfl,λe=>(by rw [g] at e;cases e),h.1,h.2.1,h.2.2⟩
theorem Jb {w1:ZY} {f:FuncId} {args:Array ZX} {Rr:Ending->ZY->Prop} (l:(execOp a.eval o).run P w=.ok (.enter f args) w1) (g:∀ c,o.op≠.defer c) {d:Nat} (k:o.dst=Z0 d) (j:ZV P f args w1 Rr)
 (h:∀ e w',Rr e w'->∃ v,e=Z4 v/\B w'/\Vi v w'/\S w'):o.wpIn Fence.wide n P a w (λb w'=>∃ v,b=a.put o.dst v/\(o.dst=Z1->v=Z2)/\B w'/\Vi v w'/\S w') Q:=by
 refine ⟨λ_ _=>trivial,?_⟩;rw [Oper.semAt_plain _ _ _ g,l];refine ⟨λh=>(by cases h),(callsIn_wide.2 (j.mono λe w' i=>?_))⟩;obtain ⟨v,rfl,m,p,q⟩:=h e w' i;exact ⟨v,rfl,λe=>(by rw [k] at e;cases e),m,p,q⟩
end
end Go.Proofs.YtfbmmcnpjhmjaaaGreatDoor
