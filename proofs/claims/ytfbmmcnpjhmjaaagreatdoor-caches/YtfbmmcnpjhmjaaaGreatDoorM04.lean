import Derived.Test.YtfbmmcnpjhmjaaaGreatDoorM03
import Derived.Defers
import Derived.Recover
import Derived.WalkMore
import Derived.BigRegion
import Derived.LaidEql
import Derived.Stop.Asserts
import Derived.RowKitTokens
import Derived.Deep.RegionHeld
import Derived.ChangeSame
import Derived.ChangeVars
import Derived.JoinedOf
import Derived.RowKit
import Derived.LaidLaws
import Derived.LaidHandle
import Derived.Stop.Joined
import Derived.Lib.SmallJoins
set_option maxRecDepth 100000
set_option linter.defProp false
set_option maxHeartbeats 8000000
open Go.IntKind renaming i64 -> Z9, u64 -> Z8
open Go.Value renaming int -> Z7, pointer -> Z6, slice -> Z5, bool -> Z2, tuple -> Z0
open Go.Obj renaming cells -> Z4
open Go.Ending renaming returned -> Z3
open Go.Operand renaming tmp -> Z1
open Go renaming undef -> ZZ, World -> ZU, Value -> ZT, Calls -> ZS, Oper -> ZR, Operand -> ZQ
open Option renaming none -> ZY, some -> ZX
open Bool renaming true -> ZW, false -> ZV
open List renaming range -> XG, length_map -> XK, map_cons -> XM, map_nil -> XN, map_toArray -> XP, map_append -> XQ, replicate -> XR, nil_append -> XS, getD_eq_getElem?_getD -> XT, length_range -> XU, getElem?_map -> XX, getElem?_range -> XY, mem_append -> XZ, mem_singleton -> X0, length_cons -> X1, push_toArray -> X6, cons_append -> X7, setIfInBounds_toArray -> X8, set_cons_succ -> X9, set_cons_zero -> Ya, append_toArray -> Yb, eq_of_mem_replicate -> Yc, mem_map -> Ye, getElem?_eq_getElem -> Yf, getElem?_append_right -> Yi, getElem_mem -> Yj, size_toArray -> Yo, length_nil -> Yp, range_succ -> Yq, length_append -> Ys, take_zero -> Yt, take_add_one -> Yu
open Nat renaming zero_le -> XH, le_refl -> XI, le_trans -> XL, lt_of_lt_of_le -> XO, div_le_self -> XW, zero_add -> Yd, eq_zero_or_pos -> Yr
open Array renaming getElem?_eq_some_iff -> XJ, replicate_succ -> X4, replicate_zero -> X5, getElem?_modify -> Yk, replicate -> Yl
open Go renaming method -> XV
open Eq renaming trans -> X2
open Int renaming tdiv_eq_ediv_of_nonneg -> X3, toNat_natCast -> Yh
open Option.some renaming inj -> Yg, injEq -> Ym
open Option renaming map_eq_some_iff -> Yn, toList_some -> Yw
open Go.Proofs.Tryz renaming prog -> ZP
open Go.Proofs.Tryz
namespace Go.Proofs.YtfbmmcnpjhmjaaaGreatDoor
open Go.RowKit Go.Deep Gf Go.Shelf
variable {a:Act} {ops:Array ZR} {off:Bool} {C:Ck} {R:Ending->ZU->Prop} {Q:Exit->Act->ZU->Prop} {F:bh} {fn:Func} {room:Int} {dl:List Nat} {vs xs:List ZT} {sb p D L G q n v i g b t ps ho D' base k ar L' G' t' f' n' r N gone sp S q7 l nb:Nat} {Dn:Nat->Bool} {f:Nat->ZT} {o:ZR} {P:Program} {e:TypeId} {x pg ob v0:ZT} {Vi:ZT->ZU->Prop} {w w' Z w0 wr:ZU} {B K:ZU->Prop}
theorem kF (p:Addr) (w:ZU):CallsD ZP 106 #[Z6 (ZX p)] .returning w λe u' w'=>e=Z3 (Z0 #[])/\u'=.returning/\w'=w:=by
 refine callsD_of_wpS func106 rfl λa cs f=>?_;have g:∀ w,(binOp .eql 20 .nilIface .nilIface).run ZP w=.ok (Z2 ZW) w:=λw=>by
  have b:∀ d,(Op.equalIn (d+1) 20 .nilIface .nilIface).run ZP w=.ok ZW w:=λd=>by
   simp only [Op.equalIn,Sem.run_bind,run_underlying underlying20,Result.andThen_ok];rfl
  have c:=b 9999;simp only [binOp];simp [Op.equal,Op.maxDepth,c]
 apply wpS_seq;apply wpS_region;generalize hN:Code.wpS ZP _ _=N;simp [wpOpsS,go_sem,recoverD,f,ntmps106,Exit.thenS];rw [<- hN];clear hN;refine wpS_of_wp ?_;simp only [X4,X5,X6,XS,X7,X8,X9,Ya,Yb];go_wp2;cases a;simp_all [bodyPostS,results,results106]
def isErr (v:ZT):Prop:=v=.nilIface\/∃ t u,v=.iface t u
theorem Dy (k:FuncId) (first cap:Array ZT) (o:∀ (args:Array ZT) (w:ZU),(callFunc k args).run ZP w=.ok (.enter k args) w) (w:ZU) (R:ZU->ZT->ZU->Prop)
 (h:∀ w1,bW w w1->w1.heap.size=w.heap.size+1->ZS ZP k (first++cap) w1 λe w2=>∃ v,e=Z3 v/\isErr v/\R w1 v w2/\w2.heap[w.heap.size]?=w1.heap[w.heap.size]?) :
 ZS ZP 71 #[.func (.func k) first cap] w λe w'=>∃ v w1 w2,e=Z3 v/\isErr v/\bW w w1/\w1.heap.size=w.heap.size+1/\R w1 v w2/\w'=w2.setCell ⟨w.heap.size,0,ZY⟩ v:=by
 have p:∀ (fn:Fn) (first cap:Array ZT) (w:ZU),(Instr.makeFunc fn first cap).run ZP w=.ok (.func fn first cap) w:=λ_ _ _ _=>rfl;have j:=h (w.alloc (Z4 #[.nilIface] 63)) (bA w _) (by simp);have d:(w.alloc (Z4 #[.nilIface] 63)).heap[w.heap.size]?=ZX (Z4 #[.nilIface] 63 (0,0)):=blk_alloc_new _ _;go_enter_defers func71,ntmps71
 go_wp2_with fail;refine j.mono ?_;clear j;rintro e w2 ⟨v,rfl,l,i,g⟩;have a:w2.heap[w.heap.size]?=ZX (Z4 #[.nilIface] 63 (0,0)):=g.trans d;have m:w2.cell? ⟨w.heap.size,0,ZY⟩=ZX .nilIface:=by simp [World.cell?,a]
 have n:w2.frozen? ⟨w.heap.size,0,ZY⟩=ZV:=by simp [World.frozen?,a]
 have c:(w2.setCell ⟨w.heap.size,0,ZY⟩ v).cell? ⟨w.heap.size,0,ZY⟩=ZX v:=by simp [World.cell?,World.setCell,Yk,a]
 have H:=hide2 i l;clear i g a d h;rcases l with rfl|⟨t,u,rfl⟩
 . go_wp2;refine leaves_cons (f:=106) (args:=#[Z6 (ZX ⟨w.heap.size,0,ZY⟩)]) (by simp) (by simp [go_sem]) ?_;refine (kF ⟨w.heap.size,0,ZY⟩ _).mono ?_;rintro e u' b ⟨rfl,rfl,rfl⟩;refine ⟨.nilIface,by simp [results,results71,go_sem,c],_,_,w2,rfl,.inl rfl,(Below.refl _ w).alloc lR (Z4 #[.nilIface] 63),by simp,H.out.1,rfl⟩
 . go_wp2;refine leaves_cons (f:=106) (args:=#[Z6 (ZX ⟨w.heap.size,0,ZY⟩)]) (by simp) (by simp [go_sem]) ?_;refine (kF ⟨w.heap.size,0,ZY⟩ _).mono ?_;rintro e u' b ⟨rfl,rfl,rfl⟩;refine ⟨.iface t u,by simp [results,results71,go_sem,c],_,_,w2,rfl,.inr ⟨t,u,rfl⟩,(Below.refl _ w).alloc lR (Z4 #[.nilIface] 63),by simp,H.out.1,rfl⟩
def mY (D L G:Int) (lost:Int) (reading:Bool) (regs:Int) (steps:ZT) (n o:ZT):Array ZT:=#[Z7 Z9 D,Z7 Z9 L,Z7 Z9 G,Z7 Z8 lost,Z2 reading,Z7 Z9 regs,steps,n,o]
structure jA (w:ZU) (sb:Nat) (room:Int):Prop where
 ends:w.heap[sb]?=ZX (Z4 (mY 0 0 0 0 ZV 0 (Z5 ZY 0 0) (Z6 (ZX ⟨sb,0,ZY⟩)) (Z6 (ZX ⟨sb,0,ZY⟩))) 262 (0,0))
 map:∃ n,w.heap[sb+1]?=ZX (.map #[] n)
 list:w.heap[sb+1+1]?=ZX (Z4 #[Z7 Z9 room,.map (ZX (sb+1)),Z6 (ZX ⟨sb,0,ZY⟩)] 265 (0,0))
 TV:w.heap[sb+1+1+1]?=ZX (Z4 #[Z6 (ZX ⟨sb+1+1,0,ZY⟩)] 230 (0,0))
def jA.lt (h:jA w sb room):sb+1+1+1<w.heap.size:=(XJ.1 h.TV).1
def jA.keep (h:jA w sb room) (a:∀ k,sb<=k->k<=sb+1+1+1->w'.heap[k]?=w.heap[k]?):jA w' sb room:=
 ⟨(a _ (by omega) (by omega)).trans h.ends,h.map.imp λ_ q=>(a _ (by omega) (by omega)).trans q,(a _ (by omega) (by omega)).trans h.list,(a _ (by omega) (by omega)).trans h.TV⟩
def jA.below (h:jA w sb room) (a:bW w w'):jA w' sb room:=h.keep λk _ b=>a.block k (by have:=h.lt;omega)
def mZ (w:ZU) (a b c:Obj):(((w.alloc a).alloc b).alloc c).heap[w.heap.size]?=ZX a/\(((w.alloc a).alloc b).alloc c).heap[w.heap.size+1]?=ZX b/\(((w.alloc a).alloc b).alloc c).heap[w.heap.size+1+1]?=ZX c:=by
 refine ⟨(blk_alloc_lt _ _ _ (by simp;omega)).trans ((blk_alloc_lt _ _ _ (by simp)).trans (blk_alloc_new _ _)),(blk_alloc_lt _ _ _ (by simp)).trans ?_,?_⟩
 . have:=blk_alloc_new (w.alloc a) b;rwa [World.size_alloc] at this
 . have:=blk_alloc_new ((w.alloc a).alloc b) c;rwa [World.size_alloc,World.size_alloc] at this
structure RO (w:ZU) (sb:Nat) (room:Int):Prop where
 ends:w.heap[sb]?=ZX (Z4 (mY 0 0 0 0 ZV 0 (Z5 ZY 0 0) (Z6 (ZX ⟨sb,0,ZY⟩)) (Z6 (ZX ⟨sb,0,ZY⟩))) 262 (0,0))
 map:∃ n,w.heap[sb+1]?=ZX (.map #[] n)
 list:w.heap[sb+1+1]?=ZX (Z4 #[Z7 Z9 room,.map (ZX (sb+1)),Z6 (ZX ⟨sb,0,ZY⟩)] 265 (0,0))
theorem vt (n:Int) (w:ZU):ZS ZP 136 #[Z7 Z9 n] w λe w'=>e=Z3 (Z6 (ZX ⟨w.heap.size+1+1,0,ZY⟩))/\RO w' w.heap.size n/\w'.heap.size=w.heap.size+1+1+1/\bW w w':=by
 have i:∀ w,(Instr.makeMap 263 ZY).run ZP w=.ok (.map (ZX w.heap.size)) (w.alloc (.map #[] 0)):=λ_=>rfl;have a:∀ b c d:Obj,bW w (((w.alloc b).alloc c).alloc d):=λb c d=>((bA w _).alloc (by simp) _).alloc (by simp;omega) _;have H:=hide a;clear a;go_enter func136,ntmps136;go_wp2;go_ret;obtain ⟨f,g,h⟩:=mZ w (Z4 (mY 0 0 0 0 ZV 0 (Z5 ZY 0 0) (Z6 (ZX ⟨w.heap.size,0,ZY⟩)) (Z6 (ZX ⟨w.heap.size,0,ZY⟩))) 262) (.map #[] 0) (Z4 #[Z7 Z9 n,.map (ZX (w.heap.size+1)),Z6 (ZX ⟨w.heap.size,0,ZY⟩)] 265);exact ⟨rfl,⟨f,⟨0,g⟩,h⟩,by simp,H.out _ _ _⟩
theorem yW (n:Int) (w:ZU):ZS ZP 93 #[Z7 Z9 n] w λe w'=>∃ b,e=Z3 (Z6 (ZX ⟨b+1+1+1,0,ZY⟩))/\w.heap.size<=b/\jA w' b n/\bW w w':=by
 go_enter func93,ntmps93;go_wp2_with fail;refine (vt n w).mono ?_;rintro e w1 ⟨rfl,a,d,c⟩;have H:=hide3 c a d;have g:=c.size;clear c a d;go_wp2;go_ret;obtain ⟨c,a,d⟩:=H.out;have f:bW w1 (w1.alloc (Z4 #[Z6 (ZX ⟨w.heap.size+1+1,0,ZY⟩)] 230)):=bA w1 _;refine ⟨w.heap.size,by rw [d];rfl,XI _,⟨(f.block _ (by omega)).trans a.ends,a.map.imp λ_ q=>(f.block _ (by omega)).trans q,(f.block _ (by omega)).trans a.list,?_⟩,c.trans (f.mono g)⟩;have:=blk_alloc_new w1 (Z4 #[Z6 (ZX ⟨w.heap.size+1+1,0,ZY⟩)] 230);rwa [d] at this
noncomputable def SF:Array ZR:=((Tryz.f67.body.bind (mW · 1))).getD #[]
def RQ:List (Op×Option Nat×List Nat):=[(Op.move (Z1 0),ZX 7,[]),
 (Op.load 25 (Z1 4),ZX 8,[]),
 (Op.move (Z1 2),ZX 9,[]),
 (Op.call { callee:=Callee.value (Operand.func 93),args:=#[Z1 9],argTypes:=#[3] },ZX 10,[2]),
 (Op.build 130 #[(0,Z1 7),(1,Z1 8),(2,Z1 10)],ZX 11,[0,1,3]),
 (Op.box 130 (Z1 11),ZX 12,[4]),
 (Op.assign (Z1 12),ZX 6,[5,3,0,1,2,3,4,5])]
def Gv:aN SF 6 13 RQ:=bx (by kernel_rfl) (by kernel_rfl)
def O0 (w0:ZU) (p D L G:Nat) (n:Int) (i:Nat) (u:ZT) (w:ZU):Prop:=match i with
 | 0=>u=Z6 (ZX ⟨p,0,ZY⟩)
 | 1=>u=.agg #[Z7 Z9 D,Z7 Z9 L,Z7 Z9 G]
 | 2=>u=Z7 Z9 n
 | 3=>∃ b,u=Z6 (ZX ⟨b+1+1+1,0,ZY⟩)/\w0.heap.size<=b/\jA w b n
 | 4=>∃ b,u=.agg #[Z6 (ZX ⟨p,0,ZY⟩),Z7 Z9 D,Z7 Z9 L,Z7 Z9 G,Z6 (ZX ⟨b+1+1+1,0,ZY⟩),Z7 Z8 0]/\w0.heap.size<=b/\jA w b n
 | 5|6=>∃ v b,u=Z6 (ZX ⟨v,0,ZY⟩)/\b+1+1+1<v/\bt w v p D L G (b+1+1+1) 0/\w0.heap.size<=b/\jA w b n
 | _=>True
theorem vu {n:Int} (S:SF=ops) (M:w.heap[q]?=ZX (Z4 #[Z7 Z9 (D:Int),Z7 Z9 (L:Int),Z7 Z9 (G:Int)] 25 (0,0))) (Y:a.tmps.size=13)
 (N:a.eval (Z1 0)=Z6 (ZX ⟨p,0,ZY⟩)) (P:a.eval (Z1 4)=Z6 (ZX ⟨q,0,ZY⟩)) (O:a.eval (Z1 2)=Z7 Z9 n)
 (R:∀ (w':ZU) (vs:List ZT) (v b:Nat),vs.length=6->b+1+1+1<v->bt w' v p D L G (b+1+1+1) 0->w.heap.size<=b->jA w' b n->Below w.heap.size w w'->Q .normal (Act.putFrom a 6 (Z6 (ZX ⟨v,0,ZY⟩)::vs)) w'):(Code.region 1 ops ZW).wp ZP Q a w:=by
 subst S;have W:q<w.heap.size:=(XJ.1 M).1;refine cB (by kernel_rfl) Gv a w (by omega) (O0 w p D L G n) (λ_ w'=>Below w.heap.size w w') ((Below.refl _ w).drew) ?_ ?_
 . intro i I;have K:∀ (w' t:ZU),Below w'.heap.size w' t->∀ j u,O0 w p D L G n j u w'->O0 w p D L G n j u t:=λw' t y j u h=>by
    match j,h with
    | 0,h|1,h|2,h=>exact h
    | 3,⟨b,r,s,l⟩=>exact ⟨b,r,s,l.below y⟩
    | 4,⟨b,r,s,l⟩=>exact ⟨b,r,s,l.below y⟩
    | 5,⟨v,b,r,s,l,z,h5⟩=>exact ⟨v,b,r,s,l.keep (y.block _ l.lt),z,h5.below y⟩
    | 6,⟨v,b,r,s,l,z,h5⟩=>exact ⟨v,b,r,s,l.keep (y.block _ l.lt),z,h5.below y⟩
    | j+7,_=>trivial
   match i,I with
   | 0,_=>exact λo d w' Dn E ho k x A B m c g=>ae (ag ho ((x.slot 0 (by omega)).trans N) w') k ⟨c,rfl,kq⟩
   | 1,_=>
    intro o d w' Dn E ho k x A B m c g;have u0:d.eval (Z1 4)=Z6 (ZX ⟨q,0,ZY⟩):=(x.slot 4 (by omega)).trans P;have V:w'.heap[q]?=_:=(c.block q W).trans M;have U:(Instr.loadAt 25 (Z6 (ZX ⟨q,0,ZY⟩))).run ZP w'=.ok (.agg #[Z7 Z9 (D:Int),Z7 Z9 (L:Int),Z7 Z9 (G:Int)]) w':=by
     simp only [Instr.loadAt,Instr.sureAddr,Sem.run_bind,Sem.run_pure,Result.andThen_ok,run_loadVar_row w' q 25 25 #[Z7 Z9 (D:Int),Z7 Z9 (L:Int),Z7 Z9 (G:Int)] (0,0) _ V underlying25 rfl (by kernel_rfl)]
    exact ae (v:=.agg #[Z7 Z9 D,Z7 Z9 L,Z7 Z9 G]) (by simp [execOp,show o.op=Op.load 25 (Z1 4) from ho,u0,U]) k ⟨c,rfl,kq⟩
   | 2,_=>exact λo d w' Dn E ho k x A B m c g=>ae (ag ho ((x.slot 2 (by omega)).trans O) w') k ⟨c,rfl,kq⟩
   | 3,_=>
    intro o d w' Dn E ho k x A B m c g;have u0:d.eval (Z1 9)=Z7 Z9 n:=g 2 (m 2 (by decide));refine dD (f:=93) (args:=#[Z7 Z9 n]) (w1:=w') (by simp only [execOp,show o.op=Op.call { callee:=Callee.value (Operand.func 93),args:=#[Z1 9],argTypes:=#[3] } from ho];go_simp;simpa [Act.eval] using u0) k (yW n w') ?_;rintro e t ⟨b,rfl,y,C,J⟩;exact ⟨_,rfl,c.trans (J.mono c.size),⟨b,rfl,XL c.size y,C⟩,λj u _ h=>K w' t J j u h⟩
   | 4,_=>
    intro o d w' Dn E ho k x A B m c g;have u0:d.eval (Z1 7)=Z6 (ZX ⟨p,0,ZY⟩):=g 0 (m 0 (by decide));have u1:d.eval (Z1 8)=.agg #[Z7 Z9 D,Z7 Z9 L,Z7 Z9 G]:=g 1 (m 1 (by decide));obtain ⟨b,u2,H,C⟩:O0 w p D L G n 3 (d.eval (Z1 10)) w':=g 3 (m 3 (by decide));exact ae (v:=.agg #[Z6 (ZX ⟨p,0,ZY⟩),Z7 Z9 D,Z7 Z9 L,Z7 Z9 G,Z6 (ZX ⟨b+1+1+1,0,ZY⟩),Z7 Z8 0]) (by simp only [execOp,show o.op=Op.build 130 #[(0,Z1 7),(1,Z1 8),(2,Z1 10)] from ho,XP,XM,XN,u0,u1,u2];go_simp) k ⟨c,⟨b,rfl,H,C⟩,kq⟩
   | 5,_=>
    intro o d w' Dn E ho k x A B m c g;obtain ⟨b,u0,H,C⟩:O0 w p D L G n 4 (d.eval (Z1 11)) w':=g 4 (m 4 (by decide));have F:Below w'.heap.size w' (w'.alloc (Z4 #[Z6 (ZX ⟨p,0,ZY⟩),Z7 Z9 D,Z7 Z9 L,Z7 Z9 G,Z6 (ZX ⟨b+1+1+1,0,ZY⟩),Z7 Z8 0] 130)):=bA w' _;exact ae (v:=Z6 (ZX ⟨w'.heap.size,0,ZY⟩)) (w':=w'.alloc (Z4 #[Z6 (ZX ⟨p,0,ZY⟩),Z7 Z9 D,Z7 Z9 L,Z7 Z9 G,Z6 (ZX ⟨b+1+1+1,0,ZY⟩),Z7 Z8 0] 130)) (by simp only [execOp,show o.op=Op.box 130 (Z1 11) from ho,u0];go_simp) k ⟨c.trans (F.mono c.size),⟨_,b,rfl,C.lt,blk_alloc_new _ _,H,C.below F⟩,λj u _ h=>K w' _ F j u h⟩
   | 6,_=>
    intro o d w' Dn E ho k x A B m c g;obtain ⟨v,b,u0,r,s,l,z⟩:O0 w p D L G n 5 (d.eval (Z1 12)) w':=g 5 (m 5 (by decide));exact ae (v:=Z6 (ZX ⟨v,0,ZY⟩)) (by simp [execOp,show o.op=Op.assign (Z1 12) from ho,u0]) k ⟨c,⟨v,b,rfl,r,s,l,z⟩,kq⟩
   | n+7,hn=>exact absurd hn (by show ¬ n+7<7;omega)
 . rintro d w' T ⟨Dn,X,c⟩ g;obtain ⟨v,b,u0,r,s,l,z⟩:O0 w p D L G n 6 (d.eval (Z1 6)) w':=g 6 (by decide);have e:d=Act.putFrom a 6 (Z6 (ZX ⟨v,0,ZY⟩)::(XG 6).map λi=>d.eval (.tmp (7+i))):=T.out _ (by simp) (by omega) (λi I=>by
    simp at I;cases i with
    | zero=>exact u0
    | succ i=>
     rw [List.getD_cons_succ,XT,XX,XY (by omega),show 6+(i+1)=7+i by omega];rfl)
   rw [e];exact R w' _ v b (by rw [XK,XU]) r s l z c
theorem Dz (p D L G:Nat) (n:Int) (w:ZU):ZS ZP 67 #[Z6 (ZX ⟨p,0,ZY⟩),.agg #[Z7 Z9 D,Z7 Z9 L,Z7 Z9 G],Z7 Z9 n] w λe w'=>∃ v b,e=Z3 (Z6 (ZX ⟨v,0,ZY⟩))/\w.heap.size<=v/\bt w' v p D L G (b+1+1+1) 0/\(w.heap.size<=b/\b+1+1+1<v/\jA w' b n)/\bW w w':=by
 have h:=blk_alloc_new w (Z4 #[Z7 Z9 (D:Int),Z7 Z9 (L:Int),Z7 Z9 (G:Int)] 25);have c:bW w (w.alloc (Z4 #[Z7 Z9 (D:Int),Z7 Z9 (L:Int),Z7 Z9 (G:Int)] 25)):=bA w _;have i:(w.alloc (Z4 #[Z7 Z9 (D:Int),Z7 Z9 (L:Int),Z7 Z9 (G:Int)] 25)).heap.size=w.heap.size+1:=by simp
 go_enter func67,ntmps67;go_wp2_with fail;refine vu (by kernel_rfl) h rfl rfl rfl rfl ?_;intro w' vs v b f k g j d a;obtain ⟨l,m,o,q,r,s,rfl⟩:=EY f;rw [i] at j a;have H:=hide3 g d (c.trans (a.mono (by omega)));clear g d a c h i f;rename_i hK
 refine hK _ _ ?_;clear hK;simp only [Act.putFrom,Act.put,X8,X9,Ya];go_wp2;go_ret;exact ⟨v,b,rfl,by omega,H.out.1,⟨by omega,k,H.out.2.1⟩,H.out.2.2⟩
def eV (a:Act) (i:Nat) (v:ZT) (h:i<a.tmps.size):(a.put (ZX i) v).eval (.tmp i)=v:=by simp [Act.put,Act.eval,h]
def aC (a:Act) (i j:Nat) (v:ZT) (h:i≠j):(a.put (ZX i) v).eval (.tmp j)=a.eval (.tmp j):=by
 simp [Act.put,Act.eval,Array.getD_eq_getD_getElem?,h]
def fE (a:Act) (d:Option Nat) (v:ZT):(a.put d v).tmps.size=a.tmps.size:=by
 cases d<;>simp [Act.put]
def JP (a:Act) (i j:Nat) (v u:ZT) (h:i≠j):(a.put (ZX i) v).put (ZX j) u=(a.put (ZX j) u).put (ZX i) v:=by
 simp only [Act.put];rw [Array.setIfInBounds_comm _ _ h]
def du (b:o.guard=ZY):Region.wanted o (yielded ops a.tmps)=ZW:=by simp [Region.wanted,b]
def jg {x:ZQ} {v:ZT} (b:o.guard=ZY) (ho:o.op=.move x) (c:a.eval x=v):Yields P ops o v a:=
 .inl ⟨du b,λw=>by simp [execOp,ho,c]⟩
def rg:Code->Nat->Option (Array ZR)
 | .region i ops _,n=>if i=n then ZX ops else ZY
 | .seq a b,n=>(rg a n).orElse λ_=>rg b n
 | .cond _ a b,n=>(rg a n).orElse λ_=>rg b n
 | .block _ a,n=>rg a n
 | .loop a,n=>rg a n
 | .scope a,n=>rg a n
 | _,_=>ZY
noncomputable def OY:Array ZR:=((Tryz.f42.body.bind (rg · 12))).getD #[]
def QF (l:List Nat):Array Bool:=l.foldl (λa i=>a.setIfInBounds i ZW) (Yl 12 ZV)
def gG:(XG 12).map (λi=>(OY[i]?).map λo=>(o.op,o.dst,o.guard))=[
 ZX (.move (Z1 4),ZX 28,ZY),ZX (.move (Z1 6),ZX 29,ZY),ZX (.move (Z1 6),ZX 30,ZY),ZX (.indexAddr 136 (Z1 3) (Z1 30),ZX 31,ZY),
 ZX (.load 134 (Z1 31),ZX 32,ZY),ZX (.move (Z1 4),ZX 33,ZY),ZX (.indexAddr 136 (Z1 3) (Z1 33),ZX 34,ZY),ZX (.load 134 (Z1 34),ZX 35,ZY),
 ZX (.indexAddr 136 (Z1 3) (Z1 28),ZX 36,ZY),ZX (.store 134 (Z1 36) (Z1 32),ZY,ZY),ZX (.indexAddr 136 (Z1 3) (Z1 29),ZX 37,ZY),ZX (.store 134 (Z1 37) (Z1 35),ZY,ZY)]:=by kernel_rfl
def gH {x:Op} {d:Option Nat} (f:i<12) (h:((XG 12).map (λi=>(OY[i]?).map λo=>(o.op,o.dst,o.guard)))[i]?=ZX (ZX (x,d,ZY))):∃ o,OY[i]?=ZX o/\o.op=x/\o.dst=d/\o.guard=ZY:=by
 simp only [XX,XY f,Option.map_some,Ym,Yn,Prod.mk.injEq] at h;obtain ⟨o,a,b,c,e⟩:=h;exact ⟨o,a,b,c,e⟩
theorem oJ (b p:Nat) (f:p<64) {o:ZR} {a:Act} {x y:ZQ} (ho:o.op=.indexAddr 136 x y) (c:a.eval x=Z6 (ZX ⟨b,0,ZY⟩)) (d:a.eval y=Z7 Z9 (p:Nat)) (w:ZU) :
 (execOp a.eval o).run ZP w=.ok (.value (Z6 (ZX ⟨b,p*64,ZY⟩))) w:=by
 have e:(p:Int)<64:=by omega
 simp only [execOp,ho,c,d];go_simp
def Tryz.UP:(ZP.info? 134).map (λi=>i.size)=ZX 64:=by kernel_rfl
def JQ (a:Act) (gb p r:Nat) (cp cr:List ZT):Act:=
 ((((((((((a.put (ZX 28) (Z7 Z9 (r:Nat))).put (ZX 29) (Z7 Z9 (p:Nat))).put (ZX 30) (Z7 Z9 (p:Nat))).put (ZX 33) (Z7 Z9 (r:Nat))).put (ZX 31) (Z6 (ZX ⟨gb,p*64,ZY⟩))).put (ZX 34) (Z6 (ZX ⟨gb,r*64,ZY⟩))).put (ZX 32) (.agg cp.toArray)).put (ZX 35) (.agg cr.toArray)).put (ZX 36) (Z6 (ZX ⟨gb,r*64,ZY⟩))).put ZY ZZ).put (ZX 37) (Z6 (ZX ⟨gb,p*64,ZY⟩)) |>.put ZY ZZ
theorem JR (e p r:Nat) (cp f:List ZT) (hR:OY=ops) (j:∀ c n v a w,Q (.panic c) (a.put (ZX n) v) w->Q (.panic c) a w)
 (m:a.tmps.size=47) (hp:p<64) (hr:r<64) (e3:a.eval (Z1 3)=Z6 (ZX ⟨e,0,ZY⟩)) (V:a.eval (Z1 4)=Z7 Z9 (r:Nat)) (W:a.eval (Z1 6)=Z7 Z9 (p:Nat))
 (lp:cp.length=64) (lr:f.length=64) (op:cp.toArray.all (λv=>v.oneCell')=ZW) (or:f.toArray.all (λv=>v.oneCell')=ZW)
 (Z:w.drew.rangeAt e (p*64) cp) (gr:w.drew.rangeAt e (r*64) f) (tr:w.drew.there e (r*64) 64) (tp:w.drew.there e (p*64) 64)
 (h:Q .normal (JQ a e p r cp f) ((w.drew.setCells e (r*64) cp).setCells e (p*64) f)):(Code.region 12 ops ZW).wp ZP Q a w:=by
 subst hR;obtain ⟨o0,g0,x0,M,k0⟩:=gH (i:=0) (by decide) (by rw [gG];rfl);obtain ⟨o1,g1,x1,d1,k1⟩:=gH (i:=1) (by decide) (by rw [gG];rfl);obtain ⟨o2,g2,x2,N,k2⟩:=gH (i:=2) (by decide) (by rw [gG];rfl);obtain ⟨o3,g3,x3,O,k3⟩:=gH (i:=3) (by decide) (by rw [gG];rfl);obtain ⟨o4,X,x4,P,k4⟩:=gH (i:=4) (by decide) (by rw [gG];rfl);obtain ⟨o5,g5,x5,R,k5⟩:=gH (i:=5) (by decide) (by rw [gG];rfl);obtain ⟨o6,g6,x6,S,k6⟩:=gH (i:=6) (by decide) (by rw [gG];rfl);obtain ⟨o7,Y,x7,T,k7⟩:=gH (i:=7) (by decide) (by rw [gG];rfl);obtain ⟨o8,g8,x8,U,k8⟩:=gH (i:=8) (by decide) (by rw [gG];rfl);obtain ⟨o9,g9,x9,d9,k9⟩:=gH (i:=9) (by decide) (by rw [gG];rfl);obtain ⟨h3,y,H,d10,A⟩:=gH (i:=10) (by decide) (by rw [gG];rfl);obtain ⟨h4,z,I,d11,B⟩:=gH (i:=11) (by decide) (by rw [gG];rfl);have g:Region.noSelect OY=ZW:=by kernel_rfl
 have h1:OY.size=12:=by kernel_rfl
 refine wp_region_any (by kernel_rfl) ?_;rw [h1];change wpAny _ _ _ _ _ (QF []) _ (World.drew _);refine wpAny_take g0 g (by kernel_rfl) (by kernel_rfl) (λc a w h=>j c _ _ a w (by rw [M] at h;exact h)) (jg k0 x0 V) ?_;rw [M];refine wpAny_take g1 g (by kernel_rfl) (by kernel_rfl) (λc a w h=>j c _ _ a w (by rw [d1] at h;exact h)) (jg (v:=Z7 Z9 (p:Nat)) k1 x1 (by rw [aC _ _ _ _ (by decide)];exact W)) ?_;rw [d1];refine wpAny_take g2 g (by kernel_rfl) (by kernel_rfl) (λc a w h=>j c _ _ a w (by rw [N] at h;exact h)) (jg (v:=Z7 Z9 (p:Nat)) k2 x2 (by rw [aC _ _ _ _ (by decide),aC _ _ _ _ (by decide)];exact W)) ?_;rw [N];refine wpAny_take g5 g (by kernel_rfl) (by kernel_rfl) (λc a w h=>j c _ _ a w (by rw [R] at h;exact h)) (jg (v:=Z7 Z9 (r:Nat)) k5 x5 (by rw [aC _ _ _ _ (by decide),aC _ _ _ _ (by decide),aC _ _ _ _ (by decide)];exact V)) ?_;rw [R];generalize hb:(((a.put (ZX 28) (Z7 Z9 (r:Nat))).put (ZX 29) (Z7 Z9 (p:Nat))).put (ZX 30) (Z7 Z9 (p:Nat))).put (ZX 33) (Z7 Z9 (r:Nat))=b;have sb:b.tmps.size=47:=by rw [<- hb];simp only [fE,m]
 have b3:b.eval (Z1 3)=Z6 (ZX ⟨e,0,ZY⟩):=by rw [<- hb];simp only [aC _ _ _ _ (show (33:Nat)≠3 by decide),aC _ _ _ _ (show (30:Nat)≠3 by decide),aC _ _ _ _ (show (29:Nat)≠3 by decide),aC _ _ _ _ (show (28:Nat)≠3 by decide),e3]
 have s:b.eval (Z1 30)=Z7 Z9 (p:Nat):=by rw [<- hb,aC _ _ _ _ (by decide),eV _ _ _ (by simp only [fE,m];decide)]
 have t:b.eval (Z1 33)=Z7 Z9 (r:Nat):=by rw [<- hb,eV _ _ _ (by simp only [fE,m];decide)]
 have o:b.eval (Z1 28)=Z7 Z9 (r:Nat):=by rw [<- hb,aC _ _ _ _ (by decide),aC _ _ _ _ (by decide),aC _ _ _ _ (by decide),eV _ _ _ (by simp only [m];decide)]
 have q:b.eval (Z1 29)=Z7 Z9 (p:Nat):=by rw [<- hb,aC _ _ _ _ (by decide),aC _ _ _ _ (by decide),eV _ _ _ (by simp only [fE,m];decide)]
 unfold JQ at h;rw [hb] at h;clear hb;refine wpAny_take g3 g (by kernel_rfl) (by kernel_rfl) (λc a w h=>j c _ _ a w (by rw [O] at h;exact h)) (.inl ⟨du k3,oJ e p hp x3 b3 s⟩) ?_;rw [O];refine wpAny_take g6 g (by kernel_rfl) (by kernel_rfl) (λc a w h=>j c _ _ a w (by rw [S] at h;exact h)) (.inl ⟨du k6,oJ e r hr x6 (by rw [aC _ _ _ _ (by decide)];exact b3) (by rw [aC _ _ _ _ (by decide)];exact t)⟩) ?_;rw [S];generalize hc:(b.put (ZX 31) (Z6 (ZX ⟨e,p*64,ZY⟩))).put (ZX 34) (Z6 (ZX ⟨e,r*64,ZY⟩))=c;have G:c.tmps.size=47:=by rw [<- hc];simp only [fE,sb]
 have c3:c.eval (Z1 3)=Z6 (ZX ⟨e,0,ZY⟩):=by rw [<- hc,aC _ _ _ _ (by decide),aC _ _ _ _ (by decide),b3]
 have u:c.eval (Z1 28)=Z7 Z9 (r:Nat):=by rw [<- hc,aC _ _ _ _ (by decide),aC _ _ _ _ (by decide),o]
 have x:c.eval (Z1 29)=Z7 Z9 (p:Nat):=by rw [<- hc,aC _ _ _ _ (by decide),aC _ _ _ _ (by decide),q]
 have k:c.eval (Z1 31)=Z6 (ZX ⟨e,p*64,ZY⟩):=by rw [<- hc,aC _ _ _ _ (by decide),eV _ _ _ (by rw [sb];decide)]
 have l:c.eval (Z1 34)=Z6 (ZX ⟨e,r*64,ZY⟩):=by rw [<- hc,eV _ _ _ (by simp only [fE,sb];decide)]
 rw [hc] at h;clear hc;have J:(ZP.info? 134).map (λi=>i.size)=ZX cp.length:=by rw [lp];exact Tryz.UP
 have L:(ZP.info? 134).map (λi=>i.size)=ZX f.length:=by rw [lr];exact Tryz.UP
 have fin:wpAny ZP .any OY Q 4 (QF [0,1,2,5,3,6,4,7]) ((c.put (ZX 32) (.agg cp.toArray)).put (ZX 35) (.agg f.toArray)) w.drew:=by
  generalize hd:(c.put (ZX 32) (.agg cp.toArray)).put (ZX 35) (.agg f.toArray)=d;have sd:d.tmps.size=47:=by rw [<- hd];simp only [fE,G]
  have q3:d.eval (Z1 3)=Z6 (ZX ⟨e,0,ZY⟩):=by rw [<- hd,aC _ _ _ _ (by decide),aC _ _ _ _ (by decide),c3]
  have C:d.eval (Z1 28)=Z7 Z9 (r:Nat):=by rw [<- hd,aC _ _ _ _ (by decide),aC _ _ _ _ (by decide),u]
  have D:d.eval (Z1 29)=Z7 Z9 (p:Nat):=by rw [<- hd,aC _ _ _ _ (by decide),aC _ _ _ _ (by decide),x]
  have E:d.eval (Z1 32)=.agg cp.toArray:=by rw [<- hd,aC _ _ _ _ (by decide),eV _ _ _ (by rw [G];decide)]
  have F:d.eval (Z1 35)=.agg f.toArray:=by rw [<- hd,eV _ _ _ (by simp only [fE,G];decide)]
  rw [hd] at h;clear hd;refine wpAny_take g8 g (by kernel_rfl) (by kernel_rfl) (λc a w h=>j c _ _ a w (by rw [U] at h;exact h)) (.inl ⟨du k8,oJ e r hr x8 q3 C⟩) ?_;rw [U];refine wpAny_ready (rs:=[9]) (by kernel_rfl) (by simp) ?_;refine AllReady.cons g9 (λK hK=>?_) AllReady.nil;rw [if_pos (du k9)];refine wp_store_mid 134 (Z1 36) (Z1 32) x9 e (r*64) cp.toArray (by rw [eV _ _ _ (by rw [sd];decide)]) (by rw [aC _ _ _ _ (by decide),E]) (by simpa [lp] using tr) (by simpa using J) op ?_;refine hK _ _ ?_;rw [d9];refine wpAny_take y g (by kernel_rfl) (by kernel_rfl) (λc a w h=>j c _ _ a w (by rw [d10] at h;exact h)) (.inl ⟨du A,oJ e p hp H (by show (d.put (ZX 36) _).eval _=_;rw [aC _ _ _ _ (by decide)];exact q3) (by show (d.put (ZX 36) _).eval _=_;rw [aC _ _ _ _ (by decide)];exact D)⟩) ?_;rw [d10];refine wpAny_ready (rs:=[11]) (by kernel_rfl) (by simp) ?_;refine AllReady.cons z (λK hK=>?_) AllReady.nil;rw [if_pos (du B)];refine wp_store_mid 134 (Z1 37) (Z1 35) I e (p*64) f.toArray (by rw [eV _ _ _ (by show 37<(d.put (ZX 36) _).tmps.size;rw [fE,sd];decide)]) (by rw [aC _ _ _ _ (by decide)];show (d.put (ZX 36) _).eval _=_;rw [aC _ _ _ _ (by decide),F]) (by simpa [lr] using World.there_setCells tp e (r*64) cp) (by simpa using L) or ?_;refine hK _ _ ?_;rw [d11];exact wpAny_done (by kernel_rfl) h _
 refine wpAny_ready (rs:=[4,7]) (by kernel_rfl) (by simp) ?_;refine AllReady.cons X (λK hK=>?_) (AllReady.cons Y (λK hK=>?_) AllReady.nil)
 . rw [if_pos (du k4)];refine wp_load_mid 134 (Z1 31) x4 e (p*64) k cp _ Z underlying134 rfl J ?_;refine hK _ _ ?_;rw [P];refine wpAny_ready (rs:=[7]) (by kernel_rfl) (by simp) ?_;refine AllReady.cons Y (λK hK=>?_) AllReady.nil;rw [if_pos (du k7)];refine wp_load_mid 134 (Z1 34) x7 e (r*64) (by rw [aC _ _ _ _ (by decide)];exact l) f _ gr underlying134 rfl L ?_;refine hK _ _ ?_;rw [T];exact fin
 . rw [if_pos (du k7)];refine wp_load_mid 134 (Z1 34) x7 e (r*64) l f _ gr underlying134 rfl L ?_;refine hK _ _ ?_;rw [T];refine wpAny_ready (rs:=[4]) (by kernel_rfl) (by simp) ?_;refine AllReady.cons X (λK hK=>?_) AllReady.nil;rw [if_pos (du k4)];refine wp_load_mid 134 (Z1 31) x4 e (p*64) (by rw [aC _ _ _ _ (by decide)];exact k) cp _ Z underlying134 rfl J ?_;refine hK _ _ ?_;rw [P,JP _ _ _ _ _ (by decide)];exact fin
def mid (f:Nat->ZT) (g F:Nat->Nat) (c off k j:Nat):ZT:=if off<=j/\j<off+k then Z7 .u8 ((g j^^^gm c (F (j-off)):Nat):Int) else f j
def To (w:ZU) (b t N off k c tb fb foff:Nat) (f:Nat->ZT) (g F:Nat->Nat) (i:ZT) (wr:ZU):Prop:=
 ∃ j:Nat,j<=k/\i=Z7 Z9 j/\wr.rowIs b t N (mid f g F c off j)/\mv wr tb c/\(∀ i,i<k->wr.cell? ⟨fb,foff+i,ZY⟩=ZX (Z7 .u8 ((F i:Nat):Int)))/\w.grownBy wr (ZX b)
def Km (f:Nat->ZT) (g F:Nat->Nat) (c off j x:Nat):mid f g F c off (j+1) x=if x=off+j then Z7 .u8 ((g (off+j)^^^gm c (F j):Nat):Int) else mid f g F c off j x:=by
 unfold mid;by_cases h:x=off+j
 . subst h;rw [if_pos rfl,if_pos (by omega),Nat.add_sub_cancel_left]
 . rw [if_neg h];by_cases a:off<=x/\x<off+j
   . rw [if_pos a,if_pos (by omega)]
   . rw [if_neg a,if_neg (by omega)]
theorem Ko (f:Nat->ZT) (g F:Nat->Nat) (c off:Nat):mid f g F c off 0=f:=by
 funext j;unfold mid;rw [if_neg (by omega)]
theorem Kq {g F:Nat->Nat} {off:Nat} (a:∀ j,off<=j->j<off+n->f j=Z7 .u8 ((g j:Nat):Int)) (j:Nat):mid f g F 0 off n j=f j:=by
 unfold mid;split
 . rename_i h;rw [bC,Nat.xor_zero,a j h.1 h.2]
 . rfl
theorem ze (b t N off n cap o d r c:Nat) (f:Nat->ZT) (g F:Nat->Nat) (w:ZU) (D:c<256) (A:w.rowIs b t N f) (B:∀ j,off<=j->j<off+n->f j=Z7 .u8 ((g j:Nat):Int)) (O:∀ j,g j<256) (K:∀ j,F j<256) (hn:off+n<=N) (k6:n<=140737488355328)
 (U:∀ i,i<n->w.cell? ⟨o,d+i,ZY⟩=ZX (Z7 .u8 ((F i:Nat):Int))) (k7:o≠b\/d+n<=off\/off+n<=d) :
 ZS ZP 91 #[Z5 (ZX ⟨b,off,ZY⟩) n cap,Z5 (ZX ⟨o,d,ZY⟩) n r,Z7 .u8 c] w λe w'=>e=Z3 (Z0 #[])/\w'.rowIs b t N (mid f g F c off n)/\w.grownBy w' (ZX b):=by
 by_cases I:c=0
 . subst I;go_enter func91,ntmps91;go_wp2;exact bodyPost_ret (v:=Z0 #[]) (by simp [results,results91]) rfl ⟨rfl,A.congr (λj _=>(Kq B j).symm),World.grownBy.refl _ _⟩
 . have ke:((c:Int)==0)=ZV:=(by rw [beq_eq_false_iff_ne];omega);clear I;go_enter func91,ntmps91;go_wp2_with fail;refine (lH c D _).mono ?_;rintro e w1 ⟨cs,rfl,kb,J,p⟩;have ka:=p.size;go_wp2_with (refine nB _ rfl (Z1 6) (Z1 11) rfl w1.heap.size c cs _ rfl rfl (heap_alloc_last w1 _) rfl kb J ?_;intro w2 P q);have R:b<w.heap.size:=A.lt;have l:w.grownBy w2 ZY:=by
    refine ⟨q.os.trans p.os,q.tape.trans p.tape,q.output.trans p.output,?_,λk G _=>?_⟩
    . have:=q.size;rw [nblk_alloc] at this;omega
    . rw [q.block k (by rw [nblk_alloc];omega) (by intro e;simp at e;omega),blk_alloc_lt _ _ _ (by omega),p.block k G]
   have X:w2.rowIs b t N f:=A.of_block (l.block b R (by simp));have S:∀ i,i<n->w2.cell? ⟨o,d+i,ZY⟩=ZX (Z7 .u8 ((F i:Nat):Int)):=λi E=>by
    have:=U i E;exact l.cell this (by simp)
   have Z:w.grownBy w2 (ZX b):=⟨l.os,l.tape,l.output,l.size,λk G _=>l.block k G (by simp)⟩;have kc:w1.heap.size≠b:=(by omega);clear q l A U J p ka R;go_loopw [17] (λi wr=>To w b t N off n c w1.heap.size o d f g F i wr) (λi _=>n-(intOf i).toNat)
   case atStart=>exact ⟨0,XH _,rfl,by rw [Ko];exact X,P,S,Z⟩
   case round=>
    clear P S Z X;obtain ⟨j,Q,rfl,s,u,z,C⟩:=hrel;by_cases k9:j<n
    . have c1:=s.cell (i:=off+j) (by omega);have f1:=s.frozen (off+j);have c2:=z j k9;have H:mid f g F c off j (off+j)=Z7 .u8 ((g (off+j):Nat):Int):=(by unfold mid;rw [if_neg (by omega)];exact B _ (by omega) (by omega));rw [H] at c1;have W:=nt (g (off+j)) (gm c (F j)) (O _) (aV _ D);have Y:=(s.set (off+j) (Z7 .u8 ((g (off+j)^^^gm c (F j):Nat):Int))).congr (λx _=>(Km f g F c off j x).symm);have M:=ri u (a:=⟨b,off+j,ZY⟩) kc (Z7 .u8 ((g (off+j)^^^gm c (F j):Nat):Int));have V:=fp C (off+j) (Z7 .u8 ((g (off+j)^^^gm c (F j):Nat):Int));have T:∀ i,i<n->(wr.setCell ⟨b,off+j,ZY⟩ (Z7 .u8 ((g (off+j)^^^gm c (F j):Nat):Int))).cell? ⟨o,d+i,ZY⟩=ZX (Z7 .u8 ((F i:Nat):Int)):=λi E=>by
       rw [<- z i E];by_cases k5:o=b
       . exact World.cell?_setCell_other _ _ _ _ (by intro e;have h1:off+j=d+i:=congrArg Addr.off e;omega)
       . exact World.cell?_of_block (blk_setCell_other _ _ _ _ k5)
      have L:=K j;have h:=hide4 Y M T V;have HT:=hide u;generalize F j=y at c2 W L h;generalize g (off+j)=x at c1 W h;clear H Y M V T s u z C O K B;go_wp2;go_region_with ((go_at_call 134;refine (wD w1.heap.size c y D L _ (by exact λj Q=>HT.out j Q)).mono ?_;rintro e w' ⟨rfl,m,rfl⟩));all_goals
       go_wp2;go_roundw
       case rel=>exact ⟨j+1,by omega,by go_num,h.out.1,h.out.2.1,h.out.2.2.1,⟨h.out.2.2.2.os,h.out.2.2.2.tape,h.out.2.2.2.output,h.out.2.2.2.size,h.out.2.2.2.block⟩⟩
       case measure=>simp [intOf];omega
    . have k8:j=n:=(by omega);subst k8;clear u z;go_wp2;go_end0
      exact ⟨rfl,s,C⟩
def od (C:Ck) (k:Nat):ZT:=if k<128 then Z7 .u8 ((C.m (k/16) (k%16):Nat):Int) else if k=128 then Z7 Z9 (C.told:Int) else Z7 Z9 (C.count:Int)
def aF (w:ZU) (b:Nat) (C:Ck):Prop:=w.rowIs b 319 130 (od C)
structure dY (C:Ck):Prop where
 byt:we C
 le:C.told<=C.count
 T2:C.count<=8
def aF.at (h:aF w b C) (r i:Nat) (c:r<8) (a:i<16):w.cell? ⟨b,r*16+i,ZY⟩=ZX (Z7 .u8 ((C.m r i:Nat):Int)):=by
 have:=h.cell (i:=r*16+i) (by omega);rw [this];unfold od;rw [if_pos (by omega),show (r*16+i)/16=r by omega,show (r*16+i)%16=i by omega]
def aF.Uh (h:aF w b C):w.cell? ⟨b,128,ZY⟩=ZX (Z7 Z9 (C.told:Int)):=h.cell (i:=128) (by decide)
def aF.Ui (h:aF w b C):w.cell? ⟨b,129,ZY⟩=ZX (Z7 Z9 (C.count:Int)):=h.cell (i:=129) (by decide)
def RR (C:Ck) (i:Nat) (wo:ZU) (v:ZT) (wr:ZU):Prop:=∃ r:Nat,v=Z7 Z9 r/\C.told<=r/\r<=C.count/\(∀ k,C.told<=k->k<r->C.m k i=0)/\wr=wo
def QL:Option Nat->ZT
 | some r=>Z0 #[Z7 Z9 (r:Int),Z2 ZW]
 | none=>Z0 #[Z7 Z9 0,Z2 ZV]
theorem wL (b i:Nat) (C:Ck) (w:ZU) (h:aF w b C) (j:dY C) (q:i<16) :
 ZS ZP 203 #[Z6 (ZX ⟨b,0,ZY⟩),Z7 Z9 i] w λe w'=>e=Z3 (QL (dX C i))/\w'=w:=by
 have u:=h.Uh;have t:=h.Ui;have n:=j.le;have x:=j.T2;have y:(i:Int)<16:=by omega
 go_enter func203,ntmps203;go_wp2;go_loopw [6] (λv wr=>RR C i w v wr) (λv _=>C.count-(intOf v).toNat)
 case atStart=>exact ⟨C.told,rfl,XI _,n,λk a b=>absurd b (by omega),rfl⟩
 case round=>
  obtain ⟨r,rfl,s,D,f,rfl⟩:=hrel;by_cases p:r<C.count
  . have c1:=h.at r i (by omega) q;have B:=j.byt r i;have l:=hide f;clear f;have o:(r:Int)<C.count:=(by omega);have A:(r:Int)<8:=(by omega);by_cases d:C.m r i=0
    . rw [d] at c1;go_wp2;go_roundw
      case rel=>exact ⟨r+1,by go_num,by omega,by omega,λk a b=>by
       by_cases e:k=r
       . rw [e];exact d
       . exact l.out k a (by omega),rfl⟩
      case measure=>simp [intOf];omega
    . have z:((C.m r i:Nat):Int)≠0:=(by omega);have c:=uY s p d l.out;have g:=hide c;clear c d;go_wp2;refine bodyPost_ret (v:=Z0 #[Z7 Z9 (r:Int),Z2 ZW]) (by simp [results,results203]) rfl ?_;rw [g.out];exact ⟨rfl,rfl⟩
  . have o:¬ (r:Int)<C.count:=(by omega);have c:=uZ (C:=C) (i:=i) (λk a b=>f k a (by omega));have g:=hide c;clear c f;go_wp2;refine bodyPost_ret (v:=Z0 #[Z7 Z9 0,Z2 ZV]) (by simp [results,results203]) rfl ?_;rw [g.out];exact ⟨rfl,rfl⟩
def Tp (C:Ck) (i:Nat) (wo:ZU) (v:ZT) (wr:ZU):Prop:=∃ r:Nat,v=Z7 Z9 r/\r<=C.told/\(∀ k,k<r->C.m k i=0)/\wr=wo
theorem wM (b i:Nat) (C:Ck) (w:ZU) (l:aF w b C) (j:dY C) (q:i<16) :
 ZS ZP 207 #[Z6 (ZX ⟨b,0,ZY⟩),Z7 Z9 i] w λe w'=>e=Z3 (Z2 (cP C i))/\w'=w:=by
 have s:=l.Uh;have t:=j.le;have u:=j.T2;have x:(i:Int)<16:=by omega
 go_enter func207,ntmps207;go_wp2;go_loopw [10] (λv wr=>Tp C i w v wr) (λv _=>C.told-(intOf v).toNat)
 case atStart=>exact ⟨0,rfl,XH _,λk h=>absurd h (by omega),rfl⟩
 case round=>
  obtain ⟨r,rfl,B,f,rfl⟩:=hrel;by_cases p:r<C.told
  . have c1:=l.at r i (by omega) q;have A:=j.byt r i;have n:=hide f;clear f;have o:(r:Int)<C.told:=(by omega);have z:(r:Int)<8:=(by omega);by_cases d:C.m r i=0
    . rw [d] at c1;go_wp2;go_roundw
      case rel=>exact ⟨r+1,by go_num,by omega,λk b=>by
       by_cases e:k=r
       . rw [e];exact d
       . exact n.out k (by omega),rfl⟩
      case measure=>simp [intOf];omega
    . have y:((C.m r i:Nat):Int)≠0:=(by omega);have c:=qW p d;have g:=hide c;clear c d;go_wp2;go_ret;rw [g.out];exact ⟨rfl,rfl⟩
  . have o:¬ (r:Int)<C.told:=(by omega);have c:=(gX (C:=C) (i:=i)).2 (λk a=>f k (by omega));have g:=hide c;clear c f;go_wp2;go_ret;rw [g.out];exact ⟨rfl,rfl⟩
def lN (C:Ck) (k r i:Nat):Ck:=⟨cK C.m k r i,C.told,C.count⟩
theorem GH (m:Nat->Nat->Nat) (r i:Nat):cK m 0 r i=m:=by funext k j;unfold cK;rw [if_neg (by omega)]
def GJ (m:Nat->Nat->Nat) (k r i:Nat):cK m k r i r=m r:=mr (by omega)
def wN (m:Nat->Nat->Nat) (k r i:Nat):cK m k r i k=m k:=mr (by omega)
theorem GK (m:Nat->Nat->Nat) (r i:Nat):cK m (r+1) r i=cK m r r i:=by
 funext k j;unfold cK;by_cases h:k<r/\k≠r
 . rw [if_pos h,if_pos (by omega)]
 . rw [if_neg h,if_neg (by omega)]
theorem Kr (C:Ck) (k r i:Nat) (e:k≠r) (f:k<8) (x:Nat) :
 mid (od (lN C k r i)) (λx=>cK C.m k r i (x/16) (x%16)) (λj=>C.m r j) (gm (C.m k i) (gi (C.m r i))) (k*16) 16 x=od (lN C (k+1) r i) x:=by
 unfold mid;by_cases h:k*16<=x/\x<k*16+16
 . rw [if_pos h];have c:x/16=k:=(by omega);have d:x-k*16=x%16:=(by omega);unfold od;rw [if_pos (by omega)];show Value.int .u8 ((cK C.m k r i (x/16) (x%16)^^^gm _ (C.m r (x-k*16)):Nat):Int)=Z7 .u8 ((cK C.m (k+1) r i (x/16) (x%16):Nat):Int);rw [c,d,wN];have:cK C.m (k+1) r i k (x%16)=C.m k (x%16)^^^gm (gm (C.m k i) (gi (C.m r i))) (C.m r (x%16)):=by unfold cK;rw [if_pos ⟨by omega,e⟩]
   rw [this]
 . rw [if_neg h];unfold od;by_cases a:x<128
   . rw [if_pos a,if_pos a];have:cK C.m k r i (x/16) (x%16)=cK C.m (k+1) r i (x/16) (x%16):=by
      unfold cK;by_cases b:x/16<k/\x/16≠r
      . rw [if_pos b,if_pos (by omega)]
      . rw [if_neg b,if_neg (by omega)]
     show Value.int .u8 ((cK C.m k r i (x/16) (x%16):Nat):Int)=Z7 .u8 ((cK C.m (k+1) r i (x/16) (x%16):Nat):Int);rw [this]
   . rw [if_neg a,if_neg a];rfl
def Tq (w:ZU) (b r i:Nat) (C:Ck) (v:ZT) (wr:ZU):Prop:=
 ∃ k:Nat,v=Z7 Z9 k/\k<=C.count/\aF wr b (lN C k r i)/\w.grownBy wr (ZX b)
theorem qw (w:ZU) (b o:Nat):(Instr.sliceAt 221 (Z6 (ZX ⟨b,o,ZY⟩)) ZY ZY ZY).run ZP w=.ok (Z5 (ZX ⟨b,o,ZY⟩) 16 16) w:=by
 go_simp
theorem wO (b r i:Nat) (C:Ck) (w:ZU) (g:aF w b C) (d:dY C) (u:r<8) (t:i<16) :
 ZS ZP 205 #[Z6 (ZX ⟨b,0,ZY⟩),Z7 Z9 r,Z7 Z9 i] w λe w'=>e=Z3 (Z0 #[])/\aF w' b (lN C C.count r i)/\w.grownBy w' (ZX b):=by
 have D:=g.Ui;have B:=g.at r i u t;have F:=d.T2;have z:=d.byt r i;have X:(i:Int)<16:=by omega
 have k7:(r:Int)<8:=by omega
 have l:=hide (show aF w b (lN C 0 r i) by unfold lN;rw [GH];exact g);clear g;go_enter func205,ntmps205;go_wp2_with fail;refine (rT (C.m r i) z _).mono ?_;rintro e w1 ⟨rfl,S⟩;have T:=S.symm;subst T;go_wp2;go_loopw [21] (λv wr=>Tq w b r i C v wr) (λv _=>C.count-(intOf v).toNat)
 case atStart=>exact ⟨0,rfl,XH _,l.out,World.grownBy.refl _ _⟩
 case round=>
  clear D B l;rename ZU=>wo;obtain ⟨k,rfl,W,a,h⟩:=hrel;by_cases Z:k<C.count
  . have H:(k:Int)<C.count:=(by omega);by_cases f:k=r
    . have G:(k:Int)=(r:Int):=(by omega);have U:=hide f;have A:Hid (aF wo b (lN C (k+1) r i)):=hide (by unfold lN at *;rw [f] at a ⊢;rw [GK];exact a);clear f a;go_wp2;go_roundw
      case rel=>exact ⟨k+1,by go_num,by omega,A.out,h⟩
      case measure=>simp [intOf];omega
    . have G:(k:Int)≠(r:Int):=(by omega);have Y:(k:Int)<8:=(by omega);have c1:=a.at k i (by omega) t;have n:(lN C k r i).m k i=C.m k i:=(by show cK C.m k r i k i=_;rw [wN]);rw [n] at c1;have y:=d.byt k i;have o:∀ j,j<16->wo.cell? ⟨b,r*16+j,ZY⟩=ZX (Z7 .u8 ((C.m r j:Nat):Int)):=λj L=>by
       have:=a.at r j u L;have E:(lN C k r i).m r j=C.m r j:=(by show cK C.m k r i r j=_;rw [GJ]);rwa [E] at this
      have P:gm (C.m k i) (gi (C.m r i))<256:=aV _ y;have s:=Kr C k r i f (by omega);have O:∀ x,cK C.m k r i (x/16) (x%16)<256:=λx=>ou d.byt _ _;have K:=hide o;have N:=hide s;have M:=hide a;clear o s n a;have I:=λw=>qw w b (k*16);have J:=λw=>qw w b (r*16);go_wp2;go_region_with (first
       | (go_at_call 92;refine (mn (C.m k i) (gi (C.m r i)) y (dh z) _).mono ?_;rintro e w' ⟨rfl,rfl⟩)
       | (go_at_call 91;refine (ze b 319 130 (k*16) 16 16 b (r*16) 16 (gm (C.m k i) (gi (C.m r i))) (od (lN C k r i)) (λx=>cK C.m k r i (x/16) (x%16)) (λj=>C.m r j) _ P (by exact M.out) (λj V F=>by unfold od;rw [if_pos (by omega)];rfl) O (λj=>d.byt r j) (by omega) (by omega) (by exact K.out) (.inr (by omega))).mono ?_;rintro e w' ⟨rfl,q,c⟩))
      all_goals
       have R:aF w' b (lN C (k+1) r i):=q.congr (λx _=>N.out x);have Q:w.grownBy w' (ZX b):=gu h ⟨c.os,c.tape,c.output,c.size,c.block⟩;clear q c I J;go_wp2;go_roundw
       case rel=>exact ⟨k+1,by go_num,by omega,R,Q⟩
       case measure=>simp [intOf];omega
  . have p:k=C.count:=(by omega);rw [p] at a;have H:¬ (k:Int)<C.count:=(by omega);clear p;go_wp2;go_end0
    exact ⟨rfl,a,h⟩
def qA (m:Nat->Nat->Nat) (r i j:Nat):Nat->Nat->Nat:=λk x=>if k=r/\x<j then gm (m r x) (gi (m r i)) else m k x
def N6 (C:Ck) (r i j:Nat):Ck:=⟨qA C.m r i j,C.told,C.count⟩
theorem GL (m:Nat->Nat->Nat) (r i:Nat):qA m r i 0=m:=by funext k x;unfold qA;rw [if_neg (by omega)]
theorem MM (C:Ck) (r i j:Nat) (d:r<8) (c:j<16) (x:Nat):od (N6 C r i (j+1)) x=if x=r*16+j then Z7 .u8 ((gm (C.m r j) (gi (C.m r i)):Nat):Int) else od (N6 C r i j) x:=by
 unfold od;by_cases h:x=r*16+j
 . rw [if_pos h,if_pos (by omega)];show Value.int .u8 ((qA C.m r i (j+1) (x/16) (x%16):Nat):Int)=_;unfold qA;rw [if_pos (by omega),show x%16=j by omega]
 . rw [if_neg h];by_cases a:x<128
   . rw [if_pos a,if_pos a];have:qA C.m r i (j+1) (x/16) (x%16)=qA C.m r i j (x/16) (x%16):=by
      unfold qA;by_cases b:x/16=r/\x%16<j
      . rw [if_pos b,if_pos (by omega)]
      . rw [if_neg b,if_neg (by omega)]
     show Value.int .u8 ((qA C.m r i (j+1) (x/16) (x%16):Nat):Int)=Z7 .u8 ((qA C.m r i j (x/16) (x%16):Nat):Int);rw [this]
   . rw [if_neg a,if_neg a];rfl
def Pb (C:Ck) (r i x:Nat):od (N6 C r i 16) x=od ⟨dS C.m r i,C.told,C.count⟩ x:=by
 unfold od;by_cases a:x<128
 . rw [if_pos a,if_pos a];have:qA C.m r i 16 (x/16) (x%16)=dS C.m r i (x/16) (x%16):=by
    unfold qA dS;by_cases b:x/16=r
    . rw [if_pos b,if_pos (by omega)]
    . rw [if_neg b,if_neg (by omega)]
   show Value.int .u8 ((qA C.m r i 16 (x/16) (x%16):Nat):Int)=Z7 .u8 ((dS C.m r i (x/16) (x%16):Nat):Int);rw [this]
 . rw [if_neg a,if_neg a];rfl
theorem GM (cs:List ZT) (k:Nat) (v:ZT) (a:k<16) (b:cs[k]?=ZX v) (w:ZU):(Instr.index 221 (.agg cs.toArray) (Z7 Z9 (k:Int))).run ZP w=.ok v w:=by
 simp [Instr.index,run_underlying underlying221,asIntOf,go_sem,part];rw [if_pos a,b];rfl
def cL (f:Nat->Nat):List ZT:=(XG 16).map (λj=>Value.int .u8 ((f j:Nat):Int))
def jU (f:Nat->Nat):(cL f).length=16:=by unfold cL;rw [XK,XU]
def r9 (f:Nat->Nat) (j:Nat) (a:j<16):(cL f)[j]?=ZX (Z7 .u8 ((f j:Nat):Int)):=by
 unfold cL;rw [XX,XY a];rfl
def kK (h:aF w b C) (r:Nat) (d:r<8):w.rangeAt b (r*16) (cL (C.m r)):=λj v a=>by
 have c:j<16:=by
  have:=(List.getElem?_eq_some_iff.1 a).1;rwa [jU] at this
 rw [r9 _ _ c] at a;rw [<- a];exact h.at r j d c
def Tryz.Ub (f:Nat->Nat):(ZP.info? 221).map (λi=>i.size)=ZX (cL f).length:=by rw [jU];exact Tryz.Uk
def Tr (w:ZU) (b r i:Nat) (C:Ck) (v:ZT) (wr:ZU):Prop:=
 ∃ k:Nat,v=Z7 Z9 k/\k<=16/\aF wr b (N6 C r i k)/\w.grownBy wr (ZX b)
theorem A8 (b r i:Nat) (C:Ck) (w:ZU) (f:aF w b C) (t:dY C) (g:r<8) (H:i<16) :
 ZS ZP 204 #[Z6 (ZX ⟨b,0,ZY⟩),Z7 Z9 r,Z7 Z9 i] w λe w'=>e=Z3 (Z0 #[])/\aF w' b ⟨dS C.m r i,C.told,C.count⟩/\w.grownBy w' (ZX b):=by
 have D:=f.at r i g H;have u:=t.byt r i;have M:(i:Int)<16:=by omega
 have N:(r:Int)<8:=by omega
 have l:=hide (show aF w b (N6 C r i 0) by unfold N6;rw [GL];exact f);have n:=hide (kK f r g);have y:Hid (∀ j,j<16->(cL (C.m r))[j]?=ZX (Z7 .u8 ((C.m r j:Nat):Int))):=hide (r9 (C.m r));have A:=hide (jU (C.m r));have B:=hide (Tryz.Ub (C.m r));generalize cL (C.m r)=cs at *;clear f;go_enter func204,ntmps204;go_wp2_with fail;refine (rT (C.m r i) u _).mono ?_;rintro e w1 ⟨rfl,J⟩;have G:=J.symm;subst G;go_wp2_with (refine wpList_load_mid rfl 221 (Z1 22) rfl b (r*16) rfl cs _ n.out underlying221 rfl B.out ?_);go_loopw [24] (λv wr=>Tr w b r i C v wr) (λv _=>16-(intOf v).toNat)
 case atStart=>exact ⟨0,rfl,XH _,l.out,World.grownBy.refl _ _⟩
 case round=>
  clear D l n;rename ZU=>wo;obtain ⟨k,rfl,O,c,h⟩:=hrel;by_cases d:k<16
  . have F:(k:Int)<16:=(by omega);have s:=y.out k d;have I:=A.out;have c1:=c.at r k g d;have L:=c.frozen (r*16+k);have K:=t.byt r k;have q:aF (wo.setCell ⟨b,r*16+k,ZY⟩ (Z7 .u8 ((gm (C.m r k) (gi (C.m r i)):Nat):Int))) b (N6 C r i (k+1)):=
     (c.set (r*16+k) (Z7 .u8 ((gm (C.m r k) (gi (C.m r i)):Nat):Int))).congr (λx _=>(MM C r i k g d x).symm)
    have o:=fp h (r*16+k) (Z7 .u8 ((gm (C.m r k) (gi (C.m r i)):Nat):Int));have a:=hide2 q o;clear q o c h;generalize (N6 C r i k).m r k=z at c1;have E:=GM cs k _ d s;clear s I;go_wp2;go_region_with ((go_at_call 92;refine (mn (C.m r k) (gi (C.m r i)) K (dh u) _).mono ?_;rintro e w' ⟨rfl,rfl⟩));all_goals
     clear E;go_wp2;go_roundw
     case rel=>exact ⟨k+1,by go_num,by omega,a.out.1,⟨a.out.2.os,a.out.2.tape,a.out.2.output,a.out.2.size,a.out.2.block⟩⟩
     case measure=>simp [intOf];omega
  . have p:k=16:=(by omega);rw [p] at c;have F:¬ (k:Int)<16:=(by omega);clear p;go_wp2;go_end0
    exact ⟨rfl,c.congr (λx _=>Pb C r i x),h⟩
theorem rm:∀ (vs:List ZT) (o:Nat) (w:ZU) (f:Nat->ZT),w.rowIs b t n f->(w.setCells b o vs).rowIs b t n (λx=>if o<=x/\x<o+vs.length then vs.getD (x-o) ZZ else f x)
 | [],o,w,f,h=>h.congr (λi _=>by rw [if_neg (by simp)])
 | v::vs,o,w,f,h=>(rm vs (o+1) _ _ (h.set o v)).congr (λi _=>by
  by_cases a:i=o
  . subst a;rw [if_neg (by omega),if_pos rfl,if_pos (by simp)];simp
  . by_cases c:o+1<=i/\i<o+1+vs.length
    . rw [if_pos c,if_pos (by simp;omega),show i-o=(i-(o+1))+1 by omega];simp
    . rw [if_neg c,if_neg a,if_neg (by simp;omega)])
def oT:∀ (vs:List ZT) (o:Nat) (w w':ZU),w.grownBy w' (ZX b)->w.grownBy (w'.setCells b o vs) (ZX b)
 | [],_,_,_,h=>h
 | v::vs,o,w,_,h=>oT vs (o+1) w _ (fp h o v)
def vG (m:Nat->Nat->Nat) (q:Nat) (f:Nat->Nat):Nat->Nat->Nat:=λk=>if k=q then f else m k
theorem zf (h:aF w b C) (q:Nat) (d:q<8) (f:Nat->Nat):aF (w.setCells b (q*16) (cL f)) b ⟨vG C.m q f,C.told,C.count⟩:=by
 refine (rm (cL f) (q*16) w (od C) h).congr (λx _=>?_);rw [jU];unfold od;by_cases c:q*16<=x/\x<q*16+16
 . rw [if_pos c,if_pos (by omega)];show (cL f).getD (x-q*16) ZZ=Z7 .u8 ((vG C.m q f (x/16) (x%16):Nat):Int);have e:x/16=q:=(by omega);unfold vG;rw [if_pos e,XT,r9 _ _ (by omega),show x-q*16=x%16 by omega];rfl
 . rw [if_neg c];by_cases a:x<128
   . rw [if_pos a,if_pos a];show _=Value.int .u8 ((vG C.m q f (x/16) (x%16):Nat):Int);unfold vG;rw [if_neg (by omega)]
   . rw [if_neg a,if_neg a]
def Ks (f:Nat->Nat):(cL f).toArray.all (λv=>v.oneCell')=ZW:=by
 rw [Array.all_eq_true];intro i a;have b:i<16:=by simpa [jU] using a
 have:=r9 f i b;have e:(cL f).toArray[i]?=ZX (Z7 .u8 ((f i:Nat):Int)):=by simpa using this
 rw [Array.getElem?_eq_getElem a] at e;simp only [Ym] at e;rw [e];rfl
def tz (h:aF w b C) (q:Nat) (c:q<8):w.there b (q*16) 16:=λj a=>⟨by rw [h.at q j c a];rfl,h.frozen _⟩
theorem wP (h:aF w b C) (n:Nat):aF (w.setCell ⟨b,129,ZY⟩ (Z7 Z9 (n:Int))) b ⟨C.m,C.told,n⟩:=
 (h.set 129 (Z7 Z9 (n:Int))).congr (λx d=>by
  unfold od;by_cases e:x=129
  . subst e;rw [if_pos rfl,if_neg (by decide),if_neg (by decide)]
  . rw [if_neg e];by_cases a:x<128
    . rw [if_pos a,if_pos a]
    . rw [if_neg a,if_neg a];by_cases c:x=128
      . rw [if_pos c,if_pos c]
      . omega)
theorem Kt (h:aF w b C) (n:Nat):aF (w.setCell ⟨b,128,ZY⟩ (Z7 Z9 (n:Int))) b ⟨C.m,n,C.count⟩:=
 (h.set 128 (Z7 Z9 (n:Int))).congr (λx c=>by
  unfold od;by_cases e:x=128
  . subst e;rw [if_pos rfl,if_neg (by decide),if_pos rfl]
  . rw [if_neg e];by_cases a:x<128
    . rw [if_pos a,if_pos a]
    . rw [if_neg a,if_neg a,if_neg e,if_neg e])
section
attribute [local go_sem] Oper.semAt_some
def ay.putAt (A:ay) (ds:List Nat) (b:Nat) (f:Nat->List Nat):ay:={ A with blk:=λi m=>if i∈ds/\m=b then f i else A.blk i m,bad:=λi m=>if i∈ds/\m=b then ZV else A.bad i m }
def wF (A:ay) (b:Nat) (f:Nat->List Nat):A.putAt [] b f=A:=by simp [ay.putAt]
theorem kD (A:ay) (ds:List Nat) (d b:Nat) (f:Nat->List Nat):((A.putAt ds b f).TK d b (f d)).TN d b ZV=A.putAt (ds++[d]) b f:=by
 unfold ay.putAt ay.TK ay.TN;congr 1
 . funext i m;simp only [XZ,X0];by_cases e:i=d/\m=b
   . obtain ⟨rfl,rfl⟩:=e;rw [if_pos ⟨rfl,rfl⟩,if_pos ⟨.inr rfl,rfl⟩]
   . rw [if_neg e];by_cases a:i∈ds/\m=b
     . rw [if_pos a,if_pos ⟨.inl a.1,a.2⟩]
     . rw [if_neg a,if_neg (λq=>q.1.elim (λh=>a ⟨h,q.2⟩) (λh=>e ⟨h,q.2⟩))]
 . funext i m;simp only [XZ,X0];by_cases e:i=d/\m=b
   . obtain ⟨rfl,rfl⟩:=e;rw [if_pos ⟨rfl,rfl⟩,if_pos ⟨.inr rfl,rfl⟩]
   . rw [if_neg e];by_cases a:i∈ds/\m=b
     . rw [if_pos a,if_pos ⟨.inl a.1,a.2⟩]
     . rw [if_neg a,if_neg (λq=>q.1.elim (λh=>a ⟨h,q.2⟩) (λh=>e ⟨h,q.2⟩))]
theorem ay.fit.putAt {A:ay} (h:A.fit) (ds:List Nat) (b:Nat) (f:Nat->List Nat) (a:∀ i,i∈ds->(f i).length=64/\∀ x∈f i,x<256):(A.putAt ds b f).fit:=by
 refine ⟨h.n,h.nb,λk m=>?_,λk m=>?_⟩
 . show (if k∈ds/\m=b then f k else A.blk k m).length=64;split
   . rename_i q;exact (a k q.1).1
   . exact h.len k m
 . show ∀ x∈(if k∈ds/\m=b then f k else A.blk k m),x<256;split
   . rename_i q;exact (a k q.1).2
   . exact h.byt k m
def aJ.keep (h:aJ w) (e:w'.heap[1]?=w.heap[1]?):aJ w':=λj a=>by
 rw [<- h j a];unfold World.cell?;rw [e]
def aJ.lt (h:aJ w):1<w.heap.size:=block_lt_of_cell (h 0 (by decide))
def bk.keep (h:bk w) (e:w'.heap[2]?=w.heap[2]?):bk w':=λj a=>by
 rw [<- h j a];unfold World.cell?;rw [e]
structure nF (w:ZU) (v p D L G ps ho:Nat) (A:ay) (F:bh):Prop where
 vol:bt w v p D L G ps ho
 arr:aq w p A F
 laid:bk w
 TQ:aJ w
 room:3<=w.heap.size
structure jT (F:bh) (p n v:Nat):Prop where
 v:¬ F.has p n v
 g:¬ F.has p n 2
 t:¬ F.has p n 1
def nF.below {A:ay} (h:nF w v p D L G ps ho A F) {B:Nat} (a:Below B w w') (b:w.heap.size<=B):nF w' v p D L G ps ho A F:=
 ⟨h.vol.keep (a.block _ (XO h.vol.lt b)),h.arr.below a b,h.laid.below a (XO h.laid.lt b),h.TQ.keep (a.block _ (XO h.TQ.lt b)),XL h.room a.size⟩
def nF.turn {A A':ay} (h:nF w v p D L G ps ho A F) (b:jT F p n v) (a:aa (F.has p n) w w') (c:aq w' p A' F):nF w' v p D L G ps ho A' F:=
 ⟨h.vol.keep (a.block _ h.vol.lt b.v),c,h.laid.keep (a.block _ h.laid.lt b.g),h.TQ.keep (a.block _ h.TQ.lt b.t),XL h.room a.size⟩
def AN {t8:Nat} {ty:TypeId} (f:fn.results=#[.cell t8 ty]) (c:a.defers=[{ target:=.collected D',args:=#[] }]) (h8:a.tmps.getD t8 ZZ=Z6 (ZX ⟨b,0,ZY⟩))
 (hl:∀ w,w.heap[b]?=Z.heap[b]?->(loadVar ty ⟨b,0,ZY⟩).run ZP w=.ok x w) (hK:Z.heap[D']?=ZX (.deferred (ZX []))) (hD:b≠D')
 (hR:R (Z3 x) (Z.putObj D' (.deferred ZY))):bodyPostM Fence.wide n ZP fn R .ret a Z:=by
 obtain ⟨g,h⟩:=a;simp only at c h8;subst c;refine ⟨by simp,.inl ⟨_,_,rfl,run_takeDeferred hK,?_⟩⟩;have d:=hl (Z.putObj D' (.deferred ZY)) (World.putObj_heap_other hD);refine ⟨x,?_,hR⟩;have e:g[t8]?.getD ZZ=Z6 (ZX ⟨b,0,ZY⟩):=by simpa using h8
 simp [results,f,asAddr,e,d]
theorem AO {s:Nat} (h:Boxed Z b 124 (Z7 Z8 s)) (w:ZU) (e:w.heap[b]?=Z.heap[b]?):(loadVar 124 ⟨b,0,ZY⟩).run ZP w=.ok (Z7 Z8 s) w:=by
 have a:w.cell? ⟨b,0,ZY⟩=ZX (Z7 Z8 s):=(show Boxed w b 124 (Z7 Z8 s) from e.trans h).cell;simp [go_sem,a]
end
theorem nG (h:bt w v p D L G ps ho) (k:D<=12) (n:L<=4) (l:G<=4) (j:D+L+G<=16):ZS ZP 123 #[Z6 (ZX ⟨v,0,ZY⟩)] w λe w'=>e=Z3 (Z7 Z8 ((2^(D+L+G)-1:Nat):Int))/\bW w w':=by
 obtain ⟨_,c1,g,i,_⟩:=h.cells;obtain ⟨m,d⟩:=nM (D+L+G);obtain ⟨q,a⟩:=nM (((2^m-1:Nat):Int));rw [d,a];have c:=hide a;clear a;go_enter func123,ntmps123;go_wp2_with fail;refine (ep (D:Int) (L:Int) (G:Int) w ⟨by omega,by omega⟩ ⟨by omega,by omega⟩ ⟨by omega,by omega⟩).mono ?_;rintro e f ⟨rfl,b⟩;rw [show ((D:Int)+(L:Int)+(G:Int))=(m:Int) by omega];have H:=hide b;clear b;go_wp2_with fail;refine (mu m (by omega) f).mono ?_;rw [c.out];rintro e o ⟨rfl,rfl⟩;go_wp2;go_ret;exact ⟨rfl,H.out⟩
def ay.TL (A:ay) (k:Nat):ay:={ A with reads:=λi=>if i<k then wrap64 (A.reads i+1) else A.reads i }
def AP (A:ay):A.TL 0=A:=by simp [ay.TL]
theorem AQ (A:ay) (k:Nat):(A.TL k).TI k (wrap64 ((A.TL k).reads k+1))=A.TL (k+1):=by
 unfold ay.TL ay.TI;congr 1;funext i;simp only;by_cases e:i=k
 . subst e;rw [if_pos rfl,if_neg (Nat.lt_irrefl i),if_pos (Nat.lt_succ_self i)]
 . rw [if_neg e];by_cases a:i<k
   . rw [if_pos a,if_pos (by omega)]
   . rw [if_neg a,if_neg (by omega)]
def ay.fit.TL {A:ay} (h:A.fit) (k:Nat):(A.TL k).fit:=⟨h.n,h.nb,h.len,h.byt⟩
def Tryz.UF:(ZP.info? 219).map (λi=>(i.zero,i.size,i.bytes))=ZX (ZX .nilIface,1,16):=by kernel_rfl
theorem vl (w:ZU) {ops:Array ZR} {rest:List ZR} {o:ZR} {a:Act} {Q:Exit->Act->ZU->Prop}
 (h:o.guard=ZY) (l c:ZQ) (e:o.op=Op.makeSlice 180 l c) (C:Int) (n:Nat) (i:a.eval l=Z7 Z9 C) (g:a.eval c=Z7 Z9 C) (f:C=(n:Int)) (j:n<=1000000)
 (hK:∀ w',w'.rowIs w.heap.size 219 n (λ_=>.nilIface)->bW w w'->w'.heap.size=w.heap.size+1->wpList ZP ops Q rest (a.put o.dst (Z5 (ZX ⟨w.heap.size,0,ZY⟩) n n)) w') :
 wpList ZP ops Q (o::rest) a w:=by
 refine wpList_plain h λK d=>?_;have b:=run_make_row' (P:=ZP) 180 219 .nilIface 16 underlying180 Tryz.UF rfl .i64 .i64 n (by omega) (by omega) w;subst f;unfold Oper.wp;simp [execOp,e,i,g,b,Result.andThen];exact d _ _ (hK _ (World.rowIs_made w _ n _) (bA _ _) (nblk_alloc _ _))
def Dw (r:aX):∃ a x,br r=.iface a x:=by cases r<;>exact ⟨_,_,rfl⟩
def Qi (r:Nat->aX) (k i:Nat):ZT:=if i<k then br (r i) else .nilIface
def Tc (w1:ZU) (g p N:Nat) (A:ay) (F:bh) (r:Nat->aX) (i:ZT) (wr:ZU):Prop:=∃ k:Nat,k<=N/\i=Z7 Z9 k/\aq wr p (A.TL k) F/\aa (λj=>j=g\/F.has p A.n j) w1 wr/\wr.rowIs g 219 N (Qi r k)
def OZ (w:ZU) (p:Nat) (A:ay) (F:bh) (r:Nat->aX) (e:Ending) (w':ZU):Prop:=∃ g,e=Z3 (Z5 (ZX ⟨g,0,ZY⟩) A.n A.n)/\w.heap.size<=g/\w'.rowIs g 219 A.n (λi=>br (r i))/\aq w' p (A.TL A.n) F/\aa (F.has p A.n) w w'
theorem vq {A:ay} (l:nF w v p D L G ps ho A F) (I:jT F p A.n v) (R:A.fit) (b:Nat) (hn:A.n=D+L+G) (hD:D<=12) (hL:L<=4) (hG:G<=4) (hb:b<A.nb) (hw:A.wait≠0) (hl:∀ d,A.lost d=ZV) (h8:∀ d,A.bad d b=ZV)
 (r:Nat->aX) (hr:∀ i,(r i).ok) (hm:∀ i,jc (r i)) (he:∀ i,i<A.n->A.blk i b=(r i).blk) :
 ZS ZP 94 #[Z6 (ZX ⟨v,0,ZY⟩),Z7 Z9 b] w λe w'=>OZ w p A F r e w':=by
 obtain ⟨_,c1,c2,c3,_⟩:=l.vol.cells;have O:((D:Int)+(L:Int)+(G:Int))=((A.n:Nat):Int):=by omega
 have ka:A.n<=1000:=R.n;go_enter func94,ntmps94;go_wp2_with fail;refine (ep (D:Int) (L:Int) (G:Int) w ⟨by omega,by omega⟩ ⟨by omega,by omega⟩ ⟨by omega,by omega⟩).mono ?_;rintro e a ⟨rfl,Z⟩;rw [O];clear O hn;simp only [];go_wp2_with (at_make;refine vl _ rfl (Z1 13) (Z1 13) rfl _ A.n rfl rfl rfl (by omega) ?_;intro B N hz kb);have s:bW w a:=Z;have c:bW w B:=s.trans (hz.mono s.size);have k6:w.heap.size<=a.heap.size:=s.size;have k0:¬ F.has p A.n a.heap.size:=λq=>by have:=l.arr.TH q;omega
 have m:=l.below c lR;have k7:v≠a.heap.size:=λe=>by have:=l.vol.lt;omega
 have k5:2≠a.heap.size:=λe=>by have:=l.laid.lt;omega
 have P:aq B p (A.TL 0) F:=by rw [AP];exact m.arr
 have W:B.rowIs a.heap.size 219 A.n (Qi r 0):=N.congr λi K=>by unfold Qi;rw [if_neg (by omega)]
 clear N Z s hz l c1 c2 c3;go_loopw [17] (λi wr=>Tc B a.heap.size p A.n A F r i wr) (λi _=>A.n-(intOf i).toNat)
 case atStart=>exact ⟨0,XH _,rfl,P,aa.refl _ _,W⟩
 case round=>
  clear P W;obtain ⟨k,hk,rfl,u,f,y⟩:=hrel;by_cases J:k<A.n
  . have X:bt wr v p D L G ps ho:=m.vol.keep (f.block _ m.vol.lt (λq=>q.elim k7 I.v));have S:bk wr:=m.laid.keep (f.block _ m.laid.lt (λq=>q.elim k5 I.g));have o:=sJ X u (R.TL k) k b J hb hw (hl k) (h8 k) (r k) (hr k) (hm k) (he k J) S I.g;rw [AQ] at o;obtain ⟨ty,x,Y⟩:=Dw (r k);rw [Y] at o;have H:=hide3 f y o;clear X S o u f y;go_wp2_with fail;refine H.out.2.2.mono ?_;rintro e w7 ⟨rfl,Q,E⟩;have t:w7.rowIs a.heap.size 219 A.n (Qi r k):=H.out.2.1.of_block (E.block a.heap.size H.out.2.1.lt k0);have cS:=t.cell (i:=k) J;have fS:=t.frozen k;have k9:((k:Nat):Int).toNat=k:=(by omega);have C:=hide3 Q (H.out.1.trans (E.mono λ_ _ q=>.inr q)) t;clear Q E H t;go_wp2;refine ⟨⟨k+1,by omega,by go_num,C.out.1.keep λj z=>blk_setCell_other _ _ _ _ (λe=>k0 (by have e':j=a.heap.size:=e;rwa [e'] at z)),C.out.2.1.trans (aa.setCell _ _ _ (.inl rfl)),(C.out.2.2.set k _).congr λi K=>?_⟩,by simp [intOf];omega⟩;unfold Qi;by_cases e:i=k
    . subst e;rw [if_pos rfl,if_pos (by omega),Y]
    . rw [if_neg e];by_cases M:i<k
      . rw [if_pos M,if_pos (by omega)]
      . rw [if_neg M,if_neg (by omega)]
  . have k8:k=A.n:=(by omega);subst k8;have U:aa (F.has p A.n) w wr:=(f.mono (T:=λj=>j=a.heap.size\/F.has p A.n j) λ_ _ q=>q) |> λh=>⟨h.os.trans c.os,h.tape.trans c.tape,h.output.trans c.output,XL c.size h.size,λj z hs=>(h.block j (XO z c.size) (λq=>q.elim (λe=>by omega) hs)).trans (c.block j z)⟩;have V:wr.rowIs a.heap.size 219 A.n (λi=>br (r i)):=y.congr λi K=>by unfold Qi;rw [if_pos K]
    have H:=hide3 u U V;clear u f U y V;go_wp2;go_ret;exact ⟨_,rfl,k6,H.out.2.2,H.out.1,H.out.2.1⟩
section
attribute [local go_sem] Oper.semAt_some
def Mc (w:ZU) (base g:Nat) (R:List (List Nat)):Prop:=base<=g/\g<w.heap.size/\∀ i (hi:i<R.length),∃ b off c,w.cell? ⟨g,i,ZY⟩=ZX (Z5 (ZX ⟨b,off,ZY⟩) 44 c)/\base<=b/\b<w.heap.size/\w.rangeAt b off (aH R[i])/\R[i].length=44/\∀ x∈R[i],x<256
def Mc.keep {R:List (List Nat)} (h:Mc w base g R) (f:w.heap.size<=w'.heap.size) (e:∀ k,base<=k->k<w.heap.size->w'.heap[k]?=w.heap[k]?):Mc w' base g R:=by
 obtain ⟨a,d,n⟩:=h;refine ⟨a,XO d f,λi o=>?_⟩;obtain ⟨b,off,c,q,l,m,r,s⟩:=n i o;exact ⟨b,off,c,(World.cell?_of_block (e g a d)).trans q,l,XO m f,λj v p=>(World.cell?_of_block (e b l m)).trans (r j v p),s⟩
noncomputable def SC:Array ZR:=((Tryz.f88.body.bind (mW · 3))).getD #[]
def QG:List (Op×Option Nat×List Nat):=[(Op.load 115 (Z1 4),ZX 13,[]),
 (Op.move (Z1 9),ZX 14,[]),
 (Op.load 3 (Z1 5),ZX 15,[]),
 (Op.load 95 (Z1 6),ZX 16,[]),
 (Op.move (Z1 9),ZX 17,[]),
 (Op.indexAddr 95 (Z1 16) (Z1 17),ZX 18,[3,4]),
 (Op.load 34 (Z1 18),ZX 19,[5]),
 (Op.sliceToArrayPointer 215 (Z1 19),ZX 20,[6]),
 (Op.load 215 (Z1 20),ZX 21,[7]),
 (Op.build 217 #[(0,Z1 21)],ZX 22,[8]),
 (Op.makeInterface 217 (Z1 22),ZX 23,[9]),
 (Op.call { callee:=Callee.value (Operand.func 130),args:=#[Z1 13,Z1 14,Z1 15,Z1 23],argTypes:=#[115,3,3,219] },ZX 24,[0,1,2,10]),
 (Op.binOp BinOp.neq 63 (Z1 24) (Operand.const Value.nilIface) 63,ZX 25,[11])]
def Gr:aN SC 13 26 QG:=bx (by kernel_rfl) (by kernel_rfl)
def yT (h:vs.length=12):∃ a b c d e f g i j k l m,vs=[a,b,c,d,e,f,g,i,j,k,l,m]:=by
 match vs,h with
 | [a,b,c,d,e,f,g,i,j,k,l,m],_=>exact ⟨a,b,c,d,e,f,g,i,j,k,l,m,rfl⟩
end
section
attribute [local go_sem] Oper.semAt_some
abbrev Ch (D:Nat):={ i:Nat // i<D }
def CC (g i:Nat):ZT:=Z5 (ZX ⟨g,i*44,ZY⟩) 44 44
def E9 (g:Nat) {D:Nat} (x:Ch D):Array ZT:=#[CC g x.1]
noncomputable def SD:Array ZR:=((Tryz.f193.body.bind (mW · 3))).getD #[]
def RM:List (Op×Option Nat×List Nat):=[(Op.load 3 (Z1 2),ZX 13,[]),
 (Op.load 34 (Z1 1),ZX 14,[]),
 (Op.move (Z1 4),ZX 15,[]),
 (Op.slice 34 (Z1 14) (ZX (Z1 15)) ZY ZY,ZX 16,[1,2]),
 (Op.call { callee:=Callee.builtin Builtin.len,args:=#[Z1 16],argTypes:=#[34] },ZX 17,[3]),
 (Op.call { callee:=Callee.builtin Builtin.min,args:=#[Z1 13,Z1 17],argTypes:=#[3,3] },ZX 18,[0,4]),
 (Op.assign (Z1 18),ZX 5,[5,0,1,2,3,4,5])]
def Gs:aN SD 5 19 RM:=bx (by kernel_rfl) (by kernel_rfl)
def RN (g D k:Nat):List ZT:=[Z7 Z9 44,Z5 (ZX ⟨g,0,ZY⟩) (D*44) (D*44),Z7 Z9 (k*44:Nat),Z5 (ZX ⟨g,k*44,ZY⟩) (D*44-k*44) (D*44-k*44),Z7 Z9 (D*44-k*44:Nat),Z7 Z9 44,Z7 Z9 44]
theorem yU {b1 b2:Nat} (E:SD=ops) (r:k<D) (B:w.cell? ⟨b1,0,ZY⟩=ZX (Z5 (ZX ⟨g,0,ZY⟩) (D*44) (D*44))) (C:w.cell? ⟨b2,0,ZY⟩=ZX (Z7 Z9 44)) (L:a.tmps.size=31)
 (y:a.eval (Z1 1)=Z6 (ZX ⟨b1,0,ZY⟩)) (z:a.eval (Z1 2)=Z6 (ZX ⟨b2,0,ZY⟩)) (A:a.eval (Z1 4)=Z7 Z9 (k*44:Nat))
 (F:Q .normal (Act.putFrom a 5 [Z7 Z9 44,a.eval (Z1 6),a.eval (Z1 7),a.eval (Z1 8),a.eval (Z1 9),a.eval (Z1 10),a.eval (Z1 11),a.eval (Z1 12),Z7 Z9 44,Z5 (ZX ⟨g,0,ZY⟩) (D*44) (D*44),Z7 Z9 (k*44:Nat),Z5 (ZX ⟨g,k*44,ZY⟩) (D*44-k*44) (D*44-k*44),Z7 Z9 (D*44-k*44:Nat),Z7 Z9 44]) w.drew) :
 (Code.region 3 ops ZW).wp ZP Q a w:=by
 subst E;refine cU (by kernel_rfl) Gs a w (by omega) (λi u _=>u=(RN g D k).getD i ZZ) (λ_ w'=>w'=w.drew) rfl ?_ ?_
 . intro i t;have c1:w.drew.cell? ⟨b1,0,ZY⟩=ZX (Z5 (ZX ⟨g,0,ZY⟩) (D*44) (D*44)):=B;have H:w.drew.cell? ⟨b2,0,ZY⟩=ZX (Z7 Z9 44):=C;match i,t with
   | 0,_=>
    intro o c w' Dn q ho f r m p j d b;subst d;have u0:c.eval (Z1 2)=Z6 (ZX ⟨b2,0,ZY⟩):=(r.slot 2 (by omega)).trans z;exact ae (v:=Z7 Z9 44) (by simp only [execOp,show o.op=Op.load 3 (Z1 2) from ho,u0];go_simp) f ⟨rfl,rfl,kq⟩
   | 1,_=>
    intro o c w' Dn q ho f r m p j d b;subst d;have u0:c.eval (Z1 1)=Z6 (ZX ⟨b1,0,ZY⟩):=(r.slot 1 (by omega)).trans y;exact ae (v:=Z5 (ZX ⟨g,0,ZY⟩) (D*44) (D*44)) (by simp only [execOp,show o.op=Op.load 34 (Z1 1) from ho,u0];go_simp) f ⟨rfl,rfl,kq⟩
   | 2,_=>exact λo c w' Dn q ho f r m p j d b=>ae (ag ho ((r.slot 4 (by omega)).trans A) w') f ⟨d,rfl,kq⟩
   | 3,_=>
    intro o c w' Dn q ho f s m p j d b;have u0:c.eval (Z1 14)=Z5 (ZX ⟨g,0,ZY⟩) (D*44) (D*44):=b 1 (j 1 (by decide));have u1:c.eval (Z1 15)=Z7 Z9 (k*44:Nat):=b 2 (j 2 (by decide));have J:k*44<D*44:=(by omega);have G:c.tmps[15]?.getD ZZ=Z7 Z9 (k*44:Nat):=(by simpa [Act.eval] using u1);have K:¬ D*44=k*44:=(by omega);refine ae (v:=Z5 (ZX ⟨g,k*44,ZY⟩) (D*44-k*44) (D*44-k*44)) ?_ f ⟨d,rfl,kq⟩;simp only [execOp,show o.op=Op.slice 34 (Z1 14) (ZX (Z1 15)) ZY ZY from ho,u0];generalize k*44=M at *;generalize D*44=x at *;go_simp;intro h;omega
   | 4,_=>
    intro o c w' Dn q ho f s m p j d b;have u0:c.eval (Z1 16)=Z5 (ZX ⟨g,k*44,ZY⟩) (D*44-k*44) (D*44-k*44):=b 3 (j 3 (by decide));refine ae (v:=Z7 Z9 (D*44-k*44:Nat)) ?_ f ⟨d,rfl,kq⟩;simp only [execOp,show o.op=Op.call { callee:=Callee.builtin Builtin.len,args:=#[Z1 16],argTypes:=#[34] } from ho,resolve,invoke,builtin,Sem.run_bind,Sem.run_pure,Result.andThen_ok,XP,XM,XN,u0];generalize D*44-k*44=x at *;go_simp
   | 5,_=>
    intro o c w' Dn q ho f s m p j d b;have u0:c.eval (Z1 13)=Z7 Z9 44:=b 0 (j 0 (by decide));have u1:c.eval (Z1 17)=Z7 Z9 (D*44-k*44:Nat):=b 4 (j 4 (by decide));refine ae (v:=Z7 Z9 44) ?_ f ⟨d,rfl,kq⟩;simp only [execOp,show o.op=Op.call { callee:=Callee.builtin Builtin.min,args:=#[Z1 13,Z1 17],argTypes:=#[3,3] } from ho,resolve,invoke,builtin,Sem.run_bind,Sem.run_pure,Result.andThen_ok,XP,XM,XN,u0,u1,jb];rw [if_neg (by omega)]
   | 6,_=>
    intro o c w' Dn q ho f s m p j d b;have u0:c.eval (Z1 18)=Z7 Z9 44:=b 5 (j 5 (by decide));exact ae (v:=Z7 Z9 44) (by simp [execOp,show o.op=Op.assign (Z1 18) from ho,u0]) f ⟨d,rfl,kq⟩
   | n+7,hn=>exact absurd hn (by show ¬ n+7<7;omega)
 . rintro c w' s l ⟨Dn,I,d⟩ b;subst d;have e:c=Act.putFrom a 5 [Z7 Z9 44,a.eval (Z1 6),a.eval (Z1 7),a.eval (Z1 8),a.eval (Z1 9),a.eval (Z1 10),a.eval (Z1 11),a.eval (Z1 12),Z7 Z9 44,Z5 (ZX ⟨g,0,ZY⟩) (D*44) (D*44),Z7 Z9 (k*44:Nat),Z5 (ZX ⟨g,k*44,ZY⟩) (D*44-k*44) (D*44-k*44),Z7 Z9 (D*44-k*44:Nat),Z7 Z9 44]:=s.out _ rfl (by omega) (λi t=>?_)
   . rw [e];exact F
   . match i,t with
     | 0,_=>exact b 6 (by decide)
     | 1,_=>exact l 6 (by decide)
     | 2,_=>exact l 7 (by decide)
     | 3,_=>exact l 8 (by decide)
     | 4,_=>exact l 9 (by decide)
     | 5,_=>exact l 10 (by decide)
     | 6,_=>exact l 11 (by decide)
     | 7,_=>exact l 12 (by decide)
     | 8,_=>exact b 0 (by decide)
     | 9,_=>exact b 1 (by decide)
     | 10,_=>exact b 2 (by decide)
     | 11,_=>exact b 3 (by decide)
     | 12,_=>exact b 4 (by decide)
     | 13,_=>exact b 5 (by decide)
     | n+14,hn=>exact absurd hn (by simp)
def SE (b1 b2:Nat) (W W':ZU):Prop:=W'.heap[b1]?=W.heap[b1]?/\W'.heap[b2]?=W.heap[b2]?
theorem Dx (n l b1 b2 g D:Nat) (N:D<=1000) (J m:List (Ch D)->ZU->Prop) (K:∀ pre W,J pre W->J pre W.drew)
 (L:∀ pre x W,J pre W->pre.length<D->YieldAt Fence.wide (n-1) ZP l (E9 g x) W λe a=>
  (e=Z3 (Z2 ZW)/\J (pre++[x]) a/\SE b1 b2 W a)\/(e=Z3 (Z2 ZV)/\m (pre++[x]) a))
 (W:ZU) (G:W.cell? ⟨b1,0,ZY⟩=ZX (Z5 (ZX ⟨g,0,ZY⟩) (D*44) (D*44))) (I:W.cell? ⟨b2,0,ZY⟩=ZX (Z7 Z9 44)) (F:J [] W) :
 CallsIn Fence.wide n ZP 193 #[.func (.yield l) #[] #[],Z6 (ZX ⟨b1,0,ZY⟩),Z6 (ZX ⟨b2,0,ZY⟩)] W λe a=>(∃ v,e=Z3 v) /\
  ((∃ B,B.map (·.1)=XG D/\J B a)\/(∃ pre,pre.map (·.1)<+:XG D/\m pre a)):=by
 refine callsIn_of_wp func193 rfl trivial ?_ rfl;simp only [ntmps193,Yo,X1,Yp,Nat.reduceAdd,Nat.reduceSub,X4,X5,X6,Yb,XS,X7];gi_wp2;gi_loopw [4] (λp wr=>∃ (pre:List (Ch D)) (k:Nat),p=Z7 Z9 (k*44:Nat)/\k<=D/\pre.map (·.1)=XG k/\J pre wr/\wr.cell? ⟨b1,0,ZY⟩=ZX (Z5 (ZX ⟨g,0,ZY⟩) (D*44) (D*44))/\wr.cell? ⟨b2,0,ZY⟩=ZX (Z7 Z9 44))
  (λp _=>D*44-(intOf p).toNat)
 case atStart=>
  exact ⟨[],0,rfl,XH _,rfl,F,G,I⟩
 case round=>
  obtain ⟨pre,k,rfl,U,b,c,c1,q⟩:=hrel;have t:pre.length=k:=by have:=congrArg List.length b;simpa using this
  by_cases d:k<D
  . have V:((k*44:Nat):Int)<((D*44:Nat):Int):=(by omega);have i:wr.drew.cell? ⟨b1,0,ZY⟩=ZX (Z5 (ZX ⟨g,0,ZY⟩) (D*44) (D*44)):=c1;have j:wr.drew.cell? ⟨b2,0,ZY⟩=ZX (Z7 Z9 44):=q;obtain ⟨fn,tmps,assign,body,A,z⟩:=L pre ⟨k,d⟩ wr.drew (K _ _ c) (by omega);unfold E9 CC at A;simp only at A;have H:=hide4 z c b t;clear z c b t;gi_wp2;refine wpIn_wide.2 (yU (by kernel_rfl) d c1 q rfl rfl rfl rfl ?_);rename_i hK
    refine hK _ _ ?_;clear hK;simp only [Act.putFrom,Act.put,X8,X9,Ya];have O:wrap64 (((k*44:Nat):Int)+44)=((k*44+44:Nat):Int):=(by unfold wrap64;omega);have P:k*44+44-k*44=44:=(by omega);have Q:k*44+44<=D*44:=(by omega);have R:¬ ((D*44:Nat):Int)<((k*44+44:Nat):Int):=(by omega);have S:¬ ((k*44+44:Nat):Int)<((k*44:Nat):Int):=(by omega);have T:¬ k*44+44=k*44:=(by omega);generalize y:k*44=M at *;generalize ha:D*44=r at *;generalize hj:M+44=E at *;gi_wp2;refine ⟨λh=>(by cases h),H.out.1.mono ?_⟩;rintro e o (⟨rfl,u,w⟩|⟨rfl,s⟩)
    . have d1:o.cell? ⟨b1,0,ZY⟩=ZX (Z5 (ZX ⟨g,0,ZY⟩) r r):=(World.cell?_of_block w.1).trans i;have C:o.cell? ⟨b2,0,ZY⟩=ZX (Z7 Z9 44):=(World.cell?_of_block w.2).trans j;have f:=hide u;clear u;gi_wp2;go_roundw
      case rel=>exact ⟨pre++[⟨k,d⟩],k+1,by rw [show (k+1)*44=E by omega];congr 1;omega,by omega,by rw [XQ,H.out.2.2.1,Yq];rfl,f.out,by rw [ha];exact d1,C⟩
      case measure=>simp only [intOf];omega
    . have f:=hide s;clear s;gi_wp2;refine bodyPost_ret (results_none rfl _ _ _) rfl ?_;refine ⟨⟨_,rfl⟩,.inr ⟨pre++[⟨k,d⟩],?_,f.out⟩⟩;rw [XQ,H.out.2.2.1];refine ⟨(XG D).drop (k+1),?_⟩;show XG k++[k]++_=_;rw [<- Yq];have:XG (k+1)=(XG D).take (k+1):=by rw [List.take_range,Nat.min_eq_left (by omega)]
      rw [this,List.take_append_drop]
  . have y:k=D:=(by omega);subst y;gi_wp2;go_end0
    exact ⟨⟨_,rfl⟩,.inl ⟨pre,b,c⟩⟩
def yV (n b1 b2 g D:Nat) (k:D<=1000) (w:ZU) (i:b1<w.heap.size) (j:b2<w.heap.size) (d:w.cell? ⟨b1,0,ZY⟩=ZX (Z5 (ZX ⟨g,0,ZY⟩) (D*44) (D*44))) (f:w.cell? ⟨b2,0,ZY⟩=ZX (Z7 Z9 44)) :
 SeqStopsK Fence.wide n ZP 193 #[Z6 (ZX ⟨b1,0,ZY⟩),Z6 (ZX ⟨b2,0,ZY⟩)] (E9 g (D:=D)) (SE b1 b2) (λq=>q.map (·.1)=XG D) (λpre=>pre.map (·.1)<+:XG D) D w:=λl J b W a m _ o c=>
 Dx n l b1 b2 g D k J b (λpre X h=>m pre X X.drew ZY h ⟨rfl,rfl,rfl,XI _,λ_ _ _=>rfl⟩ (λr e=>by cases e)) o W ((a.cell (p:=⟨b1,0,ZY⟩) i).trans d) ((a.cell (p:=⟨b2,0,ZY⟩) j).trans f) c
theorem Gt (g D:Nat) (w:ZU) :
 ZS ZP 183 #[Z5 (ZX ⟨g,0,ZY⟩) (D*44) (D*44),Z7 Z9 44] w λe w'=>e=Z3 (.func (.func 193) #[] #[Z6 (ZX ⟨w.heap.size,0,ZY⟩),Z6 (ZX ⟨w.heap.size+1,0,ZY⟩)])/\w'=(w.alloc (Z4 #[Z5 (ZX ⟨g,0,ZY⟩) (D*44) (D*44)] 34)).alloc (Z4 #[Z7 Z9 44] 3):=by
 generalize D*44=a;have b:∀ (fn:Fn) (first cap:Array ZT) (w:ZU),(Instr.makeFunc fn first cap).run ZP w=.ok (.func fn first cap) w:=λ_ _ _ _=>rfl;go_enter func183,ntmps183;go_wp2;go_ret;exact ⟨rfl,rfl⟩
end
section
open Go.Extern.Stop Go.Stop Go.Extern
def Tryz.U4 (t:Addr) (w:ZU):(ReflectliteValue.unpack (.iface 94 (Z6 (ZX t)))).run ZP w
 = .ok (.agg #[Z6 (ZX ⟨3,94,ZY⟩),Z6 (ZX ⟨w.heap.size,0,ZY⟩),Z7 Z8 150]) (w.alloc (Z4 #[Z6 (ZX t)] 94)):=by kernel_rfl
def Tryz.VZ (a:Addr) (w:ZU):(ReflectliteValue.methodAny (ReflectliteValue.valueError "reflectlite.Value.Type" 0) (λt _ _ _=>ReflectliteType.toType t) #[.agg #[Z6 (ZX ⟨3,94,ZY⟩),Z6 (ZX a),Z7 Z8 150]]).run ZP w
 = .ok (.iface 148 (.agg #[Z6 (ZX ⟨3,94,ZY⟩)])) w:=by kernel_rfl
def Tryz.UI (h:ZT) (w:ZU):(XV 461 148 (.agg #[h]) "Kind").run ZP w=.ok (229,h) w:=by kernel_rfl
def Tryz.VW (w:ZU):((ReflectliteType.abiMethod λt=>(λa:Nat=>Value.int IntKind.u8 (a:Int)) <$> Rtype.kind t) #[Z6 (ZX ⟨3,94,ZY⟩)]).run ZP w=.ok (Z7 .u8 22) w:=by kernel_rfl
def Tryz.VV (w:ZU):((ReflectliteType.abiMethod λt=>(λa:Nat=>Value.int IntKind.u8 (a:Int)) <$> Rtype.kind t) #[Z6 (ZX ⟨3,66,ZY⟩)]).run ZP w=.ok (Z7 .u8 2) w:=by kernel_rfl
def Tryz.Ve (a:Addr) (w:ZU):(ReflectliteValue.parts (.agg #[Z6 (ZX ⟨3,94,ZY⟩),Z6 (ZX a),Z7 Z8 150])).run ZP w=.ok (ZX (94,a,150)) w:=by kernel_rfl
theorem Tryz.VN (a p:Addr) (W:ZU) (b:W.cell? a=ZX (Z6 (ZX p))) :
 (ReflectliteValue.method (ReflectliteValue.valueError "reflectlite.Value.IsNil" 0) ReflectliteValue.isNil #[.agg #[Z6 (ZX ⟨3,94,ZY⟩),Z6 (ZX a),Z7 Z8 150]]).run ZP W=.ok (Z2 ZV) W:=by
 refine X2 (congrArg (λz=>Sem.run ZP z W) (show ReflectliteValue.method _ _ #[.agg #[Z6 (ZX ⟨3,94,ZY⟩),Z6 (ZX a),Z7 Z8 150]]=(ReflectliteValue.parts (.agg #[Z6 (ZX ⟨3,94,ZY⟩),Z6 (ZX a),Z7 Z8 150]) >>= _) from rfl)) ?_;simp only [Sem.run_bind,Tryz.Ve,Result.andThen];simp [ReflectliteValue.isNil,loadVar,isAgg,underlying,underlying94,b,Result.andThen]
def Tryz.UH (h:ZT) (w:ZU):(XV 461 148 (.agg #[h]) "Elem").run ZP w=.ok (242,.agg #[h]) w:=by kernel_rfl
def Tryz.T8 (h:ZT) (w:ZU):(XV 461 148 (.agg #[h]) "Implements").run ZP w=.ok (243,.agg #[h]) w:=by kernel_rfl
def Tryz.TZ (h:ZT) (w:ZU):(XV 461 148 (.agg #[h]) "AssignableTo").run ZP w=.ok (240,.agg #[h]) w:=by kernel_rfl
def Tryz.VY (w:ZU):(ReflectliteType.method ReflectliteType.elem #[.agg #[Z6 (ZX ⟨3,94,ZY⟩)]]).run ZP w=.ok (.iface 148 (.agg #[Z6 (ZX ⟨3,66,ZY⟩)])) w:=by kernel_rfl
def Tryz.Ut (w:ZU):(ReflectliteType.relation "Implements" ReflectliteType.implements_ #[.agg #[Z6 (ZX ⟨3,66,ZY⟩)],.iface 148 (.agg #[Z6 (ZX ⟨3,63,ZY⟩)])]).run ZP w=.ok (Z2 ZW) w:=by kernel_rfl
def Tryz.Ur (v:ZT) (w:ZU):(ReflectliteType.typeOf #[.iface 66 v]).run ZP w=.ok (.iface 148 (.agg #[Z6 (ZX ⟨3,66,ZY⟩)])) w:=by kernel_rfl
def Tryz.Uw (w:ZU):(ReflectliteType.relation "AssignableTo" ReflectliteType.assignableTo #[.agg #[Z6 (ZX ⟨3,66,ZY⟩)],.iface 148 (.agg #[Z6 (ZX ⟨3,66,ZY⟩)])]).run ZP w=.ok (Z2 ZW) w:=by kernel_rfl
def Tryz.Vf (x:Int) (w:ZU):(ReflectliteValue.unpack (.iface 66 (Z7 Z9 x))).run ZP w
 = .ok (.agg #[Z6 (ZX ⟨3,66,ZY⟩),Z6 (ZX ⟨w.heap.size,0,ZY⟩),Z7 Z8 130]) (w.alloc (Z4 #[Z7 Z9 x] 66)):=by kernel_rfl
def Tryz.Vs (w:ZU):(Rtype.elem? 94).run ZP w=.ok (ZX 66) w:=by kernel_rfl
def Tryz.Wm (p:Addr) (w:ZU):(ReflectliteValue.mk 66 p ReflectliteValue.flagAddr).run ZP w=.ok (.agg #[Z6 (ZX ⟨3,66,ZY⟩),Z6 (ZX p),Z7 Z8 386]) w:=by kernel_rfl
theorem Tryz.VM (a p:Addr) (W:ZU) (b:W.cell? a=ZX (Z6 (ZX p))) :
 (ReflectliteValue.method (ReflectliteValue.valueError "reflectlite.Value.Elem" 0) ReflectliteValue.elem #[.agg #[Z6 (ZX ⟨3,94,ZY⟩),Z6 (ZX a),Z7 Z8 150]]).run ZP W
  = .ok (.agg #[Z6 (ZX ⟨3,66,ZY⟩),Z6 (ZX p),Z7 Z8 386]) W:=by
 refine X2 (congrArg (λz=>Sem.run ZP z W) (show ReflectliteValue.method _ _ #[.agg #[Z6 (ZX ⟨3,94,ZY⟩),Z6 (ZX a),Z7 Z8 150]]=(ReflectliteValue.parts (.agg #[Z6 (ZX ⟨3,94,ZY⟩),Z6 (ZX a),Z7 Z8 150]) >>= _) from rfl)) ?_;simp only [Sem.run_bind,Tryz.Ve,Result.andThen];simp [ReflectliteValue.elem,loadVar,isAgg,underlying,underlying94,b,Result.andThen,Tryz.Vs,Tryz.Wm]
def Tryz.Vo (a:Addr) (w:ZU):(ReflectliteValue.parts (.agg #[Z6 (ZX ⟨3,66,ZY⟩),Z6 (ZX a),Z7 Z8 386])).run ZP w=.ok (ZX (66,a,386)) w:=by kernel_rfl
def Tryz.VK (a:Addr) (w:ZU):(ReflectliteValue.parts (.agg #[Z6 (ZX ⟨3,66,ZY⟩),Z6 (ZX a),Z7 Z8 130])).run ZP w=.ok (ZX (66,a,130)) w:=by kernel_rfl
def Tryz.Vu (w:ZU):(Rtype.directlyAssignable 66 66).run ZP w=.ok ZW w:=by kernel_rfl
theorem Tryz.V6 (a b:Addr) (x:Int) (old:ZT) (W:ZU) (c:W.cell? b=ZX (Z7 Z9 x)) (e:W.cell? a=ZX old) (d:W.frozen? a=ZV) :
 (ReflectliteValue.set #[.agg #[Z6 (ZX ⟨3,66,ZY⟩),Z6 (ZX a),Z7 Z8 386],.agg #[Z6 (ZX ⟨3,66,ZY⟩),Z6 (ZX b),Z7 Z8 130]]).run ZP W
  = .ok (Z0 #[]) (W.setCell a (Z7 Z9 x)):=by
 refine X2 (congrArg (λz=>Sem.run ZP z W) (show ReflectliteValue.set #[.agg #[Z6 (ZX ⟨3,66,ZY⟩),Z6 (ZX a),Z7 Z8 386],.agg #[Z6 (ZX ⟨3,66,ZY⟩),Z6 (ZX b),Z7 Z8 130]]=(ReflectliteValue.parts (.agg #[Z6 (ZX ⟨3,66,ZY⟩),Z6 (ZX a),Z7 Z8 386]) >>= λp=>ReflectliteValue.parts (.agg #[Z6 (ZX ⟨3,66,ZY⟩),Z6 (ZX b),Z7 Z8 130]) >>= (_:_->Sem ZT)) from rfl)) ?_;simp only [Sem.run_bind,Tryz.Vo,Tryz.VK,Result.andThen];simp [ReflectliteValue.flagAddr,loadVar,isAgg,underlying,underlying66,c,Result.andThen,Tryz.Vu,storeVar,Value.cells,storeCells,Addr.add];rw [run_store ZP W a _ _ (by rfl)];simp [e,d]
theorem OS (x:Int) (t:Addr) (old:ZT) (w:ZU) (c:w.cell? ⟨0,0,ZY⟩=ZX (.iface 148 (.agg #[Z6 (ZX ⟨3,63,ZY⟩)]))) (a:w.cell? t=ZX old) (f:w.frozen? t=ZV) :
 ZS ZP 36 #[.iface 66 (Z7 Z9 x),.iface 94 (Z6 (ZX t))] w λd w'=>d=Z3 (Z2 ZW)/\w'=((((w.alloc (Z4 #[Z6 (ZX t)] 94)).alloc (Z4 #[Z6 (ZX ⟨3,94,ZY⟩),Z6 (ZX ⟨w.heap.size,0,ZY⟩),Z7 Z8 150] 106)).alloc (Z4 #[Z6 (ZX ⟨3,94,ZY⟩),Z6 (ZX ⟨w.heap.size,0,ZY⟩),Z7 Z8 150] 106)).alloc (Z4 #[Z7 Z9 x] 66)).setCell t (Z7 Z9 x):=by
 have o := @run_callFunc_extern ZP 49 _ (λargs=>ReflectliteValue.unpack (args.getD 0 (Z0 #[]))) func49 (by kernel_rfl) (by kernel_rfl) (by kernel_rfl) (by kernel_rfl);have p := @run_callFunc_extern ZP 50 _ (ReflectliteValue.methodAny (ReflectliteValue.valueError "reflectlite.Value.Type" 0) (λt _ _ _=>ReflectliteType.toType t)) func50 (by kernel_rfl) (by kernel_rfl) (by kernel_rfl) (by kernel_rfl);have q := @run_callFunc_extern ZP 51 _ (ReflectliteValue.method (ReflectliteValue.valueError "reflectlite.Value.IsNil" 0) ReflectliteValue.isNil) func51 (by kernel_rfl) (by kernel_rfl) (by kernel_rfl) (by kernel_rfl);have u := @run_callFunc_extern ZP 229 _ (ReflectliteType.abiMethod λt=>do pure (Z7 .u8 (<- Rtype.kind t))) func229 (by kernel_rfl) (by kernel_rfl) (by kernel_rfl) (by kernel_rfl);have y := @run_callFunc_extern ZP 242 _ (ReflectliteType.method ReflectliteType.elem) func242 (by kernel_rfl) (by kernel_rfl) (by kernel_rfl) (by kernel_rfl);have z := @run_callFunc_extern ZP 243 _ (ReflectliteType.relation "Implements" ReflectliteType.implements_) func243 (by kernel_rfl) (by kernel_rfl) (by kernel_rfl) (by kernel_rfl);have n := @run_callFunc_extern ZP 78 _ ReflectliteType.typeOf func78 (by kernel_rfl) (by kernel_rfl) (by kernel_rfl) (by kernel_rfl);have v := @run_callFunc_extern ZP 240 _ (ReflectliteType.relation "AssignableTo" ReflectliteType.assignableTo) func240 (by kernel_rfl) (by kernel_rfl) (by kernel_rfl) (by kernel_rfl);have r := @run_callFunc_extern ZP 79 _ (ReflectliteValue.method (ReflectliteValue.valueError "reflectlite.Value.Elem" 0) ReflectliteValue.elem) func79 (by kernel_rfl) (by kernel_rfl) (by kernel_rfl) (by kernel_rfl);have s := @run_callFunc_extern ZP 80 _ ReflectliteValue.set func80 (by kernel_rfl) (by kernel_rfl) (by kernel_rfl) (by kernel_rfl);have J:=Tryz.Ur;have E:=Tryz.TZ;have i:=Tryz.Uw;have K:=Tryz.Vf;have l:=Tryz.U4;have m:=Tryz.VZ;have H:=Tryz.UI;have F:=Tryz.UH;have G:=Tryz.T8;have D:=Tryz.VW;have C:=Tryz.VV;have j:=Tryz.VY;have B:=Tryz.Ut;have I:=Tryz.VN ⟨w.heap.size,0,ZY⟩ t ((w.alloc (Z4 #[Z6 (ZX t)] 94)).alloc (Z4 #[Z6 (ZX ⟨3,94,ZY⟩),Z6 (ZX ⟨w.heap.size,0,ZY⟩),Z7 Z8 150] 106)) (by simp);have g:0<w.heap.size:=by
  rcases Yr w.heap.size with e|h
  . simp [World.cell?,e] at c
  . exact h
 have A:((w.alloc (Z4 #[Z6 (ZX t)] 94)).alloc (Z4 #[Z6 (ZX ⟨3,94,ZY⟩),Z6 (ZX ⟨w.heap.size,0,ZY⟩),Z7 Z8 150] 106)).cell? ⟨0,0,ZY⟩=ZX (.iface 148 (.agg #[Z6 (ZX ⟨3,63,ZY⟩)])):=by
  rw [World.cell?_alloc_lt _ _ ⟨0,0,ZY⟩ (by simp),World.cell?_alloc_lt _ _ ⟨0,0,ZY⟩ g];exact c
 have b:t.block<w.heap.size:=by
  rcases Nat.lt_or_ge t.block w.heap.size with h|h
  . exact h
  . simp [World.cell?,Array.getElem?_eq_none h] at a
 have k:=Tryz.VM ⟨w.heap.size,0,ZY⟩ t (((w.alloc (Z4 #[Z6 (ZX t)] 94)).alloc (Z4 #[Z6 (ZX ⟨3,94,ZY⟩),Z6 (ZX ⟨w.heap.size,0,ZY⟩),Z7 Z8 150] 106)).alloc (Z4 #[Z6 (ZX ⟨3,94,ZY⟩),Z6 (ZX ⟨w.heap.size,0,ZY⟩),Z7 Z8 150] 106)) (by rw [World.cell?_alloc_lt _ _ ⟨w.heap.size,0,ZY⟩ (by simp;omega)];simp);have st:=Tryz.V6 t ⟨w.heap.size+1+1+1,0,ZY⟩ x old ((((w.alloc (Z4 #[Z6 (ZX t)] 94)).alloc (Z4 #[Z6 (ZX ⟨3,94,ZY⟩),Z6 (ZX ⟨w.heap.size,0,ZY⟩),Z7 Z8 150] 106)).alloc (Z4 #[Z6 (ZX ⟨3,94,ZY⟩),Z6 (ZX ⟨w.heap.size,0,ZY⟩),Z7 Z8 150] 106)).alloc (Z4 #[Z7 Z9 x] 66))
  (by rw [World.cell?_alloc_at _ _ _ _ (by simp)];rfl)
  (by rw [World.cell?_alloc_lt _ _ t (by simp;omega),World.cell?_alloc_lt _ _ t (by simp;omega),World.cell?_alloc_lt _ _ t (by simp;omega),World.cell?_alloc_lt _ _ t b];exact a)
  (by rw [World.frozen?_alloc_old _ _ t (by simp;omega),World.frozen?_alloc_old _ _ t (by simp;omega),World.frozen?_alloc_old _ _ t (by simp;omega),World.frozen?_alloc_old _ _ t (Nat.ne_of_lt b)];exact f)
 go_enter func36,ntmps36;go_wp2;refine wp_loop_rounds 1 ?_;rw [rounds_succ];go_wp2;go_ret;exact ⟨rfl,rfl⟩
theorem sY (w:ZU) :
 ZS ZP 18 #[.nilIface] w λe w'=>e=Z3 (Z7 Z9 0)/\bW w w':=by
 go_enter func18,ntmps18;go_wp2;go_ret;exact ⟨rfl,bA _ _⟩
theorem Du (x:Int) (w:ZU) (a:w.cell? ⟨0,0,ZY⟩=ZX (.iface 148 (.agg #[Z6 (ZX ⟨3,63,ZY⟩)]))) :
 ZS ZP 18 #[.iface 66 (Z7 Z9 x)] w λe w'=>e=Z3 (Z7 Z9 x)/\bW w w':=by
 have d:0<w.heap.size:=by
  rcases Yr w.heap.size with b|h
  . simp [World.cell?,b] at a
  . exact h
 have c:(w.alloc (Z4 #[Z7 Z9 0] 66)).cell? ⟨0,0,ZY⟩=ZX (.iface 148 (.agg #[Z6 (ZX ⟨3,63,ZY⟩)])):=by
  rw [World.cell?_alloc_lt _ _ ⟨0,0,ZY⟩ d];exact a
 go_enter func18,ntmps18;go_wp2_with (go_at_call 36;refine (OS x ⟨w.heap.size,0,ZY⟩ (Z7 Z9 0) _ c (by simp) (by simp)).mono ?_;rintro e w' ⟨rfl,rfl⟩);go_ret;refine ⟨rfl,?_⟩;repeat (first|exact Below.refl _ _|refine Below.setCell ?_ (by simp) _|refine Below.alloc ?_ (by (try simp only [nblk_alloc]);omega) _)
theorem oI (x:Int) (w:ZU) :
 ZS ZP 20 #[Z7 Z9 x] w λe w'=>e=Z3 (Z7 Z9 x)/\w'=w:=by
 go_enter func20,ntmps20;go_wp2;go_ret;exact ⟨rfl,rfl⟩
end
def Tryz.U3:(ZP.info? 66).map (λi=>i.comparable)=ZX ZW:=by kernel_rfl
def wG (n m:Int) (w:ZU):(binOp .eql 63 (.iface 66 (Z7 Z9 n)) (.iface 66 (Z7 Z9 m))).run ZP w=.ok (Z2 (n==m)) w:=by
 obtain ⟨i,f,c⟩:=Yn.1 Tryz.U3;have a:∀ d,(Op.equalIn (d+1) 66 (Z7 Z9 n) (Z7 Z9 m)).run ZP w=.ok (n==m) w:=λd=>run_equalIn_int (w:=w) d 66 .i64 .i64 n m underlying66;have b:∀ d,(Op.equalIn (d+1+1) 63 (.iface 66 (Z7 Z9 n)) (.iface 66 (Z7 Z9 m))).run ZP w=.ok (n==m) w:=λd=>by
  rw [Op.equalIn];simp [Sem.run_bind,run_underlying underlying63,Result.andThen_ok,typeInfo,f,c,a d]
 have e:=b 9998;simp only [binOp];simp [Op.equal,Op.maxDepth,e]
theorem Gu (n:Int) (a:n≠13) (w:ZU):ZS ZP 107 #[.iface 66 (Z7 Z9 n),.iface 66 (Z7 Z9 13),Z2 ZW] w λe w'=>e=Z3 (Z2 ZV)/\w'=w:=by
 have f:∀ w,(binOp .eql 63 (.iface 66 (Z7 Z9 n)) (.iface 66 (Z7 Z9 13))).run ZP w=.ok (Z2 ZV) w:=λw=>by rw [wG];simp [a]
 have b:∀ w:ZU,(Instr.typeAssert (.iface 66 (Z7 Z9 n)) 63 239 ZW).run ZP w=.ok (Z0 #[.nilIface,Z2 ZV]) w:=λw=>run_typeAssert_lacksB underlying239 (by kernel_rfl) (by kernel_rfl) _ _ w;have c:∀ w:ZU,(Instr.typeAssert (.iface 66 (Z7 Z9 n)) 63 156 ZW).run ZP w=.ok (Z0 #[.nilIface,Z2 ZV]) w:=λw=>run_typeAssert_lacksB underlying156 (by kernel_rfl) (by kernel_rfl) _ _ w;have d:∀ w:ZU,(Instr.typeAssert (.iface 66 (Z7 Z9 n)) 63 157 ZW).run ZP w=.ok (Z0 #[.nilIface,Z2 ZV]) w:=λw=>run_typeAssert_lacksB underlying157 (by kernel_rfl) (by kernel_rfl) _ _ w;go_enter func107,ntmps107;go_wp2;refine wp_loop_rounds 1 ?_;rw [rounds_succ];go_wp2;go_ret;exact ⟨rfl,rfl⟩
theorem AR (n:Int) (a:n≠13) (w:ZU):ZS ZP 72 #[.iface 66 (Z7 Z9 n),.iface 66 (Z7 Z9 13)] w λe w'=>e=Z3 (Z2 ZV)/\w'=w:=by
 have d:=Tryz.Ur (Z7 Z9 13);have b := @run_callFunc_extern ZP 78 _ Extern.ReflectliteType.typeOf func78 (by kernel_rfl) (by kernel_rfl) (by kernel_rfl) (by kernel_rfl);have f:∀ (h:ZT) (w:ZU),(XV 461 148 (.agg #[h]) "Comparable").run ZP w=.ok (241,.agg #[h]) w:=λh w=>by kernel_rfl
 have c:∀ w:ZU,(callFunc 241 #[.agg #[Z6 (ZX ⟨3,66,ZY⟩)]]).run ZP w=.ok (.value (Z2 ZW)) w:=λw=>by kernel_rfl
 go_enter func72,ntmps72;go_wp2_with fail;refine (Gu n a w).mono ?_;rintro e w' ⟨rfl,rfl⟩;go_wp2;go_ret;exact ⟨rfl,rfl⟩
def mR (v D L G t f n:Nat) (pg ob:ZT) (off:Bool):Array ZT:=#[Z6 (ZX ⟨v,0,ZY⟩),Z7 Z9 D,Z7 Z9 L,Z7 Z9 G,Z7 Z8 t,Z7 Z9 f,Z7 Z9 n,pg,ob,Z2 off]
def bM (w:ZU) (a v D L G t f n:Nat) (pg ob:ZT) (off:Bool):Prop:=w.heap[a]?=ZX (Z4 (mR v D L G t f n pg ob off) 121 (0,0))
def noCut (v:ZT):Prop:=v=.nilIface\/∃ n:Int,n≠13/\v=.iface 66 (Z7 Z9 n)
def noCut.isErr {v:ZT} (h:noCut v):isErr v:=by
 rcases h with h|⟨n,_,h⟩
 . exact .inl h
 . exact .inr ⟨_,_,h⟩
theorem vv (k:FuncId) (first cap:Array ZT) (F:∀ (args:Array ZT) (w:ZU),(callFunc k args).run ZP w=.ok (.enter k args) w) (w:ZU) (a:Nat) (cs:Array ZT) (r:w.heap[a]?=ZX (Z4 cs 121 (0,0))) (E:cs[9]?=ZX (Z2 ZV)) (R:ZU->ZT->ZU->Prop)
 (u:∀ w1,bW w w1->w1.heap.size=w.heap.size+1->ZS ZP k (first++cap) w1 λe w2=>∃ v,e=Z3 v/\noCut v/\R w1 v w2/\w2.heap[w.heap.size]?=w1.heap[w.heap.size]?/\∃ b,w2.heap[a]?=ZX (Z4 b 121 (0,0))/\b[9]?=ZX (Z2 ZV)) :
 ZS ZP 46 #[Z6 (ZX ⟨a,0,ZY⟩),.func (.func k) first cap] w λe w'=>∃ v w1 w2,e=Z3 v/\noCut v/\bW w w1/\w1.heap.size=w.heap.size+1/\R w1 v w2/\w'=(w2.setCell ⟨w.heap.size,0,ZY⟩ v).setCell ⟨a,9,ZY⟩ (Z2 ZV):=by
 have L:a<w.heap.size:=(XJ.1 r).1;have I:w.cell? ⟨a,9,ZY⟩=ZX (Z2 ZV):=by simp [World.cell?,r,E]
 have p:=Dy k first cap F w (λw1 v w2=>noCut v/\R w1 v w2/\∃ b,w2.heap[a]?=ZX (Z4 b 121 (0,0))/\b[9]?=ZX (Z2 ZV)) (λw1 z A=>(u w1 z A).mono (by
  rintro e w2 ⟨v,rfl,m,B,C,D⟩;exact ⟨v,rfl,m.isErr,⟨m,B,D⟩,C⟩))
 go_enter func46,ntmps46;go_wp2_with fail;refine p.mono ?_;rintro e c ⟨v,w1,w2,rfl,_,t,y,⟨x,q,b,s,o⟩,rfl⟩;have d:(w2.setCell ⟨w.heap.size,0,ZY⟩ v).heap[a]?=ZX (Z4 b 121 (0,0)):=(blk_setCell_other _ _ _ _ (by show a≠w.heap.size;omega)).trans s;obtain ⟨c,f⟩:=nM (w2.setCell ⟨w.heap.size,0,ZY⟩ v);rw [f] at d ⊢;have J:c.cell? ⟨a,9,ZY⟩=ZX (Z2 ZV):=by simp [World.cell?,d,o]
 have K:c.frozen? ⟨a,9,ZY⟩=ZV:=by simp [World.frozen?,d]
 have H:=hide5 t y q x f;clear t y q p u d o s f;rcases x with rfl|⟨n,G,rfl⟩
 . go_wp2_with fail;refine (CZ 13 c).mono ?_;rintro e w' ⟨rfl,rfl⟩;go_wp2;go_ret;obtain ⟨g,h,i,j,l⟩:=H.out;exact ⟨.nilIface,w1,w2,rfl,j,g,h,i,by rw [l]⟩
 . go_wp2_with fail;refine (AR n G c).mono ?_;rintro e w' ⟨rfl,rfl⟩;go_wp2;go_ret;obtain ⟨g,h,i,j,l⟩:=H.out;exact ⟨.iface 66 (Z7 Z9 n),w1,w2,rfl,j,g,h,i,by rw [l]⟩
def bM.cells {a f:Nat} (h:bM w a v D L G t f n pg ob off):w.cell? ⟨a,0,ZY⟩=ZX (Z6 (ZX ⟨v,0,ZY⟩))/\w.cell? ⟨a,4,ZY⟩=ZX (Z7 Z8 t)/\w.cell? ⟨a,6,ZY⟩=ZX (Z7 Z9 n)/\w.cell? ⟨a,7,ZY⟩=ZX pg/\w.cell? ⟨a,8,ZY⟩=ZX ob:=by
 have b:w.heap[a]?=ZX (Z4 (mR v D L G t f n pg ob off) 121 (0,0)):=h;simp [World.cell?,b,mR]
def bM.keep (h:bM w ar v D' L' G' t' f' n' pg ob off) (e:w'.heap[ar]?=w.heap[ar]?):bM w' ar v D' L' G' t' f' n' pg ob off:=X2 e h
def bM.lt (h:bM w ar v D' L' G' t' f' n' pg ob off):ar<w.heap.size:=(XJ.1 h).1
theorem oK (h:bt w v p D L G ps ho):ZS ZP 96 #[Z6 (ZX ⟨v,0,ZY⟩)] w λe w'=>e=Z3 (.agg #[Z7 Z9 D,Z7 Z9 L,Z7 Z9 G])/\bW w w'/\w'.heap.size=w.heap.size+1/\w'.heap[w.heap.size]?=ZX (Z4 #[Z7 Z9 D,Z7 Z9 L,Z7 Z9 G] 25 (0,0)):=by
 have q:=h.lt;have f:bt (w.alloc (Z4 #[Z7 Z9 0,Z7 Z9 0,Z7 Z9 0] 25)) v p D L G ps ho:=h.keep (blk_alloc_lt _ _ _ q);obtain ⟨l,c1,m,n,o⟩:=f.cells;have c:bW w (w.alloc (Z4 #[Z7 Z9 0,Z7 Z9 0,Z7 Z9 0] 25)):=bA w _;have a:=blk_alloc_new w (Z4 #[Z7 Z9 0,Z7 Z9 0,Z7 Z9 0] 25);obtain ⟨w1,d⟩:=nM (w.alloc (Z4 #[Z7 Z9 0,Z7 Z9 0,Z7 Z9 0] 25));rw [d] at l c1 m n o c a;have u:w1.cell? ⟨w.heap.size,0,ZY⟩=ZX (Z7 Z9 0):=by simp [World.cell?,a]
 have x:w1.cell? ⟨w.heap.size,1,ZY⟩=ZX (Z7 Z9 0):=by simp [World.cell?,a]
 have y:w1.cell? ⟨w.heap.size,2,ZY⟩=ZX (Z7 Z9 0):=by simp [World.cell?,a]
 have b:∀ k,w1.frozen? ⟨w.heap.size,k,ZY⟩=ZV:=λk=>by simp [World.frozen?,a]
 have r:=b 0;have s:=b 1;have t:=b 2;have g:w1.heap.size=w.heap.size+1:=by rw [<- d];simp
 have H:=hide3 c a g;clear f c a b h g;go_enter func96,ntmps96;go_wp2;have i:=aj (j:=2) (aj (j:=1) (aj (j:=0) H.out.2.1 (Z7 Z9 (D:Int))) (Z7 Z9 (L:Int))) (Z7 Z9 (G:Int));refine bodyPost_ret (v:=.agg #[Z7 Z9 D,Z7 Z9 L,Z7 Z9 G]) (results_cell_row results96 _ _ w.heap.size 25 #[Z7 Z9 (D:Int),Z7 Z9 (L:Int),Z7 Z9 (G:Int)] (0,0) _ rfl i underlying25 rfl (by kernel_rfl)) rfl ?_;exact ⟨rfl,((H.out.1.setCell (p:=⟨w.heap.size,0,ZY⟩) lR _).setCell (p:=⟨w.heap.size,1,ZY⟩) lR _).setCell (p:=⟨w.heap.size,2,ZY⟩) lR _,by simp [World.setCell,H.out.2.2],i⟩
def vw (h:bt w v p D L G ps ho):ZS ZP 96 #[Z6 (ZX ⟨v,0,ZY⟩)] w λe w'=>e=Z3 (.agg #[Z7 Z9 D,Z7 Z9 L,Z7 Z9 G])/\bW w w':=(oK h).mono λ_ _ q=>⟨q.1,q.2.1⟩
theorem dw (h:bt w v p D L G ps ho) (g:D<=1000):ZS ZP 77 #[Z6 (ZX ⟨v,0,ZY⟩)] w λe w'=>e=Z3 (Z7 Z9 ((D*44:Nat):Int))/\w'=w:=by
 obtain ⟨b,c1,c,d,f⟩:=h.cells;have a:((D*44:Nat):Int)=(D:Int)*44:=by omega
 rw [a];go_enter func77,ntmps77;go_wp2;go_ret;exact ⟨rfl,rfl⟩
theorem oL {a f:Nat} (d:bM w a v D' L' G' t f n pg ob off) (h:bt w v p D L G ps ho) (j:1<=D) (c:D<=1000):ZS ZP 119 #[Z6 (ZX ⟨a,0,ZY⟩)] w λe w'=>e=Z3 (Z7 Z9 ((D*44-4:Nat):Int))/\w'=w:=by
 obtain ⟨i,_⟩:=d.cells;have b:((D*44-4:Nat):Int)=((D*44:Nat):Int)-4:=by omega
 rw [b];have g:=dw h c;have b1:D*44<=44000:=by omega
 generalize D*44=q at *;go_enter func119,ntmps119;go_wp2_with fail;refine g.mono ?_;rintro e w' ⟨rfl,rfl⟩;go_wp2;go_ret;exact ⟨rfl,rfl⟩
theorem length_nil (w:ZU):ZS ZP 84 #[Z5 ZY 0 0] w λe w'=>e=Z3 (Z7 Z9 0)/\w'=w:=by
 go_enter func84,ntmps84;go_wp2;refine wp_loop_rounds 1 ?_;rw [rounds_succ];go_wp2;go_ret;exact ⟨rfl,rfl⟩
section
attribute [local go_sem] Oper.semAt_some
def wH {size:Nat} {v:ZT} (h:w.ownsRow base e size v n xs) {j:Nat} {o:Obj} (a:v.ownBlock=ZX j) (ho:w.heap[j]?=ZX o):o.isCells=ZW:=by
 rcases h.2 with ⟨d,_⟩|⟨g,cap,cur,b,f,c,_⟩
 . rw [d] at a;simp [Value.ownBlock] at a
 . rw [b] at a;simp [Value.ownBlock] at a;subst a;rw [c] at ho;cases ho;rfl
def lK {size:Nat} {v:ZT} {row:Option Nat} (h:w.ownsRow base e size v n xs) (a:w.grownBy w' row) (c:∀ r,row=ZX r->∃ o:Obj,w.heap[r]?=ZX o/\o.isCells=ZV):w'.ownsRow base e size v n xs:=by
 cases row with
 | none=>
  cases hv:v.ownBlock with
  | none=>exact h.kept a (.inl hv)
  | some q=>exact h.kept a (.inr (by rw [hv];intro e;cases e))
 | some r=>
  obtain ⟨o,ho,b⟩:=c r rfl;exact h.kept a (.inr λe=>by have:=wH h e ho;rw [b] at this;cases this)
def te (w:ZU) (b i:Nat) (v:ZT):w.grownBy (w.setCell ⟨b,i,ZY⟩ v) (ZX b):=
 ⟨rfl,rfl,rfl,by simp [World.setCell],λk _ a=>blk_setCell_other _ _ _ _ (λe=>a (by rw [e]))⟩
def Fa (d:fn.results=#[.tmp t]) (b:a.defers=[{ target:=.collected D',args:=#[] }]) (hx:a.tmps.getD t ZZ=x)
 (hK:Z.heap[D']?=ZX (.deferred (ZX []))) (hR:R (Z3 x) (Z.putObj D' (.deferred ZY))):bodyPostM Fence.wide n ZP fn R .ret a Z:=by
 obtain ⟨e,f⟩:=a;simp only at b hx;subst b;refine ⟨by simp,.inl ⟨_,_,rfl,run_takeDeferred hK,?_⟩⟩;refine ⟨x,?_,hR⟩;have c:e[t]?.getD ZZ=x:=by simpa using hx
 simp [results,d,c]
def QH (w:ZU) (g:Nat) (B D:Nat) (pre:List (Ch D)) (X:ZU):Prop:=
 (∃ v,Boxed X w.heap.size 95 v/\X.ownsRow (w.heap.size+1) 34 1 v pre.length (pre.map λx=>CC g x.1))/\bW w X/\B<=X.heap.size
def QH.own {B:Nat} (i:w.heap.size+1<=B):OwnFrom B (QH w g B D):=by
 rintro pre X Y row ⟨⟨v,c,f⟩,d,h⟩ a b;exact ⟨⟨v,(a.block _ c.lt (λe=>by have:=(b _ e.symm).1;omega)).trans c,lK f a λr e=>(b r e).2⟩,d.grown a d.size (λk e=>by have:=(b k e).1;omega),XL h a.size⟩
def Tryz.TY:(ZP.info? 34).map (λi=>(i.zero,i.size,i.bytes))=ZX (ZX (Z5 ZY 0 0),1,24):=by kernel_rfl
theorem JS {F:Fence} {rest:List ZR} (t:o.guard=ZY) (x y:ZQ) (ho:o.op=.call { callee:=.builtin .append,args:=#[x,y],argTypes:=#[95,95] })
 (n0 q:Nat) (k:Nat) (xs:List ZT) (u v:ZT) (hx:a.eval x=v) (hy:a.eval y=Z5 (ZX ⟨q,0,ZY⟩) 1 1) (h3:w.ownsRow n0 34 1 v k xs) (hc:w.cell? ⟨q,0,ZY⟩=ZX u) (hu:u.oneCell'=ZW) (h7:n0<=w.heap.size) (hk:k<=1000000)
 (hK:∀ c b w2,n0<=c->w2.ownsRow n0 34 1 (Z5 (ZX ⟨c,0,ZY⟩) (k+1) b) (k+1) (xs++[u])->w.grownBy w2 v.ownBlock->wpListIn F n ZP ops Q rest (a.put o.dst (Z5 (ZX ⟨c,0,ZY⟩) (k+1) b)) w2):wpListIn F n ZP ops Q (o::rest) a w:=by
 obtain ⟨A,l,m,p,r⟩:=info_parts Tryz.TY;refine wpListIn_append_own w t x y 95 ho n0 34 A (Z5 ZY 0 0) 1 24 underlying95 l m p r rfl (by decide) v k xs hx h3 ⟨q,0,ZY⟩ 1 1 [u] hy rfl (λj u' d=>?_) (λu' f=>by simp at f;subst f;exact hu) (by unfold maxLen;omega) (by omega) h7 ?_
 . cases j with
   | zero=>simp at d;subst d;exact hc
   | succ j=>simp at d
 . intro B w2 e h _;obtain ⟨c,b,rfl,i⟩:∃ c b,B=Z5 (ZX ⟨c,0,ZY⟩) (k+1) b/\n0<=c:=by
    rcases e.2 with ⟨_,C⟩|⟨g,cap,cur,z,s,_⟩
    . omega
    . exact ⟨g,cap,z,s⟩
   exact hK c b w2 i e h
theorem pW (g D b1 b2:Nat) (R:D<=1000) (w:ZU) (G:b1<w.heap.size) (I:b2<w.heap.size) (P:w.cell? ⟨b1,0,ZY⟩=ZX (Z5 (ZX ⟨g,0,ZY⟩) (D*44) (D*44))) (Q:w.cell? ⟨b2,0,ZY⟩=ZX (Z7 Z9 44)) :
 ZS ZP 192 #[Z5 ZY 0 0,.func (.func 193) #[] #[Z6 (ZX ⟨b1,0,ZY⟩),Z6 (ZX ⟨b2,0,ZY⟩)]] w λe w'=>∃ v,e=Z3 v/\w'.ownsRow w.heap.size 34 1 v D ((XG D).map (CC g))/\bW w w':=by
 obtain ⟨n,M⟩:∃ n:Nat,Hid (9<=n):=⟨9,XI _⟩;refine (callsIn_wide (n:=n)).1 ?_;refine callsIn_of_wp_marks func192 rfl trivial ?_ rfl;simp only [ntmps192,Yo,X1,Yp,Nat.reduceAdd,Nat.reduceSub,X4,X5,X6,Yb,XS,X7];gi_wp2;obtain ⟨w1,s⟩:=nM (w.alloc (Z4 #[Z5 ZY 0 0] 95));have O:Boxed w1 w.heap.size 95 (Z5 ZY 0 0):=by rw [<- s];exact Boxed.new w _ _
 have k9:w1.heap.size=w.heap.size+1:=by rw [<- s];simp
 have B:bW w w1:=by rw [<- s];exact bA w _
 rw [s];clear s;have V:QH w g w1.heap.size D [] w1:=⟨⟨_,O,World.ownsRow_nil _ _ _ _⟩,B,XI _⟩;refine wpIn_rangeFunc_ownG rfl (by have:=M.out;omega) (gf:=193) (lb:=#[Z6 (ZX ⟨b1,0,ZY⟩),Z6 (ZX ⟨b2,0,ZY⟩)]) rfl trivial (enters_of func193 (by kernel_rfl) rfl)
  (yV (n-1) b1 b2 g D R w1 (by omega) (by omega) ((B.cell (p:=⟨b1,0,ZY⟩) G).trans P) ((B.cell (p:=⟨b2,0,ZY⟩) I).trans Q)) (λh k=>⟨k.1.trans h.1,k.2.trans h.2⟩) (λW l o o' hl _ _ _=>⟨World.putObj_heap_other (by omega),World.putObj_heap_other (by omega)⟩) (Below.refl _ _) (λ_=>rfl)
  (QH w g w1.heap.size D) (λ_ _ _=>False) (QH.own (by omega)) (λ_ _ _ _ _ h _ _=>h.elim) V
  (λx=>{ tmps:=#[Z5 ZY 0 0,.func (.func 193) #[] #[Z6 (ZX ⟨b1,0,ZY⟩),Z6 (ZX ⟨b2,0,ZY⟩)],Z6 (ZX ⟨w.heap.size,0,ZY⟩),ZZ,Z5 ZY 0 0,CC g x.1,.func (.func 193) #[] #[Z6 (ZX ⟨b1,0,ZY⟩),Z6 (ZX ⟨b2,0,ZY⟩)],CC g x.1,ZZ,ZZ,ZZ,ZZ,ZZ],defers:=[] }) ?assign ?body ?done ?stop
 case assign=>
  intro l2 x X Kk hK;unfold E9;gi_wp2;exact hK
 case body=>
  rintro l2 pre x X ⟨⟨v,d,b⟩,a,y⟩ hq;have N:=d.cell;have hz:=d.lt;have k8:pre.length<=1000:=by omega
  obtain ⟨c,Z⟩:=nM (x.1*44);have m:CC g x.1=Z5 (ZX ⟨g,c,ZY⟩) 44 44:=by rw [<- Z];rfl
  have S:(Value.slice (ZX ⟨g,c,ZY⟩) 44 44).oneCell'=ZW:=rfl;have U:(X.alloc (Z4 #[Z5 (ZX ⟨g,c,ZY⟩) 44 44] 34)).cell? ⟨X.heap.size,0,ZY⟩=ZX (Z5 (ZX ⟨g,c,ZY⟩) 44 44):=(Boxed.new X 34 (Z5 (ZX ⟨g,c,ZY⟩) 44 44)).cell;have H:=hide5 d b a y m;rw [m];clear d b a y m;have C:Hid ((X.alloc (Z4 #[Z5 (ZX ⟨g,c,ZY⟩) 44 44] 34)).ownsRow (w.heap.size+1) 34 1 v pre.length (pre.map λx=>CC g x.1)):=hide (aB H.out.2.1 (bA X _));have L:Hid (w.heap.size+1<=(X.alloc (Z4 #[Z5 (ZX ⟨g,c,ZY⟩) 44 44] 34)).heap.size):=hide (by simp;omega);gi_wp2_with (
   gi_at_builtin;
   refine JS rfl (Z1 8) (Z1 10) rfl (w.heap.size+1) X.heap.size pre.length (pre.map λx=>CC g x.1) (Z5 (ZX ⟨g,c,ZY⟩) 44 44) v (by rfl) (by rfl) (by exact C.out) (by exact U) S L.out (by omega) ?_;
   intro E f w2 k6 F i;
   have A:Boxed w2 w.heap.size 95 v:=(i.block w.heap.size (by simp;omega) (λe=>by have:=(H.out.2.1.lt _ e.symm).1;omega)).trans (H.out.1.alloc _);
   have d0:=A.cell;
   have f0:=A.frozen)
  obtain ⟨d,b,a,y,m⟩:=H.out;have hr:∀ q,v.ownBlock=ZX q->w.heap.size+1<=q:=λq e=>(b.lt q e).1;have hy:=i.size;simp only [World.size_alloc] at hy;have Y:KeepsOthers X w2:=(KeepsOthers.alloc X (Z4 #[Z5 (ZX ⟨g,c,ZY⟩) 44 44] 34)).trans (KeepsOthers.of_grownBy i λj o e ho=>wH C.out e ho);have z:∀ k,k<w.heap.size->w2.heap[k]?=X.heap[k]?:=λk u=>(i.block k (by simp;omega) (λe=>by have:=hr k e.symm;omega)).trans (blk_alloc_lt _ _ _ (by omega));have J:∀ k,k≠w.heap.size->(w2.setCell ⟨w.heap.size,0,ZY⟩ (Z5 (ZX ⟨E,0,ZY⟩) (pre.length+1) f)).heap[k]?=w2.heap[k]?:=λk u=>blk_setCell_other _ _ _ _ u;refine ⟨(Y.trans (KeepsOthers.setCell _ _ _)).from _,⟨(J _ (by omega)).trans (z _ G),(J _ (by omega)).trans (z _ I)⟩,⟨_,A.set _,?_⟩,?_,by simp [World.setCell];omega⟩
  . have q:=F.kept (te w2 w.heap.size 0 (Z5 (ZX ⟨E,0,ZY⟩) (pre.length+1) f)) (.inr λe=>by have:=(F.lt _ e).1;omega);have e:(pre++[x]).map (λx=>CC g x.1)=pre.map (λx=>CC g x.1)++[Z5 (ZX ⟨g,c,ZY⟩) 44 44]:=(by rw [XQ,<- m];rfl);rw [e,Ys];exact q
  . refine (Below.setCell (p:=⟨w.heap.size,0,ZY⟩) ?_ lR _);exact ⟨i.os.trans a.os,i.tape.trans a.tape,i.output.trans a.output,by have:=a.size;omega,λk u=>(z k u).trans (a.block k u)⟩
 case done=>
  rintro D' xs X T K ⟨⟨v,d,b⟩,a,y⟩ hK;have N:=d.cell;have H:=hide3 b a hK;have k7:=d.lt;clear d b a hK;gi_wp2;obtain ⟨b,a,hK⟩:=H.out;have k0:xs.length=D:=by have:=congrArg List.length K;simpa using this
  have k5:xs.map (λx=>CC g x.1)=(XG D).map (CC g):=by rw [<- K,List.map_map];rfl
  rw [k0,k5] at b;refine Fa (t:=4) results192 rfl rfl hK ⟨_,rfl,?_,?_⟩
  . exact cW (lK b (grownBy_putObj' X D' (.deferred ZY)) λr e=>by cases e;exact ⟨_,hK,rfl⟩) (by omega)
  . exact Below.TO a (by omega) (XJ.1 hK).1 _
 case stop=>
  rintro D' cc pre X T hs hx hK;exact hx.elim
theorem tf (g D b1 b2:Nat) (j:D<=1000) (w:ZU) (h:b1<w.heap.size) (i:b2<w.heap.size) (b:w.cell? ⟨b1,0,ZY⟩=ZX (Z5 (ZX ⟨g,0,ZY⟩) (D*44) (D*44))) (c:w.cell? ⟨b2,0,ZY⟩=ZX (Z7 Z9 44)) :
 ZS ZP 182 #[.func (.func 193) #[] #[Z6 (ZX ⟨b1,0,ZY⟩),Z6 (ZX ⟨b2,0,ZY⟩)]] w λe w'=>∃ v,e=Z3 v/\w'.ownsRow w.heap.size 34 1 v D ((XG D).map (CC g))/\bW w w':=by
 have f:=pW g D b1 b2 j w h i b c;clear b c;go_enter func182,ntmps182;go_wp2_with fail;refine f.mono ?_;rintro e w' ⟨v,rfl,a,d⟩;have H:=hide2 a d;clear f a d;go_wp2;go_ret;exact ⟨_,rfl,H.out.1,H.out.2⟩
def iN (D:Nat) (dl:List Nat):List Nat:=dl++XR (D*44-dl.length) 0
def dq (D:Nat) (dl:List Nat):List (List Nat):=(XG D).map λi=>((iN D dl).drop (i*44)).take 44
def JT (h:dl.length<=D*44):(iN D dl).length=D*44:=by unfold iN;simp;omega
def dP (D:Nat) (dl:List Nat):(dq D dl).length=D:=by simp [dq]
def oM (a:i<(dq D dl).length):(dq D dl)[i]=((iN D dl).drop (i*44)).take 44:=by simp [dq]
def mw (h:dl.length<=D*44) (a:i<D):(((iN D dl).drop (i*44)).take 44).length=44:=by
 rw [List.length_take,List.length_drop,JT h];omega
def MC (h:∀ x∈dl,x<256):∀ x∈iN D dl,x<256:=by
 intro x a;unfold iN at a;rw [XZ] at a;rcases a with a|a
 . exact h x a
 . have:=Yc a;omega
theorem O1 (h:bt w v p D L G ps ho) (hD:D<=12) (W:ZT) (dl:List Nat) (Q:Bs w W dl) (hl:dl.length<=D*44) :
 ZS ZP 164 #[Z6 (ZX ⟨v,0,ZY⟩),W] w λe w'=>∃ u,e=Z3 u/\Rd w' u (dq D dl)/\bW w w':=by
 have V:=dw h (by omega);obtain ⟨b,y⟩:=nM (D*44);have hv:b<=528:=by omega
 rw [y] at V hl;have J:=hide Q;clear Q;go_enter func164,ntmps164;go_wp2_with fail;refine V.mono ?_;rintro e w1 ⟨rfl,rfl⟩;go_wp2_with (at_make;refine eH _ rfl (Z1 7) (Z1 7) rfl _ b (by rfl) (by rfl) rfl (by omega) ?_;intro w2 P z k0;obtain ⟨a,hq,o,B⟩:=Ap (n:=b) (cap:=b) (off:=0) 3 P (J.out.mono z) (by omega) (by simp;omega));have r:bW w1 a:=z.grown B (by omega) (λk e=>by cases e;exact XI _);have k5:=B.size;have O:jM (XR b 0) 0 dl=iN D dl:=by
  unfold jM iN;rw [Yt,XS,Yd,List.drop_replicate,y]
 rw [O] at o;have A:=Gt w1.heap.size D a;rw [y] at A;have H:=hide3 o r A;clear hq P z B o r A O;refine H.out.2.2.mono ?_;rintro e f ⟨rfl,rfl⟩;obtain ⟨f,d⟩:=nM ((a.alloc (Z4 #[Z5 (ZX ⟨w1.heap.size,0,ZY⟩) b b] 34)).alloc (Z4 #[Z7 Z9 44] 3));have s:bW a f:=by rw [<- d];exact (bA a _).alloc (by simp) _
 have hz:f.heap.size=a.heap.size+2:=by rw [<- d];simp
 have g1:f.cell? ⟨a.heap.size,0,ZY⟩=ZX (Z5 (ZX ⟨w1.heap.size,0,ZY⟩) (D*44) (D*44)):=by rw [<- d,y];exact ((Boxed.new a _ _).alloc _).cell
 have M:f.cell? ⟨a.heap.size+1,0,ZY⟩=ZX (Z7 Z9 44):=by
  have:=(Boxed.new (a.alloc (Z4 #[Z5 (ZX ⟨w1.heap.size,0,ZY⟩) b b] 34)) 3 (Z7 Z9 44)).cell;rw [World.size_alloc] at this;rw [<- d];exact this
 have S:=tf w1.heap.size D a.heap.size (a.heap.size+1) (by omega) f (by omega) (by omega) g1 M;rw [d];have I:=hide2 s S;clear d s S g1 M hz;go_wp2_with fail;refine I.out.2.mono ?_;rintro e F ⟨u,rfl,m,t⟩;have X:=hide2 m t;clear m t;go_wp2;go_ret;obtain ⟨o,r,_⟩:=H.out;obtain ⟨s,_⟩:=I.out;obtain ⟨m,t⟩:=X.out;have N:bW a F:=s.trans (t.mono s.size);have hp:aL F w1.heap.size (iN D dl):=o.below N;refine ⟨u,rfl,?_,r.trans (N.mono r.size)⟩;rcases m.2 with ⟨Y,Z⟩|⟨q,cap,cur,K,e2,e3,e4,e5,e6,e7⟩
 . subst Y;have:dq D dl=[]:=by rw [<- List.length_eq_zero_iff,dP];exact Z
   exact ⟨ZY,0,by rw [this];rfl,by rw [this];decide,λE=>absurd this E⟩
 . refine ⟨ZX ⟨q,0,ZY⟩,cap,by rw [K,dP],by rw [dP];omega,λ_=>⟨q,0,rfl,λi R=>?_⟩⟩;have C:=R;rw [dP] at C;refine ⟨CC w1.heap.size i,?_,?_⟩
   . have:=m.cells (g:=q) (by rw [K];rfl) i (CC w1.heap.size i) (by simp [C]);rw [mN] at this;rw [Yd];exact this
   . rw [oM R];have hj:=mw (D:=D) (dl:=dl) (by omega) C;have hr:F.rangeAt w1.heap.size 0 (aH (iN D dl)):=λj u hu=>by
      have E:=hp.Uv;have hy:(aH (iN D dl)).toArray[j]?=ZX u:=(by simpa using hu);simp [World.cell?,E,hy]
     have U:=nv 44 (fQ (i*44) hr);rw [Yd] at U;have T:=Bs.mid (c:=44) (l:=((iN D dl).drop (i*44)).take 44) (by omega) (by omega) (λx hx=>MC J.out.lt x (List.mem_of_mem_drop (List.mem_of_mem_take hx))) U;rw [hj] at T;exact T
end
theorem qu (w:ZU) (t u r e:TypeId) (k:IntKind) (i:TypeInfo) (z:ZT) (m:P.underlying t=ZX (.slice e)) (o:P.underlying u=ZX (.int k)) (g:P.info? e=ZX i) (q:i.zero=ZX z) (f:i.bytes=1) (l:i.size=1)
 (n:Nat) (a:0<n) (s:n<=1000000) :
 (Builtin.append_ #[t,u] r #[Z5 ZY 0 0,Z7 Z9 n]).run P w =
  .ok (Z5 (ZX ⟨w.heap.size,0,ZY⟩) n (grownCap w n 0 e)) (w.drew.alloc (Z4 (Builtin.zeroCells z.cells n++Builtin.zeroCells z.cells (grownCap w n 0 e-n)) e)):=by
 have j:n≠0:=by omega
 have d:¬ (9223372036854775807<(n:Int)):=by omega
 have p:IntKind.i64.wrap (n:Int)=n:=by rw [IntKind.wrap_i64];omega
 have h:¬ ((n:Int)<0):=by omega
 have c:¬ (281474976710656<Builtin.nextslicecap n 0):=by rw [nextslicecap_zero a];omega
 have b:¬ (281474976710656<(n:Int)):=by omega
 simp [Builtin.append_,run_underlying m,run_underlying o,sizeOf,typeInfo,zeroValue,g,q,f,l,j,d,c,b,p,h,Question.forced,run_firstCells_none,newRow,grownCap,asInt,asIntOf]
def Tryz.Ua:(ZP.info? 5).map (λi=>(i.zero,i.size,i.bytes))=ZX (ZX (Z7 .u8 0),1,1):=by kernel_rfl
def GD (w:ZU) (n c:Nat) (b:n<=c) (a:c<=maxLen):(w.drew.alloc (Z4 (Builtin.zeroCells (Value.cells (Z7 .u8 0)) n++Builtin.zeroCells (Value.cells (Z7 .u8 0)) (c-n)) 5)).ownsRow w.heap.size 5 1 (Z5 (ZX ⟨w.heap.size,0,ZY⟩) 0 c) 0 []:=by
 refine ⟨rfl,.inr ⟨w.heap.size,c,_,rfl,XI _,blk_alloc_new w.drew _,XH _,a,?_,by simp⟩⟩;simp [Builtin.zeroCells,Value.cells];omega
def zc (w w':ZU) {ops:Array ZR} {rest:List ZR} {o:ZR} {a:Act} {Q:Exit->Act->ZU->Prop} (b:o.guard=ZY) (s x:ZQ) (t tx:TypeId)
 (ho:o.op=.call { callee:=.builtin .append,args:=#[s,x],argTypes:=#[t,tx] }) (v u v':ZT) (hv:a.eval s=v) (hu:a.eval x=u) (hr:∀ c,(Builtin.append_ #[t,tx] c #[v,u]).run P w=.ok v' w')
 (h:wpList P ops Q rest (a.put o.dst v') w'):wpList P ops Q (o::rest) a w:=by
 refine wpList_plain b λK hK=>?_;unfold Oper.wp execOp;simp only [ho,resolve,invoke,builtin,Sem.run_bind,Sem.run_pure,Result.andThen_ok,XP,XM,XN,hv,hu,hr];exact hK _ _ h
theorem Kh (n:Nat) (q:n<=1000000) (w:ZU):ZS ZP 146 #[Z5 ZY 0 0,Z7 Z9 n] w λe w'=>∃ v,e=Z3 v/\w'.ownsRow w.heap.size 5 1 v 0 []/\bW w w':=by
 obtain ⟨r,k,m,o,p⟩:=info_parts Tryz.Ua;by_cases j:0<n
 . have b:=λs=>qu (P:=ZP) w 34 3 s 5 .i64 r (Z7 .u8 0) underlying34 underlying3 k m p o n j q;have f:n<=grownCap w n 0 5:=grownCap_ge w n 0 5;have a:grownCap w n 0 5<=maxLen:=grownCap_le_maxLen w n 0 5 (by unfold maxLen;omega);have d:=GD w n (grownCap w n 0 5) f a;have c:bW w (w.drew.alloc (Z4 (Builtin.zeroCells (Value.cells (Z7 .u8 0)) n++Builtin.zeroCells (Value.cells (Z7 .u8 0)) (grownCap w n 0 5-n)) 5)):=(Below.refl _ w).drew.alloc lR _;obtain ⟨cp,g⟩:=nM (grownCap w n 0 5);rw [g] at b f a d c;obtain ⟨w2,h⟩:=nM (w.drew.alloc (Z4 (Builtin.zeroCells (Value.cells (Z7 .u8 0)) n++Builtin.zeroCells (Value.cells (Z7 .u8 0)) (cp-n)) 5));rw [h] at b d c;have t:cp<=9223372036854775807:=(by unfold maxLen at a;omega);have H:=hide2 d c;have i:=hide b;clear d c h g a b;go_enter func146,ntmps146;go_wp2_with (show wpList _ _ _ ({ dst:=ZX 22,op:=_,type:=_,pos:=_,after:=_,guard:=_ }::_) _ _;refine zc w w2 rfl (Z1 20) (Z1 21) 34 3 rfl (Z5 ZY 0 0) (Z7 Z9 n) (Z5 (ZX ⟨w.heap.size,0,ZY⟩) n cp) rfl rfl (by exact i.out) ?_);go_ret;exact ⟨_,rfl,H.out.1,H.out.2⟩
 . have l:n=0:=(by omega);subst l;go_enter func146,ntmps146;go_wp2;go_ret;exact ⟨_,rfl,World.ownsRow_nil _ _ _ _,Below.refl _ _⟩
def gJ {size:Nat} {v:ZT} (h:w.ownsRow base e size v n xs) {k:Nat} (a:v.ownBlock=ZX k):base<=k:=by
 rcases h.2 with ⟨c,_⟩|⟨g,cap,cur,b,d,_⟩
 . rw [c] at a;simp [Value.ownBlock] at a
 . rw [b] at a;simp [Value.ownBlock] at a;omega
def Tm (w:ZU) (K:Nat) (s i:ZT) (wr:ZU):Prop:=∃ k:Nat,k<=K/\i=Z7 Z9 k/\s=Z7 Z9 ((44*k:Nat):Int)/\wr=w
def Tn (w:ZU) (R:List (List Nat)) (v i:ZT) (wr:ZU):Prop:=∃ k:Nat,k<=R.length/\i=Z7 Z9 k/\wr.ownsRow w.heap.size 5 1 v (44*k) (aH (R.take k).flatten)/\bW w wr
theorem GE {c:Nat} {R:List (List Nat)} (S:Mc w base g R) (V:R.length<=1000):ZS ZP 114 #[Z5 (ZX ⟨g,0,ZY⟩) R.length c] w λe w'=>∃ v,e=Z3 v/\w'.ownsRow w.heap.size 5 1 v (44*R.length) (aH R.flatten)/\bW w w':=by
 obtain ⟨i0,Y,hx,hy,hz⟩:=info_parts Tryz.Ua;obtain ⟨K,hK⟩:=nM (R.length);obtain ⟨_,X,F⟩:=S;have f:=hide2 F hK;rw [hK] at V ⊢;clear F hK;go_enter func114,ntmps114;go_wp2_with fail;go_loopw [3,11] (λs i wr=>Tm w K s i wr) (λ_ i _=>K-(intOf i).toNat)
 case atStart=>exact ⟨0,XH _,rfl,rfl,rfl⟩
 case round=>
  obtain ⟨k,k6,rfl,rfl,O⟩:=hrel;obtain rfl:w=wr:=O.symm;clear O;by_cases C:k<K
  . obtain ⟨b,off,l,c1,A,m,n,o,B⟩:=f.out.1 k (by rw [f.out.2];exact C);clear A m n o B;have t:((44*k:Nat):Int)+44=((44*(k+1):Nat):Int):=(by omega);have T:44*(k+1)<=44000:=(by omega);obtain ⟨M,p⟩:=nM (44*k);obtain ⟨M',z⟩:=nM (44*(k+1));rw [p,z] at t;rw [z] at T;rw [p];go_wp2;refine ⟨⟨k+1,by omega,by go_num,by rw [z],rfl⟩,by simp [intOf];omega⟩
  . have hv:k=K:=(by omega);subst hv;obtain ⟨M,p⟩:=nM (44*k);have k0:M<=44000:=(by omega);rw [p];go_wp2_with fail;refine (Kh M (by omega) w).mono ?_;rintro e w1 ⟨v,rfl,d,a⟩;have r:=hide2 d a;clear d a;go_wp2_with fail;go_loopw [6,27] (λv i E=>Tn w R v i E) (λ_ i _=>k-(intOf i).toNat)
    case atStart=>exact ⟨0,XH _,rfl,r.out.1,r.out.2⟩
    case round=>
     clear r;obtain ⟨j,hr,rfl,d,a⟩:=hrel;rw [f.out.2] at hr;by_cases C:j<k
     . have I:j<R.length:=(by rw [f.out.2];exact C);obtain ⟨b,off,l,c1,A,m,n,o,B⟩:=f.out.1 j I;have P:wr.cell? ⟨g,j,ZY⟩=ZX (Z5 (ZX ⟨b,off,ZY⟩) 44 l):=(World.cell?_of_block (a.block g X)).trans c1;have y:Src ZP 1 34 (Z5 (ZX ⟨b,off,ZY⟩) 44 l) 44 (aH R[j]) wr:=Src.ofSlice wr underlying34 ⟨b,off,ZY⟩ 44 l (aH R[j]) (by rw [bp,o]) (λq u Z=>by have G:wr.cell? ⟨b,off+q,ZY⟩=ZX u:=(World.cell?_of_block (a.block b m)).trans (n q u Z);unfold Addr.add;split<;>first|exact G|(rename_i Q;subst Q;exact G)) (λu hu=>by
        obtain ⟨x,_,rfl⟩:=Ye.1 hu;rfl)
       have h:aH (R.take (j+1)).flatten=aH (R.take j).flatten++aH R[j]:=by
        rw [Yu,Yf I,Yw,List.flatten_append,cd];simp
       obtain ⟨D,L⟩:=nM (aH R[j]);obtain ⟨rt,J⟩:=nM (aH (R.take j).flatten);rw [L] at y h;rw [J] at d h;have N:=a.size;have H:=hide4 d a y h;have k5:44*j+44<=44000:=(by omega);clear d a y h A m n o B c1 L J;go_wp2_with (show wpList _ _ _ ({ dst:=ZX 33,op:=_,type:=_,pos:=_,after:=_,guard:=_ }::_) _ _;refine af _ rfl (Z1 31) (Z1 32) 34 34 rfl w.heap.size 5 i0 (Z7 .u8 0) 1 1 underlying34 Y hx hy hz rfl _ (44*j) rt (by rfl) (by exact H.out.1) _ (by rfl) 44 D (by exact H.out.2.2.1) (by unfold maxLen;omega) (by omega) (by exact N) ?_;intro v' w3 U W _);obtain ⟨d,a,_,h⟩:=H.out;refine ⟨⟨j+1,by rw [f.out.2];omega,by go_num,?_,a.grown W N λq e=>gJ d e⟩,by simp [intOf];omega⟩;rw [h,show 44*(j+1)=44*j+44 by omega];exact U
     . have hs:j=k:=(by omega);subst hs;have H:=hide2 d a;clear d a;go_wp2;go_ret;refine ⟨_,rfl,?_,H.out.2⟩;have:=H.out.1;rw [List.take_of_length_le (by rw [f.out.2];exact XI _)] at this;exact this
def QI (v b g N gone sp:Nat):Array ZT:=#[Z6 (ZX ⟨v,0,ZY⟩),Z7 Z9 b,Z5 (ZX ⟨g,0,ZY⟩) N N,Z7 Z8 gone,Z7 Z8 sp]
def ew (w:ZU) (r v b g N gone sp:Nat):Prop:=w.heap[r]?=ZX (Z4 (QI v b g N gone sp) 196 (0,0))
def ew.keep (h:ew w r v b g N gone sp) (e:w'.heap[r]?=w.heap[r]?):ew w' r v b g N gone sp:=e.trans h
def ew.lt (h:ew w r v b g N gone sp):r<w.heap.size:=(XJ.1 h).1
def ew.cells (h:ew w r v b g N gone sp):w.cell? ⟨r,0,ZY⟩=ZX (Z6 (ZX ⟨v,0,ZY⟩))/\w.cell? ⟨r,1,ZY⟩=ZX (Z7 Z9 b)/\w.cell? ⟨r,2,ZY⟩=ZX (Z5 (ZX ⟨g,0,ZY⟩) N N)/\w.cell? ⟨r,3,ZY⟩=ZX (Z7 Z8 gone)/\w.cell? ⟨r,4,ZY⟩=ZX (Z7 Z8 sp):=by
 have a:w.heap[r]?=ZX (Z4 (QI v b g N gone sp) 196 (0,0)):=h;simp [World.cell?,a,QI]
def ew.free (h:ew w r v b g N gone sp) (i:Nat):w.frozen? ⟨r,i,ZY⟩=ZV:=by
 have a:w.heap[r]?=ZX (Z4 (QI v b g N gone sp) 196 (0,0)):=h;simp [World.frozen?,a]
theorem vC (w:ZU) {ops:Array ZR} {rest:List ZR} {o:ZR} {a:Act} {Q:Exit->Act->ZU->Prop}
 (h:o.guard=ZY) (l c:ZQ) (e:o.op=Op.makeSlice 95 l c) (C:Int) (n:Nat) (i:a.eval l=Z7 Z9 C) (g:a.eval c=Z7 Z9 C) (f:C=(n:Int)) (j:n<=1000000)
 (hK:∀ w',w'.rowIs w.heap.size 34 n (λ_=>Z5 ZY 0 0)->bW w w'->w'.heap.size=w.heap.size+1->wpList ZP ops Q rest (a.put o.dst (Z5 (ZX ⟨w.heap.size,0,ZY⟩) n n)) w') :
 wpList ZP ops Q (o::rest) a w:=by
 refine wpList_plain h λK d=>?_;have b:=run_make_row' (P:=ZP) 95 34 (Z5 ZY 0 0) 24 underlying95 Tryz.TY rfl .i64 .i64 n (by omega) (by omega) w;subst f;unfold Oper.wp;simp [execOp,e,i,g,b,Result.andThen];exact d _ _ (hK _ (World.rowIs_made w _ n _) (bA _ _) (nblk_alloc _ _))
theorem tw (w:ZU) (n:TypeId) (g N c:Nat) (f:Nat->ZT) (h:w.rowIs g 34 N f) (s:0<N):(Builtin.clear_ #[95] n #[Z5 (ZX ⟨g,0,ZY⟩) N c]).run ZP w=.ok (Z0 #[]) (w.setRow g (XR N (Value.slice ZY 0 0)).toArray):=by
 obtain ⟨cs,d,e,o⟩:=h;obtain ⟨t,b,j,q,r⟩:=info_parts Tryz.TY;have l:(Builtin.zeroCells (Value.cells (Z5 ZY 0 0)) N).toList=XR N (Value.slice ZY 0 0):=by
  apply List.ext_getElem
  . simp [Builtin.zeroCells,Value.cells]
  . intro i _ _;simp [Builtin.zeroCells,Value.cells,Nat.mod_one]
 have a:=run_storeCells_from (P:=ZP) g 34 (XR N (Value.slice ZY 0 0)) 0 cs w d (by simp [e]) (λv k=>by rw [Yc k];rfl);have p:N≠0:=by omega
 simp only [Yt,XS] at a;obtain ⟨m,rfl⟩:∃ m,N=m+1:=⟨N-1,by omega⟩;simp [Builtin.clear_,run_underlying underlying95,zeroValue,typeInfo,b,j,l,a]
theorem zd (w:ZU) {ops:Array ZR} {rest:List ZR} {o:ZR} {a:Act} {Q:Exit->Act->ZU->Prop} (j:o.guard=ZY) (s:ZQ)
 (ho:o.op=.call { callee:=.builtin .clear,args:=#[s],argTypes:=#[95] }) (h0:o.dst=ZY) {g N c:Nat} {f:Nat->ZT} (hv:a.eval s=Z5 (ZX ⟨g,0,ZY⟩) N c) (hr:w.rowIs g 34 N f) (hN:0<N)
 (h:∀ w',w'.rowIs g 34 N (λ_=>Z5 ZY 0 0)->aa (λk=>k=g) w w'->wpList ZP ops Q rest a w'):wpList ZP ops Q (o::rest) a w:=by
 refine wpList_plain j λK hK=>?_;unfold Oper.wp execOp;simp only [ho,resolve,invoke,builtin,Sem.run_bind,Sem.run_pure,Result.andThen_ok,XP,XM,XN,hv,tw w _ g N c f hr hN];have b:=aI w g (XR N (Value.slice ZY 0 0)).toArray;obtain ⟨cs,d,_⟩:=hr;refine hK _ _ ?_;rw [h0];exact h _ ⟨_,setRow_heap _ _ _ _ _ _ d,by simp,λi m=>by simp [m]⟩ ⟨b.os,b.tape,b.output,b.size,λk n l=>b.block k n (λe=>l (Yg e))⟩
def DL (w:ZU) (r:Nat) {v b0 g N gone sp:Nat} (h:ew w r v b0 g N gone sp) (b ho:Nat):ew (((w.setCell ⟨r,1,ZY⟩ (Z7 Z9 b)).setCell ⟨r,3,ZY⟩ (Z7 Z8 0)).setCell ⟨r,4,ZY⟩ (Z7 Z8 ho)) r v b g N 0 ho/\aa (λk=>k=r) w (((w.setCell ⟨r,1,ZY⟩ (Z7 Z9 b)).setCell ⟨r,3,ZY⟩ (Z7 Z8 0)).setCell ⟨r,4,ZY⟩ (Z7 Z8 ho)):=by
 refine ⟨?_,((aa.setCell (S:=λk=>k=r) w ⟨r,1,ZY⟩ _ rfl).trans (aa.setCell _ ⟨r,3,ZY⟩ _ rfl)).trans (aa.setCell _ ⟨r,4,ZY⟩ _ rfl)⟩;have a:=heap_setCell_same w r 1 _ _ (Z7 Z9 b) h;have c:=heap_setCell_same _ r 3 _ _ (Z7 Z8 0) a;exact heap_setCell_same _ r 4 _ _ (Z7 Z8 ho) c
theorem MJ {b0:Nat} (h:ew w r v b0 g N gone sp) (m:bt w v p D L G ps ho) (n:w.rowIs g 34 N f) (x:0<N) (d:g≠r) (u:v≠g) (b:Nat) :
 ZS ZP 111 #[Z6 (ZX ⟨r,0,ZY⟩),Z7 Z9 b] w λe w'=>e=Z3 (Z0 #[])/\ew w' r v b g N 0 ho/\w'.rowIs g 34 N (λ_=>Z5 ZY 0 0)/\aa (λk=>k=r\/k=g) w w':=by
 obtain ⟨o,c1,q,s,t⟩:=h.cells;have H:=hide3 h m n;clear h m n;go_enter func111,ntmps111;go_wp2_with (show wpList _ _ _ ({ dst:=ZY,op:=.call { callee:=.builtin .clear,args:=_,argTypes:=_ },type:=_,pos:=_,after:=_,guard:=_ }::_) _ _;refine zd _ rfl (Z1 7) rfl rfl (g:=g) (N:=N) (c:=N) (f:=f) rfl (by exact H.out.2.2) x ?_;intro w1 l a;obtain ⟨z,d1,A,B,C⟩:=(H.out.1.keep (a.block _ H.out.1.lt (λe=>d e.symm))).cells;obtain ⟨_,_,_,_,_,J⟩:=(H.out.2.1.keep (a.block _ H.out.2.1.lt u)).cells;have E:=(H.out.1.keep (a.block _ H.out.1.lt (λe=>d e.symm))).free 1;have F:=(H.out.1.keep (a.block _ H.out.1.lt (λe=>d e.symm))).free 3;have I:=(H.out.1.keep (a.block _ H.out.1.lt (λe=>d e.symm))).free 4;have i:=hide2 l a;clear l a o c1 q s t);first|go_end0|skip
 have y:=H.out.1.keep (i.out.2.block _ H.out.1.lt (λe=>d e.symm));have j:=DL w1 r y b ho;refine ⟨rfl,j.1,i.out.1.of_block (j.2.block _ i.out.1.lt (λe=>d e)),(i.out.2.mono λ_ _ e=>.inr e).trans (j.2.mono λ_ _ e=>.inl e)⟩
def kG {v:ZT} {S:ZU->Prop} (i:(execOp a.eval o).run P w=.ok (.value v) w') (f:∀ c,o.op≠.defer c) {d:Nat} (g:o.dst=ZX d) (h:B w'/\Vi v w'/\S w') :
 o.wpIn Fence.wide n P a w (λb w'=>∃ v,b=a.put o.dst v/\(o.dst=ZY->v=ZZ)/\B w'/\Vi v w'/\S w') Q:=by
 refine ⟨λ_ _=>trivial,?_⟩;rw [Oper.semAt_plain _ _ _ f,i];exact ⟨v,rfl,λe=>(by rw [g] at e;cases e),h.1,h.2.1,h.2.2⟩
def JU {w1:ZU} {f:FuncId} {args:Array ZT} {Rr:Ending->ZU->Prop} {S:ZU->Prop} (l:(execOp a.eval o).run P w=.ok (.enter f args) w1) (g:∀ c,o.op≠.defer c) {d:Nat} (k:o.dst=ZX d) (j:ZS P f args w1 Rr)
 (h:∀ e w',Rr e w'->∃ v,e=Z3 v/\B w'/\Vi v w'/\S w'):o.wpIn Fence.wide n P a w (λb w'=>∃ v,b=a.put o.dst v/\(o.dst=ZY->v=ZZ)/\B w'/\Vi v w'/\S w') Q:=by
 refine ⟨λ_ _=>trivial,?_⟩;rw [Oper.semAt_plain _ _ _ g,l];refine ⟨λh=>(by cases h),(callsIn_wide.2 (j.mono λe w' i=>?_))⟩;obtain ⟨v,rfl,m,p,q⟩:=h e w' i;exact ⟨v,rfl,λe=>(by rw [k] at e;cases e),m,p,q⟩
def jB {D:Nat->Bool} {j:Nat} (h:j≠i):dR D i j=D j:=if_neg h
def kI {D:Nat->Bool}:dR D i i=ZW:=if_pos rfl
def MK (w:ZU) (S:Nat) (Dn:Nat->Bool) (w':ZU):Prop:=w'=if Dn 11=ZW then w.drew.alloc (Z4 #[Z7 Z8 S] 124) else w.drew
def kJ (h:MK w S Dn w') (i:Nat) (a:11≠i):MK w S (dR Dn i) w':=by unfold MK;rw [jB a];exact h
theorem oS (h:MK w S Dn w') {a:Addr} {v:ZT} (b:w.cell? a=ZX v):w'.cell? a=ZX v:=by
 unfold MK at h;subst h;split
 . exact (World.cell?_alloc_some w.drew a _ (by rw [show w.drew.cell? a=w.cell? a from rfl,b];rfl)).trans b
 . exact b
def Ki (w:ZU) (K:ZU->Prop) (Dn:Nat->Bool) (w':ZU):Prop:=if Dn 9=ZW then K w' else w'=w.drew
def my (h:Ki w K Dn w') (i:Nat) (a:9≠i):Ki w K (dR Dn i) w':=by unfold Ki;rw [jB a];exact h
def ML (w:ZU) (g x q7:Nat) (Dn:Nat->Bool) (w':ZU):Prop:=w'=if Dn 8=ZW then w.drew.setCell ⟨g,x,ZY⟩ (Z5 (ZX ⟨q7,0,ZY⟩) 44 44) else w.drew
def mz {x:Nat} (h:ML w g x q7 Dn w') (i:Nat) (a:8≠i):ML w g x q7 (dR Dn i) w':=by unfold ML;rw [jB a];exact h
theorem A6 {x:Nat} (h:ML w g x q7 Dn w') {a:Addr} (c:a.block≠g) {v:ZT} (b:w.cell? a=ZX v):w'.cell? a=ZX v:=by
 unfold ML at h;subst h;split
 . exact (World.cell?_of_block (blk_setCell_other _ _ _ _ c)).trans b
 . exact b
noncomputable def QJ:Array ZR:=((Tryz.f126.body.bind (mW · 1))).getD #[]
def Kj:List (Op×Option Nat×List Nat):=[(Op.move (Z1 1),ZX 9,[]),
 (Op.load 144 (Z1 2),ZX 10,[]),
 (Op.nilCheck (Z1 10),ZX 11,[1]),
 (Op.fieldAddr 196 (Z1 11) 3,ZX 12,[2]),
 (Op.load 124 (Z1 12),ZX 13,[3]),
 (Op.binOp BinOp.andNot 124 (Z1 9) (Z1 13) 124,ZX 14,[0,4]),
 (Op.load 144 (Z1 2),ZX 15,[]),
 (Op.nilCheck (Z1 15),ZX 16,[6]),
 (Op.fieldAddr 196 (Z1 16) 4,ZX 17,[7]),
 (Op.load 124 (Z1 17),ZX 18,[8]),
 (Op.binOp BinOp.andNot 124 (Z1 14) (Z1 18) 124,ZX 19,[5,9]),
 (Op.call { callee:=Callee.value (Operand.func 129),args:=#[Z1 19],argTypes:=#[124] },ZX 20,[10])]
def DM:aN QJ 9 21 Kj:=bx (by kernel_rfl) (by kernel_rfl)
def A7 (w:ZU) (r S gone sp S1 S2:Nat):List ZT:=[Z7 Z8 S,Z6 (ZX ⟨r,0,ZY⟩),Z6 (ZX ⟨r,0,ZY⟩),Z6 (ZX ⟨r,3,ZY⟩),Z7 Z8 gone,Z7 Z8 S1,Z6 (ZX ⟨r,0,ZY⟩),Z6 (ZX ⟨r,0,ZY⟩),Z6 (ZX ⟨r,4,ZY⟩),Z7 Z8 sp,Z7 Z8 S2,.func (.func 153) #[] #[Z6 (ZX ⟨w.heap.size,0,ZY⟩)]]
theorem vD {S1 S2:Nat} (F:Boxed w q 144 (Z6 (ZX ⟨r,0,ZY⟩))) (K:ew w r v b g N gone sp) (P:bits .andNot .u64 (S:Int) (gone:Int)=(S1:Int)) (R:bits .andNot .u64 (S1:Int) (sp:Int)=(S2:Int)) (G:QJ=ops) (T:a.tmps.size=100)
 (E:a.eval (Z1 1)=Z7 Z8 S) (B:a.eval (Z1 2)=Z6 (ZX ⟨q,0,ZY⟩))
 (I:∀ (w':ZU),w'=w.drew.alloc (Z4 #[Z7 Z8 S2] 124)->Q .normal (Act.putFrom a 9 [Z7 Z8 S,Z6 (ZX ⟨r,0,ZY⟩),Z6 (ZX ⟨r,0,ZY⟩),Z6 (ZX ⟨r,3,ZY⟩),Z7 Z8 gone,Z7 Z8 S1,Z6 (ZX ⟨r,0,ZY⟩),Z6 (ZX ⟨r,0,ZY⟩),Z6 (ZX ⟨r,4,ZY⟩),Z7 Z8 sp,Z7 Z8 S2,.func (.func 153) #[] #[Z6 (ZX ⟨w.heap.size,0,ZY⟩)]]) w'):(Code.region 1 ops ZW).wpIn Fence.wide n ZP Q a w:=by
 subst G;obtain ⟨_,_,_,C,D⟩:=K.cells;have A:=F.cell;refine dO (by kernel_rfl) DM a w (by omega) (λi u _=>u=(A7 w r S gone sp S1 S2).getD i ZZ) (MK w S2) rfl ?_ ?_
 . intro i z;match i,z with
   | 0,_=>
    intro o k w' Dn x ho l p s t m j d;have u0:k.eval (Z1 1)=Z7 Z8 S:=(p.slot 1 (by omega)).trans E;exact kG (ag ho u0 w') (by rw [ho];intro c h;cases h) l ⟨kJ j 0 (by decide),rfl,kq⟩
   | 1,_=>
    intro o k w' Dn x ho l p s t m j d;have u0:k.eval (Z1 2)=Z6 (ZX ⟨q,0,ZY⟩):=(p.slot 2 (by omega)).trans B;have y:w'.cell? ⟨q,0,ZY⟩=ZX (Z6 (ZX ⟨r,0,ZY⟩)):=oS j A;exact kG (v:=Z6 (ZX ⟨r,0,ZY⟩)) (by simp only [execOp,show o.op=Op.load 144 (Z1 2) from ho,u0];go_simp) (by rw [ho];intro c h;cases h) l ⟨kJ j 1 (by decide),rfl,kq⟩
   | 2,_|3,_|7,_|8,_=>
    intro o k w' Dn x ho l p s t m j d;have u0:=d _ (m _ (.head _));simp only [Kj,A7,bZ,cT,pM,pL] at ho u0;exact kG (by simp only [execOp,ho,u0,A7,pM,pL];go_simp) (by rw [ho];intro c h;cases h) l ⟨kJ j _ (by decide),rfl,kq⟩
   | 5,_|10,_=>
    intro o k w' Dn x ho l p s t m j d;have u0:=d _ (m _ (.head _));have u1:=d _ (m _ (.tail _ (.head _)));simp only [Kj,A7,bZ,cT,pM,pL] at ho u0 u1;exact kG (by simp only [execOp,ho,u0,u1,A7,pM,pL];go_simp) (by rw [ho];intro c h;cases h) l ⟨kJ j _ (by decide),rfl,kq⟩
   | 4,_=>
    intro o k w' Dn x ho l p s t m j d;have u0:k.eval (Z1 12)=Z6 (ZX ⟨r,3,ZY⟩):=d 3 (m 3 (by decide));have y:w'.cell? ⟨r,3,ZY⟩=ZX (Z7 Z8 gone):=oS j C;exact kG (v:=Z7 Z8 gone) (by simp only [execOp,show o.op=Op.load 124 (Z1 12) from ho,u0];go_simp) (by rw [ho];intro c h;cases h) l ⟨kJ j 4 (by decide),rfl,kq⟩
   | 6,_=>
    intro o k w' Dn x ho l p s t m j d;have u0:k.eval (Z1 2)=Z6 (ZX ⟨q,0,ZY⟩):=(p.slot 2 (by omega)).trans B;have y:w'.cell? ⟨q,0,ZY⟩=ZX (Z6 (ZX ⟨r,0,ZY⟩)):=oS j A;exact kG (v:=Z6 (ZX ⟨r,0,ZY⟩)) (by simp only [execOp,show o.op=Op.load 144 (Z1 2) from ho,u0];go_simp) (by rw [ho];intro c h;cases h) l ⟨kJ j 6 (by decide),rfl,kq⟩
   | 9,_=>
    intro o k w' Dn x ho l p s t m j d;have u0:k.eval (Z1 17)=Z6 (ZX ⟨r,4,ZY⟩):=d 8 (m 8 (by decide));have y:w'.cell? ⟨r,4,ZY⟩=ZX (Z7 Z8 sp):=oS j D;exact kG (v:=Z7 Z8 sp) (by simp only [execOp,show o.op=Op.load 124 (Z1 17) from ho,u0];go_simp) (by rw [ho];intro c h;cases h) l ⟨kJ j 9 (by decide),rfl,kq⟩
   | 11,_=>
    intro o k w' Dn x ho l p s t m j d;have u0:k.eval (Z1 19)=Z7 Z8 S2:=d 10 (m 10 (by decide));refine JU (f:=129) (args:=#[Z7 Z8 S2]) (w1:=w') (by simp only [execOp,show o.op=Op.call { callee:=Callee.value (Operand.func 129),args:=#[Z1 19],argTypes:=#[124] } from ho];go_simp;simpa [Act.eval] using u0) (by rw [ho];intro c h;cases h) l (dC S2 w') ?_;rintro e M ⟨rfl,rfl⟩;have L:w'=w.drew:=(by have:=j;unfold MK at this;rw [if_neg (by rw [s];decide)] at this;exact this);subst L;exact ⟨_,rfl,by unfold MK;rw [if_pos kI],rfl,kq⟩
   | n+12,hn=>exact absurd hn (by show ¬ n+12<12;omega)
 . rintro k w' J O ⟨Dn,H,j⟩ d;have e:k=Act.putFrom a 9 [Z7 Z8 S,Z6 (ZX ⟨r,0,ZY⟩),Z6 (ZX ⟨r,0,ZY⟩),Z6 (ZX ⟨r,3,ZY⟩),Z7 Z8 gone,Z7 Z8 S1,Z6 (ZX ⟨r,0,ZY⟩),Z6 (ZX ⟨r,0,ZY⟩),Z6 (ZX ⟨r,4,ZY⟩),Z7 Z8 sp,Z7 Z8 S2,.func (.func 153) #[] #[Z6 (ZX ⟨w.heap.size,0,ZY⟩)]]:=J.out _ rfl (by omega) (λi z=>?_)
   . rw [e];exact I w' (by unfold MK at j;rw [if_pos (H 11 (by decide))] at j;exact j)
   . match i,z with
     | 0,_=>exact d 0 (by decide)
     | 1,_=>exact d 1 (by decide)
     | 2,_=>exact d 2 (by decide)
     | 3,_=>exact d 3 (by decide)
     | 4,_=>exact d 4 (by decide)
     | 5,_=>exact d 5 (by decide)
     | 6,_=>exact d 6 (by decide)
     | 7,_=>exact d 7 (by decide)
     | 8,_=>exact d 8 (by decide)
     | 9,_=>exact d 9 (by decide)
     | 10,_=>exact d 10 (by decide)
     | 11,_=>exact d 11 (by decide)
     | n+12,hn=>exact absurd hn (by simp)
noncomputable def SG:Array ZR:=((Tryz.f126.body.bind (mW · 4))).getD #[]
def QK:List (Op×Option Nat×List Nat):=[(Op.load 144 (Z1 2),ZX 31,[]),
 (Op.nilCheck (Z1 31),ZX 32,[0]),
 (Op.fieldAddr 196 (Z1 32) 0,ZX 33,[1]),
 (Op.load 115 (Z1 33),ZX 34,[2]),
 (Op.move (Z1 4),ZX 35,[]),
 (Op.load 144 (Z1 2),ZX 36,[]),
 (Op.nilCheck (Z1 36),ZX 37,[5]),
 (Op.fieldAddr 196 (Z1 37) 1,ZX 38,[6]),
 (Op.load 3 (Z1 38),ZX 39,[7]),
 (Op.call { callee:=Callee.value (Operand.func 137),args:=#[Z1 34,Z1 35,Z1 39],argTypes:=#[115,3,3] },ZX 40,[3,4,8]),
 (Op.move (Z1 40),ZX 30,[9]),
 (Op.extract (Z1 30) 0,ZX 41,[10]),
 (Op.extract (Z1 30) 1,ZX 42,[10]),
 (Op.assign (Z1 41),ZX 5,[11,9,0,1,2,3,4,5,6,7,8,9,10,11]),
 (Op.assign (Z1 42),ZX 6,[12,13,0,1,2,3,4,5,6,7,8,9,10,11,12,13])]
def GF:aN SG 5 43 QK:=bx (by kernel_rfl) (by kernel_rfl)
def O9 (r v x b:Nat) (Xv Yv:ZT):List ZT:=[Z6 (ZX ⟨r,0,ZY⟩),Z6 (ZX ⟨r,0,ZY⟩),Z6 (ZX ⟨r,0,ZY⟩),Z6 (ZX ⟨v,0,ZY⟩),Z7 Z9 x,Z6 (ZX ⟨r,0,ZY⟩),Z6 (ZX ⟨r,0,ZY⟩),Z6 (ZX ⟨r,1,ZY⟩),Z7 Z9 b,Z0 #[Xv,Yv],Z0 #[Xv,Yv],Xv,Yv,Xv,Yv]
theorem m4 {Xv Yv:ZT} (x:Nat) (L:ZS ZP 137 #[Z6 (ZX ⟨v,0,ZY⟩),Z7 Z9 x,Z7 Z9 b] w.drew λe w'=>e=Z3 (Z0 #[Xv,Yv])/\K w') (J:Boxed w q 144 (Z6 (ZX ⟨r,0,ZY⟩))) (S:ew w r v b g N gone sp) (P:SG=ops) (U:a.tmps.size=100)
 (F:a.eval (Z1 2)=Z6 (ZX ⟨q,0,ZY⟩)) (I:a.eval (Z1 4)=Z7 Z9 x)
 (O:∀ (w':ZU),K w'->Q .normal (Act.putFrom (Act.putFrom a 5 [Xv,Yv]) 30 [Z0 #[Xv,Yv],Z6 (ZX ⟨r,0,ZY⟩),Z6 (ZX ⟨r,0,ZY⟩),Z6 (ZX ⟨r,0,ZY⟩),Z6 (ZX ⟨v,0,ZY⟩),Z7 Z9 x,Z6 (ZX ⟨r,0,ZY⟩),Z6 (ZX ⟨r,0,ZY⟩),Z6 (ZX ⟨r,1,ZY⟩),Z7 Z9 b,Z0 #[Xv,Yv],Xv,Yv]) w'):(Code.region 4 ops ZW).wpIn (Fence.wide.inRound l) n ZP Q a w:=by
 subst P;have E:=J.cell;obtain ⟨H,c1,_⟩:=S.cells;refine dO (by kernel_rfl) GF a w (by omega) (λi u _=>u=(O9 r v x b Xv Yv).getD i ZZ) (Ki w K) rfl ?_ ?_
 . intro i C;match i,C with
   | 0,_=>
    intro o k w' Dn B ho s A y m t j d;have u0:k.eval (Z1 2)=Z6 (ZX ⟨q,0,ZY⟩):=(A.slot 2 (by omega)).trans F;have z:w'=w.drew:=by
     have p:=j;unfold Ki at p;rwa [if_neg (λe=>by have q:=((m 1 ((m 2 ((m 3 ((m 9 e).2 3 (by decide))).2 2 (by decide))).2 1 (by decide))).2 0 (by decide));rw [y] at q;cases q)] at p
    have D:w'.cell? ⟨q,0,ZY⟩=ZX (Z6 (ZX ⟨r,0,ZY⟩)):=(by rw [z];exact E);exact aU (v:=Z6 (ZX ⟨r,0,ZY⟩)) (by simp only [execOp,show o.op=Op.load 144 (Z1 2) from ho,u0];go_simp) (by rw [ho];intro c h;cases h) s ⟨my j 0 (by decide),rfl,kq⟩
   | 1,_|2,_|6,_|7,_|10,_|11,_|12,_|13,_|14,_=>
    intro o k w' Dn B ho s A y m t j d;have u0:=d _ (t _ (.head _));simp only [QK,O9,bZ,cT,pM,pL] at ho u0;exact aU (by simp only [execOp,ho,u0,O9,pM,pL];go_simp) (by rw [ho];intro c h;cases h) s ⟨my j _ (by decide),rfl,kq⟩
   | 3,_=>
    intro o k w' Dn B ho s A y m t j d;have u0:k.eval (Z1 33)=Z6 (ZX ⟨r,0,ZY⟩):=d 2 (t 2 (by decide));have z:w'=w.drew:=by
     have p:=j;unfold Ki at p;rwa [if_neg (λe=>by have q:=((m 9 e).2 3 (by decide));rw [y] at q;cases q)] at p
    have D:w'.cell? ⟨r,0,ZY⟩=ZX (Z6 (ZX ⟨v,0,ZY⟩)):=(by rw [z];exact H);exact aU (v:=Z6 (ZX ⟨v,0,ZY⟩)) (by simp only [execOp,show o.op=Op.load 115 (Z1 33) from ho,u0];go_simp) (by rw [ho];intro c h;cases h) s ⟨my j 3 (by decide),rfl,kq⟩
   | 4,_=>
    intro o k w' Dn B ho s A y m t j d;have u0:k.eval (Z1 4)=Z7 Z9 x:=(A.slot 4 (by omega)).trans I;exact aU (ag ho u0 w') (by rw [ho];intro c h;cases h) s ⟨my j 4 (by decide),rfl,kq⟩
   | 5,_=>
    intro o k w' Dn B ho s A y m t j d;have u0:k.eval (Z1 2)=Z6 (ZX ⟨q,0,ZY⟩):=(A.slot 2 (by omega)).trans F;have z:w'=w.drew:=by
     have p:=j;unfold Ki at p;rwa [if_neg (λe=>by have q:=((m 6 ((m 7 ((m 8 ((m 9 e).2 8 (by decide))).2 7 (by decide))).2 6 (by decide))).2 5 (by decide));rw [y] at q;cases q)] at p
    have D:w'.cell? ⟨q,0,ZY⟩=ZX (Z6 (ZX ⟨r,0,ZY⟩)):=(by rw [z];exact E);exact aU (v:=Z6 (ZX ⟨r,0,ZY⟩)) (by simp only [execOp,show o.op=Op.load 144 (Z1 2) from ho,u0];go_simp) (by rw [ho];intro c h;cases h) s ⟨my j 5 (by decide),rfl,kq⟩
   | 8,_=>
    intro o k w' Dn B ho s A y m t j d;have u0:k.eval (Z1 38)=Z6 (ZX ⟨r,1,ZY⟩):=d 7 (t 7 (by decide));have z:w'=w.drew:=by
     have p:=j;unfold Ki at p;rwa [if_neg (λe=>by have q:=((m 9 e).2 8 (by decide));rw [y] at q;cases q)] at p
    have D:w'.cell? ⟨r,1,ZY⟩=ZX (Z7 Z9 b):=(by rw [z];exact c1);exact aU (v:=Z7 Z9 b) (by simp only [execOp,show o.op=Op.load 3 (Z1 38) from ho,u0];go_simp) (by rw [ho];intro c h;cases h) s ⟨my j 8 (by decide),rfl,kq⟩
   | 9,_=>
    intro o k w' Dn B ho s A y m t j d;have u0:k.eval (Z1 34)=Z6 (ZX ⟨v,0,ZY⟩):=d 3 (t 3 (by decide));have u1:k.eval (Z1 35)=Z7 Z9 x:=d 4 (t 4 (by decide));have u2:k.eval (Z1 39)=Z7 Z9 b:=d 8 (t 8 (by decide));have z:w'=w.drew:=by
     have p:=j;unfold Ki at p;rwa [if_neg (λe=>by have q:=e;rw [y] at q;cases q)] at p
    refine oD (f:=137) (args:=#[Z6 (ZX ⟨v,0,ZY⟩),Z7 Z9 x,Z7 Z9 b]) (w1:=w') (by simp only [execOp,show o.op=Op.call { callee:=Callee.value (Operand.func 137),args:=#[Z1 34,Z1 35,Z1 39],argTypes:=#[115,3,3] } from ho];go_simp;exact ⟨by simpa [Act.eval] using u0,by simpa [Act.eval] using u1,by simpa [Act.eval] using u2⟩) (by rw [ho];intro c h;cases h) s (by rw [z];exact L) ?_;rintro e T ⟨rfl,hK⟩;exact ⟨_,rfl,by unfold Ki;rw [if_pos kI];exact hK,rfl,kq⟩
   | n+15,hn=>exact absurd hn (by show ¬ n+15<15;omega)
 . rintro k w' G M ⟨Dn,R,j⟩ d;have e:k=Act.putFrom (Act.putFrom a 5 [Xv,Yv]) 30 [Z0 #[Xv,Yv],Z6 (ZX ⟨r,0,ZY⟩),Z6 (ZX ⟨r,0,ZY⟩),Z6 (ZX ⟨r,0,ZY⟩),Z6 (ZX ⟨v,0,ZY⟩),Z7 Z9 x,Z6 (ZX ⟨r,0,ZY⟩),Z6 (ZX ⟨r,0,ZY⟩),Z6 (ZX ⟨r,1,ZY⟩),Z7 Z9 b,Z0 #[Xv,Yv],Xv,Yv]:=RI G.size G.defers (Mv M) (by rfl) (by show 5+2<=30;omega) (by show 43<=_;omega) (λi C=>?_) (λi C=>?_)
   . rw [e];exact O w' (by unfold Ki at j;rw [if_pos (R 9 (by decide))] at j;exact j)
   . match i,C with
     | 0,_=>exact d 13 (by decide)
     | 1,_=>exact d 14 (by decide)
     | n+2,hn=>exact absurd hn (by simp)
   . match i,C with
     | 0,_=>exact d 10 (by decide)
     | 1,_=>exact d 0 (by decide)
     | 2,_=>exact d 1 (by decide)
     | 3,_=>exact d 2 (by decide)
     | 4,_=>exact d 3 (by decide)
     | 5,_=>exact d 4 (by decide)
     | 6,_=>exact d 5 (by decide)
     | 7,_=>exact d 6 (by decide)
     | 8,_=>exact d 7 (by decide)
     | 9,_=>exact d 8 (by decide)
     | 10,_=>exact d 9 (by decide)
     | 11,_=>exact d 11 (by decide)
     | 12,_=>exact d 12 (by decide)
     | n+13,hn=>exact absurd hn (by simp)
noncomputable def SH:Array ZR:=((Tryz.f126.body.bind (mW · 8))).getD #[]
def Pa:List (Op×Option Nat×List Nat):=[(Op.load 144 (Z1 2),ZX 47,[]),
 (Op.nilCheck (Z1 47),ZX 48,[0]),
 (Op.fieldAddr 196 (Z1 48) 2,ZX 49,[1]),
 (Op.load 95 (Z1 49),ZX 50,[2]),
 (Op.move (Z1 4),ZX 51,[]),
 (Op.fieldAddr 217 (Z1 7) 0,ZX 52,[]),
 (Op.slice 215 (Z1 52) ZY ZY ZY,ZX 53,[5]),
 (Op.indexAddr 95 (Z1 50) (Z1 51),ZX 54,[3,4,0,1,2,3,4,5,6]),
 (Op.store 34 (Z1 54) (Z1 53),ZY,[7,6,0,1,2,3,4,5,6])]
def GG:aN SH 47 55 Pa:=bx (by kernel_rfl) (by kernel_rfl)
def Kl (r g N x q7:Nat):List ZT:=[Z6 (ZX ⟨r,0,ZY⟩),Z6 (ZX ⟨r,0,ZY⟩),Z6 (ZX ⟨r,2,ZY⟩),Z5 (ZX ⟨g,0,ZY⟩) N N,Z7 Z9 x,Z6 (ZX ⟨q7,0,ZY⟩),Z5 (ZX ⟨q7,0,ZY⟩) 44 44,Z6 (ZX ⟨g,x,ZY⟩),ZZ]
theorem vF (K:Boxed w q 144 (Z6 (ZX ⟨r,0,ZY⟩))) (T:ew w r v b g N gone sp) (C:w.rowIs g 34 N f) (x:Nat) (V:x<N) (P:q≠g) (R:r≠g) (L:SH=ops) (Y:a.tmps.size=100)
 (G:a.eval (Z1 2)=Z6 (ZX ⟨q,0,ZY⟩)) (H:a.eval (Z1 4)=Z7 Z9 x) (I:a.eval (Z1 7)=Z6 (ZX ⟨q7,0,ZY⟩))
 (O:∀ (w':ZU),w'=w.drew.setCell ⟨g,x,ZY⟩ (Z5 (ZX ⟨q7,0,ZY⟩) 44 44)->Q .normal (Act.putFrom a 47 [Z6 (ZX ⟨r,0,ZY⟩),Z6 (ZX ⟨r,0,ZY⟩),Z6 (ZX ⟨r,2,ZY⟩),Z5 (ZX ⟨g,0,ZY⟩) N N,Z7 Z9 x,Z6 (ZX ⟨q7,0,ZY⟩),Z5 (ZX ⟨q7,0,ZY⟩) 44 44,Z6 (ZX ⟨g,x,ZY⟩)]) w'):(Code.region 8 ops ZW).wpIn (Fence.wide.inRound l) n ZP Q a w:=by
 subst L;obtain ⟨_,_,D,_,_⟩:=T.cells;have F:=K.cell;have E:=C.cell (i:=x) V;have J:=C.frozen x;refine dO (by kernel_rfl) GG a w (by omega) (λi u _=>u=(Kl r g N x q7).getD i ZZ) (ML w g x q7) rfl ?_ ?_
 . intro i A;match i,A with
   | 0,_=>
    intro o k w' Dn z ho p s t y m j d;have u0:k.eval (Z1 2)=Z6 (ZX ⟨q,0,ZY⟩):=(s.slot 2 (by omega)).trans G;have B:w'.cell? ⟨q,0,ZY⟩=ZX (Z6 (ZX ⟨r,0,ZY⟩)):=A6 j P F;exact aU (v:=Z6 (ZX ⟨r,0,ZY⟩)) (by simp only [execOp,show o.op=Op.load 144 (Z1 2) from ho,u0];go_simp) (by rw [ho];intro c h;cases h) p ⟨mz j 0 (by decide),rfl,kq⟩
   | 1,_|2,_|6,_=>
    intro o k w' Dn z ho p s t y m j d;have u0:=d _ (m _ (.head _));simp only [Pa,Kl,bZ,cT,pM,pL] at ho u0;exact aU (by simp only [execOp,ho,u0,Kl,pM,pL];go_simp) (by rw [ho];intro c h;cases h) p ⟨mz j _ (by decide),rfl,kq⟩
   | 7,_=>
    intro o k w' Dn z ho p s t y m j d;have u0:=d _ (m _ (.head _));have u1:=d _ (m _ (.tail _ (.head _)));simp only [Pa,Kl,bZ,cT,pM,pL] at ho u0 u1;exact aU (by simp only [execOp,ho,u0,u1,Kl,pM,pL];go_simp) (by rw [ho];intro c h;cases h) p ⟨mz j _ (by decide),rfl,kq⟩
   | 3,_=>
    intro o k w' Dn z ho p s t y m j d;have u0:k.eval (Z1 49)=Z6 (ZX ⟨r,2,ZY⟩):=d 2 (m 2 (by decide));have B:w'.cell? ⟨r,2,ZY⟩=ZX (Z5 (ZX ⟨g,0,ZY⟩) N N):=A6 j R D;exact aU (v:=Z5 (ZX ⟨g,0,ZY⟩) N N) (by simp only [execOp,show o.op=Op.load 95 (Z1 49) from ho,u0];go_simp) (by rw [ho];intro c h;cases h) p ⟨mz j 3 (by decide),rfl,kq⟩
   | 4,_=>
    intro o k w' Dn z ho p s t y m j d;have u0:k.eval (Z1 4)=Z7 Z9 x:=(s.slot 4 (by omega)).trans H;exact aU (ag ho u0 w') (by rw [ho];intro c h;cases h) p ⟨mz j 4 (by decide),rfl,kq⟩
   | 5,_=>
    intro o k w' Dn z ho p s t y m j d;have u0:k.eval (Z1 7)=Z6 (ZX ⟨q7,0,ZY⟩):=(s.slot 7 (by omega)).trans I;exact aU (v:=Z6 (ZX ⟨q7,0,ZY⟩)) (by simp only [execOp,show o.op=Op.fieldAddr 217 (Z1 7) 0 from ho,u0];go_simp) (by rw [ho];intro c h;cases h) p ⟨mz j 5 (by decide),rfl,kq⟩
   | 8,_=>
    intro o k w' Dn z ho p s t y m j d;have u0:k.eval (Z1 54)=Z6 (ZX ⟨g,x,ZY⟩):=d 7 (m 7 (by decide));have u1:k.eval (Z1 53)=Z5 (ZX ⟨q7,0,ZY⟩) 44 44:=d 6 (m 6 (by decide));have U:w'=w.drew:=(by have:=j;unfold ML at this;rw [if_neg (by rw [t];decide)] at this;exact this);subst U;have B:w.drew.cell? ⟨g,x,ZY⟩=ZX (f x):=E;have W:w.drew.frozen? ⟨g,x,ZY⟩=ZV:=J;exact sU (w':=w.drew.setCell ⟨g,x,ZY⟩ (Z5 (ZX ⟨q7,0,ZY⟩) 44 44)) (by simp only [execOp,show o.op=Op.store 34 (Z1 54) (Z1 53) from ho,u0,u1];go_simp) (by rw [ho];intro c h;cases h) ⟨by unfold ML;rw [if_pos kI],rfl,kq⟩
   | n+9,hn=>exact absurd hn (by show ¬ n+9<9;omega)
 . rintro k w' S X ⟨Dn,M,j⟩ d;have e:k=Act.putFrom a 47 [Z6 (ZX ⟨r,0,ZY⟩),Z6 (ZX ⟨r,0,ZY⟩),Z6 (ZX ⟨r,2,ZY⟩),Z5 (ZX ⟨g,0,ZY⟩) N N,Z7 Z9 x,Z6 (ZX ⟨q7,0,ZY⟩),Z5 (ZX ⟨q7,0,ZY⟩) 44 44,Z6 (ZX ⟨g,x,ZY⟩)]:=S.out _ rfl (by omega) (λi A=>?_)
   . rw [e];exact O w' (by unfold ML at j;rw [if_pos (M 8 (by decide))] at j;exact j)
   . match i,A with
     | 0,_=>exact d 0 (by decide)
     | 1,_=>exact d 1 (by decide)
     | 2,_=>exact d 2 (by decide)
     | 3,_=>exact d 3 (by decide)
     | 4,_=>exact d 4 (by decide)
     | 5,_=>exact d 5 (by decide)
     | 6,_=>exact d 6 (by decide)
     | 7,_=>exact d 7 (by decide)
     | n+8,hn=>exact absurd hn (by simp)
def AK (D:List (List Nat)) (l:List Nat):Prop:=l.length=(D.getD 0 []).length/\l.length<=4096
def QD (D:List (List Nat)):Prop:=∀ i (hi:i<D.length),AK D D[i]
def Ta (D:List (List Nat)) (i:ZT):Prop:=∃ k:Nat,k<=D.length/\i=Z7 Z9 k/\∀ j (hj:j<D.length),j<k->AK D D[j]
def OT (D:List (List Nat)) (w:ZU) (e:Ending) (w':ZU):Prop:=∃ r:Bool,e=Z3 (Z2 r)/\(r=ZW↔QD D)/\w'=w
theorem JN (x:ZT) (D:List (List Nat)) (w:ZU) (H:Rd w x D) (g:0<D.length) :
 ZS ZP 180 #[x] w λe w'=>OT D w e w':=by
 rcases H.cases with ⟨rfl,_⟩|⟨b,off,c,rfl,R,l⟩
 . simp at g
 obtain ⟨u0,s,F⟩:=l 0 g;obtain ⟨B,L,rfl,l1,J,_,_⟩:=F;have q:(D.getD 0 []).length=(D[0]).length:=by simp [g]
 have C:(D[0]).length<=140737488355328:=by omega
 rw [<- q] at s C;rw [Nat.add_zero] at s;have y:=hide l;clear l l1 J q;go_enter func180,ntmps180;go_wp2;go_loop [7] (λi=>Ta D i) (λi=>D.length-(intOf i).toNat)
 case atStart=>exact ⟨0,XH _,rfl,λj m h=>absurd h (by omega)⟩
 case round=>
  obtain ⟨k,Q,rfl,d⟩:=hrel;by_cases r:k<D.length
  . obtain ⟨u,S,G⟩:=y.out k r;obtain ⟨N,M,rfl,n,o,_,_⟩:=G;have P:(D[k]).length<=140737488355328:=(by omega);by_cases a:AK D D[k]
    . have v:((((D[k]).length:Nat):Int) != (((D.getD 0 []).length:Nat):Int))=ZV:=(by rw [a.1];simp);have K:¬ (4096:Int)<(((D[k]).length:Nat):Int):=(by have:=a.2;omega);have A:Hid (∀ j (m:j<D.length),j<k+1->AK D D[j]):=by
       intro j m O;by_cases e:j=k
       . subst e;exact a
       . exact d j m (by omega)
      have E:=a.1;generalize (D.getD 0 []).length=n0 at *;generalize (D[k]).length=t at *;clear d a E n o;go_wp2;go_round
      case rel=>exact ⟨k+1,by omega,by go_num,A.out⟩
      case measure=>simp [intOf];omega
    . have p:Hid (¬ QD D):=λh=>a (h k r);by_cases f:(D[k]).length=(D.getD 0 []).length
      . have v:((((D[k]).length:Nat):Int) != (((D.getD 0 []).length:Nat):Int))=ZV:=(by rw [f];simp);have K:(4096:Int)<(((D[k]).length:Nat):Int):=by
         have:¬ (D[k]).length<=4096:=λh=>a ⟨f,h⟩;omega
        generalize (D.getD 0 []).length=n0 at *;generalize (D[k]).length=t at *;clear d a f n o;go_wp2;go_ret;exact ⟨ZV,rfl,⟨λh=>by simp at h,λh=>absurd h p.out⟩,rfl⟩
      . have v:((((D[k]).length:Nat):Int) != (((D.getD 0 []).length:Nat):Int))=ZW:=(by rw [bne_iff_ne];omega);generalize (D.getD 0 []).length=n0 at *;generalize (D[k]).length=t at *;clear d a f n o;go_wp2;go_ret;exact ⟨ZV,rfl,⟨λh=>by simp at h,λh=>absurd h p.out⟩,rfl⟩
  . have z:Hid (QD D):=λi I=>d i I (by omega);clear d;go_wp2;go_ret;exact ⟨ZW,rfl,⟨λ_=>z.out,λ_=>rfl⟩,rfl⟩
section
open Go.ChangeShapes Go.WideShapes
def Tryz.own:ownKnob ZP.godebug=ZY:=by kernel_rfl
def Tryz.et:ZP.globalNamed "errors.errorType"=ZX 0:=by kernel_rfl
def Tryz.rt:(ZP.cutTypes.find? (λx=>x.1 == "internal/reflectlite.rtype")).map (λx=>x.2)=ZX 148:=by kernel_rfl
def Tryz.VJ:((XG 361).filter λt=>ZP.rowNamed t [101,114,114,111,114])=[63]:=by kernel_rfl
def Tryz.size:ZP.types.size=361:=by kernel_rfl
def cf (w:ZU):Prop:=w.cell? ⟨0,0,ZY⟩=ZX (.iface 148 (.agg #[Z6 (ZX ⟨3,63,ZY⟩)]))
def sZ {W:ZU} (h:laidMetH ZP [("errors.errorType",Rows.laid_errors_errorType)] W):cf W:=by
 have i:laidMet ZP [] W/\handlesMet ZP [("errors.errorType",Rows.laid_errors_errorType)] W:=h;obtain ⟨name,u,k,c,d,e,f,a⟩:=i.2 _ (X0.2 rfl);have g:name=[101,114,114,111,114]:=(Yg c).symm;subst g;obtain rfl:=Yg (Tryz.rt.symm.trans d);have b:k∈(XG 361).filter λt=>ZP.rowNamed t [101,114,114,111,114]:=List.mem_filter.2 ⟨List.mem_range.2 (by rw [<- Tryz.size];exact e),f⟩;rw [Tryz.VJ] at b;obtain rfl:=X0.1 b;have j:typeHandle ZP 63=Z6 (ZX ⟨3,63,ZY⟩):=by kernel_rfl
 rw [j] at a;unfold cf;simpa using World.var?_cell Tryz.et a 0
end
def jz (n nb:Nat):ay:=⟨n,nb,-1,λ_=>ZV,λ_ _=>ZV,λ_ _=>zb,λ_=>0⟩
def nE (a:n<=1000) (b:nb<=1000000):(jz n nb).fit:=⟨a,b,λ_ _=>bE,λ_ _ x c=>by have:=Yc c;show x<256;omega⟩
def rM (w:ZU) (b nb:Nat):Prop:=w.rowIs b 255 (64*nb) (λ_=>Z7 .u8 0)
def tc (w:ZU) (b nb:Nat):Prop:=w.rowIs b 4 nb (λ_=>Z2 ZV)
def dV (nb:Nat) (q:Nat×Nat):List ZT:=[Z2 ZV,Z5 (ZX ⟨q.1,0,ZY⟩) nb nb,Z5 (ZX ⟨q.2,0,ZY⟩) nb nb,Z7 Z9 0]
def yQ (nb:Nat) (l:List (Nat×Nat)):List ZT:=l.flatMap (dV nb)
def Tryz.UZ:(ZP.info? 61).map (λi=>(i.zero,i.size,i.bytes))=ZX (ZX (.agg #[Z2 ZV,Z5 ZY 0 0,Z5 ZY 0 0,Z7 Z9 0]),4,64):=by kernel_rfl
def Tryz.U0:(ZP.info? 4).map (λi=>(i.zero,i.size,i.bytes))=ZX (ZX (Z2 ZV),1,1):=by kernel_rfl
def JO (w:ZU) (nb:Nat):rM (w.alloc (Z4 (madeCells (an zb) (nb*64)) 255)) w.heap.size nb:=by
 refine ⟨_,blk_alloc_new _ _,by rw [size_madeCells];omega,λi c=>?_⟩;have b:(an zb).size=64:=by rw [bB,bE]
 have d:i%64<64:=Nat.mod_lt _ (by decide);have a:(an zb)[i%64]! = Z7 .u8 0:=by
  have e:an zb=Yl 64 (Z7 .u8 0):=by simp only [an,aH,zb,List.map_replicate,List.toArray_replicate];rfl
  rw [getElem!_pos (an zb) (i%64) (by omega)];simp only [e,Array.getElem_replicate]
 simp [madeCells,b,a,show i<nb*64 by omega]
noncomputable def SB:Array ZR:=((Tryz.f14.body.bind (mW · 4))).getD #[]
def QE:List (Op×Option Nat×List Nat):=[(Op.move (Z1 5),ZX 11,[]),
 (Op.move (Z1 5),ZX 12,[]),
 (Op.nilCheck (Z1 12),ZX 13,[1]),
 (Op.fieldAddr 57 (Z1 13) 0,ZX 14,[2]),
 (Op.load 55 (Z1 14),ZX 15,[3]),
 (Op.move (Z1 1),ZX 16,[]),
 (Op.call { callee:=Callee.builtin Builtin.max,args:=#[Z1 16,Operand.const (Value.int IntKind.i64 0)],argTypes:=#[3,3] },ZX 17,[5]),
 (Op.makeSlice 58 (Z1 17) (Z1 17),ZX 18,[6,6]),
 (Op.move (Z1 1),ZX 19,[]),
 (Op.call { callee:=Callee.builtin Builtin.max,args:=#[Z1 19,Operand.const (Value.int IntKind.i64 0)],argTypes:=#[3,3] },ZX 20,[8]),
 (Op.makeSlice 59 (Z1 20) (Z1 20),ZX 21,[9,9]),
 (Op.build 61 #[(1,Z1 18),(2,Z1 21)],ZX 22,[7,10]),
 (Op.buildSlice 55 1 #[(0,Z1 22)],ZX 23,[11]),
 (Op.call { callee:=Callee.builtin Builtin.append,args:=#[Z1 15,Z1 23],argTypes:=#[55,55] },ZX 24,[4,12]),
 (Op.nilCheck (Z1 11),ZX 25,[0,0,1,2,3,4,5,6,7,8,9,10,11,12,13]),
 (Op.fieldAddr 57 (Z1 25) 0,ZX 26,[14,0,1,2,3,4,5,6,7,8,9,10,11,12,13]),
 (Op.store 55 (Z1 26) (Z1 24),ZY,[15,13,13,0,1,2,3,4,5,6,7,8,9,10,11,12,13])]
def Gq:aN SB 11 27 QE:=bx (by kernel_rfl) (by kernel_rfl)
def MA (w0:ZU) (p nb:Nat) (v0:ZT) (xs:List ZT) (k:Nat) (i:Nat) (u:ZT) (w:ZU):Prop:=match i with
 | 0|1|2|3|14|15=>u=Z6 (ZX ⟨p,0,ZY⟩)
 | 4=>u=v0
 | 5|6|8|9=>u=Z7 Z9 nb
 | 7=>∃ b,w0.heap.size<=b/\u=Z5 (ZX ⟨b,0,ZY⟩) nb nb/\rM w b nb
 | 10=>∃ b,w0.heap.size<=b/\u=Z5 (ZX ⟨b,0,ZY⟩) nb nb/\tc w b nb
 | 11=>∃ q:Nat×Nat,w0.heap.size<=q.1/\w0.heap.size<=q.2/\u=.agg (dV nb q).toArray/\rM w q.1 nb/\tc w q.2 nb
 | 12=>∃ (c:Nat) (q:Nat×Nat),w0.heap.size<=c/\w0.heap.size<=q.1/\w0.heap.size<=q.2/\u=Z5 (ZX ⟨c,0,ZY⟩) 1 1/\w.heap[c]?=ZX (Z4 (dV nb q).toArray 61 (0,0))/\rM w q.1 nb/\tc w q.2 nb
 | 13=>∃ q:Nat×Nat,w0.heap.size<=q.1/\w0.heap.size<=q.2/\w.ownsRow (p+1) 61 4 u (k+1) (xs++dV nb q)/\rM w q.1 nb/\tc w q.2 nb
 | 16=>∃ (v':ZT) (q:Nat×Nat),w.heap[p]?=ZX (Z4 #[v',Z7 Z9 (-1)] 57 (0,0))/\w0.heap.size<=q.1/\w0.heap.size<=q.2/\w.ownsRow (p+1) 61 4 v' (k+1) (xs++dV nb q)/\rM w q.1 nb/\tc w q.2 nb
 | _=>True
theorem lJ (j:∀ b,w0.heap.size<=b->b<w.heap.size->w'.heap[b]?=w.heap[b]?) (i:Nat) (u:ZT) (o:i≠13/\i≠16) (h:MA w0 p nb v0 xs k i u w):MA w0 p nb v0 xs k i u w':=by
 have l:∀ b,w0.heap.size<=b->rM w b nb->rM w' b nb:=λb e q=>World.rowIs.of_block q (j b e q.lt);have e:∀ b,w0.heap.size<=b->tc w b nb->tc w' b nb:=λb e q=>World.rowIs.of_block q (j b e q.lt);match i with
 | 0|1|2|3|14|15|4|5|6|8|9=>exact h
 | 7=>obtain ⟨b,a,d,f⟩:=h;exact ⟨b,a,d,l b a f⟩
 | 10=>obtain ⟨b,a,d,f⟩:=h;exact ⟨b,a,d,e b a f⟩
 | 11=>obtain ⟨q,a,d,f,g,m⟩:=h;exact ⟨q,a,d,f,l _ a g,e _ d m⟩
 | 12=>obtain ⟨c,q,r,a,d,f,g,m,s⟩:=h;exact ⟨c,q,r,a,d,f,(j c r (XJ.1 g).1).trans g,l _ a m,e _ d s⟩
 | 13=>exact absurd rfl o.1
 | 16=>exact absurd rfl o.2
 | n+17=>trivial
def OU (w0:ZU) (p:Nat) (v0:ZT) (D:Nat->Bool) (w:ZU):Prop:=(∀ k,k<w0.heap.size->(D 13=ZW->v0.ownBlock≠ZX k)->(D 16=ZW->k≠p)->w.heap[k]?=w0.heap[k]?)/\w0.heap.size<=w.heap.size/\w.os=w0.os/\w.tape=w0.tape/\w.output=w0.output
theorem rY {D:Nat->Bool} (h:OU w0 p v0 D w) (i:Nat) (a:w.heap.size<=w'.heap.size/\w'.os=w.os/\w'.tape=w.tape/\w'.output=w.output) (f:∀ k,k<w0.heap.size->(i=13->v0.ownBlock≠ZX k)->(i=16->k≠p)->w'.heap[k]?=w.heap[k]?):OU w0 p v0 (dR D i) w':=by
 obtain ⟨g,j,l,m,n⟩:=h;refine ⟨λk d b c=>?_,XL j a.1,a.2.1.trans l,a.2.2.1.trans m,a.2.2.2.trans n⟩;unfold dR at b c;refine (f k d (λe=>b (by rw [if_pos e.symm])) (λe=>c (by rw [if_pos e.symm]))).trans (g k d (λe=>b ?_) (λe=>c ?_))
 . split
   . rfl
   . exact e
 . split
   . rfl
   . exact e
def dM {D:Nat->Bool} (h:OU w0 p v0 D w) (i:Nat):OU w0 p v0 (dR D i) w:=rY h i ⟨XI _,rfl,rfl,rfl⟩ (λ_ _ _ _=>rfl)
def pV {D:Nat->Bool} (h:OU w0 p v0 D w) (i:Nat) (o:Obj):OU w0 p v0 (dR D i) (w.alloc o):=
 rY h i ⟨by simp,rfl,rfl,rfl⟩ (λk a _ _=>blk_alloc_lt _ _ _ (XO a h.2.1))
theorem Dv (hx:SB=ops) (ko:nb<=1000000) (B:k<=1000) (V:w.ownsRow (p+1) 61 4 v0 k xs)
 (W:w.heap[p]?=ZX (Z4 #[v0,Z7 Z9 (-1)] 57 (0,0))) (kp:a.tmps.size=29) (e5:a.eval (Z1 5)=Z6 (ZX ⟨p,0,ZY⟩)) (Z:a.eval (Z1 1)=Z7 Z9 nb)
 (hQ:∀ (w':ZU) (vs:List ZT) (O:ZT) (q:Nat×Nat),vs.length=16->w.heap.size<=q.1->w.heap.size<=q.2->w'.ownsRow (p+1) 61 4 O (k+1) (xs++dV nb q)->rM w' q.1 nb->tc w' q.2 nb->w'.heap[p]?=ZX (Z4 #[O,Z7 Z9 (-1)] 57 (0,0)) ->
  aa (λj=>j=p\/v0.ownBlock=ZX j) w w'->Q .normal (Act.putFrom a 11 vs) w'):(Code.region 4 ops ZW).wp ZP Q a w:=by
 subst hx;have X:p<w.heap.size:=(XJ.1 W).1;have n1:¬ (nb:Int)<0:=by omega
 have kh:∀ (i:Nat),QE.length=17:=λ_=>rfl;obtain ⟨ib,ki,k9,k8,k7⟩:=info_parts Tryz.zeroBlk;obtain ⟨ic,kj,kc,kb,ka⟩:=info_parts Tryz.U0;obtain ⟨id,U,kg,kf,ke⟩:=info_parts Tryz.UZ;refine cB (by kernel_rfl) Gq a w (by omega) (MA w p nb v0 xs k) (OU w p v0) ⟨λ_ _ _ _=>rfl,XI _,rfl,rfl,rfl⟩ ?_ ?_
 . intro i G;match i,G with
   | 0,_=>exact λo f w' D C ho m B y z l d h=>ae (ag ho ((B.slot 5 (by omega)).trans e5) w') m ⟨dM d _,rfl,kq⟩
   | 1,_=>exact λo f w' D C ho m B y z l d h=>ae (ag ho ((B.slot 5 (by omega)).trans e5) w') m ⟨dM d _,rfl,kq⟩
   | 2,_=>
    intro o f w' D C ho m B y z l d h;have u0:f.eval (Z1 12)=Z6 (ZX ⟨p,0,ZY⟩):=h 1 (l 1 (by decide));exact ae (eo ho u0 w') m ⟨dM d _,rfl,kq⟩
   | 3,_=>
    intro o f w' D C ho m B y z l d h;have u0:f.eval (Z1 13)=Z6 (ZX ⟨p,0,ZY⟩):=h 2 (l 2 (by decide));exact ae (v:=Z6 (ZX ⟨p,0,ZY⟩)) (by simp only [execOp,show o.op=Op.fieldAddr 57 (Z1 13) 0 from ho,u0];go_simp) m ⟨dM d _,rfl,kq⟩
   | 4,_=>
    intro o f w' D C ho m B y z l d h;have u0:f.eval (Z1 14)=Z6 (ZX ⟨p,0,ZY⟩):=h 3 (l 3 (by decide));have hv:D 13=ZV:=by
     cases q:D 13 with
     | false=>rfl
     | true=>have:=(z 13 q).2 4 (by decide);rw [y] at this;cases this
    have S:D 16=ZV:=by
     cases q:D 16 with
     | false=>rfl
     | true=>have:=(z 16 q).2 4 (by decide);rw [y] at this;cases this
    have c:w'.cell? ⟨p,0,ZY⟩=ZX v0:=by
     have:=(d.1 p X (λq=>by rw [hv] at q;cases q) (λq=>by rw [S] at q;cases q)).trans W;simp [World.cell?,this]
    exact ae (v:=v0) (by simp only [execOp,show o.op=Op.load 55 (Z1 14) from ho,u0];go_simp) m ⟨dM d _,rfl,kq⟩
   | 5,_=>exact λo f w' D C ho m B y z l d h=>ae (ag ho ((B.slot 1 (by omega)).trans Z) w') m ⟨dM d _,rfl,kq⟩
   | 6,_=>
    intro o f w' D C ho m B y z l d h;have u0:f.eval (Z1 16)=Z7 Z9 nb:=h 5 (l 5 (by decide));exact ae (v:=Z7 Z9 nb) (by have:=sG (P:=ZP) (s:=Z1 16) (t:=.const (Z7 Z9 0)) ho u0 rfl w';rwa [if_neg (show ¬ (0:Int)>(nb:Int) by omega)] at this) m ⟨dM d _,rfl,kq⟩
   | 7,_=>
    intro o f w' D C ho m B y z l d h;have u0:f.eval (Z1 17)=Z7 Z9 nb:=h 6 (l 6 (by decide));have R:=run_make (P:=ZP) w' 58 255 ib (.agg (an zb)) underlying58 ki k9 .i64 .i64 nb nb (by omega) (Int.le_refl _) (by rw [k7];omega) (by omega);rw [k8,Yh] at R;refine ae (v:=Z5 (ZX ⟨w'.heap.size,0,ZY⟩) nb nb) (w':=w'.alloc (Z4 (madeCells (an zb) (nb*64)) 255)) (by simp [execOp,show o.op=Op.makeSlice 58 (Z1 17) (Z1 17) from ho,u0,R,Value.cells]) m ⟨pV d _ _,⟨_,d.2.1,rfl,JO w' nb⟩,λj u A q=>?_⟩;refine lJ (λb _ J=>blk_alloc_lt _ _ _ J) j u ⟨λe=>?_,λe=>?_⟩ q
    . subst e;have:=(z 13 A).2 12 (by decide);have:=(z 12 this).2 11 (by decide);have:=(z 11 this).2 7 (by decide);rw [y] at this;cases this
    . subst e;have:=(z 16 A).2 7 (by decide);rw [y] at this;cases this
   | 8,_=>exact λo f w' D C ho m B y z l d h=>ae (ag ho ((B.slot 1 (by omega)).trans Z) w') m ⟨dM d _,rfl,kq⟩
   | 9,_=>
    intro o f w' D C ho m B y z l d h;have u0:f.eval (Z1 19)=Z7 Z9 nb:=h 8 (l 8 (by decide));exact ae (v:=Z7 Z9 nb) (by have:=sG (P:=ZP) (s:=Z1 19) (t:=.const (Z7 Z9 0)) ho u0 rfl w';rwa [if_neg (show ¬ (0:Int)>(nb:Int) by omega)] at this) m ⟨dM d _,rfl,kq⟩
   | 10,_=>
    intro o f w' D C ho m B y z l d h;have u0:f.eval (Z1 20)=Z7 Z9 nb:=h 9 (l 9 (by decide));have R:=run_make (P:=ZP) w' 59 4 ic (Z2 ZV) underlying59 kj kc .i64 .i64 nb nb (by omega) (Int.le_refl _) (by rw [ka];omega) (by omega);rw [kb,Yh,Nat.mul_one] at R;refine ae (v:=Z5 (ZX ⟨w'.heap.size,0,ZY⟩) nb nb) (w':=w'.alloc (Z4 (madeCells #[Z2 ZV] nb) 4)) (by simp [execOp,show o.op=Op.makeSlice 59 (Z1 20) (Z1 20) from ho,u0,R,Value.cells]) m ⟨pV d _ _,⟨_,d.2.1,rfl,World.rowIs_made w' (Z2 ZV) nb _⟩,λj u A q=>?_⟩;refine lJ (λb _ J=>blk_alloc_lt _ _ _ J) j u ⟨λe=>?_,λe=>?_⟩ q
    . subst e;have:=(z 13 A).2 12 (by decide);have:=(z 12 this).2 11 (by decide);have:=(z 11 this).2 10 (by decide);rw [y] at this;cases this
    . subst e;have:=(z 16 A).2 10 (by decide);rw [y] at this;cases this
   | 11,_=>
    intro o f w' D C ho m B y z l d h;obtain ⟨b1,E,u0,H⟩:MA w p nb v0 xs k 7 (f.eval (Z1 18)) w':=h 7 (l 7 (by decide));obtain ⟨b2,F,u1,I⟩:MA w p nb v0 xs k 10 (f.eval (Z1 21)) w':=h 10 (l 10 (by decide));exact ae (v:=.agg (dV nb (b1,b2)).toArray) (by simp only [execOp,show o.op=Op.build 61 #[(1,Z1 18),(2,Z1 21)] from ho,XP,XM,XN,u0,u1,dV];go_simp) m ⟨dM d _,⟨(b1,b2),E,F,rfl,H,I⟩,kq⟩
   | 12,_=>
    intro o f w' D C ho m B y z l d h;obtain ⟨q,E,F,u0,H,I⟩:MA w p nb v0 xs k 11 (f.eval (Z1 22)) w':=h 11 (l 11 (by decide));refine ae (v:=Z5 (ZX ⟨w'.heap.size,0,ZY⟩) 1 1) (w':=w'.alloc (Z4 (dV nb q).toArray 61)) (by simp only [execOp,show o.op=Op.buildSlice 55 1 #[(0,Z1 22)] from ho,XP,XM,XN,u0,dV];go_simp) m ⟨pV d _ _,⟨_,q,d.2.1,E,F,rfl,blk_alloc_new _ _,H.alloc _,I.alloc _⟩,λj u A r=>?_⟩;refine lJ (λb _ J=>blk_alloc_lt _ _ _ J) j u ⟨λe=>?_,λe=>?_⟩ r
    . subst e;have:=(z 13 A).2 12 (by decide);rw [y] at this;cases this
    . subst e;have:=(z 16 A).2 12 (by decide);rw [y] at this;cases this
   | 13,_=>
    intro o f w' D C ho m hz y z l d h;have u0:f.eval (Z1 15)=v0:=h 4 (l 4 (by decide));obtain ⟨c,q,q0,E,F,u1,hc,H,I⟩:MA w p nb v0 xs k 12 (f.eval (Z1 23)) w':=h 12 (l 12 (by decide));have S:D 16=ZV:=by
     cases q:D 16 with
     | false=>rfl
     | true=>have:=(z 16 q).2 13 (by decide);rw [y] at this;cases this
    have L:w'.ownsRow (p+1) 61 4 v0 k xs:=V.kept (row:=ZY) ⟨d.2.2.1,d.2.2.2.1,d.2.2.2.2,d.2.1,λj A _=>d.1 j A (λq=>by rw [y] at q;cases q) (λq=>by rw [S] at q;cases q)⟩ (by cases v0.ownBlock<;>simp);refine wp_append_own w' (Z1 15) (Z1 23) 55 ho (p+1) 61 id _ 4 64 underlying55 U kg kf ke rfl (by decide) v0 k xs u0 L ⟨c,0,ZY⟩ 1 1 (dV nb q) u1 rfl (λj u A=>?_) (λu N=>?_) (by simp [maxLen];omega) (by omega) (XL X d.2.1) ?_
    . rw [mN];simp only [World.cell?,hc];simpa using A
    . simp [dV] at N;rcases N with rfl|rfl|rfl|rfl<;>rfl
    . intro O Y kk M _;have K:∀ b,w.heap.size<=b->b<w'.heap.size->Y.heap[b]?=w'.heap[b]?:=λb J k6=>M.block b k6 (λe=>by have:=(V.lt b e.symm).2;omega);refine ⟨O,rfl,λe=>(by rw [m] at e;cases e),rY d 13 ⟨M.size,M.os,M.tape,M.output⟩ (λj A k0 _=>M.block j (XO A d.2.1) (λe=>k0 rfl e.symm)),⟨q,E,F,kk,World.rowIs.of_block H (K _ E H.lt),World.rowIs.of_block I (K _ F I.lt)⟩,λj u A r=>lJ K j u ⟨λe=>(by subst e;rw [y] at A;cases A),λe=>(by subst e;rw [S] at A;cases A)⟩ r⟩
   | 14,_=>
    intro o f w' D C ho m B y z l d h;have u0:f.eval (Z1 11)=Z6 (ZX ⟨p,0,ZY⟩):=h 0 (l 0 (by decide));exact ae (eo ho u0 w') m ⟨dM d _,rfl,kq⟩
   | 15,_=>
    intro o f w' D C ho m B y z l d h;have u0:f.eval (Z1 25)=Z6 (ZX ⟨p,0,ZY⟩):=h 14 (l 14 (by decide));exact ae (v:=Z6 (ZX ⟨p,0,ZY⟩)) (by simp only [execOp,show o.op=Op.fieldAddr 57 (Z1 25) 0 from ho,u0];go_simp) m ⟨dM d _,rfl,kq⟩
   | 16,_=>
    intro o f w' D C ho m B y z l d h;have u0:f.eval (Z1 26)=Z6 (ZX ⟨p,0,ZY⟩):=h 15 (l 15 (by decide));obtain ⟨q,E,F,L,H,I⟩:MA w p nb v0 xs k 13 (f.eval (Z1 24)) w':=h 13 (l 13 (by decide));have T:w'.heap[p]?=ZX (Z4 #[v0,Z7 Z9 (-1)] 57 (0,0)):=(d.1 p X (λ_ e=>by have:=(V.lt p e).1;omega) (λq=>by rw [y] at q;cases q)).trans W;obtain ⟨u,N⟩:=nM (f.eval (Z1 24));have c:w'.cell? ⟨p,0,ZY⟩=ZX v0:=(by simp [World.cell?,T]);have fz:w'.frozen? ⟨p,0,ZY⟩=ZV:=(by simp [World.frozen?,T]);rw [N] at L;obtain ⟨so,sl,sc,km⟩:∃ so sl sc,u=.slice so sl sc:=by
     rcases L.2 with ⟨e,_⟩|⟨g,cap,cur,e,_⟩
     . exact ⟨_,_,_,e⟩
     . exact ⟨_,_,_,e⟩
    refine ja (w':=w'.setCell ⟨p,0,ZY⟩ u) (by rw [km] at N ⊢;simp only [execOp,show o.op=Op.store 55 (Z1 26) (Z1 24) from ho,u0,N];go_simp) ⟨rY d 16 ⟨by simp [World.setCell],rfl,rfl,rfl⟩ (λj _ _ k5=>blk_setCell_other _ _ _ _ (k5 rfl)),?_,λj x A r=>?_⟩
    . refine ⟨u,q,by simp [World.setCell,Yk,T],E,F,L.kept (row:=ZX p) ⟨rfl,rfl,rfl,by simp [World.setCell],λi _ G=>blk_setCell_other _ _ _ _ (λe=>G (by rw [e]))⟩ (.inr λe=>by have:=(L.lt p e).1;omega),World.rowIs.of_block H (blk_setCell_other _ _ _ _ (by show q.1≠p;omega)),World.rowIs.of_block I (blk_setCell_other _ _ _ _ (by show q.2≠p;omega))⟩
    have K:∀ b,w.heap.size<=b->b<w'.heap.size->(w'.setCell ⟨p,0,ZY⟩ u).heap[b]?=w'.heap[b]?:=λb J _=>blk_setCell_other _ _ _ _ (by show b≠p;omega);by_cases e:j=13
    . subst e;obtain ⟨q,E,F,r1,r2,r3⟩:=r;refine ⟨q,E,F,r1.kept (row:=ZX p) ⟨rfl,rfl,rfl,by simp [World.setCell],λi _ G=>blk_setCell_other _ _ _ _ (λe=>G (by rw [e]))⟩ (.inr λe=>by have:=(r1.lt p e).1;omega),World.rowIs.of_block r2 (K _ E r2.lt),World.rowIs.of_block r3 (K _ F r3.lt)⟩
    . exact lJ K j x ⟨e,λe=>(by subst e;rw [y] at A;cases A)⟩ r
   | n+17,hn=>exact absurd hn (by show ¬ n+17<17;omega)
 . rintro f w' hz ⟨D,hD,d⟩ h;obtain ⟨O,q,h1,h2,h3,h4,h5,h6⟩:MA w p nb v0 xs k 16 ZZ w':=h 16 (by decide);have e:f=Act.putFrom a 11 ((XG 16).map λi=>f.eval (.tmp (11+i))):=hz.out _ (by rw [XK,XU]) (by omega) (λi G=>by
    rw [XK,XU] at G;rw [XT,XX,XY G];rfl)
   rw [e];refine hQ w' _ O q (by rw [XK,XU]) h2 h3 h4 h5 h6 h1 ⟨d.2.2.1,d.2.2.2.1,d.2.2.2.2,d.2.1,λj A hs=>d.1 j A (λ_ e=>hs (.inr e)) (λ_ e=>hs (.inl e))⟩
def OV (w:ZU) (p nb k:Nat) (L:List (Nat×Nat)) (v:ZT) (wr:ZU):Prop:=
 L.length=k/\wr.heap[p]?=ZX (Z4 #[v,Z7 Z9 (-1)] 57 (0,0))/\wr.ownsRow (p+1) 61 4 v k (yQ nb L)/\(∀ q∈L,(p<q.1/\p<q.2)/\rM wr q.1 nb/\tc wr q.2 nb)/\(L.map (λq=>q.1)).Nodup/\(L.map (λq=>q.2)).Nodup/\Below p w wr
def Tb (w:ZU) (p nb n:Nat) (i:ZT) (wr:ZU):Prop:=∃ k L v,k<=n/\i=Z7 Z9 (k:Nat)/\OV w p nb k L v wr
def E8 {v:ZT} {m:Nat} (h:w.ownsRow base 61 4 v n xs) (j:w.rowIs b t m f) (l:t≠61):v.ownBlock≠ZX b:=by
 intro e;rcases h.2 with ⟨i,_⟩|⟨g,cap,cur,d,o,a,p⟩
 . rw [i] at e;simp [Value.ownBlock] at e
 . rw [d] at e;simp [Value.ownBlock] at e;subst e;obtain ⟨c,k,_⟩:=j;rw [k] at a;simp at a;exact l a.2
def td {l:List Nat} (h:l.Nodup) (a:∀ x∈l,x<b) (c:Nat) (g:b<=c):(l++[c]).Nodup:=by
 rw [List.nodup_append];refine ⟨h,by simp,λx d y f e=>?_⟩;simp at f;have:=a x d;omega
theorem OV.next {L:List (Nat×Nat)} {v v':ZT} {q:Nat×Nat} (h:OV w p nb k L v wr) (z:wr.heap.size<=q.1) (A:wr.heap.size<=q.2) (ho:w'.ownsRow (p+1) 61 4 v' (k+1) (yQ nb L++dV nb q))
 (B:rM w' q.1 nb) (C:tc w' q.2 nb) (u:w'.heap[p]?=ZX (Z4 #[v',Z7 Z9 (-1)] 57 (0,0))) (b:aa (λj=>j=p\/v.ownBlock=ZX j) wr w'):OV w p nb (k+1) (L++[q]) v' w':=by
 obtain ⟨n,o,i,d,r,s,c⟩:=h;have F:p<wr.heap.size:=(XJ.1 o).1;have m:∀ x∈L,rM w' x.1 nb/\tc w' x.2 nb:=λx a=>by
  obtain ⟨⟨D,E⟩,f,g⟩:=d x a;refine ⟨World.rowIs.of_block f (b.block _ f.lt ?_),World.rowIs.of_block g (b.block _ g.lt ?_)⟩
  . rintro (e|e)
    . omega
    . exact E8 i f (by decide) e
  . rintro (e|e)
    . omega
    . exact E8 i g (by decide) e
 refine ⟨by simp [n],u,?_,λx a=>?_,?_,?_,⟨b.os.trans c.os,b.tape.trans c.tape,b.output.trans c.output,XL c.size b.size,λj t=>(b.block j (by omega) (λe=>?_)).trans (c.block j t)⟩⟩
 . have e:yQ nb (L++[q])=yQ nb L++dV nb q:=(by simp [yQ]);rw [e];exact ho
 . rcases XZ.1 a with a|a
   . exact ⟨(d x a).1,m x a⟩
   . simp at a;subst a;exact ⟨⟨by omega,by omega⟩,B,C⟩
 . rw [XQ];exact td r (λx a=>by obtain ⟨y,l,rfl⟩:=Ye.1 a;exact (d y l).2.1.lt) _ z
 . rw [XQ];exact td s (λx a=>by obtain ⟨y,l,rfl⟩:=Ye.1 a;exact (d y l).2.2.lt) _ A
 . rcases e with e|e
   . omega
   . have:=(i.lt j e).1;omega
def N4 (n nb:Nat) (w:ZU) (e:Ending) (w':ZU):Prop:=e=Z3 (Z6 (ZX ⟨w.heap.size,0,ZY⟩))/\bW w w' /\
 ((n=0/\∃ ao cap,w'.heap[w.heap.size]?=ZX (Z4 #[.slice ao 0 cap,Z7 Z9 (-1)] 57 (0,0)))\/(0<n/\∃ F:bh,aA w' w.heap.size (jz n nb) F/\∀ k,F.has w.heap.size n k->w.heap.size<=k))
def AL (nb:Nat):∀ (L:List (Nat×Nat)) (k:Nat),k<4*L.length->(yQ nb L)[k]?=ZX (mO (jz L.length nb) ⟨0,0,λi=>(L.getD i (0,0)).1,λi=>(L.getD i (0,0)).2⟩ k)
 | [],k,h=>absurd h (by simp)
 | q::L,k,h=>by
  simp only [X1] at h;have e:yQ nb (q::L)=dV nb q++yQ nb L:=by simp [yQ]
  rw [e];by_cases a:k<4
  . rw [List.getElem?_append_left (by simpa [dV] using a)];match k,a with
    | 0,_=>rfl
    | 1,_=>rfl
    | 2,_=>rfl
    | 3,_=>rfl
  . rw [Yi (by simp [dV];omega)];have ih:=AL nb L (k-4) (by omega);rw [show (dV nb q).length=4 from rfl,ih];obtain ⟨j,rfl⟩:∃ j,k=j+4:=⟨k-4,by omega⟩;rw [Nat.add_sub_cancel];unfold mO;rw [show (j+4)%4=j%4 by omega,show (j+4)/4=j/4+1 by omega];rfl
def AM {l:List Nat} (h:l.Nodup) {i j:Nat} (a:i<l.length) (b:j<l.length) (e:l[i]=l[j]):i=j:=(List.getElem_inj h).1 e
theorem OV.post {L:List (Nat×Nat)} {v:ZT} (h:OV w w.heap.size nb n L v wr):N4 n nb w (Z3 (Z6 (ZX ⟨w.heap.size,0,ZY⟩))) wr:=by
 obtain ⟨b,r,y,f,z,A,B⟩:=h;refine ⟨rfl,B,?_⟩;rcases y.2 with ⟨rfl,x⟩|⟨g,cap,cur,rfl,c,t,F,G,H,u⟩
 . exact .inl ⟨x,_,_,r⟩
 . by_cases D:n=0
   . subst D;exact .inl ⟨rfl,_,_,r⟩
   . have l:∀ i,i<n->(L.getD i (0,0))∈L:=λi a=>by
      rw [XT,Yf (show i<L.length by omega)];exact Yj _
     refine .inr ⟨by omega,⟨g,cap,λi=>(L.getD i (0,0)).1,λi=>(L.getD i (0,0)).2⟩,⟨r,⟨cur,t,λk C=>?_⟩,λi a=>?_,λi a=>?_,λi j a d=>⟨λe=>?_,λe=>?_⟩⟩,?_⟩
     . have s:k<4*L.length:=(by rw [b];exact C);have q:=AL nb L k s;rw [<- u,List.getElem?_take_of_lt (by rw [b] at s;omega)] at q;rw [<- Array.getElem?_toList,q];unfold mO;rfl
     . refine World.rowIs.congr (f _ (l i a)).2.1 λj d=>?_;show Value.int .u8 0=Value.int .u8 ((zb.getD (j%64) 0:Nat):Int);have E:zb.getD (j%64) 0=0:=by
        unfold zb;rw [XT,List.getElem?_replicate];split<;>rfl
       rw [E];rfl
     . exact (f _ (l i a)).2.2
     . have p:i<(L.map (λq=>q.1)).length:=(by rw [XK,b];exact a);have c:j<(L.map (λq=>q.1)).length:=(by rw [XK,b];exact d);refine AM z p c ?_;have m:i<L.length:=(by rw [b];exact a);have o:j<L.length:=(by rw [b];exact d);simpa [m,o] using e
     . have p:i<(L.map (λq=>q.2)).length:=(by rw [XK,b];exact a);have c:j<(L.map (λq=>q.2)).length:=(by rw [XK,b];exact d);refine AM A p c ?_;have m:i<L.length:=(by rw [b];exact a);have o:j<L.length:=(by rw [b];exact d);simpa [m,o] using e
     . rintro k (rfl|rfl|⟨i,a,rfl|rfl⟩)
       . exact XI _
       . exact Nat.le_of_succ_le c
       . exact Nat.le_of_lt (f _ (l i a)).1.1
       . exact Nat.le_of_lt (f _ (l i a)).1.2
def OW (h:vs.length=16):∃ a b c d e f g i j k l m n o p q,vs=[a,b,c,d,e,f,g,i,j,k,l,m,n,o,p,q]:=by
 match vs,h with
 | [a,b,c,d,e,f,g,i,j,k,l,m,n,o,p,q],_=>exact ⟨_,_,_,_,_,_,_,_,_,_,_,_,_,_,_,_,rfl⟩
theorem yR (n nb:Nat) (w:ZU) (y:n<=1000) (s:nb<=1000000) :
 ZS ZP 14 #[Z7 Z9 n,Z7 Z9 nb] w λe w'=>N4 n nb w e w':=by
 go_enter func14,ntmps14;have c:OV w w.heap.size nb 0 [] (Z5 ZY 0 0) (w.alloc (Z4 #[Z5 ZY 0 0,Z7 Z9 (-1)] 57)):=⟨rfl,blk_alloc_new _ _,World.ownsRow_nil _ _ _ _,λq t=>(by simp at t),by simp,by simp,bA w _⟩;go_wp2_with fail;go_loopw [9] (λi wr=>Tb w w.heap.size nb n i wr) (λi _=>n-(intOf i).toNat)
 case atStart=>exact ⟨0,[],_,XH _,rfl,c⟩
 case round=>
  clear c;obtain ⟨k,L,v,x,rfl,b⟩:=hrel;by_cases u:k<n
  . have a:=hide b;clear b;go_wp2_with fail;refine Dv (by kernel_rfl) s (by omega) a.out.2.2.1 a.out.2.1 rfl rfl rfl ?_;intro w' vs z q d j l ho m o h g;obtain ⟨A,B,C,D,E,F,G,H,I,J,K,M,N,O,P,Q,rfl⟩:=OW d;have f:=a.out.next j l ho m o h g;have p:=hide f;clear f ho m o h g a j l d;rename_i hK
    refine hK _ _ ?_;clear hK;simp only [Act.putFrom];go_wp2;exact ⟨⟨k+1,_,_,by omega,by go_num,p.out⟩,by simp [intOf];omega⟩
  . have r:k=n:=(by omega);subst r;have a:=hide b;clear b;go_wp2;go_ret;exact a.out.post
def OX (n nb:Nat) (w:ZU) (e:Ending) (w':ZU):Prop:=e=Z3 (Z6 (ZX ⟨w.heap.size,0,ZY⟩))/\bW w w' /\
 ((n=0/\∃ ao cap,w'.heap[w.heap.size]?=ZX (Z4 #[.slice ao 0 cap,Z7 Z9 (-1)] 57 (0,0)))\/(0<n/\∃ F:bh,aq w' w.heap.size (jz n nb) F/\∀ k,F.has w.heap.size n k->w.heap.size<=k))
def yS (n nb:Nat) (w:ZU) (b:n<=1000) (a:nb<=1000000) :
 ZS ZP 14 #[Z7 Z9 n,Z7 Z9 nb] w λe w'=>OX n nb w e w':=by
 refine (yR n nb w b a).mono ?_;rintro e w' ⟨c,d,f⟩;refine ⟨c,d,f.imp_right ?_⟩;rintro ⟨g,F,h,i⟩;exact ⟨g,F,h.at (nE b a),i⟩
def aP (L:List (ByteArray×ZT)):List ZT:=L.flatMap λq=>[.string q.1,q.2]
def kL (L:List (ByteArray×ZT)):(aP L).length=L.length*2:=by
 induction L with
 | nil=>rfl
 | cons q L ih=>simp only [aP,List.flatMap_cons,Ys,X1] at ih ⊢;rw [ih];simp;omega
def tA (L:List (ByteArray×ZT)) (k:Nat) (a:k<L.length):(aP L)[k*2]?=ZX (.string L[k].1)/\(aP L)[k*2+1]?=ZX L[k].2:=by
 induction L generalizing k with
 | nil=>simp at a
 | cons q L ih=>
  have e:aP (q::L)=[.string q.1,q.2]++aP L:=by simp [aP]
  rw [e];cases k with
  | zero=>exact ⟨rfl,rfl⟩
  | succ k=>
   simp at a;obtain ⟨b,c⟩:=ih k a;refine ⟨?_,?_⟩
   . rw [Yi (by simp;omega),show (k+1)*2-[Value.string q.1,q.2].length=k*2 by simp;omega];exact b
   . rw [Yi (by simp;omega),show (k+1)*2+1-[Value.string q.1,q.2].length=k*2+1 by simp;omega];exact c
def jC (L M:List (ByteArray×ZT)):aP (L++M)=aP L++aP M:=by simp [aP]
structure oU (w:ZU) (r base:Nat) (v:ZT) (L:List (ByteArray×ZT)):Prop where
 top:w.heap[r]?=ZX (Z4 #[v] 53 (0,0))
 own:w.ownsRow base 80 2 v L.length (aP L)
def oU.shape {v:ZT} {L:List (ByteArray×ZT)} (h:oU w r base v L):(v=Z5 ZY 0 0/\L=[])\/∃ g cap,v=Z5 (ZX ⟨g,0,ZY⟩) L.length cap/\base<=g/\L.length<=cap /\
 ∀ k (d:k<L.length),w.cell? ⟨g,k*2,ZY⟩=ZX (.string L[k].1)/\w.cell? ⟨g,k*2+1,ZY⟩=ZX L[k].2:=by
 rcases h.own.2 with ⟨i,j⟩|⟨g,cap,cur,c,e,n,f,o,p,q⟩
 . exact .inl ⟨i,List.eq_nil_of_length_eq_zero j⟩
 . refine .inr ⟨g,cap,c,e,f,λk d=>?_⟩;obtain ⟨l,m⟩:=tA L k d;have:=h.own.cells (g:=g) (by rw [c];rfl);have a:=this _ _ l;have b:=this _ _ m;rw [mN] at a b;exact ⟨a,b⟩
def oU.cell {v:ZT} {L:List (ByteArray×ZT)} (h:oU w r base v L):w.cell? ⟨r,0,ZY⟩=ZX v/\w.frozen? ⟨r,0,ZY⟩=ZV:=by simp [World.cell?,World.frozen?,h.top]
def Ts (w:ZU) (L:List (ByteArray×ZT)) (name:ByteArray) (i:ZT) (wr:ZU):Prop:=∃ k:Nat,k<=L.length/\i=Z7 Z9 k/\wr=w/\∀ j (hj:j<L.length),j<k->¬ L[j].1.toList=name.toList
theorem jV {v:ZT} {L:List (ByteArray×ZT)} (h:oU w r base v L) (A:L.length<=1000000) (name:ByteArray) :
 ZS ZP 28 #[Z6 (ZX ⟨r,0,ZY⟩),.string name] w λe w'=>w'=w/\((∃ k,∃ m:k<L.length,e=Z3 (Z7 Z9 (k:Nat))/\L[k].1.toList=name.toList/\∀ j (a:j<L.length),j<k->¬ L[j].1.toList=name.toList)\/(e=Z3 (Z7 Z9 (-1))/\∀ j (a:j<L.length),¬ L[j].1.toList=name.toList)):=by
 obtain ⟨t,_⟩:=h.cell;have s:=h.shape;go_enter func28,ntmps28;go_wp2;go_loopw [5] (λi wr=>Ts w L name i wr) (λi _=>L.length-(intOf i).toNat)
 case atStart=>exact ⟨0,XH _,rfl,rfl,λj _ a=>absurd a (by omega)⟩
 case round=>
  obtain ⟨k,m,rfl,rfl,c⟩:=hrel;rcases s with ⟨rfl,rfl⟩|⟨g,cap,rfl,y,x,n⟩
  . have p:k=0:=(by simpa using m);subst p;clear c;go_wp2;go_ret;exact ⟨rfl,.inr ⟨rfl,λj a=>absurd a (by simp)⟩⟩
  . by_cases l:k<L.length
    . obtain ⟨c1,u⟩:=n k l;have d:=hide c;clear c;by_cases b:L[k].1.toList=name.toList
      . have o:(L[k].1.toList==name.toList)=ZW:=(by rw [b];exact beq_self_eq_true _);have f:=hide b;clear b;go_wp2;go_ret;exact ⟨rfl,.inl ⟨k,l,rfl,f.out,d.out⟩⟩
      . have o:(L[k].1.toList==name.toList)=ZV:=(by rw [beq_eq_false_iff_ne];exact b);have f:=hide b;clear b;go_wp2;refine ⟨⟨k+1,by omega,by go_num,rfl,λj a z=>?_⟩,by simp [intOf];omega⟩;by_cases e:j=k
        . subst e;exact f.out
        . exact d.out j a (by omega)
    . have q:k=L.length:=(by omega);subst q;have d:=hide c;clear c;go_wp2;go_ret;exact ⟨rfl,.inr ⟨rfl,λj a=>d.out j a a⟩⟩
def cw (n:ByteArray):Prop:=1<=n.size/\n.size<=16
def MN (L:List (ByteArray×ZT)) (name:ByteArray) (k:Nat):Prop:=∃ hk:k<L.length,L[k].1.toList=name.toList/\∀ j (hj:j<L.length),j<k->¬ L[j].1.toList=name.toList
def qB (L:List (ByteArray×ZT)) (name:ByteArray):Prop:=∀ j (hj:j<L.length),¬ L[j].1.toList=name.toList
def QM (L:List (ByteArray×ZT)) (name:ByteArray) (e:Ending):Prop:=
 (¬ cw name/\e=Z3 (Z0 #[Z5 ZY 0 0,Z7 Z9 6]))\/(cw name/\qB L name/\e=Z3 (Z0 #[Z5 ZY 0 0,Z7 Z9 9]))\/(cw name/\∃ k,MN L name k/\e=Z3 (Z0 #[(L.getD k (ByteArray.empty,ZZ)).2,Z7 Z9 0]))
theorem A9 {v:ZT} {L:List (ByteArray×ZT)} (h:oU w r base v L) (o:L.length<=1000000) (name:ByteArray) :
 ZS ZP 12 #[Z6 (ZX ⟨r,0,ZY⟩),.string name] w λe w'=>w'=w/\QM L name e:=by
 obtain ⟨s,_⟩:=h.cell;have j:=h.shape;have l:=jV h o name;by_cases u:name.size=0
 . have n0:(name.size:Int)=0:=(by omega);go_enter func12,ntmps12;go_wp2;go_ret2;exact ⟨rfl,.inl ⟨λq=>by have:=q.1;omega,rfl⟩⟩
 . have n0:¬ (name.size:Int)=0:=(by omega);by_cases y:16<name.size
   . have p:(16:Int)<(name.size:Int):=(by omega);go_enter func12,ntmps12;go_wp2;go_ret2;exact ⟨rfl,.inl ⟨λq=>by have:=q.2;omega,rfl⟩⟩
   . have p:¬ (16:Int)<(name.size:Int):=(by omega);have i:cw name:=⟨by omega,by omega⟩;go_enter func12,ntmps12;go_wp2_with fail;refine l.mono ?_;rintro e w' ⟨rfl,n⟩;clear l;rcases n with ⟨k,b,rfl,m,c⟩|⟨rfl,f⟩
     . rcases j with ⟨rfl,rfl⟩|⟨g,cap,rfl,z,x,d⟩
       . exact absurd b (by simp)
       . obtain ⟨c1,t⟩:=d k b;have a:=hide2 m c;clear m c d;go_wp2;go_ret2;exact ⟨rfl,.inr (.inr ⟨i,k,⟨b,a.out.1,a.out.2⟩,by simp [b]⟩)⟩
     . have a:=hide f;clear f j;go_wp2;go_ret2;exact ⟨rfl,.inr (.inl ⟨i,a.out,rfl⟩)⟩
def Ba:ZT->Nat
 | .slice _ n _=>n
 | _=>0
def ly (v:ZT):Prop:=∃ ao n c,v=.slice ao n c/\n<=1000000
def bQ (L:List (ByteArray×ZT)) (q k:Nat):Nat:=((L.take k).map λo=>Ba o.2/q+1).sum
def lO (L:List (ByteArray×ZT)) (q k:Nat) (a:k<L.length):bQ L q (k+1)=bQ L q k+(Ba L[k].2/q+1):=by
 unfold bQ;rw [Yu,Yf a];simp only [XQ,List.sum_append,Yw,XM,XN,List.sum_cons,List.sum_nil,Nat.add_zero]
def oV (L:List (ByteArray×ZT)) (q k:Nat) (h:∀ o∈L,Ba o.2<=1000000) (c:k<=L.length):bQ L q k<=k*1000001:=by
 induction k with
 | zero=>simp [bQ]
 | succ k ih=>
  rw [lO L q k (by omega)];have:=ih (by omega);have a:=h L[k] (Yj _);have b:Ba L[k].2/q<=Ba L[k].2:=XW _ _;omega
def jD (L:List (ByteArray×ZT)) (data:Nat) (more:Int):Nat:=
 let q:=data*44
 if 0<=more then bQ L q L.length+(more.toNat/q+1)+2*((L.length+1)*200/q+1) else bQ L q L.length+2*(L.length*200/q+1)
def SI (w:ZU) (L:List (ByteArray×ZT)) (q:Nat) (n i:ZT) (wr:ZU):Prop:=∃ k:Nat,k<=L.length/\n=Z7 Z9 (bQ L q k:Nat)/\i=Z7 Z9 k/\wr=w
theorem DN {v:ZT} {L:List (ByteArray×ZT)} (h:oU w r base v L) (hl:L.length<=1000) (E:∀ o∈L,ly o.2) (data:Nat) (hf:1<=data) (Y:data<=1000) (more:Int) (hh:-1<=more) (hi:more<=1000000) :
 ZS ZP 24 #[Z6 (ZX ⟨r,0,ZY⟩),Z7 Z9 data,Z7 Z9 more] w λe w'=>w'=w/\e=Z3 (Z7 Z9 (jD L data more:Nat)):=by
 obtain ⟨I,_⟩:=h.cell;have p:=h.shape;have A:∀ o∈L,Ba o.2<=1000000:=λo ho=>by obtain ⟨ao,n,c,e,C⟩:=E o ho;rw [e];exact C
 obtain ⟨q,D⟩:∃ q,q=data*44:=⟨_,rfl⟩;have hj:1<=q:=by omega
 have hp:q<=44000:=by omega
 have hx:(data:Int)*44=(q:Int):=by omega
 have hr:¬ (q:Int)=0:=by omega
 have x:=hide D;clear D;have B:v=Z5 ZY 0 0/\L.length=0\/∃ g cap,v=Z5 (ZX ⟨g,0,ZY⟩) L.length cap:=by
  rcases p with ⟨a,j⟩|⟨g,cap,a,_⟩
  . exact .inl ⟨a,by rw [j];rfl⟩
  . exact .inr ⟨g,cap,a⟩
 obtain ⟨ao,cap,F⟩:∃ ao cap,v=.slice ao L.length cap:=by
  rcases B with ⟨a,j⟩|⟨g,cap,a⟩
  . exact ⟨ZY,0,by rw [a,j]⟩
  . exact ⟨_,_,a⟩
 rw [F] at I;go_enter func24,ntmps24;go_wp2;go_loopw [8,10] (λn i wr=>SI w L q n i wr) (λ_ i _=>L.length-(intOf i).toNat)
 case atStart=>exact ⟨0,XH _,rfl,rfl,rfl⟩
 case round=>
  obtain ⟨k,Q,rfl,rfl,rfl⟩:=hrel;by_cases l:k<L.length
  . rcases p with ⟨_,rfl⟩|⟨g,y,t,Z,X,z⟩
    . exact absurd l (by simp)
    . rw [F] at t;simp at t;obtain ⟨rfl,rfl⟩:=t;obtain ⟨c1,J⟩:=z k l;obtain ⟨T,n,U,e,C⟩:=E L[k] (Yj _);have s:=lO L q k l;have P:=oV L q k A Q;rw [e] at J s;have M:(n:Int)/(q:Int)=((n/q:Nat):Int):=(by omega);have V:(n:Int).tdiv (q:Int)=((n/q:Nat):Int):=(by rw [X3 (by omega)];exact M);have hg:n/q<=n:=XW _ _;have ho:SI wr L q (Z7 Z9 ((bQ L q k+(n/q+1):Nat):Int)) (Z7 Z9 ((k:Int)+1)) wr:=⟨k+1,by omega,by rw [s];rfl,rfl,rfl⟩;have G:=hide ho;clear ho s z;generalize bQ L q k=S at *;generalize n/q=d at *;go_wp2;have:=G.out;rw [show ((S+(d+1):Nat):Int)=(S:Int)+(d:Int)+1 by omega] at this;exact ⟨this,by simp [intOf];omega⟩
  . have O:k=L.length:=(by omega);subst O;have P:=oV L q L.length A lR;clear p B;by_cases u:0<=more
    . obtain ⟨m,rfl⟩:=Int.eq_ofNat_of_zero_le u;have b:jD L data (m:Int)=bQ L q L.length+(m/q+1)+2*((L.length+1)*200/q+1):=by
       unfold jD;rw [if_pos u,<- x.out,Yh]
      have W:(m:Int).tdiv (q:Int)=((m/q:Nat):Int):=(by rw [X3 (by omega)];omega);have N:(((L.length:Int)+1)*200).tdiv (q:Int)=(((L.length+1)*200/q:Nat):Int):=by
       rw [X3 (by omega),show ((L.length:Int)+1)*200=(((L.length+1)*200:Nat):Int) by omega];omega
      have R:m/q<=m:=XW _ _;have H:(L.length+1)*200/q<=(L.length+1)*200:=XW _ _;have f:=hide b;clear b;generalize bQ L q L.length=S at *;generalize m/q=d at *;generalize (L.length+1)*200/q=K at *;go_wp2;go_ret;exact ⟨rfl,by rw [f.out];congr 2⟩
    . have b:jD L data more=bQ L q L.length+2*(L.length*200/q+1):=by
       unfold jD;rw [if_neg u,<- x.out]
      have N:((L.length:Int)*200).tdiv (q:Int)=((L.length*200/q:Nat):Int):=by
       rw [X3 (by omega),show (L.length:Int)*200=((L.length*200:Nat):Int) by omega];omega
      have H:L.length*200/q<=L.length*200:=XW _ _;have f:=hide b;clear b;generalize bQ L q L.length=S at *;generalize L.length*200/q=K at *;go_wp2;go_ret;exact ⟨rfl,by rw [f.out];congr 2⟩
