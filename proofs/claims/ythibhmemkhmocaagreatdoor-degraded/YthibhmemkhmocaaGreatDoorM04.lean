import Derived.Test.YthibhmemkhmocaaGreatDoorM03
import Derived.Defers
import Derived.Recover
import Derived.Deep.RegionHeld
import Derived.Sort.QuietIn
import Derived.Sort.QuietTacIn
set_option maxRecDepth 100000
set_option linter.all false
set_option maxHeartbeats 8000000
open Go.IntKind renaming i64 -> Z9, u64 -> Z8
open Go.Value renaming int -> Z7, pointer -> Z6, slice -> Z5, bool -> Z2, tuple -> Z0
open Go.Obj renaming cells -> Z4
open Go.Ending renaming returned -> Z3
open Go.Operand renaming tmp -> Z1
open Go renaming undef -> ZZ, World -> ZU, Value -> ZT, Calls -> ZR, Oper -> ZQ, Boxed -> ZP, Operand -> ZO
open Option renaming none -> ZY, some -> ZX
open Bool renaming true -> ZW, false -> ZV
open Go.RowKit renaming Below -> ZS
open List renaming range -> YF, replicate -> YJ, length -> YL, take_prefix -> YM
open Exists renaming intro -> YG
open Nat renaming reduceAdd -> YH, reduceSub -> YI, le_succ_of_le -> YN
open Array renaming replicate -> YK
open Go.Proofs.Tryz renaming prog -> ZN
open Go.Proofs.Tryz
namespace Go.Proofs.YthibhmemkhmocaaGreatDoor
def ab8:=@Go.KeepsOthers.of_grownBy
def Yh:=@Go.wpListIn_plain
def Yi:=@Go.Proofs.Tryz.underlying48
def Yj:=@Go.KeepsFrom.refl
def ab9:=@Nat.zero_testBit
def WY:=@Nat.succ_mul
def Vk:=@Go.Src.ofSlice
def Yk:=@List.length_pos_iff
def abF:=@Go.Addr.mk.injEq
def WH:=@Go.Proofs.Tryz.underlying3
def aca:=@List.flatten_append
def abG:=@Go.heap_setCell_same
def Wv:=@Array.length_toList
def XM:=@Go.Proofs.Tryz.underlying332
def Yl:=@Nat.succ_le_succ
def abH:=@Int.tmod_eq_emod_of_nonneg
def Ym:=@Bool.eq_false_iff
end Go.Proofs.YthibhmemkhmocaaGreatDoor
namespace Go.Proofs.YthibhmemkhmocaaGreatDoor
open Go.RowKit Go.Deep Go.Shelf Gf
variable {a a':Act} {ops:Array ZQ} {cs:Array ZT} {C C':Ck} {rec:Ck->Nat->Nat->cA->cA} {R:Ending->ZU->Prop} {Q:Exit->Act->ZU->Prop} {F:Fence} {fn:Func} {room:Int} {M:List (Nat×Nat)} {dl ds K:a8} {rest:List ZQ} {pre:List Sh} {vs:List ZT} {sb v D L G t f n ar D' L' G' t' f' n' p ps ho m l base g B i nn b0 b c q count N r k lost d lo gone sp h of Bl n0:Nat} {Dn:Nat->Bool} {S:Nat->Prop} {o:ZQ} {P:Program} {s sx:cA} {J:cA->ZU->Prop} {e:TypeId} {pg ob x:ZT} {w w' Z W W' w1 w2 X:ZU}
theorem tS (p:Addr) (w:ZU):CallsD ZN 106 #[Z6 (ZX p)] .returning w λe u' w'=>e=Z3 (Z0 #[])/\u'=.returning/\w'=w:=by
 refine callsD_of_wpS func106 rfl λa cs f=>?_;have g:∀ w,(binOp .eql 20 .nilIface .nilIface).run ZN w=.ok (Z2 ZW) w:=λw=>by
  have b:∀ d,(Op.equalIn (d+1) 20 .nilIface .nilIface).run ZN w=.ok ZW w:=λd=>by
   simp only [Op.equalIn,Ux,UR underlying20,UK];rfl
  have c:=b 9999;simp only [binOp];simp [Op.equal,Op.maxDepth,c]
 apply wpS_seq;apply wpS_region;generalize hN:Code.wpS ZN _ _=N;simp [wpOpsS,go_sem,recoverD,f,ntmps106,Exit.thenS];rw [<- hN];clear hN;refine wpS_of_wp ?_;simp only [Vr,Vs,Vt,Ut,UX,Ug,Uf,Uh,Vu];go_wp2;cases a;simp_all [bodyPostS,results,results106]
def isErr (v:ZT):Prop:=v=.nilIface\/∃ t u,v=.iface t u
def mY (D L G:Int) (lost:Int) (reading:Bool) (regs:Int) (steps:ZT) (n o:ZT):Array ZT:=#[Z7 Z9 D,Z7 Z9 L,Z7 Z9 G,Z7 Z8 lost,Z2 reading,Z7 Z9 regs,steps,n,o]
structure pM (w:ZU) (sb:Nat) (room:Int):Prop where
 ends:w.heap[sb]?=ZX (Z4 (mY 0 0 0 0 ZV 0 (Z5 ZY 0 0) (Z6 (ZX ⟨sb,0,ZY⟩)) (Z6 (ZX ⟨sb,0,ZY⟩))) 261 (0,0))
 map:∃ n,w.heap[sb+1]?=ZX (.map #[] n)
 list:w.heap[sb+1+1]?=ZX (Z4 #[Z7 Z9 room,.map (ZX (sb+1)),Z6 (ZX ⟨sb,0,ZY⟩)] 264 (0,0))
 R7:w.heap[sb+1+1+1]?=ZX (Z4 #[Z6 (ZX ⟨sb+1+1,0,ZY⟩)] 223 (0,0))
def pM.lt (h:pM w sb room):sb+1+1+1<w.heap.size:=(T5.1 h.R7).1
def pM.keep (h:pM w sb room) (a:∀ k,sb<=k->k<=sb+1+1+1->w'.heap[k]?=w.heap[k]?):pM w' sb room:=
 ⟨(a _ (by omega) (by omega)).trans h.ends,h.map.imp λ_ q=>(a _ (by omega) (by omega)).trans q,(a _ (by omega) (by omega)).trans h.list,(a _ (by omega) (by omega)).trans h.R7⟩
def pM.below (h:pM w sb room) (a:bW w w'):pM w' sb room:=h.keep λk _ b=>a.block k (by have:=h.lt;omega)
def mZ (w:ZU) (a b c:Obj):(((w.alloc a).alloc b).alloc c).heap[w.heap.size]?=ZX a/\(((w.alloc a).alloc b).alloc c).heap[w.heap.size+1]?=ZX b/\(((w.alloc a).alloc b).alloc c).heap[w.heap.size+1+1]?=ZX c:=by
 refine ⟨(Uy _ _ _ (by simp;omega)).trans ((Uy _ _ _ (by simp)).trans (Uk _ _)),(Uy _ _ _ (by simp)).trans ?_,?_⟩
 . have:=Uk (w.alloc a) b;rwa [Uw] at this
 . have:=Uk ((w.alloc a).alloc b) c;rwa [Uw,Uw] at this
structure abe (w:ZU) (sb:Nat) (room:Int):Prop where
 ends:w.heap[sb]?=ZX (Z4 (mY 0 0 0 0 ZV 0 (Z5 ZY 0 0) (Z6 (ZX ⟨sb,0,ZY⟩)) (Z6 (ZX ⟨sb,0,ZY⟩))) 261 (0,0))
 map:∃ n,w.heap[sb+1]?=ZX (.map #[] n)
 list:w.heap[sb+1+1]?=ZX (Z4 #[Z7 Z9 room,.map (ZX (sb+1)),Z6 (ZX ⟨sb,0,ZY⟩)] 264 (0,0))
theorem vW (n:Int) (w:ZU):ZR ZN 119 #[Z7 Z9 n] w λe w'=>e=Z3 (Z6 (ZX ⟨w.heap.size+1+1,0,ZY⟩))/\abe w' w.heap.size n/\w'.heap.size=w.heap.size+1+1+1/\bW w w':=by
 have i:∀ w,(Instr.makeMap 262 ZY).run ZN w=.ok (.map (ZX w.heap.size)) (w.alloc (.map #[] 0)):=λ_=>rfl;have a:∀ b c d:Obj,bW w (((w.alloc b).alloc c).alloc d):=λb c d=>((bA w _).alloc (by simp) _).alloc (by simp;omega) _;have H:=ak a;clear a;go_enter func119,ntmps119;go_wp2;go_ret;obtain ⟨f,g,h⟩:=mZ w (Z4 (mY 0 0 0 0 ZV 0 (Z5 ZY 0 0) (Z6 (ZX ⟨w.heap.size,0,ZY⟩)) (Z6 (ZX ⟨w.heap.size,0,ZY⟩))) 261) (.map #[] 0) (Z4 #[Z7 Z9 n,.map (ZX (w.heap.size+1)),Z6 (ZX ⟨w.heap.size,0,ZY⟩)] 264);exact ⟨rfl,⟨f,⟨0,g⟩,h⟩,by simp,H.o _ _ _⟩
theorem Aa (n:Int) (w:ZU):ZR ZN 88 #[Z7 Z9 n] w λe w'=>∃ b,e=Z3 (Z6 (ZX ⟨b+1+1+1,0,ZY⟩))/\w.heap.size<=b/\pM w' b n/\bW w w':=by
 go_enter func88,ntmps88;go_wp2_with fail;refine (vW n w).mono ?_;rintro e w1 ⟨rfl,a,d,c⟩;have H:=aE c a d;have g:=c.size;clear c a d;go_wp2;go_ret;obtain ⟨c,a,d⟩:=H.o;have f:bW w1 (w1.alloc (Z4 #[Z6 (ZX ⟨w.heap.size+1+1,0,ZY⟩)] 223)):=bA w1 _;refine ⟨w.heap.size,by rw [d];rfl,TY _,⟨(f.block _ (by omega)).trans a.ends,a.map.imp λ_ q=>(f.block _ (by omega)).trans q,(f.block _ (by omega)).trans a.list,?_⟩,c.trans (f.mono g)⟩;have:=Uk w1 (Z4 #[Z6 (ZX ⟨w.heap.size+1+1,0,ZY⟩)] 223);rwa [d] at this
theorem EH (p D L G:Nat) (n:Int) (w:ZU):ZR ZN 67 #[Z6 (ZX ⟨p,0,ZY⟩),.agg #[Z7 Z9 D,Z7 Z9 L,Z7 Z9 G],Z7 Z9 n] w λe w'=>∃ v b,e=Z3 (Z6 (ZX ⟨v,0,ZY⟩))/\w.heap.size<=v/\bt w' v p D L G (b+1+1+1) 0/\(w.heap.size<=b/\b+1+1+1<v/\pM w' b n)/\bW w w':=by
 obtain ⟨w1,l⟩:=nM (w.alloc (Z4 #[Z7 Z9 (D:Int),Z7 Z9 (L:Int),Z7 Z9 (G:Int)] 27));have d:w1.heap[w.heap.size]?=ZX (Z4 #[Z7 Z9 (D:Int),Z7 Z9 (L:Int),Z7 Z9 (G:Int)] 27 (0,0)):=by rw [<- l];exact Uk w (Z4 #[Z7 Z9 (D:Int),Z7 Z9 (L:Int),Z7 Z9 (G:Int)] 27)
 have k:bW w w1:=by rw [<- l];exact bA w _
 have c0:w1.cell? ⟨w.heap.size,0,ZY⟩=ZX (Z7 Z9 (D:Int)):=by simp [World.cell?,d]
 have c1:w1.cell? ⟨w.heap.size,1,ZY⟩=ZX (Z7 Z9 (L:Int)):=by simp [World.cell?,d]
 have q:w1.cell? ⟨w.heap.size,2,ZY⟩=ZX (Z7 Z9 (G:Int)):=by simp [World.cell?,d]
 have H:=al d k;clear d k;go_enter func67,ntmps67;go_wp2_with fail;go_region_with (go_at_call 88;refine (Aa n _).mono ?_;rintro e w2 ⟨b,rfl,g,c,a⟩;have f:=(a.block _ (T5.1 H.o.1).1).trans H.o.1;have r:w2.cell? ⟨w.heap.size,0,ZY⟩=ZX (Z7 Z9 (D:Int)):=(by simp [World.cell?,f]);have d1:w2.cell? ⟨w.heap.size,1,ZY⟩=ZX (Z7 Z9 (L:Int)):=(by simp [World.cell?,f]);have s:w2.cell? ⟨w.heap.size,2,ZY⟩=ZX (Z7 Z9 (G:Int)):=(by simp [World.cell?,f]);have m:=aE g c a;clear g c a f);all_goals (
  go_wp2;go_ret;obtain ⟨g,c,a⟩:=m.o;have h:=H.o.2.size;have t:w1.heap.size<=w2.heap.size:=a.size;have j:=(T6 _ w2).alloc lR (Z4 #[Z6 (ZX ⟨p,0,ZY⟩),Z7 Z9 D,Z7 Z9 L,Z7 Z9 G,Z6 (ZX ⟨b+1+1+1,0,ZY⟩),Z7 Z8 0] 139);have i:bW w w2:=H.o.2.drew.trans (a.mono h);exact ⟨_,b,rfl,by omega,Uk _ _,⟨TZ h g,c.lt,c.below j⟩,i.trans (j.mono i.size)⟩)
def nv (v D L G t f n:Nat) (pg ob:ZT) (off:Bool):Array ZT:=#[Z6 (ZX ⟨v,0,ZY⟩),Z7 Z9 D,Z7 Z9 L,Z7 Z9 G,Z7 Z8 t,Z7 Z9 f,Z7 Z9 n,pg,ob,Z2 off]
def bC (w:ZU) (a v D L G t f n:Nat) (pg ob:ZT) (off:Bool):Prop:=w.heap[a]?=ZX (Z4 (nv v D L G t f n pg ob off) 146 (0,0))
def m3 (v:ZT):Prop:=v=.nilIface\/∃ n:Int,n≠13/\v=.iface 66 (Z7 Z9 n)
def m3.isErr {v:ZT} (h:m3 v):isErr v:=by
 rcases h with h|⟨n,_,h⟩
 . exact .inl h
 . exact .inr ⟨_,_,h⟩
def bC.cells {a:Nat} {off:Bool} (h:bC w a v D L G t f n pg ob off):w.cell? ⟨a,0,ZY⟩=ZX (Z6 (ZX ⟨v,0,ZY⟩))/\w.cell? ⟨a,4,ZY⟩=ZX (Z7 Z8 t)/\w.cell? ⟨a,6,ZY⟩=ZX (Z7 Z9 n)/\w.cell? ⟨a,7,ZY⟩=ZX pg/\w.cell? ⟨a,8,ZY⟩=ZX ob:=by
 have b:w.heap[a]?=ZX (Z4 (nv v D L G t f n pg ob off) 146 (0,0)):=h;simp [World.cell?,b,nv]
def bC.keep {off:Bool} (h:bC w ar v D' L' G' t' f' n' pg ob off) (e:w'.heap[ar]?=w.heap[ar]?):bC w' ar v D' L' G' t' f' n' pg ob off:=X1 e h
def bC.lt {off:Bool} (h:bC w ar v D' L' G' t' f' n' pg ob off):ar<w.heap.size:=(T5.1 h).1
theorem kJ (h:bt w v p D L G ps ho):ZR ZN 77 #[Z6 (ZX ⟨v,0,ZY⟩)] w λe w'=>e=Z3 (.agg #[Z7 Z9 D,Z7 Z9 L,Z7 Z9 G])/\bW w w'/\w'.heap.size=w.heap.size+1/\w'.heap[w.heap.size]?=ZX (Z4 #[Z7 Z9 D,Z7 Z9 L,Z7 Z9 G] 27 (0,0)):=by
 have q:=h.lt;have f:bt (w.alloc (Z4 #[Z7 Z9 0,Z7 Z9 0,Z7 Z9 0] 27)) v p D L G ps ho:=h.keep (Uy _ _ _ q);obtain ⟨c0,c1,l,m,n⟩:=f.cells;have c:bW w (w.alloc (Z4 #[Z7 Z9 0,Z7 Z9 0,Z7 Z9 0] 27)):=bA w _;have a:=Uk w (Z4 #[Z7 Z9 0,Z7 Z9 0,Z7 Z9 0] 27);obtain ⟨w1,d⟩:=nM (w.alloc (Z4 #[Z7 Z9 0,Z7 Z9 0,Z7 Z9 0] 27));rw [d] at c0 c1 l m n c a;have u:w1.cell? ⟨w.heap.size,0,ZY⟩=ZX (Z7 Z9 0):=by simp [World.cell?,a]
 have x:w1.cell? ⟨w.heap.size,1,ZY⟩=ZX (Z7 Z9 0):=by simp [World.cell?,a]
 have y:w1.cell? ⟨w.heap.size,2,ZY⟩=ZX (Z7 Z9 0):=by simp [World.cell?,a]
 have b:∀ k,w1.frozen? ⟨w.heap.size,k,ZY⟩=ZV:=λk=>by simp [World.frozen?,a]
 have r:=b 0;have s:=b 1;have t:=b 2;have g:w1.heap.size=w.heap.size+1:=by rw [<- d];simp
 have H:=aE c a g;clear f c a b h g;go_enter func77,ntmps77;go_wp2;have i:=af (j:=2) (af (j:=1) (af (j:=0) H.o.2.1 (Z7 Z9 (D:Int))) (Z7 Z9 (L:Int))) (Z7 Z9 (G:Int));refine Uv (v:=.agg #[Z7 Z9 D,Z7 Z9 L,Z7 Z9 G]) (V8 results77 _ _ w.heap.size 27 #[Z7 Z9 (D:Int),Z7 Z9 (L:Int),Z7 Z9 (G:Int)] (0,0) _ rfl i underlying27 rfl (by kernel_rfl)) rfl ?_;exact ⟨rfl,((H.o.1.setCell (p:=⟨w.heap.size,0,ZY⟩) lR _).setCell (p:=⟨w.heap.size,1,ZY⟩) lR _).setCell (p:=⟨w.heap.size,2,ZY⟩) lR _,by simp [World.setCell,H.o.2.2],i⟩
def vX (h:bt w v p D L G ps ho):ZR ZN 77 #[Z6 (ZX ⟨v,0,ZY⟩)] w λe w'=>e=Z3 (.agg #[Z7 Z9 D,Z7 Z9 L,Z7 Z9 G])/\bW w w':=(kJ h).mono λ_ _ q=>⟨q.1,q.2.1⟩
theorem dJ (h:bt w v p D L G ps ho) (f:D<=1000):ZR ZN 100 #[Z6 (ZX ⟨v,0,ZY⟩)] w λe w'=>e=Z3 (Z7 Z9 ((D*44:Nat):Int))/\w'=w:=by
 obtain ⟨c0,c1,b,c,d⟩:=h.cells;have a:((D*44:Nat):Int)=(D:Int)*44:=by omega
 rw [a];go_enter func100,ntmps100;go_wp2;go_ret;exact ⟨rfl,rfl⟩
theorem kK {a:Nat} {off:Bool} (d:bC w a v D' L' G' t f n pg ob off) (h:bt w v p D L G ps ho) (i:1<=D) (c:D<=1000):ZR ZN 141 #[Z6 (ZX ⟨a,0,ZY⟩)] w λe w'=>e=Z3 (Z7 Z9 ((D*44-4:Nat):Int))/\w'=w:=by
 obtain ⟨c0,_⟩:=d.cells;have b:((D*44-4:Nat):Int)=((D*44:Nat):Int)-4:=by omega
 rw [b];have g:=dJ h c;have b1:D*44<=44000:=by omega
 generalize D*44=q at *;go_enter func141,ntmps141;go_wp2_with fail;refine g.mono ?_;rintro e w' ⟨rfl,rfl⟩;go_wp2;go_ret;exact ⟨rfl,rfl⟩
theorem length_nil (w:ZU):ZR ZN 104 #[Z5 ZY 0 0] w λe w'=>e=Z3 (Z7 Z9 0)/\w'=w:=by
 go_enter func104,ntmps104;go_wp2;refine VO 1 ?_;rw [VJ];go_wp2;go_ret;exact ⟨rfl,rfl⟩
section
attribute [local go_sem] Oper.semAt_some
def IJ {m':Nat} {args:Array ZT} (h:YieldAt Fence.wide m P l args w R):YieldAt Fence.wide m' P l args w R:=by
 obtain ⟨fn,tmps,assign,body,a,b⟩:=h;exact ⟨fn,tmps,assign,body,a,wR b⟩
theorem lM (ao:Option Addr) (m c:Nat) (w:ZU) :
 ZR ZN 109 #[.slice ao m c] w λe w'=>e=Z3 (.func (.func 144) #[] #[Z6 (ZX ⟨w.heap.size,0,ZY⟩)])/\w'=w.alloc (Z4 #[.slice ao m c] 144):=by
 go_enter func109,ntmps109;go_wp2;go_ret;exact ⟨rfl,rfl⟩
theorem tT (ar:Nat) (w:ZU) :
 ZR ZN 84 #[Z6 (ZX ⟨ar,0,ZY⟩)] w λe w'=>e=Z3 (.func (.func 108) #[] #[Z6 (ZX ⟨w.heap.size,0,ZY⟩)])/\w'=w.alloc (Z4 #[Z6 (ZX ⟨ar,0,ZY⟩)] 103):=by
 go_enter func84,ntmps84;go_wp2;go_ret;exact ⟨rfl,rfl⟩
theorem tU (K:Nat->Prop) (n l b1 ar:Nat) (v D L G t f nn:Nat) (pg ob:ZT) (off:Bool) (P:a8) (os:List Ob) (hv:K b1) (hs:K ar) (J M:a8->ZU->Prop) (hn:∀ pre A B,J pre A->bW A B->J pre B)
 (hY:∀ pre x W,J pre W->pre++[x]<+:P++ah os->YieldAt Fence.wide (n-1) ZN l (pA x) W λe W'=>(e=Z3 (Z2 ZW)/\J (pre++[x]) W'/\eN K W W')\/(e=Z3 (Z2 ZV)/\M (pre++[x]) W'))
 (W:ZU) (a:ZP W b1 103 (Z6 (ZX ⟨ar,0,ZY⟩))) (g:bC W ar v D L G t f nn pg ob off) (u:bg K W pg P) (s:fa K W ob os) (w:J [] W) :
 CallsIn Fence.wide n ZN 108 #[.func (.yield l) #[] #[],Z6 (ZX ⟨b1,0,ZY⟩)] W λe W'=>(∃ v,e=Z3 v) /\
  ((∃ ys,ys=P++ah os/\J ys W')\/(∃ pre,pre<+:P++ah os/\M pre W')):=by
 obtain ⟨ao,c,rfl,k0,z⟩:=id u;obtain ⟨c0,_,_,c7,U⟩:=g.cells;have cb:=a.cell;refine Xk func108 rfl trivial ?_ rfl;simp only [ntmps108,UL,UG,U0,YH,YI,Vr,Vs,Vt,Vu,Ut,UX];have H:=a6 a g u s w;clear a g u s w z;gi_wp2;gi_loopw [10] (λp wr=>∃ k:Nat,p=Z7 Z9 (k:Nat)/\k<=P.length/\J (P.take k) wr/\eN K W wr)
  (λp _=>P.length-(intOf p).toNat)
 case atStart=>
  exact ⟨0,rfl,T7 _,H.o.2.2.2.2,eN.refl _ _⟩
 case round=>
  clear c0 c7 U cb;obtain ⟨k,rfl,hk,j,d⟩:=hrel;by_cases r:k<P.length
  . obtain ⟨hb,c',V,_,z⟩:=H.o.2.2.1.keep d;obtain ⟨b,bo,e2,hx,k6,hr⟩:=z (λe=>by rw [e] at r;simp at r);simp only [VA] at V;obtain ⟨rfl,_,rfl⟩:=V;subst e2;have g1:=hr k r;obtain ⟨y,F⟩:=nM (P[k]);rw [F] at g1;obtain ⟨fn,tmps,assign,body,k5,Z⟩:=hY _ y _ j (by
     have a:=(YM (k+1) P).trans (XU P (ah os));rwa [Vg,Ue r,F] at a)
    unfold pA at k5;have I:=a5 j d Z F;clear j d Z z hr F;gi_wp2;refine ⟨λh=>(by cases h),I.o.2.2.1.mono ?_⟩;have C:P.take k++[y]=P.take (k+1):=(by rw [Vg,Ue r,I.o.2.2.2];rfl);rintro e W3 (⟨rfl,R,hq⟩|⟨rfl,O⟩)
    . rw [C] at R;have i:=al R (I.o.2.1.trans hq);clear R hq C;gi_wp2;go_roundw
      case rel=>exact ⟨k+1,by go_num,by omega,i.o.1,i.o.2⟩
      case measure=>simp only [intOf];omega
    . rw [C] at O;have i:=ak O;clear O C;gi_wp2;refine Uv (XF rfl _ _ _) rfl ?_;exact ⟨⟨_,rfl⟩,.inr ⟨_,(YM (k+1) P).trans (XU _ _),i.o⟩⟩
  . have hz:k=P.length:=(by omega);subst hz;rw [VK] at j;obtain ⟨a,g,u,s,w⟩:=H.o;have hg:ZP wr b1 103 (Z6 (ZX ⟨ar,0,ZY⟩)):=(d.2 _ a.lt hv).trans a;have hh:=g.keep (d.2 _ g.lt hs);have Q:=s.keep d;obtain ⟨_,_,_,_,U⟩:=hh.cells;have cb:=hg.cell;obtain ⟨q,m,rfl,hol,_⟩:=id Q;have T:=aE j d Q;clear j d a g u s w hg hh Q;gi_wp2;refine dk (lM q os.length m wr) ?_;rintro e w2 ⟨rfl,rfl⟩;have E:bW wr (wr.alloc (Z4 #[.slice q os.length m] 144)):=bA wr _;have N:(wr.alloc (Z4 #[.slice q os.length m] 144)).cell? ⟨wr.heap.size,0,ZY⟩=ZX (.slice q os.length m):=(UH wr _ _).cell;obtain ⟨w2,S⟩:=nM (wr.alloc (Z4 #[.slice q os.length m] 144));rw [S] at E N;have hm:=hn _ _ _ T.o.1 E;have hi:=T.o.2.2.keep (eN.RU E);have X:=lF K (n-1) l wr.heap.size (.slice q os.length m) os J M hn (P++ah os) (λpre x W1 hj hp=>IJ (hY pre x W1 hj hp)) P (YD _) w2 N hi hm;have H2:=ak X;clear E N hm hi X;rw [S];clear S;gi_wp2;refine ⟨trivial,λh=>(by cases h),H2.o.mono ?_⟩;rintro e W3 ⟨⟨x,rfl⟩,Y⟩;have i:=ak Y;clear Y;gi_wp2;go_end0
    refine ⟨⟨_,rfl⟩,?_⟩;rcases i.o with h|⟨pre,a,h2⟩
    . exact .inl ⟨_,rfl,h⟩
    . exact .inr ⟨_,(abX _).2 a,h2⟩
def pN (K:Nat->Prop) (n b1 ar v D L G t f nn:Nat) (pg ob:ZT) (off:Bool) (P:a8) (os:List Ob) (m:K b1) (j:K ar) (w:ZU) (c:ZP w b1 103 (Z6 (ZX ⟨ar,0,ZY⟩))) (d:bC w ar v D L G t f nn pg ob off) (q:bg K w pg P) (o:fa K w ob os) :
 SeqStopsK Fence.wide n ZN 108 #[Z6 (ZX ⟨b1,0,ZY⟩)] pA (eN K) (λz=>z=P++ah os) (λpre=>pre<+:P++ah os) (P++ah os).length w:=λl J g W b p _ s i=>
 tU K n l b1 ar v D L G t f nn pg ob off P os m j J g (λpre A B h a=>p pre A B ZY h ⟨a.os,a.tape,a.output,a.size,λk u _=>a.block k u⟩ (λr e=>by cases e)) (λpre x W h y=>s pre x W h (PN y)) W
  ((b.block _ c.lt).trans c) (d.keep (b.block _ d.lt)) (q.keep (eN.RU b)) (o.keep (eN.RU b)) i
end
section
variable {w:ZU} {p:Nat} {A:aC} {F:aH}
theorem EJ (h:az w p A F):ZR ZN 66 #[Z6 (ZX ⟨p,0,ZY⟩)] w λe w'=>e=Z3 (Z7 Z9 A.n)/\w'=w:=by
 obtain ⟨R,a,b⟩:=h;obtain ⟨c0,c1⟩:=a.RX;rw [b.n] at c0;go_enter func66,ntmps66;go_wp2;go_ret;exact ⟨rfl,rfl⟩
theorem iQ {R:eB} (h:ag w p R F) (a:0<R.n):ZR ZN 38 #[Z6 (ZX ⟨p,0,ZY⟩)] w λe w'=>e=Z3 (Z7 Z9 R.nb)/\w'=w:=by
 obtain ⟨c0,c1⟩:=h.RX;obtain ⟨b,d1,c,d⟩:=h.R8 0 a;rw [abw,Um] at d1;go_enter func38,ntmps38;go_wp2;go_ret;exact ⟨rfl,rfl⟩
def tV (h:az w p A F) (c:0<A.n):ZR ZN 38 #[Z6 (ZX ⟨p,0,ZY⟩)] w λe w'=>e=Z3 (Z7 Z9 A.nb)/\w'=w:=by
 obtain ⟨R,b,a⟩:=h;rw [<- a.nb];exact iQ b (by rw [a.n];exact c)
end
theorem tW (n m:Nat) (f:n<=5000000000) (c:1<=m/\m<=1000000) (w:ZU):ZR ZN 140 #[Z7 Z9 n,Z7 Z9 m] w λe w'=>e=Z3 (Z7 Z9 (((n+m-1)/m:Nat):Int))/\w'=w:=by
 obtain ⟨g,h⟩:=c;have a:(((n+m-1)/m:Nat):Int)=((n:Int)+m-1)/(m:Int):=by rw [X4,show ((n+m-1:Nat):Int)=(n:Int)+m-1 by omega]
 have d:Int.tdiv ((n:Int)+m-1) (m:Int)=((n:Int)+m-1)/(m:Int):=Xt (by omega);have b:wrap64 (((n:Int)+m-1)/(m:Int))=((n:Int)+m-1)/(m:Int):=by rw [<- a];exact iL (TZ (VT _ _) (by omega))
 rw [a];go_enter func140,ntmps140;go_wp2;go_ret;exact ⟨UB (λx=>Ending.returned (Z7 Z9 x)) b,rfl⟩
def pgs (D m:Nat):Nat:=max 1 ((m+(D*44-4)-1)/(D*44-4))
theorem jf {a:Nat} {off:Bool} (s:bC w a v D' L' G' t f n pg ob off) (h:bt w v p D L G ps ho) (l:1<=D) (r:D<=1000) (m:Nat) (u:m<=5000000000):ZR ZN 103 #[Z6 (ZX ⟨a,0,ZY⟩),Z7 Z9 m] w λe w'=>e=Z3 (Z7 Z9 (pgs D m:Nat))/\w'=w:=by
 have c:=tW m (D*44-4) u ⟨by omega,by omega⟩ w;obtain ⟨q,d⟩:=nM ((m+(D*44-4)-1)/(D*44-4));rw [d] at c;have i:pgs D m=max 1 q:=by unfold pgs;rw [d]
 rw [i];have x:∀ b k w,(Builtin.max_ b k #[Z7 Z9 1,Z7 Z9 (q:Nat)]).run ZN w=.ok (Z7 Z9 ((max 1 q:Nat):Int)) w:=λb k w=>by
  rw [lE];by_cases g:(q:Int)>1
  . rw [TX g,Nat.max_eq_right (by omega)]
  . rw [TW g,Nat.max_eq_left (by omega)];rfl
 have j:=kK s h l r;have H:=al c j;clear c j i d;go_enter func103,ntmps103;go_wp2_with fail;refine H.o.2.mono ?_;rintro e w' ⟨rfl,rfl⟩;generalize ((D*44-4:Nat):Int)=y at *;go_wp2_with fail;refine H.o.1.mono ?_;rintro e w' ⟨rfl,rfl⟩;go_wp2;go_ret;exact ⟨rfl,rfl⟩
theorem jw {A:aC} {F:aH} (d:bt w v p D L G ps ho) (h:az w p A F) (c:0<A.n):ZR ZN 163 #[Z6 (ZX ⟨v,0,ZY⟩)] w λe w'=>e=Z3 (Z7 Z9 A.nb)/\w'=w:=by
 obtain ⟨c0,_⟩:=d.cells;have f:=h.SD.2;have a:=tV h c;obtain ⟨nb,b⟩:=nM (A.nb);rw [b] at a f ⊢;clear h c b;go_enter func163,ntmps163;go_wp2_with fail;refine a.mono ?_;rintro e w' ⟨rfl,rfl⟩;go_wp2;go_ret;exact ⟨rfl,rfl⟩
section
attribute [local go_sem] Oper.semAt_some
def xP {size:Nat} {v:ZT} {xs:List ZT} (h:w.ownsRow base e size v n xs) {j:Nat} {o:Obj} (a:v.ownBlock=ZX j) (ho:w.heap[j]?=ZX o):o.isCells=ZW:=by
 rcases h.2 with ⟨d,_⟩|⟨g,cap,cur,b,f,c,_⟩
 . rw [d] at a;simp [Value.ownBlock] at a
 . rw [b] at a;simp [Value.ownBlock] at a;subst a;rw [c] at ho;cases ho;rfl
def lN {size:Nat} {v:ZT} {xs:List ZT} {row:Option Nat} (h:w.ownsRow base e size v n xs) (a:w.grownBy w' row) (c:∀ r,row=ZX r->∃ o:Obj,w.heap[r]?=ZX o/\o.isCells=ZV):w'.ownsRow base e size v n xs:=by
 cases row with
 | none=>
  cases hv:v.ownBlock with
  | none=>exact h.kept a (.inl hv)
  | some q=>exact h.kept a (.inr (by rw [hv];intro e;cases e))
 | some r=>
  obtain ⟨o,ho,b⟩:=c r rfl;exact h.kept a (.inr λe=>by have:=xP h e ho;rw [b] at this;cases this)
def tX (w:ZU) (b i:Nat) (v:ZT):w.grownBy (w.setCell ⟨b,i,ZY⟩ v) (ZX b):=
 ⟨rfl,rfl,rfl,by simp [World.setCell],λk _ a=>Uj _ _ _ _ (λe=>a (by rw [e]))⟩
def GE (d:fn.results=#[.tmp t]) (b:a.defers=[{ target:=.collected D',args:=#[] }]) (hx:a.tmps.getD t ZZ=x)
 (hK:Z.heap[D']?=ZX (.deferred (ZX []))) (hR:R (Z3 x) (Z.putObj D' (.deferred ZY))):bodyPostM Fence.wide n ZN fn R .ret a Z:=by
 obtain ⟨e,f⟩:=a;simp only at b hx;subst b;refine ⟨by simp,.inl ⟨_,_,rfl,WE hK,?_⟩⟩;refine ⟨x,?_,hR⟩;have c:e[t]?.getD ZZ=x:=by simpa using hx
 simp [results,d,c]
def ApI (w:ZU) (g:Nat) (B D:Nat) (pre:List (Ch D)) (X:ZU):Prop:=
 (∃ v,ZP X w.heap.size 108 v/\X.ownsRow (w.heap.size+1) 40 1 v pre.length (pre.map λx=>DP g x.1))/\bW w X/\B<=X.heap.size
def ApI.own (i:w.heap.size+1<=B):OwnFrom B (ApI w g B D):=by
 rintro pre X Y row ⟨⟨v,c,f⟩,d,h⟩ a b;exact ⟨⟨v,(a.block _ c.lt (λe=>by have:=(b _ e.symm).1;omega)).trans c,lN f a λr e=>(b r e).2⟩,d.grown a d.size (λk e=>by have:=(b k e).1;omega),TZ h a.size⟩
def Tryz.Se:(ZN.info? 40).map (λi=>(i.zero,i.size,i.bytes))=ZX (ZX (Z5 ZY 0 0),1,24):=by kernel_rfl
def LB (t:o.guard=ZY) (x y:ZO) (ho:o.op=.call { callee:=.builtin .append,args:=#[x,y],argTypes:=#[108,108] })
 (n0 q:Nat) (k:Nat) (xs:List ZT) (u v:ZT) (hx:a.eval x=v) (hy:a.eval y=Z5 (ZX ⟨q,0,ZY⟩) 1 1) (h3:w.ownsRow n0 40 1 v k xs) (hc:w.cell? ⟨q,0,ZY⟩=ZX u) (hu:u.oneCell'=ZW) (h7:n0<=w.heap.size) (hk:k<=1000000)
 (hK:∀ c b w2,n0<=c->w2.ownsRow n0 40 1 (Z5 (ZX ⟨c,0,ZY⟩) (k+1) b) (k+1) (xs++[u])->w.grownBy w2 v.ownBlock->wpListIn F n ZN ops Q rest (a.put o.dst (Z5 (ZX ⟨c,0,ZY⟩) (k+1) b)) w2):wpListIn F n ZN ops Q (o::rest) a w:=by
 obtain ⟨A,l,m,p,r⟩:=Uu Tryz.Se;refine wpListIn_append_own w t x y 108 ho n0 40 A (Z5 ZY 0 0) 1 24 VW l m p r rfl (by decide) v k xs hx h3 ⟨q,0,ZY⟩ 1 1 [u] hy rfl (λj u' d=>?_) (λu' f=>by simp at f;subst f;exact hu) (by unfold maxLen;omega) (by omega) h7 ?_
 . cases j with
   | zero=>simp at d;subst d;exact hc
   | succ j=>simp at d
 . intro B w2 e h _;obtain ⟨c,b,rfl,i⟩:∃ c b,B=Z5 (ZX ⟨c,0,ZY⟩) (k+1) b/\n0<=c:=by
    rcases e.2 with ⟨_,C⟩|⟨g,cap,cur,z,s,_⟩
    . omega
    . exact ⟨g,cap,z,s⟩
   exact hK c b w2 i e h
theorem pO (g D b1 b2:Nat) (Q:D<=1000) (w:ZU) (G:b1<w.heap.size) (I:b2<w.heap.size) (O:w.cell? ⟨b1,0,ZY⟩=ZX (Z5 (ZX ⟨g,0,ZY⟩) (D*44) (D*44))) (P:w.cell? ⟨b2,0,ZY⟩=ZX (Z7 Z9 44)) :
 ZR ZN 216 #[Z5 ZY 0 0,.func (.func 217) #[] #[Z6 (ZX ⟨b1,0,ZY⟩),Z6 (ZX ⟨b2,0,ZY⟩)]] w λe w'=>∃ v,e=Z3 v/\w'.ownsRow w.heap.size 40 1 v D ((YF D).map (DP g))/\bW w w':=by
 obtain ⟨n,M⟩:∃ n:Nat,cJ (9<=n):=⟨9,TY _⟩;refine (Vj (n:=n)).1 ?_;refine Wo func216 rfl trivial ?_ rfl;simp only [ntmps216,UL,UG,U0,YH,YI,Vr,Vs,Vt,Vu,Ut,UX];gi_wp2;obtain ⟨w1,s⟩:=nM (w.alloc (Z4 #[Z5 ZY 0 0] 108));have N:ZP w1 w.heap.size 108 (Z5 ZY 0 0):=by rw [<- s];exact UH w _ _
 have k8:w1.heap.size=w.heap.size+1:=by rw [<- s];simp
 have B:bW w w1:=by rw [<- s];exact bA w _
 rw [s];clear s;have U:ApI w g w1.heap.size D [] w1:=⟨⟨_,N,UP _ _ _ _⟩,B,TY _⟩;refine Wp rfl (by have:=M.o;omega) (gf:=217) (lb:=#[Z6 (ZX ⟨b1,0,ZY⟩),Z6 (ZX ⟨b2,0,ZY⟩)]) rfl trivial (VC func217 (by kernel_rfl) rfl)
  (zV (n-1) b1 b2 g D Q w1 (by omega) (by omega) ((B.cell (p:=⟨b1,0,ZY⟩) G).trans O) ((B.cell (p:=⟨b2,0,ZY⟩) I).trans P)) (λh k=>⟨k.1.trans h.1,k.2.trans h.2⟩) (λW l o o' hl _ _ _=>⟨U6 (by omega),U6 (by omega)⟩) (T6 _ _) (λ_=>rfl)
  (ApI w g w1.heap.size D) (λ_ _ _=>False) (ApI.own (by omega)) (λ_ _ _ _ _ h _ _=>h.elim) U
  (λx=>{ tmps:=#[Z5 ZY 0 0,.func (.func 217) #[] #[Z6 (ZX ⟨b1,0,ZY⟩),Z6 (ZX ⟨b2,0,ZY⟩)],Z6 (ZX ⟨w.heap.size,0,ZY⟩),ZZ,Z5 ZY 0 0,DP g x.1,.func (.func 217) #[] #[Z6 (ZX ⟨b1,0,ZY⟩),Z6 (ZX ⟨b2,0,ZY⟩)],DP g x.1,ZZ,ZZ,ZZ,ZZ,ZZ],defers:=[] }) ?assign ?body ?done ?stop
 case assign=>
  intro l2 x X Kk hK;unfold GB;gi_wp2;exact hK
 case body=>
  rintro l2 pre x X ⟨⟨v,f,b⟩,a,y⟩ hq;have c0:=f.cell;have hz:=f.lt;have k7:pre.length<=1000:=by omega
  obtain ⟨c,Y⟩:=nM (x.1*44);have m:DP g x.1=Z5 (ZX ⟨g,c,ZY⟩) 44 44:=by rw [<- Y];rfl
  have R:(Value.slice (ZX ⟨g,c,ZY⟩) 44 44).oneCell'=ZW:=rfl;have T:(X.alloc (Z4 #[Z5 (ZX ⟨g,c,ZY⟩) 44 44] 40)).cell? ⟨X.heap.size,0,ZY⟩=ZX (Z5 (ZX ⟨g,c,ZY⟩) 44 44):=(UH X 40 (Z5 (ZX ⟨g,c,ZY⟩) 44 44)).cell;have H:=a6 f b a y m;rw [m];clear f b a y m;have C:cJ ((X.alloc (Z4 #[Z5 (ZX ⟨g,c,ZY⟩) 44 44] 40)).ownsRow (w.heap.size+1) 40 1 v pre.length (pre.map λx=>DP g x.1)):=ak (an H.o.2.1 (bA X _));have L:cJ (w.heap.size+1<=(X.alloc (Z4 #[Z5 (ZX ⟨g,c,ZY⟩) 44 44] 40)).heap.size):=ak (by simp;omega);gi_wp2_with (
   gi_at_builtin;
   refine LB rfl (Z1 8) (Z1 10) rfl (w.heap.size+1) X.heap.size pre.length (pre.map λx=>DP g x.1) (Z5 (ZX ⟨g,c,ZY⟩) 44 44) v (by rfl) (by rfl) (by exact C.o) (by exact T) R L.o (by omega) ?_;
   intro E d w2 k6 F i;
   have A:ZP w2 w.heap.size 108 v:=(i.block w.heap.size (by simp;omega) (λe=>by have:=(H.o.2.1.lt _ e.symm).1;omega)).trans (H.o.1.alloc _);
   have d0:=A.cell;
   have f0:=A.frozen)
  obtain ⟨f,b,a,y,m⟩:=H.o;have Z:∀ q,v.ownBlock=ZX q->w.heap.size+1<=q:=λq e=>(b.lt q e).1;have hy:=i.size;simp only [Uw] at hy;have V:KeepsOthers X w2:=(KeepsOthers.alloc X (Z4 #[Z5 (ZX ⟨g,c,ZY⟩) 44 44] 40)).trans (ab8 i λj o e ho=>xP C.o e ho);have z:∀ k,k<w.heap.size->w2.heap[k]?=X.heap[k]?:=λk u=>(i.block k (by simp;omega) (λe=>by have:=Z k e.symm;omega)).trans (Uy _ _ _ (by omega));have J:∀ k,k≠w.heap.size->(w2.setCell ⟨w.heap.size,0,ZY⟩ (Z5 (ZX ⟨E,0,ZY⟩) (pre.length+1) d)).heap[k]?=w2.heap[k]?:=λk u=>Uj _ _ _ _ u;refine ⟨(V.trans (V9 _ _ _)).from _,⟨(J _ (by omega)).trans (z _ G),(J _ (by omega)).trans (z _ I)⟩,⟨_,A.set _,?_⟩,?_,by simp [World.setCell];omega⟩
  . have q:=F.kept (tX w2 w.heap.size 0 (Z5 (ZX ⟨E,0,ZY⟩) (pre.length+1) d)) (.inr λe=>by have:=(F.lt _ e).1;omega);have e:(pre++[x]).map (λx=>DP g x.1)=pre.map (λx=>DP g x.1)++[Z5 (ZX ⟨g,c,ZY⟩) 44 44]:=(by rw [UD,<- m];rfl);rw [e,Uc];exact q
  . refine (Xr (p:=⟨w.heap.size,0,ZY⟩) ?_ lR _);exact ⟨i.os.trans a.os,i.tape.trans a.tape,i.output.trans a.output,by have:=a.size;omega,λk u=>(z k u).trans (a.block k u)⟩
 case done=>
  rintro D' xs X S K ⟨⟨v,f,b⟩,a,y⟩ hK;have c0:=f.cell;have H:=aE b a hK;clear f b a hK;gi_wp2;obtain ⟨b,a,hK⟩:=H.o;have k0:xs.length=D:=by have:=UB YL K;simpa using this
  have k5:xs.map (λx=>DP g x.1)=(YF D).map (DP g):=by rw [<- K,List.map_map];rfl
  rw [k0,k5] at b;refine GE (t:=4) results216 rfl rfl hK ⟨_,rfl,?_,?_⟩
  . exact de (lN b (Xf X D' (.deferred ZY)) λr e=>by cases e;exact ⟨_,hK,rfl⟩) (by omega)
  . exact Below.RY a (by omega) (T5.1 hK).1 _
 case stop=>
  rintro D' cc pre X S hs hx hK;exact hx.elim
theorem tY (g D b1 b2:Nat) (j:D<=1000) (w:ZU) (h:b1<w.heap.size) (i:b2<w.heap.size) (b:w.cell? ⟨b1,0,ZY⟩=ZX (Z5 (ZX ⟨g,0,ZY⟩) (D*44) (D*44))) (c:w.cell? ⟨b2,0,ZY⟩=ZX (Z7 Z9 44)) :
 ZR ZN 205 #[.func (.func 217) #[] #[Z6 (ZX ⟨b1,0,ZY⟩),Z6 (ZX ⟨b2,0,ZY⟩)]] w λe w'=>∃ v,e=Z3 v/\w'.ownsRow w.heap.size 40 1 v D ((YF D).map (DP g))/\bW w w':=by
 have f:=pO g D b1 b2 j w h i b c;clear b c;go_enter func205,ntmps205;go_wp2_with fail;refine f.mono ?_;rintro e w' ⟨v,rfl,a,d⟩;have H:=al a d;clear f a d;go_wp2;go_ret;exact ⟨_,rfl,H.o.1,H.o.2⟩
def iR (D:Nat) (dl:a8):a8:=dl++YJ (D*44-dl.length) 0
def dY (D:Nat) (dl:a8):List a8:=(YF D).map λi=>((iR D dl).drop (i*44)).take 44
def LC (h:dl.length<=D*44):(iR D dl).length=D*44:=by unfold iR;simp;omega
def eh (D:Nat) (dl:a8):(dY D dl).length=D:=by simp [dY]
def oE (a:i<(dY D dl).length):(dY D dl)[i]=((iR D dl).drop (i*44)).take 44:=by simp [dY]
def my (h:dl.length<=D*44) (a:i<D):(((iR D dl).drop (i*44)).take 44).length=44:=by
 rw [Us,Ur,LC h];omega
def Om (h:∀ x∈dl,x<256):∀ x∈iR D dl,x<256:=by
 intro x a;unfold iR at a;rw [Un] at a;rcases a with a|a
 . exact h x a
 . have:=VM a;omega
theorem QY (h:bt w v p D L G ps ho) (hD:D<=12) (Y:ZT) (dl:a8) (R:Bs w Y dl) (hl:dl.length<=D*44) :
 ZR ZN 190 #[Z6 (ZX ⟨v,0,ZY⟩),Y] w λe w'=>∃ u,e=Z3 u/\Rd w' u (dY D dl)/\bW w w':=by
 have X:=dJ h (by omega);obtain ⟨b,z⟩:=nM (D*44);have hv:b<=528:=by omega
 rw [z] at X hl;have J:=ak R;clear R;go_enter func190,ntmps190;go_wp2_with fail;refine X.mono ?_;rintro e w1 ⟨rfl,rfl⟩;go_wp2_with (at_make;refine cU _ rfl (Z1 7) (Z1 7) rfl _ b (by rfl) (by rfl) rfl (by omega) ?_;intro w2 Q A k0;obtain ⟨a,hq,r,U⟩:=BP (n:=b) (cap:=b) (off:=0) 3 Q (J.o.mono A) (by omega) (by simp;omega));have s:bW w1 a:=A.grown U (by omega) (λk e=>by cases e;exact TY _);have P:spl (YJ b 0) 0 dl=iR D dl:=by
  unfold spl iR;rw [Wn,Ut,Um,X0,z]
 rw [P] at r;have B:=ID w1.heap.size D a;rw [z] at B;have H:=aE r s B;clear hq Q A U r s B P;refine H.o.2.2.mono ?_;rintro e f ⟨rfl,rfl⟩;obtain ⟨f,d⟩:=nM ((a.alloc (Z4 #[Z5 (ZX ⟨w1.heap.size,0,ZY⟩) b b] 40)).alloc (Z4 #[Z7 Z9 44] 3));have t:bW a f:=by rw [<- d];exact (bA a _).alloc (by simp) _
 have hz:f.heap.size=a.heap.size+2:=by rw [<- d];simp
 have M:f.cell? ⟨a.heap.size,0,ZY⟩=ZX (Z5 (ZX ⟨w1.heap.size,0,ZY⟩) (D*44) (D*44)):=by rw [<- d,z];exact ((UH a _ _).alloc _).cell
 have N:f.cell? ⟨a.heap.size+1,0,ZY⟩=ZX (Z7 Z9 44):=by
  have:=(UH (a.alloc (Z4 #[Z5 (ZX ⟨w1.heap.size,0,ZY⟩) b b] 40)) 3 (Z7 Z9 44)).cell;rw [Uw] at this;rw [<- d];exact this
 have T:=tY w1.heap.size D a.heap.size (a.heap.size+1) (by omega) f (by omega) (by omega) M N;rw [d];have I:=al t T;clear d t T M N hz;go_wp2_with fail;refine I.o.2.mono ?_;rintro e F ⟨u,rfl,m,y⟩;have Z:=al m y;clear m y;go_wp2;go_ret;obtain ⟨r,s,_⟩:=H.o;obtain ⟨t,_⟩:=I.o;obtain ⟨m,y⟩:=Z.o;have O:bW a F:=t.trans (y.mono t.size);have hp:aM F w1.heap.size (iR D dl):=r.below O;refine ⟨u,rfl,?_,s.trans (O.mono s.size)⟩;rcases m.2 with ⟨h0,h1⟩|⟨q,cap,cur,K,e2,e3,e4,e5,e6,e7⟩
 . subst h0;have:dY D dl=[]:=by rw [<- Xc,eh];exact h1
   exact ⟨ZY,0,by rw [this];rfl,by rw [this];decide,λE=>absurd this E⟩
 . refine ⟨ZX ⟨q,0,ZY⟩,cap,by rw [K,eh],by rw [eh];omega,λ_=>⟨q,0,rfl,λi S=>?_⟩⟩;have C:=S;rw [eh] at C;refine ⟨DP w1.heap.size i,?_,?_⟩
   . have:=m.cells (g:=q) (by rw [K];rfl) i (DP w1.heap.size i) (by simp [C]);rw [jm] at this;rw [Um];exact this
   . rw [oE S];have hg:=my (D:=D) (dl:=dl) (by omega) C;have hr:F.rangeAt w1.heap.size 0 (aI (iR D dl)):=λj u hu=>by
      have E:=hp.SO;have hy:(aI (iR D dl)).toArray[j]?=ZX u:=(by simpa using hu);simp [World.cell?,E,hy]
     have W:=nr 44 (gh (i*44) hr);rw [Um] at W;have V:=Bs.mid (c:=44) (l:=((iR D dl).drop (i*44)).take 44) (by omega) (by omega) (λx hx=>Om J.o.lt x (U8 (U2 hx))) W;rw [hg] at V;exact V
end
section
attribute [local go_sem] Oper.semAt_some
def jx (nb:Nat) (s:(Nat->Bool)×Bool) (x:Nat):(Nat->Bool)×Bool:=if x<2\/nb<=x\/s.1 x=ZW then (s.1,ZV) else (λj=>if j=x then ZW else s.1 j,s.2)
def tk (nb:Nat) (l:a8):(Nat->Bool)×Bool:=l.foldl (jx nb) (λ_=>ZV,ZW)
def sn (nb:Nat) (l:a8) (x:Nat):tk nb (l++[x])=jx nb (tk nb l) x:=by simp [tk]
def Tryz.Tg:(ZN.info? 4).map (λi=>(i.zero,i.size,i.bytes))=ZX (ZX (Z2 ZV),1,1):=by kernel_rfl
def pP (w:ZU) {F:Fence} {m:Nat} {ops:Array ZQ} {rest:List ZQ} {o:ZQ} {a:Act} {Q:Exit->Act->ZU->Prop}
 (i:o.guard=ZY) (l c:ZO) (b:o.op=Op.makeSlice 77 l c) (C:Int) (n:Nat) (hl:a.eval l=Z7 Z9 C) (g:a.eval c=Z7 Z9 C) (f:C=(n:Int)) (j:n<=1000000000)
 (hK:∀ w',w'.rowIs w.heap.size 4 n (λ_=>Z2 ZV)->bW w w'->w'.heap.size=w.heap.size+1->wpListIn F m ZN ops Q rest (a.put o.dst (Z5 (ZX ⟨w.heap.size,0,ZY⟩) n n)) w') :
 wpListIn F m ZN ops Q (o::rest) a w:=by
 refine Yh i λK e=>?_;have d:=XX (P:=ZN) 77 4 (Z2 ZV) 1 underlying77 Tryz.Tg rfl .i64 .i64 n (by omega) (by omega) w;subst f;unfold Oper.wpIn;refine ⟨by simp [Oper.about,b],?_⟩;rw [VE F _ _ (by rw [b];intro c h;cases h)];simp [execOp,b,hl,g,d,Result.andThen];exact e _ _ (hK _ (Xx w _ n _) (bA _ _) (Ul _ _))
structure QZ (w:ZU) (g nb B:Nat) (pre:a8) (X:ZU):Prop where
 row:X.rowIs g 4 nb (λj=>Z2 ((tk nb pre).1 j))
 box:ZP X (g+1) 77 (Z5 (ZX ⟨g,0,ZY⟩) nb nb)
 ok:ZP X (g+1+1) 4 (Z2 (tk nb pre).2)
 below:bW w X
 size:B<=X.heap.size
def QZ.own {nb:Nat} (l:g+3<=B) (m:w.heap.size<=B):OwnFrom B (QZ w g nb B):=by
 rintro pre X Y row ⟨f,h,i,c,j⟩ b d;have a:∀ k,k<B->Y.heap[k]?=X.heap[k]?:=λk a=>b.block k (by omega) (λe=>by have:=(d k e.symm).1;omega);exact ⟨f.of_block (a _ (by omega)),(a _ (by omega)).trans h,(a _ (by omega)).trans i,c.grown b c.size (λk e=>by have:=(d k e).1;omega),TZ j b.size⟩
def tZ {u:Nat} {y:ZT} (f:fn.results=#[.tmp t,.tmp u]) (b:a.defers=[{ target:=.collected D',args:=#[] }]) (hx:a.tmps.getD t ZZ=x) (hy:a.tmps.getD u ZZ=y)
 (hK:Z.heap[D']?=ZX (.deferred (ZX []))) (hR:R (Z3 (Z0 #[x,y])) (Z.putObj D' (.deferred ZY))):bodyPostM Fence.wide n ZN fn R .ret a Z:=by
 obtain ⟨c,g⟩:=a;simp only at b hx hy;subst b;refine ⟨by simp,.inl ⟨_,_,rfl,WE hK,?_⟩⟩;refine ⟨Z0 #[x,y],?_,hR⟩;have d:c[t]?.getD ZZ=x:=by simpa using hx
 have e:c[u]?.getD ZZ=y:=by simpa using hy
 simp [results,f,d,e]
theorem xQ {off:Bool} {A:aC} {F:aH} (N:bC w ar v D' L' G' t f nn pg ob off) (hV:bt w v p D L G ps ho) (h:az w p A F) (hn:0<A.n) (P:a8) (os:List Ob) (hP:bg (λk=>k<w.heap.size) w pg P) (hC:fa (λk=>k<w.heap.size) w ob os) :
 ZR ZN 156 #[Z6 (ZX ⟨ar,0,ZY⟩)] w λe w'=>∃ g,e=Z3 (Z0 #[Z5 (ZX ⟨g,0,ZY⟩) A.nb A.nb,Z2 (tk A.nb (P++ah os)).2])/\w.heap.size<=g/\w'.rowIs g 4 A.nb (λj=>Z2 ((tk A.nb (P++ah os)).1 j))/\bW w w':=by
 obtain ⟨n,HN⟩:∃ n:Nat,cJ (9<=n):=⟨9,TY _⟩;obtain ⟨c0,_⟩:=N.cells;have Q:=jw hV h hn;have ka:=h.SD.2;obtain ⟨nb,h7⟩:=nM (A.nb);rw [h7] at Q ka ⊢;clear h7;have C:=a5 N hP hC Q;clear N hP hC Q;refine (Vj (n:=n)).1 ?_;refine Wo func156 rfl trivial ?_ rfl;simp only [ntmps156,UL,UG,U0,YH,YI,Vr,Vs,Vt,Vu,Ut,UX];gi_wp2;refine dk C.o.2.2.2 ?_;rintro e w1 ⟨rfl,rfl⟩;gi_wp2_with (gi_at_make;refine pP _ rfl (Z1 11) (Z1 11) rfl _ nb (by rfl) (by rfl) rfl (by omega) ?_;intro w2 h6 hq J)
 obtain ⟨d,B⟩:=nM ((w2.alloc (Z4 #[Z5 (ZX ⟨w1.heap.size,0,ZY⟩) nb nb] 77)).alloc (Z4 #[Z2 ZW] 4));have k0:d.heap.size=w1.heap.size+3:=by rw [<- B];simp [J]
 have hr:bW w1 d:=by rw [<- B];exact (hq.alloc (by omega) _).alloc (by simp;omega) _
 have hp:d.rowIs w1.heap.size 4 nb (λ_=>Z2 ZV):=by rw [<- B];exact (h6.alloc _).alloc _
 have hg:ZP d (w1.heap.size+1) 77 (Z5 (ZX ⟨w1.heap.size,0,ZY⟩) nb nb):=by
  rw [<- B];have:=UH w2 77 (Z5 (ZX ⟨w1.heap.size,0,ZY⟩) nb nb);rw [J] at this;exact this.alloc _
 have hm:ZP d (w1.heap.size+1+1) 4 (Z2 ZW):=by
  rw [<- B];have:=UH (w2.alloc (Z4 #[Z5 (ZX ⟨w1.heap.size,0,ZY⟩) nb nb] 77)) 4 (Z2 ZW);rw [Uw,J] at this;exact this
 rw [B];clear B h6 hq J c0 hV h;refine dk (tT ar d) ?_;rintro e w' ⟨rfl,rfl⟩;have h5:ZP (d.alloc (Z4 #[Z6 (ZX ⟨ar,0,ZY⟩)] 103)) d.heap.size 103 (Z6 (ZX ⟨ar,0,ZY⟩)):=UH d _ _;have k5:(d.alloc (Z4 #[Z6 (ZX ⟨ar,0,ZY⟩)] 103)).heap.size=d.heap.size+1:=by simp
 have H:QZ w1 w1.heap.size nb (d.heap.size+1) [] (d.alloc (Z4 #[Z6 (ZX ⟨ar,0,ZY⟩)] 103)):=⟨hp.alloc _,hg.alloc _,hm.alloc _,hr.alloc (by omega) _,by omega⟩;obtain ⟨s,hs⟩:=nM (d.alloc (Z4 #[Z6 (ZX ⟨ar,0,ZY⟩)] 103));have I:=a5 h5 H k0 k5;clear h5 H k0 k5 hp hg hm hr;gi_wp2;rw [hs] at I;clear hs;obtain ⟨ke,kf,kg,kh⟩:d.heap.size<=w1.heap.size+3/\w1.heap.size+3<=d.heap.size/\s.heap.size<=d.heap.size+1/\d.heap.size+1<=s.heap.size:=by have:=I.out.2.2;omega
 have H:QZ w1 w1.heap.size nb s.heap.size [] s:=by have:=I.out.2.1;exact ⟨this.row,this.box,this.ok,this.below,TY _⟩
 have O:∀ {v:ZT} {l:a8},bg (λk=>k<w1.heap.size) w1 v l->bg (λk=>k<w1.heap.size\/k=d.heap.size) w1 v l:=λ⟨ao,c,S,T,U⟩=>⟨ao,c,S,T,λhl=>by obtain ⟨b,off,V,Y,Z⟩:=U hl;exact ⟨b,off,V,.inl Y,Z⟩⟩;have k8:=O C.o.2.1;have k6:fa (λk=>k<w1.heap.size\/k=d.heap.size) w1 ob os:=by
  obtain ⟨ao,c,S,T,U⟩:=C.o.2.2.1;refine ⟨ao,c,S,T,λhl=>?_⟩;obtain ⟨b,off,V,Y,Z,r4⟩:=U hl;refine ⟨b,off,V,.inl Y,Z,λi a=>?_⟩;obtain ⟨sv,s1,s2,s3,s4⟩:=r4 i a;exact ⟨sv,s1,s2,s3,O s4⟩
 have M:=H.below;have HI:=ak H;clear H O;refine Wp rfl (by have:=HN.o;omega) (gf:=108) (lb:=#[Z6 (ZX ⟨d.heap.size,0,ZY⟩)]) rfl trivial (VC func108 (by kernel_rfl) rfl)
  (pN (λk=>k<w1.heap.size\/k=d.heap.size) (n-1) d.heap.size ar v D' L' G' t f nn pg ob off P os (.inr rfl) (.inl C.o.1.lt) s I.out.1 (C.o.1.keep (M.block _ C.o.1.lt)) (k8.keep (eN.RU M)) (k6.keep (eN.RU M)))
  (λh k=>h.trans k) (λW l o o' hl _ _ _=>⟨by simp [World.putObj],λk _ r=>U6 (by rcases r with r|r<;>omega)⟩) (T6 _ _) (λ_=>rfl)
  (QZ w1 w1.heap.size nb s.heap.size) (λ_ _ _=>False) (QZ.own (by omega) (by omega)) (λ_ _ _ _ _ h _ _=>h.elim) HI.o
  (λx=>{ tmps:=#[Z6 (ZX ⟨ar,0,ZY⟩),ZZ,Z5 ZY 0 0,Z2 ZV,Z6 (ZX ⟨w1.heap.size+1,0,ZY⟩),Z6 (ZX ⟨w1.heap.size+1+1,0,ZY⟩),Z7 Z9 (x:Nat),Z6 (ZX ⟨ar,0,ZY⟩),Z6 (ZX ⟨ar,0,ZY⟩),Z6 (ZX ⟨ar,0,ZY⟩),Z6 (ZX ⟨v,0,ZY⟩),Z7 Z9 (nb:Nat),Z5 (ZX ⟨w1.heap.size,0,ZY⟩) nb nb,Z6 (ZX ⟨ar,0,ZY⟩),.func (.func 108) #[] #[Z6 (ZX ⟨d.heap.size,0,ZY⟩)],Z7 Z9 (x:Nat),ZZ,ZZ,ZZ,ZZ,ZZ,ZZ,ZZ,ZZ,ZZ,ZZ,ZZ,ZZ,ZZ,ZZ,ZZ,ZZ,ZZ,ZZ,ZZ],defers:=[] }) ?assign ?body ?done ?stop
 case assign=>
  intro l2 x X Kk hK;unfold pA;gi_wp2;exact hK
 case body=>
  rintro l2 pre x X a k9;have c1:=a.box.cell;have c2:=a.ok.cell;have f2:=a.ok.frozen;have E:=ak a;have h1:tk nb (pre++[x])=((tk nb pre).1,ZV)->KeepsFrom s.heap.size X (X.setCell ⟨w1.heap.size+1+1,0,ZY⟩ (Z2 ZV))/\eN (λk=>k<w1.heap.size\/k=d.heap.size) X (X.setCell ⟨w1.heap.size+1+1,0,ZY⟩ (Z2 ZV))/\QZ w1 w1.heap.size nb s.heap.size (pre++[x]) (X.setCell ⟨w1.heap.size+1+1,0,ZY⟩ (Z2 ZV)):=λm=>by
   have a:=E.o;refine ⟨(V9 _ _ _).from _,⟨by simp [World.setCell],λk _ r=>Uj _ _ _ _ (by show k≠w1.heap.size+1+1;rcases r with r|r<;>omega)⟩,?_,?_,?_,?_,?_⟩
   . rw [m];exact a.row.of_block (Uj _ _ _ _ (by show w1.heap.size≠w1.heap.size+1+1;omega))
   . exact (Uj _ _ _ _ (by show w1.heap.size+1≠w1.heap.size+1+1;omega)).trans a.box
   . rw [m];exact a.ok.set _
   . exact a.below.setCell (p:=⟨w1.heap.size+1+1,0,ZY⟩) (by show w1.heap.size<=w1.heap.size+1+1;omega) _
   . simpa [World.setCell] using a.size
  have K:=ak h1;clear a h1;by_cases hv:x<2
  . have e1:(x:Int)<2:=(by omega);have m:tk nb (pre++[x])=((tk nb pre).1,ZV):=(by rw [sn];unfold jx;rw [TX (.inl hv)]);have z:=ak m;clear m;gi_wp2;exact K.o z.o
  . have e1:¬ (x:Int)<2:=(by omega);by_cases hy:nb<=x
    . have e2:(x:Int)≥(nb:Int):=(by omega);have m:tk nb (pre++[x])=((tk nb pre).1,ZV):=(by rw [sn];unfold jx;rw [TX (.inr (.inl hy))]);have z:=ak m;clear m;gi_wp2;exact K.o z.o
    . have e2:¬ (x:Int)≥(nb:Int):=(by omega);have kc:x<nb:=(by omega);have c3:=E.o.row.cell (i:=x) kc;have f3:=E.o.row.frozen x;cases h9:(tk nb pre).1 x with
      | true=>
       rw [h9] at c3;have m:tk nb (pre++[x])=((tk nb pre).1,ZV):=(by rw [sn];unfold jx;rw [TX (.inr (.inr h9))]);have z:=ak m;clear m;gi_wp2;exact K.o z.o
      | false=>
       rw [h9] at c3;have m:tk nb (pre++[x])=(λj=>if j=x then ZW else (tk nb pre).1 j,(tk nb pre).2):=by
        rw [sn];unfold jx;rw [TW];rintro (q|q|q)
        . exact hv q
        . exact hy q
        . rw [h9] at q;cases q
       have z:=ak m;clear m;gi_wp2;have m:=z.o;have a:=E.o;refine ⟨(V9 _ _ _).from _,⟨by simp [World.setCell],λk _ r=>Uj _ _ _ _ (by show k≠w1.heap.size;rcases r with r|r<;>omega)⟩,?_,?_,?_,?_,?_⟩
       . rw [m];refine (a.row.set x (Z2 ZW)).congr λj hj=>?_;by_cases e:j=x
         . simp [e]
         . simp [e]
       . exact (Uj _ _ _ _ (by show w1.heap.size+1≠w1.heap.size;omega)).trans a.box
       . rw [m];exact (Uj _ _ _ _ (by show w1.heap.size+1+1≠w1.heap.size;omega)).trans a.ok
       . exact a.below.setCell (p:=⟨w1.heap.size,x,ZY⟩) lR _
       . simpa [World.setCell] using a.size
 case done=>
  rintro D1 xs X k7 hz a hK;rw [hz] at a;have c1:=a.box.cell;have c2:=a.ok.cell;have E:=al a hK;clear a hK hz;obtain ⟨tb,R⟩:=nM ((tk nb (P++ah os)).2);rw [R] at c2;have HT:=ak R;clear R;gi_wp2;gi_region
  gi_wp2;obtain ⟨a,hK⟩:=E.o;have hh:X.drew.heap[D1]?=ZX (.deferred (ZX [])):=hK;refine tZ (t:=2) (u:=3) (x:=Z5 (ZX ⟨w1.heap.size,0,ZY⟩) nb nb) (y:=Z2 tb) results156 rfl rfl rfl hh ⟨w1.heap.size,by rw [HT.o],TY _,?_,?_⟩
  . exact a.row.of_block (U6 (w:=X.drew) (by omega))
  . exact Below.RY a.below.drew (by omega) (T5.1 hh).1 _
 case stop=>
  rintro D1 cc pre X k7 kb hx hK;exact hx.elim
end
section
attribute [local go_sem] Oper.semAt_some
def aY (T:Nat->Bool) (k:Nat):a8:=(YF k).filter (λj=>decide (2<=j) && !T j)
def pQ (T:Nat->Bool):aY T 2=[]:=by simp [aY,VF]
theorem ny (T:Nat->Bool) (k:Nat):aY T (k+1)=aY T k++(if 2<=k/\T k=ZV then [k] else []):=by
 unfold aY;rw [VF,Wr];congr 1;by_cases h:2<=k/\T k=ZV
 . rw [TX h];simp [h.1,h.2]
 . rw [TW h];by_cases a:2<=k
   . have:T k=ZW:=by cases q:T k<;>simp_all
     simp [this]
   . simp [a]
def kL (T:Nat->Bool) {k m:Nat} (h:k<=m):aY T k<+:aY T m:=by
 induction m with
 | zero=>rw [show k=0 by omega];exact YD _
 | succ m ih=>
  by_cases e:k=m+1
  . rw [e];exact YD _
  . rw [ny];exact (ih (by omega)).trans (XU _ _)
theorem Cl (ar:Nat) (w:ZU) :
 ZR ZN 139 #[Z6 (ZX ⟨ar,0,ZY⟩)] w λe w'=>e=Z3 (.func (.func 171) #[] #[Z6 (ZX ⟨w.heap.size,0,ZY⟩)])/\w'=w.alloc (Z4 #[Z6 (ZX ⟨ar,0,ZY⟩)] 103):=by
 go_enter func139,ntmps139;go_wp2;go_ret;exact ⟨rfl,rfl⟩
def PR (b0:Nat) (W W':ZU):Prop:=W.heap.size<=W'.heap.size/\∀ k o,b0<=k->W.heap[k]?=ZX o->o.isCells=ZW->W'.heap[k]?=ZX o
def PR.trans {a b c:ZU} (h:PR b0 a b) (k:PR b0 b c):PR b0 a c:=⟨TZ h.1 k.1,λi o d f e=>k.2 i o d (h.2 i o d f e) e⟩
def PR.row (h:PR b0 W W') {g n:Nat} {t:TypeId} {f:Nat->ZT} (d:b0<=g) (b:W.rowIs g t n f):W'.rowIs g t n f:=by
 obtain ⟨c,a,_⟩:=id b;exact b.of_block ((h.2 g _ d a rfl).trans a.symm)
theorem LD {off:Bool} {A:aC} {F:aH} (O:bC W ar v D' L' G' t f nn pg ob off) (U:bt W v p D L G ps ho) (h:az W p A F) (X:0<A.n) (P:a8) (os:List Ob) (R:bg (λk=>k<W.heap.size) W pg P) (Q:fa (λk=>k<W.heap.size) W ob os)
 (n l b1 b0:Nat) (hp:b0<=W.heap.size) (J z:a8->ZU->Prop) (hc:∀ pre A B,J pre A->bW A B->J pre B)
 (s:∀ pre x W,J pre W->pre.length<(aY (tk A.nb (P++ah os)).1 A.nb).length->YieldAt Fence.wide (n-1) ZN l (pA x) W λe W'=>(e=Z3 (Z2 ZW)/\J (pre++[x]) W'/\PR b0 W W')\/(e=Z3 (Z2 ZV)/\z (pre++[x]) W'))
 (Z:W.cell? ⟨b1,0,ZY⟩=ZX (Z6 (ZX ⟨ar,0,ZY⟩))) (C:J [] W) :
 CallsIn Fence.wide n ZN 171 #[.func (.yield l) #[] #[],Z6 (ZX ⟨b1,0,ZY⟩)] W λe W'=>(∃ v,e=Z3 v) /\
  ((∃ Y,Y=aY (tk A.nb (P++ah os)).1 A.nb/\J Y W')\/(∃ pre,pre<+:aY (tk A.nb (P++ah os)).1 A.nb/\z pre W')):=by
 have q:=xQ O U h X P os R Q;have hi:=h.SD.2;obtain ⟨nb,H⟩:=nM (A.nb);rw [H] at q hi s ⊢;obtain ⟨T,S⟩:=nM (tk nb (P++ah os));rw [S] at q s ⊢;obtain ⟨a,tr⟩:=T;simp only at q s ⊢;clear H S O U h X R Q;refine Xk func171 rfl trivial ?_ rfl;simp only [ntmps171,UL,UG,U0,YH,YI,Vr,Vs,Vt,Vu,Ut,UX];gi_wp2;refine dk q ?_;rintro e w1 ⟨g,rfl,hg,b,N⟩;have I:=hc _ _ _ C N;have y:=al b I;clear b N I q C Z;gi_wp2;gi_loopw [5] (λp wr=>∃ k:Nat,p=Z7 Z9 (k:Nat)/\2<=k/\(k<=nb\/k=2)/\J (aY a k) wr/\wr.rowIs g 4 nb (λj=>Z2 (a j)))
  (λp _=>nb-(intOf p).toNat)
 case atStart=>
  exact ⟨2,rfl,TY _,.inr rfl,by rw [pQ];exact y.o.2,y.o.1⟩
 case round=>
  obtain ⟨k,rfl,hf,u,d,b⟩:=hrel;by_cases hh:k<nb
  . have c1:=b.cell (i:=k) hh;cases hm:a k with
    | true=>
     rw [hm] at c1;have c:aY a (k+1)=aY a k:=(by rw [ny,TW (by rw [hm];simp),Wk]);rw [<- c] at d;have m:=al d b;clear d b c hm;gi_wp2;refine ⟨λ_ h=>(by cases h),?_⟩;gi_wp2;go_roundw
     case rel=>exact ⟨k+1,by go_num,by omega,.inl (by omega),m.o.1,m.o.2⟩
     case measure=>simp only [intOf];omega
    | false=>
     rw [hm] at c1;have c:aY a k++[k]=aY a (k+1):=(by rw [ny,TX ⟨hf,hm⟩]);have V:(aY a k).length<(aY a nb).length:=by
      have:=(kL a (show k+1<=nb by omega)).length_le;rw [<- c,Uc] at this;simp at this;omega
     obtain ⟨fn,tmps,assign,body,hj,w⟩:=s _ k _ d V;unfold pA at hj;rw [c] at w;have m:=al b w;clear d b w c hm V;gi_wp2;refine ⟨λh=>(by cases h),m.o.2.mono ?_⟩;rintro e W3 (⟨rfl,K,M⟩|⟨rfl,E⟩)
     . have r:=al K (M.row (by omega) m.o.1);clear K M;gi_wp2;go_roundw
       case rel=>exact ⟨k+1,by go_num,by omega,.inl (by omega),r.o.1,r.o.2⟩
       case measure=>simp only [intOf];omega
     . have r:=ak E;clear E;gi_wp2;refine Uv (XF rfl _ _ _) rfl ?_;exact ⟨⟨_,rfl⟩,.inr ⟨_,kL a (show k+1<=nb by omega),r.o⟩⟩
  . have c:aY a k=aY a nb:=by
     rcases u with u|u
     . rw [show k=nb by omega]
     . subst u;rw [pQ];exact (List.prefix_nil.1 (by have:=kL a (show nb<=2 by omega);rwa [pQ] at this)).symm
    rw [c] at d;have m:=ak d;clear d c b;gi_wp2;go_end0
    exact ⟨⟨_,rfl⟩,.inl ⟨_,rfl,m.o⟩⟩
def EK {off:Bool} {A:aC} {F:aH} (x:bC w ar v D' L' G' t f nn pg ob off) (y:bt w v p D L G ps ho) (h:az w p A F) (R:0<A.n) (P:a8) (os:List Ob) (M:bg (λk=>k<w.heap.size) w pg P) (I:fa (λk=>k<w.heap.size) w ob os)
 (n b1:Nat) (d:b1<w.heap.size) (E:w.cell? ⟨b1,0,ZY⟩=ZX (Z6 (ZX ⟨ar,0,ZY⟩))) :
 SeqStopsK Fence.wide n ZN 171 #[Z6 (ZX ⟨b1,0,ZY⟩)] pA (PR w.heap.size) (λZ=>Z=aY (tk A.nb (P++ah os)).1 A.nb) (λpre=>pre<+:aY (tk A.nb (P++ah os)).1 A.nb) (aY (tk A.nb (P++ah os)).1 A.nb).length w:=λl J z W a K _ N C=>by
 have u:∀ {v:ZT} {l:a8},bg (λk=>k<w.heap.size) W v l->bg (λk=>k<W.heap.size) W v l:=λ⟨ao,c,g,j,m⟩=>⟨ao,c,g,j,λhl=>by obtain ⟨b,off,o,q,s⟩:=m hl;exact ⟨b,off,o,T9 q a.size,s⟩⟩;have H:fa (λk=>k<W.heap.size) W ob os:=by
  obtain ⟨ao,c,g,j,m⟩:=I.keep (eN.RU a);refine ⟨ao,c,g,j,λhl=>?_⟩;obtain ⟨b,off,o,q,s,S⟩:=m hl;refine ⟨b,off,o,T9 q a.size,s,λi O=>?_⟩;obtain ⟨Y,T,U,V,X⟩:=S i O;exact ⟨Y,T,U,V,u X⟩
 exact LD (x.keep (a.block _ x.lt)) (y.keep (a.block _ y.lt)) (h.below a lR) R P os (u (M.keep (eN.RU a))) H n l b1 w.heap.size a.size J z (λpre A B h d=>K pre A B ZY h ⟨d.os,d.tape,d.output,d.size,λk Q _=>d.block k Q⟩ (λr e=>by cases e)) N ((a.cell (p:=⟨b1,0,ZY⟩) d).trans E) C
end
section
attribute [local go_sem] Oper.semAt_some
def jV (l:a8):List ZT:=l.map λ(x:Nat)=>Value.int .i64 (x:Int)
def Tryz.Sk:(ZN.info? 3).map (λi=>(i.zero,i.size,i.bytes))=ZX (ZX (Z7 Z9 0),1,8):=by kernel_rfl
structure Q0 (w:ZU) (q count B:Nat) (pre:a8) (X:ZU):Prop where
 cnt:ZP X w.heap.size 3 (Z7 Z9 (count:Nat))
 box:ZP X q 48 (Z5 (ZX ⟨w.heap.size+1,0,ZY⟩) pre.length count)
 own:X.ownsRow (w.heap.size+1) 3 1 (Z5 (ZX ⟨w.heap.size+1,0,ZY⟩) pre.length count) pre.length (jV pre)
 below:bW w X
 size:B<=X.heap.size
 le:pre.length<=count
def Q0.Th (l:w.heap.size+3<=B) (m:q<B):OwnFrom B (Q0 w q count B):=by
 rintro pre X Y row ⟨f,g,h,d,i,j⟩ a c;have b:∀ k,k<B->Y.heap[k]?=X.heap[k]?:=λk b=>a.block k (by omega) (λe=>by have:=(c k e.symm).1;omega);exact ⟨(b _ (by omega)).trans f,(b _ (by omega)).trans g,lN h a λr e=>(c r e).2,d.grown a d.size (λk e=>by have:=(c k e).1;omega),TZ i a.size,j⟩
def TaX (w:ZU) (q count B id:Nat) (c:Code) (pre':a8) (X:ZU):Prop:=c=.exit id/\∃ pre x,pre'=pre++[x]/\pre.length=count/\Q0 w q count B pre X
def TaX.Th {id:Nat} (g:w.heap.size+3<=B) (i:q<B) (c:Code):OwnFrom B (TaX w q count B id c):=by
 rintro a X Y row ⟨b,pre,x,d,e,f⟩ h j;exact ⟨b,pre,x,d,e,Q0.Th g i pre X Y row f h j⟩
theorem lO {off:Bool} {A:aC} {F:aH} (K:bC w ar v D' L' G' t f nn pg ob off) (M:bt w v p D L G ps ho) (h:az w p A F) (hn:0<A.n) (P:a8) (os:List Ob) (Q:bg (λk=>k<w.heap.size) w pg P) (O:fa (λk=>k<w.heap.size) w ob os) (count:Nat) (k6:count<=1000000) :
 ZR ZN 102 #[Z6 (ZX ⟨ar,0,ZY⟩),Z7 Z9 (count:Nat)] w λe w'=>∃ u,e=Z3 (Z0 #[u,Z2 (decide (count<=(aY (tk A.nb (P++ah os)).1 A.nb).length))]) /\
  w'.ownsRow w.heap.size 3 1 u ((aY (tk A.nb (P++ah os)).1 A.nb).take count).length (jV ((aY (tk A.nb (P++ah os)).1 A.nb).take count))/\bW w w':=by
 obtain ⟨n,HN⟩:∃ n:Nat,cJ (9<=n):=⟨9,TY _⟩;have H0:=a6 K M h Q O;clear K M h Q O;refine (Vj (n:=n)).1 ?_;refine Wo func102 rfl trivial ?_ rfl;simp only [ntmps102,UL,UG,U0,YH,YI,Vr,Vs,Vt,Vu,Ut,UX];obtain ⟨i0,kv,qg,q5,qh⟩:=Uu Tryz.Sk;have hq:(w.alloc (Z4 #[Z7 Z9 (count:Int)] 3)).heap.size=w.heap.size+1:=by simp
 have kp:bW w (w.alloc (Z4 #[Z7 Z9 (count:Int)] 3)):=bA w _;have kk:ZP (w.alloc (Z4 #[Z7 Z9 (count:Int)] 3)) w.heap.size 3 (Z7 Z9 (count:Nat)):=UH w _ _;have z:=aE hq kp kk;clear hq kp kk;gi_wp2_with (gi_at_make;refine wpListIn_make_own _ rfl (.const (Z7 Z9 0)) (Z1 8) 48 rfl (w.heap.size+1) 3 i0 (Z7 Z9 0) 1 Yi kv qg q5 .i64 .i64 _ count (by rfl) (by rfl) rfl (by rw [qh];omega) (by unfold maxLen;omega) (by rw [z.o.1];exact TY _) ?_;intro w2 V hv)
 rw [z.o.1] at V;have ki:=hv.size;rw [z.o.1] at ki;have qi:w.heap.size+1<w2.heap.size:=(V.lt (w.heap.size+1) rfl).2;have hh:bW w w2:=z.o.2.1.grown hv (by rw [z.o.1];omega) (λk e=>by cases e);have h8:ZP w2 w.heap.size 3 (Z7 Z9 (count:Nat)):=(hv.block _ (by rw [z.o.1];omega) (by simp)).trans z.o.2.2;have h2:ZP (w2.alloc (Z4 #[Z5 (ZX ⟨w.heap.size+1,0,ZY⟩) 0 count] 48)) w2.heap.size 48 (Z5 (ZX ⟨w.heap.size+1,0,ZY⟩) 0 count):=UH w2 _ _;have Y:bW w2 (w2.alloc (Z4 #[Z5 (ZX ⟨w.heap.size+1,0,ZY⟩) 0 count] 48)):=bA w2 _;have hx:(w2.alloc (Z4 #[Z5 (ZX ⟨w.heap.size+1,0,ZY⟩) 0 count] 48)).heap.size=w2.heap.size+1:=by simp
 obtain ⟨d,q0⟩:=nM (w2.alloc (Z4 #[Z5 (ZX ⟨w.heap.size+1,0,ZY⟩) 0 count] 48));rw [q0] at h2 Y hx ⊢;refine dk (Cl ar d) ?_;rintro e w' ⟨rfl,rfl⟩;have h5:(d.alloc (Z4 #[Z6 (ZX ⟨ar,0,ZY⟩)] 103)).cell? ⟨d.heap.size,0,ZY⟩=ZX (Z6 (ZX ⟨ar,0,ZY⟩)):=(UH d _ _).cell;have q6:(d.alloc (Z4 #[Z6 (ZX ⟨ar,0,ZY⟩)] 103)).heap.size=d.heap.size+1:=by simp
 have k0:bW d (d.alloc (Z4 #[Z6 (ZX ⟨ar,0,ZY⟩)] 103)):=bA d _;obtain ⟨g,S⟩:=nM (d.alloc (Z4 #[Z6 (ZX ⟨ar,0,ZY⟩)] 103));have U:bW w2 g:=by rw [<- S];exact Y.trans (k0.mono Y.size)
 have ha:bW w g:=hh.trans (U.mono (by omega));have kx:Q0 w w2.heap.size count g.heap.size [] g:=⟨(U.block _ (by omega)).trans h8,by rw [<- S];exact (k0.block _ (by omega)).trans h2,an V U,ha,TY _,T7 _⟩;have kz:g.heap.size=w2.heap.size+2:=by rw [<- S,q6,hx]
 have R:=a6 h5 kx ha hx kz;clear h5 kx q6 k0 U ha kz h2 Y hx V hv hh h8;gi_wp2;rw [S] at R;clear S q0;obtain ⟨qj,qk,qm,qn⟩:d.heap.size<=w2.heap.size+1/\w2.heap.size+1<=d.heap.size/\g.heap.size<=w2.heap.size+2/\w2.heap.size+2<=g.heap.size:=by have:=R.out.2.2.2;omega
 have C:=R.out.2.2.1;obtain ⟨K,M,h,Q,O⟩:=H0.o;have hz:∀ {v:ZT} {l:a8},bg (λk=>k<w.heap.size) g v l->bg (λk=>k<g.heap.size) g v l:=λ⟨ao,c,q1,q2,q3⟩=>⟨ao,c,q1,q2,λhl=>by obtain ⟨b,off,r1,r2,r3⟩:=q3 hl;exact ⟨b,off,r1,T9 r2 C.size,r3⟩⟩;have ko:=hz (Q.keep (eN.RU C));have km:fa (λk=>k<g.heap.size) g ob os:=by
  obtain ⟨ao,c,q1,q2,q3⟩:=O.keep (eN.RU C);refine ⟨ao,c,q1,q2,λhl=>?_⟩;obtain ⟨b,off,r1,r2,r3,r4⟩:=q3 hl;refine ⟨b,off,r1,T9 r2 C.size,r3,λi a=>?_⟩;obtain ⟨sv,s1,s2,s3,s4⟩:=r4 i a;exact ⟨sv,s1,s2,s3,hz s4⟩
 have ke:=EK (K.keep (C.block _ K.lt)) (M.keep (C.block _ M.lt)) (h.below C lR) hn P os ko km (n-1) d.heap.size (by omega) R.out.1;obtain ⟨fr,k7⟩:=nM (aY (tk A.nb (P++ah os)).1 A.nb);rw [k7] at ke;have kj:=ak k7;have q9:=ak ke;clear k7 ke ko km hz K M h Q O;refine Wp rfl (by have:=HN.o;omega) (gf:=171) (lb:=#[Z6 (ZX ⟨d.heap.size,0,ZY⟩)]) rfl trivial (VC func171 (by kernel_rfl) rfl)
  q9.out (λh k=>h.trans k) (λW l o o' hl ho hc _=>⟨by simp [World.putObj],λk o2 _ m ks=>(U6 (λe=>by subst e;rw [m] at ho;cases ho;rw [hc] at ks;cases ks)).trans m⟩) (T6 _ _) (λ_=>rfl)
  (Q0 w w2.heap.size count g.heap.size) (TaX w w2.heap.size count g.heap.size 0) (Q0.Th (by omega) (by omega)) (TaX.Th (by omega) (by omega)) R.out.2.1
  (λx=>{ tmps:=#[Z6 (ZX ⟨ar,0,ZY⟩),Z7 Z9 (count:Nat),ZZ,Z6 (ZX ⟨w.heap.size,0,ZY⟩),Z5 ZY 0 0,Z2 ZV,Z6 (ZX ⟨w2.heap.size,0,ZY⟩),Z7 Z9 (x:Nat),Z7 Z9 (count:Nat),Z5 (ZX ⟨w.heap.size+1,0,ZY⟩) 0 count,Z6 (ZX ⟨ar,0,ZY⟩),.func (.func 171) #[] #[Z6 (ZX ⟨d.heap.size,0,ZY⟩)],Z7 Z9 (x:Nat),ZZ,ZZ,ZZ,ZZ,ZZ,ZZ,ZZ,ZZ,ZZ,ZZ,ZZ,ZZ,ZZ],defers:=[] }) ?assign ?body ?done ?stop
 case assign=>
  intro l2 x X Kk hK;unfold pA;gi_wp2;exact hK
 case body=>
  rintro l2 pre x X a qd;have c1:=a.cnt.cell;have I:=a.box.cell;have ka:=a.le;by_cases h3:pre.length=count
  . have e1:((pre.length:Nat):Int)=((count:Nat):Int):=(by omega);have B:=ak a;clear a;rw [h3] at I;gi_wp2;exact ⟨Yj _ _,rfl,pre,x,rfl,h3,B.o⟩
  . have e1:¬ ((pre.length:Nat):Int)=((count:Nat):Int):=(by omega);obtain ⟨pl,H⟩:=nM (pre.length);have HO:cJ ((X.alloc (Z4 #[Z7 Z9 (x:Nat)] 3)).ownsRow (w.heap.size+1) 3 1 (Z5 (ZX ⟨w.heap.size+1,0,ZY⟩) pl count) pl (jV pre)):=ak (by have:=an a.own ((T6 _ X).alloc lR (Z4 #[Z7 Z9 (x:Nat)] 3));rwa [H] at this);have hj:∀ j u,[Value.int .i64 ((x:Nat):Int)][j]?=ZX u->(X.alloc (Z4 #[Z7 Z9 (x:Nat)] 3)).cell? ((⟨X.heap.size,0,ZY⟩:Addr).add j)=ZX u:=lB X (Z7 Z9 (x:Nat)) 3;have q8:=ak hj;have qf:w2.heap.size<X.heap.size:=(by have:=a.size;omega);have B:=al a H;rw [H] at I e1 ka;have kr:ZP X w2.heap.size 48 (Z5 (ZX ⟨w.heap.size+1,0,ZY⟩) pl count):=(by have:=a.box;rwa [H] at this);have q7:=ak kr;clear a hj kr h3 H;gi_wp2_with (
     gi_at_builtin;
     refine wpListIn_append_fits _ rfl (Z1 17) (Z1 19) 48 rfl (w.heap.size+1) 3 i0 1 Yi kv q5 (w.heap.size+1) pl count (jV pre) (by rfl) (by exact HO.o) ⟨X.heap.size,0,ZY⟩ 1 1 [Z7 Z9 (x:Nat)] (by rfl) rfl (by exact q8.out) (λu hu=>by simp at hu;subst hu;rfl) (by omega) ?_;
     intro T hm J;
     have hy:ZP T w2.heap.size 48 (Z5 (ZX ⟨w.heap.size+1,0,ZY⟩) pl count):=(J.block _ (by simp;omega) (λe=>by have:=UQ e;omega)).trans ((Uy _ _ _ qf).trans q7.out);
     have d0:=hy.cell;
     have f0:=hy.frozen)
    obtain ⟨a,H⟩:=B.o;have Z:∀ k,k<X.heap.size->k≠w.heap.size+1->T.heap[k]?=X.heap[k]?:=λk m qe=>(J.block k (by simp;omega) (λe=>qe (UQ e))).trans (Uy _ _ _ m);have kf:=J.size;simp only [Uw] at kf;have k8:∀ k,k≠w2.heap.size->(T.setCell ⟨w2.heap.size,0,ZY⟩ (Z5 (ZX ⟨w.heap.size+1,0,ZY⟩) (pl+1) count)).heap[k]?=T.heap[k]?:=λk m=>Uj _ _ _ _ m;have h4:(pre++[x]).length=pl+1:=(by rw [Uc,H];rfl);have k9:jV (pre++[x])=jV pre++[Z7 Z9 (x:Nat)]:=(by unfold jV;rw [UD];rfl);refine ⟨⟨by simp [World.setCell];omega,λk o m ho _=>?_⟩,⟨by simp [World.setCell];omega,λk o m ho _=>?_⟩,?_,?_,?_,?_,?_,?_⟩
    . exact ((k8 k (by omega)).trans (Z k (T5.1 ho).1 (by omega))).trans ho
    . exact ((k8 k (by omega)).trans (Z k (T5.1 ho).1 (by omega))).trans ho
    . exact ((k8 _ (by omega)).trans (Z _ (by omega) (by omega))).trans a.cnt
    . rw [h4];exact hy.set _
    . rw [h4,k9];exact hm.kept (tX T w2.heap.size 0 _) (.inr λe=>by have q:w.heap.size+1=w2.heap.size:=UQ e;omega)
    . refine Xr (p:=⟨w2.heap.size,0,ZY⟩) ?_ (by show w.heap.size<=w2.heap.size;omega) _;exact ⟨J.os.trans a.below.os,J.tape.trans a.below.tape,J.output.trans a.below.output,by have:=a.below.size;omega,λk m=>(Z k (by have:=a.below.size;omega) (by omega)).trans (a.below.block k m)⟩
    . have:=a.size;simp [World.setCell];omega
    . rw [h4];omega
 case done=>
  rintro D1 xs X qa q4 a hK;have kh:xs=fr:=q4;subst kh;have c1:=a.cnt.cell;have I:=a.box.cell;have ka:=a.le;have B:=al a hK;clear a hK q4;obtain ⟨xl,N⟩:=nM (xs.length);rw [N] at I ka;have HL:=ak N;clear N;gi_wp2;gi_region
  gi_wp2;obtain ⟨a,hK⟩:=B.o;have N:=HL.o;have E:X.drew.heap[D1]?=ZX (.deferred (ZX [])):=hK;have kg:xs.take count=xs:=UJ (by omega);have qb:decide (count<=xs.length)=(((xl:Nat):Int)==((count:Nat):Int)):=by
   by_cases e:xl=count
   . rw [U1 (by omega)];subst e;simp
   . rw [Vz (by omega)];have:¬ ((xl:Nat):Int)=((count:Nat):Int):=by omega
     simp [this]
  rw [kj.out,kg,qb];refine tZ (t:=4) (u:=5) (x:=Z5 (ZX ⟨w.heap.size+1,0,ZY⟩) xl count) (y:=Z2 (((xl:Nat):Int)==((count:Nat):Int))) results102 rfl rfl rfl E ⟨_,rfl,?_,?_⟩
  . have ho:=a.own;rw [N] at ho;have kb:X.drew.ownsRow (w.heap.size+1) 3 1 (Z5 (ZX ⟨w.heap.size+1,0,ZY⟩) xl count) xl (jV xs):=an ho ((T6 _ X).drew);rw [N];exact de (lN kb (Xf X.drew D1 (.deferred ZY)) λr e=>by cases e;exact ⟨_,E,rfl⟩) (by omega)
  . exact Below.RY a.below.drew (by omega) (T5.1 E).1 _
 case stop=>
  rintro D1 cc pre X qa kc ⟨rfl,s,x,rfl,k5,a⟩ hK;have c1:=a.cnt.cell;have I:=a.box.cell;have B:=al a hK;rw [k5] at I;clear a hK;gi_wp2;gi_region
  gi_wp2;obtain ⟨a,hK⟩:=B.o;have E:X.drew.heap[D1]?=ZX (.deferred (ZX [])):=hK;obtain ⟨rr,ky⟩:=kc;have kg:fr.take count=s:=by rw [<- ky,UC,V2 (by omega),UJ (by omega)]
  have qc:count<=fr.length:=by rw [<- ky];simp;omega
  rw [kj.out,kg,U1 qc];refine tZ (t:=4) (u:=5) (x:=Z5 (ZX ⟨w.heap.size+1,0,ZY⟩) count count) (y:=Z2 ZW) results102 rfl rfl rfl E ⟨_,rfl,?_,?_⟩
  . have ho:=a.own;rw [k5] at ho;have kb:X.drew.ownsRow (w.heap.size+1) 3 1 (Z5 (ZX ⟨w.heap.size+1,0,ZY⟩) count count) count (jV s):=an ho ((T6 _ X).drew);rw [k5];exact de (lN kb (Xf X.drew D1 (.deferred ZY)) λr e=>by cases e;exact ⟨_,E,rfl⟩) (by omega)
  . exact Below.RY a.below.drew (by omega) (T5.1 E).1 _
end
def Q2 (D:List a8) (w:ZU) (e:Ending) (w':ZU):Prop:=(rB D->e=Z3 (Z2 ZW))/\(¬ rB D->e=Z3 (Z2 ZV))/\w'=w
def FtR (D:List a8) (i:ZT):Prop:=∃ k:Nat,k<=D.length/\i=Z7 Z9 (k:Nat)/\∀ j (hj:j<D.length),j<k->(D[j]).length<=64
theorem Cm (t:ZT) (D:List a8) (w:ZU) (m:Rd w t D) :
 ZR ZN 160 #[t] w λe w'=>Q2 D w e w':=by
 by_cases F:64<D.length
 . obtain ⟨ao,c,rfl,hl,_⟩:=m;go_enter func160,ntmps160;go_wp2;go_ret;exact ⟨λh=>absurd h.1 (by omega),λ_=>rfl,rfl⟩
 rcases m.cases with ⟨rfl,ao,c,rfl⟩|⟨b,off,c,rfl,hl,l⟩
 . go_enter func160,ntmps160;go_wp2;refine VO 1 ?_;rw [VJ];go_wp2;go_ret;exact ⟨λ_=>rfl,λh=>absurd ⟨by simp,λi d=>by simp at d⟩ h,rfl⟩
 have v:=ak l;clear l;go_enter func160,ntmps160;go_wp2;go_loop [10] (λi=>FtR D i) (λi=>D.length-(intOf i).toNat)
 case atStart=>exact ⟨0,T7 _,rfl,λj _ h=>absurd h (by omega)⟩
 case round=>
  obtain ⟨k,I,rfl,a⟩:=hrel;by_cases g:k<D.length
  . obtain ⟨u,J,A⟩:=v.o k g;obtain ⟨E,C,rfl,p,q,r,s⟩:=A;by_cases f:(D[k]).length<=64
    . have z:cJ (∀ j (n:j<D.length),j<k+1->(D[j]).length<=64):=by
       intro j n G;by_cases e:j=k
       . subst e;exact f
       . exact a j n (by omega)
      clear a p q r s;generalize (D[k]).length=B at *;go_wp2;go_round
      case rel=>exact ⟨k+1,by omega,by go_num,z.out⟩
      case measure=>simp [intOf];omega
    . have y:cJ (¬ rB D):=λh=>f (h.2 k g);have H:(D[k]).length<=140737488355328:=(by omega);clear a p q r s;generalize (D[k]).length=B at *;go_wp2;go_ret;exact ⟨λh=>absurd h y.o,λ_=>rfl,rfl⟩
  . have x:cJ (rB D):=⟨by omega,λi d=>a i d (by omega)⟩;clear a;go_wp2;go_ret;exact ⟨λ_=>rfl,λh=>absurd x.o h,rfl⟩
def wk (G:Nat->Nat) (top c iv k x:Nat):Nat:=if top<x/64/\x/64<k/\c<=x%64 then G x^^^gm (gm (G (x/64*64+c)) iv) (G (top*64+x%64)) else G x
theorem LF (G:Nat->Nat) (top c a:Nat):wk G top c a (top+1)=G:=by
 funext x;unfold wk;rw [TW (by omega)]
theorem PS {G:Nat->Nat} (h:∀ x,G x<256) {iv:Nat} (top c k x:Nat):wk G top c iv k x<256:=by
 unfold wk;split
 . exact rp (h x) (bB _ (bB _ (h _)))
 . exact h x
def Q3 (G:Nat->Nat) (top c a k j:Nat) (b:j<64):wk G top c a k (top*64+j)=G (top*64+j):=by
 unfold wk;rw [TW (by omega)]
def On (G:Nat->Nat) (top c a k j:Nat) (b:j<64):wk G top c a k (k*64+j)=G (k*64+j):=by
 unfold wk;rw [TW (by omega)]
theorem Oo (G:Nat->Nat) (top c a k:Nat) (g:top<k) (f:c<64):gZ (wk G top c a k) (λi=>G (top*64+c+i)) (gm (G (k*64+c)) a) (k*64+c) (64-c)=wk G top c a (k+1):=by
 funext x;unfold gZ;by_cases h:k*64+c<=x/\x<k*64+c+(64-c)
 . have d:x/64=k:=(by omega);have e:top*64+c+(x-(k*64+c))=top*64+x%64:=(by omega);rw [TX h];unfold wk;rw [TW (by omega),TX (by omega),d];show _^^^gm _ (G (top*64+c+(x-(k*64+c))))=_;rw [e]
 . rw [TW h];unfold wk;by_cases b:top<x/64/\x/64<k/\c<=x%64
   . rw [TX b,TX (by omega)]
   . rw [TW b,TW (by omega)]
theorem ub (w:ZU) (b o c:Nat) (f:c<64):(Instr.sliceAt 113 (Z6 (ZX ⟨b,o,ZY⟩)) (ZX (Z7 Z9 (c:Int))) ZY ZY).run ZN w=.ok (Z5 (ZX ⟨b,o+c,ZY⟩) (64-c) (64-c)) w:=by
 have hl:ZN.arrayLen 113=64:=by kernel_rfl
 have e:ZN.underlying 113=ZX (.array (ZN.arrayLen 113) (ZN.elem 113)):=by kernel_rfl
 have d:∀ w,(sizeOf (ZN.elem 113)).run ZN w=.ok 1 w:=by
  have a:ZN.elem 113=5:=by kernel_rfl
  rw [a];intro w;go_simp
 rw [run_sliceAt_array_l w 113 _ e .i64 (c:Int) (by omega) (by rw [hl];omega),d,hl];simp [slicedAt,Result.andThen];rw [TW (by omega)];simp [Addr.add]
def WkR (w:ZU) (b t top c iv n:Nat) (G:Nat->Nat) (i:ZT) (wr:ZU):Prop:=
 ∃ k:Nat,top<k/\k<=max n (top+1)/\i=Z7 Z9 (k:Nat)/\wr.rowIs b t 4096 (tv (wk G top c iv k))/\w.grownBy wr (ZX b)
theorem Cn (b top c n:Nat) (G:Nat->Nat) (w:ZU) (f:∀ x,G x<256) (h:w.rowIs b 281 4096 (tv G)) (O:top<64) (g:c<64) (L:n<=64) :
 ZR ZN 162 #[Z6 (ZX ⟨b,0,ZY⟩),Z7 Z9 top,Z7 Z9 c,Z7 Z9 n] w λe w'=>e=Z3 (Z0 #[])/\w'.rowIs b 281 4096 (tv (wk G top c (gi (G (top*64+c))) (max n (top+1))))/\w.grownBy w' (ZX b):=by
 have E:w.cell? ⟨b,top*64+c,ZY⟩=ZX (Z7 .u8 ((G (top*64+c):Nat):Int)):=h.cell (by omega);have z:=f (top*64+c);generalize hv:G (top*64+c)=y at *;go_enter func162,ntmps162;go_wp2_with (go_at_call 187;refine (rS y z _).mono ?_;rintro e l ⟨rfl,rfl⟩);have t:l.rowIs b 281 4096 (tv (wk G top c (gi y) (top+1))):=by rw [LF];exact h
 go_loopw [9] (λi wr=>WkR l b 281 top c (gi y) n G i wr) (λi _=>n-(intOf i).toNat)
 case atStart=>exact ⟨top+1,by omega,by omega,by go_num,t,Ws _ _⟩
 case round=>
  clear t h E;rename ZU=>wo;obtain ⟨k,J,M,rfl,d,p⟩:=hrel;by_cases N:k<n
  . have F:wo.cell? ⟨b,k*64+c,ZY⟩=ZX (Z7 .u8 ((wk G top c (gi y) k (k*64+c):Nat):Int)):=d.cell (by omega);rw [On _ _ _ _ _ _ g] at F;have v:=f (k*64+c);have o:∀ i,i<64-c->wo.cell? ⟨b,top*64+c+i,ZY⟩=ZX (Z7 .u8 ((G (top*64+c+i):Nat):Int)):=by
     intro i K;have m:wo.cell? ⟨b,top*64+c+i,ZY⟩=ZX (Z7 .u8 ((wk G top c (gi y) k (top*64+c+i):Nat):Int)):=d.cell (by omega);rw [Vx,Q3 _ _ _ _ _ _ (by omega),<- Vx] at m;exact m
    have u:=Oo G top c (gi y) k J g;have H:gm (G (k*64+c)) (gi y)<256:=bB _ v;have C:=ak o;have D:=ak u;clear o u;generalize G (k*64+c)=x at *;have A:=λw=>ub w b (k*64) c g;have B:=λw=>ub w b (top*64) c g;go_wp2;go_region_with (first
     | (go_at_call 188;refine (mj x (gi y) v (iF z) _).mono ?_;rintro e w' ⟨rfl,rfl⟩)
     | (go_at_call 179;refine (jq b 281 4096 (k*64+c) (64-c) (64-c) b (top*64+c) (64-c) (gm x (gi y)) (wk G top c (gi y) k) (λi=>G (top*64+c+i)) _ H (by exact d) (PS f top c k) (λj=>f _) (by omega) (by omega) (by exact C.out) (.inr (.inl (by omega)))).mono ?_;rintro e w' ⟨rfl,r,a⟩))
    all_goals
     have s:=r;rw [D.out] at s;have I:l.grownBy w' (ZX b):=gH p ⟨a.os,a.tape,a.output,a.size,a.block⟩;clear r a A B;go_wp2;go_roundw
     case rel=>exact ⟨k+1,by omega,by omega,by go_num,s,I⟩
     case measure=>simp [intOf];omega
  . have q:k=max n (top+1):=(by omega);rw [q] at d;clear q;go_wp2;go_end0
    exact ⟨rfl,d,p⟩
def gq (D:List a8) (x:Nat):Nat:=(D.getD (x/64) []).getD (x%64) 0
def lP (D:List a8) (k x:Nat):Nat:=if x/64<k then gq D x else 0
def Tryz.Tx:(ZN.info? 281).map (λi=>(i.zero,i.size,i.bytes))=ZX (ZX (.agg (YK 4096 (Z7 .u8 0))),4096,4096):=by kernel_rfl
def Tryz.SJ:(ZN.info? 281).map (λi=>i.size)=ZX 4096:=by kernel_rfl
def Co (w:ZU):(zeroValue 281).run ZN w=.ok (.agg (YK 4096 (Z7 .u8 0))) w:=by
 obtain ⟨c,a,b,_,_⟩:=Uu Tryz.Tx;simp [zeroValue,typeInfo,Ux,a,b]
def Cp (w:ZU):(w.alloc (Z4 (YK 4096 (Z7 .u8 0)) 281)).rowIs w.heap.size 281 4096 (λ_=>Z7 .u8 0):=by
 have h:=abZ w (YK 4096 (Z7 .u8 0)) 281 (λ_=>Z7 .u8 0) (λi a=>by simp at a;simp [a]);simpa using h
theorem LG {f:Nat->ZT} (h:w.rowIs b t n f):w.heap[b]?=ZX (Z4 ((YF n).map f).toArray t (0,0)):=by
 obtain ⟨c,d,g,e⟩:=h;have:c=((YF n).map f).toArray:=by
  apply Array.ext
  . simp [g]
  . intro i a j;have:=e i (by omega);rw [VP a] at this;simp at this;simp [this]
 rw [<- this];exact d
def EL (C:o.guard=ZY) (d s:ZO)
 (ho:o.op=.call { callee:=.builtin .copy,args:=#[d,s],argTypes:=#[40,40] }) (g off n cap N t:Nat) (v:ZT) (hd:a.eval d=Z5 (ZX ⟨g,off,ZY⟩) n cap) (hs:a.eval s=v)
 (F:Nat->Nat) (src:a8) (hB:w.rowIs g t N (tv F)) (hS:Bs w v src) (h8:src.length<=n) (hn:off+n<=N)
 (h:∀ w',w'.rowIs g t N (tv (λx=>if off<=x/\x<off+src.length then src.getD (x-off) 0 else F x))->ZS g w w'->wpList ZN ops Q rest (a.put o.dst (goInt src.length)) w'):wpList ZN ops Q (o::rest) a w:=by
 obtain ⟨ao,c,rfl,K,L,M,A⟩:=hS;refine abV C d s 40 40 ho 5 Uq (by kernel_rfl) (ZX ⟨g,off,ZY⟩) ao n cap src.length c hd hs g off _ t (LG hB) (src.map (λx=>Value.int .u8 ((x:Nat):Int))) ?_ ?_ ?_ ?_ g w (T6 _ _) lR ?_
 . rw [Ud];show src.length=min src.length n;omega
 . intro l;rw [Ud] at l;obtain ⟨b,off,rfl,E⟩:=A (by intro e;rw [e] at l;simp at l);refine ⟨rfl,_,rfl,λj u k=>?_⟩;have f:j<src.length:=by
    have:=Vc.1 k;obtain ⟨q,_⟩:=this;simpa using q
   rw [Vp,E j f];simp [f] at k;simp [f,k]
 . simp;omega
 . intro u G;obtain ⟨x,_,rfl⟩:=Ua.1 G;rfl
 . intro w' D B;have H:=D.out;rw [Ud];refine h w' ⟨_,H,?_,λi m=>?_⟩ B
   . rw [UL,length_splice _ _ _ (by simp;omega)];simp
   . unfold splice;rw [Xl];by_cases p:i<off
     . rw [VG (by simp;omega)];have I:¬ (off<=i/\i<off+src.length):=(by omega);simp only [tv,TW I];simp [p,m,tv]
     . rw [U7 (by simp;omega)];have y:(((YF N).map (tv F)).take off).length=off:=(by simp;omega);rw [y];by_cases r:i<off+src.length
       . rw [VG (by simp;omega)];have J:i-off<src.length:=(by omega);simp [J,tv,r,WK.1 p]
       . rw [U7 (by simp;omega)];simp only [Ud];rw [Wg];have z:off+src.length+(i-off-src.length)=i:=(by omega);rw [z];simp [m,tv,r]
def LyR (w:ZU) (B:Nat) (D:List a8) (i:ZT) (wr:ZU):Prop:=
 ∃ k:Nat,k<=D.length/\i=Z7 Z9 (k:Nat)/\wr.rowIs (B+1) 281 4096 (tv (lP D k))/\wr.rowIs B 281 4096 (λ_=>Z7 .u8 0)/\ZS B w wr
theorem Cq (D:List a8) (k:Nat) (f:k<D.length) (hl:(D[k]).length<=64):(λx=>if k*64<=x/\x<k*64+(D[k]).length then (D[k]).getD (x-k*64) 0 else lP D k x)=lP D (k+1):=by
 have b:D.getD k []=D[k]:=by simp [f]
 funext x;unfold lP gq;by_cases h:k*64<=x/\x<k*64+(D[k]).length
 . rw [TX h,TX (by omega)];have c:x/64=k:=(by omega);have d:x%64=x-k*64:=(by omega);rw [c,b,d]
 . rw [TW h];by_cases a:x/64<k
   . rw [TX a,TX (by omega)]
   . rw [TW a];by_cases e:x/64=k
     . rw [TX (by omega),e,b,Ub,Vm (by omega)];rfl
     . rw [TW (by omega)]
def EM (D:List a8) (x:Nat):lP D D.length x=gq D x:=by
 unfold lP;by_cases h:x/64<D.length
 . rw [TX h]
 . rw [TW h];unfold gq;simp [Vm (WK.1 h)]
def ud {f:Nat->Nat} (b:cs.size=N) (h:∀ j,j<N->cs[j]?=ZX (tv f j)):cs.all (λv=>v.oneCell')=ZW:=by
 rw [X6];intro i a;have:=h i (by omega);rw [VP a] at this;simp at this;rw [this];rfl
theorem Oq (L:ZT) (D:List a8) (w:ZU) (H:Rd w L D) (r:rB D) :
 ZR ZN 161 #[L] w λe w'=>∃ cs:Array ZT,e=Z3 (.agg cs)/\cs.size=4096/\(∀ j,j<4096->cs[j]?=ZX (tv (gq D) j))/\bW w w':=by
 have N:=ak r;have Y:=r.1;have V:=H;obtain ⟨ao,c,rfl,hl,G⟩:=H;have t:=ak G;clear G r V;have W:=Co;go_enter func161,ntmps161;go_wp2;clear W;go_loopw [8] (λi wr=>LyR w w.heap.size D i wr) (λi _=>D.length-(intOf i).toNat)
 case atStart=>
  refine ⟨0,T7 _,rfl,?_,?_,?_⟩
  . have h:=Cp (w.alloc (Z4 (YK 4096 (Z7 .u8 0)) 281));try change ZS _ _ _ at h
    rw [Ul] at h;exact h.congr λj R=>by unfold tv lP;simp
  . exact (Cp w).alloc _
  . exact (bA _ _).alloc (by rw [Ul];omega) _
 case round=>
  rename ZU=>wo;obtain ⟨k,X,rfl,f,E,m⟩:=hrel;by_cases a:k<D.length
  . obtain ⟨b,off,rfl,A⟩:=t.o (by intro e;rw [e] at a;simp at a);obtain ⟨u,s,y⟩:=A k a;have T:=y.mono m;have F:=N.o.2 k a;have I:=Cq D k a F;have Z:wo.cell? ⟨b,off+k,ZY⟩=ZX u:=(by rw [m.cell (Ui s)];exact s);have S:=ak I;clear A I s y t;generalize D[k]=l at *;go_wp2_with (refine EL rfl (Z1 15) (Z1 16) rfl (w.heap.size+1) (k*64) 64 64 4096 281 u rfl rfl (lP D k) l f T F (by omega) ?_;intro w2 d z);rw [S.out] at d;have U:=VH E (z.block w.heap.size (by omega));go_wp2;go_roundw
    case rel=>exact ⟨k+1,by omega,by go_num,d,U,m.trans (z.mono (by omega))⟩
    case measure=>simp [intOf];omega
  . have C:k=D.length:=(by omega);rw [C] at f;clear C;have d:=f.congr (g:=tv (gq D)) (λj R=>by unfold tv;rw [EM]);obtain ⟨cs,B,q,p⟩:=d;obtain ⟨M,J,hx,_⟩:=E;have P:=ud q p;have O:=ak p;have K:(ZN.info? 281).map (λi=>i.size)=ZX cs.size:=(by rw [Tryz.SJ,q]);have n:=ak K;have Q:=ak B;have x:=ak J;clear p f K B J;go_wp2_with (first
     | refine YE rfl 281 (Z1 3) rfl (w.heap.size+1) rfl 281 cs (0,0) _ Q.out underlying281 rfl n.o ?_
     | refine Wu rfl 281 (Z1 2) (Z1 19) rfl w.heap.size cs rfl rfl 281 M x.o n.o (by omega) P ?_)
    exact Uv (v:=.agg cs) (V8 results161 _ _ w.heap.size 281 cs (0,0) _ rfl (Vy _ _ M cs _ _ x.o) underlying281 rfl n.o) rfl ⟨cs,rfl,q,O.o,below_setRow m lR cs⟩
def pR (G:Nat->Nat) (i:Nat):a8:=(YF 64).map λj=>G (i*64+j)
def lQ (G:Nat->Nat) (n:Nat):List a8:=(YF n).map (pR G)
def iS (G:Nat->Nat) (i j:Nat):dM (pR G i) j=if j<64 then G (i*64+j) else 0:=by
 unfold dM pR;by_cases h:j<64
 . simp [h]
 . simp [h]
def gu (G:Nat->Nat) (n:Nat):(lQ G n).length=n:=by simp [lQ]
def gv (G:Nat->Nat) (n i:Nat) (h:i<(lQ G n).length):(lQ G n)[i]=pR G i:=by simp [lQ]
def ue {G:Nat->Nat} (a:∀ x,G x<256) (n:Nat):∀ l∈lQ G n,∀ x∈l,x<256:=by
 intro l hl x b;obtain ⟨i,_,rfl⟩:=Ua.1 hl;obtain ⟨j,_,rfl⟩:=Ua.1 b;exact a _
def Cr (G:Nat->Nat) (p r x:Nat):Nat:=if x/64=r then G (p*64+x%64) else if x/64=p then G (r*64+x%64) else G x
theorem Ab {G:Nat->Nat} (a:∀ x,G x<256) (p r x:Nat):Cr G p r x<256:=by
 unfold Cr;split
 . exact a _
 . split<;>exact a _
def EN (G:Nat->Nat) (p r i j:Nat) (c:j<64):Cr G p r (i*64+j)=if i=r then G (p*64+j) else if i=p then G (r*64+j) else G (i*64+j):=by
 have a:(i*64+j)/64=i:=by omega
 have b:(i*64+j)%64=j:=by omega
 unfold Cr;rw [a,b]
def LH (G:Nat->Nat) (p r c n:Nat):Nat->Nat:=wk (Cr G p r) r c (gi (G (p*64+c))) (max n (r+1))
def LI {G:Nat->Nat} (a:∀ x,G x<256) (p r c n x:Nat):LH G p r c n x<256:=PS (Ab a p r) _ _ _ _
def LJ (G:Nat->Nat) (p r c n i j:Nat) (_hc:c<64) (d:j<64) (f:r<i) (e:i<n):LH G p r c n (i*64+j)=if c<=j then Cr G p r (i*64+j)^^^gm (gm (Cr G p r (i*64+c)) (gi (G (p*64+c)))) (G (p*64+j)) else Cr G p r (i*64+j):=by
 have a:(i*64+j)/64=i:=by omega
 have b:(i*64+j)%64=j:=by omega
 unfold LH wk;rw [a,b,EN G p r r j d,TX rfl];by_cases h:c<=j
 . rw [TX h,TX (by omega)]
 . rw [TW h,TW (by omega)]
theorem GF {G:Nat->Nat} (d:∀ x,G x<256) (b:c<64) (o:p<n) (l:r<=p) (k:G (p*64+c)≠0) (q:∀ i,r<=i->i<n->∀ j,j<c->G (i*64+j)=0) (g:r<i) (e:i<n) :
 ∃ f,f<256/\dM (pR (LH G p r c n) i)=cC (dM (pR G (if i=p then r else i))) f (dM (pR G p))/\dM (pR (LH G p r c n) i) c=0:=by
 have m:∀ j,j<64->Cr G p r (i*64+j)=G ((if i=p then r else i)*64+j):=by
  intro j a;rw [EN G p r i j a,TW (by omega)];split<;>rfl
 refine ⟨gm (Cr G p r (i*64+c)) (gi (G (p*64+c))),bB _ (Ab d _ _ _),?_,?_⟩
 . funext j;show dM (pR (LH G p r c n) i) j=dM (pR G (if i=p then r else i)) j^^^gm _ (dM (pR G p) j);rw [iS,iS,iS];by_cases a:j<64
   . rw [TX a,TX a,TX a,LJ G p r c n i j b a g e,m j a];by_cases h:c<=j
     . rw [TX h]
     . rw [TW h,q p l o j (by omega),bI,U5]
   . rw [TW a,TW a,TW a,bI];exact (UW 0).symm
 . rw [iS,TX b,LJ G p r c n i c b b g e,TX lR];exact nJ (Ab d _ _ _) (d _) k
theorem EO {G:Nat->Nat} (a:∀ x,G x<256) (g:c<64) (l:p<n) (d:r<=p) (b:G (p*64+c)≠0) (u:∀ i,r<=i->i<n->∀ j,j<c->G (i*64+j)=0)
 (t:cW m (nH (lQ (LH G p r c n) n) (r+1)) (c+1) k):cW (m+1) (nH (lQ G n) r) c (k+1):=by
 refine qF (p:=p) (T':=lQ (LH G p r c n) n) (ue a n) (ue (LI a p r c n) n) (by rw [gu,gu]) d (by rw [gu];exact l) ?_ ?_ t
 . rw [gv,iS,TX g];exact b
 . intro i h q;rw [gu] at h;obtain ⟨f,s,e,o⟩:=GF a g l d b u q h;refine ⟨f,by rw [gu];split<;>omega,s,?_,?_⟩
   . rw [gv,gv,gv];exact e
   . rw [gv];exact o
structure GI (D:List a8) (c r n:Nat) (G:Nat->Nat):Prop where
 byt:∀ x,G x<256
 rle:r<=n
 zer:∀ i,r<=i->i<n->∀ j,j<c->G (i*64+j)=0
 tak:∀ k,cW (64-c) (nH (lQ G n) r) c k->nf D (r+k)
def GI.skip {D:List a8} {G:Nat->Nat} (h:GI D c r n G) (f:c<64) (d:∀ i,r<=i->i<n->G (i*64+c)=0):GI D (c+1) r n G:=
 { h with
  zer:=λi b a j l=>by
   by_cases e:j=c
   . subst e;exact d i b a
   . exact h.zer i b a j (by omega)
  tak:=λk g=>by
   refine h.tak k ?_;have e:64-c=64-(c+1)+1:=(by omega);rw [e];refine sJ (λi a b=>?_) g;rw [gv,iS,TX f];rw [gu] at a;exact d i b a }
theorem GI.Tw {D:List a8} {G:Nat->Nat} (h:GI D c r n G) (b:c<64) (a:r<=p) (d:p<n) (o:G (p*64+c)≠0):GI D (c+1) (r+1) n (LH G p r c n) where
 byt:=LI h.byt p r c n
 rle:=by omega
 zer:=λi y v j x=>by
  obtain ⟨f,_,e,l⟩:=GF h.byt b d a o h.zer (show r<i by omega) v;by_cases s:j=c
  . subst s;rw [iS,TX b] at l;exact l
  . have g:=congrFun e j;have t:=h.zer (if i=p then r else i) (by split<;>omega) (by split<;>omega) j (by omega);have u:=h.zer p a d j (by omega);rw [iS,TX (by omega)] at g;rw [g];show dM (pR G (if i=p then r else i)) j^^^gm f (dM (pR G p) j)=0;generalize (if i=p then r else i)=q at *;have m:j<64:=(by omega);rw [iS,iS,TX m,TX m,t,u,bI];exact UW 0
 tak:=λk w=>by
  have e:r+1+k=r+(k+1):=by omega
  rw [e];refine h.tak (k+1) ?_;have e:64-c=64-(c+1)+1:=by omega
  rw [e];exact EO h.byt b d a o h.zer w
def GI.done {D:List a8} {G:Nat->Nat} (h:GI D 64 r n G):nf D r:=
 h.tak 0 rfl
def IK {D:List a8} (a:∀ l∈D,∀ x∈l,x<256) (x:Nat):gq D x<256:=by
 unfold gq;by_cases h:x/64<D.length
 . have e:D.getD (x/64) []=D[x/64]:=(by simp [h]);rw [e];exact dz (a _ (T8 h)) _
 . have e:D.getD (x/64) []=[]:=(by simp [Vm (WK.1 h)]);rw [e];simp
theorem GI.start {D:List a8} (g:∀ l∈D,∀ x∈l,x<256) (h:rB D):GI D 0 0 D.length (gq D) where
 byt:=IK g
 rle:=T7 _
 zer:=λ_ _ _ j a=>absurd a (XH _)
 tak:=λk c=>by
  rw [Um];have e:nH (lQ (gq D) D.length) 0=nH D 0:=wH (by rw [gu]) (λi n b=>by
   rw [gv];funext j;rw [iS];have m:D.getD i []=D[i]:=(by simp [b]);by_cases a:j<64
   . rw [TX a];have d:(i*64+j)/64=i:=(by omega);have f:(i*64+j)%64=j:=(by omega);unfold gq dM;rw [d,f,m]
   . rw [TW a];have:=h.2 i b;unfold dM;simp [Vm (show (D[i]).length<=j by omega)]) 0
  rw [e] at c;exact c
def EP (w:ZU) {ops:Array ZQ} {rest:List ZQ} {o:ZQ} {a:Act} {Q:Exit->Act->ZU->Prop} (h:o.guard=ZY) (x y:ZO) (ho:o.op=.store 281 x y)
 (g:Nat) (f:Nat->Nat) (cs old:Array ZT) (l:a.eval x=Z6 (ZX ⟨g,0,ZY⟩)) (m:a.eval y=.agg cs) (d:w.heap[g]?=ZX (Z4 old 281 (0,0))) (hold:old.size=4096) (b:cs.size=4096) (c:∀ j,j<4096->cs[j]?=ZX (tv f j))
 (hK:∀ w2,w2.rowIs g 281 4096 (tv f)->w.grownBy w2 (ZX g)->wpList ZN ops Q rest (a.put o.dst ZZ) w2):wpList ZN ops Q (o::rest) a w:=by
 refine Wu h 281 x y ho g cs l m 281 old d (by rw [Tryz.SJ,b]) (by omega) (ud b c) (hK _ ?_ ?_)
 . exact ⟨cs,Vy w g old cs _ _ d,b,c⟩
 . refine ⟨rfl,rfl,rfl,by simp,λk n i=>?_⟩;have:g≠k:=λe=>i (by rw [e]);simp [World.setRow,Vw,this]
theorem kM:∀ (vs:List ZT) (o:Nat) (w:ZU) (f:Nat->ZT),w.rowIs b t n f->(w.setCells b o vs).rowIs b t n (λx=>if o<=x/\x<o+vs.length then vs.getD (x-o) ZZ else f x)
 | [],o,w,f,h=>h.congr (λi _=>by rw [TW (by simp)])
 | v::vs,o,w,f,h=>(kM vs (o+1) _ _ (h.set o v)).congr (λi _=>by
  by_cases a:o+1<=i/\i<o+1+vs.length
  . have e:i-o=(i-(o+1))+1:=(by omega);rw [TX a,TX (by simp;omega),e];simp
  . rw [TW a];by_cases c:i=o
    . subst c;rw [TX rfl,TX (by simp)];simp
    . rw [TW c,TW (by simp;omega)])
def iT:∀ (vs:List ZT) (o:Nat) (w w':ZU),w.grownBy w' (ZX b)->w.grownBy (w'.setCells b o vs) (ZX b)
 | [],_,_,_,h=>h
 | v::vs,o,w,_,h=>iT vs (o+1) w _ (eL h o v)
def xR (G:Nat->Nat) (i:Nat):List ZT:=(YF 64).map λj=>tv G (i*64+j)
def oF (G:Nat->Nat) (i:Nat):(xR G i).length=64:=by simp [xR]
def Cs (G:Nat->Nat) (i j:Nat) (h:j<64):(xR G i).getD j ZZ=tv G (i*64+j):=by simp [xR,h]
def xS {G:Nat->Nat} (h:w.rowIs b t 4096 (tv G)) {i:Nat} (d:i<64):w.rangeAt b (i*64) (xR G i):=by
 intro j v a;have c:j<64:=by
  obtain ⟨q,_⟩:=Vc.1 a;rwa [oF] at q
 simp [xR,c] at a;rw [h.cell (by omega),a]
def xT {f:Nat->ZT} (h:w.rowIs b t 4096 f) {i n:Nat} (a:i<64) (d:n<=64):w.there b (i*64) n:=λj c=>by
 rw [h.cell (by omega)];exact ⟨rfl,h.frozen _⟩
def GG (G:Nat->Nat) (i:Nat):(xR G i).toArray.all (λv=>v.oneCell')=ZW:=by
 rw [X6];intro j a;simp [xR,tv];rfl
theorem Q4 {G:Nat->Nat} (h:w.rowIs b t 4096 (tv G)) (p r:Nat):((w.setCells b (r*64) (xR G p)).setCells b (p*64) (xR G r)).rowIs b t 4096 (tv (Cr G p r)):=by
 refine (kM (xR G r) (p*64) _ _ (kM (xR G p) (r*64) _ _ h)).congr (λx _=>?_);rw [oF,oF];by_cases e:p*64<=x/\x<p*64+64
 . have a:x/64=p:=(by omega);have c:x-p*64=x%64:=(by omega);rw [TX e,c,Cs _ _ _ (by omega)];unfold tv Cr;rw [a];by_cases d:p=r
   . rw [TX d,d]
   . rw [TW d,TX rfl]
 . rw [TW e];by_cases f:r*64<=x/\x<r*64+64
   . have a:x/64=r:=(by omega);have c:x-r*64=x%64:=(by omega);rw [TX f,c,Cs _ _ _ (by omega)];unfold tv Cr;rw [TX a]
   . rw [TW f];unfold tv Cr;rw [TW (by omega),TW (by omega)]
def GpR (G:Nat->Nat) (r c n:Nat) (rv iv:ZT):Prop:=∃ k:Nat,r<=k/\k<=n/\rv=Z7 Z9 (r:Nat)/\iv=Z7 Z9 (k:Nat)/\∀ i,r<=i->i<k->G (i*64+c)=0
def GcR (w:ZU) (b:Nat) (D:List a8) (rv cv:ZT) (wr:ZU):Prop:=
 ∃ (r c:Nat) (G:Nat->Nat),c<=64/\rv=Z7 Z9 (r:Nat)/\cv=Z7 Z9 (c:Nat)/\GI D c r D.length G/\wr.rowIs b 281 4096 (tv G)/\bW w wr
theorem LK (vd:ZT) (D:List a8) (w:ZU) (P:Rd w vd D) (hb:∀ l∈D,∀ x∈l,x<256) :
 ZR ZN 123 #[vd] w λe w'=>K3 D w e w':=by
 have y:=ak P;have kr:=Co;obtain ⟨ao,c,rfl,hl,hc⟩:=P;clear hc;by_cases n:rB D
 . have hp:=n.1;have q:=ak n;clear n;go_enter func123,ntmps123;go_wp2;go_step3;go_wp2_with (first
    | (go_at_call 160;refine (Cm _ D _ y.o).mono ?_;rintro e wv ⟨d,_,rfl⟩;obtain rfl:=d q.o)
    | (go_at_call 161;refine (Oq _ D _ y.o q.o).mono ?_;rintro e L ⟨cs,rfl,k8,N,g⟩)
    | (refine EP _ rfl (Z1 3) (Z1 11) rfl L.heap.size (gq D) cs _ rfl rfl (UN L _) (by simp) k8 N ?_;intro wb T W))
   have U:bW wv wb:=gI (g.alloc g.size _) W (by rw [Ul];have:=g.size;omega) g.size;have S:=GI.start hb q.o;have kj:=g.size;have Q:=ak S;clear N k8 g W kr S;generalize L.heap.size=gb at *;go_step3;go_wp2;go_loopw [4,12] (λrv A wr=>GcR wv gb D rv A wr) (λ_ A _=>64-(intOf A).toNat)
   case atStart=>exact ⟨0,0,gq D,by omega,rfl,rfl,Q.out,T,U⟩
   case round=>
    clear T U Q;rename ZU=>wo;obtain ⟨r,a,G,kk,rfl,rfl,f,O,J⟩:=hrel;have ko:=f.rle;by_cases t:a<64
    . have F:=ak f;have z:=ak O;have E:=ak J;clear f O J;go_wp2;go_loop [4,6] (λrv K=>GpR G r a D.length rv K) (λ_ K=>D.length-(intOf K).toNat)
      case atStart=>exact ⟨r,TY _,ko,rfl,rfl,λi d s=>absurd d (by omega)⟩
      case round=>
       obtain ⟨p,kp,ks,rfl,rfl,u⟩:=hrel;by_cases km:p<D.length
       . have h8:wo.cell? ⟨gb,p*64+a,ZY⟩=ZX (Z7 .u8 ((G (p*64+a):Nat):Int)):=z.o.cell (by omega);have kg:=ak u;clear u;by_cases m:G (p*64+a)=0
         . rw [m] at h8;have HX:=ak m;clear m;go_wp2;go_round
           case rel=>
            refine ⟨p+1,by omega,by omega,rfl,by go_num,λi d s=>?_⟩;by_cases e:i=p
            . subst e;exact HX.o
            . exact kg.out i d (by omega)
           case measure=>simp [intOf];omega
         . have t0:(((G (p*64+a):Nat):Int)==0)=ZV:=(by rw [beq_eq_false_iff_ne];omega);have kb:=ak (F.out.Tw t kp km m);clear m;have I:wo.drew.rowIs gb 281 4096 (tv G):=z.o;have Y:Cr G p r (r*64+a)=G (p*64+a):=(by rw [EN G p r r a t,TX rfl]);have hj:=ak Y;have ka:=ak (Ab F.out.byt p r);have B:p<64:=(by omega);have C:r<64:=(by omega);clear Y;obtain ⟨v,k9,k7,Z⟩:∃ v,(wo.drew.setCells gb (r*64) (xR G p)).setCells gb (p*64) (xR G r)=v/\v.rowIs gb 281 4096 (tv (Cr G p r))/\wo.drew.grownBy v (ZX gb):=
            ⟨_,rfl,Q4 I p r,iT (b:=gb) (xR G r) (p*64) wo.drew _ (iT (b:=gb) (xR G p) (r*64) wo.drew wo.drew (Ws _ _))⟩
           have kf:=ak k7;have kc:=ak Z;have R:=ak k9;have k:=ak I;clear k7 Z k9 I;go_wp2;refine Ls gb p r (xR G p) (xR G r) (by kernel_rfl) (λ_ _ _ _ _ h=>h) rfl B C rfl rfl rfl (oF _ _) (oF _ _) (GG _ _) (GG _ _) (xS k.out B) (xS k.out C) (xT k.out C lR) (xT k.out B lR) ?_;rw [R.out];clear R k;unfold Lr;generalize (xR G p).toArray=cp;generalize (xR G r).toArray=cr;go_wp2_with (go_at_call 162;refine (Cn gb r a D.length (Cr G p r) _ ka.out kf.out (by omega) t hp).mono ?_;rintro e w2 ⟨rfl,H,X⟩);have kh:w2.rowIs gb 281 4096 (tv (LH G p r a D.length)):=by
            rw [hj.out] at H;exact H
           have j:=gH kc.out X;have ki:=gI E.out (w:=wo) ⟨j.os,j.tape,j.output,j.size,j.block⟩ E.out.size kj;clear H X j;go_wp2;go_roundw
           case rel=>exact ⟨r+1,a+1,LH G p r a D.length,by omega,by go_num,by go_num,kb.out,kh,ki⟩
           case measure=>simp [intOf];omega
       . have ke:=ak (F.out.skip t (λi d s=>u i d (by omega)));clear u;go_wp2;go_roundw
         case rel=>exact ⟨r,a+1,G,by omega,rfl,by go_num,ke.out,z.o,E.out⟩
         case measure=>simp [intOf];omega
    . have V:a=64:=(by omega);rw [V] at f;have HK:=ak f.done;clear f V;go_wp2;try rw [Exit.noGoto_ret]
      go_ret;exact ⟨λ_=>⟨r,by omega,rfl,HK.o⟩,λh=>absurd q.o h,J⟩
 . have M:=ak n;clear n;go_enter func123,ntmps123;go_wp2;go_step3;go_wp2_with (go_at_call 160;refine (Cm _ D _ y.o).mono ?_;rintro e w' ⟨_,s,rfl⟩;obtain rfl:=s M.o);try rw [Exit.noGoto_ret]
   go_ret;exact ⟨λh=>absurd h M.o,λ_=>rfl,T6 _ _⟩
def ez.rdH {v:ZT} {T:List (Nat×Nat×a8)} {M:List a8} (h:ez w B v T) (c:cQ T D M) (k:∀ r∈M,r.length=D) (hl:M.length<=100000):Rd w v M:=by
 have a:T.length=M.length:=by simpa using UB YL c
 obtain ⟨ao,cap,rfl,f⟩:=h.slice;refine ⟨ao,cap,by rw [a],by omega,λm=>?_⟩;obtain ⟨g,rfl⟩:=f (by intro e;rw [e] at a;exact m (UY a.symm));refine ⟨g,0,rfl,λi d=>?_⟩;have b:i<T.length:=by omega
 refine ⟨fY T[i],by rw [Um];exact h.Ss b,?_⟩;have:=h.S7 b;have j:T[i].2=(D,M[i]):=by
  have:=UB (λl=>l[i]?) c;simpa [b,d] using this
 rw [j] at this;have e:(M[i]).take D=M[i]:=by rw [<- k _ (T8 d),VK]
 rw [e] at this;exact this
def Rd.byte {v:ZT} {D:List a8} (h:Rd w v D):∀ l∈D,∀ x∈l,x<256:=by
 rcases h.cases with ⟨rfl,_⟩|⟨b,off,c,rfl,_,a⟩
 . intro l hl;simp at hl
 . intro l hl;obtain ⟨i,d,rfl⟩:=XA.1 hl;obtain ⟨u,_,e⟩:=a i d;exact e.lt
def cO (D L G:Nat):(aR D L G).length=D+L+G:=by simp [aR];omega
def kN (D L G:Nat):∀ r∈aR D L G,r.length=D:=by
 intro r a;simp only [aR,Un,Ua,UA] at a;rcases a with (⟨i,_,rfl⟩|⟨i,_,rfl⟩)|⟨i,_,rfl⟩
 . simp [dr]
 . simp [dC]
 . simp [dm]
theorem oG (D L G:Nat) (c:D<=12) (d:G<=4):∀ r∈aR D L G,∀ x∈r,x<256:=by
 intro r b x a;simp only [aR,Un,Ua,UA] at b;rcases b with (⟨i,_,rfl⟩|⟨i,_,rfl⟩)|⟨i,e,rfl⟩
 . rcases X8 a with h|h
   . have:=VM h;omega
   . omega
 . simp only [dC,Ua] at a;obtain ⟨j,_,rfl⟩:=a;split<;>decide
 . simp only [dm,Ua,UA] at a;obtain ⟨j,f,rfl⟩:=a;exact iF (rp (by omega) (by omega))
def gW (D L G lost:Nat):Prop:=mP (nH (dh (aR D L G) lost (D+L+G)) 0) 0 D
def Ct (b:D<=12) (c:G<=4) (h:nf (dh (aR D L G) lost (D+L+G)) k):k=D↔gW D L G lost:=by
 have a:=tj (aR D L G) lost (D+L+G) (by rw [cO];omega);exact Hh (λl hl=>oG D L G b c l (a l hl)) (λl hl=>by rw [kN D L G l (a l hl)];omega) (by omega) h
def Cu (D L G lost:Nat) (b:D<=12) (d:L<=4) (c:G<=4):rB (dh (aR D L G) lost (D+L+G)):=by
 refine ⟨TZ (jG _ _ _) (by omega),λi a=>?_⟩;rw [kN D L G _ (tj (aR D L G) lost (D+L+G) (by rw [cO];omega) _ (T8 a))];omega
def LL (D L G lost:Nat) (w:ZU) (e:Ending) (w':ZU):Prop:=∃ b:Bool,e=Z3 (Z2 b)/\(b=ZW↔gW D L G lost)/\bW w w'
theorem lf (D L G lost:Nat) (E:dg D L G=ZW) (i:D<=12) (x:1<=L) (o:L<=4) (j:G<=4) (u:D%L=0) (hl:lost<18446744073709551616) (w:ZU) :
 ZR ZN 92 #[.agg #[Z7 Z9 D,Z7 Z9 L,Z7 Z9 G],Z7 Z8 lost] w λe w'=>LL D L G lost w e w':=by
 go_enter func92,ntmps92;go_wp2_with fail;refine (kA D L G E i x o j u _).mono ?_;rintro e w1 ⟨v,T,rfl,g,p,b⟩;try change ZS _ _ _ at g
 try change ZS _ _ _ at b
 rw [Ul] at g b;have s:=b.size;try change ZS _ _ _ at s
 rw [Ul] at s;obtain ⟨l,H,I⟩:=cV b;have q:=g.rdH p (kN D L G) (by rw [cO];omega);have n:bW w w1:=(bA _ _).trans (b.mono (by omega));have A:=ak q;have z:=ak n;clear g p b H I q n;go_wp2;go_region_held (λw'=>w'.cell? ⟨w.heap.size,0,ZY⟩=ZX (Z7 Z9 (D:Nat))) (first|assumption|exact l)
  (first
   | (go_at_call 124;refine (KX _ (aR D L G) lost _ (show Rd w1.drew _ _ from A.out) hl (by rw [cO];omega)).mono ?_;rintro e w2 ⟨M,rfl,f⟩;rw [cO] at f
      have d:w2.cell? ⟨w.heap.size,0,ZY⟩=ZX (Z7 Z9 (D:Nat)):=(by rw [f.choose_spec.2.2.2.cell (Ui l)];exact l);have h:=ak f;clear f)
   | (go_at_call 123;refine (LK _ _ _ (h.out.rd (TZ (jG _ _ _) (by omega))) (h.out.rd (TZ (jG _ _ _) (by omega))).byte).mono ?_
      rintro e J ⟨m,_,c⟩;obtain ⟨k,K,rfl,r⟩:=m (Cu D L G lost i o j);have F:J.cell? ⟨w.heap.size,0,ZY⟩=ZX (Z7 Z9 (D:Nat)):=(by rw [c.cell (Ui d)];exact d);have B:=ak r;have y:=ak c;clear m r c))
 go_wp2;go_ret;have a:=h.out.choose_spec.2.2.2;have c:=y.out;have C:=a.size;change w1.heap.size<=_ at C;have t:bW w w2:=z.out.trans ((show bW w1 w2 from ⟨a.os,a.tape,a.output,a.size,a.block⟩).mono (by omega));refine ⟨((k:Int)==(D:Int)),rfl,?_,t.trans (c.mono (by omega))⟩;rw [<- Ct i j B.out];simp;omega
theorem Ac (lost k:Nat) (hl:lost<18446744073709551616) (b:k<=64) (w:ZU) :
 ZR ZN 17 #[Z7 Z8 lost,Z7 Z9 k] w λe w'=>e=Z3 (Z2 (((lost/2^k%2:Nat):Int)==1))/\w'=w:=by
 have a:=Gu lost k hl;go_enter func17,ntmps17;go_wp2;go_ret;exact ⟨rfl,rfl⟩
theorem pS (D L G lost:Nat) (Z:dg D L G=ZW) (y:D<=12) (hL:1<=L) (U:L<=4) (z:G<=4) (N:D%L=0) (hl:lost<18446744073709551616) (w:ZU) :
 ZR ZN 23 #[.agg #[Z7 Z9 D,Z7 Z9 L,Z7 Z9 G],Z7 Z8 lost] w λe w'=>LL D L G lost w e w':=by
 obtain ⟨i0,kc,kj,kk,km⟩:=Uu Tryz.R4;go_enter func23,ntmps23;go_wp2_with fail;refine (vU D L G Z y hL U z N _).mono ?_;rintro e w1 ⟨v,T,rfl,n,P,f⟩;try change ZS _ _ _ at n
 try change ZS _ _ _ at f
 rw [Ul] at n f;have kh:=f.size;try change ZS _ _ _ at kh
 rw [Ul] at kh;obtain ⟨p0,p1,p2⟩:=cV f;have hv:=n.rdH P (kN D L G) (by rw [cO];omega);have K:bW w w1:=(bA _ _).trans (f.mono (by omega));have k0:=ak K;have C:=cO D L G;have kf:(aR D L G).length<=64:=by omega
 clear n P f p1 p2 K;have S:=ak (λk=>Ct (lost:=lost) (L:=L) (k:=k) y z);have R:=ak (Cu D L G lost y U z);rw [<- C] at S R;have k9:=ak C;clear C Z N;generalize aR D L G=M at *;rcases hv.cases with ⟨rfl,ao,c,rfl⟩|⟨b,off,c,rfl,_,B⟩
 . exfalso;have:=k9.out;simp at this;omega
 . clear hv;go_wp2;go_loopw [7,8] (λv i wr=>KpR w1 M lost v i wr) (λ_ i _=>M.length-(intOf i).toNat)
   case atStart=>exact ⟨0,T7 _,rfl,Rl.nil _⟩
   case round=>
    rename ZU=>wo;obtain ⟨k,hk,rfl,a⟩:=hrel;have d:wo.cell? ⟨w.heap.size,0,ZY⟩=ZX (Z7 Z9 (D:Nat)):=(by rw [a.choose_spec.2.2.2.cell (Ui p0)];exact p0);by_cases X:k<M.length
    . obtain ⟨u,F,x⟩:=B k X;have ki:wo.cell? ⟨b,off+k,ZY⟩=ZX u:=(by rw [a.choose_spec.2.2.2.cell (Ui F)];exact F);obtain ⟨au,cu,rfl,_⟩:=id x;have HK:=ak (jG M lost k);have H:=ak x;have O:M.getD k []=M[k]:=(by simp [X]);have k5:=ak O;clear B x F O;by_cases m:lost/2^k%2=0
      . have r:=ak (show (((lost/2^k%2:Nat):Int)==1)=ZV by rw [m];rfl);have k6:=ak (Gt M lost k m);clear m;obtain ⟨xs,s,Q,t,A⟩:=a;have HX:=ak Q;have k8:=ak s;have kp:xs.length<=64:=(by rw [s];exact TZ HK.o (by omega));have hs:=A.size;clear Q s;go_wp2_with (first
         | (go_at_call 17;refine (Ac lost k hl (by omega) _).mono ?_;rintro e w' ⟨rfl,l⟩;have E:=l.symm;clear l;subst E;rw [r.o])
         | (at_builtin;refine WA _ rfl (Z1 29) (Z1 34) 108 rfl w1.heap.size 40 i0 (Z5 ZY 0 0) 1 24 VW kc kj kk km rfl (by decide) _ xs.length xs rfl (an t (bA _ _)) ⟨wo.heap.size,0,ZY⟩ 1 1 [.slice au (M[k]).length cu] rfl rfl (mn _ _ rfl _ _) (by intro q Y;simp at Y;rw [Y];exact H.o.one) (by unfold maxLen;omega) (by omega) (by rw [Ul];omega) ?_;intro v' w2 J I kg))
        have V:=Rl.push k8.out HX.o t A rfl H.o I J;rw [<- k5.out,<- k6.out] at V;clear t J I kg A ki d;go_wp2;go_roundw
        case rel=>exact ⟨k+1,by omega,by go_num,V⟩
        case measure=>simp [intOf];omega
      . have g:lost/2^k%2=1:=(by omega);have r:=ak (show (((lost/2^k%2:Nat):Int)==1)=ZW by rw [g];rfl);have k7:=ak (BB M lost k m);clear m g;have p:=ak a;clear a;go_wp2_with (go_at_call 17;refine (Ac lost k hl (by omega) _).mono ?_;rintro e w' ⟨rfl,l⟩;have E:=l.symm;clear l;subst E;rw [r.o]);go_roundw
        case rel=>exact ⟨k+1,by omega,by go_num,by rw [k7.out];exact p.o⟩
        case measure=>simp [intOf];omega
    . have ke:k=M.length:=(by omega);rw [ke] at a;have p:=ak a;have ka:=ak (a.rd (TZ (jG _ _ _) (by omega)));clear B a;go_wp2_with fail;refine (Ie _ _ _ ka.out).mono ?_;rintro e w3 ⟨g,_,h⟩;obtain ⟨j,hj,rfl,hx⟩:=g R.out;have hb:w3.cell? ⟨w.heap.size,0,ZY⟩=ZX (Z7 Z9 (D:Nat)):=(by rw [h.cell (Ui d)];exact d);have kb:=ak hx;have hy:=ak h;clear g hx h;go_wp2;go_ret;have W:=p.o.choose_spec.2.2.2;have h:=hy.out;have ko:=W.size;refine ⟨((j:Int)==(D:Int)),rfl,?_,(k0.out.trans (W.mono (by omega))).trans (h.mono (by omega))⟩;rw [<- S.out _ kb.out];simp;omega
def dq (D L G:Nat) (dl:a8):List a8:=fu (aR D L G) (dY D dl) 44
def lS (D L G:Nat) (dl:a8):(dq D L G dl).length=D+L+G:=by unfold dq fu;rw [Ud,cO]
def IL (hl:dl.length<=D*44) (d:1<=D):Fit (dY D dl)/\((dY D dl).getD 0 []).length=44:=by
 have a:((dY D dl).getD 0 []).length=44:=by
  have e:(dY D dl).getD 0 []=(dY D dl)[0]'(by rw [eh];omega):=by simp [eh,show 0<D by omega]
  rw [e,oE];exact my hl (by omega)
 refine ⟨λi c=>?_,a⟩;have b:=c;rw [eh] at b;unfold Br;rw [a,oE c,my hl b];exact ⟨rfl,by decide⟩
def LM (w:ZU) (base:Nat) (M:List a8) (u:ZT):Prop:=∃ T,ez w base u T/\cQ T 44 M
def qU (c:D<=12) (d:G<=4) (dl:a8) (i:Nat) (a:i<(dq D L G dl).length):((dq D L G dl)[i]).length=44/\∀ x∈(dq D L G dl)[i],x<256:=by
 have b:i<(aR D L G).length:=by rw [cO];rw [lS] at a;exact a
 have e:(dq D L G dl)[i]=cM (aR D L G)[i] (dY D dl) 44 (dY D dl).length:=by simp [dq,fu]
 rw [e];exact ⟨gk _ _ _ _,pI _ _ (oG D L G c d _ (T8 b)) _ _⟩
def LM.rows {M:List a8} {u:ZT} (h:LM w base M u) (v:M≠[]) (r:∀ i (d:i<M.length),M[i].length=44/\∀ x∈M[i],x<256):∃ g c,u=Z5 (ZX ⟨g,0,ZY⟩) M.length c/\Of w base g M:=by
 obtain ⟨T,l,k⟩:=h;have f:T.length=M.length:=by simpa using UB YL k
 rcases l.shape with ⟨_,q⟩|⟨g,cap,m,n,D,E,o,p,_,_⟩
 . exact absurd (UY (by rw [<- f,q];rfl)) v
 . refine ⟨g,cap,by rw [m,f],n,o,λi d=>?_⟩;have a:i<T.length:=(by omega);have s:=k.at a d;obtain ⟨A,e,F,G,H⟩:=l.row T[i] (T8 a);have b:=p i a;unfold fY at b;rw [s] at b e;obtain ⟨B,C⟩:=r i d;refine ⟨T[i].1,0,M[i].length,b,A,e.lt,λj u z=>?_,B,C⟩;have y:=e.SO;have t:(aI M[i]).toArray[j]?=ZX u:=(by simpa using z);simp [World.cell?,y,t]
def Cv (b:gW D L G lost) (c:∀ i,l.testBit i=ZW->lost.testBit i=ZW):gW D L G l:=xu _ lost l _ D (λi _ d=>by
 have a:=c i;rw [Wy,Wy,Wt,Wt] at a;have:=V0 (l/2^i);omega) b
def aC.S6 (A:aC) (i:Nat):Prop:=A.lost i=ZW\/∃ b,A.bad i b=ZW\/A.bl i b=ZW
def aC.on (A:aC) (S:Nat):Prop:=∀ i,A.S6 i->S.testBit i=ZW
def aC.fine (A:aC) (D L G:Nat):Prop:=∃ S,gW D L G S/\A.on S
def LN {A:aC} (h:¬ gW D L G l) (hl:∀ i,l.testBit i=ZW->A.S6 i):¬ A.fine D L G:=λ⟨_,b,a⟩=>h (Cv b λi q=>a i (hl i q))
theorem IM {A:aC} {f:Nat->bz} (h:(A.putAt ds b f).bad i m=ZW):A.bad i m=ZW:=by
 have a:(if m=b/\i∈ds then ZV else A.bad i m)=ZW:=h;split at a
 . cases a
 . exact a
theorem LO {A:aC} {f:Nat->bz} (h:(A.putAt ds b f).bl i m=ZW):A.bl i m=ZW:=by
 have a:(if m=b/\i∈ds then ZV else A.bl i m)=ZW:=h;split at a
 . cases a
 . exact a
structure fj (A B:aC):Prop where
 n:B.n=A.n
 nb:B.nb=A.nb
 tn:B.tn=A.tn
 lost:B.lost=A.lost
 bd:∀ i b,B.bad i b=ZW->A.bad i b=ZW
 bl:∀ i b,B.bl i b=ZW->A.bl i b=ZW
def fj.refl (A:aC):fj A A:=⟨rfl,rfl,rfl,rfl,λ_ _=>id,λ_ _=>id⟩
def fj.trans {A B C:aC} (h:fj A B) (a:fj B C):fj A C:=⟨a.n.trans h.n,a.nb.trans h.nb,a.tn.trans h.tn,a.lost.trans h.lost,λi b c=>h.bd i b (a.bd i b c),λi b c=>h.bl i b (a.bl i b c)⟩
def fj.put (A:aC) (ds:a8) (b:Nat) (f:Nat->bz):fj A (A.putAt ds b f):=⟨rfl,rfl,rfl,rfl,λ_ _=>IM,λ_ _=>LO⟩
def fj.on {A B:aC} {S:Nat} (h:fj A B) (a:A.on S):B.on S:=λi q=>a i (q.imp (λe=>by rw [<- h.lost];exact e) λ⟨b,e⟩=>⟨b,e.imp (h.bd i b) (h.bl i b)⟩)
def fj.fine {A B:aC} (h:fj A B):A.fine D L G->B.fine D L G:=λ⟨S,b,a⟩=>⟨S,b,h.on a⟩
theorem oH (q:Nat->Bool) (i:Nat):∀ (l:a8),(kD q l).testBit i=ZW↔i∈l/\q i=ZW:=by
 intro l;suffices ∀ (l:a8) (s:Nat),(l.foldl (λs d=>if q d=ZW then s|||2^d else s) s).testBit i=ZW↔s.testBit i=ZW\/(i∈l/\q i=ZW) by
  have h:=this l 0;rw [ab9] at h;unfold kD;rw [h];simp
 intro l;induction l with
 | nil=>intro s;simp
 | cons d l ih=>
  intro s;rw [W0,ih];by_cases b:q d=ZW
  . rw [TX b,VZ,Xg,X3,decide_eq_true_iff,Uz];constructor
    . rintro ((h|h)|h)
      . exact .inl h
      . subst h;exact .inr ⟨.inl rfl,b⟩
      . exact .inr ⟨.inr h.1,h.2⟩
    . rintro (h|⟨h|h,a⟩)
      . exact .inl (.inl h)
      . exact .inl (.inr h.symm)
      . exact .inr ⟨h,a⟩
  . rw [TW b,Uz];constructor
    . rintro (h|h)
      . exact .inl h
      . exact .inr ⟨.inr h.1,h.2⟩
    . rintro (h|⟨h|h,a⟩)
      . exact .inl h
      . subst h;exact absurd a b
      . exact .inr ⟨h,a⟩
def DQ (D L G:Nat) (dl:a8) (i:Nat):a8:=(dq D L G dl).getD i []
def shF (D L G:Nat) (dl:a8) (i:Nat):bz:=.shard (DQ D L G dl i)
def Ad (b:zQ D L G) (dl:a8) {i:Nat} (c:i<D+L+G):(DQ D L G dl i).length=44/\∀ x∈DQ D L G dl i,x<256:=by
 have a:i<(dq D L G dl).length:=by rw [lS];exact c
 have e:DQ D L G dl i=(dq D L G dl)[i]:=by unfold DQ;simp [a]
 rw [e];exact qU b.d b.g _ i a
def aC.TR (A:aC) (D L G b:Nat) (dl:a8):aC:=A.putAt (YF A.n) b (shF D L G dl)
def Q5 (w:ZU) (p:Nat) (B:aC) (F:aH) (e:Ending) (w':ZU):Prop:=e=Z3 .nilIface/\az w' p B F/\aa F.S w w'
theorem lg {A:aC} {F:aH} (f:pH w v p D L G ps ho A F) (k9:A.fine D L G) (b:Nat) (j:b<A.nb) (Y:ZT) (dl:a8) (R:Bs w Y dl) (k5:dl.length<=D*44) :
 ZR ZN 165 #[Z6 (ZX ⟨v,0,ZY⟩),Z7 Z9 b,Y] w (Q5 w p (A.TR D L G b dl) F):=by
 obtain ⟨hr,hj,C,hL,hm,N,h4,hg⟩:=f.par;have hn:=f.n;have HD:=ak R;have r:=lS D L G dl;have h1:=qU (L:=L) C N dl;obtain ⟨M,O⟩:=nM (dq D L G dl);rw [O] at r h1;have z:=al O r;clear O r;have hz:=QY (f.vol.keep (w':=w.drew) rfl) C Y dl (HD.o.mono (T6 _ w).drew) k5;obtain ⟨h5,hh⟩:=IL k5 hj;have U:=λu X h=>EE D L G hr hj C hL hm N h4 u (dY D dl) X h (eh D dl) h5;rw [hh] at U;obtain ⟨_,c1,c2,c3,_⟩:=f.vol.cells;have HE:=al hz U;clear hz U h5 hh;go_enter func165,ntmps165;go_wp2_with fail;go_region_with (first
  | (go_at_call 190;refine HE.o.1.mono ?_;rintro e w1 ⟨u,rfl,hR,j⟩;obtain ⟨_,d1,d2,d3,_⟩:=(f.vol.keep (j.block _ f.vol.lt)).cells;have a:=al hR j;clear hR j)
  | (go_at_call 189;refine (HE.o.2 _ _ a.o.1).mono ?_;rintro e w2 ⟨x,T,rfl,hT,hH,j⟩;have l:=al (show LM w2 w.heap.size (dq D L G dl) x from ⟨T,hT.weaken a.o.2.size,hH⟩) (show bW w w2 from ((T6 _ w).drew).trans (a.o.2.trans (j.mono a.o.2.size)));clear hT hH j))
 all_goals (
  rename ZU=>w1;obtain ⟨J,Q⟩:=l.o;rw [z.o.1] at J;have r:=z.o.2;obtain ⟨g,c,rfl,hq⟩:=J.rows (λe=>by rw [e] at r;simp at r;omega) h1;have hs:=f.below Q lR;have a:=aE hs hq Q;clear J hq hs Q r;go_wp2_with fail;refine (nu a.o.1.vol f.par).mono ?_;rintro e w2 ⟨rfl,s⟩;obtain ⟨S,E⟩:=nM (2^(D+L+G)-1);rw [E];have B:ab S=YF A.n:=by rw [<- E,hn];exact oz hg
  have k8:S<65536:=by
   have:2^(D+L+G)<=2^16:=U9 (by decide) hg;omega
  have P:=a.o.1.below s lR;have hp:Of w2 w.heap.size g M:=a.o.2.1.keep s.size (λk _ W=>s.block k W);have V:=rE P b S j k8 (λi t=>by rw [B] at t;simpa using t) (m:=M.length) (c:=c) hp (λi t=>by have:=z.o.2;rw [B] at t;simp at t;omega) lR (λk W=>f.arr.RS W);rw [B] at V;have hll:=zT A.lost (YF A.n) (λd R=>by simp at R;omega);have k6:gW D L G (kD A.lost (YF A.n)):=k9.elim λ_ q=>Cv q.1 λi e=>q.2 i (.inl ((oH _ i _).1 e).2);generalize kD A.lost (YF A.n)=H at *;have l:=a6 V s E P k6;clear P hp V s B E k6;go_wp2_with fail;refine l.o.1.mono ?_;rintro e Z ⟨rfl,I,K⟩;have hO:aa F.S w Z:=(aa.RT (a.o.2.2.trans (l.o.2.1.mono a.o.2.2.size)) _).trans K;have hv:=l.o.2.2.2.1.vol.keep (K.block _ l.o.2.2.2.1.vol.lt f.v);rw [<- z.o.1] at I;obtain ⟨_,g1,g2,g3,_⟩:=hv.cells;have y:=al (show az Z p (A.TR D L G b dl) F from I) hO;clear I K hO hv;by_cases h0:H=0
  . subst h0;clear g1 g2 g3;go_wp2;go_ret;exact ⟨rfl,y.o.1,y.o.2⟩
  . have k7:¬ (H:Int)=0:=(by omega);have ka:((H:Int) != 0)=ZW:=(by simpa using k7);have k0:=lf D L G H hr C hL hm N h4 (by omega) Z;clear h0;go_wp2_with fail;refine k0.mono ?_;rintro e w4 ⟨bb,rfl,hy,hx⟩;obtain rfl:bb=ZW:=hy.2 l.o.2.2.2.2;have H4:=ak hx;clear hx k0 g1 g2 g3 hy;go_wp2;go_ret;exact ⟨rfl,y.o.1.below H4.o lR,y.o.2.trans (aa.RT H4.o _)⟩)
def cG (D:Nat) (P l:a8) (k:Nat):a8:=be (P.getD (k+1) 0) 4++(l.drop (k*(D*44-4))).take (D*44-4)
def aC.wrTo (A:aC) (D L G:Nat) (S:a8) (c:Nat->a8):Nat->aC
 | 0=>A
 | k+1=>(A.wrTo D L G S c k).TR D L G (S.getD k 0) (c k)
def jy (A:aC) (D L G:Nat) (S:a8) (c:Nat->a8):∀ k,(A.wrTo D L G S c k).n=A.n/\(A.wrTo D L G S c k).nb=A.nb/\fj A (A.wrTo D L G S c k)
 | 0=>⟨rfl,rfl,fj.refl A⟩
 | k+1=>have h:=jy A D L G S c k;⟨h.1,h.2.1,h.2.2.trans (fj.put _ _ _ _)⟩
def ER (w:ZU) (p D L G:Nat) (S:a8) (c:Nat->a8) (A:aC) (F:aH) (e:Ending) (w':ZU):Prop:=e=Z3 .nilIface/\az w' p (A.wrTo D L G S c S.length) F/\aa F.S w w'
def xU (a:1<=D) (P l:a8) (k:Nat):(cG D P l k).length<=D*44:=by
 unfold cG;rw [Uc,aD,Us];omega
def Cw {l:a8} (hl:∀ x∈l,x<256) (P:a8) (k:Nat):∀ x∈cG D P l k,x<256:=by
 intro x a;unfold cG at a;rw [Un] at a;rcases a with a|a
 . exact qI _ _ x a
 . exact hl x (U8 (U2 a))
def Cx {size:Nat} {v:ZT} {xs:List ZT} (h:w.ownsRow base e size v n xs) (f:aa S w w') (i:∀ k,S k->k<base):w'.ownsRow base e size v n xs:=by
 refine ⟨h.1,?_⟩;rcases h.2 with d|⟨g,cap,cur,b,c,a,r⟩
 . exact .inl d
 . exact .inr ⟨g,cap,cur,b,c,(f.block g (T5.1 a).1 (λq=>by have:=i g q;omega)).trans a,r⟩
def eN.Sf (h:aa S w w'):eN (λk=>¬ S k) w w':=⟨h.size,λk a b=>h.block k a b⟩
def sq {K:Nat->Prop} {v:ZT} {l:a8} (h:bg K w v l) (hl:l≠[]):∃ b off c,v=Z5 (ZX ⟨b,off,ZY⟩) l.length c/\∀ i (e:i<l.length),w.cell? ⟨b,off+i,ZY⟩=ZX (Z7 Z9 ((l[i]:Nat):Int)):=by
 obtain ⟨ao,c,rfl,_,a⟩:=h;obtain ⟨b,off,rfl,_,_,d⟩:=a hl;exact ⟨b,off,c,rfl,d⟩
def Tryz.SA:(ZN.info? 5).map (λi=>(i.zero,i.size,i.bytes))=ZX (ZX (Z7 .u8 0),1,1):=by kernel_rfl
theorem uf {off:Bool} {A:aC} {F:aH} (s:bC w ar v D' L' G' t f nn pg ob off) (q:pH w v p D L G ps ho A F) (qa:A.fine D L G) (q0:¬ F.S ar)
 (g cap base:Nat) (l:a8) (J:w.ownsRow base 5 1 (Z5 (ZX ⟨g,0,ZY⟩) l.length cap) l.length (aI l)) (qe:∀ x∈l,x<256) (hll:l.length<=1000000) (hn:∀ k,F.S k->k<base)
 (vp:ZT) (P:a8) (B:bg (λk=>¬ F.S k) w vp P) (kh:∀ x∈P,x<A.nb) (kz:∀ k,k<P.length->k*(D*44-4)<=l.length) :
 ZR ZN 143 #[Z6 (ZX ⟨ar,0,ZY⟩),Z5 (ZX ⟨g,0,ZY⟩) l.length cap,vp] w (ER w p D L G P (cG D P l) A F):=by
 have hz:=q.par.d1;have hD:=q.par.d;obtain ⟨i0,qb,qn,qo,qp⟩:=Uu Tryz.SA;obtain ⟨pa,pc,rfl,kg,_⟩:=id B;have k8:=kK s q.vol hz (by omega);obtain ⟨sz,k9⟩:=nM (D*44-4);have qm:40<=sz/\sz<=524:=by omega
 rw [k9] at k8;have qv:=q.arr.SD.2;have H0:=a5 s q J B;clear s q J B;go_enter func143,ntmps143;go_wp2_with fail;refine k8.mono ?_;rintro e w1 ⟨rfl,rfl⟩;clear k8;go_wp2;go_loopw [17] (λi wr=>∃ k:Nat,i=Z7 Z9 (k:Nat)/\k<=P.length/\az wr p (A.wrTo D L G P (cG D P l) k) F/\aa (F.S) w1 wr) (λi _=>P.length-(intOf i).toNat)
 case atStart=>exact ⟨0,rfl,T7 _,H0.o.2.1.arr,aa.refl _ _⟩
 case round=>
  obtain ⟨k,rfl,hk,K,r⟩:=hrel;by_cases E:k<P.length
  . obtain ⟨s,q,J,B⟩:=H0.o;have ki:=B.keep (eN.Sf r);obtain ⟨b,bo,c',e1,k0⟩:=sq ki (λe=>by rw [e] at E;simp at E);simp only [VA] at e1;obtain ⟨rfl,_,rfl⟩:=e1;have c1:=k0 k E;obtain ⟨y,V⟩:=nM (P[k]);rw [V] at c1;have kb:y<A.nb:=(by rw [<- V];exact kh _ (T8 E));obtain ⟨nx,H⟩:=nM (P.getD (k+1) 0);have hp:(k+1<P.length/\wr.cell? ⟨b,bo+(k+1),ZY⟩=ZX (Z7 Z9 (nx:Nat)))\/(¬ k+1<P.length/\nx=0):=by
     by_cases h:k+1<P.length
     . have:=k0 (k+1) h;have e:P.getD (k+1) 0=P[k+1]:=(by simp [h]);rw [<- e,H] at this;exact .inl ⟨h,this⟩
     . exact .inr ⟨h,by rw [<- H];simp [show P.length<=k+1 by omega]⟩
    have qj:nx<1000001:=by
     rcases XB (k+1) P.length with h|h
     . have e:P.getD (k+1) 0=P[k+1]:=(by simp [h]);rw [<- H,e];have:=kh _ (T8 h);omega
     . rw [<- H];simp [h]
    have k7:=jy A D L G P (cG D P l) k;have kj:=q.turn r K k7.1;have h7:=Cx J r hn;have hx:=s.keep (r.block _ s.lt q0);obtain ⟨ca,_⟩:=hx.cells;have m:=hide8 K r kj h7 k7 hx H V;clear K r kj h7 k7 hx H V k0 ki s q J B;have k6:=kz k E;rw [k9] at k6;have q9:l.length<=cap:=by
     rcases m.o.2.2.2.1.2 with ⟨e,_⟩|⟨g',hb,cur,e,_,_,hc,_⟩
     . cases e
     . simp only [VA] at e;omega
    have O:(k+1)*sz=k*sz+sz:=WY k sz;have qf:(k:Int)*(sz:Int)=((k*sz:Nat):Int):=(by rw [XG]);have qg:((k:Int)+1)*(sz:Int)=(((k+1)*sz:Nat):Int):=(by rw [XG];rfl);obtain ⟨a,U⟩:=nM (k*sz);obtain ⟨n,Z⟩:=nM ((k+1)*sz);rw [U] at qf O k6;rw [Z] at qg O;obtain ⟨bb,kk⟩:=nM (min n l.length);have qq:a<=bb:=(by omega);have qs:bb<=cap:=(by omega);have R:bb-a<=524:=(by omega);have Y:((l.drop a).take sz).length=bb-a:=(by rw [Us,Ur];omega);have qh:∀ I ty w,(Builtin.min_ I ty #[Z7 Z9 (n:Nat),Z7 Z9 (l.length:Nat)]).run ZN w=.ok (Z7 Z9 (bb:Nat)) w:=λI ty w=>by
     rw [gJ];by_cases h:((l.length:Nat):Int)<((n:Nat):Int)
     . rw [TX h,show bb=l.length by omega]
     . rw [TW h,show bb=n by omega]
    have hq:∀ W:ZU,W.ownsRow base 5 1 (Z5 (ZX ⟨g,0,ZY⟩) l.length cap) l.length (aI l)->Src ZN 1 40 (.slice (if cap=a then ZX ⟨g,0,ZY⟩ else ZX ⟨g,a,ZY⟩) (bb-a) (cap-a)) (bb-a) (aI ((l.drop a).take sz)) W:=λW Q=>by
     have qk:W.rangeAt g 0 (aI l):=λj u c=>by have:=Q.cells (g:=g) rfl j u c;rw [jm] at this;rw [Um];exact this
     by_cases T:cap=a
     . have h0:(l.drop a).take sz=[]:=UY (by omega);rw [TX T,h0,show bb-a=0 by omega];exact Vk W Uq ⟨g,0,ZY⟩ 0 (cap-a) (aI []) rfl (λj u c=>by simp [aI] at c) (λu c=>by simp [aI] at c)
     . rw [TW T];have kr:=nr sz (gh a qk);rw [Um] at kr;exact Vk W Uq ⟨g,a,ZY⟩ (bb-a) (cap-a) _ (by rw [aW,Y,Wf]) (λj u c=>by rw [Vp];exact kr j u c) (λu c=>by unfold aI at c;rw [Ua] at c;obtain ⟨x,_,rfl⟩:=c;rfl)
    have h8:∀ (W:ZU) (u:ZT),W.ownsRow wr.heap.size 5 1 u (0+4+(bb-a)) ([]++aI (be nx 4)++aI ((l.drop a).take sz))->Bs W u (cG D P l k):=λW u c=>by
     have e:[]++aI (be nx 4)++aI ((l.drop a).take sz)=aI (cG D P l k):=by
      unfold cG;rw [k9,U,m.o.2.2.2.2.2.2.1,bO,Ut]
     rw [e] at c;exact Bs.Sm c (Cw qe P k) (TZ (xU hz P l k) (by omega))
    have h2:∀ (W:ZU) (u:ZT),bW wr W->Bs W u (cG D P l k)->ZR ZN 165 #[Z6 (ZX ⟨v,0,ZY⟩),Z7 Z9 (y:Nat),u] W λe w'=>e=Z3 .nilIface/\az w' p (A.wrTo D L G P (cG D P l) (k+1)) F/\aa F.S w1 w':=λW u Q c=>by
     obtain ⟨q1,q2,q3,q4,q5,q6,q7,q8⟩:=m.o;refine (lg (q3.below Q lR) (q5.2.2.fine qa) y (by rw [q5.2.1];exact kb) u (cG D P l k) c (xU hz P l k)).mono ?_;rintro e w' ⟨rfl,kx,ky⟩;have ey:P.getD k 0=y:=(by rw [<- q8];simp [E]);refine ⟨rfl,?_,q2.trans ((aa.RT Q _).trans ky)⟩;show az w' p ((A.wrTo D L G P (cG D P l) k).TR D L G (P.getD k 0) (cG D P l k)) F;rw [ey];exact kx
    have kc:=al h8 h2;clear h8 h2;have HK:=a7 U Z kk Y k6 O;have qx:IntKind.u64.wrap (nx:Int)=(nx:Int):=(by rw [Vd];omega);have qd:a<=1000000/\n<=1000524/\bb<=1000000:=(by omega);clear U Z kk Y O;go_upto_if 26 with fail;go_cut [10] from 27 to 31 (λu wc=>u=Z7 Z9 (nx:Nat)/\wc=wr)
    case first=>
     rcases hp with ⟨h,c2⟩|⟨h,qi⟩
     . have kv:(k:Int)+1<((P.length:Nat):Int):=(by omega);go_wp2;go_meet
       case rel=>exact ⟨rfl,rfl⟩
     . have kv:¬ (k:Int)+1<((P.length:Nat):Int):=(by omega);subst qi;go_wp2;go_meet
       case rel=>exact ⟨rfl,rfl⟩
    case rest=>
    obtain ⟨rfl,ka⟩:=hcut;have ka:=ka.symm;subst ka;clear hp c1;go_wp2_with fail;refine (fZ wr.heap.size (Z5 ZY 0 0) 0 [] nx 4 wr (UP _ _ _ _) lR (by decide) (by decide)).mono ?_;rintro e w2 ⟨v2,rfl,ko,C,hm⟩;have N:bW wr w2:=⟨C.os,C.tape,C.output,C.size,λk hk=>C.block k hk (λe=>by simp [Value.ownBlock] at e)⟩;have X:=an m.o.2.2.2.1 N;have hh:=m.o.2.2.2.2.2.1.keep (N.block _ m.o.2.2.2.2.2.1.lt);obtain ⟨cb,_⟩:=hh.cells;have z:=a6 ko N (hq w2 X) X hm;clear ko C N X hm hh;go_wp2_with (
     at_builtin;
     refine ae _ rfl (Z1 35) (Z1 47) 40 40 rfl wr.heap.size 5 i0 (Z7 .u8 0) 1 1 Uq qb qn qo qp rfl v2 (0+4) ([]++aI (be nx 4)) (by rfl) (by exact z.o.1) _ (by rfl) (bb-a) (aI ((l.drop a).take sz)) (by exact z.o.2.2.1) (by unfold maxLen;omega) (by omega) (by exact z.o.2.1.size) ?_;
     intro v3 w3 kp km k5;
     have R:bW wr w3:=z.o.2.1.grown km z.o.2.1.size (λk e=>(z.o.1.lt k e).1);
     have hi:=m.o.2.2.2.2.2.1.keep (R.block _ m.o.2.2.2.2.2.1.lt);
     obtain ⟨cc,_⟩:=hi.cells;
     have H3:=al kp R;
     clear kp R km k5 hi)
    all_goals
     refine (kc.out.2 w3 v3 H3.o.2 (kc.out.1 w3 v3 H3.o.1)).mono ?_;rintro e w4 ⟨rfl,ke,kf⟩
     . have M:=al ke kf;clear ke kf;go_wp2;first
        | exact ⟨⟨k+1,by go_num,by omega,M.o.1,M.o.2⟩,by simp only [intOf];omega⟩
        | (have T:cap=a:=by assumption
           subst T;go_roundw
           case rel=>exact ⟨k+1,by go_num,by omega,M.o.1,M.o.2⟩
           case measure=>
            show P.length-((k:Int)+1).toNat<P.length-((k:Nat):Int).toNat;omega)
  . have qc:k=P.length:=(by omega);subst qc;have m:=al K r;clear K r;go_wp2;go_ret;exact ⟨rfl,m.o.1,m.o.2⟩
def ES {v:ZT} (f:a'.tmps.size=a.tmps.size) (c:a'.defers=a.defers) (m:lo+vs.length<=a.tmps.size) (n:d<lo) (j:a'.eval (.tmp d)=v) (g:∀ i,i<vs.length->a'.eval (.tmp (lo+i))=vs.getD i ZZ) (h:∀ s,s≠d->s<lo\/lo+vs.length<=s->a'.eval (.tmp s)=a.eval (.tmp s)):a'=Act.RV (a.put (ZX d) v) lo vs:=by
 obtain ⟨k,l⟩:=j8 vs (a.put (ZX d) v) lo;refine Gl (f.trans ((k.trans (nR _ _ _)).symm)) (c.trans l.symm) λs _=>?_;rw [j9 vs _ lo s (by rw [nR];omega)];by_cases e:lo<=s/\s<lo+vs.length
 . rw [TX e];have:=g (s-lo) (by omega);rwa [show lo+(s-lo)=s by omega] at this
 . rw [TW e];by_cases b:s=d
   . subst b;rw [zB _ _ _ (by omega),j]
   . rw [lC _ _ _ _ (λq=>b q.symm)];exact h s b (by omega)
def nx (t:Nat):Nat:=(t+1)%18446744073709551616
def aaC (t:Nat):nx t<18446744073709551616:=Wd _ (by decide)
noncomputable def RCm:Array ZQ:=((Tryz.f105.body.bind (DO · 5))).getD #[]
def Q6:List (Op×Option Nat×a8):=[(Op.move (Z1 0),ZX 19,[]),
 (Op.nilCheck (Z1 19),ZX 20,[0]),
 (Op.fieldAddr 146 (Z1 20) 0,ZX 21,[1]),
 (Op.load 140 (Z1 21),ZX 22,[2]),
 (Op.call { callee:=Callee.value (Operand.func 77),args:=#[Z1 22],argTypes:=#[140] },ZX 23,[3]),
 (Op.move (Z1 0),ZX 24,[]),
 (Op.nilCheck (Z1 24),ZX 25,[5]),
 (Op.fieldAddr 146 (Z1 25) 1,ZX 26,[6]),
 (Op.fieldAddr 142 (Z1 26) 1,ZX 27,[7]),
 (Op.load 23 (Z1 27),ZX 28,[8]),
 (Op.binOp BinOp.add 23 (Z1 28) (Operand.const (Value.int IntKind.u64 1)) 23,ZX 29,[9]),
 (Op.move (Z1 2),ZX 30,[]),
 (Op.indexAddr 48 (Z1 30) (Operand.const (Value.int IntKind.i64 0)),ZX 31,[11]),
 (Op.load 3 (Z1 31),ZX 32,[12]),
 (Op.move (Z1 7),ZX 33,[]),
 (Op.call { callee:=Callee.builtin Builtin.len,args:=#[Z1 33],argTypes:=#[40] },ZX 34,[14]),
 (Op.build 142 #[(0,Z1 23),(1,Z1 29),(2,Z1 32),(3,Z1 34)],ZX 35,[4,10,13,15]),
 (Op.alloc 142,ZX 9,[]),
 (Op.store 142 (Z1 9) (Z1 35),ZY,[17,16,4,0,1,2,3,4,5,6,7,8,9,10,11,12,13,14,15,16,17])]
def IN:bF RCm 9 36 Q6:=eU (by kernel_rfl) (by kernel_rfl)
def Ae {s:ZO} (ho:o.op=.call { callee:=.builtin .len,args:=#[s],argTypes:=#[40] }) {so:Option Addr} {n c:Nat} (hx:a.eval s=.slice so n c) (w:ZU):(execOp a.eval o).run ZN w=.ok (.value (Z7 Z9 n)) w:=by
 unfold execOp;simp only [ho,resolve,invoke,builtin,Ux,Vf,UK,V7,UI,Vh,hx];simp [Builtin.len_,UR Uq,goInt]
def kO (w:ZU) (b:Nat):Prop:=∃ cs:Array ZT,cs.size=6/\w.heap[b]?=ZX (Z4 cs 142 (0,0))
def VCm (s ar v D L G t m pb po pn pc f:Nat) (so:Option Addr) (cap:Nat) (i:Nat) (u:ZT) (w:ZU):Prop:=match i with
 | 0|1|2|5|6=>u=Z6 (ZX ⟨ar,0,ZY⟩)
 | 3=>u=Z6 (ZX ⟨v,0,ZY⟩)
 | 4=>u=.agg #[Z7 Z9 D,Z7 Z9 L,Z7 Z9 G]
 | 7=>u=Z6 (ZX ⟨ar,1,ZY⟩)
 | 8=>u=Z6 (ZX ⟨ar,4,ZY⟩)
 | 9=>u=Z7 Z8 t
 | 10=>u=Z7 Z8 ((nx t:Nat):Int)
 | 11=>u=Z5 (ZX ⟨pb,po,ZY⟩) pn pc
 | 12=>u=Z6 (ZX ⟨pb,po,ZY⟩)
 | 13=>u=Z7 Z9 f
 | 14=>u=.slice so m cap
 | 15=>u=Z7 Z9 m
 | 16=>u=.agg (aq D L G (nx t) f m)
 | 17=>∃ b,u=Z6 (ZX ⟨b,0,ZY⟩)/\s<=b/\kO w b
 | 18=>∃ b,s<=b/\w.heap[b]?=ZX (Z4 (aq D L G (nx t) f m) 142 (0,0))
 | _=>True
def BCm (w0:ZU) (Dn:Nat->Bool) (w:ZU):Prop:=bW w0 w/\(∀ b b',w0.heap.size<=b->w0.heap.size<=b'->kO w b->kO w b'->b=b')/\(Dn 17=ZV->∀ b,w0.heap.size<=b->¬ kO w b)
def cH {w0:ZU} (h:BCm w0 Dn w) (i:Nat) (a:i≠17):BCm w0 (mq Dn i) w:=⟨h.1,h.2.1,λq=>h.2.2 (by unfold mq at q;rwa [TW (λe=>a e.symm)] at q)⟩
def xV (w:ZU):(zeroValue 142).run ZN w=.ok (.agg (aq 0 0 0 0 0 0)) w:=by
 obtain ⟨a,b,c⟩:∃ a,ZN.info? 142=ZX a/\a.zero=ZX (.agg (aq 0 0 0 0 0 0)):=by
  have:(ZN.info? 142).map (λi=>i.zero)=ZX (ZX (.agg (aq 0 0 0 0 0 0))):=by kernel_rfl
  rw [Wi] at this;exact this
 simp [zeroValue,typeInfo,Ux,b,c]
def kQ (D L G t f n:Nat):(ZN.info? 142).map (λi=>i.size)=ZX (aq D L G t f n).size:=by kernel_rfl
def pT (D L G t f n:Nat):(aq D L G t f n).all (λv=>v.oneCell')=ZW:=by simp [aq,Value.oneCell']
def ug (h:w.heap[b]?=ZX (Z4 cs 142 (0,0))) (a:cs.size=6):(Instr.storeAt 142 (Z6 (ZX ⟨b,0,ZY⟩)) (.agg (aq D L G t f n))).run ZN w=.ok () (w.setRow b (aq D L G t f n)):=by
 simp only [Instr.storeAt,Instr.sureAddr,Ux,Vf,UK,XY w b 142 142 cs (aq D L G t f n) h (kQ D L G t f n) (by rw [a];rfl) (pT D L G t f n)]
theorem vY {cap pb po pn pc:Nat} {so:Option Addr} (hp:RCm=ops) (g:bt w v p D L G ps ho) (T:w.heap[ar]?=ZX (Z4 cs 146 (0,0))) (h0:cs[0]?=ZX (Z6 (ZX ⟨v,0,ZY⟩))) (h4:cs[4]?=ZX (Z7 Z8 t)) (k9:1<=pn) (hx:w.cell? ⟨pb,po,ZY⟩=ZX (Z7 Z9 f))
 (ka:a.tmps.size=60) (X:a.eval (Z1 0)=Z6 (ZX ⟨ar,0,ZY⟩)) (e2:a.eval (Z1 2)=Z5 (ZX ⟨pb,po,ZY⟩) pn pc) (e7:a.eval (Z1 7)=.slice so m cap)
 (hQ:∀ (w':ZU) (vs:List ZT) (b:Nat),vs.length=17->w.heap.size<=b->w'.heap[b]?=ZX (Z4 (aq D L G (nx t) f m) 142 (0,0))->bW w w'->Q .normal (Act.RV (a.put (ZX 9) (Z6 (ZX ⟨b,0,ZY⟩))) 19 vs) w'):(Code.region 5 ops ZW).wp ZN Q a w:=by
 subst hp;have Y:ar<w.heap.size:=(T5.1 T).1;have n1:IntKind.u64.wrap ((t:Int)+1)=((nx t:Nat):Int):=by rw [Vd];unfold nx;omega
 refine gA (by kernel_rfl) IN a w (by omega) (VCm w.heap.size ar v D L G t m pb po pn pc f so cap) (BCm w) ⟨(T6 _ w).drew,λb H F _ K _=>?_,λ_ b F K=>?_⟩ ?_ ?_
 . obtain ⟨c,_,K⟩:=K;have:=(T5.1 K).1;have k6:w.drew.heap.size=w.heap.size:=rfl;omega
 . obtain ⟨c,_,K⟩:=K;have:=(T5.1 K).1;have k6:w.drew.heap.size=w.heap.size:=rfl;omega
 . intro i O;match i,O with
   | 0,_=>exact λo a' w' Dn B ho r y x A l d g=>aK (bT ho ((y.slot 0 (by omega)).trans X) w') r ⟨cH d _ (by decide),rfl,kq⟩
   | 1,_=>
    intro o a' w' Dn B ho r y x A l d g;have u0:a'.eval (Z1 19)=Z6 (ZX ⟨ar,0,ZY⟩):=g 0 (l 0 (by decide));exact aK (kt ho u0 w') r ⟨cH d _ (by decide),rfl,kq⟩
   | 2,_=>
    intro o a' w' Dn B ho r y x A l d g;have u0:a'.eval (Z1 20)=Z6 (ZX ⟨ar,0,ZY⟩):=g 1 (l 1 (by decide));exact aK (v:=Z6 (ZX ⟨ar,0,ZY⟩)) (by (conv at ho=>rhs;whnf);simp only [execOp,ho,u0];go_simp) r ⟨cH d _ (by decide),rfl,kq⟩
   | 3,_=>
    intro o a' w' Dn B ho r y x A l d g;have u0:a'.eval (Z1 21)=Z6 (ZX ⟨ar,0,ZY⟩):=g 2 (l 2 (by decide));have S:=(d.1.block ar Y).trans T;have c:w'.cell? ⟨ar,0,ZY⟩=ZX (Z6 (ZX ⟨v,0,ZY⟩)):=(by simp [World.cell?,S,h0]);exact aK (v:=Z6 (ZX ⟨v,0,ZY⟩)) (by (conv at ho=>rhs;whnf);simp only [execOp,ho,u0];go_simp) r ⟨cH d _ (by decide),rfl,kq⟩
   | 4,_=>
    intro o a' w' Dn B ho r y x A l d k0;have u0:a'.eval (Z1 22)=Z6 (ZX ⟨v,0,ZY⟩):=k0 3 (l 3 (by decide));have R:Dn 18=ZV:=by
     cases q:Dn 18 with
     | false=>rfl
     | true=>have:=(A 18 q).2 4 (by decide);rw [x] at this;cases this
    refine rT (f:=77) (args:=#[Z6 (ZX ⟨v,0,ZY⟩)]) (w1:=w') (by (conv at ho=>rhs;whnf);simp only [execOp,ho];go_simp;simpa [Act.eval] using u0) r (kJ (g.keep (d.1.block _ g.lt))) ?_;rintro e W ⟨rfl,F,hz,U⟩;have N:∀ b,kO W b->kO w' b:=λb ⟨c,E,z⟩=>by
     have:=(T5.1 z).1;by_cases e:b=w'.heap.size
     . subst e;rw [U] at z;simp at z
     . exact ⟨c,E,(F.block b (by omega)).symm.trans z⟩
    refine ⟨_,rfl,⟨d.1.trans (F.mono d.1.size),λb H I J E z=>d.2.1 b H I J (N b E) (N H z),λq b I J=>d.2.2 (by unfold mq at q;rwa [TW (by decide)] at q) b I (N b J)⟩,rfl,λj u C q=>?_⟩;match j,C,q with
    | 0,_,q|1,_,q|2,_,q|3,_,q|4,_,q|5,_,q|6,_,q|7,_,q|8,_,q|9,_,q|10,_,q|11,_,q|12,_,q|13,_,q|14,_,q|15,_,q|16,_,q=>exact q
    | 17,_,⟨b,E,z,c,P,M⟩=>exact ⟨b,E,z,c,P,(F.block b (T5.1 M).1).trans M⟩
    | 18,C,_=>rw [R] at C;cases C
    | n+19,_,_=>trivial
   | 5,_=>exact λo a' w' Dn B ho r y x A l d g=>aK (bT ho ((y.slot 0 (by omega)).trans X) w') r ⟨cH d _ (by decide),rfl,kq⟩
   | 6,_=>
    intro o a' w' Dn B ho r y x A l d g;have u0:a'.eval (Z1 24)=Z6 (ZX ⟨ar,0,ZY⟩):=g 5 (l 5 (by decide));exact aK (kt ho u0 w') r ⟨cH d _ (by decide),rfl,kq⟩
   | 7,_=>
    intro o a' w' Dn B ho r y x A l d g;have u0:a'.eval (Z1 25)=Z6 (ZX ⟨ar,0,ZY⟩):=g 6 (l 6 (by decide));exact aK (v:=Z6 (ZX ⟨ar,1,ZY⟩)) (by (conv at ho=>rhs;whnf);simp only [execOp,ho,u0];go_simp) r ⟨cH d _ (by decide),rfl,kq⟩
   | 8,_=>
    intro o a' w' Dn B ho r y x A l d g;have u0:a'.eval (Z1 26)=Z6 (ZX ⟨ar,1,ZY⟩):=g 7 (l 7 (by decide));exact aK (v:=Z6 (ZX ⟨ar,4,ZY⟩)) (by (conv at ho=>rhs;whnf);simp only [execOp,ho,u0];go_simp) r ⟨cH d _ (by decide),rfl,kq⟩
   | 9,_=>
    intro o a' w' Dn B ho r y x A l d g;have u0:a'.eval (Z1 27)=Z6 (ZX ⟨ar,4,ZY⟩):=g 8 (l 8 (by decide));have S:=(d.1.block ar Y).trans T;have c:w'.cell? ⟨ar,4,ZY⟩=ZX (Z7 Z8 t):=(by simp [World.cell?,S,h4]);exact aK (v:=Z7 Z8 t) (by (conv at ho=>rhs;whnf);simp only [execOp,ho,u0];go_simp) r ⟨cH d _ (by decide),rfl,kq⟩
   | 10,_=>
    intro o a' w' Dn B ho r y x A l d g;have u0:a'.eval (Z1 28)=Z7 Z8 t:=g 9 (l 9 (by decide));exact aK (v:=Z7 Z8 ((nx t:Nat):Int)) (by (conv at ho=>rhs;whnf);simp only [execOp,ho,u0,show a'.eval (Operand.const (Value.int IntKind.u64 1))=Value.int IntKind.u64 1 from rfl];go_simp) r ⟨cH d _ (by decide),rfl,kq⟩
   | 11,_=>exact λo a' w' Dn B ho r y x A l d g=>aK (bT ho ((y.slot 2 (by omega)).trans e2) w') r ⟨cH d _ (by decide),rfl,kq⟩
   | 12,_=>
    intro o a' w' Dn B ho r y x A l d g;have u0:a'.eval (Z1 30)=Z5 (ZX ⟨pb,po,ZY⟩) pn pc:=g 11 (l 11 (by decide));exact aK (v:=Z6 (ZX ⟨pb,po,ZY⟩)) (by (conv at ho=>rhs;whnf);simp only [execOp,ho,u0,show a'.eval (Operand.const (Value.int IntKind.i64 0))=Value.int IntKind.i64 0 from rfl];go_simp;intro h;omega) r ⟨cH d _ (by decide),rfl,kq⟩
   | 13,_=>
    intro o a' w' Dn B ho r y x A l d g;have u0:a'.eval (Z1 31)=Z6 (ZX ⟨pb,po,ZY⟩):=g 12 (l 12 (by decide));have c:w'.cell? ⟨pb,po,ZY⟩=ZX (Z7 Z9 f):=(d.1.cell (p:=⟨pb,po,ZY⟩) (Ui hx)).trans hx;exact aK (v:=Z7 Z9 f) (by (conv at ho=>rhs;whnf);simp only [execOp,ho,u0];go_simp) r ⟨cH d _ (by decide),rfl,kq⟩
   | 14,_=>exact λo a' w' Dn B ho r y x A l d g=>aK (bT ho ((y.slot 7 (by omega)).trans e7) w') r ⟨cH d _ (by decide),rfl,kq⟩
   | 15,_=>
    intro o a' w' Dn B ho r y x A l d g;have u0:a'.eval (Z1 33)=.slice so m cap:=g 14 (l 14 (by decide));exact aK (v:=Z7 Z9 m) (Ae ho u0 w') r ⟨cH d _ (by decide),rfl,kq⟩
   | 16,_=>
    intro o a' w' Dn B ho r y x A l d g;have u0:a'.eval (Z1 23)=.agg #[Z7 Z9 D,Z7 Z9 L,Z7 Z9 G]:=g 4 (l 4 (by decide));have u1:a'.eval (Z1 29)=Z7 Z8 ((nx t:Nat):Int):=g 10 (l 10 (by decide));have u2:a'.eval (Z1 34)=Z7 Z9 m:=g 15 (l 15 (by decide));have u3:a'.eval (Z1 32)=Z7 Z9 f:=g 13 (l 13 (by decide));exact aK (v:=.agg (aq D L G (nx t) f m)) (by (conv at ho=>rhs;whnf);simp only [execOp,ho,V7,UI,Vh,u0,u1,u2,u3];go_simp;rfl) r ⟨cH d _ (by decide),rfl,kq⟩
   | 17,_=>
    intro o a' w' Dn B ho r y x A l d g;have R:Dn 18=ZV:=by
     cases q:Dn 18 with
     | false=>rfl
     | true=>have:=(A 18 q).2 17 (by decide);rw [x] at this;cases this
    have N:∀ b,w.heap.size<=b->kO (w'.alloc (Z4 (aq 0 0 0 0 0 0) 142)) b->b=w'.heap.size:=λb F ⟨c,E,z⟩=>by
     have:=(T5.1 z).1;simp at this;by_cases e:b=w'.heap.size
     . exact e
     . exact absurd ⟨c,E,(Uy _ _ _ (by omega)).symm.trans z⟩ (d.2.2 x b F)
    refine aK (v:=Z6 (ZX ⟨w'.heap.size,0,ZY⟩)) (w':=w'.alloc (Z4 (aq 0 0 0 0 0 0) 142)) (by (conv at ho=>rhs;whnf);simp only [execOp,ho];go_simp;rfl) r ⟨⟨d.1.alloc d.1.size _,λb H I J E z=>(N b I E).trans (N H J z).symm,λq=>(by unfold mq at q;rw [TX rfl] at q;cases q)⟩,⟨_,rfl,d.1.size,_,rfl,Uk _ _⟩,λj u C q=>?_⟩;match j,C,q with
    | 0,_,q|1,_,q|2,_,q|3,_,q|4,_,q|5,_,q|6,_,q|7,_,q|8,_,q|9,_,q|10,_,q|11,_,q|12,_,q|13,_,q|14,_,q|15,_,q|16,_,q=>exact q
    | 17,C,_=>rw [x] at C;cases C
    | 18,C,_=>rw [R] at C;cases C
    | n+19,_,_=>trivial
   | 18,_=>
    intro o a' w' Dn B ho r y x A l d g;obtain ⟨b,u0,F,c,P,M⟩:VCm w.heap.size ar v D L G t m pb po pn pc f so cap 17 (a'.eval (Z1 9)) w':=g 17 (l 17 (by decide));have u1:a'.eval (Z1 35)=.agg (aq D L G (nx t) f m):=g 16 (l 16 (by decide));have V:∀ H,kO (w'.setRow b (aq D L G (nx t) f m)) H->kO w' H:=λH ⟨c',E,z⟩=>by
     by_cases e:H=b
     . subst e;exact ⟨c,P,M⟩
     . exact ⟨c',E,((aG w' b _).block H (by have:=(T5.1 z).1;rwa [gG] at this) (λq=>e (by cases q;rfl))).symm.trans z⟩
    have hO:ZS w.heap.size w' (w'.setRow b (aq D L G (nx t) f m)):=⟨rfl,rfl,rfl,by rw [gG];exact TY _,λk y=>(aG w' b _).block k (by have:=d.1.size;omega) (λq=>by cases q;omega)⟩;refine Gm (w':=w'.setRow b (aq D L G (nx t) f m)) (by (conv at ho=>rhs;whnf);simp [execOp,ho,u0,u1,ug M P]) ⟨⟨d.1.trans hO,λb1 b2 I J E z=>d.2.1 b1 b2 I J (V b1 E) (V b2 z),λq b1 I J=>d.2.2 (by unfold mq at q;rwa [TW (by decide)] at q) b1 I (V b1 J)⟩,⟨b,F,Vy w' b c _ _ _ M⟩,λj u C q=>?_⟩;match j,C,q with
    | 0,_,q|1,_,q|2,_,q|3,_,q|4,_,q|5,_,q|6,_,q|7,_,q|8,_,q|9,_,q|10,_,q|11,_,q|12,_,q|13,_,q|14,_,q|15,_,q|16,_,q=>exact q
    | 17,_,⟨b1,E,z,c1,q5,q6⟩=>
     refine ⟨b1,E,z,?_⟩;have e:b1=b:=d.2.1 b1 b z F ⟨c1,q5,q6⟩ ⟨c,P,M⟩;subst e;exact ⟨_,rfl,Vy w' b1 c1 _ _ _ q6⟩
    | 18,C,_=>rw [x] at C;cases C
    | n+19,_,_=>trivial
   | n+19,U=>exact absurd U (by show ¬ n+19<19;omega)
 . rintro a' w' Z hh ⟨Dn,hD,d⟩ g;obtain ⟨b,u0,F,K⟩:VCm w.heap.size ar v D L G t m pb po pn pc f so cap 17 (a'.eval (Z1 9)) w':=g 17 (by decide);obtain ⟨b2,k5,hy⟩:VCm w.heap.size ar v D L G t m pb po pn pc f so cap 18 ZZ w':=g 18 (by decide);have e:b2=b:=d.2.1 b2 b k5 F ⟨_,rfl,hy⟩ K;subst e;have e:a'=Act.RV (a.put (ZX 9) (Z6 (ZX ⟨b2,0,ZY⟩))) 19 ((YF 17).map λi=>a'.eval (.tmp (19+i))):=ES Z.size Z.defers (by rw [Ud,UM];omega) (by decide) u0 (λi O=>by
    rw [Ud,UM] at O;rw [Ub,UE,VU O];rfl) (λs hs k7=>by
    rw [Ud,UM] at k7;refine hh s λi O=>?_;have k8:i<19:=O;rcases XB i 17 with h|h
    . intro q;have h3:(dV Q6 i).2.1=ZX (19+i):=by
       have:∀ i,i<17->(dV Q6 i).2.1=ZX (19+i):=by decide
       exact this i h
      rw [h3] at q;have:=UQ q;omega
    . rcases XB i 18 with h5|h5
      . have:i=17:=by omega
        subst this;intro q;have:=UQ q;omega
      . have:i=18:=by omega
        subst this;intro q;cases q)
   rw [e];exact hQ w' _ b2 (by rw [Ud,UM]) F hy d.1
def ET (h:w.heap[q]?=ZX (Z4 (aq D L G t f n) 142 (0,0))):(Instr.loadAt 142 (Z6 (ZX ⟨q,0,ZY⟩))).run ZN w=.ok (.agg (aq D L G t f n)) w:=by
 simp only [Instr.loadAt,Instr.sureAddr,Ux,Vf,UK,W9 w q 142 142 (aq D L G t f n) (0,0) _ h Yc rfl (by kernel_rfl)]
def kR (e:o.guard=ZY) (x:ZO) (ho:o.op=.load 142 x) {b D L G t f n:Nat} {ra:Array ZT} (c:ra=aq D L G t f n)
 (g:a.eval x=Z6 (ZX ⟨b,0,ZY⟩)) (d:w.heap[b]?=ZX (Z4 (aq D L G t f n) 142 (0,0))) (h:wpList ZN ops Q rest (a.put o.dst (.agg ra)) w):wpList ZN ops Q (o::rest) a w:=by
 refine V5 e λK hK=>?_;subst c;unfold Oper.wp;simp [execOp,ho,g,ET d,Result.andThen];exact hK _ _ h
def Cy {off:Bool} (h:bC w ar v D' L' G' t' f' n' pg ob off):bC (w.setCells ar 1 (aq D L G t f n).toList) ar v D L G t f n pg ob off:=by
 have a:w.heap[ar]?=ZX (Z4 (nv v D' L' G' t' f' n' pg ob off) 146 (0,0)):=h;have:=af (j:=6) (af (j:=5) (af (j:=4) (af (j:=3) (af (j:=2) (af (j:=1) a (Z7 Z9 (D:Int))) (Z7 Z9 (L:Int))) (Z7 Z9 (G:Int))) (Z7 Z8 (t:Int))) (Z7 Z9 (f:Int))) (Z7 Z9 (n:Int));exact this
def bC.there {off:Bool} (h:bC w ar v D' L' G' t' f' n' pg ob off):w.there ar 1 6:=by
 have a:w.heap[ar]?=ZX (Z4 (nv v D' L' G' t' f' n' pg ob off) 146 (0,0)):=h;intro j b;match j,b with
 | 0,_|1,_|2,_|3,_|4,_|5,_=>simp [World.cell?,World.frozen?,a,nv]
 | n+6,hn=>exact absurd hn (by omega)
def bC.late {off:Bool} (h:bC w ar v D' L' G' t' f' n' pg ob off) (b a:ZT):bC ((w.setCell ⟨ar,7,ZY⟩ b).setCell ⟨ar,8,ZY⟩ a) ar v D' L' G' t' f' n' b a off:=by
 have c:w.heap[ar]?=ZX (Z4 (nv v D' L' G' t' f' n' pg ob off) 146 (0,0)):=h;exact af (j:=8) (af (j:=7) c b) a
def bC.tail {off:Bool} (h:bC w ar v D' L' G' t' f' n' pg ob off):w.cell? ⟨ar,7,ZY⟩=ZX pg/\w.frozen? ⟨ar,7,ZY⟩=ZV/\w.cell? ⟨ar,8,ZY⟩=ZX ob/\w.frozen? ⟨ar,8,ZY⟩=ZV:=by
 have a:w.heap[ar]?=ZX (Z4 (nv v D' L' G' t' f' n' pg ob off) 146 (0,0)):=h;simp [World.cell?,World.frozen?,a,nv]
def Q8 (h:vs.length=17):∃ a b c d e f g i j k l m n o p q r,vs=[a,b,c,d,e,f,g,i,j,k,l,m,n,o,p,q,r]:=by
 match vs,h with
 | [a,b,c,d,e,f,g,i,j,k,l,m,n,o,p,q,r],_=>exact ⟨_,_,_,_,_,_,_,_,_,_,_,_,_,_,_,_,_,rfl⟩
def EU (w:ZU) (vo:ZT) (l:a8):Prop:=∀ W,bW w W->ZR ZN 142 #[vo] W λe w'=>∃ g cap,e=Z3 (Z5 (ZX ⟨g,0,ZY⟩) l.length cap)/\w'.ownsRow W.heap.size 5 1 (Z5 (ZX ⟨g,0,ZY⟩) l.length cap) l.length (aI l)/\bW W w'
def aC.TK (A:aC) (D L G t:Nat) (P l:a8):aC:=(A.wrTo D L G P (cG D P l) P.length).putAt (YF A.n) 0 (λ_=>.root D L G t (P.getD 0 0) l.length)
def LP (w:ZU) (ar v p D L G t:Nat) (A:aC) (F:aH) (P l:a8) (vp vo:ZT) (off:Bool) (e:Ending) (w':ZU):Prop:=aa (λk=>k=ar\/F.S k) w w'/\e=Z3 .nilIface/\az w' p (A.TK D L G (nx t) P l) F/\bC w' ar v D L G (nx t) (P.getD 0 0) l.length vp vo off
theorem nz {off:Bool} {A:aC} {F:aH} (ha:bC w ar v D' L' G' t f nn pg ob off) (B:pH w v p D L G ps ho A F) (qb:A.fine D L G) (O:¬ F.S ar)
 (oo:Option Addr) (on oc:Nat) (l:a8) (qc:∀ x∈l,x<256) (hll:l.length<=1000000) (qe:EU w (.slice oo on oc) l)
 (pb po pc:Nat) (P:a8) (hP:bg (λk=>¬ F.S k) w (Z5 (ZX ⟨pb,po,ZY⟩) P.length pc) P) (kr:P≠[]) (kv:∀ x∈P,x<A.nb) (q7:∀ k,k<P.length->k*(D*44-4)<=l.length) :
 ZR ZN 105 #[Z6 (ZX ⟨ar,0,ZY⟩),.slice oo on oc,Z5 (ZX ⟨pb,po,ZY⟩) P.length pc] w (LP w ar v p D L G t A F P l (Z5 (ZX ⟨pb,po,ZY⟩) P.length pc) (.slice oo on oc) off):=by
 obtain ⟨hr,qg,hD,hL,qh,hG,q9,kj⟩:=B.par;have hn:=B.n;have h8:0<P.length:=Yk.2 kr;obtain ⟨a,W⟩:=nM (P.getD 0 0);have hf:P[0]=a:=by rw [<- W];simp [h8]
 have qi:=B.arr.SD.2;have qa:a<A.nb:=by rw [<- hf];exact kv _ (T8 _)
 have qd:(bz.root D L G (nx t) a l.length).ok:=by
  have:=aaC t;exact ⟨by omega,by omega,by omega,by omega,by omega,by omega⟩
 unfold LP aC.TK;rw [W];have HA:=al W hf;have HP:=ak hP;clear W hf hP;go_enter func105,ntmps105;go_wp2_with fail;refine (qe w (T6 _ w)).mono ?_;rintro e w1 ⟨g,cap,rfl,hv,m⟩;have C:=ha.keep (m.block _ ha.lt);have I:=B.below m lR;have Y:=HP.o.keep (eN.RU m);have q5:=uf C I qb O g cap w.heap.size l hv qc hll (λk M=>B.arr.RS M) _ P Y kv q7;have H1:=a6 m q5 Y C I;clear m q5 Y hv C I;go_wp2_with fail;refine H1.o.2.1.mono ?_;rintro e w2 ⟨rfl,kk,E⟩;obtain ⟨m,_,hp,C,I⟩:=H1.o;have J:=C.keep (E.block _ C.lt O);have u:aa F.S w w2:=(aa.RT m _).trans E;have q1:=jy A D L G P (cG D P l) P.length;have N:=I.turn E kk q1.1;have ks:=hp.keep (eN.Sf E);obtain ⟨b',qk,c',e1,ky⟩:=sq ks kr;simp only [VA,US,abF] at e1;obtain ⟨⟨rfl,rfl,_⟩,_,rfl⟩:=e1;have kf:=ky 0 h8;rw [VV,HA.o.2] at kf;have u:aa (F.S) w w2:=(aa.RT m _).trans E;have Q:=a5 J N u kf;clear m hp C I kk E J N ks ky kf u;go_wp2_with fail;refine vY (f:=a) (by kernel_rfl) Q.o.2.1.vol Q.o.1 rfl rfl (by omega) Q.o.2.2.2 rfl rfl rfl rfl ?_;intro r vs d q3 kh b V;obtain ⟨x0,x1,x2,x3,x4,x5,x6,x7,x8,x9,xa,xb,xc,xd,xe,xf,xg,rfl⟩:=Q8 q3;obtain ⟨J,N,u,kg⟩:=Q.o;clear kg;have c:=J.keep (V.block _ J.lt);have j:=N.below V lR;have s:aa (F.S) w r:=u.trans (aa.RT V _);have y:¬ F.S d:=λq=>by have:=B.arr.RS q;have:=u.size;omega
 have H3:=a7 c j s b y kh;clear J N u c j s b y kh V q3;rename_i hK
 refine hK _ _ ?_;clear hK;simp only [Act.RV,Act.put,Ug,Uf,Uh];go_wp2_with fail;obtain ⟨c,j,s,b,y,kh⟩:=H3.o;obtain ⟨hd,qj,qm,qn⟩:=q1;obtain ⟨S,Z⟩:=nM (2^(D+L+G)-1);have ka:ab S=YF A.n:=by rw [<- Z,hn];exact oz kj
 have kx:S<65536:=by
  have:2^(D+L+G)<=2^16:=U9 (by decide) kj;omega
 have q4:∀ X,bW r X->ZR ZN 118 #[Z6 (ZX ⟨v,0,ZY⟩),Z7 Z9 (0:Nat),cF (.root D L G (nx t) a l.length),Z7 Z8 S] X λe w'=>(∃ z:Nat,e=Z3 (Z7 Z8 z))/\az w' p ((A.wrTo D L G P (cG D P l) P.length).putAt (YF A.n) 0 (λ_=>.root D L G (nx t) a l.length)) F/\aa (F.S) r w':=λX K=>by
  have q8:=j.below K lR;have h:=gT q8 0 S (by rw [qj];omega) kx (λi hi=>by rw [hd];rw [ka] at hi;simpa using hi) (.root D L G (nx t) a l.length) qd;rw [ka] at h;exact h.mono λe w' q=>⟨⟨_,q.1⟩,q.2.1,(aa.RT K _).trans q.2.2⟩
 have kc:=nu (j.vol.keep (w':=r.drew) rfl) B.par;rw [Z] at kc;have ke:∀ X,bW r X->X.cell? ⟨ar,0,ZY⟩=ZX (Z6 (ZX ⟨v,0,ZY⟩))/\X.cell? ⟨d,0,ZY⟩=ZX (Z7 Z9 D)/\X.cell? ⟨d,1,ZY⟩=ZX (Z7 Z9 L)/\X.cell? ⟨d,2,ZY⟩=ZX (Z7 Z9 G)/\X.cell? ⟨d,3,ZY⟩=ZX (Z7 Z8 (nx t))/\X.cell? ⟨d,4,ZY⟩=ZX (Z7 Z9 a)/\X.cell? ⟨d,5,ZY⟩=ZX (Z7 Z9 l.length):=λX K=>by
  have qf:X.heap[d]?=ZX (Z4 (aq D L G (nx t) a l.length) 142 (0,0)):=(K.block d (T5.1 b).1).trans b;refine ⟨(c.keep (K.block _ c.lt)).cells.1,?_,?_,?_,?_,?_,?_⟩<;>simp [World.cell?,qf,aq]
 obtain ⟨k0,k1,k2,k3,k4,k5,k6⟩:=ke r (T6 _ _);have R:=aE q4 kc ke;have q6:=a6 c j s b y;clear q4 kc ke c j s b y Z ka kx;go_cut [47] from 36 to 46 (λ_ wx=>az wx p ((A.wrTo D L G P (cG D P l) P.length).putAt (YF A.n) 0 (λ_=>.root D L G (nx t) a l.length)) F/\aa (F.S) r wx)
 case first=>
  go_region_with (first
   | (go_at_call 112;refine R.o.2.1.mono ?_;rintro e w5 ⟨rfl,kz⟩;have he:bW r w5:=((T6 _ r).drew).trans kz;obtain ⟨j0,j1,j2,j3,j4,j5,j6⟩:=R.o.2.2 w5 he;have H5:=ak he;clear kz he)
   | (go_at_call 118;refine (R.o.1 w5 H5.o).mono ?_;rintro e w6 ⟨⟨z,rfl⟩,ko,kp⟩;have H6:=al ko kp;clear ko kp))
  all_goals (go_wp2_with fail;go_meet;case rel=>exact H6.o)
 case rest=>
 rename ZU=>w4;obtain ⟨km,T⟩:=hcut;obtain ⟨c,j,s,b,y⟩:=q6.out;clear k0 k1 k2 k3 k4 k5 k6 R;have kb:=c.keep (T.block _ c.lt O);have h5:=(T.block d (T5.1 b).1 y).trans b;have hm:aa (λk=>k=ar\/F.S k) w w4:=(s.trans T).mono λ_ _ q=>.inr q;have q2:=kb.there;have U:=Cy (D:=D) (L:=L) (G:=G) (t:=nx t) (f:=a) (n:=l.length) kb;have k9:=hm.trans (aa.setCells (S:=λk=>k=ar\/F.S k) _ ar 1 (aq D L G (nx t) a l.length).toList (.inl rfl));have k8:=km.outside (aa.setCells (S:=λk=>k=ar) w4 ar 1 (aq D L G (nx t) a l.length).toList rfl) (λk M e=>O (e▸M));obtain ⟨w8,ki⟩:=nM (w4.setCells ar 1 (aq D L G (nx t) a l.length).toList);rw [ki] at U k9 k8;obtain ⟨c7,f7,c8,f8⟩:=U.tail;have H:=a7 k8 k9 U q2 h5 ki;clear km T kb hm q2 U k9 k8 ki h5 c j s b;go_wp2_with (first|(refine kR rfl (Z1 9) rfl rfl (by rfl) (by exact H.o.2.2.2.2.1) ?_)|(refine wpList_store_mid rfl 142 (Z1 55) (Z1 51) rfl ar 1 (aq D L G (nx t) a l.length) (by rfl) (by rfl) (by exact H.o.2.2.2.1) (kQ _ _ _ _ _ _) (pT _ _ _ _ _ _) ?_;rw [H.o.2.2.2.2.2]));go_ret;refine ⟨(H.o.2.1.trans (aa.setCell _ _ _ (.inl rfl))).trans (aa.setCell _ _ _ (.inl rfl)),rfl,?_,H.o.2.2.1.late _ _⟩;exact H.o.1.keep λk M=>by
  have q0:k≠ar:=λe=>O (e▸M);exact (Uj _ _ _ _ q0).trans (Uj _ _ _ _ q0)
def pU (w:ZU) (t u q e:TypeId) (k:IntKind) (i:TypeInfo) (z:ZT) (l:P.underlying t=ZX (.slice e)) (m:P.underlying u=ZX (.int k)) (g:P.info? e=ZX i) (p:i.zero=ZX z) (f:i.bytes=1) (j:i.size=1)
 (n:Nat) (a:0<n) (r:n<=1000000) :
 (Builtin.append_ #[t,u] q #[Z5 ZY 0 0,Z7 Z9 n]).run P w =
  .ok (Z5 (ZX ⟨w.heap.size,0,ZY⟩) n (grownCap w n 0 e)) (w.drew.alloc (Z4 (Builtin.zeroCells z.cells n++Builtin.zeroCells z.cells (grownCap w n 0 e-n)) e)):=by
 have h:n≠0:=by omega
 have d:¬ (9223372036854775807<(n:Int)):=by omega
 have o:IntKind.i64.wrap (n:Int)=n:=by rw [UF];omega
 have hl:¬ ((n:Int)<0):=by omega
 have c:¬ (281474976710656<Builtin.nextslicecap n 0):=by rw [nextslicecap_zero a];omega
 have b:¬ (281474976710656<(n:Int)):=by omega
 simp [Builtin.append_,UR l,UR m,sizeOf,typeInfo,zeroValue,g,p,f,j,h,d,c,b,o,hl,Question.forced,run_firstCells_none,newRow,grownCap,asInt,asIntOf]
def Tryz.Sc:(ZN.info? 5).map (λi=>(i.zero,i.size,i.bytes))=ZX (ZX (Z7 .u8 0),1,1):=by kernel_rfl
def IP (w:ZU) (n c:Nat) (b:n<=c) (a:c<=maxLen):(w.drew.alloc (Z4 (Builtin.zeroCells (Value.cells (Z7 .u8 0)) n++Builtin.zeroCells (Value.cells (Z7 .u8 0)) (c-n)) 5)).ownsRow w.heap.size 5 1 (Z5 (ZX ⟨w.heap.size,0,ZY⟩) 0 c) 0 []:=by
 refine ⟨rfl,.inr ⟨w.heap.size,c,_,rfl,TY _,Uk w.drew _,T7 _,a,?_,by simp⟩⟩;simp [Builtin.zeroCells,Value.cells];omega
def Af (w w':ZU) {ops:Array ZQ} {rest:List ZQ} {o:ZQ} {a:Act} {Q:Exit->Act->ZU->Prop} (b:o.guard=ZY) (s x:ZO) (t tx:TypeId)
 (ho:o.op=.call { callee:=.builtin .append,args:=#[s,x],argTypes:=#[t,tx] }) (v u v':ZT) (hv:a.eval s=v) (hu:a.eval x=u) (hr:∀ c,(Builtin.append_ #[t,tx] c #[v,u]).run P w=.ok v' w')
 (h:wpList P ops Q rest (a.put o.dst v') w'):wpList P ops Q (o::rest) a w:=by
 refine V5 b λK hK=>?_;unfold Oper.wp execOp;simp only [ho,resolve,invoke,builtin,Ux,Vf,UK,V7,UI,Vh,hv,hu,hr];exact hK _ _ h
theorem LQ (n:Nat) (s:n<=1000000) (w:ZU):ZR ZN 170 #[Z5 ZY 0 0,Z7 Z9 n] w λe w'=>∃ v,e=Z3 v/\w'.ownsRow w.heap.size 5 1 v 0 []/\bW w w':=by
 obtain ⟨t,l,p,q,r⟩:=Uu Tryz.Sc;by_cases k:0<n
 . have a:=λu=>pU (P:=ZN) w 40 3 u 5 .i64 t (Z7 .u8 0) Uq WH l p r q n k s;have g:n<=grownCap w n 0 5:=aby w n 0 5;have d:grownCap w n 0 5<=maxLen:=abz w n 0 5 (by unfold maxLen;omega);have c:=IP w n (grownCap w n 0 5) g d;have b:bW w (w.drew.alloc (Z4 (Builtin.zeroCells (Value.cells (Z7 .u8 0)) n++Builtin.zeroCells (Value.cells (Z7 .u8 0)) (grownCap w n 0 5-n)) 5)):=(T6 _ w).drew.alloc lR _;obtain ⟨f,h⟩:=nM (grownCap w n 0 5);rw [h] at a g d c b;obtain ⟨w2,i⟩:=nM (w.drew.alloc (Z4 (Builtin.zeroCells (Value.cells (Z7 .u8 0)) n++Builtin.zeroCells (Value.cells (Z7 .u8 0)) (f-n)) 5));rw [i] at a c b;have H:=al c b;have j:=ak a;clear c b i h d a;go_enter func170,ntmps170;go_wp2_with (show wpList _ _ _ ({ dst:=ZX 22,op:=_,type:=_,pos:=_,after:=_,guard:=_ }::_) _ _;refine Af w w2 rfl (Z1 20) (Z1 21) 40 3 rfl (Z5 ZY 0 0) (Z7 Z9 n) (Z5 (ZX ⟨w.heap.size,0,ZY⟩) n f) rfl rfl (by exact j.o) ?_);go_ret;exact ⟨_,rfl,H.o.1,H.o.2⟩
 . have m:n=0:=(by omega);subst m;go_enter func170,ntmps170;go_wp2;go_ret;exact ⟨_,rfl,UP _ _ _ _,T6 _ _⟩
def dK {size:Nat} {v:ZT} {xs:List ZT} (h:w.ownsRow base e size v n xs) {k:Nat} (a:v.ownBlock=ZX k):base<=k:=by
 rcases h.2 with ⟨c,_⟩|⟨g,cap,cur,b,d,_⟩
 . rw [c] at a;simp [Value.ownBlock] at a
 . rw [b] at a;simp [Value.ownBlock] at a;omega
def CcR (w:ZU) (K:Nat) (s i:ZT) (wr:ZU):Prop:=∃ k:Nat,k<=K/\i=Z7 Z9 k/\s=Z7 Z9 ((44*k:Nat):Int)/\wr=w
def CdR (w:ZU) (R:List a8) (v i:ZT) (wr:ZU):Prop:=∃ k:Nat,k<=R.length/\i=Z7 Z9 k/\wr.ownsRow w.heap.size 5 1 v (44*k) (aI (R.take k).flatten)/\bW w wr
theorem IQ {R:List a8} (T:Of w base g R) (W:R.length<=1000):ZR ZN 136 #[Z5 (ZX ⟨g,0,ZY⟩) R.length c] w λe w'=>∃ v,e=Z3 v/\w'.ownsRow w.heap.size 5 1 v (44*R.length) (aI R.flatten)/\bW w w':=by
 obtain ⟨i0,Z,hx,hy,hz⟩:=Uu Tryz.Sc;obtain ⟨K,hK⟩:=nM (R.length);obtain ⟨_,Y,G⟩:=T;have f:=al G hK;rw [hK] at W ⊢;clear G hK;go_enter func136,ntmps136;go_wp2_with fail;go_loopw [3,11] (λs i wr=>CcR w K s i wr) (λ_ i _=>K-(intOf i).toNat)
 case atStart=>exact ⟨0,T7 _,rfl,rfl,rfl⟩
 case round=>
  obtain ⟨k,k6,rfl,rfl,P⟩:=hrel;obtain rfl:w=wr:=P.symm;clear P;by_cases D:k<K
  . obtain ⟨b,off,l,c1,B,m,n,p,C⟩:=f.o.1 k (by rw [f.o.2];exact D);clear B m n p C;have y:((44*k:Nat):Int)+44=((44*(k+1):Nat):Int):=(by omega);have U:44*(k+1)<=44000:=(by omega);obtain ⟨M,r⟩:=nM (44*k);obtain ⟨M',A⟩:=nM (44*(k+1));rw [r,A] at y;rw [A] at U;rw [r];go_wp2;refine ⟨⟨k+1,by omega,by go_num,by rw [A],rfl⟩,by simp [intOf];omega⟩
  . have hv:k=K:=(by omega);subst hv;obtain ⟨M,r⟩:=nM (44*k);have k0:M<=44000:=(by omega);rw [r];go_wp2_with fail;refine (LQ M (by omega) w).mono ?_;rintro e w1 ⟨v,rfl,d,a⟩;have t:=al d a;clear d a;go_wp2_with fail;go_loopw [6,27] (λv i F=>CdR w R v i F) (λ_ i _=>k-(intOf i).toNat)
    case atStart=>exact ⟨0,T7 _,rfl,t.o.1,t.o.2⟩
    case round=>
     clear t;obtain ⟨j,hr,rfl,d,a⟩:=hrel;rw [f.o.2] at hr;by_cases D:j<k
     . have J:j<R.length:=(by rw [f.o.2];exact D);obtain ⟨b,off,l,c1,B,m,n,p,C⟩:=f.o.1 j J;have Q:wr.cell? ⟨g,j,ZY⟩=ZX (Z5 (ZX ⟨b,off,ZY⟩) 44 l):=(Uo (a.block g Y)).trans c1;have z:Src ZN 1 40 (Z5 (ZX ⟨b,off,ZY⟩) 44 l) 44 (aI R[j]) wr:=Vk wr Uq ⟨b,off,ZY⟩ 44 l (aI R[j]) (by rw [aW,p]) (λq u hq=>by have I:wr.cell? ⟨b,off+q,ZY⟩=ZX u:=(Uo (a.block b m)).trans (n q u hq);unfold Addr.add;split<;>first|exact I|(rename_i S;subst S;exact I)) (λu hu=>by
        obtain ⟨x,_,rfl⟩:=Ua.1 hu;rfl)
       have h:aI (R.take (j+1)).flatten=aI (R.take j).flatten++aI R[j]:=by
        rw [Vg,Ue J,Option.toList_some,aca,bO];simp
       obtain ⟨E,N⟩:=nM (aI R[j]);obtain ⟨rt,L⟩:=nM (aI (R.take j).flatten);rw [N] at z h;rw [L] at d h;have O:=a.size;have H:=a5 d a z h;have k5:44*j+44<=44000:=(by omega);clear d a z h B m n p C c1 N L;go_wp2_with (show wpList _ _ _ ({ dst:=ZX 33,op:=_,type:=_,pos:=_,after:=_,guard:=_ }::_) _ _;refine ae _ rfl (Z1 31) (Z1 32) 40 40 rfl w.heap.size 5 i0 (Z7 .u8 0) 1 1 Uq Z hx hy hz rfl _ (44*j) rt (by rfl) (by exact H.o.1) _ (by rfl) 44 E (by exact H.o.2.2.1) (by unfold maxLen;omega) (by omega) (by exact O) ?_;intro v' w3 V X _);obtain ⟨d,a,_,h⟩:=H.o;refine ⟨⟨j+1,by rw [f.o.2];omega,by go_num,?_,a.grown X O λq e=>dK d e⟩,by simp [intOf];omega⟩;rw [h,show 44*(j+1)=44*j+44 by omega];exact V
     . have hs:j=k:=(by omega);subst hs;have H:=al d a;clear d a;go_wp2;go_ret;refine ⟨_,rfl,?_,H.o.2⟩;have:=H.o.1;rw [UJ (by rw [f.o.2];exact TY _)] at this;exact this
def rdA (v b g N gone sp:Nat):Array ZT:=#[Z6 (ZX ⟨v,0,ZY⟩),Z7 Z9 b,Z5 (ZX ⟨g,0,ZY⟩) N N,Z7 Z8 gone,Z7 Z8 sp]
def eY (w:ZU) (r v b g N gone sp:Nat):Prop:=w.heap[r]?=ZX (Z4 (rdA v b g N gone sp) 200 (0,0))
def eY.keep (h:eY w r v b g N gone sp) (e:w'.heap[r]?=w.heap[r]?):eY w' r v b g N gone sp:=e.trans h
def eY.lt (h:eY w r v b g N gone sp):r<w.heap.size:=(T5.1 h).1
def eY.cells (h:eY w r v b g N gone sp):w.cell? ⟨r,0,ZY⟩=ZX (Z6 (ZX ⟨v,0,ZY⟩))/\w.cell? ⟨r,1,ZY⟩=ZX (Z7 Z9 b)/\w.cell? ⟨r,2,ZY⟩=ZX (Z5 (ZX ⟨g,0,ZY⟩) N N)/\w.cell? ⟨r,3,ZY⟩=ZX (Z7 Z8 gone)/\w.cell? ⟨r,4,ZY⟩=ZX (Z7 Z8 sp):=by
 have a:w.heap[r]?=ZX (Z4 (rdA v b g N gone sp) 200 (0,0)):=h;simp [World.cell?,a,rdA]
def eY.free (h:eY w r v b g N gone sp) (i:Nat):w.frozen? ⟨r,i,ZY⟩=ZV:=by
 have a:w.heap[r]?=ZX (Z4 (rdA v b g N gone sp) 200 (0,0)):=h;simp [World.frozen?,a]
def vZ (w:ZU) {ops:Array ZQ} {rest:List ZQ} {o:ZQ} {a:Act} {Q:Exit->Act->ZU->Prop}
 (h:o.guard=ZY) (l c:ZO) (e:o.op=Op.makeSlice 108 l c) (C:Int) (n:Nat) (hl:a.eval l=Z7 Z9 C) (g:a.eval c=Z7 Z9 C) (f:C=(n:Int)) (i:n<=1000000)
 (hK:∀ w',w'.rowIs w.heap.size 40 n (λ_=>Z5 ZY 0 0)->bW w w'->w'.heap.size=w.heap.size+1->wpList ZN ops Q rest (a.put o.dst (Z5 (ZX ⟨w.heap.size,0,ZY⟩) n n)) w') :
 wpList ZN ops Q (o::rest) a w:=by
 refine V5 h λK d=>?_;have b:=XX (P:=ZN) 108 40 (Z5 ZY 0 0) 24 VW Tryz.Se rfl .i64 .i64 n (by omega) (by omega) w;subst f;unfold Oper.wp;simp [execOp,e,hl,g,b,Result.andThen];exact d _ _ (hK _ (Xx w _ n _) (bA _ _) (Ul _ _))
theorem uh (w:ZU) (n:TypeId) (g N c:Nat) (f:Nat->ZT) (h:w.rowIs g 40 N f) (s:0<N):(Builtin.clear_ #[108] n #[Z5 (ZX ⟨g,0,ZY⟩) N c]).run ZN w=.ok (Z0 #[]) (w.setRow g (YJ N (Value.slice ZY 0 0)).toArray):=by
 obtain ⟨cs,d,e,o⟩:=h;obtain ⟨t,b,j,q,r⟩:=Uu Tryz.Se;have l:(Builtin.zeroCells (Value.cells (Z5 ZY 0 0)) N).toList=YJ N (Value.slice ZY 0 0):=by
  apply Ve
  . simp [Builtin.zeroCells,Value.cells]
  . intro i _ _;simp [Builtin.zeroCells,Value.cells,Nat.mod_one]
 have a:=run_storeCells_from (P:=ZN) g 40 (YJ N (Value.slice ZY 0 0)) 0 cs w d (by simp [e]) (λv k=>by rw [VM k];rfl);have:N≠0:=by omega
 simp only [Wn,Ut] at a;obtain ⟨m,rfl⟩:∃ m,N=m+1:=⟨N-1,by omega⟩;simp [Builtin.clear_,UR VW,zeroValue,typeInfo,b,j,l,a]
def Ag (w:ZU) {ops:Array ZQ} {rest:List ZQ} {o:ZQ} {a:Act} {Q:Exit->Act->ZU->Prop} (j:o.guard=ZY) (s:ZO)
 (ho:o.op=.call { callee:=.builtin .clear,args:=#[s],argTypes:=#[108] }) (h0:o.dst=ZY) {g N c:Nat} {f:Nat->ZT} (hv:a.eval s=Z5 (ZX ⟨g,0,ZY⟩) N c) (hr:w.rowIs g 40 N f) (hN:0<N)
 (h:∀ w',w'.rowIs g 40 N (λ_=>Z5 ZY 0 0)->aa (λk=>k=g) w w'->wpList ZN ops Q rest a w'):wpList ZN ops Q (o::rest) a w:=by
 refine V5 j λK hK=>?_;unfold Oper.wp execOp;simp only [ho,resolve,invoke,builtin,Ux,Vf,UK,V7,UI,Vh,hv,uh w _ g N c f hr hN];have b:=aG w g (YJ N (Value.slice ZY 0 0)).toArray;obtain ⟨cs,d,_⟩:=hr;refine hK _ _ ?_;rw [h0];exact h _ ⟨_,Vy _ _ _ _ _ _ d,by simp,λi m=>by simp [m]⟩ ⟨b.os,b.tape,b.output,b.size,λk n l=>b.block k n (λe=>l (UQ e))⟩
def EV (w:ZU) (r:Nat) {v b0 g N gone sp:Nat} (h:eY w r v b0 g N gone sp) (b ho:Nat):eY (((w.setCell ⟨r,1,ZY⟩ (Z7 Z9 b)).setCell ⟨r,3,ZY⟩ (Z7 Z8 0)).setCell ⟨r,4,ZY⟩ (Z7 Z8 ho)) r v b g N 0 ho/\aa (λk=>k=r) w (((w.setCell ⟨r,1,ZY⟩ (Z7 Z9 b)).setCell ⟨r,3,ZY⟩ (Z7 Z8 0)).setCell ⟨r,4,ZY⟩ (Z7 Z8 ho)):=by
 refine ⟨?_,((aa.setCell (S:=λk=>k=r) w ⟨r,1,ZY⟩ _ rfl).trans (aa.setCell _ ⟨r,3,ZY⟩ _ rfl)).trans (aa.setCell _ ⟨r,4,ZY⟩ _ rfl)⟩;have a:=abG w r 1 _ _ (Z7 Z9 b) h;have c:=abG _ r 3 _ _ (Z7 Z8 0) a;exact abG _ r 4 _ _ (Z7 Z8 ho) c
theorem Ot {f:Nat->ZT} (h:eY w r v b0 g N gone sp) (m:bt w v p D L G ps ho) (n:w.rowIs g 40 N f) (x:0<N) (d:g≠r) (u:v≠g) (b:Nat) :
 ZR ZN 110 #[Z6 (ZX ⟨r,0,ZY⟩),Z7 Z9 b] w λe w'=>e=Z3 (Z0 #[])/\eY w' r v b g N 0 ho/\w'.rowIs g 40 N (λ_=>Z5 ZY 0 0)/\aa (λk=>k=r\/k=g) w w':=by
 obtain ⟨c0,c1,q,s,t⟩:=h.cells;have H:=aE h m n;clear h m n;go_enter func110,ntmps110;go_wp2_with (show wpList _ _ _ ({ dst:=ZY,op:=.call { callee:=.builtin .clear,args:=_,argTypes:=_ },type:=_,pos:=_,after:=_,guard:=_ }::_) _ _;refine Ag _ rfl (Z1 7) rfl rfl (g:=g) (N:=N) (c:=N) (f:=f) rfl (by exact H.o.2.2) x ?_;intro w1 l a;obtain ⟨z,d1,A,B,C⟩:=(H.o.1.keep (a.block _ H.o.1.lt (λe=>d e.symm))).cells;obtain ⟨_,_,_,_,_,J⟩:=(H.o.2.1.keep (a.block _ H.o.2.1.lt u)).cells;have E:=(H.o.1.keep (a.block _ H.o.1.lt (λe=>d e.symm))).free 1;have F:=(H.o.1.keep (a.block _ H.o.1.lt (λe=>d e.symm))).free 3;have I:=(H.o.1.keep (a.block _ H.o.1.lt (λe=>d e.symm))).free 4;have i:=al l a;clear l a c0 c1 q s t);first|go_end0|skip
 have y:=H.o.1.keep (i.o.2.block _ H.o.1.lt (λe=>d e.symm));have j:=EV w1 r y b ho;refine ⟨rfl,j.1,i.o.1.of_block (j.2.block _ i.o.1.lt (λe=>d e)),(i.o.2.mono λ_ _ e=>.inr e).trans (j.2.mono λ_ _ e=>.inl e)⟩
def Q9 {D:Nat->Bool}:mq D i i=ZW:=TX rfl
section
attribute [local go_sem] Oper.semAt_some
def pV (K:Nat->Prop) (n b1:Nat) (v:ZT) (os:List Ob) (w:ZU) (i:b1<w.heap.size) (b:w.cell? ⟨b1,0,ZY⟩=ZX v) (j:fa K w v os) :
 SeqStopsK Fence.wide n ZN 144 #[Z6 (ZX ⟨b1,0,ZY⟩)] pA (eN K) (λu=>u=ah os) (λpre=>pre<+:ah os) (ah os).length w:=λl J d W c m _ o f=>by
 refine (tg K n l b1 v os J d (λpre A B h a=>m pre A B ZY h ⟨a.os,a.tape,a.output,a.size,λk q _=>a.block k q⟩ (λr e=>by cases e)) (ah os).length o [] (by simp) W ((c.cell (p:=⟨b1,0,ZY⟩) i).trans b) (j.keep (eN.RU c)) f).mono ?_;rintro e W' ⟨b,g⟩;refine ⟨b,?_⟩;rcases g with h|⟨pre,s,t⟩
 . exact .inl ⟨_,rfl,by simpa using h⟩
 . exact .inr ⟨pre,s,by simpa using t⟩
structure RmI (w:ZU) (B:Nat) (pre:a8) (X:ZU):Prop where
 box:ZP X w.heap.size 3 (Z7 Z9 (pre.length:Nat))
 below:bW w X
 size:B<=X.heap.size
def RmI.Th (h:w.heap.size<B):OwnFrom B (RmI w B):=by
 rintro pre X Y row ⟨f,b,g⟩ a d;have c:∀ k,k<B->Y.heap[k]?=X.heap[k]?:=λk c=>a.block k (by omega) (λe=>by have:=(d k e.symm).1;omega);exact ⟨(c _ (by omega)).trans f,b.grown a b.size (λk e=>by have:=(d k e).1;omega),TZ g a.size⟩
theorem Cz {off:Bool} {A:aC} {F:aH} (j:bC w ar v D' L' G' t f nn pg ob off) (m:bt w v p D L G ps ho) (h:az w p A F) (hn:0<A.n) (os:List Ob) (u:fa (λk=>k<w.heap.size) w ob os) (hv:(ah os).length<=1000000) (count pages:Nat) (he:count<=1000000) (hg:pages<=1000000) :
 ZR ZN 127 #[Z6 (ZX ⟨ar,0,ZY⟩),Z7 Z9 (count:Nat),Z7 Z9 (pages:Nat)] w λe w'=>e=Z3 (Z2 (decide ((ah os).length+count+2*pages+2<=A.nb)))/\bW w w':=by
 obtain ⟨n,HN⟩:∃ n:Nat,cJ (9<=n):=⟨9,TY _⟩;obtain ⟨c0,_,_,_,P⟩:=j.cells;obtain ⟨d,c,rfl,hol,_⟩:=id u;have H:=a5 j m h u;clear j m h u;refine (Vj (n:=n)).1 ?_;refine Wo func127 rfl trivial ?_ rfl;simp only [ntmps127,UL,UG,U0,YH,YI,Vr,Vs,Vt,Vu,Ut,UX];have g:bW w (w.alloc (Z4 #[Z7 Z9 0] 3)):=bA w _;have Q:=(g.cell (p:=⟨ar,8,ZY⟩) H.o.1.lt).trans P;have r:ZP (w.alloc (Z4 #[Z7 Z9 0] 3)) w.heap.size 3 (Z7 Z9 0):=UH w _ _;have y:(w.alloc (Z4 #[Z7 Z9 0] 3)).heap.size=w.heap.size+1:=by simp
 have I:=aE g r y;clear g r y;gi_wp2;refine dk (lM d os.length c (w.alloc (Z4 #[Z7 Z9 0] 3))) ?_;rintro e w' ⟨rfl,rfl⟩;obtain ⟨w1,hy⟩:=nM (w.alloc (Z4 #[Z7 Z9 0] 3));rw [hy] at I Q ⊢;have C:bW w1 (w1.alloc (Z4 #[.slice d os.length c] 144)):=bA w1 _;have z:(w1.alloc (Z4 #[.slice d os.length c] 144)).cell? ⟨w1.heap.size,0,ZY⟩=ZX (.slice d os.length c):=(UH w1 _ _).cell;have N:(w1.alloc (Z4 #[.slice d os.length c] 144)).heap.size=w1.heap.size+1:=by simp
 obtain ⟨w2,hz⟩:=nM (w1.alloc (Z4 #[.slice d os.length c] 144));rw [hz] at C z N ⊢;obtain ⟨g,r,y⟩:=I.o;have B:bW w w2:=g.trans (C.mono g.size);have V:RmI w w2.heap.size [] w2:=⟨(C.block _ (by omega)).trans r,B,TY _⟩;have Z:fa (λk=>k<w.heap.size) w2 (.slice d os.length c) os:=H.o.2.2.2.keep (eN.RU B);have hs:=pV (λk=>k<w.heap.size) (n-1) w1.heap.size _ os w2 (by omega) z Z;have O:=aE V hs B;have T:w1.heap.size=w.heap.size+1:=y;have U:w2.heap.size=w.heap.size+2:=by omega
 have HZ:=al T U;clear V hs B Z g r y C z N hz hy Q T U I P;gi_wp2;obtain ⟨kc,N⟩:=HZ.o;refine Wp rfl (by have:=HN.o;omega) (gf:=144) (lb:=#[Z6 (ZX ⟨w1.heap.size,0,ZY⟩)]) rfl trivial (VC func144 (by kernel_rfl) rfl)
  O.o.2.1 (λh k=>h.trans k) (λW l o o' hl _ _ _=>⟨by simp [World.putObj],λk _ E=>U6 (by omega)⟩) (T6 _ _) (λ_=>rfl)
  (RmI w w2.heap.size) (λ_ _ _=>False) (RmI.Th (by omega)) (λ_ _ _ _ _ h _ _=>h.elim) O.o.1
  (λx=>{ tmps:=#[Z6 (ZX ⟨ar,0,ZY⟩),Z7 Z9 (count:Nat),Z7 Z9 (pages:Nat),ZZ,ZZ,ZZ,Z2 ZV,Z6 (ZX ⟨w.heap.size,0,ZY⟩),Z6 (ZX ⟨ar,0,ZY⟩),Z6 (ZX ⟨ar,0,ZY⟩),Z6 (ZX ⟨ar,8,ZY⟩),.slice d os.length c,.func (.func 144) #[] #[Z6 (ZX ⟨w1.heap.size,0,ZY⟩)],Z7 Z9 (x:Nat),ZZ,ZZ,ZZ,ZZ,ZZ,ZZ,ZZ,ZZ,ZZ,ZZ,ZZ,ZZ,ZZ,ZZ,ZZ],defers:=[] }) ?assign ?body ?done ?stop
 case assign=>
  intro l2 x X Kk hK;unfold pA;gi_wp2;simpa using hK
 case body=>
  rintro l2 pre x X b S;have c1:=b.box.cell;have f1:=b.box.frozen;obtain ⟨pl,s⟩:=nM (pre.length);rw [s] at c1 S;have k9:pl<=1000000:=by omega
  have i:=al b s;clear b s S hv hol;gi_wp2;obtain ⟨b,s⟩:=i.o;have h6:((pre++[x]).length:Nat)=pl+1:=by rw [Uc,s];rfl
  have hr:∀ k,k≠w.heap.size->(X.setCell ⟨w.heap.size,0,ZY⟩ (Z7 Z9 ((pl:Int)+1))).heap[k]?=X.heap[k]?:=λk E=>Uj _ _ _ _ E;refine ⟨⟨by simp [World.setCell],λk o E ho _=>?_⟩,⟨by simp [World.setCell],λk E hK=>?_⟩,?_,?_,?_⟩
  . exact (hr k (by omega)).trans ho
  . exact hr k (by omega)
  . rw [h6];exact b.box.set _
  . exact Xr (p:=⟨w.heap.size,0,ZY⟩) b.below lR _
  . have:=b.size;simp [World.setCell];omega
 case done=>
  rintro D1 xs X k6 k0 b hK;have hj:xs=ah os:=k0;subst hj;have c1:=b.box.cell;obtain ⟨xl,M⟩:=nM ((ah os).length);rw [M] at c1 hv;have HL:=ak M;clear M;have q:=b.below;obtain ⟨j,m,h,u⟩:=H.o;have cX:=(q.cell (p:=⟨ar,0,ZY⟩) j.lt).trans c0;have R:∀ W,bW w W->ZR ZN 163 #[Z6 (ZX ⟨v,0,ZY⟩)] W λe w'=>e=Z3 (Z7 Z9 A.nb)/\w'=W:=λW Y=>jw (m.keep (Y.block _ m.lt)) (h.below Y lR) hn;have i:=a5 b hK R q;obtain ⟨nb,J⟩:=nM (A.nb);have k8:=h.SD.2;rw [J] at i k8;have k5:=ak J;clear J;clear b hK k0 R q j m h u c0;gi_wp2;have k1:IntKind.i64.wrap ((xl:Int)+(count:Int))=(xl:Int)+(count:Int):=by rw [UF];omega
  have k2:IntKind.i64.wrap (2*(pages:Int))=2*(pages:Int):=by rw [UF];omega
  have k3:IntKind.i64.wrap ((xl:Int)+(count:Int)+2*(pages:Int))=(xl:Int)+(count:Int)+2*(pages:Int):=by rw [UF];omega
  have k4:IntKind.i64.wrap ((nb:Int)-2)=(nb:Int)-2:=by rw [UF];omega
  refine wpIn_region_quiet_lit rfl (by kernel_rfl) (by kernel_rfl) ?_;repeat (quiet_step_in (fail))
  refine wpQuietIn_step (by go_simp;intros;trivial) (λK hK=>?_);go_simp;refine ⟨Z7 Z9 (nb:Nat),λa=>⟨λh=>(by cases h),CallsIn.quiet_of_same (Vj.2 (i.o.2.2.1 _ (i.o.2.2.2.trans ⟨rfl,rfl,rfl,TY _,λ_ _=>rfl⟩)))⟩,hK _ ?_⟩;clear hK K;repeat (quiet_step_in (fail))
  refine wpQuietIn_nil ?_;intro _ kb;obtain ⟨nq,rfl⟩:=kb;gi_wp2;obtain ⟨b,hK,_,q⟩:=i.o;have hq:(X.drewN nq).heap[D1]?=ZX (.deferred (ZX [])):=hK;have k7:bW w (X.drewN nq):=q.trans ⟨rfl,rfl,rfl,TY _,λ_ _=>rfl⟩;refine GE (t:=6) (x:=Z2 (decide ((xl:Int)+(count:Int)+2*(pages:Int)<=(nb:Int)-2))) results127 rfl rfl hq ⟨?_,?_⟩
  . rw [HL.o,k5.out];congr 2;exact decide_eq_decide.2 ⟨λh=>by omega,λh=>by omega⟩
  . exact Below.RY k7 (by omega) (T5.1 hq).1 _
 case stop=>
  rintro D1 z pre X k6 ka hx hK;exact hx.elim
end
structure LR (lo hi:Nat) (a a':Act):Prop where
 size:a'.tmps.size=a.tmps.size
 defers:a'.defers=a.defers
 slot:∀ s,s<lo\/hi<=s->a'.eval (.tmp s)=a.eval (.tmp s)
def LS (p q:Nat) (w w1 w2:ZU) (Dn:Nat->Bool) (w':ZU):Prop:=w'=if Dn p=ZW then (if Dn q=ZW then w2 else w1) else w.drew
def GH (h:LS p q w w1 w2 Dn w') (i:Nat) (a:p≠i) (b:q≠i):LS p q w w1 w2 (mq Dn i) w':=by unfold LS;rw [gQ a,gQ b];exact h
def CA (h:LS p q w w1 w2 Dn w') (a:Dn p=ZV):w'=w.drew:=by
 unfold LS at h;rwa [TW (by rw [a];decide)] at h
def EX {o:Nat} {m:Nat->Nat} (h:w.there b o 16):(Instr.storeAt 287 (Z6 (ZX ⟨b,o,ZY⟩)) (.agg (fJ m).toArray)).run ZN w=.ok () (w.setCells b o (fJ m)):=ab7 (P:=ZN) w b o 287 (fJ m).toArray (by simpa [jH] using h) (by simpa using Tryz.So _) (K8 _)
theorem LR.split {hi:Nat} (b:LR lo hi a a') (o:lo<=hi) (p:hi<=a.tmps.size) :
 ∃ l:List ZT,l.length=hi-lo/\a'={ tmps:=(a.tmps.toList.take lo++(l++a.tmps.toList.drop hi)).toArray,defers:=a.defers }:=by
 have d:∀ (x:Act) (s:Nat),s<x.tmps.size->x.tmps[s]?=ZX (x.eval (.tmp s)):=λx s f=>by
  simp [Act.eval,Vq,f]
 refine ⟨(a'.tmps.toList.drop lo).take (hi-lo),?_,?_⟩
 . have:=b.size;simp;omega
 . obtain ⟨t',n⟩:=a';have f:=b.size;have h:=b.defers;simp only at f h;subst h;congr 1;apply Array.ext_getElem?;intro i;simp only [Xl,List.getElem?_append,Yb,Wg,Us,Ur,Wv,abE];by_cases c1:i<lo
   . rw [TX (by omega),TX c1];have e:=b.slot i (.inl c1);have c:=d ⟨t',a.defers⟩ i (by show i<t'.size;omega);have g:=d a i (by omega);simp only at c;rw [c,g,e]
   . by_cases m:i<hi
     . rw [TW (by omega),TX (by omega),TX (by omega),show lo+(i-min lo a.tmps.size)=i by omega]
     . rw [TW (by omega),TW (by omega)];have k:hi+(i-min lo a.tmps.size-min (hi-lo) (t'.size-lo))=i:=(by omega);rw [k];by_cases j:i<a.tmps.size
       . have e:=b.slot i (.inr (by omega));have c:=d ⟨t',a.defers⟩ i (by show i<t'.size;omega);have g:=d a i j;simp only at c;rw [c,g,e]
       . rw [Xo (by omega),Xo (by omega)]
def aaD {l:List ZT} (h:l.length=9):∃ u0 u1 u2 u3 u4 u5 u6 u7 u8,l=[u0,u1,u2,u3,u4,u5,u6,u7,u8]:=by
 match l,h with
 | [u0,u1,u2,u3,u4,u5,u6,u7,u8],_=>exact ⟨u0,u1,u2,u3,u4,u5,u6,u7,u8,rfl⟩
theorem CB (b i:Nat) (C:Ck) (w:ZU) (p:aF w b C) (q:eF C) (B:i<16) :
 ZR ZN 230 #[Z6 (ZX ⟨b,0,ZY⟩),Z7 Z9 i] w λe w'=>
  (iH C i=ZY/\e=Z3 (Z2 ZV)/\w'=w)\/(∃ C',iH C i=ZX C'/\e=Z3 (Z2 ZW)/\aF w' b C'/\w.grownBy w' (ZX b)):=by
 go_enter func230,ntmps230;go_wp2_with fail;refine (xw b i C w p q B).mono ?_;rintro e w1 ⟨rfl,G⟩;subst G;cases h2:ew C i with
 | none=>
  have h:cJ (iH C i=ZY):=ak (by unfold iH;rw [h2];rfl);simp only [spV];clear h2;go_wp2;go_ret;exact .inl ⟨h.o,rfl,rfl⟩
 | some r=>
  obtain ⟨K,L,M⟩:=ia h2;have h:cJ (iH C i=ZX (ig C i r)):=ak (by unfold iH;rw [h2];rfl);have J:=q.Sl;simp only [spV];clear h2;go_wp2_with fail;refine (xC b r i C _ p q (by omega) B).mono ?_;rintro e w2 ⟨rfl,f,y⟩;have u:=f.Sy;have E:=f.frozen 129;have x:(ll C C.count r i).count=C.count:=rfl;rw [x] at u;have c:=xD f (C.count-1);have a:=eL y 129 (Z7 Z9 ((C.count-1:Nat):Int));have F:IntKind.i64.wrap ((C.count:Int)-1)=((C.count-1:Nat):Int):=by rw [UF];omega
  obtain ⟨g,z⟩:=nM (w2.setCell ⟨b,129,ZY⟩ (Z7 Z9 ((C.count-1:Nat):Int)));rw [z] at c a;have j:=c.Sy;have s:=ak (rX (show aF g.drew b _ from c) r (by omega) ((ll C C.count r i).m (C.count-1)));have v:cJ (w1.grownBy (g.drew.setCells b (r*16) (fJ ((ll C C.count r i).m (C.count-1)))) (ZX b)):=ak (od _ _ _ _ ⟨a.os,a.tape,a.output,a.size,a.block⟩);have k:=ak (show aF g.drew b _ from c);clear f y c a p;go_wp2;clear z u E F x;obtain ⟨t,D⟩:=nM (C.count-1);have l:=rY k.out (C.count-1) (by omega);have n:=EX (m:=(ll C C.count r i).m (C.count-1)) (tz k.out r (by omega));simp only [D] at j l n ⊢;have k1:(r:Int)<8:=by omega
  have k2:(t:Int)<8:=by omega
  refine ga 14 [(0,ZW),(1,ZW),(2,ZW),(3,ZW),(4,ZW),(5,ZW),(6,ZW),(7,ZW),(8,ZW),(9,ZW),(10,ZW),(11,ZW),(12,ZW),(13,ZW),(14,ZV)] (λw'=>w'.cell? ⟨b,129,ZY⟩=ZX (Z7 Z9 (t:Int))/\(Instr.loadAt 287 (Z6 (ZX ⟨b,t*16,ZY⟩))).run ZN w'=.ok (.agg (fJ ((ll C C.count r i).m t)).toArray) w') (by kernel_rfl) (by kernel_rfl) ⟨j,l⟩ ?_;iterate 10 (refine aZ rfl rfl ?_;apply YG;refine ⟨λw' d=>?_,?_⟩;(obtain ⟨H,I⟩:=d;first|(go_simp;done)|(go_simp;exact rfl));simp only [Act.put,Ug,Uf,Uh])
  refine aZ rfl rfl ⟨_,λw' d=>by simp [execOp,Act.eval,d.2];rfl,?_⟩;simp only [Act.put,Ug,Uf,Uh];iterate 3 (refine aZ rfl rfl ?_;apply YG;refine ⟨λw' d=>?_,?_⟩;(obtain ⟨H,I⟩:=d;first|(go_simp;done)|(go_simp;exact rfl));simp only [Act.put,Ug,Uf,Uh])
  refine nS rfl rfl (by simp [execOp,Act.eval,n];rfl) (absurd rfl) (gS ?_);simp only [Act.put];subst D;clear l n k1 k2 k j;obtain ⟨N,A⟩:=nM (g.drew.setCells b (r*16) (fJ ((ll C C.count r i).m (C.count-1))));rw [A] at s v ⊢;clear A;go_wp2;go_ret;exact .inr ⟨_,h.o,rfl,s.o,v.out⟩
theorem LU (m:Nat->Nat->Nat) (t r:Nat):rC (rC m t (m r)) r (m t)=dG m t r:=by
 funext k;unfold rC dG;by_cases b:k=r
 . rw [TX b];by_cases a:k=t
   . rw [TX a,<- b,<- a]
   . rw [TW a,TX b]
 . rw [TW b];by_cases a:k=t
   . rw [TX a,TX a]
   . rw [TW a,TW a,TW b]
theorem ui (b i:Nat) (C:Ck) (w:ZU) (f:aF w b C) (c:eF C) (u:i<16) :
 ZR ZN 210 #[Z6 (ZX ⟨b,0,ZY⟩),Z7 Z9 i] w λe w'=>
  (ph C i=ZY/\e=Z3 (Z2 ZV)/\w'=w)\/(∃ C',ph C i=ZX C'/\e=Z3 (Z2 ZW)/\aF w' b C'/\w.grownBy w' (ZX b)):=by
 go_enter func210,ntmps210;go_wp2_with fail;refine (xw b i C w f c u).mono ?_;rintro e w1 ⟨rfl,T⟩;subst T;cases h5:ew C i with
 | none=>
  have k:cJ (ph C i=ZY):=ak (by unfold ph;rw [h5];rfl);simp only [spV];clear h5;go_wp2;go_ret;exact .inl ⟨k.o,rfl,rfl⟩
 | some r=>
  obtain ⟨r1,r2,r3⟩:=ia h5;have k:cJ (ph C i=ZX (jk C i r)):=ak (by unfold ph;rw [h5];rfl);have hr:=c.Sl;simp only [spV];clear h5;have l:=f.Sd;have D:=rX (rX (show aF w1.drew b _ from f) C.told (by omega) (C.m r)) r (by omega) (C.m C.told);have A:(⟨rC (rC C.m C.told (C.m r)) r (C.m C.told),C.told,C.count⟩:Ck)=⟨dG C.m C.told r,C.told,C.count⟩:=by rw [LU]
  have E:aF ((w1.drew.setCells b (C.told*16) (fJ (C.m r))).setCells b (r*16) (fJ (C.m C.told))) b ⟨dG C.m C.told r,C.told,C.count⟩:=by rw [<- A];exact D
  have H:w1.grownBy ((w1.drew.setCells b (C.told*16) (fJ (C.m r))).setCells b (r*16) (fJ (C.m C.told))) (ZX b):=
   od _ _ _ _ (od _ _ _ _ ⟨rfl,rfl,rfl,TY _,λ_ _ _=>rfl⟩)
  have g:=ak E;have p:=ak H;have d:=ak (show aF w1.drew b C from f);clear D A E H f;go_wp2;have h:=rX d.out C.told (by omega) (C.m r);have s:=rY d.out r (by omega);have O:=rY d.out C.told (by omega);have t:=rY h r (by omega);have B:rC C.m C.told (C.m r) r=C.m r:=by unfold rC;split<;>rfl
  simp only [B] at t;have P:=EX (m:=C.m r) (tz d.out C.told (by omega));have Q:=EX (m:=C.m C.told) (tz h r (by omega));have k1:(r:Int)<8:=by omega
  have k2:(C.told:Int)<8:=by omega
  refine ga 29 [(0,ZW),(1,ZW),(2,ZW),(3,ZW),(4,ZW),(5,ZW),(6,ZW),(7,ZW),(8,ZW),(9,ZW),(10,ZW),(11,ZW),(12,ZW),(13,ZW),(14,ZW),(15,ZW),(16,ZW),(17,ZW),(18,ZW),(19,ZW),(20,ZW),(22,ZW),(23,ZW),(26,ZW),(27,ZW),(21,ZV),(24,ZW),(25,ZV),(28,ZW),(29,ZV)] (λw'=>w'.cell? ⟨b,128,ZY⟩=ZX (Z7 Z9 (C.told:Int))/\(Instr.loadAt 287 (Z6 (ZX ⟨b,r*16,ZY⟩))).run ZN w'=.ok (.agg (fJ (C.m r)).toArray) w') (by kernel_rfl) (by kernel_rfl) ⟨d.out.Sd,s⟩ ?_;iterate 12 (refine aZ rfl rfl ?_;apply YG;refine ⟨λw' a=>?_,?_⟩;(obtain ⟨x,y⟩:=a;first|(go_simp;done)|(go_simp;exact rfl));simp only [Act.put,Ug,Uf,Uh])
  refine aZ rfl rfl ⟨_,λw' a=>by simp [execOp,Act.eval,a.2];rfl,?_⟩;simp only [Act.put,Ug,Uf,Uh];iterate 12 (refine aZ rfl rfl ?_;apply YG;refine ⟨λw' a=>?_,?_⟩;(obtain ⟨x,y⟩:=a;first|(go_simp;done)|(go_simp;exact rfl));simp only [Act.put,Ug,Uf,Uh])
  refine td (v:=.agg (fJ (C.m C.told)).toArray) (w1:=w1.drew) rfl rfl (by simp [execOp,Act.eval,O]) (λ_=>⟨d.out.Sd,s⟩) ?_;simp only [Act.put,Ug,Uf,Uh];refine aZ rfl rfl ?_;apply YG;refine ⟨λw' a=>?_,?_⟩;(obtain ⟨x,y⟩:=a;first|(go_simp;done)|(go_simp;exact rfl));simp only [Act.put,Ug,Uf,Uh];refine nS rfl rfl (by simp [execOp,Act.eval,P]) (λ_=>⟨h.Sd,t⟩) ?_;simp only [Act.put,Ug,Uf,Uh];refine aZ rfl rfl ?_;apply YG;refine ⟨λw' a=>?_,?_⟩;(obtain ⟨x,y⟩:=a;first|(go_simp;done)|(go_simp;exact rfl));simp only [Act.put,Ug,Uf,Uh];refine nS rfl rfl (by simp [execOp,Act.eval,Q];rfl) (absurd rfl) (gS ?_);simp only [Act.put];clear h s O t B P Q k1 k2 d;obtain ⟨w2,R⟩:=nM ((w1.drew.setCells b (C.told*16) (fJ (C.m r))).setCells b (r*16) (fJ (C.m C.told)));rw [R] at g p ⊢;clear R l;have l:=g.out.Sd;have W:eF ⟨dG C.m C.told r,C.told,C.count⟩:=⟨jC c.byt,c.le,c.Sl⟩;go_wp2_with fail;refine (BC b C.told i _ _ g.out W (by omega) u).mono ?_;rintro e w3 ⟨rfl,q,L⟩;have X:eF ⟨eO (dG C.m C.told r) C.told i,C.told,C.count⟩:=⟨sL (jC c.byt),c.le,c.Sl⟩;have F:=gH p.out L;have n:=q.Sd;have I:=ak q;have J:=ak F;clear q L F l g p;go_wp2_with fail;refine (xC b C.told i _ _ I.out X (by omega) u).mono ?_;rintro e Y ⟨rfl,j,M⟩;have G:=gH J.out M;have K:=K9 j (C.told+1);have N:=eL G 128 (Z7 Z9 ((C.told+1:Nat):Int));have z:=j.Sd;have Z:=j.frozen 128;have S:Y.cell? ⟨b,128,ZY⟩=ZX (Z7 Z9 (C.told:Int)):=z;have k7:wrap64 ((C.told:Int)+1)=((C.told+1:Nat):Int):=by unfold wrap64;omega
  have k6:IntKind.i64.wrap ((C.told:Int)+1)=((C.told+1:Nat):Int):=by rw [UF];omega
  have U:=ak K;have V:=ak N;clear j M G K N z n I J;go_wp2;go_ret;exact .inr ⟨_,k.o,rfl,U.out,V.out⟩
def aU (C:Ck):Array ZT:=((YF 130).map (nG C)).toArray
def b9 (C:Ck):(aU C).size=130:=by unfold aU;rw [UL,Ud,UM]
def Ah (C:Ck) (i:Nat) (a:i<130):(aU C)[i]?=ZX (nG C i):=by
 unfold aU;rw [Xl,UE,VU a];rfl
def Tryz.infoCk:(ZN.info? 332).map (λi=>i.size)=ZX 130:=by kernel_rfl
def dZ (C:Ck):(ZN.info? 332).map (λi=>i.size)=ZX (aU C).size:=by rw [b9];exact Tryz.infoCk
theorem Ou (C:Ck) (i:Nat):(nG C i).oneCell'=ZW:=by
 unfold nG;split
 . rfl
 . split<;>rfl
def mz (C:Ck):(aU C).all (λv=>v.oneCell')=ZW:=by
 rw [X6];intro i a;have:=Ah C i (by rw [<- b9 C];exact a);rw [VP a] at this;rw [UQ this];exact Ou C i
theorem aF.heap (h:aF w b C):w.heap[b]?=ZX (Z4 (aU C) 332 (0,0)):=by
 obtain ⟨c,j,l,k⟩:=h;have e:c=aU C:=by
  apply Array.ext
  . rw [l,b9]
  . intro i f g;have a:=k i (by omega);have d:=Ah C i (by omega);rw [VP f] at a;rw [VP g] at d;rw [UQ a,UQ d]
 rw [<- e];exact j
def aF.of_heap (h:w.heap[b]?=ZX (Z4 (aU C) 332 (0,0))):aF w b C:=⟨_,h,b9 C,λi a=>Ah C i a⟩
def aF.new (w:ZU) (C:Ck):aF (w.alloc (Z4 (aU C) 332)) w.heap.size C:=aF.of_heap (X2 w _)
def aF.lt (h:aF w b C):b<w.heap.size:=(T5.1 h.heap).1
def aF.keep (h:aF w b C) (e:w'.heap[b]?=w.heap[b]?):aF w' b C:=aF.of_heap (e.trans h.heap)
def aF.setRow (C:Ck) (h:aF w b C'):aF (w.setRow b (aU C)) b C:=aF.of_heap (Vy w b (aU C') (aU C) _ _ h.heap)
def aN (w:ZU) (b:Nat) (cs:Array ZT):w.grownBy (w.setRow b cs) (ZX b):=
 ⟨rfl,rfl,rfl,by simp,λk _ a=>by
  have:b≠k:=λe=>a (by rw [e]);simp [World.setRow,Vw,this]⟩
def mB (h:aF w b C):(Instr.loadAt 332 (Z6 (ZX ⟨b,0,ZY⟩))).run ZN w=.ok (.agg (aU C)) w:=by
 simp only [Instr.loadAt,Instr.sureAddr,Ux,Vf,UK,W9 w b 332 332 (aU C) (0,0) _ h.heap XM rfl (dZ C)]
def nA (C:Ck) (h:aF w b C'):(Instr.storeAt 332 (Z6 (ZX ⟨b,0,ZY⟩)) (.agg (aU C))).run ZN w=.ok () (w.setRow b (aU C)):=by
 simp only [Instr.storeAt,Instr.sureAddr,Ux,Vf,UK,XY w b 332 332 (aU C') (aU C) h.heap (dZ C) (by rw [b9,b9]) (mz C)]
def kS (f:o.guard=ZY) (x:ZO) (ho:o.op=.load 332 x) (b:Nat) (C:Ck)
 (g:a.eval x=Z6 (ZX ⟨b,0,ZY⟩)) (e:aF w b C) (h:wpListIn F n ZN ops Q rest (a.put o.dst (.agg (aU C))) w):wpListIn F n ZN ops Q (o::rest) a w:=by
 refine Yh f λK hK=>?_;unfold Oper.wpIn;refine ⟨by simp [Oper.about,ho],?_⟩;rw [VE F _ _ (by rw [ho];intro c d;cases d)];simp [execOp,ho,g,mB e,Result.andThen];exact hK _ _ h
def jL (f:o.guard=ZY) (x y:ZO) (ho:o.op=.store 332 x y) (b:Nat) (C C':Ck)
 (g:a.eval x=Z6 (ZX ⟨b,0,ZY⟩)) (i:a.eval y=.agg (aU C)) (e:aF w b C') (h:wpListIn F n ZN ops Q rest (a.put o.dst ZZ) (w.setRow b (aU C))):wpListIn F n ZN ops Q (o::rest) a w:=by
 refine Yh f λK hK=>?_;unfold Oper.wpIn;refine ⟨by simp [Oper.about,ho],?_⟩;rw [VE F _ _ (by rw [ho];intro c d;cases d)];simp [execOp,ho,g,i,nA C e,Result.andThen];exact hK _ _ h
def dU:Ck:=⟨λ_ _=>0,0,0⟩
def Tryz.zeroCk:(ZN.info? 332).map (λi=>(i.zero,i.size,i.bytes))=ZX (ZX (.agg (aU dU)),130,144):=by kernel_rfl
def zeroCk (w:ZU):(zeroValue 332).run ZN w=.ok (.agg (aU dU)) w:=by
 obtain ⟨c,a,b,_,_⟩:=Uu Tryz.zeroCk;simp [zeroValue,typeInfo,Ux,a,b]
def aF.mono (h:aF w b C) (c:ZS B w w') (a:b<B):aF w' b C:=h.keep (c.block b a)
def Ka:Code->Nat->Option (Array ZQ)
 | .region i ops _,n=>if i=n then ZX ops else ZY
 | .seq a b,n=>(Ka a n).orElse λ_=>Ka b n
 | .cond _ a b,n=>(Ka a n).orElse λ_=>Ka b n
 | .block _ a,n=>Ka a n
 | .loop a,n=>Ka a n
 | .scope a,n=>Ka a n
 | .rangeFunc _ _ a b,n=>(Ka a n).orElse λ_=>Ka b n
 | _,_=>ZY
noncomputable def aaE:Array ZQ:=((Tryz.f229.body.bind (Ka · 8))).getD #[]
def CC:List (Op×Option Nat×a8):=[(.load 332 (Z1 12),ZX 28,[]),(.load 133 (Z1 6),ZX 29,[]),(.move (Z1 11),ZX 30,[]),
 (.call { callee:=.value (.func 231),args:=#[Z1 29,Z1 30],argTypes:=#[133,3] },ZX 31,[1,2]),(.load 3 (Z1 7),ZX 32,[]),(.load 201 (Z1 8),ZX 33,[]),(.load 350 (Z1 9),ZX 34,[]),
 (.call { callee:=.value (.func 229),args:=#[Z1 28,Z1 31,Z1 32,Z1 33,Z1 34],argTypes:=#[332,133,3,201,350] },ZX 35,[0,3,4,5,6,3]),(.unOp .not 4 (Z1 35),ZX 36,[7])]
def EY:bF aaE 28 37 CC:=eU (by kernel_rfl) (by kernel_rfl)
def EZ (w:ZU) (R:ZU->Prop) (Dn:Nat->Bool) (w':ZU):Prop:=if Dn 7=ZW then R w' else w'=w.drew
def gM {R:ZU->Prop} (h:EZ w R Dn w') (i:Nat) (a:7≠i):EZ w R (mq Dn i) w':=by unfold EZ;rw [gQ a];exact h
def mD {R:ZU->Prop} (h:EZ w R Dn w') {j:Nat} (e:j<8) (a:Dn j=ZV) (b:∀ j,Dn j=ZW->j<CC.length/\∀ k∈(dV CC j).2.2,Dn k=ZW):w'=w.drew:=by
 unfold EZ at h;cases q:Dn 7 with
 | false=>rw [q] at h;exact h
 | true=>
  have c:=(b 7 q).2;have d:=(b 3 (c 3 (by decide))).2;exfalso;match j,e with
  | 0,_|3,_|4,_|5,_|6,_=>exact nomatch a.symm.trans (c _ (by decide))
  | 1,_|2,_=>exact nomatch a.symm.trans (d _ (by decide))
  | 7,_=>exact nomatch a.symm.trans q
theorem E0 (B E F G H i of q:Nat) (C:Ck) (z A:ZT) (R:ZU->Prop) (U:aaE=ops)
 (sz:a.tmps.size=39) (V:i<16) (T:of<65536) (i12:a.eval (Z1 12)=Z6 (ZX ⟨B,0,ZY⟩)) (Y:a.eval (Z1 6)=Z6 (ZX ⟨E,0,ZY⟩)) (i11:a.eval (Z1 11)=Z7 Z9 (i:Int)) (Z:a.eval (Z1 7)=Z6 (ZX ⟨F,0,ZY⟩)) (i8:a.eval (Z1 8)=Z6 (ZX ⟨G,0,ZY⟩)) (i9:a.eval (Z1 9)=Z6 (ZX ⟨H,0,ZY⟩))
 (S:aF w.drew B C) (c6:w.drew.cell? ⟨E,0,ZY⟩=ZX (Z7 Z8 (of:Int))) (c7:w.drew.cell? ⟨F,0,ZY⟩=ZX (Z7 Z9 (q:Int))) (c8:w.drew.cell? ⟨G,0,ZY⟩=ZX z) (c9:w.drew.cell? ⟨H,0,ZY⟩=ZX A)
 (P:∀ m,CallsIn Fence.wide m ZN 229 #[.agg (aU C),Z7 Z8 (bJ of i:Nat),Z7 Z9 (q:Int),z,A] w.drew λe r=>e=Z3 (Z2 ZW)/\R r)
 (h:∀ a' r,LR 28 37 a a'->a'.eval (Z1 36)=Z2 ZV->R r->Q .normal a' r):(Code.region 8 ops ZW).wpIn (Fence.wide.inRound l) n ZN Q a w:=by
 subst U;refine js (by kernel_rfl) EY a w (by omega) (λj u _=>u=([.agg (aU C),Z7 Z8 (of:Int),Z7 Z9 (i:Int),Z7 Z8 (bJ of i:Nat),Z7 Z9 (q:Int),z,A,Z2 ZW,Z2 ZV]:List ZT).getD j ZZ) (EZ w R) rfl ?_ ?_
 . intro j W;match j,W with
   | 0,_=>
    intro o a' w' Dn x ho k g s t p b d;obtain rfl:=mD b (by decide) s t;exact iu (by (conv at ho=>rhs;whnf);simp [execOp,ho,(g.slot 12 (by omega)).trans i12,mB S,Result.andThen]) (by rw [ho];intro c h;cases h) k ⟨gM b _ (by decide),rfl,kq⟩
   | 1,_=>
    intro o a' w' Dn x ho k g s t p b d;obtain rfl:=mD b (by decide) s t;exact iu (v:=Z7 Z8 (of:Int)) (by (conv at ho=>rhs;whnf);simp only [execOp,ho,(g.slot 6 (by omega)).trans Y];go_simp) (by rw [ho];intro c h;cases h) k ⟨gM b _ (by decide),rfl,kq⟩
   | 2,_=>exact λo a' w' Dn x ho k g s t p b d=>iu (bT ho ((g.slot 11 (by omega)).trans i11) w') (by rw [ho];intro c h;cases h) k ⟨gM b _ (by decide),rfl,kq⟩
   | 3,_=>
    intro o a' w' Dn x ho k g s t p b d;have y:a'.eval (Z1 29)=Z7 Z8 (of:Int):=d 1 (p 1 (by decide));have I:a'.eval (Z1 30)=Z7 Z9 (i:Int):=d 2 (p 2 (by decide));refine Cb (f:=231) (args:=#[Z7 Z8 (of:Int),Z7 Z9 (i:Int)]) (w1:=w') (by have D:a'.eval (.func 231)=.func (.func 231) #[] #[]:=rfl;generalize a'.eval=N at y I D ⊢;(conv at ho=>rhs;whnf);simp [execOp,ho,CC,resolve,invoke,y,I,D,go_sem]) (by rw [ho];intro c h;cases h) k (Ef of i T V _) ?_;rintro e r ⟨rfl,rfl⟩;exact ⟨_,rfl,gM b _ (by decide),rfl,kq⟩
   | 4,_=>
    intro o a' w' Dn x ho k g s t p b d;obtain rfl:=mD b (by decide) s t;exact iu (v:=Z7 Z9 (q:Int)) (by (conv at ho=>rhs;whnf);simp only [execOp,ho,(g.slot 7 (by omega)).trans Z];go_simp) (by rw [ho];intro c h;cases h) k ⟨gM b _ (by decide),rfl,kq⟩
   | 5,_=>
    intro o a' w' Dn x ho k g s t p b d;obtain rfl:=mD b (by decide) s t;exact iu (v:=z) (by (conv at ho=>rhs;whnf);simp only [execOp,ho,(g.slot 8 (by omega)).trans i8];go_simp) (by rw [ho];intro c h;cases h) k ⟨gM b _ (by decide),rfl,kq⟩
   | 6,_=>
    intro o a' w' Dn x ho k g s t p b d;obtain rfl:=mD b (by decide) s t;exact iu (v:=A) (by (conv at ho=>rhs;whnf);simp only [execOp,ho,(g.slot 9 (by omega)).trans i9];go_simp) (by rw [ho];intro c h;cases h) k ⟨gM b _ (by decide),rfl,kq⟩
   | 7,_=>
    intro o a' w' Dn x ho k g s t p b d;obtain rfl:=mD b (by decide) s t;have y:a'.eval (Z1 28)=.agg (aU C):=d 0 (p 0 (by decide));have J:a'.eval (Z1 31)=Z7 Z8 (bJ of i:Nat):=d 3 (p 3 (by decide));have K:a'.eval (Z1 32)=Z7 Z9 (q:Int):=d 4 (p 4 (by decide));have L:a'.eval (Z1 33)=z:=d 5 (p 5 (by decide));have M:a'.eval (Z1 34)=A:=d 6 (p 6 (by decide));refine Cb (f:=229) (args:=#[.agg (aU C),Z7 Z8 (bJ of i:Nat),Z7 Z9 (q:Int),z,A]) (w1:=w.drew) (by have D:a'.eval (.func 229)=.func (.func 229) #[] #[]:=rfl;generalize a'.eval=N at y J K L M D ⊢;(conv at ho=>rhs;whnf);simp [execOp,ho,CC,resolve,invoke,y,J,K,L,M,D,go_sem]) (by rw [ho];intro c h;cases h) k (Vj.1 (P 0)) ?_;rintro e r ⟨rfl,X⟩;exact ⟨_,rfl,(show R r from X),rfl,kq⟩
   | 8,_=>
    intro o a' w' Dn x ho k g s t p b d;have y:a'.eval (Z1 35)=Z2 ZW:=d 7 (p 7 (by decide));exact iu (v:=Z2 ZV) (by (conv at ho=>rhs;whnf);simp only [execOp,ho,y];go_simp) (by rw [ho];intro c h;cases h) k ⟨gM b _ (by decide),rfl,kq⟩
 . rintro a' w' g _ ⟨Dn,O,b⟩ d;unfold EZ at b;rw [O 7 (by decide),TX rfl] at b;exact h a' w' ⟨g.size,g.defers,g.slot⟩ (d 8 (by decide)) b
section
attribute [local go_sem] Oper.semAt_some
theorem xW (p least Bl:Nat) (w:ZU) (a:w.cell? ⟨Bl,0,ZY⟩=ZX (Z7 Z9 (least:Int))) :
 ZR ZN 225 #[Z7 Z9 p,Z6 (ZX ⟨Bl,0,ZY⟩)] w λe w'=>e=Z3 (Z2 (decide (p<least)))/\w'=w:=by
 go_enter func225,ntmps225;go_wp2;go_ret;exact ⟨by simp,rfl⟩
def fA (Bl:Nat):ZT:=.func (.func 225) #[] #[Z6 (ZX ⟨Bl,0,ZY⟩)]
def Bx (W:ZU) (B:Nat) (v:ZT):Prop:=∃ t,ZP W B t v
def Bx.cell {v:ZT} (h:Bx W B v):W.cell? ⟨B,0,ZY⟩=ZX v:=by obtain ⟨t,h⟩:=h;exact h.cell
def Bx.frozen {v:ZT} (h:Bx W B v):W.frozen? ⟨B,0,ZY⟩=ZV:=by obtain ⟨t,h⟩:=h;exact h.frozen
def Bx.lt {v:ZT} (h:Bx W B v):B<W.heap.size:=by obtain ⟨t,h⟩:=h;exact h.lt
def Bx.keep {v:ZT} (h:Bx W B v) (e:W'.heap[B]?=W.heap[B]?):Bx W' B v:=by obtain ⟨t,h⟩:=h;exact ⟨t,e.trans h⟩
def Bx.set {v:ZT} (h:Bx W B v) (a:ZT):Bx (W.setCell ⟨B,0,ZY⟩ a) B a:=by obtain ⟨t,h⟩:=h;exact ⟨t,h.set a⟩
def Bx.new (W:ZU) (t:TypeId) (v:ZT):Bx (W.alloc (Z4 #[v] t)) W.heap.size v:=⟨t,UH W t v⟩
def Bx.alloc {v:ZT} (h:Bx W B v) (o:Obj):Bx (W.alloc o) B v:=by obtain ⟨t,h⟩:=h;exact ⟨t,h.alloc o⟩
structure VB (W:ZU) (h:Nat) (C:Ck) (of q Bl l:Nat):Prop where
 ck:aF W h C
 set:Bx W (h+1) (Z7 Z8 (of:Int))
 pas:Bx W (h+1+1) (Z7 Z9 (q:Int))
 Sq:Bx W (h+1+1+1) (fA Bl)
 yld:Bx W (h+1+1+1+1) (.func (.yield l) #[] #[])
 res:Bx W (h+1+1+1+1+1) (Z2 ZV)
def VB.keep (v:VB W h C of q Bl l) (e:∀ k,h<=k->k<h+6->W'.heap[k]?=W.heap[k]?):VB W' h C of q Bl l:=
 ⟨v.ck.keep (e _ (by omega) (by omega)),v.set.keep (e _ (by omega) (by omega)),v.pas.keep (e _ (by omega) (by omega)),v.Sq.keep (e _ (by omega) (by omega)),v.yld.keep (e _ (by omega) (by omega)),v.res.keep (e _ (by omega) (by omega))⟩
def VB.passed (v:VB W h C of q Bl l) (a:Nat):VB (W.setCell ⟨h+1+1,0,ZY⟩ (Z7 Z9 (a:Int))) h C of a Bl l:=by
 have e:∀ k,k≠h+1+1->(W.setCell ⟨h+1+1,0,ZY⟩ (Z7 Z9 (a:Int))).heap[k]?=W.heap[k]?:=λk b=>Wj _ _ _ _ b;exact ⟨v.ck.keep (e _ (by omega)),v.set.keep (e _ (by omega)),v.pas.set _,v.Sq.keep (e _ (by omega)),v.yld.keep (e _ (by omega)),v.res.keep (e _ (by omega))⟩
def jg (K:a8) (d:Nat) (C:Ck) (of p:Nat) (s:cA) (pre:List Sh):Nat×cA×Bool:=(pre.map (·.1)).foldl (ik (zn K d) C of) (p,fw K s C,ZV)
def E1 (K:a8) (d:Nat) (C:Ck) (of p:Nat) (s:cA) (pre:List Sh) (x:Sh):jg K d C of p s (pre++[x])=ik (zn K d) C of (jg K d C of p s pre) x.1:=by
 unfold jg;rw [UD,Wq];rfl
def IR (h:pre.map (·.1)=ab of):(jg K d C of p s pre).2.1=iK K d C of p s:=by
 unfold jg;rw [h,pj]
def E4 (h:pre.map (·.1)<+:ab of) (e:(jg K d C of p s pre).2.2=ZW):(jg K d C of p s pre).2.1=iK K d C of p s:=by
 obtain ⟨R,c⟩:=h;rw [pj,<- c,Wq];show _=(R.foldl (ik (zn K d) C of) (jg K d C of p s pre)).2.1;obtain ⟨f,a⟩:∃ q sx,jg K d C of p s pre=(q,sx,ZW):=⟨_,_,by rw [<- e]⟩;obtain ⟨a,b⟩:=a;rw [b,wL]
def VI (K:a8) (d:Nat) (C:Ck) (of p:Nat) (s:cA) (W:ZU) (B n0 Bl l:Nat) (J:cA->ZU->Prop) (brk:Bool) (pre:List Sh) (X:ZU):Prop:=
 (jg K d C of p s pre).2.2=brk/\VB X W.heap.size C of (jg K d C of p s pre).1 Bl l/\J (jg K d C of p s pre).2.1 X/\bj n0 W X/\(jg K d C of p s pre).1<=p+pre.length/\B<=X.heap.size
def VI.own {brk:Bool} (f:∀ s A B,J s A->ZS n0 A B->J s B) (o:W.heap.size+6<=B) (t:n0<=W.heap.size) :
 OwnFrom B (VI K d C of p s W B n0 Bl l J brk):=by
 rintro pre X Y row ⟨g,h,i,b,j,q⟩ a n;have c:∀ k,k<W.heap.size+6->Y.heap[k]?=X.heap[k]?:=λk c=>a.block k (by omega) (λe=>by have:=(n k e.symm).1;omega);have:=a.size;refine ⟨g,h.keep (λk _ m=>c k m),f _ _ _ i ⟨a.os,a.tape,a.output,a.size,λk r=>c k (by omega)⟩,⟨a.os.trans b.os,a.tape.trans b.tape,a.output.trans b.output,by have:=b.size;omega,λk k1 k2=>(c k (by omega)).trans (b.block k k1 k2)⟩,j,by omega⟩
def VX (K:a8) (d:Nat) (C:Ck) (of p:Nat) (s:cA) (W:ZU) (B n0 Bl l:Nat) (J:cA->ZU->Prop) (c:Code) (pre:List Sh) (X:ZU):Prop:=c=.exit 0/\VI K d C of p s W B n0 Bl l J ZW pre X
def IS (h:¬ q<sx.2):ik rec C of (q,sx,ZV) i=(q,sx,ZW):=by unfold ik;simp [h]
def IT (h:q<sx.2) (hl:iH C i=ZY):ik rec C of (q,sx,ZV) i=(q,sx,ZV):=by unfold ik;simp [h,hl]
def Ov (h:q<sx.2) (hl:iH C i=ZX C'):ik rec C of (q,sx,ZV) i=(q+1,rec C' (bJ of i) q sx,ZV):=by unfold ik;simp [h,hl]
def kT (s:Nat):(shs s).length=(ab s).length:=by rw [<- N2 s,Ud]
def pW (s:Nat):(shs s).length<=16:=by
 rw [kT];exact TZ (WM _ _) (by simp)
theorem IU (q:Nat) (h:q<=100000):wrap64 ((q:Int)+1)=((q+1:Nat):Int)/\IntKind.i64.wrap ((q:Int)+1)=((q+1:Nat):Int):=by
 constructor
 . unfold wrap64;omega
 . rw [UF];omega
theorem xX (b:∀ s A B,J s A->ZS n0 A B->J s B) (w:n0<=W.heap.size) (q:W.heap.size<=B) (r:W.heap.size<=D) (j:B≠D)
 (i:Bx X B (Z2 ZV)) (t:J s X) (o:bj n0 W X) (hK:X.heap[D]?=ZX (.deferred (ZX []))) (f:a.defers=[{ target:=.collected D,args:=#[] }]) (h5:a.eval (Z1 10)=Z6 (ZX ⟨B,0,ZY⟩)) (hT:a.tmps.size=39) :
 bodyPostM Fence.wide n ZN Tryz.f229 (λe W'=>e=Z3 (Z2 ZW)/\J s W'/\bj n0 W W') .ret a (X.setCell ⟨B,0,ZY⟩ (Z2 ZW)):=by
 have d:(X.setCell ⟨B,0,ZY⟩ (Z2 ZW)).heap[D]?=ZX (.deferred (ZX [])):=(V9 _ _ _).same D _ hK rfl;obtain ⟨g,u⟩:=a;simp only at f hT;subst f;refine ⟨by simp,.inl ⟨_,_,rfl,WE d,?_⟩⟩;have k:Bx (X.setCell ⟨B,0,ZY⟩ (Z2 ZW)) B (Z2 ZW):=i.set _;have l:Bx ((X.setCell ⟨B,0,ZY⟩ (Z2 ZW)).putObj D (.deferred ZY)) B (Z2 ZW):=k.keep (U6 (λe=>j e));have c:=l.cell;have m:=(T5.1 d).1;have h:g.getD 10 ZZ=Z6 (ZX ⟨B,0,ZY⟩):=h5;refine ⟨Z2 ZW,?_,rfl,b _ _ _ (b _ _ _ t ((T6 _ _).setCell (p:=⟨B,0,ZY⟩) (by show n0<=B;omega) _)) (Below.RY (T6 _ _) (by omega) m _),(o.setCell (p:=⟨B,0,ZY⟩) (.inr q) _).putObj (.inr r) _⟩;have v:g[10]'(by omega)=Z6 (ZX ⟨B,0,ZY⟩):=by rw [<- h];simp [hT]
 simp only [results,results229];go_simp
theorem uj (K:a8) (n0 Bl l:Nat) (J:cA->ZU->Prop) (u:∀ s A B,J s A->ZS n0 A B->J s B)
 (k7:∀ s A,J s A->A.cell? ⟨Bl,0,ZY⟩=ZX (Z7 Z9 (s.2:Int))/\n0<=A.heap.size/\aJ A) (qp:2<=n0)
 (hY:∀ m s C W1,J s W1->eF C->YieldAt Fence.wide m ZN l #[.agg (aU C)] W1 λe W'=>e=Z3 (Z2 ZW)/\J (fw K s C) W'/\bj n0 W1 W')
 (d m:Nat) (C:Ck) (of p:Nat) (s:cA) (W:ZU) (hf:eF C) (kk:of<65536) (hp:p+16<=100000) (hJ:J s W)
 (ko:∀ (m i:Nat) (C':Ck) (E p':Nat) (s':cA) (W':ZU),iH C i=ZX C'->E<65536->p'<=p+16->J s' W' ->
  CallsIn Fence.wide m ZN 229 #[.agg (aU C'),Z7 Z8 E,Z7 Z9 p',fA Bl,.func (.yield l) #[] #[]] W' λe I=>e=Z3 (Z2 ZW)/\J (zn K d C' E p' s') I/\bj n0 W' I) :
 CallsIn Fence.wide m ZN 229 #[.agg (aU C),Z7 Z8 of,Z7 Z9 p,fA Bl,.func (.yield l) #[] #[]] W λe W'=>e=Z3 (Z2 ZW)/\J (iK K d C of p s) W'/\bj n0 W W':=by
 obtain ⟨_,S,_⟩:=k7 s W hJ;obtain ⟨n,HN⟩:∃ n:Nat,cJ (5<=n):=⟨5,TY _⟩;refine Vj.2 ((Vj (n:=n)).1 ?_);refine Wo func229 rfl trivial ?_ rfl;simp only [ntmps229,UL,UG,U0,YH,YI,Vr,Vs,Vt,Vu,Ut,UX];have O:bW W ((((((W.alloc (Z4 (aU C) 332)).alloc (Z4 #[Z7 Z8 (of:Int)] 133)).alloc (Z4 #[Z7 Z9 (p:Int)] 3)).alloc (Z4 #[fA Bl] 201)).alloc (Z4 #[.func (.yield l) #[] #[]] 350)).alloc (Z4 #[Z2 ZV] 4)):=
  (((((bA W _).alloc (by simp) _).alloc (by simp;omega) _).alloc (by simp;omega) _).alloc (by simp;omega) _).alloc (by simp;omega) _
 have T:VB ((((((W.alloc (Z4 (aU C) 332)).alloc (Z4 #[Z7 Z8 (of:Int)] 133)).alloc (Z4 #[Z7 Z9 (p:Int)] 3)).alloc (Z4 #[fA Bl] 201)).alloc (Z4 #[.func (.yield l) #[] #[]] 350)).alloc (Z4 #[Z2 ZV] 4)) W.heap.size C of p Bl l:=by
  have N:∀ (X:ZU) (o:Obj) (k:Nat),k<X.heap.size->(X.alloc o).heap[k]?=X.heap[k]?:=λX o k h=>We X o k h;refine ⟨?_,?_,?_,?_,?_,?_⟩
  . exact (aF.new W C).keep (by rw [N _ _ _ (by simp;omega),N _ _ _ (by simp;omega),N _ _ _ (by simp;omega),N _ _ _ (by simp;omega),N _ _ _ (by simp)])
  . have h:=Bx.new (W.alloc (Z4 (aU C) 332)) 133 (Z7 Z8 (of:Int));rw [Uw] at h;exact (((h.alloc _).alloc _).alloc _).alloc _
  . have h:=Bx.new ((W.alloc (Z4 (aU C) 332)).alloc (Z4 #[Z7 Z8 (of:Int)] 133)) 3 (Z7 Z9 (p:Int));simp only [Uw] at h;exact ((h.alloc _).alloc _).alloc _
  . have h:=Bx.new (((W.alloc (Z4 (aU C) 332)).alloc (Z4 #[Z7 Z8 (of:Int)] 133)).alloc (Z4 #[Z7 Z9 (p:Int)] 3)) 201 (fA Bl);simp only [Uw] at h;exact (h.alloc _).alloc _
  . have h:=Bx.new ((((W.alloc (Z4 (aU C) 332)).alloc (Z4 #[Z7 Z8 (of:Int)] 133)).alloc (Z4 #[Z7 Z9 (p:Int)] 3)).alloc (Z4 #[fA Bl] 201)) 350 (.func (.yield l) #[] #[]);simp only [Uw] at h;exact h.alloc _
  . have h:=Bx.new (((((W.alloc (Z4 (aU C) 332)).alloc (Z4 #[Z7 Z8 (of:Int)] 133)).alloc (Z4 #[Z7 Z9 (p:Int)] 3)).alloc (Z4 #[fA Bl] 201)).alloc (Z4 #[.func (.yield l) #[] #[]] 350)) 4 (Z2 ZV);simp only [Uw] at h;exact h
 have k9:((((((W.alloc (Z4 (aU C) 332)).alloc (Z4 #[Z7 Z8 (of:Int)] 133)).alloc (Z4 #[Z7 Z9 (p:Int)] 3)).alloc (Z4 #[fA Bl] 201)).alloc (Z4 #[.func (.yield l) #[] #[]] 350)).alloc (Z4 #[Z2 ZV] 4)).heap.size=W.heap.size+6:=by simp
 unfold fA at O T k9 ⊢;obtain ⟨W6,kc⟩:=nM (((((((W.alloc (Z4 (aU C) 332)).alloc (Z4 #[Z7 Z8 (of:Int)] 133)).alloc (Z4 #[Z7 Z9 (p:Int)] 3)).alloc (Z4 #[.func (.func 225) #[] #[Z6 (ZX ⟨Bl,0,ZY⟩)]] 201)).alloc (Z4 #[.func (.yield l) #[] #[]] 350)).alloc (Z4 #[Z2 ZV] 4)));rw [kc] at O T k9;obtain ⟨fn,tmps,assign,body,hy,q0⟩:=hY (n-1) s C W6 (u s W W6 hJ (O.mono S)) hf;have c9:=T.yld.cell;have r:=ak T;have HB:=ak O;have HS:=ak k9;clear T O k9;gi_wp2_with (first
  | (rw [kc];refine kS rfl (Z1 5) rfl W.heap.size C rfl r.o.ck ?_)
  | (refine kS rfl (Z1 5) rfl W.heap.size C rfl r.o.ck ?_))
 refine ⟨λh=>(by cases h),q0.mono ?_⟩;rintro e f ⟨rfl,kz,k6⟩;have hA:bj n0 W f:=(bj.RU HB.o).trans k6;have kr:VB f W.heap.size C of p Bl l:=r.o.keep (λk k1 k2=>k6.block k (by omega) (by have:=HS.o;omega));have qq:W.heap.size+6<=f.heap.size:=by have:=k6.size;have:=HS.o;omega
 have q6:=k7 _ _ kz;have c6:=kr.set.cell;clear hy q0 kc r HB HS k6 c9;have r:=ak kr;clear kr;gi_wp2;refine dk (dN of f) ?_;rintro e w' ⟨rfl,rfl⟩;have q1:aJ (f.alloc (Z4 #[Z7 Z8 (of:Int)] 133)):=q6.2.2.mono (B:=f.heap.size) (by omega) (bA _ _);have q3:(f.alloc (Z4 #[Z7 Z8 (of:Int)] 133)).cell? ⟨f.heap.size,0,ZY⟩=ZX (Z7 Z8 (of:Int)):=(Bx.new f 133 (Z7 Z8 (of:Int))).cell;have h0:VI K d C of p s W (f.alloc (Z4 #[Z7 Z8 (of:Int)] 133)).heap.size n0 Bl l J ZV [] (f.alloc (Z4 #[Z7 Z8 (of:Int)] 133)):=
  ⟨rfl,r.o.keep (λk k1 k2=>We _ _ _ (by omega)),u _ _ _ kz ((T6 _ _).alloc q6.2.1 _),hA.trans (bj.RU (bA _ _)),TY _,TY _⟩
 have q8:(f.alloc (Z4 #[Z7 Z8 (of:Int)] 133)).heap.size=f.heap.size+1:=by simp
 obtain ⟨Z,q2⟩:=nM (f.alloc (Z4 #[Z7 Z8 (of:Int)] 133));have H0:=ak h0;have HC:=ak q3;have HT:=ak q1;have j:=ak q8;clear h0 q3 q1 q8;gi_wp2;rw [q2] at H0 HC HT j;clear q2;refine Wp rfl (by have:=HN.o;omega) (gf:=147) (lb:=#[Z6 (ZX ⟨f.heap.size,0,ZY⟩)]) rfl trivial (VC func147 (by kernel_rfl) rfl)
  (eV (n-1) f.heap.size of kk Z (by have:=j.o;omega) HC.o (by have:=j.o;omega) HT.o) (λh k=>qK h k) (qM (by have:=j.o;omega)) (T6 _ _) (λ_=>rfl)
  (VI K d C of p s W Z.heap.size n0 Bl l J ZV) (VX K d C of p s W Z.heap.size n0 Bl l J)
  (VI.own u (by have:=j.o;omega) S) (λc=>by
   rintro pre X Y row ⟨y,b⟩ hg hr;exact ⟨y,VI.own u (by have:=j.o;omega) S pre X Y row b hg hr⟩) H0.o
  (λx=>{ tmps:=#[.agg (aU C),Z7 Z8 (of:Int),Z7 Z9 (p:Int),.func (.func 225) #[] #[Z6 (ZX ⟨Bl,0,ZY⟩)],.func (.yield l) #[] #[],Z6 (ZX ⟨W.heap.size,0,ZY⟩),Z6 (ZX ⟨W.heap.size+1,0,ZY⟩),Z6 (ZX ⟨W.heap.size+1+1,0,ZY⟩),Z6 (ZX ⟨W.heap.size+1+1+1,0,ZY⟩),Z6 (ZX ⟨W.heap.size+1+1+1+1,0,ZY⟩),Z6 (ZX ⟨W.heap.size+1+1+1+1+1,0,ZY⟩),Z7 Z9 (x.1:Int),ZZ,.func (.yield l) #[] #[],.agg (aU C),Z2 ZW,Z2 ZV,Z7 Z8 (of:Int),.func (.func 147) #[] #[Z6 (ZX ⟨f.heap.size,0,ZY⟩)],Z7 Z9 (x.1:Int),ZZ,ZZ,ZZ,ZZ,ZZ,ZZ,ZZ,ZZ,ZZ,ZZ,ZZ,ZZ,ZZ,ZZ,ZZ,ZZ,ZZ,ZZ,ZZ],defers:=[] }) ?assign ?body ?done ?stop
 case assign=>
  intro l2 x X Kk hK;unfold qJ;gi_wp2;exact hK
 case body=>
  rintro l2 pre x X ⟨y,b,g,v,z,F⟩ ki;obtain ⟨q,sx,q9⟩:∃ q sx,jg K d C of p s pre=(q,sx,ZV):=⟨_,_,by rw [<- y]⟩;have kp:=E1 K d C of p s pre x;rw [q9] at b g z kp;simp only at b g z;have kj:(ab of).length<=16:=by rw [<- kT of];exact pW of
  have hq:q<=p+16:=by omega
  have qj:q<=100000:=by omega
  have hl:=k7 _ _ g;have cl:=hl.1;have c7:=b.pas.cell;have f7:=b.pas.frozen;have c8:=b.Sq.cell;unfold fA at c8;have r:=ak b;have HJ:=ak g;have HA:=ak v;have ka:=ak kp;have k5:=x.2;have V:=ak F;clear b g v q9 y kp hl F ki;gi_wp2;refine dH (xW q sx.2 Bl X cl) ?_;rintro e w' ⟨rfl,rfl⟩;by_cases R:q<sx.2
  . have kg:decide (q<sx.2)=ZW:=U1 R;rw [kg];have hz:=zeroCk;have ke:=r.o.ck;gi_wp2_with (first
     | (refine kS rfl (Z1 5) rfl W.heap.size C rfl ke ?_)
     | (refine jL rfl (Z1 12) (Z1 24) rfl w'.heap.size C dU rfl rfl (aF.new w' dU) ?_))
    have kf:aF ((w'.alloc (Z4 (aU dU) 332)).setRow w'.heap.size (aU C)) w'.heap.size C:=(aF.new w' dU).setRow C;have P:bW w' ((w'.alloc (Z4 (aU dU) 332)).setRow w'.heap.size (aU C)):=(bA _ _).grown (aN _ _ _) (by simp) (λk e=>by cases e;exact TY _);refine dH (CB w'.heap.size x.1 C _ kf hf k5) ?_;rintro e w2 (⟨q7,rfl,qm⟩|⟨C',Q,rfl,kb,q4⟩)
    ·
     subst qm;have HL:=ak q7;have G:=ak P;clear q7 P kf hz ke;gi_wp2;have kh:=j.o;have F:=V.o;have qg:=r.o.keep (λk k1 k2=>G.out.block k (by omega));refine ⟨(bj.RU G.out).keeps (T7 _),Gr.RU (by omega) G.out,?_⟩;unfold VI;rw [ka.out,IT R HL.o];exact ⟨rfl,qg,u _ _ _ HJ.o (G.out.mono (by omega)),HA.o.trans (bj.RU G.out),by rw [Uc];exact YN z,by have:=G.out.size;omega⟩
    ·
     have k8:bW w' w2:=P.grown q4 P.size (λk e=>by cases e;exact TY _);have qk:w'.heap.size<w2.heap.size:=kb.lt;have kv:=ak Q;have qb:=ak k8;have qc:=ak kb;have qi:W.heap.size+6<=w'.heap.size:=(by have:=j.o;have:=V.o;omega);have qa:VB w2 W.heap.size C of q Bl l:=r.o.keep (λk k1 k2=>k8.block k (by omega));have q5:J sx w2:=u _ _ _ HJ.o (k8.mono (by omega));have M:=ak qa;have qd:=ak q5;clear Q k8 kb q4 P kf hz ke qa q5;gi_wp2;have k0:∀ m,CallsIn Fence.wide m ZN 229 #[.agg (aU C'),Z7 Z8 (bJ of x.1:Nat),Z7 Z9 (q:Int),fA Bl,.func (.yield l) #[] #[]] w2.drew λe t=>e=Z3 (Z2 ZW)/\(J (zn K d C' (bJ of x.1) q sx) t/\bj n0 w2.drew t):=
      λm=>ko m x.1 C' (bJ of x.1) q sx w2.drew kv.out (py _ _ kk) (by omega) (u _ _ _ qd.out (T6 _ _).drew)
     refine E0 w'.heap.size (W.heap.size+1) (W.heap.size+1+1) (W.heap.size+1+1+1) (W.heap.size+1+1+1+1) x.1 of q C' (fA Bl) (.func (.yield l) #[] #[]) (λt=>J (zn K d C' (bJ of x.1) q sx) t/\bj n0 w2.drew t) (by kernel_rfl) rfl k5 kk rfl rfl rfl rfl rfl rfl
      (show aF w2.drew _ _ from qc.out) M.out.set.cell M.out.pas.cell M.out.Sq.cell M.out.yld.cell k0 ?_
     clear k0;rintro a' U hk f36 ⟨kx,H⟩;obtain ⟨ls,Q,rfl⟩:=hk.split (by decide) (by simp);clear hk;obtain ⟨u0,u1,u2,u3,u4,u5,u6,u7,u8,rfl⟩:=aaD Q;clear Q;simp only [abS,Wn,abP,Xw,UX,Ut] at f36 ⊢;obtain rfl:u8=Z2 ZV:=f36;have h9:bj n0 w2 U:=⟨H.os,H.tape,H.output,H.size,H.block⟩;have hv3:VB U W.heap.size C of q Bl l:=M.out.keep (λk k1 k2=>h9.block k (by omega) (by omega));have c7:=hv3.pas.cell;have f7:=hv3.pas.frozen;obtain ⟨qs,qn⟩:=IU q qj;have qf:=ak hv3;have qe:=ak kx;have ks:=ak h9;clear hv3 kx h9 H;gi_wp2;have kh:=j.o;have F:=V.o;have ky:J (zn K d C' (bJ of x.1) q sx) (U.setCell ⟨W.heap.size+1+1,0,ZY⟩ (Z7 Z9 ((q+1:Nat):Int))):=u _ _ _ qe.out ((T6 _ _).setCell (p:=⟨W.heap.size+1+1,0,ZY⟩) (by show n0<=W.heap.size+1+1;omega) _);have hh:bj n0 w' U:=(bj.RU qb.out).trans ks.out;have qh:KeepsFrom Z.heap.size w' (U.setCell ⟨W.heap.size+1+1,0,ZY⟩ (Z7 Z9 ((q+1:Nat):Int))):=(hh.keeps (by omega)).trans ((V9 _ _ _).from _);refine ⟨qh,λ_=>(k7 _ _ ky).2.2,?_⟩;unfold VI;rw [ka.out,Ov R kv.out];refine ⟨rfl,qf.out.passed (q+1),ky,(HA.o.trans hh).setCell (p:=⟨W.heap.size+1+1,0,ZY⟩) (.inr (TZ (Nat.le_succ _) (Nat.le_succ _))) _,by rw [Uc];exact Yl z,?_⟩;have:=ks.out.size;simp only [World.setCell,Array.size_modify];omega
  . have kg:decide (q<sx.2)=ZV:=Vz R;rw [kg];gi_wp2;refine ⟨Yj _ _,rfl,?_⟩;unfold VI;rw [ka.out,IS R];exact ⟨rfl,r.o,HJ.o,HA.o,by rw [Uc];exact YN z,V.o⟩
 case done=>
  rintro D xs X hD qo ⟨y,b,g,v,z,F⟩ hK;have L:=IR (K:=K) (d:=d) (C:=C) (p:=p) (s:=s) qo;rw [L] at g;have hb:=b.res.cell;have f10:=b.res.frozen;have kh:=j.o;have w:=aE b g v;clear b g v;gi_wp2;clear L;exact xX (a:=_) u S (by omega) (by omega) (by omega) w.o.1.res w.o.2.1 w.o.2.2 hK (by simp) (by simp [Act.eval]) (by simp)
 case stop=>
  rintro D c pre X hD km ⟨rfl,y,b,g,v,z,F⟩ hK;have L:=E4 (K:=K) (d:=d) (C:=C) (p:=p) (s:=s) km y;rw [L] at g;have hb:=b.res.cell;have f10:=b.res.frozen;have kh:=j.o;have w:=aE b g v;clear b g v;gi_wp2;clear L;exact xX (a:=_) u S (by omega) (by omega) (by omega) w.o.1.res w.o.2.1 w.o.2.2 hK (by simp) (by simp [Act.eval]) (by simp)
def IV (a:eF C) (h:iH C i=ZX C'):eF C':=by
 obtain ⟨r,rfl,b,c,_⟩:=gD h;have:=a.Sl;exact ⟨ng a.byt,by show C.told<=C.count-1;omega,by show C.count-1<=8;omega⟩
def LV (K:a8) (n0 Bl l:Nat) (J:cA->ZU->Prop) (h:∀ s A B,J s A->ZS n0 A B->J s B)
 (j:∀ s A,J s A->A.cell? ⟨Bl,0,ZY⟩=ZX (Z7 Z9 (s.2:Int))/\n0<=A.heap.size/\aJ A) (k:2<=n0)
 (n:∀ m s C c,J s c->eF C->YieldAt Fence.wide m ZN l #[.agg (aU C)] c λe W'=>e=Z3 (Z2 ZW)/\J (fw K s C) W'/\bj n0 c W') :
 ∀ (d m:Nat) (C:Ck) (of p:Nat) (s:cA) (W:ZU),eF C->C.count<=C.told+d->of<65536->p+16*(d+1)<=100000->J s W ->
  CallsIn Fence.wide m ZN 229 #[.agg (aU C),Z7 Z8 of,Z7 Z9 p,fA Bl,.func (.yield l) #[] #[]] W λe W'=>e=Z3 (Z2 ZW)/\J (iK K d C of p s) W'/\bj n0 W W':=by
 intro d;induction d with
 | zero=>
  intro m C of p s W b y f z g;refine uj K n0 Bl l J h j k n 0 m C of p s W b f (by omega) g ?_;intro m i C' a o q W' hl;obtain ⟨r,_,t,u,_⟩:=gD hl;omega
 | succ d ih=>
  intro m C of p s W b y f z g;refine uj K n0 Bl l J h j k n (d+1) m C of p s W b f (by omega) g ?_;intro m i C' a o q W' hl ho D w;have x:=IV b hl;obtain ⟨r,v,t,u,_⟩:=gD hl;exact ih m C' a o q W' x (by rw [v];show C.count-1<=C.told+d;omega) ho (by omega) w
end
def pX (X:ZU) (p:Nat) (A:aC) (F:aH) (M:List (Nat×Nat)):Prop:=az X p A F/\∀ i b,A.tn i b=ZW->(i,b)∈M
def pX.keep {Y:ZU} {A:aC} {F:aH} (h:pX X p A F M) (a:∀ k,F.S k->Y.heap[k]?=X.heap[k]?):pX Y p A F M:=⟨h.1.keep a,h.2⟩
def aC.SL (A:aC) (d b:Nat):aC:={ A with bad:=λi m=>if i=d/\m=b then ZW else A.bad i m }
def aC.TQ (A:aC) (d:Nat):aC:={ A with lost:=λi=>if i=d then ZW else A.lost i }
def aC.renew (A:aC) (d:Nat):aC:={ A with lost:=λi=>if i=d then ZV else A.lost i,bad:=λi m=>if i=d then ZV else A.bad i m,bl:=λi m=>if i=d then ZW else A.bl i m }
def aC.turn (A:aC) (d b:Nat):aC:={ A with bad:=λi m=>if i=d/\m=b then ZW else A.bad i m,tn:=λi m=>if i=d/\m=b then ZW else A.tn i m }
theorem ag.TV {R:eB} {F:aH} (h:ag X p R F) {d b j z:Nat} (c:d<R.n) (f:j<64) (l:z<256):ag (X.setCell ⟨F.bb d,b*64+j,ZY⟩ (Z7 .u8 (z:Nat))) p (R.R2 d λm=>if m=b then (R.blk d b).set j z else R.blk d m) F:=by
 refine h.R2 c (((h.blk d c).set (b*64+j) (Z7 .u8 (z:Nat))).congr λm _=>?_) (λk g=>Uj _ _ _ _ g) λm=>?_
 . unfold NW;show _=Value.int .u8 (((if m/64=b then (R.blk d b).set j z else R.blk d (m/64)).getD (m%64) 0:Nat):Int);by_cases e:m/64=b
   . rw [TX e,e];simp only [Ub,Xn,(h.len d b).1];by_cases a:m=b*64+j
     . rw [TX a,TX (by omega),TX f];rfl
     . rw [TW a,TW (by omega)]
   . rw [TW (by omega),TW e]
 . split
   . refine ⟨by rw [V4];exact (h.len d b).1,λx i=>?_⟩;rcases X8 i with q|q
     . exact (h.len d b).2 x q
     . rw [q];exact l
   . exact h.len d m
theorem jc.turn {A:aC} {R:eB} (a:jc R A) (hl:∀ i j,(R.blk i j).length=64/\∀ x∈R.blk i j,x<256) {d b j z:Nat} (s:j<64) (v:z<256) (o:z≠(R.blk d b).getD j 0) (u:A.tn d b=ZV):jc (R.R2 d λm=>if m=b then (R.blk d b).set j z else R.blk d m) (A.turn d b):=by
 refine ⟨a.n,a.nb,a.lost,λi m h f=>?_,λi m h f c p=>?_⟩
 . have q:=a.rd i m h f;unfold eB.rd aC.rd at q ⊢;show (if R.bad i m=ZW then ZY else J8 ((if i=d then λm=>if m=b then (R.blk d b).set j z else R.blk d m else R.blk i) m))=if (if i=d/\m=b then ZW else A.bad i m)=ZW then ZY else ZX (if A.bl i m=ZW then .blank else A.rc i m);by_cases e:i=d/\m=b
   . obtain ⟨rfl,rfl⟩:=e;rw [TX (show i=i/\m=m from ⟨rfl,rfl⟩),TX rfl,TX rfl];by_cases c:R.bad i m=ZW
     . rw [TX c];rfl
     . rw [TW c] at q ⊢;have r:¬ A.bad i m=ZW:=λe=>c (a.tn i m h f e u);rw [TW r] at q;unfold J8 at q ⊢;simp only [if_true];split at q
       . rename_i t
         rw [TW (Ld (hl i m).1 (hl i m).2 s v o t)]
       . cases q
   . rw [TW e];by_cases k:i=d
     . subst k;rw [TX rfl];simp only [TW (show ¬ m=b from λq=>e ⟨rfl,q⟩)];exact q
     . rw [TW k];exact q
 . have l:(if i=d/\m=b then ZW else A.bad i m)=ZW:=c;have g:(if i=d/\m=b then ZW else A.tn i m)=ZV:=p;by_cases e:i=d/\m=b
   . rw [TX e] at g;cases g
   . rw [TW e] at l g;exact a.tn i m h f l g
def CD (R:eB) (d b i m:Nat) (t:Bool):(R.R6 d λm=>if m=b then t else R.bad d m).bad i m=if i=d/\m=b then t else R.bad i m:=by
 show (if i=d then λm=>if m=b then t else R.bad d m else R.bad i) m=_;by_cases e:i=d
 . subst e;rw [TX rfl];by_cases a:m=b<;>simp [a]
 . rw [TW e,TW (λq=>e q.1)]
theorem LX {A:aC} {F:aH} (k:pX w p A F M) (d:Nat) (j:d<A.n):ZR ZN 24 #[Z6 (ZX ⟨p,0,ZY⟩),Z7 Z9 d] w λe w'=>e=Z3 (Z0 #[])/\pX w' p (A.TQ d) F M/\aa F.S w w':=by
 obtain ⟨⟨R,h,a⟩,g⟩:=k;rw [<- a.n] at j;obtain ⟨c0,c1⟩:=h.RX;obtain ⟨l,d1,m,q⟩:=h.R8 d j;have t:=h.R9 (d*4);have r:(0:Int)<=(d:Int):=by omega
 have s:(d:Int)<(R.n:Int):=by omega
 have H:=aE h a g;clear h a g;go_enter func24,ntmps24;go_wp2;first|go_end0|skip
 obtain ⟨h,a,g⟩:=H.o;refine ⟨rfl,⟨⟨_,h.Te d ZW,⟨a.n,a.nb,λi f=>?_,λi b f hl=>?_,λi b f hl=>?_⟩⟩,g⟩,aa.setCell _ _ _ h.sg⟩
 . show (if i=d then ZW else R.lost i)=if i=d then ZW else A.lost i;rw [a.lost i f]
 all_goals
  have c:(if i=d then ZW else A.lost i)=ZV:=hl;by_cases e:i=d
  . rw [TX e] at c;cases c
  . rw [TW e] at c;first|exact a.rd i b f c|exact a.tn i b f c
theorem IW {A:aC} {F:aH} (s:pX w p A F M) (d b:Nat) (c:d<A.n) (g:b<A.nb):ZR ZN 25 #[Z6 (ZX ⟨p,0,ZY⟩),Z7 Z9 d,Z7 Z9 b,Z7 Z9 (-1)] w λe w'=>e=Z3 (Z0 #[])/\pX w' p (A.SL d b) F M/\aa F.S w w':=by
 obtain ⟨⟨R,h,a⟩,f⟩:=s;rw [<- a.n] at c;rw [<- a.nb] at g;obtain ⟨c0,c1⟩:=h.RX;obtain ⟨u,d1,x,y⟩:=h.R8 d c;have j:=h.bad d c;have cb:=abQ j (i:=b) g;have J:=World.rowIs.frozen j b;have r:=iQ h (by omega);have z:¬ (d:Int)<0:=by omega
 have B:¬ (R.n:Int)<=(d:Int):=by omega
 have C:¬ (b:Int)<0:=by omega
 have D:(d:Int)<(R.n:Int):=by omega
 have E:(b:Int)<(R.nb:Int):=by omega
 have G:(0:Int)<=(d:Int):=by omega
 have I:(0:Int)<=(b:Int):=by omega
 have H:=a5 h r a f;clear h r j a f;go_enter func25,ntmps25;go_wp2_with fail;refine H.o.2.1.mono ?_;rintro e w' ⟨rfl,rfl⟩;go_wp2;refine Uv (v:=Z0 #[]) (by simp [results,results25,go_sem]) rfl ?_;obtain ⟨h,_,a,f⟩:=H.o;refine ⟨rfl,⟨⟨_,h.Tq c b ZW,⟨a.n,a.nb,a.lost,λi m k hl=>?_,λi m k hl g t=>?_⟩⟩,f⟩,aa.setCell _ _ _ (h.sd c)⟩
 . have q:=a.rd i m k hl;unfold eB.rd aC.rd at q ⊢;rw [CD];show (if (if i=d/\m=b then ZW else R.bad i m)=ZW then ZY else J8 (R.blk i m))=if (if i=d/\m=b then ZW else A.bad i m)=ZW then ZY else ZX (if A.bl i m=ZW then .blank else A.rc i m);by_cases e:i=d/\m=b
   . simp only [TX e];rfl
   . simp only [TW e];exact q
 . rw [CD];have l:(if i=d/\m=b then ZW else A.bad i m)=ZW:=g;by_cases e:i=d/\m=b
   . exact TX e
   . rw [TW e] at l ⊢;exact a.tn i m k hl l t
theorem LY {A:aC} {F:aH} (N:pX w p A F M) (d b k:Nat) (f:d<A.n) (O:b<A.nb) (hk:k<512) (x:(d,b)∉M):ZR ZN 25 #[Z6 (ZX ⟨p,0,ZY⟩),Z7 Z9 d,Z7 Z9 b,Z7 Z9 k] w λe w'=>e=Z3 (Z0 #[])/\pX w' p (A.turn d b) F (M++[(d,b)])/\aa F.S w w':=by
 obtain ⟨⟨R,h,c⟩,g⟩:=N;rw [<- c.n] at f;rw [<- c.nb] at O;obtain ⟨c0,c1⟩:=h.RX;obtain ⟨V,d1,W,J⟩:=h.R8 d f;have G:=iQ h (by omega);have X:¬ (d:Int)<0:=by omega
 have Y:¬ (R.n:Int)<=(d:Int):=by omega
 have Z:¬ (b:Int)<0:=by omega
 have e5:(d:Int)<(R.n:Int):=by omega
 have e6:(b:Int)<(R.nb:Int):=by omega
 have e7:(0:Int)<=(d:Int):=by omega
 have e8:(0:Int)<=(b:Int):=by omega
 have hh:(k:Int).tmod 512=(k:Nat):=by rw [abH (by omega)];omega
 obtain ⟨j,Q⟩:=nM (k/8);obtain ⟨t,U⟩:=nM (k%8);have hf:(k:Int).tdiv 8=(j:Nat):=by rw [Xt (by omega)];omega
 have hg:(k:Int).tmod 8=(t:Nat):=by rw [abH (by omega)];omega
 have E:j<64:=by omega
 have P:t<8:=by omega
 have cb:=(h.blk d f).cell (i:=b*64+j) (by omega);have fb:=(h.blk d f).frozen (b*64+j);have I:NW (R.blk d) (b*64+j)=Z7 .u8 (((R.blk d b).getD j 0:Nat):Int):=by
  unfold NW;rw [show (b*64+j)/64=b by omega,show (b*64+j)%64=j by omega]
 rw [I] at cb;have B:(R.blk d b).getD j 0<256:=by
  have hl:=h.len d b;rw [Ub,Ue (by omega)];exact hl.2 _ (T8 _)
 obtain ⟨y,r⟩:=nM ((R.blk d b).getD j 0);rw [r] at cb B;have v:2^t<256:=VS (n:=8) (by decide) P;have a:y^^^2^t<256:=Wc (n:=8) B v;have l:y^^^2^t≠y:=λe=>by
  have K:y^^^(y^^^2^t)=y^^^y:=by rw [e]
  rw [<- U4,UW,V1] at K;have:=Wh t;omega
 obtain ⟨z,C⟩:=nM (y^^^2^t);have s:bits .xor .u8 (y:Int) ((2:Int)^t%256)=(z:Nat):=by
  have T:(2:Int)^t=((2^t:Nat):Int):=by rw [XE];rfl
  have L:∀ u:Nat,u<256->(u:Int)%256=(u:Int):=λu hu=>by omega
  rw [T,L _ v,u8_xor_nat y (2^t) B v,C]
 rw [C] at a l;have H:=hide9 h G c g r x a l s;clear h G c g r x I C Q U a l v J s;go_enter func25,ntmps25;go_wp2_with fail;refine H.o.2.1.mono ?_;rintro e w' ⟨rfl,rfl⟩;go_wp2;go_region;all_goals (
  go_end0
  obtain ⟨h,_,c,g,r,x,a,l,s⟩:=H.o;rw [s];refine ⟨rfl,⟨⟨_,(h.TV f E a).keep λ_ _=>rfl,c.turn h.len E a (by rw [r];exact l) (Ym.2 λe=>x (g d b e))⟩,λi m e=>?_⟩,(aa.setCell _ _ _ (h.sb f)).trans (aa.drew _)⟩;have D:(if i=d/\m=b then ZW else A.tn i m)=ZW:=e;by_cases q:i=d/\m=b
  . rw [q.1,q.2];simp
  . rw [TW q] at D;exact UO _ (g i m D))
def aH.renew (F F1:aH) (n d p:Nat):aH:=⟨F.g,F.cap,λi=>if i=d then F1.bb 0 else F.bb i,λi=>if i=d then F1.bd 0 else F.bd i,λk=>k=p\/k=F.g\/∃ i,i<n/\(k=(if i=d then F1.bb 0 else F.bb i)\/k=(if i=d then F1.bd 0 else F.bd i))⟩
def eB.renew (R:eB) (d:Nat):eB:={ R with lost:=λi=>if i=d then ZV else R.lost i,bad:=λi=>if i=d then λ_=>ZV else R.bad i,blk:=λi=>if i=d then λ_=>zb else R.blk i }
def Ai (F1:aH) (nb:Nat) (r:Int):List ZT:=[Z2 ZV,Z5 (ZX ⟨F1.bb 0,0,ZY⟩) nb nb,Z5 (ZX ⟨F1.bd 0,0,ZY⟩) nb nb,Z7 Z9 r]
def mF {T:TypeId} {z:Nat×Nat} (h:X.heap[b]?=ZX (Z4 cs T z)) (v:ZT):(X.setCell ⟨b,k,ZY⟩ v).heap[b]?=ZX (Z4 (cs.setIfInBounds k v) T z):=by simp [World.setCell,Vw,h]
theorem ag.renew {R:eB} {F F1:aH} {r:Int} (h:ag X p R F) (f:ag X q (pJ 1 R.nb) F1) (o:∀ k,F1.S k->¬ F.S k) (K:d<R.n):ag (X.setCells F.g (d*4) (Ai F1 R.nb r)) p (R.renew d) (F.renew F1 R.n d p):=by
 obtain ⟨B,y,J⟩:=h.apart;have m:∀ j,j≠F.g->(X.setCells F.g (d*4) (Ai F1 R.nb r)).heap[j]?=X.heap[j]?:=λj l=>aQ _ _ _ _ _ l;obtain ⟨cs,c1,C⟩:=h.TA;have z:F1.S (F1.bb 0):=f.sb (show 0<1 by decide);have A:F1.S (F1.bd 0):=f.sd (show 0<1 by decide);have s:∀ i,i<R.n->F1.bb 0≠F.bb i/\F1.bd 0≠F.bd i:=λi a=>⟨λe=>o _ z (e▸h.sb a),λe=>o _ A (e▸h.sd a)⟩;refine ⟨(m _ B).trans h.top,⟨_,mF (mF (mF (mF c1 _) _) _) _,λi a=>?_⟩,λi a=>?_,λi a=>?_,λi j a l=>?_,λk=>Ya,h.n,h.nb,λi j=>?_⟩
 . obtain ⟨D,E,G,I,H⟩:=C i a;have t:=bG (bG (bG (bG D (Z2 ZV) (k:=d*4)) (Z5 (ZX ⟨F1.bb 0,0,ZY⟩) R.nb R.nb) (k:=d*4+1)) (Z5 (ZX ⟨F1.bd 0,0,ZY⟩) R.nb R.nb) (k:=d*4+1+1)) (Z7 Z9 r) (k:=d*4+1+1+1);have u:=bG (bG (bG (bG E (Z2 ZV) (k:=d*4)) (Z5 (ZX ⟨F1.bb 0,0,ZY⟩) R.nb R.nb) (k:=d*4+1)) (Z5 (ZX ⟨F1.bd 0,0,ZY⟩) R.nb R.nb) (k:=d*4+1+1)) (Z7 Z9 r) (k:=d*4+1+1+1);have v:=bG (bG (bG (bG G (Z2 ZV) (k:=d*4)) (Z5 (ZX ⟨F1.bb 0,0,ZY⟩) R.nb R.nb) (k:=d*4+1)) (Z5 (ZX ⟨F1.bd 0,0,ZY⟩) R.nb R.nb) (k:=d*4+1+1)) (Z7 Z9 r) (k:=d*4+1+1+1);have w:=bG (bG (bG (bG H (Z2 ZV) (k:=d*4)) (Z5 (ZX ⟨F1.bb 0,0,ZY⟩) R.nb R.nb) (k:=d*4+1)) (Z5 (ZX ⟨F1.bd 0,0,ZY⟩) R.nb R.nb) (k:=d*4+1+1)) (Z7 Z9 r) (k:=d*4+1+1+1);by_cases e:i=d
   . subst e;rw [TW (by omega),TW (by omega),TW (by omega),TX rfl] at t;rw [TW (by omega),TW (by omega),TX rfl] at u;rw [TW (by omega),TX (by omega)] at v;rw [TX (by omega)] at w;exact ⟨t.trans (by simp [eB.renew]),u.trans (by simp [eB.renew,aH.renew]),v.trans (by simp [eB.renew,aH.renew]),r,w⟩
   . rw [TW (by omega),TW (by omega),TW (by omega),TW (by omega)] at t;rw [TW (by omega),TW (by omega),TW (by omega),TW (by omega)] at u;rw [TW (by omega),TW (by omega),TW (by omega),TW (by omega)] at v;rw [TW (by omega),TW (by omega),TW (by omega),TW (by omega)] at w;exact ⟨t.trans (by simp [eB.renew,e]),u.trans (by simp [eB.renew,aH.renew,e]),v.trans (by simp [eB.renew,aH.renew,e]),I,w⟩
 . show World.rowIs _ (if i=d then F1.bb 0 else F.bb i) _ _ (NW (if i=d then λ_=>zb else R.blk i));by_cases e:i=d
   . rw [TX e,TX e];exact (f.blk 0 (show 0<1 by decide)).of_block (m _ λq=>o _ z (q▸h.sg))
   . rw [TW e,TW e];exact (h.blk i a).of_block (m _ (y i a).2.1)
 . show World.rowIs _ (if i=d then F1.bd 0 else F.bd i) _ _ (λj=>Z2 ((if i=d then λ_=>ZV else R.bad i) j));by_cases e:i=d
   . rw [TX e,TX e];exact (f.bad 0 (show 0<1 by decide)).of_block (m _ λq=>o _ A (q▸h.sg))
   . rw [TW e,TW e];exact (h.bad i a).of_block (m _ (y i a).2.2.2)
 . show ((if i=d then F1.bb 0 else F.bb i)=(if j=d then F1.bb 0 else F.bb j)->i=j)/\((if i=d then F1.bd 0 else F.bd i)=(if j=d then F1.bd 0 else F.bd j)->i=j);by_cases c:i=d
   . by_cases b:j=d
     . exact ⟨λ_=>c.trans b.symm,λ_=>c.trans b.symm⟩
     . rw [TX c,TW b,TX c,TW b];exact ⟨λq=>absurd q (s j l).1,λq=>absurd q (s j l).2⟩
   . by_cases b:j=d
     . rw [TW c,TX b,TW c,TX b];exact ⟨λq=>absurd q.symm (s i a).1,λq=>absurd q.symm (s i a).2⟩
     . rw [TW c,TW b,TW c,TW b];exact h.inj i j a l
 . show ((if i=d then λ_=>zb else R.blk i) j).length=64/\∀ x∈(if i=d then λ_=>zb else R.blk i) j,x<256;split
   . exact f.len 0 0
   . exact h.len i j
def jc.renew {R:eB} {A:aC} (h:jc R A) (d:Nat):jc (R.renew d) (A.renew d):=by
 refine ⟨h.n,h.nb,λi c=>?_,λi b c hl=>?_,λi b c hl=>?_⟩
 . show (if i=d then ZV else R.lost i)=if i=d then ZV else A.lost i;rw [h.lost i c]
 . have a:(if i=d then ZV else A.lost i)=ZV:=hl;show (if (if i=d then λ_=>ZV else R.bad i) b=ZW then ZY else J8 ((if i=d then λ_=>zb else R.blk i) b))=if (if i=d then ZV else A.bad i b)=ZW then ZY else ZX (if (if i=d then ZW else A.bl i b)=ZW then .blank else A.rc i b);by_cases e:i=d
   . simp only [TX e];exact zx (r:=.blank) trivial
   . simp only [TW e] at a ⊢;exact h.rd i b c a
 . have a:(if i=d then ZV else A.lost i)=ZV:=hl;show (if i=d then ZV else A.bad i b)=ZW->A.tn i b=ZV->(if i=d then λ_=>ZV else R.bad i) b=ZW;by_cases e:i=d
   . simp only [TX e];exact λq=>absurd q (by decide)
   . simp only [TW e] at a ⊢;exact h.tn i b c a
def infoDrive:(ZN.info? 79).map (·.size)=ZX 4:=by kernel_rfl
theorem IX {A:aC} {F:aH} (hR:pX w p A F M) (d:Nat) (z:d<A.n):ZR ZN 18 #[Z6 (ZX ⟨p,0,ZY⟩),Z7 Z9 d] w λe w'=>e=Z3 (Z0 #[])/\aa F.S w w'/\∃ B,pX w' p (A.renew d) B M/\∀ k,B.S k->F.S k\/w.heap.size<=k:=by
 obtain ⟨⟨R,h,s⟩,t⟩:=hR;rw [<- s.n] at z;obtain ⟨c0,c1⟩:=h.RX;have hn:=h.n;have e2:(0:Int)<=(d:Int):=by omega
 have e3:(d:Int)<(R.n:Int):=by omega
 have N:=kG 1 R.nb w.drew (by decide) (by decide) h.nb;have I:=iQ (h.keep (Y:=w.drew) λ_ _=>rfl) (by omega);have H:=a6 h s t N I;clear h s t N I;go_enter func18,ntmps18;go_wp2_with fail;refine ga 14 [(0,ZW),(1,ZW),(2,ZW),(3,ZW),(4,ZW),(5,ZW),(6,ZV),(7,ZV),(8,ZW),(9,ZW),(10,ZV),(11,ZW),(12,ZV),(13,ZW),(14,ZV)] (λw'=>w'.cell? ⟨p,0,ZY⟩=ZX (Z5 (ZX ⟨F.g,0,ZY⟩) R.n F.cap)) (by kernel_rfl) (by kernel_rfl) c0 ?_;iterate 6 (refine aZ rfl rfl ?_;apply YG;refine ⟨λw' y=>?_,?_⟩;(first|(go_simp;done)|(go_simp;exact rfl));simp only [Act.put,Ug,Uf,Uh])
 refine mr H.o.2.2.2.2 rfl rfl (by go_simp) ?_;rintro e w1 ⟨rfl,rfl⟩;refine ⟨_,rfl,λ_=>c0,?_⟩;simp only [Act.put,Ug,Uf,Uh];refine mr H.o.2.2.2.1 rfl rfl (by go_simp) ?_;rintro e w1 ⟨rfl,m,b,f,u⟩;have hj:p<w.drew.heap.size:=H.o.1.RS H.o.1.sp;have j:w1.cell? ⟨p,0,ZY⟩=ZX (Z5 (ZX ⟨F.g,0,ZY⟩) R.n F.cap):=(m.cell (p:=⟨p,0,ZY⟩) hj).trans c0;refine ⟨_,rfl,λ_=>j,?_⟩;simp only [Act.put,Ug,Uf,Uh];obtain ⟨n0,_⟩:=f.RX;obtain ⟨C,d1,D,r,E⟩:=f.R8 0 (show 0<1 by decide);have O:w1.rangeAt b.g 0 (Ai b R.nb r):=by
  intro k v a;unfold Ai at a;match k,a with
  | 0,a=>simp at a;subst a;exact C
  | 1,a=>simp at a;subst a;exact d1
  | 2,a=>simp at a;subst a;exact D
  | 3,a=>simp at a;subst a;exact E
  | k+4,a=>simp at a
 have l:ag w1 p R F:=H.o.1.keep λk c=>m.block k (H.o.1.RS c);have T:w1.there F.g (d*4) 4:=λk c=>by
  obtain ⟨X,Z,g2,r',g3⟩:=l.R8 d z;refine ⟨?_,l.R9 _⟩;match k,c with
  | 0,_=>exact X▸rfl
  | 1,_=>exact Z▸rfl
  | 2,_=>exact g2▸rfl
  | 3,_=>exact g3▸rfl
 have G:(Ai b R.nb r).toArray.size=4:=rfl;have Q:=ab7 (P:=ZN) w1 F.g (d*4) 79 (Ai b R.nb r).toArray (by rw [G];exact T) infoDrive (by unfold Ai;simp [Value.oneCell']);have L:=run_loadAt_mid (P:=ZN) w1 b.g 0 79 (Ai b R.nb r) _ O underlying79 rfl infoDrive;have V:=a5 f l u m;have hb:w1.cell? ⟨w.heap.size,0,ZY⟩=ZX (Z5 (ZX ⟨b.g,0,ZY⟩) 1 b.cap):=n0;obtain ⟨W,J⟩:=nM ((Ai b R.nb r).toArray);rw [J] at Q L G;clear f l u m C d1 D E n0 T O;iterate 2 (refine aZ rfl rfl ?_;apply YG;refine ⟨λw' y=>?_,?_⟩;(first|(go_simp;done)|(go_simp;exact rfl));simp only [Act.put,Ug,Uf,Uh])
 refine td (w1:=w1) (v:=Z5 (ZX ⟨b.g,0,ZY⟩) 1 b.cap) rfl rfl (by go_simp) (λ_=>j) ?_;simp only [Act.put,Ug,Uf,Uh];iterate 1 (refine aZ rfl rfl ?_;apply YG;refine ⟨λw' y=>?_,?_⟩;(first|(go_simp;done)|(go_simp;exact rfl));simp only [Act.put,Ug,Uf,Uh])
 refine td (w1:=w1) (v:=.agg W) rfl rfl (by simp [execOp,Act.eval,L]) (λ_=>j) ?_;simp only [Act.put,Ug,Uf,Uh];iterate 1 (refine aZ rfl rfl ?_;apply YG;refine ⟨λw' y=>?_,?_⟩;(first|(go_simp;done)|(go_simp;exact rfl));simp only [Act.put,Ug,Uf,Uh])
 refine wV rfl rfl λK hK=>?_;simp [Oper.wp,execOp,Act.eval,Q];refine hK _ _ (absurd rfl) (gS ?_);clear hK;go_end0
 obtain ⟨f,l,u,m⟩:=V.o;obtain ⟨h,s,t,_,_⟩:=H.o;have hh:∀ k,F.S k->k<w.heap.size:=λk c=>h.RS c;have x:∀ k,b.S k->w.heap.size<=k:=u;rw [<- J];refine ⟨rfl,((aa.drew w).trans (aa.RT m _)).trans (aa.setCells _ _ _ _ h.sg),F.renew b R.n d p,⟨⟨_,l.renew (r:=r) f (λk c q=>by have:=hh k q;have:=x k c;omega) z,s.renew d⟩,t⟩,λk c=>?_⟩;rcases c with q|q|⟨i,U,q|q⟩
 . exact .inl (q▸h.sp)
 . exact .inl (q▸h.sg)
 . by_cases e:i=d
   . rw [TX e] at q;exact .inr (q▸x _ (f.sb (show 0<1 by decide)))
   . rw [TW e] at q;exact .inl (q▸h.sb U)
 . by_cases e:i=d
   . rw [TX e] at q;exact .inr (q▸x _ (f.sd (show 0<1 by decide)))
   . rw [TW e] at q;exact .inl (q▸h.sd U)
