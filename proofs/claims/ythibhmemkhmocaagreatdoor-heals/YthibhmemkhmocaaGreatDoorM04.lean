import Derived.Test.YthibhmemkhmocaaGreatDoorM03
import Derived.Deep.CutRange
import Derived.Defers
import Derived.Recover
import Derived.WalkMore
import Derived.Deep.RegionHeld
import Derived.Laws.EntriesVeiled
set_option maxRecDepth 100000
set_option linter.all false
set_option maxHeartbeats 8000000
open Go.IntKind renaming i64 -> Z9, u64 -> Z8
open Go.Value renaming int -> Z7, pointer -> Z6, slice -> Z5, bool -> Z1, tuple -> ZZ
open Go.Obj renaming cells -> Z4
open Go.Ending renaming returned -> Z3
open Go.Operand renaming tmp -> Z0
open Go renaming undef -> ZY, World -> ZT, Value -> ZS, Calls -> ZR, Oper -> ZQ, TypeId -> ZP, Boxed -> ZO, Operand -> ZN
open Option renaming none -> ZX, some -> ZW
open Bool renaming true -> ZV, false -> ZU
open List renaming range -> YE, replicate -> YI
open Exists renaming intro -> YF
open Nat renaming reduceAdd -> YG, reduceSub -> YH, le_succ_of_le -> YM
open And renaming intro -> YJ
open Array renaming replicate -> YK
open Option renaming toList_some -> YL
open Go.Proofs.Tryz renaming prog -> ZM
open Go.Proofs.Tryz
namespace Go.Proofs.YthibhmemkhmocaaGreatDoor
def WN:=@List.flatMap_append
def ab5:=@List.prefix_append_right_inj
def Vx:=@Go.Value.slice.injEq
def ab6:=@List.length_singleton
def WA:=@Go.run_takeDeferred
def abu:=@Nat.pow_pos
def WO:=@Nat.or_lt_two_pow
def Us:=@Go.Boxed.new
def V5:=@Go.KeepsOthers.setCell
def Wh:=@Go.callsIn_of_wp_marks
def Wi:=@Go.wpIn_rangeFunc_ownG
def U5:=@Go.Proofs.enters_of
def abv:=@Go.run_loadAt_mid
def Wj:=@Go.Boxed.cell
def ab7:=@Go.KeepsOthers.of_grownBy
def W4:=@Go.wpAny_take
def Yg:=@Go.wpAny_ready
def XO:=@Go.AllReady.cons
def Yh:=@Go.AllReady.nil
def abw:=@Go.wp_load_mid
def Yi:=@Go.Proofs.Tryz.underlying113
def WQ:=@Go.Proofs.Tryz.underlying3
def Vl:=@Go.Src.ofSlice
def ab8:=@List.flatten_append
def abx:=@Go.heap_setCell_same
def WB:=@Array.length_toList
def aby:=@Array.getElem?_toList
def XP:=@Go.Proofs.Tryz.underlying332
def Yj:=@Go.wpListIn_plain
def abz:=@Array.size_modify
def Yk:=@Go.KeepsFrom.refl
def UQ:=@Go.Obj.cells.injEq
def VT:=@Bool.eq_false_iff
def ab9:=@Array.getElem_modify_self
def W5:=@Nat.succ_mul
def Wt:=@List.map_congr_left
def V6:=@Nat.testBit_or
def Yl:=@Iff.rfl
def VM:=@List.getElem?_take_of_lt
def abA:=@Int.tmod_eq_emod_of_nonneg
end Go.Proofs.YthibhmemkhmocaaGreatDoor
namespace Go.Proofs.YthibhmemkhmocaaGreatDoor
open Go.RowKit Go.Deep Go.Shelf Gf
variable {a:Act} {ops:Array ZQ} {x C C':Ck} {rec:Ck->Nat->Nat->cD->cD} {Q:Exit->Act->ZT->Prop} {F:aK} {fn:Func} {room regs:Int} {M:List (Nat×Nat)} {dl:a8} {rest:List ZQ} {pre:List Sh} {P:List St} {v p D L G ps ho sb b l k t n ar D' L' G' t' f' n' N base g B i r d gone sp q m h of Bl n0 kept Bg nb:Nat} {Dn:Nat->Bool} {K:Nat->Prop} {f:Nat->ZS} {o:ZQ} {row:Option Nat} {R:eQ} {s sx:cD} {J:cD->ZT->Prop} {e:ZP} {pg ob:ZS} {w w' Z X w2 w1 W W' w'' Y wr:ZT}
section
def bg (w:ZT) (v p D L G ps ho:Nat):Prop:=w.heap[v]?=ZW (Z4 #[Z6 (ZW ⟨p,0,ZX⟩),Z7 Z9 D,Z7 Z9 L,Z7 Z9 G,Z6 (ZW ⟨ps,0,ZX⟩),Z7 Z8 ho] 139 (0,0))
def bg.keep (h:bg w v p D L G ps ho) (e:w'.heap[v]?=w.heap[v]?):bg w' v p D L G ps ho:=e.trans h
def bg.lt (h:bg w v p D L G ps ho):v<w.heap.size:=(TX.1 h).1
def bg.cells (h:bg w v p D L G ps ho):w.cell? ⟨v,0,ZX⟩=ZW (Z6 (ZW ⟨p,0,ZX⟩))/\w.cell? ⟨v,1,ZX⟩=ZW (Z7 Z9 D)/\w.cell? ⟨v,2,ZX⟩=ZW (Z7 Z9 L)/\w.cell? ⟨v,3,ZX⟩=ZW (Z7 Z9 G)/\w.cell? ⟨v,4,ZX⟩=ZW (Z6 (ZW ⟨ps,0,ZX⟩))/\w.cell? ⟨v,5,ZX⟩=ZW (Z7 Z8 ho):=by
 have a:w.heap[v]?=ZW (Z4 #[Z6 (ZW ⟨p,0,ZX⟩),Z7 Z9 D,Z7 Z9 L,Z7 Z9 G,Z6 (ZW ⟨ps,0,ZX⟩),Z7 Z8 ho] 139 (0,0)):=h;simp [World.cell?,a]
def bV.outside {S:Nat->Prop} (h:bV w) (a:aa S w w') (b:¬ S 2):bV w':=λj c=>by
 have:=h j c;rw [<- this];exact Uk (a.block _ (Uf this) b)
def az.RX (A:az) (d b:Nat):Option bG:=if A.lost d=ZV then ZX else A.rd d b
def QJ (w:ZT) (p d b:Nat) (A:az) (F:aK) (e:Ending) (w':ZT):Prop:=
 aA w' p A F/\aa F.S w w'/\((∃ r,A.RX d b=ZW r/\e=Z3 (ZZ #[dI r,.nilIface]))\/(A.RX d b=ZX/\∃ q,e=Z3 (ZZ #[.nilIface,si q])/\w.heap.size<=q/\ga w' q d b (if A.lost d=ZV then 11 else 12)))
variable {w:ZT} {v p D L G ps ho:Nat} {A:az} {F:aK}
theorem rk (hV:bg w v p D L G ps ho) (h:aA w p A F) (d b:Nat) (t:d<A.n) (hb:b<A.nb) (hv:bV w) (hg:¬ F.S 2) :
 ZR ZM 120 #[Z6 (ZW ⟨v,0,ZX⟩),Z7 Z9 d,Z7 Z9 b] w (QJ w p d b A F):=by
 obtain ⟨c0,_⟩:=hV.cells;have hz:=zeroBlk;obtain ⟨R,z,j⟩:=h;have hc:=N4 z d b (by rw [j.n];exact t) (by rw [j.nb];exact hb);have K:=(z.len d b).1;have x:=a5 (z.len d b).2 (λk (C:F.S k)=>z.RN C) hv j;have U:R.lost d=ZU->A.RX d b=R.rd d b:=λq=>by
  rw [j.lost d t] at q;unfold az.RX;rw [q,j.rd d b t q];rfl
 have s:R.lost d=ZV\/R.bad d b=ZV->A.RX d b=ZX:=λq=>by
  cases hl:R.lost d
  . rw [U hl];rw [hl] at q;unfold eQ.rd;rw [TT (q.resolve_left ee)]
  . unfold az.RX;rw [<- j.lost d t,hl];rfl
 rw [j.lost d t] at U s;have H:=al U s;clear hV z hv j U s;go_enter func120,ntmps120;go_wp2_with fail;refine hc.mono ?_;rintro e w1 ⟨V,O,k8⟩;clear hc;have ka:=O.size;have P:=cL.new w1 zb;have M:=V.alloc (Z4 (aH zb) 114);have W:aa F.S w (w1.alloc (Z4 (aH zb) 114)):=O.trans (aa.alloc _ _);have I:∀ l:a8,aA ((w1.alloc (Z4 (aH zb) 114)).setRow w1.heap.size (aH l)) p A F/\aa F.S w ((w1.alloc (Z4 (aH zb) 114)).setRow w1.heap.size (aH l)):=λl=>
  ⟨⟨R,M.keep λk C=>(aY _ _ _).block k (M.RN C) (λe=>by have:=x.o.2.1 k C;cases e;omega),x.o.2.2.2⟩,W.later (T:=λk=>k=w1.heap.size) (aa.setRow _ _ _ rfl) (λk C e=>absurd e ec)⟩
 rw [x.o.2.2.2.lost d t] at k8;rcases k8 with ⟨hl,h9,rfl⟩|⟨s,q,rfl,E,Y⟩
 . obtain ⟨l,hll⟩:=nM (R.blk d b);rw [hll] at K ⊢;have a:A.RX d b=JW l:=(by rw [H.o.1 hl];unfold eQ.rd;rw [h9,hll];rfl);have c:=a6 P (I l) a hll hl;clear V O P M W I c0 h9 a hll hl;go_wp2_with (first|(refine iH rfl (Z0 8) (Z0 20) rfl w1.heap.size l zb rfl rfl c.o.1 dD K ?_)|(refine r9 rfl (Z0 8) rfl w1.heap.size l rfl (c.o.1.setRow l) K ?_));obtain ⟨m,i⟩:=c.o.2.1;obtain ⟨w3,B⟩:=nM ((w1.alloc (Z4 (aH zb) 114)).setRow w1.heap.size (aH l));rw [B] at m i ⊢;have ho:=Qr l w3 K (by rw [<- c.o.2.2.2.1];exact x.o.1) (x.o.2.2.1.outside i hg);have g:=al m i;clear m i B;refine ho.mono ?_;rintro e u ⟨rfl,Q⟩;have N:=g.o.1.below Q lR;have y:aa F.S w u:=g.o.2.trans (aa.RL Q _);have a:=c.o.2.2.1;cases hr:JW l with
   | some r=>
    rw [hr] at a;have f:=aE N y a;clear ho Q N y a c hr;obtain ⟨rv,Z⟩:=nM (dI r);have H:=ak Z;unfold ofV;simp only [Z];clear Z;go_wp2;go_ret2;exact ⟨f.o.1,f.o.2.1,.inl ⟨r,f.o.2.2,by rw [H.o];rfl⟩⟩
   | none=>
    rw [hr] at a;obtain ⟨w5,k9⟩:=nM (u.alloc (Z4 #[Z7 Z9 d,Z7 Z9 b,Z7 Z9 12] 271));have hf:ga w5 u.heap.size d b 12:=(by rw [<- k9];exact ga.new _ _ _ _);have X:bW u w5:=(by rw [<- k9];exact bA u _);have f:=a7 (N.below X lR) (y.trans (aa.RL X _)) a hf y.size c.o.2.2.2.2;clear ho Q N y a c hr X hf;unfold ofV;go_wp2;go_ret2;exact ⟨f.o.1,f.o.2.1,.inr ⟨f.o.2.2.1,_,rfl,f.o.2.2.2.2.1,by rw [f.o.2.2.2.2.2];exact f.o.2.2.2.1⟩⟩
 . have he:ga ((w1.alloc (Z4 (aH zb) 114)).setRow w1.heap.size (aH zb)) q d b (if A.lost d=ZV then 11 else 12):=by
    have h1:ga (w1.alloc (Z4 (aH zb) 114)) q d b (if A.lost d=ZV then 11 else 12):=Y.below (bA w1 _);exact ((aY _ _ _).block q h1.lt (λe=>by have:=Y.lt;cases e;omega)).trans h1
   have c:=a6 P (I zb) (H.o.2 s) he E;clear V O P M W I c0 s Y he E;unfold si;go_wp2_with (refine iH rfl (Z0 8) (Z0 20) rfl w1.heap.size zb zb rfl rfl c.o.1 dD dD ?_);obtain ⟨_,⟨m,i⟩,a,J,E⟩:=c.o;obtain ⟨w3,B⟩:=nM ((w1.alloc (Z4 (aH zb) 114)).setRow w1.heap.size (aH zb));rw [B] at m i J ⊢;have k7:=tA J (by split<;>decide);unfold si at k7;have g:=a6 m i a J E;clear m i a J E B;refine k7.mono ?_;rintro e u ⟨rfl,rfl⟩;clear k7;go_wp2;go_ret2;exact ⟨g.o.1,g.o.2.1,.inr ⟨g.o.2.2.1,q,rfl,g.o.2.2.2.2,g.o.2.2.2.1⟩⟩
def zN (w:ZT) (p d b:Nat) (r:bG) (A:az) (F:aK) (x:ZS) (w':ZT):Prop:=aA w' p (A.putAt [d] b λ_=>r) F/\aa F.S w w'/\((A.lost d=ZU/\x=.nilIface)\/(A.lost d=ZV/\∃ q,x=si q/\ga w' q d b 11))
theorem oq (m:bg w v p D L G ps ho) (h:aA w p A F) (d b:Nat) (I:d<A.n) (s:b<A.nb) (r:bG) (j:r.ok) (u:bV w) :
 ZR ZM 116 #[Z6 (ZW ⟨v,0,ZX⟩),Z7 Z9 d,Z7 Z9 b,dI r] w λe w'=>∃ x,e=Z3 x/\zN w p d b r A F x w':=by
 have k:∀ w1,bW w w1->ZR ZM 149 #[Z6 (ZW ⟨p,0,ZX⟩),Z7 Z9 d,Z7 Z9 b,.agg (aH r.blk)] w1 λe w2=>∃ x,e=Z3 x/\zN w p d b r A F x w2:=λw1 a=>by
  obtain ⟨R,i,c⟩:=h;refine (KA (i.below a lR) d b (by rw [c.n];exact I) (by rw [c.nb];exact s) r.blk (F8 j) (Qa j)).mono ?_;rintro e w2 ⟨x,rfl,M,C⟩;rw [c.lost d I] at C;have z:=(aa.RL a _).trans M;rcases C with ⟨hl,rfl,l⟩|⟨hl,l,t⟩
  . exact ⟨_,rfl,⟨_,l,c.put d b j⟩,z,.inl ⟨hl,rfl⟩⟩
  . exact ⟨_,rfl,⟨_,l,c.lostPut hl b r⟩,z,.inr ⟨hl,t⟩⟩
 obtain ⟨c0,_⟩:=m.cells;have g:=xF j w.drew (u.below ((TW _ w).drew) u.lt);obtain ⟨rv,E⟩:=nM (dI r);simp only [E] at g ⊢;obtain ⟨P,B⟩:=nM (aH r.blk);simp only [B] at g k;have y:∀ w',bW w w'->w'.cell? ⟨v,0,ZX⟩=ZW (Z6 (ZW ⟨p,0,ZX⟩)):=λw' s=>(s.cell (p:=⟨v,0,ZX⟩) m.lt).trans c0;have H:=al k y;clear k m E B u y h;go_enter func116,ntmps116;go_upto_region 1 with fail;go_cut [9] from 10 to 21 (λN O=>zN w p d b r A F N O)
 case first=>
  go_region_with (first
   | (go_at_call 150;refine g.mono ?_;rintro e w1 ⟨rfl,a⟩;have c1:=H.o.2 w1 (((TW _ w).drew).trans a);have J:=ak (((TW _ w).drew).trans a);clear a)
   | (go_at_call 149;refine (H.o.1 w1 J.o).mono ?_;rintro e w2 ⟨x,rfl,i⟩;have f:=ak i;clear i))
  all_goals (go_wp2_with fail;go_meet;case rel=>exact f.o)
 case rest=>
  have K:∀ x W,zN w p d b r A F x W->ZR ZM 151 #[x] W λe w'=>e=Z3 (ZZ #[])/\w'=W:=by
   rintro x W ⟨_,_,⟨_,rfl⟩|⟨_,q,rfl,t⟩⟩
   . exact Kz _
   . exact tA t ee
  have f:=ak hcut;clear hcut g c0;go_wp2_with fail;refine (K _ _ f.o).mono ?_;rintro e w' ⟨rfl,rfl⟩;go_wp2;go_ret;exact ⟨_,rfl,f.o⟩
end
theorem tH (p:Addr) (w:ZT):CallsD ZM 106 #[Z6 (ZW p)] .returning w λe u' w'=>e=Z3 (ZZ #[])/\u'=.returning/\w'=w:=by
 refine callsD_of_wpS func106 rfl λa cs f=>?_;have g:∀ w,(binOp .eql 20 .nilIface .nilIface).run ZM w=.ok (Z1 ZV) w:=λw=>by
  have b:∀ d,(Op.equalIn (d+1) 20 .nilIface .nilIface).run ZM w=.ok ZV w:=λd=>by
   simp only [Op.equalIn,UE,UL underlying20,UT];rfl
  have c:=b 9999;simp only [binOp];simp [Op.equal,Op.maxDepth,c]
 apply wpS_seq;apply wpS_region;generalize hN:Code.wpS ZM _ _=N;simp [wpOpsS,go_sem,recoverD,f,ntmps106,Exit.thenS];rw [<- hN];clear hN;refine wpS_of_wp ?_;simp only [Vg,Vh,Vj,Uq,US,TZ,TY,T5,Vk];go_wp2;cases a;simp_all [bodyPostS,results,results106]
def isErr (v:ZS):Prop:=v=.nilIface\/∃ t u,v=.iface t u
def mV (D L G:Int) (lost:Int) (reading:Bool) (regs:Int) (steps:ZS) (n o:ZS):Array ZS:=#[Z7 Z9 D,Z7 Z9 L,Z7 Z9 G,Z7 Z8 lost,Z1 reading,Z7 Z9 regs,steps,n,o]
structure pF (w:ZT) (sb:Nat) (room:Int):Prop where
 ends:w.heap[sb]?=ZW (Z4 (mV 0 0 0 0 ZU 0 (Z5 ZX 0 0) (Z6 (ZW ⟨sb,0,ZX⟩)) (Z6 (ZW ⟨sb,0,ZX⟩))) 261 (0,0))
 map:∃ n,w.heap[sb+1]?=ZW (.map #[] n)
 list:w.heap[sb+1+1]?=ZW (Z4 #[Z7 Z9 room,.map (ZW (sb+1)),Z6 (ZW ⟨sb,0,ZX⟩)] 264 (0,0))
 RY:w.heap[sb+1+1+1]?=ZW (Z4 #[Z6 (ZW ⟨sb+1+1,0,ZX⟩)] 223 (0,0))
def pF.lt (h:pF w sb room):sb+1+1+1<w.heap.size:=(TX.1 h.RY).1
def pF.keep (h:pF w sb room) (a:∀ k,sb<=k->k<=sb+1+1+1->w'.heap[k]?=w.heap[k]?):pF w' sb room:=
 ⟨(a _ ec ec).trans h.ends,h.map.imp λ_ q=>(a _ ec ec).trans q,(a _ ec ec).trans h.list,(a _ ec ec).trans h.RY⟩
def pF.below (h:pF w sb room) (a:bW w w'):pF w' sb room:=h.keep λk _ b=>a.block k (e9 h.lt)
def mW (w:ZT) (a b c:Obj):(((w.alloc a).alloc b).alloc c).heap[w.heap.size]?=ZW a/\(((w.alloc a).alloc b).alloc c).heap[w.heap.size+1]?=ZW b/\(((w.alloc a).alloc b).alloc c).heap[w.heap.size+1+1]?=ZW c:=by
 refine ⟨(UF _ _ _ en).trans ((UF _ _ _ ek).trans (Ug _ _)),(UF _ _ _ ek).trans ?_,?_⟩
 . have:=Ug (w.alloc a) b;rwa [Ul] at this
 . have:=Ug ((w.alloc a).alloc b) c;rwa [Ul,Ul] at this
structure aa5 (w:ZT) (sb:Nat) (room:Int):Prop where
 ends:w.heap[sb]?=ZW (Z4 (mV 0 0 0 0 ZU 0 (Z5 ZX 0 0) (Z6 (ZW ⟨sb,0,ZX⟩)) (Z6 (ZW ⟨sb,0,ZX⟩))) 261 (0,0))
 map:∃ n,w.heap[sb+1]?=ZW (.map #[] n)
 list:w.heap[sb+1+1]?=ZW (Z4 #[Z7 Z9 room,.map (ZW (sb+1)),Z6 (ZW ⟨sb,0,ZX⟩)] 264 (0,0))
theorem wg (n:Int) (w:ZT):ZR ZM 119 #[Z7 Z9 n] w λe w'=>e=Z3 (Z6 (ZW ⟨w.heap.size+1+1,0,ZX⟩))/\aa5 w' w.heap.size n/\w'.heap.size=w.heap.size+1+1+1/\bW w w':=by
 have i:∀ w,(Instr.makeMap 262 ZX).run ZM w=.ok (.map (ZW w.heap.size)) (w.alloc (.map #[] 0)):=λ_=>rfl;have a:∀ b c d:Obj,bW w (((w.alloc b).alloc c).alloc d):=λb c d=>((bA w _).alloc ek _).alloc en _;have H:=ak a;clear a;go_enter func119,ntmps119;go_wp2;go_ret;obtain ⟨f,g,h⟩:=mW w (Z4 (mV 0 0 0 0 ZU 0 (Z5 ZX 0 0) (Z6 (ZW ⟨w.heap.size,0,ZX⟩)) (Z6 (ZW ⟨w.heap.size,0,ZX⟩))) 261) (.map #[] 0) (Z4 #[Z7 Z9 n,.map (ZW (w.heap.size+1)),Z6 (ZW ⟨w.heap.size,0,ZX⟩)] 264);exact ⟨rfl,⟨f,⟨0,g⟩,h⟩,ek,H.o _ _ _⟩
theorem zO (n:Int) (w:ZT):ZR ZM 88 #[Z7 Z9 n] w λe w'=>∃ b,e=Z3 (Z6 (ZW ⟨b+1+1+1,0,ZX⟩))/\w.heap.size<=b/\pF w' b n/\bW w w':=by
 go_enter func88,ntmps88;go_wp2_with fail;refine (wg n w).mono ?_;rintro e w1 ⟨rfl,a,d,c⟩;have H:=aE c a d;have g:=c.size;clear c a d;go_wp2;go_ret;obtain ⟨c,a,d⟩:=H.o;have f:bW w1 (w1.alloc (Z4 #[Z6 (ZW ⟨w.heap.size+1+1,0,ZX⟩)] 223)):=bA w1 _;refine ⟨w.heap.size,by rw [d];rfl,TV _,⟨(f.block _ ec).trans a.ends,a.map.imp λ_ q=>(f.block _ ec).trans q,(f.block _ ec).trans a.list,?_⟩,c.trans (f.mono g)⟩;have:=Ug w1 (Z4 #[Z6 (ZW ⟨w.heap.size+1+1,0,ZX⟩)] 223);rwa [d] at this
theorem EB (p D L G:Nat) (n:Int) (w:ZT):ZR ZM 67 #[Z6 (ZW ⟨p,0,ZX⟩),.agg #[Z7 Z9 D,Z7 Z9 L,Z7 Z9 G],Z7 Z9 n] w λe w'=>∃ v b,e=Z3 (Z6 (ZW ⟨v,0,ZX⟩))/\w.heap.size<=v/\bg w' v p D L G (b+1+1+1) 0/\(w.heap.size<=b/\b+1+1+1<v/\pF w' b n)/\bW w w':=by
 obtain ⟨w1,l⟩:=nM (w.alloc (Z4 #[Z7 Z9 (D:Int),Z7 Z9 (L:Int),Z7 Z9 (G:Int)] 27));have d:w1.heap[w.heap.size]?=ZW (Z4 #[Z7 Z9 (D:Int),Z7 Z9 (L:Int),Z7 Z9 (G:Int)] 27 (0,0)):=by rw [<- l];exact Ug w (Z4 #[Z7 Z9 (D:Int),Z7 Z9 (L:Int),Z7 Z9 (G:Int)] 27)
 have k:bW w w1:=by rw [<- l];exact bA w _
 have c0:w1.cell? ⟨w.heap.size,0,ZX⟩=ZW (Z7 Z9 (D:Int)):=K0
 have c1:w1.cell? ⟨w.heap.size,1,ZX⟩=ZW (Z7 Z9 (L:Int)):=K0
 have q:w1.cell? ⟨w.heap.size,2,ZX⟩=ZW (Z7 Z9 (G:Int)):=K0
 have H:=al d k;clear d k;go_enter func67,ntmps67;go_wp2_with fail;go_region_with (go_at_call 88;refine (zO n _).mono ?_;rintro e w2 ⟨b,rfl,g,c,a⟩;have f:=(a.block _ (TX.1 H.o.1).1).trans H.o.1;have r:w2.cell? ⟨w.heap.size,0,ZX⟩=ZW (Z7 Z9 (D:Int)):=V2;have d1:w2.cell? ⟨w.heap.size,1,ZX⟩=ZW (Z7 Z9 (L:Int)):=V2;have s:w2.cell? ⟨w.heap.size,2,ZX⟩=ZW (Z7 Z9 (G:Int)):=V2;have m:=aE g c a;clear g c a f);all_goals (
  go_wp2;go_ret;obtain ⟨g,c,a⟩:=m.o;have h:=H.o.2.size;have t:w1.heap.size<=w2.heap.size:=a.size;have j:=(TW _ w2).alloc lR (Z4 #[Z6 (ZW ⟨p,0,ZX⟩),Z7 Z9 D,Z7 Z9 L,Z7 Z9 G,Z6 (ZW ⟨b+1+1+1,0,ZX⟩),Z7 Z8 0] 139);have i:bW w w2:=H.o.2.drew.trans (a.mono h);exact ⟨_,b,rfl,ec,Ug _ _,⟨TU h g,c.lt,c.below j⟩,i.trans (j.mono i.size)⟩)
def jK (v D L G t f n:Nat) (pg ob:ZS) (off:Bool):Array ZS:=#[Z6 (ZW ⟨v,0,ZX⟩),Z7 Z9 D,Z7 Z9 L,Z7 Z9 G,Z7 Z8 t,Z7 Z9 f,Z7 Z9 n,pg,ob,Z1 off]
def a9 (w:ZT) (a v D L G t f n:Nat) (pg ob:ZS) (off:Bool):Prop:=w.heap[a]?=ZW (Z4 (jK v D L G t f n pg ob off) 146 (0,0))
def mX (v:ZS):Prop:=v=.nilIface\/∃ n:Int,n≠13/\v=.iface 66 (Z7 Z9 n)
def mX.isErr {v:ZS} (h:mX v):isErr v:=by
 rcases h with h|⟨n,_,h⟩
 . exact .inl h
 . exact .inr ⟨_,_,h⟩
section
attribute [local go_sem] Oper.semAt_some
def Nm (w:ZT) (b:Nat):Prop:=∃ cs T z,w.heap[b]?=ZW (Z4 cs T z)/\T≠82
def Nm.lt (h:Nm w b):b<w.heap.size:=by
 obtain ⟨cs,T,z,h,_⟩:=h;exact (TX.1 h).1
def Nm.keep (h:Nm w b) (c:w'.heap[b]?=w.heap[b]?):Nm w' b:=by
 obtain ⟨cs,T,z,h,a⟩:=h;exact ⟨cs,T,z,c.trans h,a⟩
def bf (K:Nat->Prop) (w:ZT) (v:ZS) (l:a8):Prop:=
 ∃ ao c,v=.slice ao l.length c/\l.length<=1000000/\(l≠[]->∃ b off,ao=ZW ⟨b,off,ZX⟩/\K b/\Nm w b/\∀ i (hi:i<l.length),w.cell? ⟨b,off+i,ZX⟩=ZW (Z7 Z9 ((l[i]:Nat):Int)))
structure Ob where
 name:ByteArray
 size:Nat
 RK:a8
def eN (K:Nat->Prop) (w:ZT) (v:ZS) (os:List Ob):Prop:=
 ∃ ao c,v=.slice ao os.length c/\os.length<=1000000/\(os≠[]->∃ b off,ao=ZW ⟨b,off,ZX⟩/\K b/\Nm w b/\∀ i (hi:i<os.length),∃ sv,
  w.cell? ⟨b,off+i*3,ZX⟩=ZW (.string os[i].name)/\w.cell? ⟨b,off+i*3+1,ZX⟩=ZW (Z7 Z9 (os[i].size:Nat))/\w.cell? ⟨b,off+i*3+2,ZX⟩=ZW sv/\bf K w sv os[i].RK)
def ef (K:Nat->Prop) (w w':ZT):Prop:=w.heap.size<=w'.heap.size/\∀ k,k<w.heap.size->K k->w'.heap[k]?=w.heap[k]?
def ef.refl (K:Nat->Prop) (w:ZT):ef K w w:=⟨TV _,λ_ _ _=>rfl⟩
def ef.trans {a b c:ZT} (h:ef K a b) (k:ef K b c):ef K a c:=⟨TU h.1 k.1,λi d e=>(k.2 i (T7 d h.1) e).trans (h.2 i d e)⟩
def ef.RM (h:bW w w'):ef K w w':=⟨h.size,λk a _=>h.block k a⟩
def bf.Sz {v:ZS} {l:a8} (h:bf K w v l) (e:∀ k,Nm w k->K k->w'.heap[k]?=w.heap[k]?):bf K w' v l:=by
 obtain ⟨ao,c,f,g,j⟩:=h;refine ⟨ao,c,f,g,λhl=>?_⟩;obtain ⟨b,off,n,a,d,o⟩:=j hl;exact ⟨b,off,n,a,d.keep (e b d a),λi m=>(Uk (e b d a)).trans (o i m)⟩
def eN.Sz {v:ZS} {os:List Ob} (h:eN K w v os) (d:∀ k,Nm w k->K k->w'.heap[k]?=w.heap[k]?):eN K w' v os:=by
 obtain ⟨ao,c,g,j,l⟩:=h;refine ⟨ao,c,g,j,λhl=>?_⟩;obtain ⟨b,off,n,e,f,o⟩:=l hl;refine ⟨b,off,n,e,f.keep (d b f e),λi m=>?_⟩;obtain ⟨sv,p,q,r,s⟩:=o i m;have a:=d b f e;exact ⟨sv,(Uk a).trans p,(Uk a).trans q,(Uk a).trans r,s.Sz d⟩
def bf.keep {v:ZS} {l:a8} (h:bf K w v l) (a:ef K w w'):bf K w' v l:=h.Sz λk q=>a.2 k q.lt
def eN.keep {v:ZS} {os:List Ob} (h:eN K w v os) (a:ef K w w'):eN K w' v os:=h.Sz λk q=>a.2 k q.lt
def bf.nil (K:Nat->Prop) (w:ZT):bf K w (Z5 ZX 0 0) []:=⟨ZX,0,rfl,ee,λh=>absurd rfl h⟩
def eN.nil (K:Nat->Prop) (w:ZT):eN K w (Z5 ZX 0 0) []:=⟨ZX,0,rfl,ee,λh=>absurd rfl h⟩
def af (os:List Ob):a8:=os.flatMap (·.RK)
def EC (os:List Ob) (k:Nat) (a:k<os.length):af (os.take (k+1))=af (os.take k)++os[k].RK:=by
 have e:os.take (k+1)=os.take k++[os[k]]:=by rw [Ve,Uc a];rfl
 rw [e];unfold af;rw [WN];simp
def nr (x:Nat):Array ZS:=#[Z7 Z9 (x:Int)]
def BZ {os:List Ob} (m:Nat) (b:k<os.length):af (os.take k)++(os[k].RK).take m<+:af os:=by
 have a:af os=af (os.take k)++(os[k].RK++af (os.drop (k+1))):=by
  have e:af (os.take k++os[k]::os.drop (k+1))=af (os.take k)++(os[k].RK++af (os.drop (k+1))):=by unfold af;rw [WN,VL]
  rwa [<- X5 b,Wn] at e
 rw [a];refine (ab5 _).2 ?_;exact (List.take_prefix m _).trans (XW _ _)
theorem lF (K:Nat->Prop) (n l b1:Nat) (v:ZS) (os:List Ob) (J V:a8->ZT->Prop) (k6:∀ pre A B,J pre A->bW A B->J pre B)
 (G:a8) (hY:∀ pre x W,J pre W->pre++[x]<+:G->YieldAt Fence.wide (n-1) ZM l (nr x) W λe W'=>(e=Z3 (Z1 ZV)/\J (pre++[x]) W'/\ef K W W')\/(e=Z3 (Z1 ZU)/\V (pre++[x]) W'))
 (a:a8) (k7:a++af os<+:G) (W:ZT) (L:W.cell? ⟨b1,0,ZX⟩=ZW v) (N:eN K W v os) (X:J a W) :
 CallsIn Fence.wide n ZM 144 #[.func (.yield l) #[] #[],Z6 (ZW ⟨b1,0,ZX⟩)] W λe W'=>(∃ v,e=Z3 v) /\
  ((J (a++af os) W')\/(∃ pre,pre<+:af os/\V (a++pre) W')):=by
 obtain ⟨ao,c,rfl,ka,t⟩:=id N;refine Xv func144 rfl trivial ?_ rfl;simp only [ntmps144,UH,UA,UV,YG,YH,Vg,Vh,Vj,Vk,Uq,US];have U:=al N X;clear N X t;gi_wp2;gi_loopw [9] (λp wr=>∃ k:Nat,p=Z7 Z9 (k:Nat)/\k<=os.length/\J (a++af (os.take k)) wr/\eN K wr (.slice ao os.length c) os)
  (λp _=>os.length-(intOf p).toNat)
 case atStart=>
  exact ⟨0,rfl,T8 _,by simpa [af] using U.o.2,U.o.1⟩
 case round=>
  obtain ⟨k,rfl,hk,r,z⟩:=hrel;by_cases g:k<os.length
  . obtain ⟨hd,c',j,_,t⟩:=id z;obtain ⟨b,off,I,kg,kh,hx⟩:=t (λe=>by rw [e] at g;simp at g);simp only [Vx] at j;obtain ⟨rfl,_,rfl⟩:=j;subst I;obtain ⟨sv,r1,r2,r3,F⟩:=hx k g;obtain ⟨so,sc,rfl,kc,s⟩:=id F;obtain ⟨st,R⟩:=nM (os[k].RK);obtain ⟨NN,Z⟩:=nM (os.length);obtain ⟨nm,hz⟩:=nM (os[k].name);obtain ⟨sz,k5⟩:=nM (((os[k].size:Nat):Int));rw [R] at r3 F kc s;rw [hz] at r1;rw [k5] at r2;have H:=a6 r z F R Z;clear r z t hx F s R Z hz k5;gi_wp2;obtain ⟨wx,S⟩:=nM (wr.alloc (Z4 #[.string nm,Z7 Z9 sz,.slice so st.length sc] 152));have D:bW wr wx:=(by rw [<- S];exact bA wr _);rw [S];clear S;have hv:=k6 _ _ _ H.o.1 D;have hr:=H.o.2.1.keep (ef.RM D);have hs:=H.o.2.2.1.keep (ef.RM D);gi_loopw [16] (λp T=>∃ m:Nat,p=Z7 Z9 (m:Nat)/\m<=st.length/\J (a++(af (os.take k)++st.take m)) T/\eN K T (Z5 (ZW ⟨b,off,ZX⟩) os.length c) os/\bf K T (.slice so st.length sc) st)
     (λp _=>st.length-(intOf p).toNat)
    case atStart=>
     exact ⟨0,rfl,T8 _,oD hv,hr,hs⟩
    case round=>
     clear hv hr hs D;obtain ⟨m,rfl,hm,f,w,C⟩:=hrel;by_cases q:m<st.length
     . obtain ⟨kj,ki,j,_,s⟩:=id C;obtain ⟨b2,hb,I,kf,k8,Y⟩:=s (λe=>by rw [e] at q;simp at q);simp only [Vx] at j;obtain ⟨rfl,_,rfl⟩:=j;subst I;have g1:=Y m q;obtain ⟨y,E⟩:=nM (st[m]);rw [E] at g1;have k0:(a++(af (os.take k)++st.take m))++[y]<+:G:=by
        have L:=BZ (os:=os) (m+1) g;rw [H.o.2.2.2.1,Ve,Uc q,E] at L;have h2:=((ab5 a).2 L).trans k7;simpa using h2
       obtain ⟨fn,tmps,assign,body,ke,hR⟩:=hY _ y _ f k0;clear k0;unfold nr at ke;have d:=a6 f w C hR E;clear f w C hR s Y E;gi_wp2;refine ⟨λh=>vE,d.o.2.2.2.1.mono ?_⟩;have u:a++(af (os.take k)++st.take m)++[y]=a++(af (os.take k)++st.take (m+1)):=by
        have e:st.take (m+1)=st.take m++[y]:=(by rw [Ve,Uc q,d.o.2.2.2.2];rfl);rw [e];simp
       rintro e W3 (⟨rfl,P,Q⟩|⟨rfl,M⟩)
       . rw [u] at P;have i:=aE P (d.o.2.1.keep Q) (d.o.2.2.1.keep Q);clear P Q u;gi_wp2;go_roundw
         case rel=>exact ⟨m+1,eT,ec,i.o.1,i.o.2.1,i.o.2.2⟩
         case measure=>simp only [intOf];omega
       . rw [u] at M;have i:=ak M;clear M u;gi_wp2;refine Ut (XI rfl _ _ _) rfl ?_;have hp:=BZ (os:=os) (m+1) g;rw [H.o.2.2.2.1] at hp;exact ⟨⟨_,rfl⟩,.inr ⟨_,hp,i.o⟩⟩
     . have kb:m=st.length:=ec;subst kb;rw [VA] at f;have O:=EC os k g;rw [H.o.2.2.2.1] at O;rw [<- O] at f;have d:=al f w;clear f w C O;gi_wp2;go_roundw
       case rel=>exact ⟨k+1,eT,ec,d.o.1,d.o.2⟩
       case measure=>simp only [intOf];omega
  . have k9:k=os.length:=ec;subst k9;rw [VA] at r;have HJ:=ak r;clear r z;gi_wp2;go_end0
    exact ⟨⟨_,rfl⟩,.inl HJ.o⟩
def KX {α:Type} {pre l:List α} {x:α} (h:pre++[x]<+:l):pre.length<l.length:=by
 have:=h.length_le;rw [Ua,ab6] at this;omega
def tI (K:Nat->Prop) (n l b1:Nat) (v:ZS) (os:List Ob) (J b:a8->ZT->Prop) (f:∀ pre A B,J pre A->bW A B->J pre B)
 (N:Nat) (i:∀ pre x W,J pre W->pre.length<N->YieldAt Fence.wide (n-1) ZM l (nr x) W λe W'=>(e=Z3 (Z1 ZV)/\J (pre++[x]) W'/\ef K W W')\/(e=Z3 (Z1 ZU)/\b (pre++[x]) W'))
 (a:a8) (k:a.length+(af os).length<=N) (W:ZT) (d:W.cell? ⟨b1,0,ZX⟩=ZW v) (g:eN K W v os) (c:J a W) :
 CallsIn Fence.wide n ZM 144 #[.func (.yield l) #[] #[],Z6 (ZW ⟨b1,0,ZX⟩)] W λe W'=>(∃ v,e=Z3 v) /\
  ((J (a++af os) W')\/(∃ pre,pre<+:af os/\b (a++pre) W')):=
 lF K n l b1 v os J b f (a++af os) (λpre x W h j=>i pre x W h (by have:=KX j;rw [Ua] at this;omega)) a (List.prefix_refl _) W d g c
end
def a9.cells {a f:Nat} {off:Bool} (h:a9 w a v D L G t f n pg ob off):w.cell? ⟨a,0,ZX⟩=ZW (Z6 (ZW ⟨v,0,ZX⟩))/\w.cell? ⟨a,4,ZX⟩=ZW (Z7 Z8 t)/\w.cell? ⟨a,6,ZX⟩=ZW (Z7 Z9 n)/\w.cell? ⟨a,7,ZX⟩=ZW pg/\w.cell? ⟨a,8,ZX⟩=ZW ob:=by
 have b:w.heap[a]?=ZW (Z4 (jK v D L G t f n pg ob off) 146 (0,0)):=h;simp [World.cell?,b,jK]
def a9.keep {off:Bool} (h:a9 w ar v D' L' G' t' f' n' pg ob off) (e:w'.heap[ar]?=w.heap[ar]?):a9 w' ar v D' L' G' t' f' n' pg ob off:=X4 e h
def a9.lt {off:Bool} (h:a9 w ar v D' L' G' t' f' n' pg ob off):ar<w.heap.size:=(TX.1 h).1
theorem fI (h:bg w v p D L G ps ho):ZR ZM 77 #[Z6 (ZW ⟨v,0,ZX⟩)] w λe w'=>e=Z3 (.agg #[Z7 Z9 D,Z7 Z9 L,Z7 Z9 G])/\bW w w'/\w'.heap.size=w.heap.size+1/\w'.heap[w.heap.size]?=ZW (Z4 #[Z7 Z9 D,Z7 Z9 L,Z7 Z9 G] 27 (0,0)):=by
 have q:=h.lt;have f:bg (w.alloc (Z4 #[Z7 Z9 0,Z7 Z9 0,Z7 Z9 0] 27)) v p D L G ps ho:=h.keep (UF _ _ _ q);obtain ⟨c0,c1,l,m,n⟩:=f.cells;have c:bW w (w.alloc (Z4 #[Z7 Z9 0,Z7 Z9 0,Z7 Z9 0] 27)):=bA w _;have a:=Ug w (Z4 #[Z7 Z9 0,Z7 Z9 0,Z7 Z9 0] 27);obtain ⟨w1,d⟩:=nM (w.alloc (Z4 #[Z7 Z9 0,Z7 Z9 0,Z7 Z9 0] 27));rw [d] at c0 c1 l m n c a;have u:w1.cell? ⟨w.heap.size,0,ZX⟩=ZW (Z7 Z9 0):=Zs
 have x:w1.cell? ⟨w.heap.size,1,ZX⟩=ZW (Z7 Z9 0):=Zs
 have y:w1.cell? ⟨w.heap.size,2,ZX⟩=ZW (Z7 Z9 0):=Zs
 have b:∀ k,w1.frozen? ⟨w.heap.size,k,ZX⟩=ZU:=λk=>by simp [World.frozen?,a]
 have r:=b 0;have s:=b 1;have t:=b 2;have g:w1.heap.size=w.heap.size+1:=by rw [<- d];simp
 have H:=aE c a g;clear f c a b h g;go_enter func77,ntmps77;go_wp2;have i:=ag (j:=2) (ag (j:=1) (ag (j:=0) H.o.2.1 (Z7 Z9 (D:Int))) (Z7 Z9 (L:Int))) (Z7 Z9 (G:Int));refine Ut (v:=.agg #[Z7 Z9 D,Z7 Z9 L,Z7 Z9 G]) (Wp results77 _ _ w.heap.size 27 #[Z7 Z9 (D:Int),Z7 Z9 (L:Int),Z7 Z9 (G:Int)] (0,0) _ rfl i underlying27 rfl ei) rfl ?_;exact ⟨rfl,((H.o.1.setCell (p:=⟨w.heap.size,0,ZX⟩) lR _).setCell (p:=⟨w.heap.size,1,ZX⟩) lR _).setCell (p:=⟨w.heap.size,2,ZX⟩) lR _,by simp [World.setCell,H.o.2.2],i⟩
def wh (h:bg w v p D L G ps ho):ZR ZM 77 #[Z6 (ZW ⟨v,0,ZX⟩)] w λe w'=>e=Z3 (.agg #[Z7 Z9 D,Z7 Z9 L,Z7 Z9 G])/\bW w w':=(fI h).mono λ_ _ q=>⟨q.1,q.2.1⟩
theorem dE (h:bg w v p D L G ps ho) (f:D<=1000):ZR ZM 100 #[Z6 (ZW ⟨v,0,ZX⟩)] w λe w'=>e=Z3 (Z7 Z9 ((D*44:Nat):Int))/\w'=w:=by
 obtain ⟨c0,c1,b,c,d⟩:=h.cells;have a:((D*44:Nat):Int)=(D:Int)*44:=ec
 rw [a];go_enter func100,ntmps100;go_wp2;go_ret;exact ⟨rfl,rfl⟩
theorem kH {a f:Nat} {off:Bool} (d:a9 w a v D' L' G' t f n pg ob off) (h:bg w v p D L G ps ho) (i:1<=D) (c:D<=1000):ZR ZM 141 #[Z6 (ZW ⟨a,0,ZX⟩)] w λe w'=>e=Z3 (Z7 Z9 ((D*44-4:Nat):Int))/\w'=w:=by
 obtain ⟨c0,_⟩:=d.cells;have b:((D*44-4:Nat):Int)=((D*44:Nat):Int)-4:=ec
 rw [b];have g:=dE h c;have b1:D*44<=44000:=ec
 generalize D*44=q at *;go_enter func141,ntmps141;go_wp2_with fail;refine g.mono ?_;rintro e w' ⟨rfl,rfl⟩;go_wp2;go_ret;exact ⟨rfl,rfl⟩
theorem length_nil (w:ZT):ZR ZM 104 #[Z5 ZX 0 0] w λe w'=>e=Z3 (Z7 Z9 0)/\w'=w:=by
 go_enter func104,ntmps104;go_wp2;refine VH 1 ?_;rw [Vz];go_wp2;go_ret;exact ⟨rfl,rfl⟩
section
variable {w:ZT} {p:Nat} {A:az} {F:aK}
theorem ED (h:aA w p A F):ZR ZM 66 #[Z6 (ZW ⟨p,0,ZX⟩)] w λe w'=>e=Z3 (Z7 Z9 A.n)/\w'=w:=by
 obtain ⟨R,a,b⟩:=h;obtain ⟨c0,c1⟩:=a.RQ;rw [b.n] at c0;go_enter func66,ntmps66;go_wp2;go_ret;exact ⟨rfl,rfl⟩
theorem iN (h:ah w p R F) (a:0<R.n):ZR ZM 38 #[Z6 (ZW ⟨p,0,ZX⟩)] w λe w'=>e=Z3 (Z7 Z9 R.nb)/\w'=w:=by
 obtain ⟨c0,c1⟩:=h.RQ;obtain ⟨b,d1,c,d⟩:=h.R3 0 a;rw [abt,Uj] at d1;go_enter func38,ntmps38;go_wp2;go_ret;exact ⟨rfl,rfl⟩
def tJ (h:aA w p A F) (c:0<A.n):ZR ZM 38 #[Z6 (ZW ⟨p,0,ZX⟩)] w λe w'=>e=Z3 (Z7 Z9 A.nb)/\w'=w:=by
 obtain ⟨R,b,a⟩:=h;rw [<- a.nb];exact iN b (by rw [a.n];exact c)
end
section
attribute [local go_sem] Oper.semAt_some
abbrev Mb (s:Nat):={ x:Nat // x<16/\s.testBit x=ZV }
def xN {s:Nat} (x:Mb s):Array ZS:=#[Z7 Z9 (x.1:Int)]
def dF {s:Nat} (pre:List (Mb s)):a8:=pre.map (·.1)
def fw {s:Nat} (pre:List (Mb s)) (x:Mb s):dF (pre++[x])=dF pre++[x.1]:=by unfold dF;simp
def ot (h:n<=16):ab (2^n-1)=YE n:=by
 have:∀ k:Fin 17,ab (2^k.1-1)=YE k.1:=ee
 exact this ⟨n,ec⟩
theorem B1 (n:Nat) (l Bs s:Nat) (z:s<65536) (J f:List (Mb s)->ZT->Prop)
 (w:∀ pre x W,J pre W->pre.length<(ab s).length->YieldAt Fence.wide (n-1) ZM l (xN x) W λe W'=>
  (e=Z3 (Z1 ZV)/\J (pre++[x]) W'/\(aG W->aG W'))\/(e=Z3 (Z1 ZU)/\f (pre++[x]) W'))
 (W:ZT) (D:W.cell? ⟨Bs,0,ZX⟩=ZW (Z7 Z8 s)) (u:aG W) (k:J [] W) :
 CallsIn Fence.wide n ZM 147 #[.func (.yield l) #[] #[],Z6 (ZW ⟨Bs,0,ZX⟩)] W λe W'=>(∃ v,e=Z3 v) /\
  ((∃ j,j.map (·.1)=ab s/\J j W')\/(∃ pre,pre.map (·.1)<+:ab s/\f pre W')):=by
 refine Xv func147 rfl trivial ?_ rfl;simp only [ntmps147,UH,UA,UV,YG,YH,Vg,Vh,Vj,Vk,Uq,US];gi_wp2;gi_loopw [3] (λp wr=>∃ (pre:List (Mb s)) (q:Nat),p=Z7 Z8 q/\q<65536/\ab s=pre.map (·.1)++ab q/\J pre wr/\aG wr)
  (λp _=>(intOf p).toNat)
 case atStart=>
  exact ⟨[],s,rfl,z,rfl,k,u⟩
 case round=>
  obtain ⟨pre,q,rfl,b,c,g,i⟩:=hrel;by_cases a:q=0
  . subst a;gi_wp2;go_end0
    exact ⟨⟨_,rfl⟩,.inl ⟨pre,by rw [c,xH,Ws],g⟩⟩
  . have C:((q:Int) != 0)=ZV:=en;have d:nX q<16/\s.testBit (nX q)=ZV:=cE.1 Zw;obtain ⟨fn,tmps,assign,body,A,t⟩:=w pre ⟨nX q,d⟩ wr g Zw;unfold xN at A;gi_wp2;refine cd (KB q a b wr i) ?_;rintro e w' ⟨rfl,rfl⟩;gi_wp2;refine ⟨λh=>vE,t.mono ?_⟩;rintro e B (⟨rfl,o,r⟩|⟨rfl,m⟩)
    . have E:IntKind.u64.wrap ((q:Int)-1)=((q-1:Nat):Int):=K1;have y:=fH q (q-1) ec ec;rw [Gi a b] at y;gi_wp2;go_roundw
      case rel=>exact ⟨pre++[⟨nX q,d⟩],bB q (nX q),rfl,pC _ _ b,Zw,o,r i⟩
      case measure=>have:=nY a b;simp only [intOf];omega
    . gi_wp2;refine Ut (XI rfl _ _ _) rfl ?_;exact ⟨⟨_,rfl⟩,.inr ⟨pre++[⟨nX q,d⟩],Zw,m⟩⟩
def nt (n Bs s:Nat) (h:s<65536) (w:ZT) (d:Bs<w.heap.size) (g:w.cell? ⟨Bs,0,ZX⟩=ZW (Z7 Z8 s)) (j:3<=w.heap.size) (e:aG w) :
 SeqStopsK Fence.wide n ZM 147 #[Z6 (ZW ⟨Bs,0,ZX⟩)] (xN (s:=s)) Gk (λi=>i.map (·.1)=ab s) (λpre=>pre.map (·.1)<+:ab s) (ab s).length w:=λl J b W a _ _ f c=>
 B1 n l Bs s h J b f W ((a.cell (p:=⟨Bs,0,ZX⟩) d).trans g) (e.mono ec a) c
end
section
attribute [local go_sem] Oper.semAt_some
def aG.keep (h:aG w) (e:w'.heap[1]?=w.heap[1]?):aG w':=λj a=>by
 rw [<- h j a];unfold World.cell?;rw [e]
def aG.lt (h:aG w):1<w.heap.size:=Uf (h 0 ee)
def bV.keep (h:bV w) (e:w'.heap[2]?=w.heap[2]?):bV w':=λj a=>by
 rw [<- h j a];unfold World.cell?;rw [e]
structure wt (D L G:Nat):Prop where
 r:cW D L G=ZV
 d1:1<=D
 d:D<=12
 l1:1<=L
 l4:L<=4
 g:G<=4
 div:D%L=0
 s:D+L+G<=16
structure pG (w:ZT) (v p D L G ps ho:Nat) (A:az) (F:aK):Prop where
 vol:bg w v p D L G ps ho
 arr:aA w p A F
 laid:bV w
 tab:aG w
 room:3<=w.heap.size
 v:¬ F.S v
 g:¬ F.S 2
 t:¬ F.S 1
 n:A.n=D+L+G
 par:wt D L G
def pG.below {A:az} (h:pG w v p D L G ps ho A F) {B:Nat} (a:Below B w w') (b:w.heap.size<=B):pG w' v p D L G ps ho A F:=
 ⟨h.vol.keep (a.block _ (T7 h.vol.lt b)),h.arr.below a b,h.laid.below a (T7 h.laid.lt b),h.tab.keep (a.block _ (T7 h.tab.lt b)),TU h.room a.size,h.v,h.g,h.t,h.n,h.par⟩
def pG.turn {A A':az} (h:pG w v p D L G ps ho A F) (a:aa F.S w w') (b:aA w' p A' F) (c:A'.n=A.n):pG w' v p D L G ps ho A' F:=
 ⟨h.vol.keep (a.block _ h.vol.lt h.v),b,h.laid.keep (a.block _ h.laid.lt h.g),h.tab.keep (a.block _ h.tab.lt h.t),TU h.room a.size,h.v,h.g,h.t,c.trans h.n,h.par⟩
def KY {t8:Nat} {ty:ZP} {x:ZS} {R:Ending->ZT->Prop} (e:fn.results=#[.cell t8 ty]) (c:a.defers=[{ target:=.collected D',args:=#[] }]) (h8:a.tmps.getD t8 ZY=Z6 (ZW ⟨b,0,ZX⟩))
 (hl:∀ w,w.heap[b]?=Z.heap[b]?->(loadVar ty ⟨b,0,ZX⟩).run ZM w=.ok x w) (hK:Z.heap[D']?=ZW (.deferred (ZW []))) (hD:b≠D')
 (hR:R (Z3 x) (Z.putObj D' (.deferred ZX))):bodyPostM Fence.wide n ZM fn R .ret a Z:=by
 obtain ⟨f,g⟩:=a;simp only at c h8;subst c;refine ⟨ek,.inl ⟨_,_,rfl,WA hK,?_⟩⟩;have c0:=hl (Z.putObj D' (.deferred ZX)) (UP hD);refine ⟨x,?_,hR⟩;have d:f[t8]?.getD ZY=Z6 (ZW ⟨b,0,ZX⟩):=oD h8
 simp [results,e,asAddr,d,c0]
theorem B4 {s:Nat} (h:ZO Z b 133 (Z7 Z8 s)) (w:ZT) (e:w.heap[b]?=Z.heap[b]?):(loadVar 133 ⟨b,0,ZX⟩).run ZM w=.ok (Z7 Z8 s) w:=by
 have a:w.cell? ⟨b,0,ZX⟩=ZW (Z7 Z8 s):=(show ZO w b 133 (Z7 Z8 s) from e.trans h).cell;simp [go_sem,a]
end
def Ca (h:k<64):2^k<18446744073709551616:=T7 (VE ee h) lR
theorem eU (x k:Nat) (c:x<18446744073709551616) (d:k<=60) (w:ZT):ZR ZM 78 #[Z7 Z8 x,Z7 Z9 k] w λe w'=>e=Z3 (Z7 Z8 ((x|||2^k:Nat):Int))/\w'=w:=by
 have key:bits .or .u64 (x:Int) (IntKind.u64.wrap (2^k))=((x|||2^k:Nat):Int):=by
  have b:=Ca (k:=k) ec;have e:((2:Int)^k)=((2^k:Nat):Int):=by rw [Xu];rfl
  have a:IntKind.u64.wrap (2^k)=((2^k:Nat):Int):=by
   rw [e,Vb];generalize 2^k=q at *;omega
  rw [a];exact abQ x (2^k) c b
 go_enter func78,ntmps78;go_wp2;go_ret;exact ⟨rfl,rfl⟩
section
attribute [local go_sem] Oper.semAt_some
def jL (f:Nat->Bool) (ds:a8):Nat:=ds.foldl (λs d=>if f d=ZV then s|||2^d else s) 0
def zP {f:Nat->Bool} (ds:a8) {d:Nat} (h:f d=ZU):jL f (ds++[d])=jL f ds:=by unfold jL;rw [Wu];simp [h]
def zQ {f:Nat->Bool} (ds:a8) {d:Nat} (h:f d=ZV):jL f (ds++[d])=jL f ds|||2^d:=by unfold jL;rw [Wu];simp [h]
theorem xO (q:Nat->Bool) (l:a8) (h:∀ d∈l,d<N):jL q l<2^N:=by
 unfold jL;suffices ∀ (l:a8) (s:Nat),(∀ d∈l,d<N)->s<2^N->l.foldl (λs d=>if q d=ZV then s|||2^d else s) s<2^N from this l 0 h (abu ee)
 intro l;induction l with
 | nil=>intro s _ a;exact a
 | cons d l ih=>
  intro s b a;refine ih _ (λx c=>b x Za) ?_;show (if q d=ZV then s|||2^d else s)<2^N;split
  . exact WO a (VE ee (b d ek))
  . exact a
def zR (f:Nat->Bool) (ds:a8) (h:∀ d∈ds,d<16):jL f ds<65536:=xO (N:=16) f ds h
def tK (w:ZT) (b c f h:ZP) (d e g i:ZS):∃ a,(((w.alloc (Z4 #[d] b)).alloc (Z4 #[e] c)).alloc (Z4 #[g] f)).alloc (Z4 #[i] h)=a/\(ZO a w.heap.size b d/\ZO a (w.heap.size+1) c e/\ZO a (w.heap.size+1+1) f g/\ZO a (w.heap.size+1+1+1) h i)/\a.heap.size=w.heap.size+4/\bW w a:=by
 have j:=Us (w.alloc (Z4 #[d] b)) c e;have k:=Us ((w.alloc (Z4 #[d] b)).alloc (Z4 #[e] c)) f g;have l:=Us (((w.alloc (Z4 #[d] b)).alloc (Z4 #[e] c)).alloc (Z4 #[g] f)) h i;simp only [Ul] at j k l;exact ⟨_,rfl,⟨(((Us w _ _).alloc _).alloc _).alloc _,(j.alloc _).alloc _,k.alloc _,l⟩,ek,(((bA w _).alloc ek _).alloc en _).alloc en _⟩
structure Il (w:ZT) (v p b:Nat) (T:ZP) (u:ZS) (f:Nat->bG) (A:az) (F:aK) (B S:Nat) (pre:List (Mb S)) (X:ZT):Prop where
 b0:ZO X w.heap.size 140 (Z6 (ZW ⟨v,0,ZX⟩))
 b1:ZO X (w.heap.size+1) 3 (Z7 Z9 b)
 b2:ZO X (w.heap.size+1+1) T u
 b3:ZO X (w.heap.size+1+1+1) 133 (Z7 Z8 (jL A.lost (dF pre):Nat))
 arr:aA X p (A.putAt (dF pre) b f) F
 out:aa F.S w X
 size:B<=X.heap.size
section
variable {w:ZT} {v p D L G ps ho b:Nat} {T:ZP} {u:ZS} {f:Nat->bG} {A:az} {F:aK} {B S:Nat}
def Il.own (t:w.heap.size+4<=B) (r:∀ k,F.S k->k<w.heap.size):OwnFrom B (Il w v p b T u f A F B S):=by
 rintro pre X Y row ⟨d,g,h,i,j,l,m⟩ c s;have a:∀ k,k<w.heap.size+4->Y.heap[k]?=X.heap[k]?:=λk a=>c.block k ec (λe=>e9 ((s k e.symm).1));exact ⟨(a _ ec).trans d,(a _ ec).trans g,(a _ ec).trans h,(a _ ec).trans i,j.keep λk n=>a k (e9 (r k n)),l.later (T:=λk=>w.heap.size<=k) ⟨c.os,c.tape,c.output,c.size,λk o q=>a k ec⟩ (λk o q=>ec),TU m c.size⟩
def Il.next {pre:List (Mb S)} {x:Mb S} (h:pG w v p D L G ps ho A F) (a:Il w v p b T u f A F B S pre X) (I:w.heap.size+4<=B) (C:aA w2 p (A.putAt (dF pre++[x.1]) b f) F) (i:aa F.S X w2) :
 ∀ Y,(Y=w2/\jL A.lost (dF pre++[x.1])=jL A.lost (dF pre))\/Y=w2.setCell ⟨w.heap.size+1+1+1,0,ZX⟩ (Z7 Z8 (jL A.lost (dF pre++[x.1]):Nat)) ->
 (X.heap.size<=Y.heap.size/\∀ k o,B<=k->X.heap[k]?=ZW o->Y.heap[k]?=ZW o)/\aG Y/\Il w v p b T u f A F B S (pre++[x]) Y:=λY j=>by
 have m:∀ k,F.S k->k<w.heap.size:=λk c=>h.arr.RN c;have g:∀ k,w.heap.size<=k->k<X.heap.size->w2.heap[k]?=X.heap[k]?:=λk c y=>i.block k y (λq=>e9 (m k q));have d:∀ k,k≠w.heap.size+1+1+1->Y.heap[k]?=w2.heap[k]?:=λk c=>by
  rcases j with ⟨rfl,_⟩|rfl
  . rfl
  . exact Ud _ _ _ _ c
 have l:Y.heap.size=w2.heap.size/\Y.os=w2.os/\Y.tape=w2.tape/\Y.output=w2.output:=by
  rcases j with ⟨rfl,_⟩|rfl
  . exact ⟨rfl,rfl,rfl,rfl⟩
  . exact ⟨oB,rfl,rfl,rfl⟩
 have s:=a.b3.lt;have:=i.size;have:=a.size;have n:aa F.S w Y:=(a.out.trans i).later (T:=λk=>k=w.heap.size+1+1+1) ⟨l.2.1,l.2.2.1,l.2.2.2,ec,λk _ z=>d k z⟩ (λk E H=>ec);have r:ZO w2 (w.heap.size+1+1+1) 133 (Z7 Z8 (jL A.lost (dF pre):Nat)):=(g _ ec s).trans a.b3;refine ⟨⟨ec,λk o c ho=>(d k ec).trans ((g k ec (TX.1 ho).1).trans ho)⟩,h.tab.keep (n.block _ h.tab.lt h.t),
  ⟨(d _ ec).trans ((g _ ec ec).trans a.b0),(d _ ec).trans ((g _ ec ec).trans a.b1),(d _ ec).trans ((g _ ec ec).trans a.b2),?_,by rw [fw];exact C.keep λk c=>d k (e9 (m k c)),n,ec⟩⟩
 rw [fw];rcases j with ⟨rfl,e⟩|rfl
 . rw [e];exact r
 . exact r.set _
def Il.done {pre:List (Mb S)} (c:Il w v p b T u f A F B S pre X) (g:dF pre=ab S) (j:∀ k,F.S k->k<w.heap.size) (o:fn.results=#[.cell 8 133]) (l:a.defers=[{ target:=.collected D',args:=#[] }]) (h8:a.tmps.getD 8 ZY=Z6 (ZW ⟨w.heap.size+1+1+1,0,ZX⟩)) (hK:X.heap[D']?=ZW (.deferred (ZW []))) (hD:B<=D') (hB:w.heap.size+4<=B) :
 bodyPostM Fence.wide n ZM fn (λe w'=>e=Z3 (Z7 Z8 (jL A.lost (ab S):Nat))/\aA w' p (A.putAt (ab S) b f) F/\aa F.S w w') .ret a (X.setCell ⟨w.heap.size+1+1+1,0,ZX⟩ (Z7 Z8 (jL A.lost (dF pre):Nat))):=by
 have h:=(V5 X ⟨w.heap.size+1+1+1,0,ZX⟩ (Z7 Z8 (jL A.lost (dF pre):Nat))).same D' _ hK rfl;refine KY (b:=w.heap.size+1+1+1) (t8:=8) o l h8 (B4 (s:=jL A.lost (dF pre)) (c.b3.set _)) h ec ⟨by rw [g],?_,?_⟩
 . have d:=c.arr;rw [g] at d;exact d.keep λk m=>by have:=j k m;exact (UP ec).trans (Ud _ _ _ _ (by show k≠w.heap.size+1+1+1;omega))
 . exact c.out.later (T:=λk=>w.heap.size<=k) ⟨rfl,rfl,rfl,by simp [World.setCell,World.putObj],λk _ i=>(UP ec).trans (Ud _ _ _ _ (by show k≠w.heap.size+1+1+1;omega))⟩ (λk q i=>ec)
end
theorem eZ {A:az} (g:pG w v p D L G ps ho A F) (b S:Nat) (hb:b<A.nb) (hS:S<65536) (k6:∀ i,i∈ab S->i<A.n) (r:bG) (hr:r.ok) :
 ZR ZM 118 #[Z6 (ZW ⟨v,0,ZX⟩),Z7 Z9 b,dI r,Z7 Z8 S] w λe w'=>e=Z3 (Z7 Z8 (jL A.lost (ab S):Nat))/\aA w' p (A.putAt (ab S) b (λ_=>r)) F/\aa F.S w w':=by
 obtain ⟨n,HN⟩:∃ n:Nat,b9 (9<=n):=⟨9,TV _⟩;obtain ⟨rv,I⟩:=nM (dI r);have k9:∃ m l,rv=.iface m l:=by cases r<;>exact ⟨_,_,I.symm⟩
 obtain ⟨m,l,rfl⟩:=k9;rw [I];have HR:=ak I;clear I;have M:∀ k,F.S k->k<w.heap.size:=λk t=>g.arr.RN t;refine (Vd (n:=n)).1 ?_;refine Wh func118 rfl trivial ?_ rfl;simp only [ntmps118,UH,UA,UV,YG,YH,Vg,Vh,Vj,Vk,Uq,US];gi_wp2;obtain ⟨a,hy,⟨U,V,W,Y⟩,P,hq⟩:=tK w 140 3 215 133 (Z6 (ZW ⟨v,0,ZX⟩)) (Z7 Z9 (b:Int)) (.iface m l) (Z7 Z8 0);rw [hy];clear hy;refine cd (dK S a) ?_;rintro e w' ⟨rfl,rfl⟩;have k0:(a.alloc (Z4 #[Z7 Z8 (S:Int)] 133)).heap.size=a.heap.size+1:=ek
 have hs:(a.alloc (Z4 #[Z7 Z8 (S:Int)] 133)).cell? ⟨a.heap.size,0,ZX⟩=ZW (Z7 Z8 (S:Int)):=(Us a 133 (Z7 Z8 (S:Int))).cell;have H:bW w (a.alloc (Z4 #[Z7 Z8 (S:Int)] 133)):=hq.alloc ec _;have hv:Il w v p b 215 (.iface m l) (λ_=>r) A F (a.heap.size+1) S [] (a.alloc (Z4 #[Z7 Z8 (S:Int)] 133)):=
  ⟨U.alloc _,V.alloc _,W.alloc _,Y.alloc _,by rw [show dF ([]:List (Mb S))=[] from rfl,wV];exact g.arr.below H lR,aa.RL H _,ec⟩
 obtain ⟨w6,hz⟩:=nM (a.alloc (Z4 #[Z7 Z8 (S:Int)] 133));have Z:=ak hs;have z:=al hv H;have k5:=ak P;clear hs hv U V W Y hq H P;gi_wp2;obtain ⟨P,kc⟩:w.heap.size+4<=a.heap.size/\a.heap.size<=w.heap.size+4:=e9 k5.out
 rw [hz] at k0 Z z;clear hz;rw [<- k0] at z;refine Wi rfl (e9 HN.o) (gf:=147) (lb:=#[Z6 (ZW ⟨a.heap.size,0,ZX⟩)]) rfl trivial (U5 func147 ei rfl)
  (nt (n-1) a.heap.size S hS w6 ec Z.out (e9 g.room) (g.tab.mono (by exact g.tab.lt) z.out.2)) (λh k=>qY h k) (qZ (e9 g.room)) (TW _ _) (λ_=>rfl)
  (Il w v p b 215 (.iface m l) (λ_=>r) A F w6.heap.size S) (λ_ _ _=>False) (Il.own ec M) (λ_ _ _ _ _ h _ _=>h.elim) z.out.1
  (λx=>{ tmps:=#[Z6 (ZW ⟨v,0,ZX⟩),Z7 Z9 (b:Int),.iface m l,Z7 Z8 (S:Int),Z6 (ZW ⟨w.heap.size,0,ZX⟩),Z6 (ZW ⟨w.heap.size+1,0,ZX⟩),Z6 (ZW ⟨w.heap.size+1+1,0,ZX⟩),ZY,Z6 (ZW ⟨w.heap.size+1+1+1,0,ZX⟩),Z7 Z9 (x.1:Int),Z7 Z8 (S:Int),.func (.func 147) #[] #[Z6 (ZW ⟨a.heap.size,0,ZX⟩)],Z7 Z9 (x.1:Int),ZY,ZY,ZY,ZY,ZY,ZY,ZY,ZY,ZY,ZY],defers:=[] }) ?assign ?body ?done ?stop
 case assign=>
  intro l2 x X Kk hK;unfold xN;gi_wp2;exact hK
 case body=>
  rintro l2 pre x X c hg;have ka:x.1∈ab S:=cE.2 x.2;have E:=g.turn c.out c.arr rfl;have ke:=zR A.lost (dF pre) (λd hd=>by obtain ⟨y,_,rfl⟩:=T9.1 hd;exact y.2.1);have J:=oq E.vol E.arr x.1 b (k6 _ ka) hb r hr E.laid;rw [HR.o] at J;have c0:=c.b0.cell;have c1:=c.b1.cell;have c2:=c.b2.cell;have j:=ak c;clear c hg E;gi_wp2;refine dq J ?_;clear J c0 c1 c2;rintro e w2 ⟨y,rfl,B,C,k7⟩;rw [sV A (dF pre) x.1 b (λ_=>r)] at B;have N:=j.o.next (w2:=w2) g ec B C;have T:=ak N;rcases k7 with ⟨s,rfl⟩|⟨s,q,rfl,-⟩
  . have HL:=ak s;clear B N C s;gi_wp2;obtain ⟨u,Q,R⟩:=T.o w2 (.inl ⟨rfl,zP (f:=A.lost) _ HL.o⟩);exact ⟨⟨u.1,λk o t ho _=>u.2 k o t ho⟩,λ_=>Q,R⟩
  . have K:ZO w2 (w.heap.size+1+1+1) 133 (Z7 Z8 (jL A.lost (dF pre):Nat)):=(C.block _ j.o.b3.lt (λq=>e9 (M _ q))).trans j.o.b3;have d0:=K.cell;have d1:=K.frozen;have O:=eU (jL A.lost (dF pre)) x.1 ec ec w2;rw [<- zQ (f:=A.lost) _ s] at O;unfold si;clear B C N K s;generalize jL A.lost (dF pre)=ls at *;generalize jL A.lost (dF pre++[x.1])=kf at *;gi_wp2;refine dq O ?_;rintro e w3 ⟨rfl,rfl⟩;clear O;gi_wp2;obtain ⟨u,Q,R⟩:=T.o _ (.inr rfl);exact ⟨⟨u.1,λk o t ho _=>u.2 k o t ho⟩,λ_=>Q,R⟩
 case done=>
  rintro D' xs X hp kb c hK;have c3:=c.b3.cell;have f3:=c.b3.frozen;have j:=al c hK;clear c hK;gi_wp2;exact j.o.1.done kb M results118 rfl rfl j.o.2 hp ec
 case stop=>
  rintro D' cc pre X hp k8 hx hK;exact hx.elim
def NL (w:ZT) (base g:Nat) (R:List a8):Prop:=base<=g/\g<w.heap.size/\∀ i (hi:i<R.length),∃ b off c,w.cell? ⟨g,i,ZX⟩=ZW (Z5 (ZW ⟨b,off,ZX⟩) 44 c)/\base<=b/\b<w.heap.size/\w.rangeAt b off (aJ R[i])/\R[i].length=44/\∀ x∈R[i],x<256
def NL.keep {R:List a8} (h:NL w base g R) (f:w.heap.size<=w'.heap.size) (e:∀ k,base<=k->k<w.heap.size->w'.heap[k]?=w.heap[k]?):NL w' base g R:=by
 obtain ⟨a,d,n⟩:=h;refine ⟨a,T7 d f,λi o=>?_⟩;obtain ⟨b,off,c,q,l,m,r,s⟩:=n i o;exact ⟨b,off,c,(Uk (e g a d)).trans q,l,T7 m f,λj v p=>(Uk (e b l m)).trans (r j v p),s⟩
theorem lf {A:az} (t:pG w v p D L G ps ho A F) (b S:Nat) (hb:b<A.nb) (r:S<65536) (kr:∀ i,i∈ab S->i<A.n)
 {g m c base:Nat} {R:List a8} (hR:NL w base g R) (hv:∀ i,i∈ab S->i<R.length) (hm:R.length<=m) (h4:∀ k,F.S k->k<base) :
 ZR ZM 86 #[Z6 (ZW ⟨v,0,ZX⟩),Z7 Z9 b,Z5 (ZW ⟨g,0,ZX⟩) m c,Z7 Z8 S] w λe w'=>e=Z3 (Z7 Z8 (jL A.lost (ab S):Nat))/\aA w' p (A.putAt (ab S) b (λi=>.shard (R.getD i []))) F/\aa (F.S) w w':=by
 obtain ⟨n,HN⟩:∃ n:Nat,b9 (9<=n):=⟨9,TV _⟩;have hr:∀ k,F.S k->k<w.heap.size:=λk E=>t.arr.RN E;have k0:∀ i,i∈ab S->(bG.shard (R.getD i [])).ok:=λi a=>by
  have kk:=hv i a;obtain ⟨_,_,_,_,_,_,_,s,B⟩:=hR.2.2 i kk;have e:R.getD i []=R[i]:=by simp [kk]
  rw [e];exact ⟨s,B⟩
 refine (Vd (n:=n)).1 ?_;refine Wh func86 rfl trivial ?_ rfl;simp only [ntmps86,UH,UA,UV,YG,YH,Vg,Vh,Vj,Vk,Uq,US];gi_wp2;obtain ⟨l,km,⟨h0,O,I,h3⟩,kb,kh⟩:=tK w 140 3 108 133 (Z6 (ZW ⟨v,0,ZX⟩)) (Z7 Z9 (b:Int)) (Z5 (ZW ⟨g,0,ZX⟩) m c) (Z7 Z8 0);rw [km];clear km;refine cd (dK S l) ?_;rintro e w' ⟨rfl,rfl⟩;have kc:(l.alloc (Z4 #[Z7 Z8 (S:Int)] 133)).heap.size=l.heap.size+1:=ek
 have k7:(l.alloc (Z4 #[Z7 Z8 (S:Int)] 133)).cell? ⟨l.heap.size,0,ZX⟩=ZW (Z7 Z8 (S:Int)):=(Us l 133 (Z7 Z8 (S:Int))).cell;have U:bW w (l.alloc (Z4 #[Z7 Z8 (S:Int)] 133)):=kh.alloc ec _;have kj:Il w v p b 108 (Z5 (ZW ⟨g,0,ZX⟩) m c) (λi=>.shard (R.getD i [])) A F (l.heap.size+1) S [] (l.alloc (Z4 #[Z7 Z8 (S:Int)] 133)):=
  ⟨h0.alloc _,O.alloc _,I.alloc _,h3.alloc _,by rw [show dF ([]:List (Mb S))=[] from rfl,wV];exact t.arr.below U lR,aa.RL U _,ec⟩
 obtain ⟨w6,ko⟩:=nM (l.alloc (Z4 #[Z7 Z8 (S:Int)] 133));have ke:=ak k7;have T:=al kj U;have kp:=ak kb;clear k7 kj h0 O I h3 kh U kb;gi_wp2;obtain ⟨kb,q7⟩:w.heap.size+4<=l.heap.size/\l.heap.size<=w.heap.size+4:=e9 kp.out
 rw [ko] at kc ke T;clear ko;rw [<- kc] at T;refine Wi rfl (e9 HN.o) (gf:=147) (lb:=#[Z6 (ZW ⟨l.heap.size,0,ZX⟩)]) rfl trivial (U5 func147 ei rfl)
  (nt (n-1) l.heap.size S r w6 ec ke.out (e9 t.room) (t.tab.mono (by exact t.tab.lt) T.out.2)) (λh k=>qY h k) (qZ (e9 t.room)) (TW _ _) (λ_=>rfl)
  (Il w v p b 108 (Z5 (ZW ⟨g,0,ZX⟩) m c) (λi=>.shard (R.getD i [])) A F w6.heap.size S) (λ_ _ _=>False) (Il.own ec hr) (λ_ _ _ _ _ h _ _=>h.elim) T.out.1
  (λx=>{ tmps:=#[Z6 (ZW ⟨v,0,ZX⟩),Z7 Z9 (b:Int),Z5 (ZW ⟨g,0,ZX⟩) m c,Z7 Z8 (S:Int),Z6 (ZW ⟨w.heap.size,0,ZX⟩),Z6 (ZW ⟨w.heap.size+1,0,ZX⟩),Z6 (ZW ⟨w.heap.size+1+1,0,ZX⟩),ZY,Z6 (ZW ⟨w.heap.size+1+1+1,0,ZX⟩),Z7 Z9 (x.1:Int),Z7 Z8 (S:Int),.func (.func 147) #[] #[Z6 (ZW ⟨l.heap.size,0,ZX⟩)],Z7 Z9 (x.1:Int),ZY,ZY,ZY,ZY,ZY,ZY,ZY,ZY,ZY,ZY,ZY,ZY,ZY,ZY,ZY,ZY,ZY],defers:=[] }) ?assign ?body ?done ?stop
 case assign=>
  intro l2 x X Kk hK;unfold xN;gi_wp2;exact hK
 case body=>
  rintro l2 pre x X a k8;have Y:x.1∈ab S:=cE.2 x.2;have K:=t.turn a.out a.arr rfl;have C:NL X base g R:=hR.keep a.out.size (λk E kx=>a.out.block k kx (λq=>e9 (h4 k q)));have N:=aE a K C;clear k8 a K C;gi_wp2;obtain ⟨a,K,C⟩:=N.o;obtain ⟨bl,off,rc,ki,q8,ks,k5,k6,k7⟩:=C.2.2 x.1 (hv _ Y);have q5:=hv _ Y;obtain ⟨sh,ka⟩:=nM (R[x.1]);have hs:R.getD x.1 []=sh:=by rw [<- ka];simp [q5]
  rw [ka] at k5 k6;have q9:(x.1:Int)<(m:Int):=ec
  have V:(aJ sh).toArray.size=44:=by rw [UH,aX,k6]
  have k9:∀ w',aa F.S X w'->w'.cell? ⟨g,x.1,ZX⟩=ZW (Z5 (ZW ⟨bl,off,ZX⟩) 44 rc)/\w'.rangeAt bl off (aJ sh):=λw' hO=>⟨(Uk (hO.block g C.2.1 λq=>by have:=h4 _ q;have:=C.1;omega)).trans ki,λj u hu=>(Uk (hO.block bl ks λq=>e9 (h4 _ q))).trans (k5 j u hu)⟩;have h5:=λw' (O:aA w' p (A.putAt (dF pre) b (λi=>.shard (R.getD i []))) F) (I:pG w' v p D L G ps ho (A.putAt (dF pre) b (λi=>.shard (R.getD i []))) F)=>oq I.vol O x.1 b (kr _ Y) hb _ (k0 _ Y) I.laid;rw [hs] at h5;obtain ⟨k1,k2⟩:=k9 X (aa.refl _ _);refine bX (eG _) 99 [(0,ZV),(1,ZV),(2,ZV),(3,ZV),(4,ZV),(5,ZV),(6,ZV),(7,ZV),(8,ZV),(9,ZV),(10,ZV),(11,ZU),(12,ZV)] (λw'=>w'.cell? ⟨w.heap.size,0,ZX⟩=ZW (Z6 (ZW ⟨v,0,ZX⟩))/\w'.cell? ⟨w.heap.size+1,0,ZX⟩=ZW (Z7 Z9 b)/\w'.cell? ⟨w.heap.size+1+1,0,ZX⟩=ZW (Z5 (ZW ⟨g,0,ZX⟩) m c)/\w'.cell? ⟨g,x.1,ZX⟩=ZW (Z5 (ZW ⟨bl,off,ZX⟩) 44 rc)/\w'.rangeAt bl off (aJ sh)) ei ei ⟨a.b0.cell,a.b1.cell,a.b2.cell,k1,k2⟩ ?_;iterate 8 (refine aF rfl rfl ?_;apply YF;refine ⟨λw' r=>?_,?_⟩;(obtain ⟨s1,s2,s3,s4,s5⟩:=r;first|(go_simp;done)|(go_simp;exact rfl));simp only [Act.put,TZ,TY,T5])
  refine aF rfl rfl ⟨_,λw' r=>by simp [execOp,Act.eval,abv (P:=ZM) w' bl off 211 (aJ sh) _ r.2.2.2.2 abX rfl (by rw [aX,k6];kernel_rfl)];rfl,?_⟩;have hy:∀ z:Array ZS,z.size=44->Array.foldl (λcs x=>cs.setIfInBounds x.snd x.fst) z (aJ sh).toArray.zipIdx 0 44=(aJ sh).toArray:=λz hz=>xC z _ 44 hz V;have ha:∀ w',aA w' p (A.putAt (dF pre) b (λi=>.shard (R.getD i []))) F->pG w' v p D L G ps ho (A.putAt (dF pre) b (λi=>.shard (R.getD i []))) F->ZR ZM 116 #[Z6 (ZW ⟨v,0,ZX⟩),Z7 Z9 (x.1:Nat),Z7 Z9 (b:Nat),.iface 213 (.agg (aJ sh).toArray)] w' _:=h5;have H:=al ha K;obtain ⟨sa,he⟩:=nM ((aJ sh).toArray);rw [he] at V hy H ⊢;clear h5 ha;iterate 2 (refine aF rfl rfl ?_;apply YF;refine ⟨λw' r=>?_,?_⟩;(obtain ⟨s1,s2,s3,s4,s5⟩:=r;first|(go_simp;done)|(go_simp;exact rfl));simp only [Act.put,TZ,TY,T5])
  refine eR (eG _) (H.o.1 X.drew (H.o.2.arr.keep λ_ _=>rfl) (H.o.2.below ((TW _ X).drew) lR)) rfl rfl nofun ua ?_;rintro e w2 ⟨y,rfl,hq,kg,kz⟩;rw [<- hs,sV A (dF pre) x.1 b (λi=>.shard (R.getD i []))] at hq;have Q:=(aa.drew X).trans kg;obtain ⟨s,B⟩:=k9 w2 Q;have H2:=ak (a.next (w2:=w2) t ec hq Q);have J:∀ k,w.heap.size<=k->k<X.heap.size->w2.heap[k]?=X.heap[k]?:=λk E kv=>Q.block k kv (λq=>e9 (hr k q));have hp:ZO w2 (w.heap.size+1+1+1) 133 (Z7 Z8 (jL A.lost (dF pre):Nat)):=(J _ ec a.b3.lt).trans a.b3;have d0:=hp.cell;have d1:=hp.frozen;have ky:=zR A.lost (dF pre) (λd hd=>by obtain ⟨y,_,rfl⟩:=T9.1 hd;exact y.2.1);have W:=eU (jL A.lost (dF pre)) x.1 ec ec w2;have Z:=YJ (Wj ((J _ ec a.b0.lt).trans a.b0)) (YJ (Wj ((J _ ec a.b1.lt).trans a.b1)) (YJ (Wj ((J _ ec a.b2.lt).trans a.b2)) (YJ s B)));clear hq kg Q a K C ki k5 k9 k1 k2 s B H he kc hs ka J hp ky;rcases kz with ⟨M,rfl⟩|⟨M,q,rfl,-⟩
  . refine ⟨_,rfl,λ_=>Z,?_⟩;simp only [Act.put,TZ,TY,T5];refine aF rfl rfl ?_;apply YF;refine ⟨λw' r=>?_,?_⟩;(obtain ⟨s1,s2,s3,s4,s5⟩:=r;first|(go_simp;done)|(go_simp;exact rfl));simp only [Act.put,TZ,TY,T5];rename_i hK
    refine hK _ _ ?_;have HL:=ak M;clear hK Z hy V W d0 d1 M;gi_wp2;obtain ⟨s,B,q3⟩:=H2.o w2 (.inl ⟨rfl,zP (f:=A.lost) _ HL.o⟩);exact ⟨⟨s.1,λk o E ho _=>s.2 k o E ho⟩,λ_=>B,q3⟩
  . unfold si;refine ⟨_,rfl,λ_=>Z,?_⟩;simp only [Act.put,TZ,TY,T5];refine aF rfl rfl ?_;apply YF;refine ⟨λw' r=>?_,?_⟩;(obtain ⟨s1,s2,s3,s4,s5⟩:=r;first|(go_simp;done)|(go_simp;exact rfl));simp only [Act.put,TZ,TY,T5];rename_i hK
    refine hK _ _ ?_;rw [<- zQ (f:=A.lost) _ M] at W;clear hK Z hy V M;generalize jL A.lost (dF pre)=ls at *;generalize jL A.lost (dF pre++[x.1])=qa at *;gi_wp2;refine dq W ?_;rintro e w3 ⟨rfl,rfl⟩;clear W;gi_wp2;obtain ⟨s,B,q3⟩:=H2.o _ (.inr rfl);exact ⟨⟨s.1,λk o E ho _=>s.2 k o E ho⟩,λ_=>B,q3⟩
 case done=>
  rintro D' xs X kf q6 a hK;have c3:=a.b3.cell;have f3:=a.b3.frozen;have N:=al a hK;clear a hK;gi_wp2;exact N.o.1.done q6 hr results86 rfl rfl N.o.2 kf ec
 case stop=>
  rintro D' cc pre X kf q4 hx hK;exact hx.elim
end
section
attribute [local go_sem] Oper.semAt_some
abbrev Ch (D:Nat):={ i:Nat // i<D }
def DU (g i:Nat):ZS:=Z5 (ZW ⟨g,i*44,ZX⟩) 44 44
def Gp (g:Nat) {D:Nat} (x:Ch D):Array ZS:=#[DU g x.1]
def Kp2 (b1 b2:Nat) (W W':ZT):Prop:=W'.heap[b1]?=W.heap[b1]?/\W'.heap[b2]?=W.heap[b2]?
theorem EE (n l b1 b2 g D:Nat) (O:D<=1000) (J q:List (Ch D)->ZT->Prop) (L:∀ pre W,J pre W->J pre W.drew)
 (N:∀ pre x W,J pre W->pre.length<D->YieldAt Fence.wide (n-1) ZM l (Gp g x) W λe W'=>
  (e=Z3 (Z1 ZV)/\J (pre++[x]) W'/\Kp2 b1 b2 W W')\/(e=Z3 (Z1 ZU)/\q (pre++[x]) W'))
 (W:ZT) (I:W.cell? ⟨b1,0,ZX⟩=ZW (Z5 (ZW ⟨g,0,ZX⟩) (D*44) (D*44))) (K:W.cell? ⟨b2,0,ZX⟩=ZW (Z7 Z9 44)) (G:J [] W) :
 CallsIn Fence.wide n ZM 217 #[.func (.yield l) #[] #[],Z6 (ZW ⟨b1,0,ZX⟩),Z6 (ZW ⟨b2,0,ZX⟩)] W λe W'=>(∃ v,e=Z3 v) /\
  ((∃ B,B.map (·.1)=YE D/\J B W')\/(∃ pre,pre.map (·.1)<+:YE D/\q pre W')):=by
 refine Xv func217 rfl trivial ?_ rfl;simp only [ntmps217,UH,UA,UV,YG,YH,Vg,Vh,Vj,Vk,Uq,US];gi_wp2;gi_loopw [4] (λp wr=>∃ (pre:List (Ch D)) (k:Nat),p=Z7 Z9 (k*44:Nat)/\k<=D/\pre.map (·.1)=YE k/\J pre wr/\wr.cell? ⟨b1,0,ZX⟩=ZW (Z5 (ZW ⟨g,0,ZX⟩) (D*44) (D*44))/\wr.cell? ⟨b2,0,ZX⟩=ZW (Z7 Z9 44))
  (λp _=>D*44-(intOf p).toNat)
 case atStart=>
  exact ⟨[],0,rfl,T8 _,rfl,G,I,K⟩
 case round=>
  obtain ⟨pre,k,rfl,U,d,f,c1,C⟩:=hrel;have t:pre.length=k:=by have:=Ux List.length d;simpa using this
  by_cases m:k<D
  . have V:((k*44:Nat):Int)<((D*44:Nat):Int):=ec;have b:wr.drew.cell? ⟨b1,0,ZX⟩=ZW (Z5 (ZW ⟨g,0,ZX⟩) (D*44) (D*44)):=c1;have c:wr.drew.cell? ⟨b2,0,ZX⟩=ZW (Z7 Z9 44):=C;obtain ⟨fn,tmps,assign,body,A,z⟩:=N pre ⟨k,m⟩ wr.drew (L _ _ f) ec;unfold Gp DU at A;simp only at A;have H:=a5 z f d t;clear z f d t;have P:k*44+44-k*44=44:=ec;have Q:k*44+44<=D*44:=ec;generalize y:k*44=i at *;generalize hh:D*44=a at *;generalize hi:i+44=F at *;have R:¬ ((a-i:Nat):Int)<44:=ec;have S:¬ a=i:=ec;have T:¬ ((a:Nat):Int)<((i:Nat):Int):=ec;gi_wp2;refine bX nU 99 [(0,ZV),(1,ZV),(2,ZV),(3,ZV),(4,ZV),(5,ZV),(6,ZV)] (λw'=>w'.cell? ⟨b1,0,ZX⟩=ZW (Z5 (ZW ⟨g,0,ZX⟩) a a)/\w'.cell? ⟨b2,0,ZX⟩=ZW (Z7 Z9 44)) ei ei ⟨b,c⟩ ?_;iterate 7 (refine aF rfl rfl ?_;apply YF;refine ⟨λw' M=>?_,?_⟩;(obtain ⟨X,Y⟩:=M;first|(go_simp;done)|(go_simp;exact rfl)|(go_simp;omega));simp only [Act.put,TZ,TY,T5])
    refine cH ?_;rename_i hK
    refine hK _ _ ?_;clear hK;gi_wp2;refine ⟨λh=>vE,H.o.1.mono ?_⟩;rintro e r (⟨rfl,u,w⟩|⟨rfl,s⟩)
    . have d1:r.cell? ⟨b1,0,ZX⟩=ZW (Z5 (ZW ⟨g,0,ZX⟩) a a):=(Uk w.1).trans b;have E:r.cell? ⟨b2,0,ZX⟩=ZW (Z7 Z9 44):=(Uk w.2).trans c;have j:=ak u;clear u;gi_wp2;go_roundw
      case rel=>exact ⟨pre++[⟨k,m⟩],k+1,by rw [(ec:(k+1)*44=F)];congr 1;omega,ec,by rw [Uw,H.o.2.2.1,Vw];rfl,j.o,d1,E⟩
      case measure=>simp only [intOf];omega
    . have j:=ak s;clear s;gi_wp2;refine Ut (XI rfl _ _ _) rfl ?_;refine ⟨⟨_,rfl⟩,.inr ⟨pre++[⟨k,m⟩],?_,j.o⟩⟩;rw [Uw,H.o.2.2.1];refine ⟨(YE D).drop (k+1),?_⟩;show YE k++[k]++_=_;rw [<- Vw];have:YE (k+1)=(YE D).take (k+1):=by rw [List.take_range,Wo ec]
      rw [this,Wn]
  . have y:k=D:=ec;subst y;gi_wp2;go_end0
    exact ⟨⟨_,rfl⟩,.inl ⟨pre,d,f⟩⟩
def zS (n b1 b2 g D:Nat) (k:D<=1000) (w:ZT) (i:b1<w.heap.size) (j:b2<w.heap.size) (d:w.cell? ⟨b1,0,ZX⟩=ZW (Z5 (ZW ⟨g,0,ZX⟩) (D*44) (D*44))) (f:w.cell? ⟨b2,0,ZX⟩=ZW (Z7 Z9 44)) :
 SeqStopsK Fence.wide n ZM 217 #[Z6 (ZW ⟨b1,0,ZX⟩),Z6 (ZW ⟨b2,0,ZX⟩)] (Gp g (D:=D)) (Kp2 b1 b2) (λq=>q.map (·.1)=YE D) (λpre=>pre.map (·.1)<+:YE D) D w:=λl J b W a m _ o c=>
 EE n l b1 b2 g D k J b (λpre X h=>m pre X X.drew ZX h ⟨rfl,rfl,rfl,TV _,λ_ _ _=>rfl⟩ (λr e=>Y4)) o W ((a.cell (p:=⟨b1,0,ZX⟩) i).trans d) ((a.cell (p:=⟨b2,0,ZX⟩) j).trans f) c
theorem Im (g D:Nat) (w:ZT) :
 ZR ZM 206 #[Z5 (ZW ⟨g,0,ZX⟩) (D*44) (D*44),Z7 Z9 44] w λe w'=>e=Z3 (.func (.func 217) #[] #[Z6 (ZW ⟨w.heap.size,0,ZX⟩),Z6 (ZW ⟨w.heap.size+1,0,ZX⟩)])/\w'=(w.alloc (Z4 #[Z5 (ZW ⟨g,0,ZX⟩) (D*44) (D*44)] 40)).alloc (Z4 #[Z7 Z9 44] 3):=by
 generalize D*44=a;go_enter func206,ntmps206;go_wp2;go_ret;exact ⟨rfl,rfl⟩
end
section
attribute [local go_sem] Oper.semAt_some
def xP {size:Nat} {v:ZS} {xs:List ZS} (h:w.ownsRow base e size v n xs) {j:Nat} {o:Obj} (a:v.ownBlock=ZW j) (ho:w.heap[j]?=ZW o):o.isCells=ZV:=by
 rcases h.2 with ⟨d,_⟩|⟨g,cap,cur,b,f,c,_⟩
 . rw [d] at a;simp [Value.ownBlock] at a
 . rw [b] at a;simp [Value.ownBlock] at a;subst a;rw [c] at ho;cases ho;rfl
def lG {size:Nat} {v:ZS} {xs:List ZS} (h:w.ownsRow base e size v n xs) (a:w.grownBy w' row) (c:∀ r,row=ZW r->∃ o:Obj,w.heap[r]?=ZW o/\o.isCells=ZU):w'.ownsRow base e size v n xs:=by
 cases row with
 | none=>
  cases hv:v.ownBlock with
  | none=>exact h.kept a (.inl hv)
  | some q=>exact h.kept a (.inr (by rw [hv];intro e;cases e))
 | some r=>
  obtain ⟨o,ho,b⟩:=c r rfl;exact h.kept a (.inr λe=>by have:=xP h e ho;rw [b] at this;cases this)
def tL (w:ZT) (b i:Nat) (v:ZS):w.grownBy (w.setCell ⟨b,i,ZX⟩ v) (ZW b):=
 ⟨rfl,rfl,rfl,oB,λk _ a=>Ud _ _ _ _ (λe=>a Wb)⟩
def Gq {x:ZS} {R:Ending->ZT->Prop} (d:fn.results=#[.tmp t]) (b:a.defers=[{ target:=.collected D',args:=#[] }]) (hx:a.tmps.getD t ZY=x)
 (hK:Z.heap[D']?=ZW (.deferred (ZW []))) (hR:R (Z3 x) (Z.putObj D' (.deferred ZX))):bodyPostM Fence.wide n ZM fn R .ret a Z:=by
 obtain ⟨e,f⟩:=a;simp only at b hx;subst b;refine ⟨ek,.inl ⟨_,_,rfl,WA hK,?_⟩⟩;refine ⟨x,?_,hR⟩;have c:e[t]?.getD ZY=x:=oD hx
 simp [results,d,c]
def ApI (w:ZT) (g:Nat) (B D:Nat) (pre:List (Ch D)) (X:ZT):Prop:=
 (∃ v,ZO X w.heap.size 108 v/\X.ownsRow (w.heap.size+1) 40 1 v pre.length (pre.map λx=>DU g x.1))/\bW w X/\B<=X.heap.size
def ApI.own (i:w.heap.size+1<=B):OwnFrom B (ApI w g B D):=by
 rintro pre X Y row ⟨⟨v,c,f⟩,d,h⟩ a b;exact ⟨⟨v,(a.block _ c.lt (λe=>e9 ((b _ e.symm).1))).trans c,lG f a λr e=>(b r e).2⟩,d.grown a d.size (λk e=>e9 ((b k e).1)),TU h a.size⟩
def Tryz.R7:(ZM.info? 40).map (λi=>(i.zero,i.size,i.bytes))=ZW (ZW (Z5 ZX 0 0),1,24):=ei
def KZ {F:Fence} (t:o.guard=ZX) (x y:ZN) (ho:o.op=.call { callee:=.builtin .append,args:=#[x,y],argTypes:=#[108,108] })
 (n0 q:Nat) (k:Nat) (xs:List ZS) (u v:ZS) (hx:a.eval x=v) (hy:a.eval y=Z5 (ZW ⟨q,0,ZX⟩) 1 1) (h3:w.ownsRow n0 40 1 v k xs) (hc:w.cell? ⟨q,0,ZX⟩=ZW u) (hu:u.oneCell'=ZV) (h7:n0<=w.heap.size) (hk:k<=1000000)
 (hK:∀ c b w2,n0<=c->w2.ownsRow n0 40 1 (Z5 (ZW ⟨c,0,ZX⟩) (k+1) b) (k+1) (xs++[u])->w.grownBy w2 v.ownBlock->wpListIn F n ZM ops Q rest (a.put o.dst (Z5 (ZW ⟨c,0,ZX⟩) (k+1) b)) w2):wpListIn F n ZM ops Q (o::rest) a w:=by
 obtain ⟨A,l,m,p,r⟩:=Uu Tryz.R7;refine wpListIn_append_own w t x y 108 ho n0 40 A (Z5 ZX 0 0) 1 24 VS l m p r rfl ee v k xs hx h3 ⟨q,0,ZX⟩ 1 1 [u] hy rfl (λj u' d=>?_) (λu' f=>by simp at f;subst f;exact hu) eD ec h7 ?_
 . cases j with
   | zero=>simp at d;subst d;exact hc
   | succ j=>simp at d
 . intro B w2 e h _;obtain ⟨c,b,rfl,i⟩:∃ c b,B=Z5 (ZW ⟨c,0,ZX⟩) (k+1) b/\n0<=c:=by
    rcases e.2 with ⟨_,C⟩|⟨g,cap,cur,z,s,_⟩
    . omega
    . exact ⟨g,cap,z,s⟩
   exact hK c b w2 i e h
theorem pH (g D b1 b2:Nat) (P:D<=1000) (w:ZT) (G:b1<w.heap.size) (I:b2<w.heap.size) (N:w.cell? ⟨b1,0,ZX⟩=ZW (Z5 (ZW ⟨g,0,ZX⟩) (D*44) (D*44))) (O:w.cell? ⟨b2,0,ZX⟩=ZW (Z7 Z9 44)) :
 ZR ZM 216 #[Z5 ZX 0 0,.func (.func 217) #[] #[Z6 (ZW ⟨b1,0,ZX⟩),Z6 (ZW ⟨b2,0,ZX⟩)]] w λe w'=>∃ v,e=Z3 v/\w'.ownsRow w.heap.size 40 1 v D ((YE D).map (DU g))/\bW w w':=by
 obtain ⟨n,HN⟩:∃ n:Nat,b9 (9<=n):=⟨9,TV _⟩;refine (Vd (n:=n)).1 ?_;refine Wh func216 rfl trivial ?_ rfl;simp only [ntmps216,UH,UA,UV,YG,YH,Vg,Vh,Vj,Vk,Uq,US];gi_wp2;obtain ⟨w1,s⟩:=nM (w.alloc (Z4 #[Z5 ZX 0 0] 108));have M:ZO w1 w.heap.size 108 (Z5 ZX 0 0):=by rw [<- s];exact Us w _ _
 have k8:w1.heap.size=w.heap.size+1:=by rw [<- s];simp
 have B:bW w w1:=by rw [<- s];exact bA w _
 rw [s];clear s;have T:ApI w g w1.heap.size D [] w1:=⟨⟨_,M,UK _ _ _ _⟩,B,TV _⟩;refine Wi rfl (e9 HN.o) (gf:=217) (lb:=#[Z6 (ZW ⟨b1,0,ZX⟩),Z6 (ZW ⟨b2,0,ZX⟩)]) rfl trivial (U5 func217 ei rfl)
  (zS (n-1) b1 b2 g D P w1 ec ec ((B.cell (p:=⟨b1,0,ZX⟩) G).trans N) ((B.cell (p:=⟨b2,0,ZX⟩) I).trans O)) (λh k=>⟨k.1.trans h.1,k.2.trans h.2⟩) (λW l o o' hl _ _ _=>⟨UP ec,UP ec⟩) (TW _ _) (λ_=>rfl)
  (ApI w g w1.heap.size D) (λ_ _ _=>False) (ApI.own ec) (λ_ _ _ _ _ h _ _=>h.elim) T
  (λx=>{ tmps:=#[Z5 ZX 0 0,.func (.func 217) #[] #[Z6 (ZW ⟨b1,0,ZX⟩),Z6 (ZW ⟨b2,0,ZX⟩)],Z6 (ZW ⟨w.heap.size,0,ZX⟩),ZY,Z5 ZX 0 0,DU g x.1,.func (.func 217) #[] #[Z6 (ZW ⟨b1,0,ZX⟩),Z6 (ZW ⟨b2,0,ZX⟩)],DU g x.1,ZY,ZY,ZY,ZY,ZY],defers:=[] }) ?assign ?body ?done ?stop
 case assign=>
  intro l2 x X Kk hK;unfold Gp;gi_wp2;exact hK
 case body=>
  rintro l2 pre x X ⟨⟨v,f,b⟩,a,y⟩ hq;have c0:=f.cell;have hz:=f.lt;have k7:pre.length<=1000:=ec
  obtain ⟨c,V⟩:=nM (x.1*44);have m:DU g x.1=Z5 (ZW ⟨g,c,ZX⟩) 44 44:=by rw [<- V];rfl
  have Q:(Value.slice (ZW ⟨g,c,ZX⟩) 44 44).oneCell'=ZV:=rfl;have S:(X.alloc (Z4 #[Z5 (ZW ⟨g,c,ZX⟩) 44 44] 40)).cell? ⟨X.heap.size,0,ZX⟩=ZW (Z5 (ZW ⟨g,c,ZX⟩) 44 44):=(Us X 40 (Z5 (ZW ⟨g,c,ZX⟩) 44 44)).cell;have H:=a6 f b a y m;rw [m];clear f b a y m;have C:b9 ((X.alloc (Z4 #[Z5 (ZW ⟨g,c,ZX⟩) 44 44] 40)).ownsRow (w.heap.size+1) 40 1 v pre.length (pre.map λx=>DU g x.1)):=ak (aq H.o.2.1 (bA X _));have L:b9 (w.heap.size+1<=(X.alloc (Z4 #[Z5 (ZW ⟨g,c,ZX⟩) 44 44] 40)).heap.size):=ak en;gi_wp2_with (
   gi_at_builtin;
   refine KZ rfl (Z0 8) (Z0 10) rfl (w.heap.size+1) X.heap.size pre.length (pre.map λx=>DU g x.1) (Z5 (ZW ⟨g,c,ZX⟩) 44 44) v um um (by exact C.o) (by exact S) Q L.o ec ?_;
   intro E d w2 k6 F i;
   have A:ZO w2 w.heap.size 108 v:=(i.block w.heap.size en (λe=>e9 ((H.o.2.1.lt _ e.symm).1))).trans (H.o.1.alloc _);
   have d0:=A.cell;
   have f0:=A.frozen)
  obtain ⟨f,b,a,y,m⟩:=H.o;have Y:∀ q,v.ownBlock=ZW q->w.heap.size+1<=q:=λq e=>(b.lt q e).1;have hy:=i.size;simp only [Ul] at hy;have U:KeepsOthers X w2:=(KeepsOthers.alloc X (Z4 #[Z5 (ZW ⟨g,c,ZX⟩) 44 44] 40)).trans (ab7 i λj o e ho=>xP C.o e ho);have z:∀ k,k<w.heap.size->w2.heap[k]?=X.heap[k]?:=λk u=>(i.block k en (λe=>e9 (Y k e.symm))).trans (UF _ _ _ ec);have J:∀ k,k≠w.heap.size->(w2.setCell ⟨w.heap.size,0,ZX⟩ (Z5 (ZW ⟨E,0,ZX⟩) (pre.length+1) d)).heap[k]?=w2.heap[k]?:=λk u=>Ud _ _ _ _ u;refine ⟨(U.trans (V5 _ _ _)).from _,⟨(J _ ec).trans (z _ G),(J _ ec).trans (z _ I)⟩,⟨_,A.set _,?_⟩,?_,Zc⟩
  . have q:=F.kept (tL w2 w.heap.size 0 (Z5 (ZW ⟨E,0,ZX⟩) (pre.length+1) d)) (.inr λe=>e9 ((F.lt _ e).1));have e:(pre++[x]).map (λx=>DU g x.1)=pre.map (λx=>DU g x.1)++[Z5 (ZW ⟨g,c,ZX⟩) 44 44]:=(by rw [Uw,<- m];rfl);rw [e,Ua];exact q
  . refine (Xs (p:=⟨w.heap.size,0,ZX⟩) ?_ lR _);exact ⟨i.os.trans a.os,i.tape.trans a.tape,i.output.trans a.output,e9 a.size,λk u=>(z k u).trans (a.block k u)⟩
 case done=>
  rintro D' xs X R K ⟨⟨v,f,b⟩,a,y⟩ hK;have c0:=f.cell;have H:=aE b a hK;clear f b a hK;gi_wp2;obtain ⟨b,a,hK⟩:=H.o;have k0:xs.length=D:=by have:=Ux List.length K;simpa using this
  have k5:xs.map (λx=>DU g x.1)=(YE D).map (DU g):=by rw [<- K,List.map_map];rfl
  rw [k0,k5] at b;refine Gq (t:=4) results216 rfl rfl hK ⟨_,rfl,?_,?_⟩
  . exact cV (lG b (Xh X D' (.deferred ZX)) λr e=>by cases e;exact ⟨_,hK,rfl⟩) ec
  . exact Below.RO a ec (TX.1 hK).1 _
 case stop=>
  rintro D' cc pre X R hs Z hK;exact Z.elim
theorem tM (g D b1 b2:Nat) (j:D<=1000) (w:ZT) (h:b1<w.heap.size) (i:b2<w.heap.size) (b:w.cell? ⟨b1,0,ZX⟩=ZW (Z5 (ZW ⟨g,0,ZX⟩) (D*44) (D*44))) (c:w.cell? ⟨b2,0,ZX⟩=ZW (Z7 Z9 44)) :
 ZR ZM 205 #[.func (.func 217) #[] #[Z6 (ZW ⟨b1,0,ZX⟩),Z6 (ZW ⟨b2,0,ZX⟩)]] w λe w'=>∃ v,e=Z3 v/\w'.ownsRow w.heap.size 40 1 v D ((YE D).map (DU g))/\bW w w':=by
 have f:=pH g D b1 b2 j w h i b c;clear b c;go_enter func205,ntmps205;go_wp2_with fail;refine f.mono ?_;rintro e w' ⟨v,rfl,a,d⟩;have H:=al a d;clear f a d;go_wp2;go_ret;exact ⟨_,rfl,H.o.1,H.o.2⟩
def iO (D:Nat) (dl:a8):a8:=dl++YI (D*44-dl.length) 0
def dQ (D:Nat) (dl:a8):List a8:=(YE D).map λi=>((iO D dl).drop (i*44)).take 44
def K2 (h:dl.length<=D*44):(iO D dl).length=D*44:=by unfold iO;simp;omega
def dW (D:Nat) (dl:a8):(dQ D dl).length=D:=by simp [dQ]
def ou (a:i<(dQ D dl).length):(dQ D dl)[i]=((iO D dl).drop (i*44)).take 44:=by simp [dQ]
def mj (h:dl.length<=D*44) (a:i<D):(((iO D dl).drop (i*44)).take 44).length=44:=by
 rw [Uo,Um,K2 h];omega
def Of (h:∀ x∈dl,x<256):∀ x∈iO D dl,x<256:=by
 intro x a;unfold iO at a;rw [Ui] at a;rcases a with a|a
 . exact h x a
 . have:=VF a;omega
theorem QK (h:bg w v p D L G ps ho) (hD:D<=12) (Y:ZS) (dl:a8) (R:Bs w Y dl) (hl:dl.length<=D*44) :
 ZR ZM 190 #[Z6 (ZW ⟨v,0,ZX⟩),Y] w λe w'=>∃ u,e=Z3 u/\Rd w' u (dQ D dl)/\bW w w':=by
 have X:=dE h ec;obtain ⟨b,z⟩:=nM (D*44);have hv:b<=528:=ec
 rw [z] at X hl;have J:=ak R;clear R;go_enter func190,ntmps190;go_wp2_with fail;refine X.mono ?_;rintro e w1 ⟨rfl,rfl⟩;go_wp2_with (at_make;refine cP _ rfl (Z0 7) (Z0 7) rfl _ b um um rfl ec ?_;intro w2 Q A k0;obtain ⟨a,hq,r,U⟩:=BC (n:=b) (cap:=b) (off:=0) 3 Q (J.o.mono A) ec en);have s:bW w1 a:=A.grown U ec (λk e=>B3);have P:spl (YI b 0) 0 dl=iO D dl:=by
  unfold spl iO;rw [Wq,Uq,Uj,X7,z]
 rw [P] at r;have B:=Im w1.heap.size D a;rw [z] at B;have H:=aE r s B;clear hq Q A U r s B P;refine H.o.2.2.mono ?_;rintro e f ⟨rfl,rfl⟩;obtain ⟨f,d⟩:=nM ((a.alloc (Z4 #[Z5 (ZW ⟨w1.heap.size,0,ZX⟩) b b] 40)).alloc (Z4 #[Z7 Z9 44] 3));have t:bW a f:=by rw [<- d];exact (bA a _).alloc ek _
 have hz:f.heap.size=a.heap.size+2:=by rw [<- d];simp
 have M:f.cell? ⟨a.heap.size,0,ZX⟩=ZW (Z5 (ZW ⟨w1.heap.size,0,ZX⟩) (D*44) (D*44)):=by rw [<- d,z];exact ((Us a _ _).alloc _).cell
 have N:f.cell? ⟨a.heap.size+1,0,ZX⟩=ZW (Z7 Z9 44):=by
  have:=(Us (a.alloc (Z4 #[Z5 (ZW ⟨w1.heap.size,0,ZX⟩) b b] 40)) 3 (Z7 Z9 44)).cell;rw [Ul] at this;rw [<- d];exact this
 have T:=tM w1.heap.size D a.heap.size (a.heap.size+1) ec f ec ec M N;rw [d];have I:=al t T;clear d t T M N hz;go_wp2_with fail;refine I.o.2.mono ?_;rintro e F ⟨u,rfl,m,y⟩;have Z:=al m y;clear m y;go_wp2;go_ret;obtain ⟨r,s,_⟩:=H.o;obtain ⟨t,_⟩:=I.o;obtain ⟨m,y⟩:=Z.o;have O:bW a F:=t.trans (y.mono t.size);have hp:aM F w1.heap.size (iO D dl):=r.below O;refine ⟨u,rfl,?_,s.trans (O.mono s.size)⟩;rcases m.2 with ⟨h0,h1⟩|⟨q,cap,cur,K,e2,e3,e4,e5,e6,e7⟩
 . subst h0;have:dQ D dl=[]:=by rw [<- Xl,dW];exact h1
   exact ⟨ZX,0,by rw [this];rfl,by rw [this];decide,λE=>absurd this E⟩
 . refine ⟨ZW ⟨q,0,ZX⟩,cap,by rw [K,dW],by rw [dW];omega,λ_=>⟨q,0,rfl,λi S=>?_⟩⟩;have C:=S;rw [dW] at C;refine ⟨DU w1.heap.size i,?_,?_⟩
   . have:=m.cells (g:=q) (by rw [K];rfl) i (DU w1.heap.size i) (by simp [C]);rw [jG] at this;rw [Uj];exact this
   . rw [ou S];have hg:=mj (D:=D) (dl:=dl) ec C;have hr:F.rangeAt w1.heap.size 0 (aJ (iO D dl)):=λj u hu=>by
      have E:=hp.SO;have hy:(aJ (iO D dl)).toArray[j]?=ZW u:=(oD hu);simp [World.cell?,E,hy]
     have W:=nl 44 (fZ (i*44) hr);rw [Uj] at W;have V:=Bs.mid (c:=44) (l:=((iO D dl).drop (i*44)).take 44) ec ec (λx hx=>Of J.o.lt x (U0 (UX hx))) W;rw [hg] at V;exact V
end
theorem kI (h:bg w v p D L G ps ho) (a:wt D L G):ZR ZM 112 #[Z6 (ZW ⟨v,0,ZX⟩)] w λe w'=>e=Z3 (Z7 Z8 ((2^(D+L+G)-1:Nat):Int))/\bW w w':=by
 obtain ⟨_,c1,k,l,_⟩:=h.cells;have r:=a.d;have u:=a.l4;have t:=a.g;have n:=a.s;clear a;obtain ⟨m,i⟩:=nM (D+L+G);obtain ⟨q,b⟩:=nM (((2^m-1:Nat):Int));rw [i,b];have f:=ak b;clear b;go_enter func112,ntmps112;go_wp2_with fail;refine (du (D:Int) (L:Int) (G:Int) w ⟨ec,ec⟩ ⟨ec,ec⟩ ⟨ec,ec⟩).mono ?_;rintro e j ⟨rfl,c⟩;rw [(ec:((D:Int)+(L:Int)+(G:Int))=(m:Int))];have H:=ak c;clear c;go_wp2_with fail;refine (me m ec j).mono ?_;rw [f.o];rintro e x ⟨rfl,rfl⟩;go_wp2;go_ret;exact ⟨rfl,H.o⟩
def Tryz.S2:(ZM.info? 215).map (λi=>(i.zero,i.size,i.bytes))=ZW (ZW .nilIface,1,16):=ei
def wA (w:ZT) {ops:Array ZQ} {rest:List ZQ} {o:ZQ} {a:Act} {Q:Exit->Act->ZT->Prop}
 (h:o.guard=ZX) (l c:ZN) (e:o.op=Op.makeSlice 182 l c) (C:Int) (n:Nat) (hl:a.eval l=Z7 Z9 C) (g:a.eval c=Z7 Z9 C) (f:C=(n:Int)) (i:n<=1000000)
 (hK:∀ w',w'.rowIs w.heap.size 215 n (λ_=>.nilIface)->bW w w'->w'.heap.size=w.heap.size+1->wpList ZM ops Q rest (a.put o.dst (Z5 (ZW ⟨w.heap.size,0,ZX⟩) n n)) w') :
 wpList ZM ops Q (o::rest) a w:=by
 refine V0 h λK d=>?_;have b:=XZ (P:=ZM) 182 215 .nilIface 16 underlying182 Tryz.S2 rfl .i64 .i64 n ec ec w;subst f;unfold Oper.wp;simp [execOp,e,hl,g,b,Result.andThen];exact d _ _ (hK _ (Xz w _ n _) (bA _ _) (Uh _ _))
def iP (r:bG):∃ a x,dI r=.iface a x:=by cases r<;>exact ⟨_,_,rfl⟩
def fU:Option bG->ZS
 | some r=>dI r
 | none=>.nilIface
def K3 (A:az) (b k i:Nat):ZS:=if i<k then fU (A.RX i b) else .nilIface
def QL {A:az} {r:bG} (h:A.RX k b=ZW r) (i:Nat):(if i=k then dI r else K3 A b k i)=K3 A b (k+1) i:=by
 unfold K3;by_cases e:i=k
 . rw [TT e,TT ec,e,h];rfl
 . rw [TS e];by_cases a:i<k
   . rw [TT a,TT ec]
   . rw [TS a,TS ec]
def QM {A:az} (h:A.RX k b=ZX) (i:Nat):K3 A b k i=K3 A b (k+1) i:=by
 unfold K3;by_cases e:i=k
 . rw [TS ec,TT ec,e,h];rfl
 . by_cases a:i<k
   . rw [TT a,TT ec]
   . rw [TS a,TS ec]
def aa6 (w1:ZT) (g p N b:Nat) (A:az) (F:aK) (i:ZS) (wr:ZT):Prop:=∃ k:Nat,k<=N/\i=Z7 Z9 k/\aA wr p A F/\aa (λj=>j=g\/F.S j) w1 wr/\wr.rowIs g 215 N (K3 A b k)
def Og (w:ZT) (p b:Nat) (A:az) (F:aK) (e:Ending) (w':ZT):Prop:=∃ g,e=Z3 (Z5 (ZW ⟨g,0,ZX⟩) A.n A.n)/\w.heap.size<=g/\w'.rowIs g 215 A.n (λi=>fU (A.RX i b))/\aA w' p A F/\aa (F.S) w w'
theorem iQ {A:az} (c:pG w v p D L G ps ho A F) (b:Nat) (hb:b<A.nb) :
 ZR ZM 89 #[Z6 (ZW ⟨v,0,ZX⟩),Z7 Z9 b] w λe w'=>Og w p b A F e w':=by
 obtain ⟨_,c1,Z,c3,_⟩:=c.vol.cells;have hn:=c.n;have hD:=c.par.d;have hL:=c.par.l4;have hG:=c.par.g;have O:((D:Int)+(L:Int)+(G:Int))=((A.n:Nat):Int):=ec
 have k0:A.n<=1000:=ec
 go_enter func89,ntmps89;go_wp2_with fail;refine (du (D:Int) (L:Int) (G:Int) w ⟨ec,ec⟩ ⟨ec,ec⟩ ⟨ec,ec⟩).mono ?_;rintro e f ⟨rfl,T⟩;rw [O];clear O hn;simp only [];go_wp2_with (at_make;refine wA _ rfl (Z0 13) (Z0 13) rfl _ A.n rfl rfl rfl ec ?_;intro I K U k5);have u:bW w f:=T;have V:bW w I:=u.trans (U.mono u.size);have hr:w.heap.size<=f.heap.size:=u.size;have X:¬ F.S f.heap.size:=λq=>e9 (c.arr.RN q)
 have h:=c.below V lR;have hs:v≠f.heap.size:=λe=>e9 c.vol.lt
 have hq:2≠f.heap.size:=λe=>e9 c.laid.lt
 have M:=h.arr;have Q:I.rowIs f.heap.size 215 A.n (K3 A b 0):=K.congr λi C=>by unfold K3;rw [TS ec]
 clear K T u U c c1 Z c3;go_loopw [17] (λi wr=>aa6 I f.heap.size p A.n b A F i wr) (λi _=>A.n-(intOf i).toNat)
 case atStart=>exact ⟨0,T8 _,rfl,M,aa.refl _ _,Q⟩
 case round=>
  clear M Q;obtain ⟨k,hk,rfl,z,m,B⟩:=hrel;by_cases Y:k<A.n
  . have R:bg wr v p D L G ps ho:=h.vol.keep (m.block _ h.vol.lt (λq=>q.elim hs h.v));have N:bV wr:=h.laid.keep (m.block _ h.laid.lt (λq=>q.elim hq h.g));have J:=rk R z k b Y hb N h.g;have H:=aE m B J;clear R N J z m B;go_wp2_with fail;refine H.o.2.2.mono ?_;rintro e w7 ⟨y,s,hy⟩;have l:w7.rowIs f.heap.size 215 A.n (K3 A b k):=H.o.2.1.of_block (s.block f.heap.size H.o.2.1.lt X);rcases hy with ⟨r,t,rfl⟩|⟨t,q,rfl,-⟩
    . have cS:=l.cell (i:=k) Y;have fS:=l.frozen k;obtain ⟨ty,x,E⟩:=iP r;rw [E];have hz:((k:Nat):Int).toNat=k:=ec;have a:=a6 y (H.o.1.trans (s.mono λ_ _ q=>.inr q)) l t E;clear y s H l t E;go_wp2;refine ⟨⟨k+1,ec,eT,a.o.1.keep λj W=>Ud _ _ _ _ (λe=>X (by have e':j=f.heap.size:=e;rwa [e'] at W)),a.o.2.1.trans (aa.setCell _ _ _ (.inl rfl)),(a.o.2.2.1.set k _).congr λi C=>?_⟩,l7⟩;rw [<- a.o.2.2.2.2];exact QL a.o.2.2.2.1 i
    . unfold si;have a:=a5 y (H.o.1.trans (s.mono λ_ _ q=>.inr q)) l t;clear y s H l t;go_wp2;exact ⟨⟨k+1,ec,eT,a.o.1,a.o.2.1,a.o.2.2.1.congr λi _=>QM a.o.2.2.2 i⟩,l7⟩
  . have hv:k=A.n:=ec;subst hv;have P:aa F.S w wr:=(aa.RL V _).later m λj W q=>q.elim (λe=>ec) id;have H:=aE z P B;clear z m P B;go_wp2;go_ret;exact ⟨_,rfl,hr,H.o.2.2.congr λi C=>(by unfold K3;rw [TT C]),H.o.1,H.o.2.1⟩
def eV (a:Act) (i:Nat) (v:ZS) (h:i<a.tmps.size):(a.put (ZW i) v).eval (.tmp i)=v:=by simp [Act.put,Act.eval,h]
def aB (a:Act) (i j:Nat) (v:ZS) (h:i≠j):(a.put (ZW i) v).eval (.tmp j)=a.eval (.tmp j):=by
 simp [Act.put,Act.eval,Vf,h]
def fJ (a:Act) (d:Option Nat) (v:ZS):(a.put d v).tmps.size=a.tmps.size:=by
 cases d<;>simp [Act.put]
def put_comm (a:Act) (i j:Nat) (v u:ZS) (h:i≠j):(a.put (ZW i) v).put (ZW j) u=(a.put (ZW j) u).put (ZW i) v:=by
 simp only [Act.put];rw [acm _ _ h]
def dG (b:o.guard=ZX):Region.wanted o (yielded ops a.tmps)=ZV:=by simp [Region.wanted,b]
def jf {P:Program} {x:ZN} {v:ZS} (b:o.guard=ZX) (ho:o.op=.move x) (c:a.eval x=v):Yields P ops o v a:=
 .inl ⟨dG b,λw=>by simp [execOp,ho,c]⟩
def rg:Code->Nat->Option (Array ZQ)
 | .region i ops _,n=>if i=n then ZW ops else ZX
 | .seq a b,n=>(rg a n).orElse λ_=>rg b n
 | .cond _ a b,n=>(rg a n).orElse λ_=>rg b n
 | .block _ a,n=>rg a n
 | .loop a,n=>rg a n
 | .scope a,n=>rg a n
 | _,_=>ZX
noncomputable def QN:Array ZQ:=((Tryz.f123.body.bind (rg · 12))).getD #[]
def aaB (l:a8):Array Bool:=l.foldl (λa i=>a.setIfInBounds i ZV) (YK 12 ZU)
def gO:(YE 12).map (λi=>(QN[i]?).map λo=>(o.op,o.dst,o.guard))=[
 ZW (.move (Z0 4),ZW 28,ZX),ZW (.move (Z0 6),ZW 29,ZX),ZW (.move (Z0 6),ZW 30,ZX),ZW (.indexAddr 281 (Z0 3) (Z0 30),ZW 31,ZX),
 ZW (.load 113 (Z0 31),ZW 32,ZX),ZW (.move (Z0 4),ZW 33,ZX),ZW (.indexAddr 281 (Z0 3) (Z0 33),ZW 34,ZX),ZW (.load 113 (Z0 34),ZW 35,ZX),
 ZW (.indexAddr 281 (Z0 3) (Z0 28),ZW 36,ZX),ZW (.store 113 (Z0 36) (Z0 32),ZX,ZX),ZW (.indexAddr 281 (Z0 3) (Z0 29),ZW 37,ZX),ZW (.store 113 (Z0 37) (Z0 35),ZX,ZX)]:=ei
def gP {x:Op} {d:Option Nat} (f:i<12) (h:((YE 12).map (λi=>(QN[i]?).map λo=>(o.op,o.dst,o.guard)))[i]?=ZW (ZW (x,d,ZX))):∃ o,QN[i]?=ZW o/\o.op=x/\o.dst=d/\o.guard=ZX:=by
 simp only [UD,Ww f,WV,UB,Wk,WW] at h;obtain ⟨o,a,b,c,e⟩:=h;exact ⟨o,a,b,c,e⟩
theorem ox (gb p:Nat) (e:p<64) {o:ZQ} {a:Act} {x y:ZN} (ho:o.op=.indexAddr 281 x y) (b:a.eval x=Z6 (ZW ⟨gb,0,ZX⟩)) (c:a.eval y=Z7 Z9 (p:Nat)) (w:ZT) :
 (execOp a.eval o).run ZM w=.ok (.value (Z6 (ZW ⟨gb,p*64,ZX⟩))) w:=by
 have d:(p:Int)<64:=ec
 simp only [execOp,ho,b,c];go_simp
def Tryz.S8:(ZM.info? 113).map (λi=>i.size)=ZW 64:=ei
def K4 (a:Act) (gb p r:Nat) (cp cr:List ZS):Act:=
 ((((((((((a.put (ZW 28) (Z7 Z9 (r:Nat))).put (ZW 29) (Z7 Z9 (p:Nat))).put (ZW 30) (Z7 Z9 (p:Nat))).put (ZW 33) (Z7 Z9 (r:Nat))).put (ZW 31) (Z6 (ZW ⟨gb,p*64,ZX⟩))).put (ZW 34) (Z6 (ZW ⟨gb,r*64,ZX⟩))).put (ZW 32) (.agg cp.toArray)).put (ZW 35) (.agg cr.toArray)).put (ZW 36) (Z6 (ZW ⟨gb,r*64,ZX⟩))).put ZX ZY).put (ZW 37) (Z6 (ZW ⟨gb,p*64,ZX⟩)) |>.put ZX ZY
theorem K5 (gb p r:Nat) (cp e:List ZS) (hR:QN=ops) (g:∀ c n v a w,Q (.panic c) (a.put (ZW n) v) w->Q (.panic c) a w)
 (l:a.tmps.size=47) (Z:p<64) (hr:r<64) (e3:a.eval (Z0 3)=Z6 (ZW ⟨gb,0,ZX⟩)) (T:a.eval (Z0 4)=Z7 Z9 (r:Nat)) (U:a.eval (Z0 6)=Z7 Z9 (p:Nat))
 (lp:cp.length=64) (lr:e.length=64) (op:cp.toArray.all (λv=>v.oneCell')=ZV) (or:e.toArray.all (λv=>v.oneCell')=ZV)
 (X:w.drew.rangeAt gb (p*64) cp) (Y:w.drew.rangeAt gb (r*64) e) (tr:w.drew.there gb (r*64) 64) (tp:w.drew.there gb (p*64) 64)
 (h:Q .normal (K4 a gb p r cp e) ((w.drew.setCells gb (r*64) cp).setCells gb (p*64) e)):(Code.region 12 ops ZV).wp ZM Q a w:=by
 subst hR;obtain ⟨o0,g0,x0,J,k0⟩:=gP (i:=0) ee M2;obtain ⟨o1,g1,x1,d1,k1⟩:=gP (i:=1) ee M2;obtain ⟨o2,g2,x2,L,k2⟩:=gP (i:=2) ee M2;obtain ⟨o3,g3,x3,M,k3⟩:=gP (i:=3) ee M2;obtain ⟨o4,V,x4,N,k4⟩:=gP (i:=4) ee M2;obtain ⟨o5,g5,x5,O,k5⟩:=gP (i:=5) ee M2;obtain ⟨o6,g6,x6,P,k6⟩:=gP (i:=6) ee M2;obtain ⟨o7,W,x7,R,k7⟩:=gP (i:=7) ee M2;obtain ⟨o8,g8,x8,S,k8⟩:=gP (i:=8) ee M2;obtain ⟨o9,g9,x9,d9,k9⟩:=gP (i:=9) ee M2;obtain ⟨h3,x,F,d10,z⟩:=gP (i:=10) ee M2;obtain ⟨h4,y,G,d11,A⟩:=gP (i:=11) ee M2;have f:Region.noSelect QN=ZV:=ei
 have h1:QN.size=12:=ei
 refine wp_region_any ei ?_;rw [h1];change wpAny _ _ _ _ _ (aaB []) _ (World.drew _);refine W4 g0 f ei ei (λc a w h=>g c _ _ a w (by rw [J] at h;exact h)) (jf k0 x0 T) ?_;rw [J];refine W4 g1 f ei ei (λc a w h=>g c _ _ a w (by rw [d1] at h;exact h)) (jf (v:=Z7 Z9 (p:Nat)) k1 x1 (by rw [aB _ _ _ _ ee];exact U)) ?_;rw [d1];refine W4 g2 f ei ei (λc a w h=>g c _ _ a w (by rw [L] at h;exact h)) (jf (v:=Z7 Z9 (p:Nat)) k2 x2 (by rw [aB _ _ _ _ ee,aB _ _ _ _ ee];exact U)) ?_;rw [L];refine W4 g5 f ei ei (λc a w h=>g c _ _ a w (by rw [O] at h;exact h)) (jf (v:=Z7 Z9 (r:Nat)) k5 x5 (by rw [aB _ _ _ _ ee,aB _ _ _ _ ee,aB _ _ _ _ ee];exact T)) ?_;rw [O];generalize hb:(((a.put (ZW 28) (Z7 Z9 (r:Nat))).put (ZW 29) (Z7 Z9 (p:Nat))).put (ZW 30) (Z7 Z9 (p:Nat))).put (ZW 33) (Z7 Z9 (r:Nat))=b;have sb:b.tmps.size=47:=by rw [<- hb];simp only [fJ,l]
 have b3:b.eval (Z0 3)=Z6 (ZW ⟨gb,0,ZX⟩):=by rw [<- hb];simp only [aB _ _ _ _ (ee:(33:Nat)≠3),aB _ _ _ _ (ee:(30:Nat)≠3),aB _ _ _ _ (ee:(29:Nat)≠3),aB _ _ _ _ (ee:(28:Nat)≠3),e3]
 have q:b.eval (Z0 30)=Z7 Z9 (p:Nat):=by rw [<- hb,aB _ _ _ _ ee,eV _ _ _ Zx]
 have s:b.eval (Z0 33)=Z7 Z9 (r:Nat):=by rw [<- hb,eV _ _ _ Zx]
 have m:b.eval (Z0 28)=Z7 Z9 (r:Nat):=by rw [<- hb,aB _ _ _ _ ee,aB _ _ _ _ ee,aB _ _ _ _ ee,eV _ _ _ (by simp only [l];decide)]
 have o:b.eval (Z0 29)=Z7 Z9 (p:Nat):=by rw [<- hb,aB _ _ _ _ ee,aB _ _ _ _ ee,eV _ _ _ Zx]
 unfold K4 at h;rw [hb] at h;clear hb;refine W4 g3 f ei ei (λc a w h=>g c _ _ a w (by rw [M] at h;exact h)) (.inl ⟨dG k3,ox gb p Z x3 b3 q⟩) ?_;rw [M];refine W4 g6 f ei ei (λc a w h=>g c _ _ a w (by rw [P] at h;exact h)) (.inl ⟨dG k6,ox gb r hr x6 (by rw [aB _ _ _ _ ee];exact b3) (by rw [aB _ _ _ _ ee];exact s)⟩) ?_;rw [P];generalize hc:(b.put (ZW 31) (Z6 (ZW ⟨gb,p*64,ZX⟩))).put (ZW 34) (Z6 (ZW ⟨gb,r*64,ZX⟩))=c;have sc:c.tmps.size=47:=by rw [<- hc];simp only [fJ,sb]
 have c3:c.eval (Z0 3)=Z6 (ZW ⟨gb,0,ZX⟩):=by rw [<- hc,aB _ _ _ _ ee,aB _ _ _ _ ee,b3]
 have t:c.eval (Z0 28)=Z7 Z9 (r:Nat):=by rw [<- hc,aB _ _ _ _ ee,aB _ _ _ _ ee,m]
 have u:c.eval (Z0 29)=Z7 Z9 (p:Nat):=by rw [<- hc,aB _ _ _ _ ee,aB _ _ _ _ ee,o]
 have j:c.eval (Z0 31)=Z6 (ZW ⟨gb,p*64,ZX⟩):=by rw [<- hc,aB _ _ _ _ ee,eV _ _ _ (by rw [sb];decide)]
 have k:c.eval (Z0 34)=Z6 (ZW ⟨gb,r*64,ZX⟩):=by rw [<- hc,eV _ _ _ (by simp only [fJ,sb];decide)]
 rw [hc] at h;clear hc;have H:(ZM.info? 113).map (λi=>i.size)=ZW cp.length:=by rw [lp];exact Tryz.S8
 have I:(ZM.info? 113).map (λi=>i.size)=ZW e.length:=by rw [lr];exact Tryz.S8
 have fin:wpAny ZM .any QN Q 4 (aaB [0,1,2,5,3,6,4,7]) ((c.put (ZW 32) (.agg cp.toArray)).put (ZW 35) (.agg e.toArray)) w.drew:=by
  generalize hd:(c.put (ZW 32) (.agg cp.toArray)).put (ZW 35) (.agg e.toArray)=d;have sd:d.tmps.size=47:=by rw [<- hd];simp only [fJ,sc]
  have q3:d.eval (Z0 3)=Z6 (ZW ⟨gb,0,ZX⟩):=by rw [<- hd,aB _ _ _ _ ee,aB _ _ _ _ ee,c3]
  have B:d.eval (Z0 28)=Z7 Z9 (r:Nat):=by rw [<- hd,aB _ _ _ _ ee,aB _ _ _ _ ee,t]
  have C:d.eval (Z0 29)=Z7 Z9 (p:Nat):=by rw [<- hd,aB _ _ _ _ ee,aB _ _ _ _ ee,u]
  have D:d.eval (Z0 32)=.agg cp.toArray:=by rw [<- hd,aB _ _ _ _ ee,eV _ _ _ (by rw [sc];decide)]
  have E:d.eval (Z0 35)=.agg e.toArray:=by rw [<- hd,eV _ _ _ (by simp only [fJ,sc];decide)]
  rw [hd] at h;clear hd;refine W4 g8 f ei ei (λc a w h=>g c _ _ a w (by rw [S] at h;exact h)) (.inl ⟨dG k8,ox gb r hr x8 q3 B⟩) ?_;rw [S];refine Yg (rs:=[9]) ei ek ?_;refine XO g9 (λK hK=>?_) Yh;rw [TT (dG k9)];refine wp_store_mid 113 (Z0 36) (Z0 32) x9 gb (r*64) cp.toArray (by rw [eV _ _ _ (by rw [sd];decide)]) (by rw [aB _ _ _ _ ee,D]) (by simpa [lp] using tr) (oD H) op ?_;refine hK _ _ ?_;rw [d9];refine W4 x f ei ei (λc a w h=>g c _ _ a w (by rw [d10] at h;exact h)) (.inl ⟨dG z,ox gb p Z F (by show (d.put (ZW 36) _).eval _=_;rw [aB _ _ _ _ ee];exact q3) (by show (d.put (ZW 36) _).eval _=_;rw [aB _ _ _ _ ee];exact C)⟩) ?_;rw [d10];refine Yg (rs:=[11]) ei ek ?_;refine XO y (λK hK=>?_) Yh;rw [TT (dG A)];refine wp_store_mid 113 (Z0 37) (Z0 35) G gb (p*64) e.toArray (by rw [eV _ _ _ (by show 37<(d.put (ZW 36) _).tmps.size;rw [fJ,sd];decide)]) (by rw [aB _ _ _ _ ee];show (d.put (ZW 36) _).eval _=_;rw [aB _ _ _ _ ee,E]) (by simpa [lr] using World.there_setCells tp gb (r*64) cp) (oD I) or ?_;refine hK _ _ ?_;rw [d11];exact wpAny_done ei h _
 refine Yg (rs:=[4,7]) ei ek ?_;refine XO V (λK hK=>?_) (XO W (λK hK=>?_) Yh)
 . rw [TT (dG k4)];refine abw 113 (Z0 31) x4 gb (p*64) j cp _ X Yi rfl H ?_;refine hK _ _ ?_;rw [N];refine Yg (rs:=[7]) ei ek ?_;refine XO W (λK hK=>?_) Yh;rw [TT (dG k7)];refine abw 113 (Z0 34) x7 gb (r*64) (by rw [aB _ _ _ _ ee];exact k) e _ Y Yi rfl I ?_;refine hK _ _ ?_;rw [R];exact fin
 . rw [TT (dG k7)];refine abw 113 (Z0 34) x7 gb (r*64) k e _ Y Yi rfl I ?_;refine hK _ _ ?_;rw [R];refine Yg (rs:=[4]) ei ek ?_;refine XO V (λK hK=>?_) Yh;rw [TT (dG k4)];refine abw 113 (Z0 31) x4 gb (p*64) (by rw [aB _ _ _ _ ee];exact j) cp _ X Yi rfl H ?_;refine hK _ _ ?_;rw [N,put_comm _ _ _ _ _ ee];exact fin
def pI {P:Program} (w:ZT) (t u q e:ZP) (k:IntKind) (i:TypeInfo) (z:ZS) (l:P.underlying t=ZW (.slice e)) (m:P.underlying u=ZW (.int k)) (g:P.info? e=ZW i) (p:i.zero=ZW z) (f:i.bytes=1) (j:i.size=1)
 (n:Nat) (a:0<n) (r:n<=1000000) :
 (Builtin.append_ #[t,u] q #[Z5 ZX 0 0,Z7 Z9 n]).run P w =
  .ok (Z5 (ZW ⟨w.heap.size,0,ZX⟩) n (grownCap w n 0 e)) (w.drew.alloc (Z4 (Builtin.zeroCells z.cells n++Builtin.zeroCells z.cells (grownCap w n 0 e-n)) e)):=by
 have h:n≠0:=ec
 have d:¬ (9223372036854775807<(n:Int)):=ec
 have o:IntKind.i64.wrap (n:Int)=n:=l3
 have hl:¬ ((n:Int)<0):=ec
 have c:¬ (281474976710656<Builtin.nextslicecap n 0):=by rw [nextslicecap_zero a];omega
 have b:¬ (281474976710656<(n:Int)):=ec
 simp [Builtin.append_,UL l,UL m,sizeOf,typeInfo,zeroValue,g,p,f,j,h,d,c,b,o,hl,Question.forced,run_firstCells_none,newRow,grownCap,asInt,asIntOf]
def Tryz.R5:(ZM.info? 5).map (λi=>(i.zero,i.size,i.bytes))=ZW (ZW (Z7 .u8 0),1,1):=ei
def Io (w:ZT) (n c:Nat) (b:n<=c) (a:c<=maxLen):(w.drew.alloc (Z4 (Builtin.zeroCells (Value.cells (Z7 .u8 0)) n++Builtin.zeroCells (Value.cells (Z7 .u8 0)) (c-n)) 5)).ownsRow w.heap.size 5 1 (Z5 (ZW ⟨w.heap.size,0,ZX⟩) 0 c) 0 []:=by
 refine ⟨rfl,.inr ⟨w.heap.size,c,_,rfl,TV _,Ug w.drew _,T8 _,a,?_,ek⟩⟩;simp [Builtin.zeroCells,Value.cells];omega
def zT {P:Program} (w w':ZT) {ops:Array ZQ} {rest:List ZQ} {o:ZQ} {a:Act} {Q:Exit->Act->ZT->Prop} (b:o.guard=ZX) (s x:ZN) (t tx:ZP)
 (ho:o.op=.call { callee:=.builtin .append,args:=#[s,x],argTypes:=#[t,tx] }) (v u v':ZS) (hv:a.eval s=v) (hu:a.eval x=u) (hr:∀ c,(Builtin.append_ #[t,tx] c #[v,u]).run P w=.ok v' w')
 (h:wpList P ops Q rest (a.put o.dst v') w'):wpList P ops Q (o::rest) a w:=by
 refine V0 b λK hK=>?_;unfold Oper.wp execOp;simp only [ho,resolve,invoke,builtin,UE,VP,UT,YC,U1,Wr,hv,hu,hr];exact hK _ _ h
theorem K6 (n:Nat) (r:n<=1000000) (w:ZT):ZR ZM 170 #[Z5 ZX 0 0,Z7 Z9 n] w λe w'=>∃ v,e=Z3 v/\w'.ownsRow w.heap.size 5 1 v 0 []/\bW w w':=by
 obtain ⟨s,k,m,p,q⟩:=Uu Tryz.R5;by_cases j:0<n
 . have a:=λt=>pI (P:=ZM) w 40 3 t 5 .i64 s (Z7 .u8 0) Un WQ k m q p n j r;have f:n<=grownCap w n 0 5:=abo w n 0 5;have d:grownCap w n 0 5<=maxLen:=abp w n 0 5 eD;have c:=Io w n (grownCap w n 0 5) f d;have b:bW w (w.drew.alloc (Z4 (Builtin.zeroCells (Value.cells (Z7 .u8 0)) n++Builtin.zeroCells (Value.cells (Z7 .u8 0)) (grownCap w n 0 5-n)) 5)):=(TW _ w).drew.alloc lR _;obtain ⟨cp,g⟩:=nM (grownCap w n 0 5);rw [g] at a f d c b;obtain ⟨w2,h⟩:=nM (w.drew.alloc (Z4 (Builtin.zeroCells (Value.cells (Z7 .u8 0)) n++Builtin.zeroCells (Value.cells (Z7 .u8 0)) (cp-n)) 5));rw [h] at a c b;have H:=al c b;have i:=ak a;clear c b h g d a;go_enter func170,ntmps170;go_wp2_with (show wpList _ _ _ ({ dst:=ZW 22,op:=_,type:=_,pos:=_,after:=_,guard:=_ }::_) _ _;refine zT w w2 rfl (Z0 20) (Z0 21) 40 3 rfl (Z5 ZX 0 0) (Z7 Z9 n) (Z5 (ZW ⟨w.heap.size,0,ZX⟩) n cp) rfl rfl (by exact i.o) ?_);go_ret;exact ⟨_,rfl,H.o.1,H.o.2⟩
 . have l:n=0:=ec;subst l;go_enter func170,ntmps170;go_wp2;go_ret;exact ⟨_,rfl,UK _ _ _ _,TW _ _⟩
def dY {size:Nat} {v:ZS} {xs:List ZS} (h:w.ownsRow base e size v n xs) {k:Nat} (a:v.ownBlock=ZW k):base<=k:=by
 rcases h.2 with ⟨c,_⟩|⟨g,cap,cur,b,d,_⟩
 . rw [c] at a;simp [Value.ownBlock] at a
 . rw [b] at a;simp [Value.ownBlock] at a;omega
def CcR (w:ZT) (K:Nat) (s i:ZS) (wr:ZT):Prop:=∃ k:Nat,k<=K/\i=Z7 Z9 k/\s=Z7 Z9 ((44*k:Nat):Int)/\wr=w
def CdR (w:ZT) (R:List a8) (v i:ZS) (wr:ZT):Prop:=∃ k:Nat,k<=R.length/\i=Z7 Z9 k/\wr.ownsRow w.heap.size 5 1 v (44*k) (aJ (R.take k).flatten)/\bW w wr
theorem Ip {c:Nat} {R:List a8} (T:NL w base g R) (W:R.length<=1000):ZR ZM 136 #[Z5 (ZW ⟨g,0,ZX⟩) R.length c] w λe w'=>∃ v,e=Z3 v/\w'.ownsRow w.heap.size 5 1 v (44*R.length) (aJ R.flatten)/\bW w w':=by
 obtain ⟨i0,Z,hx,hy,hz⟩:=Uu Tryz.R5;obtain ⟨K,hK⟩:=nM (R.length);obtain ⟨_,Y,G⟩:=T;have f:=al G hK;rw [hK] at W ⊢;clear G hK;go_enter func136,ntmps136;go_wp2_with fail;go_loopw [3,11] (λs i wr=>CcR w K s i wr) (λ_ i _=>K-(intOf i).toNat)
 case atStart=>exact ⟨0,T8 _,rfl,rfl,rfl⟩
 case round=>
  obtain ⟨k,k6,rfl,rfl,P⟩:=hrel;obtain rfl:w=wr:=P.symm;clear P;by_cases D:k<K
  . obtain ⟨b,off,l,c1,B,m,n,p,C⟩:=f.o.1 k (by rw [f.o.2];exact D);clear B m n p C;have y:((44*k:Nat):Int)+44=((44*(k+1):Nat):Int):=ec;have U:44*(k+1)<=44000:=ec;obtain ⟨M,r⟩:=nM (44*k);obtain ⟨M',A⟩:=nM (44*(k+1));rw [r,A] at y;rw [A] at U;rw [r];go_wp2;refine ⟨⟨k+1,ec,eT,by rw [A],rfl⟩,l7⟩
  . have hv:k=K:=ec;subst hv;obtain ⟨M,r⟩:=nM (44*k);have k0:M<=44000:=ec;rw [r];go_wp2_with fail;refine (K6 M ec w).mono ?_;rintro e w1 ⟨v,rfl,d,a⟩;have t:=al d a;clear d a;go_wp2_with fail;go_loopw [6,27] (λv i F=>CdR w R v i F) (λ_ i _=>k-(intOf i).toNat)
    case atStart=>exact ⟨0,T8 _,rfl,t.o.1,t.o.2⟩
    case round=>
     clear t;obtain ⟨j,hr,rfl,d,a⟩:=hrel;rw [f.o.2] at hr;by_cases D:j<k
     . have J:j<R.length:=(by rw [f.o.2];exact D);obtain ⟨b,off,l,c1,B,m,n,p,C⟩:=f.o.1 j J;have Q:wr.cell? ⟨g,j,ZX⟩=ZW (Z5 (ZW ⟨b,off,ZX⟩) 44 l):=(Uk (a.block g Y)).trans c1;have z:Src ZM 1 40 (Z5 (ZW ⟨b,off,ZX⟩) 44 l) 44 (aJ R[j]) wr:=Vl wr Un ⟨b,off,ZX⟩ 44 l (aJ R[j]) (by rw [aX,p]) (λq u hq=>by have I:wr.cell? ⟨b,off+q,ZX⟩=ZW u:=(Uk (a.block b m)).trans (n q u hq);unfold Addr.add;split<;>first|exact I|(rename_i S;subst S;exact I)) (λu hu=>by
        obtain ⟨x,_,rfl⟩:=T9.1 hu;rfl)
       have h:aJ (R.take (j+1)).flatten=aJ (R.take j).flatten++aJ R[j]:=by
        rw [Ve,Uc J,YL,ab8,bJ];simp
       obtain ⟨E,N⟩:=nM (aJ R[j]);obtain ⟨rt,L⟩:=nM (aJ (R.take j).flatten);rw [N] at z h;rw [L] at d h;have O:=a.size;have H:=a5 d a z h;have k5:44*j+44<=44000:=ec;clear d a z h B m n p C c1 N L;go_wp2_with (show wpList _ _ _ ({ dst:=ZW 33,op:=_,type:=_,pos:=_,after:=_,guard:=_ }::_) _ _;refine ae _ rfl (Z0 31) (Z0 32) 40 40 rfl w.heap.size 5 i0 (Z7 .u8 0) 1 1 Un Z hx hy hz rfl _ (44*j) rt um acr _ um 44 E (by exact H.o.2.2.1) eD ec (by exact O) ?_;intro v' w3 V X _);obtain ⟨d,a,_,h⟩:=H.o;refine ⟨⟨j+1,by rw [f.o.2];omega,eT,?_,a.grown X O λq e=>dY d e⟩,l7⟩;rw [h,(ec:44*(j+1)=44*j+44)];exact V
     . have hs:j=k:=ec;subst hs;have H:=al d a;clear d a;go_wp2;go_ret;refine ⟨_,rfl,?_,H.o.2⟩;have:=H.o.1;rw [UI (by rw [f.o.2];exact TV _)] at this;exact this
def mid (f:Nat->ZS) (g F:Nat->Nat) (c off k j:Nat):ZS:=if off<=j/\j<off+k then Z7 .u8 ((g j^^^gm c (F (j-off)):Nat):Int) else f j
def AdM (w:ZT) (b t N off k c tb fb foff:Nat) (f:Nat->ZS) (g F:Nat->Nat) (i:ZS) (wr:ZT):Prop:=
 ∃ j:Nat,j<=k/\i=Z7 Z9 j/\wr.rowIs b t N (mid f g F c off j)/\mh wr tb c/\(∀ i,i<k->wr.cell? ⟨fb,foff+i,ZX⟩=ZW (Z7 .u8 ((F i:Nat):Int)))/\w.grownBy wr (ZW b)
def K7 (f:Nat->ZS) (g F:Nat->Nat) (c off j x:Nat):mid f g F c off (j+1) x=if x=off+j then Z7 .u8 ((g (off+j)^^^gm c (F j):Nat):Int) else mid f g F c off j x:=by
 unfold mid;by_cases h:x=off+j
 . subst h;rw [TT rfl,TT ec,WY]
 . rw [TS h];by_cases a:off<=x/\x<off+j
   . rw [TT a,TT ec]
   . rw [TS a,TS ec]
theorem K8 (f:Nat->ZS) (g F:Nat->Nat) (c off:Nat):mid f g F c off 0=f:=by
 funext j;unfold mid;rw [TS ec]
theorem K9 {g F:Nat->Nat} {off:Nat} (a:∀ j,off<=j->j<off+n->f j=Z7 .u8 ((g j:Nat):Int)) (j:Nat):mid f g F 0 off n j=f j:=by
 unfold mid;split
 . rename_i h;rw [bI,U4,a j h.1 h.2]
 . rfl
theorem zU (b t N off n cap p d s c:Nat) (f:Nat->ZS) (g F:Nat->Nat) (w:ZT) (E:c<256) (B:w.rowIs b t N f) (C:∀ j,off<=j->j<off+n->f j=Z7 .u8 ((g j:Nat):Int)) (P:∀ j,g j<256) (L:∀ j,F j<256) (hn:off+n<=N) (k6:n<=140737488355328)
 (V:∀ i,i<n->w.cell? ⟨p,d+i,ZX⟩=ZW (Z7 .u8 ((F i:Nat):Int))) (k7:p≠b\/d+n<=off\/off+n<=d) :
 ZR ZM 179 #[Z5 (ZW ⟨b,off,ZX⟩) n cap,Z5 (ZW ⟨p,d,ZX⟩) n s,Z7 .u8 c] w λe w'=>e=Z3 (ZZ #[])/\w'.rowIs b t N (mid f g F c off n)/\w.grownBy w' (ZW b):=by
 by_cases J:c=0
 . subst J;go_enter func179,ntmps179;go_wp2;exact Ut (v:=ZZ #[]) Zr rfl ⟨rfl,B.congr (λj _=>(K9 C j).symm),Wx _ _⟩
 . have ke:((c:Int)==0)=ZU:=vy;clear J;go_enter func179,ntmps179;go_wp2_with fail;refine (lB c E _).mono ?_;rintro e w1 ⟨cs,rfl,kb,K,q⟩;have ka:=q.size;go_wp2_with (refine np _ rfl (Z0 6) (Z0 11) rfl w1.heap.size c cs _ rfl rfl (UC w1 _) rfl kb K ?_;intro w2 Q r);have S:b<w.heap.size:=B.lt;have l:w.grownBy w2 ZX:=by
    refine ⟨r.os.trans q.os,r.tape.trans q.tape,r.output.trans q.output,?_,λk H _=>?_⟩
    . have:=r.size;rw [Uh] at this;omega
    . rw [r.block k B8 (by intro e;simp at e;omega),UF _ _ _ ec,q.block k H]
   have Y:w2.rowIs b t N f:=B.of_block (l.block b S ek);have T:∀ i,i<n->w2.cell? ⟨p,d+i,ZX⟩=ZW (Z7 .u8 ((F i:Nat):Int)):=λi G=>by
    have:=V i G;exact l.cell this ek
   have k0:w.grownBy w2 (ZW b):=⟨l.os,l.tape,l.output,l.size,λk H _=>l.block k H ek⟩;have kc:w1.heap.size≠b:=ec;clear r l B V K q ka S;go_loopw [17] (λi wr=>AdM w b t N off n c w1.heap.size p d f g F i wr) (λi _=>n-(intOf i).toNat)
   case atStart=>exact ⟨0,T8 _,rfl,by rw [K8];exact Y,Q,T,k0⟩
   case round=>
    clear Q T k0 Y;obtain ⟨j,R,rfl,u,z,A,D⟩:=hrel;by_cases k9:j<n
    . have c1:=u.cell (i:=off+j) ec;have f1:=u.frozen (off+j);have c2:=A j k9;have I:mid f g F c off j (off+j)=Z7 .u8 ((g (off+j):Nat):Int):=(by unfold mid;rw [TS ec];exact C _ ec ec);rw [I] at c1;have X:=ly (g (off+j)) (gm c (F j)) (P _) (bu _ E);have Z:=(u.set (off+j) (Z7 .u8 ((g (off+j)^^^gm c (F j):Nat):Int))).congr (λx _=>(K7 f g F c off j x).symm);have O:=ri z (a:=⟨b,off+j,ZX⟩) kc (Z7 .u8 ((g (off+j)^^^gm c (F j):Nat):Int));have W:=eF D (off+j) (Z7 .u8 ((g (off+j)^^^gm c (F j):Nat):Int));have U:∀ i,i<n->(wr.setCell ⟨b,off+j,ZX⟩ (Z7 .u8 ((g (off+j)^^^gm c (F j):Nat):Int))).cell? ⟨p,d+i,ZX⟩=ZW (Z7 .u8 ((F i:Nat):Int)):=λi G=>by
       rw [<- A i G];by_cases k5:p=b
       . exact ab2 _ _ _ _ (by intro e;have h1:off+j=d+i:=Ux Addr.off e;omega)
       . exact Uk (Ud _ _ _ _ k5)
      have M:=L j;have h:=a5 Z O U W;have HT:=ak z;generalize F j=y at c2 X M h;generalize g (off+j)=x at c1 X h;clear I Z O W U u z A D P L C;go_wp2;go_region_with ((go_at_call 200;refine (xJ w1.heap.size c y E M _ (by exact λj R=>HT.o j R)).mono ?_;rintro e w' ⟨rfl,m,rfl⟩));all_goals
       go_wp2;go_roundw
       case rel=>exact ⟨j+1,ec,eT,h.o.1,h.o.2.1,h.o.2.2.1,⟨h.o.2.2.2.os,h.o.2.2.2.tape,h.o.2.2.2.output,h.o.2.2.2.size,h.o.2.2.2.block⟩⟩
       case measure=>simp [intOf];omega
    . have k8:j=n:=ec;subst k8;clear z A;go_wp2;go_end0
      exact ⟨rfl,u,D⟩
def nF (C:Ck) (k:Nat):ZS:=if k<128 then Z7 .u8 ((C.m (k/16) (k%16):Nat):Int) else if k=128 then Z7 Z9 (C.told:Int) else Z7 Z9 (C.count:Int)
def aC (w:ZT) (b:Nat) (C:Ck):Prop:=w.rowIs b 332 130 (nF C)
structure eA (C:Ck):Prop where
 byt:zm C
 le:C.told<=C.count
 Sb:C.count<=8
def aC.at (h:aC w b C) (r i:Nat) (c:r<8) (a:i<16):w.cell? ⟨b,r*16+i,ZX⟩=ZW (Z7 .u8 ((C.m r i:Nat):Int)):=by
 have:=h.cell (i:=r*16+i) ec;rw [this];unfold nF;rw [TT ec,(ec:(r*16+i)/16=r),(ec:(r*16+i)%16=i)]
def aC.R6 (h:aC w b C):w.cell? ⟨b,128,ZX⟩=ZW (Z7 Z9 (C.told:Int)):=h.cell (i:=128) ee
def aC.Sm (h:aC w b C):w.cell? ⟨b,129,ZX⟩=ZW (Z7 Z9 (C.count:Int)):=h.cell (i:=129) ee
def aa7 (C:Ck) (i:Nat) (wo:ZT) (v:ZS) (wr:ZT):Prop:=∃ r:Nat,v=Z7 Z9 r/\C.told<=r/\r<=C.count/\(∀ k,C.told<=k->k<r->C.m k i=0)/\wr=wo
def spV:Option Nat->ZS
 | some r=>ZZ #[Z7 Z9 (r:Int),Z1 ZV]
 | none=>ZZ #[Z7 Z9 0,Z1 ZU]
theorem xQ (b i:Nat) (C:Ck) (w:ZT) (h:aC w b C) (l:eA C) (s:i<16) :
 ZR ZM 220 #[Z6 (ZW ⟨b,0,ZX⟩),Z7 Z9 i] w λe w'=>e=Z3 (spV (ea C i))/\w'=w:=by
 have x:=h.R6;have u:=h.Sm;have n:=l.le;have y:=l.Sb;have z:(i:Int)<16:=ec
 go_enter func220,ntmps220;go_wp2;go_loopw [6] (λv wr=>aa7 C i w v wr) (λv _=>C.count-(intOf v).toNat)
 case atStart=>exact ⟨C.told,rfl,TV _,n,λk a b=>absurd b ec,rfl⟩
 case round=>
  obtain ⟨r,rfl,t,D,f,rfl⟩:=hrel;by_cases q:r<C.count
  . have c1:=h.at r i ec s;have j:=ak f;clear f;have p:(r:Int)<C.count:=ec;have B:(r:Int)<8:=ec;by_cases d:C.m r i=0
    . rw [d] at c1;go_wp2;go_roundw
      case rel=>exact ⟨r+1,eT,ec,ec,λk a b=>by
       by_cases e:k=r
       . rw [e];exact d
       . exact j.o k a ec,rfl⟩
      case measure=>simp [intOf];omega
    . have A:((C.m r i:Nat):Int)≠0:=ec;have c:=vV t q d j.o;have g:=ak c;clear c d;go_wp2;refine Ut (v:=ZZ #[Z7 Z9 (r:Int),Z1 ZV]) (by simp [results,results220]) rfl ?_;rw [g.o];exact ⟨rfl,rfl⟩
  . have p:¬ (r:Int)<C.count:=ec;have c:=vW (C:=C) (i:=i) (λk a b=>f k a ec);have g:=ak c;clear c f;go_wp2;refine Ut (v:=ZZ #[Z7 Z9 0,Z1 ZU]) (by simp [results,results220]) rfl ?_;rw [g.o];exact ⟨rfl,rfl⟩
def RdR (C:Ck) (i:Nat) (wo:ZT) (v:ZS) (wr:ZT):Prop:=∃ r:Nat,v=Z7 Z9 r/\r<=C.told/\(∀ k,k<r->C.m k i=0)/\wr=wo
theorem xR (b i:Nat) (C:Ck) (w:ZT) (j:aC w b C) (l:eA C) (s:i<16) :
 ZR ZM 224 #[Z6 (ZW ⟨b,0,ZX⟩),Z7 Z9 i] w λe w'=>e=Z3 (Z1 (cF C i))/\w'=w:=by
 have t:=j.R6;have u:=l.le;have x:=l.Sb;have y:(i:Int)<16:=ec
 go_enter func224,ntmps224;go_wp2;go_loopw [10] (λv wr=>RdR C i w v wr) (λv _=>C.told-(intOf v).toNat)
 case atStart=>exact ⟨0,rfl,T8 _,λk h=>absurd h ec,rfl⟩
 case round=>
  obtain ⟨r,rfl,B,f,rfl⟩:=hrel;by_cases q:r<C.told
  . have c1:=j.at r i ec s;have n:=ak f;clear f;have p:(r:Int)<C.told:=ec;have A:(r:Int)<8:=ec;by_cases d:C.m r i=0
    . rw [d] at c1;go_wp2;go_roundw
      case rel=>exact ⟨r+1,eT,ec,λk b=>by
       by_cases e:k=r
       . rw [e];exact d
       . exact n.o k ec,rfl⟩
      case measure=>simp [intOf];omega
    . have z:((C.m r i:Nat):Int)≠0:=ec;have c:=qR q d;have g:=ak c;clear c d;go_wp2;go_ret;rw [g.o];exact ⟨rfl,rfl⟩
  . have p:¬ (r:Int)<C.told:=ec;have c:=(gX (C:=C) (i:=i)).2 (λk a=>f k ec);have g:=ak c;clear c f;go_wp2;go_ret;rw [g.o];exact ⟨rfl,rfl⟩
def ln (C:Ck) (k r i:Nat):Ck:=⟨cU C.m k r i,C.told,C.count⟩
theorem Iq (m:Nat->Nat->Nat) (r i:Nat):cU m 0 r i=m:=by funext k j;unfold cU;rw [TS ec]
def Ir (m:Nat->Nat->Nat) (k r i:Nat):cU m k r i r=m r:=nK ec
def xS (m:Nat->Nat->Nat) (k r i:Nat):cU m k r i k=m k:=nK ec
theorem Is (m:Nat->Nat->Nat) (r i:Nat):cU m (r+1) r i=cU m r r i:=by
 funext k j;unfold cU;by_cases h:k<r/\k≠r
 . rw [TT h,TT ec]
 . rw [TS h,TS ec]
def La (C:Ck) (k r i:Nat) (e:k≠r) (f:k<8) (x:Nat) :
 mid (nF (ln C k r i)) (λx=>cU C.m k r i (x/16) (x%16)) (λj=>C.m r j) (gm (C.m k i) (gi (C.m r i))) (k*16) 16 x=nF (ln C (k+1) r i) x:=by
 unfold mid;by_cases h:k*16<=x/\x<k*16+16
 . rw [TT h];have c:x/16=k:=ec;have d:x-k*16=x%16:=ec;unfold nF;rw [TT ec];show Value.int .u8 ((cU C.m k r i (x/16) (x%16)^^^gm _ (C.m r (x-k*16)):Nat):Int)=Z7 .u8 ((cU C.m (k+1) r i (x/16) (x%16):Nat):Int);rw [c,d,xS];have:cU C.m (k+1) r i k (x%16)=C.m k (x%16)^^^gm (gm (C.m k i) (gi (C.m r i))) (C.m r (x%16)):=by unfold cU;rw [TT ⟨ec,e⟩]
   rw [this]
 . rw [TS h];unfold nF;by_cases a:x<128
   . rw [TT a,TT a];have:cU C.m k r i (x/16) (x%16)=cU C.m (k+1) r i (x/16) (x%16):=by
      unfold cU;by_cases b:x/16<k/\x/16≠r
      . rw [TT b,TT ec]
      . rw [TS b,TS ec]
     show Value.int .u8 ((cU C.m k r i (x/16) (x%16):Nat):Int)=Z7 .u8 ((cU C.m (k+1) r i (x/16) (x%16):Nat):Int);rw [this]
   . rw [TS a,TS a];rfl
def OfR (w:ZT) (b r i:Nat) (C:Ck) (v:ZS) (wr:ZT):Prop:=
 ∃ k:Nat,v=Z7 Z9 k/\k<=C.count/\aC wr b (ln C k r i)/\w.grownBy wr (ZW b)
theorem pJ (w:ZT) (b o:Nat):(Instr.sliceAt 287 (Z6 (ZW ⟨b,o,ZX⟩)) ZX ZX ZX).run ZM w=.ok (Z5 (ZW ⟨b,o,ZX⟩) 16 16) w:=by
 go_simp
theorem xT (b r i:Nat) (C:Ck) (w:ZT) (f:aC w b C) (d:eA C) (y:r<8) (u:i<16) :
 ZR ZM 222 #[Z6 (ZW ⟨b,0,ZX⟩),Z7 Z9 r,Z7 Z9 i] w λe w'=>e=Z3 (ZZ #[])/\aC w' b (ln C C.count r i)/\w.grownBy w' (ZW b):=by
 have B:=f.Sm;have c0:=f.at r i y u;have E:=d.Sb;have A:=d.byt r i;have V:(i:Int)<16:=ec
 have Y:(r:Int)<8:=ec
 have l:=ak (show aC w b (ln C 0 r i) by unfold ln;rw [Iq];exact f);clear f;go_enter func222,ntmps222;go_wp2_with fail;refine (se (C.m r i) A _).mono ?_;rintro e w1 ⟨rfl,R⟩;have S:=R.symm;subst S;go_wp2;go_loopw [21] (λv wr=>OfR w b r i C v wr) (λv _=>C.count-(intOf v).toNat)
 case atStart=>exact ⟨0,rfl,T8 _,l.o,Wx _ _⟩
 case round=>
  clear B c0 l;rename ZT=>wo;obtain ⟨k,rfl,U,a,g⟩:=hrel;by_cases X:k<C.count
  . have G:(k:Int)<C.count:=ec;by_cases h:k=r
    . have F:(k:Int)=(r:Int):=ec;have HN:b9 (aC wo b (ln C (k+1) r i)):=ak (by unfold ln at *;rw [h] at a ⊢;rw [Is];exact a);clear h a;go_wp2;go_roundw
      case rel=>exact ⟨k+1,eT,ec,HN.o,g⟩
      case measure=>simp [intOf];omega
    . have F:(k:Int)≠(r:Int):=ec;have W:(k:Int)<8:=ec;have c1:=a.at k i ec u;have n:(ln C k r i).m k i=C.m k i:=(by show cU C.m k r i k i=_;rw [xS]);rw [n] at c1;have z:=d.byt k i;have p:∀ j,j<16->wo.cell? ⟨b,r*16+j,ZX⟩=ZW (Z7 .u8 ((C.m r j:Nat):Int)):=λj K=>by
       have:=a.at r j y K;have D:(ln C k r i).m r j=C.m r j:=(by show cU C.m k r i r j=_;rw [Ir]);rwa [D] at this
      have O:gm (C.m k i) (gi (C.m r i))<256:=bu _ z;have t:=La C k r i h ec;have N:∀ x,cU C.m k r i (x/16) (x%16)<256:=λx=>nL d.byt _ _;have J:=ak p;have M:=ak t;have L:=ak a;clear p t n a;have H:=λw=>pJ w b (k*16);have I:=λw=>pJ w b (r*16);go_wp2;go_region_with (first
       | (go_at_call 188;refine (l8 (C.m k i) (gi (C.m r i)) z (iz A) _).mono ?_;rintro e w' ⟨rfl,rfl⟩)
       | (go_at_call 179;refine (zU b 332 130 (k*16) 16 16 b (r*16) 16 (gm (C.m k i) (gi (C.m r i))) (nF (ln C k r i)) (λx=>cU C.m k r i (x/16) (x%16)) (λj=>C.m r j) _ O (by exact L.out) (λj T E=>by unfold nF;rw [TT ec];rfl) N (λj=>d.byt r j) ec ec (by exact J.out) (.inr ec)).mono ?_;rintro e w' ⟨rfl,s,c⟩))
      all_goals
       have Q:aC w' b (ln C (k+1) r i):=s.congr (λx _=>M.out x);have P:w.grownBy w' (ZW b):=gD g ⟨c.os,c.tape,c.output,c.size,c.block⟩;clear s c H I;go_wp2;go_roundw
       case rel=>exact ⟨k+1,eT,ec,Q,P⟩
       case measure=>simp [intOf];omega
  . have q:k=C.count:=ec;rw [q] at a;have G:¬ (k:Int)<C.count:=ec;clear q;go_wp2;go_end0
    exact ⟨rfl,a,g⟩
def pK (m:Nat->Nat->Nat) (r i j:Nat):Nat->Nat->Nat:=λk x=>if k=r/\x<j then gm (m r x) (gi (m r i)) else m k x
def PK (C:Ck) (r i j:Nat):Ck:=⟨pK C.m r i j,C.told,C.count⟩
theorem It (m:Nat->Nat->Nat) (r i:Nat):pK m r i 0=m:=by funext k x;unfold pK;rw [TS ec]
def Oh (C:Ck) (r i j:Nat) (d:r<8) (c:j<16) (x:Nat):nF (PK C r i (j+1)) x=if x=r*16+j then Z7 .u8 ((gm (C.m r j) (gi (C.m r i)):Nat):Int) else nF (PK C r i j) x:=by
 unfold nF;by_cases h:x=r*16+j
 . rw [TT h,TT ec];show Value.int .u8 ((pK C.m r i (j+1) (x/16) (x%16):Nat):Int)=_;unfold pK;rw [TT ec,(ec:x%16=j)]
 . rw [TS h];by_cases a:x<128
   . rw [TT a,TT a];have:pK C.m r i (j+1) (x/16) (x%16)=pK C.m r i j (x/16) (x%16):=by
      unfold pK;by_cases b:x/16=r/\x%16<j
      . rw [TT b,TT ec]
      . rw [TS b,TS ec]
     show Value.int .u8 ((pK C.m r i (j+1) (x/16) (x%16):Nat):Int)=Z7 .u8 ((pK C.m r i j (x/16) (x%16):Nat):Int);rw [this]
   . rw [TS a,TS a];rfl
def QO (C:Ck) (r i x:Nat):nF (PK C r i 16) x=nF ⟨eH C.m r i,C.told,C.count⟩ x:=by
 unfold nF;by_cases a:x<128
 . rw [TT a,TT a];have:pK C.m r i 16 (x/16) (x%16)=eH C.m r i (x/16) (x%16):=by
    unfold pK eH;by_cases b:x/16=r
    . rw [TT b,TT ec]
    . rw [TS b,TS ec]
   show Value.int .u8 ((pK C.m r i 16 (x/16) (x%16):Nat):Int)=Z7 .u8 ((eH C.m r i (x/16) (x%16):Nat):Int);rw [this]
 . rw [TS a,TS a];rfl
theorem Iu (cs:List ZS) (k:Nat) (v:ZS) (a:k<16) (b:cs[k]?=ZW v) (w:ZT):(Instr.index 287 (.agg cs.toArray) (Z7 Z9 (k:Int))).run ZM w=.ok v w:=by
 simp [Instr.index,UL Yd,asIntOf,go_sem,part];rw [TT a,b];rfl
def fK (f:Nat->Nat):List ZS:=(YE 16).map (λj=>Value.int .u8 ((f j:Nat):Int))
def jM (f:Nat->Nat):(fK f).length=16:=by unfold fK;rw [Ue,Vp]
def sq (f:Nat->Nat) (j:Nat) (a:j<16):(fK f)[j]?=ZW (Z7 .u8 ((f j:Nat):Int)):=by
 unfold fK;rw [UD,Ww a];rfl
def tN (h:aC w b C) (r:Nat) (d:r<8):w.rangeAt b (r*16) (fK (C.m r)):=λj v a=>by
 have c:j<16:=by
  have:=(Va.1 a).1;rwa [jM] at this
 rw [sq _ _ c] at a;rw [<- a];exact h.at r j d c
def Tryz.Si (f:Nat->Nat):(ZM.info? 287).map (λi=>i.size)=ZW (fK f).length:=by rw [jM];exact Tryz.Sx
def ScR (w:ZT) (b r i:Nat) (C:Ck) (v:ZS) (wr:ZT):Prop:=
 ∃ k:Nat,v=Z7 Z9 k/\k<=16/\aC wr b (PK C r i k)/\w.grownBy wr (ZW b)
theorem Cb (b r i:Nat) (C:Ck) (w:ZT) (f:aC w b C) (u:eA C) (g:r<8) (G:i<16) :
 ZR ZM 221 #[Z6 (ZW ⟨b,0,ZX⟩),Z7 Z9 r,Z7 Z9 i] w λe w'=>e=Z3 (ZZ #[])/\aC w' b ⟨eH C.m r i,C.told,C.count⟩/\w.grownBy w' (ZW b):=by
 have c0:=f.at r i g G;have y:=u.byt r i;have L:(i:Int)<16:=ec
 have M:(r:Int)<8:=ec
 have l:=ak (show aC w b (PK C r i 0) by unfold PK;rw [It];exact f);have n:=ak (tN f r g);have A:b9 (∀ j,j<16->(fK (C.m r))[j]?=ZW (Z7 .u8 ((C.m r j:Nat):Int))):=ak (sq (C.m r));have J:=ak (jM (C.m r));have B:=ak (Tryz.Si (C.m r));generalize fK (C.m r)=cs at *;clear f;go_enter func221,ntmps221;go_wp2_with fail;refine (se (C.m r i) y _).mono ?_;rintro e w1 ⟨rfl,H⟩;have F:=H.symm;subst F;go_wp2_with (refine abO rfl 287 (Z0 22) rfl b (r*16) rfl cs _ n.o Yd rfl B.o ?_);go_loopw [24] (λv wr=>ScR w b r i C v wr) (λv _=>16-(intOf v).toNat)
 case atStart=>exact ⟨0,rfl,T8 _,l.o,Wx _ _⟩
 case round=>
  clear c0 l n;rename ZT=>wo;obtain ⟨k,rfl,N,c,h⟩:=hrel;by_cases d:k<16
  . have E:(k:Int)<16:=ec;have t:=A.o k d;have c1:=c.at r k g d;have K:=c.frozen (r*16+k);have I:=u.byt r k;have s:aC (wo.setCell ⟨b,r*16+k,ZX⟩ (Z7 .u8 ((gm (C.m r k) (gi (C.m r i)):Nat):Int))) b (PK C r i (k+1)):=
     (c.set (r*16+k) (Z7 .u8 ((gm (C.m r k) (gi (C.m r i)):Nat):Int))).congr (λx _=>(Oh C r i k g d x).symm)
    have p:=eF h (r*16+k) (Z7 .u8 ((gm (C.m r k) (gi (C.m r i)):Nat):Int));have a:=al s p;clear s p c h;generalize (PK C r i k).m r k=z at c1;have D:=Iu cs k _ d t;clear t;go_wp2;go_region_with ((go_at_call 188;refine (l8 (C.m r k) (gi (C.m r i)) I (iz y) _).mono ?_;rintro e w' ⟨rfl,rfl⟩));all_goals
     clear D;go_wp2;go_roundw
     case rel=>exact ⟨k+1,eT,ec,a.o.1,⟨a.o.2.os,a.o.2.tape,a.o.2.output,a.o.2.size,a.o.2.block⟩⟩
     case measure=>simp [intOf];omega
  . have q:k=16:=ec;rw [q] at c;have E:¬ (k:Int)<16:=ec;clear q;go_wp2;go_end0
    exact ⟨rfl,c.congr (λx _=>QO C r i x),h⟩
theorem rm:∀ (a:List ZS) (o:Nat) (w:ZT) (f:Nat->ZS),w.rowIs b t n f->(w.setCells b o a).rowIs b t n (λx=>if o<=x/\x<o+a.length then a.getD (x-o) ZY else f x)
 | [],o,w,f,h=>h.congr (λi _=>by rw [TS ek])
 | v::a,o,w,f,h=>(rm a (o+1) _ _ (h.set o v)).congr (λi _=>by
  by_cases c:i=o
  . subst c;rw [TS ec,TT rfl,TT ek];simp
  . by_cases d:o+1<=i/\i<o+1+a.length
    . rw [TT d,TT en,(ec:i-o=(i-(o+1))+1)];simp
    . rw [TS d,TS c,TS en])
def oy:∀ (a:List ZS) (o:Nat) (w w':ZT),w.grownBy w' (ZW b)->w.grownBy (w'.setCells b o a) (ZW b)
 | [],_,_,_,h=>h
 | v::a,o,w,_,h=>oy a (o+1) w _ (eF h o v)
def rU (m:Nat->Nat->Nat) (q:Nat) (f:Nat->Nat):Nat->Nat->Nat:=λk=>if k=q then f else m k
theorem sr (h:aC w b C) (q:Nat) (d:q<8) (f:Nat->Nat):aC (w.setCells b (q*16) (fK f)) b ⟨rU C.m q f,C.told,C.count⟩:=by
 refine (rm (fK f) (q*16) w (nF C) h).congr (λx _=>?_);rw [jM];unfold nF;by_cases c:q*16<=x/\x<q*16+16
 . rw [TT c,TT ec];show (fK f).getD (x-q*16) ZY=Z7 .u8 ((rU C.m q f (x/16) (x%16):Nat):Int);have e:x/16=q:=ec;unfold rU;rw [TT e,Ub,sq _ _ ec,(ec:x-q*16=x%16)];rfl
 . rw [TS c];by_cases a:x<128
   . rw [TT a,TT a];show _=Value.int .u8 ((rU C.m q f (x/16) (x%16):Nat):Int);unfold rU;rw [TS ec]
   . rw [TS a,TS a]
def Lb (f:Nat->Nat):(fK f).toArray.all (λv=>v.oneCell')=ZV:=by
 rw [Yc];intro i a;have b:i<16:=by simpa [jM] using a
 have:=sq f i b;have e:(fK f).toArray[i]?=ZW (Z7 .u8 ((f i:Nat):Int)):=oD this
 rw [VK a] at e;simp only [UB] at e;rw [e];rfl
def tP (h:aC w b C) (q:Nat) (c:q<8):w.there b (q*16) 16:=λj a=>⟨by rw [h.at q j c a];rfl,h.frozen _⟩
def su (h:aC w b C) (q:Nat) (a:q<8):(Instr.loadAt 287 (Z6 (ZW ⟨b,q*16,ZX⟩))).run ZM w=.ok (.agg (fK (C.m q)).toArray) w:=
 abv w b (q*16) 287 (fK (C.m q)) _ (tN h q a) Yd rfl (Tryz.Si _)
theorem xU (h:aC w b C) (n:Nat):aC (w.setCell ⟨b,129,ZX⟩ (Z7 Z9 (n:Int))) b ⟨C.m,C.told,n⟩:=
 (h.set 129 (Z7 Z9 (n:Int))).congr (λx d=>by
  unfold nF;by_cases e:x=129
  . subst e;rw [TT rfl,TS ee,TS ee]
  . rw [TS e];by_cases a:x<128
    . rw [TT a,TT a]
    . rw [TS a,TS a];by_cases c:x=128
      . rw [TT c,TT c]
      . omega)
theorem Lc (h:aC w b C) (n:Nat):aC (w.setCell ⟨b,128,ZX⟩ (Z7 Z9 (n:Int))) b ⟨C.m,n,C.count⟩:=
 (h.set 128 (Z7 Z9 (n:Int))).congr (λx c=>by
  unfold nF;by_cases e:x=128
  . subst e;rw [TT rfl,TS ee,TT rfl]
  . rw [TS e];by_cases a:x<128
    . rw [TT a,TT a]
    . rw [TS a,TS a,TS e,TS e])
def rdA (v b g N gone sp:Nat):Array ZS:=#[Z6 (ZW ⟨v,0,ZX⟩),Z7 Z9 b,Z5 (ZW ⟨g,0,ZX⟩) N N,Z7 Z8 gone,Z7 Z8 sp]
def dZ (w:ZT) (r v b g N gone sp:Nat):Prop:=w.heap[r]?=ZW (Z4 (rdA v b g N gone sp) 200 (0,0))
def dZ.keep (h:dZ w r v b g N gone sp) (e:w'.heap[r]?=w.heap[r]?):dZ w' r v b g N gone sp:=e.trans h
def dZ.lt (h:dZ w r v b g N gone sp):r<w.heap.size:=(TX.1 h).1
def dZ.cells (h:dZ w r v b g N gone sp):w.cell? ⟨r,0,ZX⟩=ZW (Z6 (ZW ⟨v,0,ZX⟩))/\w.cell? ⟨r,1,ZX⟩=ZW (Z7 Z9 b)/\w.cell? ⟨r,2,ZX⟩=ZW (Z5 (ZW ⟨g,0,ZX⟩) N N)/\w.cell? ⟨r,3,ZX⟩=ZW (Z7 Z8 gone)/\w.cell? ⟨r,4,ZX⟩=ZW (Z7 Z8 sp):=by
 have a:w.heap[r]?=ZW (Z4 (rdA v b g N gone sp) 200 (0,0)):=h;simp [World.cell?,a,rdA]
def dZ.free (h:dZ w r v b g N gone sp) (i:Nat):w.frozen? ⟨r,i,ZX⟩=ZU:=by
 have a:w.heap[r]?=ZW (Z4 (rdA v b g N gone sp) 200 (0,0)):=h;simp [World.frozen?,a]
def wB (w:ZT) {ops:Array ZQ} {rest:List ZQ} {o:ZQ} {a:Act} {Q:Exit->Act->ZT->Prop}
 (h:o.guard=ZX) (l c:ZN) (e:o.op=Op.makeSlice 108 l c) (C:Int) (n:Nat) (hl:a.eval l=Z7 Z9 C) (g:a.eval c=Z7 Z9 C) (f:C=(n:Int)) (i:n<=1000000)
 (hK:∀ w',w'.rowIs w.heap.size 40 n (λ_=>Z5 ZX 0 0)->bW w w'->w'.heap.size=w.heap.size+1->wpList ZM ops Q rest (a.put o.dst (Z5 (ZW ⟨w.heap.size,0,ZX⟩) n n)) w') :
 wpList ZM ops Q (o::rest) a w:=by
 refine V0 h λK d=>?_;have b:=XZ (P:=ZM) 108 40 (Z5 ZX 0 0) 24 VS Tryz.R7 rfl .i64 .i64 n ec ec w;subst f;unfold Oper.wp;simp [execOp,e,hl,g,b,Result.andThen];exact d _ _ (hK _ (Xz w _ n _) (bA _ _) (Uh _ _))
theorem tQ (w:ZT) (n:ZP) (g N c:Nat) (f:Nat->ZS) (h:w.rowIs g 40 N f) (s:0<N):(Builtin.clear_ #[108] n #[Z5 (ZW ⟨g,0,ZX⟩) N c]).run ZM w=.ok (ZZ #[]) (w.setRow g (YI N (Value.slice ZX 0 0)).toArray):=by
 obtain ⟨cs,d,e,o⟩:=h;obtain ⟨t,b,j,q,r⟩:=Uu Tryz.R7;have l:(Builtin.zeroCells (Value.cells (Z5 ZX 0 0)) N).toList=YI N (Value.slice ZX 0 0):=by
  apply Vc
  . simp [Builtin.zeroCells,Value.cells]
  . intro i _ _;simp [Builtin.zeroCells,Value.cells,Nat.mod_one]
 have a:=run_storeCells_from (P:=ZM) g 40 (YI N (Value.slice ZX 0 0)) 0 cs w d (by simp [e]) (λv k=>by rw [VF k];rfl);have:N≠0:=ec
 simp only [Wq,Uq] at a;obtain ⟨m,rfl⟩:∃ m,N=m+1:=⟨N-1,ec⟩;simp [Builtin.clear_,UL VS,zeroValue,typeInfo,b,j,l,a]
def zV (w:ZT) {ops:Array ZQ} {rest:List ZQ} {o:ZQ} {a:Act} {Q:Exit->Act->ZT->Prop} (j:o.guard=ZX) (s:ZN)
 (ho:o.op=.call { callee:=.builtin .clear,args:=#[s],argTypes:=#[108] }) (h0:o.dst=ZX) {g N c:Nat} {f:Nat->ZS} (hv:a.eval s=Z5 (ZW ⟨g,0,ZX⟩) N c) (hr:w.rowIs g 40 N f) (hN:0<N)
 (h:∀ w',w'.rowIs g 40 N (λ_=>Z5 ZX 0 0)->aa (λk=>k=g) w w'->wpList ZM ops Q rest a w'):wpList ZM ops Q (o::rest) a w:=by
 refine V0 j λK hK=>?_;unfold Oper.wp execOp;simp only [ho,resolve,invoke,builtin,UE,VP,UT,YC,U1,Wr,hv,tQ w _ g N c f hr hN];have b:=aY w g (YI N (Value.slice ZX 0 0)).toArray;obtain ⟨cs,d,_⟩:=hr;refine hK _ _ ?_;rw [h0];exact h _ ⟨_,Vt _ _ _ _ _ _ d,ek,λi m=>by simp [m]⟩ ⟨b.os,b.tape,b.output,b.size,λk n l=>b.block k n (λe=>l (UM e))⟩
def EF (w:ZT) (r:Nat) {v b0 g N gone sp:Nat} (h:dZ w r v b0 g N gone sp) (b ho:Nat):dZ (((w.setCell ⟨r,1,ZX⟩ (Z7 Z9 b)).setCell ⟨r,3,ZX⟩ (Z7 Z8 0)).setCell ⟨r,4,ZX⟩ (Z7 Z8 ho)) r v b g N 0 ho/\aa (λk=>k=r) w (((w.setCell ⟨r,1,ZX⟩ (Z7 Z9 b)).setCell ⟨r,3,ZX⟩ (Z7 Z8 0)).setCell ⟨r,4,ZX⟩ (Z7 Z8 ho)):=by
 refine ⟨?_,((aa.setCell (S:=λk=>k=r) w ⟨r,1,ZX⟩ _ rfl).trans (aa.setCell _ ⟨r,3,ZX⟩ _ rfl)).trans (aa.setCell _ ⟨r,4,ZX⟩ _ rfl)⟩;have a:=abx w r 1 _ _ (Z7 Z9 b) h;have c:=abx _ r 3 _ _ (Z7 Z8 0) a;exact abx _ r 4 _ _ (Z7 Z8 ho) c
theorem Gr {b0:Nat} (h:dZ w r v b0 g N gone sp) (m:bg w v p D L G ps ho) (n:w.rowIs g 40 N f) (x:0<N) (d:g≠r) (u:v≠g) (b:Nat) :
 ZR ZM 110 #[Z6 (ZW ⟨r,0,ZX⟩),Z7 Z9 b] w λe w'=>e=Z3 (ZZ #[])/\dZ w' r v b g N 0 ho/\w'.rowIs g 40 N (λ_=>Z5 ZX 0 0)/\aa (λk=>k=r\/k=g) w w':=by
 obtain ⟨c0,c1,q,s,t⟩:=h.cells;have H:=aE h m n;clear h m n;go_enter func110,ntmps110;go_wp2_with (show wpList _ _ _ ({ dst:=ZX,op:=.call { callee:=.builtin .clear,args:=_,argTypes:=_ },type:=_,pos:=_,after:=_,guard:=_ }::_) _ _;refine zV _ rfl (Z0 7) rfl rfl (g:=g) (N:=N) (c:=N) (f:=f) rfl (by exact H.o.2.2) x ?_;intro w1 l a;obtain ⟨z,d1,A,B,C⟩:=(H.o.1.keep (a.block _ H.o.1.lt (λe=>d e.symm))).cells;obtain ⟨_,_,_,_,_,J⟩:=(H.o.2.1.keep (a.block _ H.o.2.1.lt u)).cells;have E:=(H.o.1.keep (a.block _ H.o.1.lt (λe=>d e.symm))).free 1;have F:=(H.o.1.keep (a.block _ H.o.1.lt (λe=>d e.symm))).free 3;have I:=(H.o.1.keep (a.block _ H.o.1.lt (λe=>d e.symm))).free 4;have i:=al l a;clear l a c0 c1 q s t);first|go_end0|skip
 have y:=H.o.1.keep (i.o.2.block _ H.o.1.lt (λe=>d e.symm));have j:=EF w1 r y b ho;refine ⟨rfl,j.1,i.o.1.of_block (j.2.block _ i.o.1.lt (λe=>d e)),(i.o.2.mono λ_ _ e=>.inr e).trans (j.2.mono λ_ _ e=>.inl e)⟩
structure Ld (lo hi:Nat) (a a':Act):Prop where
 size:a'.tmps.size=a.tmps.size
 defers:a'.defers=a.defers
 slot:∀ s,s<lo\/hi<=s->a'.eval (.tmp s)=a.eval (.tmp s)
def Le (p q:Nat) (w w1 w2:ZT) (Dn:Nat->Bool) (w':ZT):Prop:=w'=if Dn p=ZV then (if Dn q=ZV then w2 else w1) else w.drew
def Gs (h:Le p q w w1 w2 Dn w') (i:Nat) (a:p≠i) (b:q≠i):Le p q w w1 w2 (Ge Dn i) w':=by unfold Le;rw [iJ a,iJ b];exact h
def Cc (h:Le p q w w1 w2 Dn w') (a:Dn p=ZU):w'=w.drew:=by
 unfold Le at h;rwa [TS (by rw [a];decide)] at h
def EG {o:Nat} {m:Nat->Nat} (h:w.there b o 16):(Instr.storeAt 287 (Z6 (ZW ⟨b,o,ZX⟩)) (.agg (fK m).toArray)).run ZM w=.ok () (w.setCells b o (fK m)):=ab0 (P:=ZM) w b o 287 (fK m).toArray (by simpa [jM] using h) (oD (Tryz.Si _)) (Lb _)
theorem Ld.split {lo hi:Nat} {a':Act} (b:Ld lo hi a a') (o:lo<=hi) (p:hi<=a.tmps.size) :
 ∃ l:List ZS,l.length=hi-lo/\a'={ tmps:=(a.tmps.toList.take lo++(l++a.tmps.toList.drop hi)).toArray,defers:=a.defers }:=by
 have d:∀ (x:Act) (s:Nat),s<x.tmps.size->x.tmps[s]?=ZW (x.eval (.tmp s)):=λx s f=>by
  simp [Act.eval,Vf,f]
 refine ⟨(a'.tmps.toList.drop lo).take (hi-lo),?_,?_⟩
 . have:=b.size;simp;omega
 . obtain ⟨t',n⟩:=a';have f:=b.size;have h:=b.defers;simp only at f h;subst h;congr 1;apply Array.ext_getElem?;intro i;simp only [Xq,List.getElem?_append,X8,Wf,Uo,Um,WB,aby];by_cases c1:i<lo
   . rw [TT ec,TT c1];have e:=b.slot i (.inl c1);have c:=d ⟨t',a.defers⟩ i (by show i<t'.size;omega);have g:=d a i ec;simp only at c;rw [c,g,e]
   . by_cases m:i<hi
     . rw [TS ec,TT ec,TT ec,(ec:lo+(i-min lo a.tmps.size)=i)]
     . rw [TS ec,TS ec];have k:hi+(i-min lo a.tmps.size-min (hi-lo) (t'.size-lo))=i:=ec;rw [k];by_cases j:i<a.tmps.size
       . have e:=b.slot i (.inr ec);have c:=d ⟨t',a.defers⟩ i (by show i<t'.size;omega);have g:=d a i j;simp only at c;rw [c,g,e]
       . rw [Xo ec,Xo ec]
def aaC {l:List ZS} (h:l.length=9):∃ u0 u1 u2 u3 u4 u5 u6 u7 u8,l=[u0,u1,u2,u3,u4,u5,u6,u7,u8]:=by
 match l,h with
 | [u0,u1,u2,u3,u4,u5,u6,u7,u8],_=>exact ⟨u0,u1,u2,u3,u4,u5,u6,u7,u8,rfl⟩
theorem Cd (b i:Nat) (C:Ck) (w:ZT) (n:aC w b C) (p:eA C) (A:i<16) :
 ZR ZM 230 #[Z6 (ZW ⟨b,0,ZX⟩),Z7 Z9 i] w λe w'=>
  (iB C i=ZX/\e=Z3 (Z1 ZU)/\w'=w)\/(∃ C',iB C i=ZW C'/\e=Z3 (Z1 ZV)/\aC w' b C'/\w.grownBy w' (ZW b)):=by
 go_enter func230,ntmps230;go_wp2_with fail;refine (xQ b i C w n p A).mono ?_;rintro e w1 ⟨rfl,F⟩;subst F;cases h2:ea C i with
 | none=>
  have HN:b9 (iB C i=ZX):=ak (by unfold iB;rw [h2];rfl);simp only [spV];clear h2;go_wp2;go_ret;exact .inl ⟨HN.o,rfl,rfl⟩
 | some r=>
  obtain ⟨J,K,L⟩:=gV h2;have HN:b9 (iB C i=ZW (gW C i r)):=ak (by unfold iB;rw [h2];rfl);have I:=p.Sb;simp only [spV];clear h2;go_wp2_with fail;refine (xT b r i C _ n p ec A).mono ?_;rintro e w2 ⟨rfl,f,x⟩;have s:=f.Sm;have D:=f.frozen 129;have v:(ln C C.count r i).count=C.count:=rfl;rw [v] at s;have c:=xU f (C.count-1);have a:=eF x 129 (Z7 Z9 ((C.count-1:Nat):Int));have E:IntKind.i64.wrap ((C.count:Int)-1)=((C.count-1:Nat):Int):=l3
  obtain ⟨g,y⟩:=nM (w2.setCell ⟨b,129,ZX⟩ (Z7 Z9 ((C.count-1:Nat):Int)));rw [y] at c a;have h:=c.Sm;have q:=ak (sr (show aC g.drew b _ from c) r ec ((ln C C.count r i).m (C.count-1)));have u:b9 (w1.grownBy (g.drew.setCells b (r*16) (fK ((ln C C.count r i).m (C.count-1)))) (ZW b)):=ak (oy _ _ _ _ ⟨a.os,a.tape,a.output,a.size,a.block⟩);have j:=ak (show aC g.drew b _ from c);clear f x c a n;go_wp2;clear y s D E v;obtain ⟨t,B⟩:=nM (C.count-1);have k:=su j.out (C.count-1) ec;have l:=EG (m:=(ln C C.count r i).m (C.count-1)) (tP j.out r ec);simp only [B] at h k l ⊢;have k1:(r:Int)<8:=ec
  have k2:(t:Int)<8:=ec
  refine dr 14 [(0,ZV),(1,ZV),(2,ZV),(3,ZV),(4,ZV),(5,ZV),(6,ZV),(7,ZV),(8,ZV),(9,ZV),(10,ZV),(11,ZV),(12,ZV),(13,ZV),(14,ZU)] (λw'=>w'.cell? ⟨b,129,ZX⟩=ZW (Z7 Z9 (t:Int))/\(Instr.loadAt 287 (Z6 (ZW ⟨b,t*16,ZX⟩))).run ZM w'=.ok (.agg (fK ((ln C C.count r i).m t)).toArray) w') ei ei ⟨h,k⟩ ?_;iterate 10 (refine aF rfl rfl ?_;apply YF;refine ⟨λw' d=>?_,?_⟩;(obtain ⟨G,H⟩:=d;first|(go_simp;done)|(go_simp;exact rfl));simp only [Act.put,TZ,TY,T5])
  refine aF rfl rfl ⟨_,λw' d=>by simp [execOp,Act.eval,d.2];rfl,?_⟩;simp only [Act.put,TZ,TY,T5];iterate 3 (refine aF rfl rfl ?_;apply YF;refine ⟨λw' d=>?_,?_⟩;(obtain ⟨G,H⟩:=d;first|(go_simp;done)|(go_simp;exact rfl));simp only [Act.put,TZ,TY,T5])
  refine ku rfl rfl (by simp [execOp,Act.eval,l];rfl) (absurd rfl) (cH ?_);simp only [Act.put];subst B;clear k l k1 k2 j h;obtain ⟨M,z⟩:=nM (g.drew.setCells b (r*16) (fK ((ln C C.count r i).m (C.count-1))));rw [z] at q u ⊢;clear z;go_wp2;go_ret;exact .inr ⟨_,HN.o,rfl,q.o,u.out⟩
theorem Lf (m:Nat->Nat->Nat) (t r:Nat):rU (rU m t (m r)) r (m t)=dC m t r:=by
 funext k;unfold rU dC;by_cases b:k=r
 . rw [TT b];by_cases a:k=t
   . rw [TT a,<- b,<- a]
   . rw [TS a,TT b]
 . rw [TS b];by_cases a:k=t
   . rw [TT a,TT a]
   . rw [TS a,TS a,TS b]
theorem tR (b i:Nat) (C:Ck) (w:ZT) (f:aC w b C) (c:eA C) (t:i<16) :
 ZR ZM 210 #[Z6 (ZW ⟨b,0,ZX⟩),Z7 Z9 i] w λe w'=>
  (pr C i=ZX/\e=Z3 (Z1 ZU)/\w'=w)\/(∃ C',pr C i=ZW C'/\e=Z3 (Z1 ZV)/\aC w' b C'/\w.grownBy w' (ZW b)):=by
 go_enter func210,ntmps210;go_wp2_with fail;refine (xQ b i C w f c t).mono ?_;rintro e w1 ⟨rfl,S⟩;subst S;cases h5:ea C i with
 | none=>
  have HN:b9 (pr C i=ZX):=ak (by unfold pr;rw [h5];rfl);simp only [spV];clear h5;go_wp2;go_ret;exact .inl ⟨HN.o,rfl,rfl⟩
 | some r=>
  obtain ⟨r1,r2,r3⟩:=gV h5;have HN:b9 (pr C i=ZW (jo C i r)):=ak (by unfold pr;rw [h5];rfl);have Z:=c.Sb;simp only [spV];clear h5;have k:=f.R6;have B:=sr (sr (show aC w1.drew b _ from f) C.told ec (C.m r)) r ec (C.m C.told);have z:(⟨rU (rU C.m C.told (C.m r)) r (C.m C.told),C.told,C.count⟩:Ck)=⟨dC C.m C.told r,C.told,C.count⟩:=by rw [Lf]
  have D:aC ((w1.drew.setCells b (C.told*16) (fK (C.m r))).setCells b (r*16) (fK (C.m C.told))) b ⟨dC C.m C.told r,C.told,C.count⟩:=by rw [<- z];exact B
  have G:w1.grownBy ((w1.drew.setCells b (C.told*16) (fK (C.m r))).setCells b (r*16) (fK (C.m C.told))) (ZW b):=
   oy _ _ _ _ (oy _ _ _ _ ⟨rfl,rfl,rfl,TV _,λ_ _ _=>rfl⟩)
  have g:=ak D;have n:=ak G;have d:=ak (show aC w1.drew b C from f);clear B z D G f;go_wp2;have h:=sr d.out C.told ec (C.m r);have q:=su d.out r ec;have N:=su d.out C.told ec;have s:=su h r ec;have A:rU C.m C.told (C.m r) r=C.m r:=by unfold rU;split<;>rfl
  simp only [A] at s;have O:=EG (m:=C.m r) (tP d.out C.told ec);have P:=EG (m:=C.m C.told) (tP h r ec);have k1:(r:Int)<8:=ec
  have k2:(C.told:Int)<8:=ec
  refine dr 29 [(0,ZV),(1,ZV),(2,ZV),(3,ZV),(4,ZV),(5,ZV),(6,ZV),(7,ZV),(8,ZV),(9,ZV),(10,ZV),(11,ZV),(12,ZV),(13,ZV),(14,ZV),(15,ZV),(16,ZV),(17,ZV),(18,ZV),(19,ZV),(20,ZV),(22,ZV),(23,ZV),(26,ZV),(27,ZV),(21,ZU),(24,ZV),(25,ZU),(28,ZV),(29,ZU)] (λw'=>w'.cell? ⟨b,128,ZX⟩=ZW (Z7 Z9 (C.told:Int))/\(Instr.loadAt 287 (Z6 (ZW ⟨b,r*16,ZX⟩))).run ZM w'=.ok (.agg (fK (C.m r)).toArray) w') ei ei ⟨d.out.R6,q⟩ ?_;iterate 12 (refine aF rfl rfl ?_;apply YF;refine ⟨λw' a=>?_,?_⟩;(obtain ⟨u,x⟩:=a;first|(go_simp;done)|(go_simp;exact rfl));simp only [Act.put,TZ,TY,T5])
  refine aF rfl rfl ⟨_,λw' a=>by simp [execOp,Act.eval,a.2];rfl,?_⟩;simp only [Act.put,TZ,TY,T5];iterate 12 (refine aF rfl rfl ?_;apply YF;refine ⟨λw' a=>?_,?_⟩;(obtain ⟨u,x⟩:=a;first|(go_simp;done)|(go_simp;exact rfl));simp only [Act.put,TZ,TY,T5])
  refine eJ (v:=.agg (fK (C.m C.told)).toArray) (w1:=w1.drew) rfl rfl (by simp [execOp,Act.eval,N]) (λ_=>⟨d.out.R6,q⟩) ?_;simp only [Act.put,TZ,TY,T5];refine aF rfl rfl ?_;apply YF;refine ⟨λw' a=>?_,?_⟩;(obtain ⟨u,x⟩:=a;first|(go_simp;done)|(go_simp;exact rfl));simp only [Act.put,TZ,TY,T5];refine ku rfl rfl (by simp [execOp,Act.eval,O]) (λ_=>⟨h.R6,s⟩) ?_;simp only [Act.put,TZ,TY,T5];refine aF rfl rfl ?_;apply YF;refine ⟨λw' a=>?_,?_⟩;(obtain ⟨u,x⟩:=a;first|(go_simp;done)|(go_simp;exact rfl));simp only [Act.put,TZ,TY,T5];refine ku rfl rfl (by simp [execOp,Act.eval,P];rfl) (absurd rfl) (cH ?_);simp only [Act.put];clear h q N s A O P k1 k2 d;obtain ⟨w2,Q⟩:=nM ((w1.drew.setCells b (C.told*16) (fK (C.m r))).setCells b (r*16) (fK (C.m C.told)));rw [Q] at g n ⊢;clear Q k;have k:=g.out.R6;have V:eA ⟨dC C.m C.told r,C.told,C.count⟩:=⟨jE c.byt,c.le,c.Sb⟩;go_wp2_with fail;refine (Cb b C.told i _ _ g.out V ec t).mono ?_;rintro e w3 ⟨rfl,p,K⟩;have W:eA ⟨eH (dC C.m C.told r) C.told i,C.told,C.count⟩:=⟨sN (jE c.byt),c.le,c.Sb⟩;have E:=gD n.out K;have l:=p.R6;have H:=ak p;have I:=ak E;clear p K E k g n;go_wp2_with fail;refine (xT b C.told i _ _ H.out W ec t).mono ?_;rintro e X ⟨rfl,j,L⟩;have F:=gD I.out L;have J:=Lc j (C.told+1);have M:=eF F 128 (Z7 Z9 ((C.told+1:Nat):Int));have y:=j.R6;have Y:=j.frozen 128;have R:X.cell? ⟨b,128,ZX⟩=ZW (Z7 Z9 (C.told:Int)):=y;have k7:wrap64 ((C.told:Int)+1)=((C.told+1:Nat):Int):=E3
  have k6:IntKind.i64.wrap ((C.told:Int)+1)=((C.told+1:Nat):Int):=l3
  have T:=ak J;have U:=ak M;clear j L F J M y l H I;go_wp2;go_ret;exact .inr ⟨_,HN.o,rfl,T.out,U.out⟩
def aV (C:Ck):Array ZS:=((YE 130).map (nF C)).toArray
def bY (C:Ck):(aV C).size=130:=by unfold aV;rw [UH,Ue,Vp]
def zW (C:Ck) (i:Nat) (a:i<130):(aV C)[i]?=ZW (nF C i):=by
 unfold aV;rw [Xq,UD,Ww a];rfl
def Tryz.infoCk:(ZM.info? 332).map (λi=>i.size)=ZW 130:=ei
def dR (C:Ck):(ZM.info? 332).map (λi=>i.size)=ZW (aV C).size:=by rw [bY];exact Tryz.infoCk
theorem Oi (C:Ck) (i:Nat):(nF C i).oneCell'=ZV:=by
 unfold nF;split
 . rfl
 . split<;>rfl
def mn (C:Ck):(aV C).all (λv=>v.oneCell')=ZV:=by
 rw [Yc];intro i a;have:=zW C i (by rw [<- bY C];exact a);rw [VK a] at this;rw [UM this];exact Oi C i
theorem aC.heap (h:aC w b C):w.heap[b]?=ZW (Z4 (aV C) 332 (0,0)):=by
 obtain ⟨c,j,l,k⟩:=h;have e:c=aV C:=by
  apply YB
  . rw [l,bY]
  . intro i f g;have a:=k i ec;have d:=zW C i ec;rw [VK f] at a;rw [VK g] at d;rw [UM a,UM d]
 rw [<- e];exact j
def aC.of_heap (h:w.heap[b]?=ZW (Z4 (aV C) 332 (0,0))):aC w b C:=⟨_,h,bY C,λi a=>zW C i a⟩
def aC.new (w:ZT) (C:Ck):aC (w.alloc (Z4 (aV C) 332)) w.heap.size C:=aC.of_heap (X2 w _)
def aC.lt (h:aC w b C):b<w.heap.size:=(TX.1 h.heap).1
def aC.keep (h:aC w b C) (e:w'.heap[b]?=w.heap[b]?):aC w' b C:=aC.of_heap (e.trans h.heap)
def aC.setRow (C:Ck) (h:aC w b C'):aC (w.setRow b (aV C)) b C:=aC.of_heap (Vt w b (aV C') (aV C) _ _ h.heap)
def aN (w:ZT) (b:Nat) (cs:Array ZS):w.grownBy (w.setRow b cs) (ZW b):=
 ⟨rfl,rfl,rfl,ek,λk _ a=>by
  have:b≠k:=λe=>a Wb;simp [World.setRow,Vy,this]⟩
def mq (h:aC w b C):(Instr.loadAt 332 (Z6 (ZW ⟨b,0,ZX⟩))).run ZM w=.ok (.agg (aV C)) w:=by
 simp only [Instr.loadAt,Instr.sureAddr,UE,VP,UT,Xf w b 332 332 (aV C) (0,0) _ h.heap XP rfl (dR C)]
def nu (C:Ck) (h:aC w b C'):(Instr.storeAt 332 (Z6 (ZW ⟨b,0,ZX⟩)) (.agg (aV C))).run ZM w=.ok () (w.setRow b (aV C)):=by
 simp only [Instr.storeAt,Instr.sureAddr,UE,VP,UT,X1 w b 332 332 (aV C') (aV C) h.heap (dR C) (by rw [bY,bY]) (mn C)]
def kJ {F:Fence} (f:o.guard=ZX) (x:ZN) (ho:o.op=.load 332 x) (b:Nat) (C:Ck)
 (g:a.eval x=Z6 (ZW ⟨b,0,ZX⟩)) (e:aC w b C) (h:wpListIn F n ZM ops Q rest (a.put o.dst (.agg (aV C))) w):wpListIn F n ZM ops Q (o::rest) a w:=by
 refine Yj f λK hK=>?_;unfold Oper.wpIn;refine ⟨Zt,?_⟩;rw [Vu F _ _ (by rw [ho];intro c d;cases d)];simp [execOp,ho,g,mq e,Result.andThen];exact hK _ _ h
def jN {F:Fence} (f:o.guard=ZX) (x y:ZN) (ho:o.op=.store 332 x y) (b:Nat) (C C':Ck)
 (g:a.eval x=Z6 (ZW ⟨b,0,ZX⟩)) (i:a.eval y=.agg (aV C)) (e:aC w b C') (h:wpListIn F n ZM ops Q rest (a.put o.dst ZY) (w.setRow b (aV C))):wpListIn F n ZM ops Q (o::rest) a w:=by
 refine Yj f λK hK=>?_;unfold Oper.wpIn;refine ⟨Zt,?_⟩;rw [Vu F _ _ (by rw [ho];intro c d;cases d)];simp [execOp,ho,g,i,nu C e,Result.andThen];exact hK _ _ h
def dN:Ck:=⟨λ_ _=>0,0,0⟩
def Tryz.zeroCk:(ZM.info? 332).map (λi=>(i.zero,i.size,i.bytes))=ZW (ZW (.agg (aV dN)),130,144):=ei
def zeroCk (w:ZT):(zeroValue 332).run ZM w=.ok (.agg (aV dN)) w:=by
 obtain ⟨c,a,b,_,_⟩:=Uu Tryz.zeroCk;simp [zeroValue,typeInfo,UE,a,b]
def aC.mono (h:aC w b C) (c:Below B w w') (a:b<B):aC w' b C:=h.keep (c.block b a)
def JY:Code->Nat->Option (Array ZQ)
 | .region i ops _,n=>if i=n then ZW ops else ZX
 | .seq a b,n=>(JY a n).orElse λ_=>JY b n
 | .cond _ a b,n=>(JY a n).orElse λ_=>JY b n
 | .block _ a,n=>JY a n
 | .loop a,n=>JY a n
 | .scope a,n=>JY a n
 | .rangeFunc _ _ a b,n=>(JY a n).orElse λ_=>JY b n
 | _,_=>ZX
noncomputable def aaD:Array ZQ:=((Tryz.f229.body.bind (JY · 8))).getD #[]
def Ce:List (Op×Option Nat×a8):=[(.load 332 (Z0 12),ZW 28,[]),(.load 133 (Z0 6),ZW 29,[]),(.move (Z0 11),ZW 30,[]),
 (.call { callee:=.value (.func 231),args:=#[Z0 29,Z0 30],argTypes:=#[133,3] },ZW 31,[1,2]),(.load 3 (Z0 7),ZW 32,[]),(.load 201 (Z0 8),ZW 33,[]),(.load 350 (Z0 9),ZW 34,[]),
 (.call { callee:=.value (.func 229),args:=#[Z0 28,Z0 31,Z0 32,Z0 33,Z0 34],argTypes:=#[332,133,3,201,350] },ZW 35,[0,3,4,5,6,3]),(.unOp .not 4 (Z0 35),ZW 36,[7])]
def EH:eu aaD 28 37 Ce:=ti ei ei
def EJ (w:ZT) (R:ZT->Prop) (Dn:Nat->Bool) (w':ZT):Prop:=if Dn 7=ZV then R w' else w'=w.drew
def gH {R:ZT->Prop} (h:EJ w R Dn w') (i:Nat) (a:7≠i):EJ w R (Ge Dn i) w':=by unfold EJ;rw [iJ a];exact h
def mr {R:ZT->Prop} (h:EJ w R Dn w') {j:Nat} (e:j<8) (a:Dn j=ZU) (b:∀ j,Dn j=ZV->j<Ce.length/\∀ k∈(gG Ce j).2.2,Dn k=ZV):w'=w.drew:=by
 unfold EJ at h;cases q:Dn 7 with
 | false=>rw [q] at h;exact h
 | true=>
  have c:=(b 7 q).2;have d:=(b 3 (c 3 ee)).2;exfalso;match j,e with
  | 0,_|3,_|4,_|5,_|6,_=>exact nomatch a.symm.trans (c _ ee)
  | 1,_|2,_=>exact nomatch a.symm.trans (d _ ee)
  | 7,_=>exact nomatch a.symm.trans q
theorem EK (B E F G H i of q:Nat) (C:Ck) (z A:ZS) (R:ZT->Prop) (U:aaD=ops)
 (sz:a.tmps.size=39) (V:i<16) (T:of<65536) (i12:a.eval (Z0 12)=Z6 (ZW ⟨B,0,ZX⟩)) (Y:a.eval (Z0 6)=Z6 (ZW ⟨E,0,ZX⟩)) (i11:a.eval (Z0 11)=Z7 Z9 (i:Int)) (Z:a.eval (Z0 7)=Z6 (ZW ⟨F,0,ZX⟩)) (i8:a.eval (Z0 8)=Z6 (ZW ⟨G,0,ZX⟩)) (i9:a.eval (Z0 9)=Z6 (ZW ⟨H,0,ZX⟩))
 (S:aC w.drew B C) (c6:w.drew.cell? ⟨E,0,ZX⟩=ZW (Z7 Z8 (of:Int))) (c7:w.drew.cell? ⟨F,0,ZX⟩=ZW (Z7 Z9 (q:Int))) (c8:w.drew.cell? ⟨G,0,ZX⟩=ZW z) (c9:w.drew.cell? ⟨H,0,ZX⟩=ZW A)
 (P:∀ m,CallsIn Fence.wide m ZM 229 #[.agg (aV C),Z7 Z8 (bB of i:Nat),Z7 Z9 (q:Int),z,A] w.drew λe w''=>e=Z3 (Z1 ZV)/\R w'')
 (h:∀ b w'',Ld 28 37 a b->b.eval (Z0 36)=Z1 ZU->R w''->Q .normal b w''):(Code.region 8 ops ZV).wpIn (Fence.wide.inRound l) n ZM Q a w:=by
 subst U;refine jw ei EH a w ec (λj u _=>u=([.agg (aV C),Z7 Z8 (of:Int),Z7 Z9 (i:Int),Z7 Z8 (bB of i:Nat),Z7 Z9 (q:Int),z,A,Z1 ZV,Z1 ZU]:List ZS).getD j ZY) (EJ w R) rfl ?_ ?_
 . intro j W;match j,W with
   | 0,_=>
    intro o b w' Dn x ho p k s t r d g;obtain rfl:=mr d ee s t;exact ia (by (conv at ho=>rhs;whnf);simp [execOp,ho,(k.slot 12 ec).trans i12,mq S,Result.andThen]) iE p ⟨gH d _ ee,rfl,kq⟩
   | 1,_=>
    intro o b w' Dn x ho p k s t r d g;obtain rfl:=mr d ee s t;exact ia (v:=Z7 Z8 (of:Int)) (by (conv at ho=>rhs;whnf);simp only [execOp,ho,(k.slot 6 ec).trans Y];go_simp) iE p ⟨gH d _ ee,rfl,kq⟩
   | 2,_=>exact λo b w' Dn x ho p k s t r d g=>ia (Bn ho ((k.slot 11 ec).trans i11) w') iE p ⟨gH d _ ee,rfl,kq⟩
   | 3,_=>
    intro o b w' Dn x ho p k s t r d g;have y:b.eval (Z0 29)=Z7 Z8 (of:Int):=g 1 (r 1 ee);have I:b.eval (Z0 30)=Z7 Z9 (i:Int):=g 2 (r 2 ee);refine BQ (f:=231) (args:=#[Z7 Z8 (of:Int),Z7 Z9 (i:Int)]) (w1:=w') (by have D:b.eval (.func 231)=.func (.func 231) #[] #[]:=rfl;generalize b.eval=N at y I D ⊢;(conv at ho=>rhs;whnf);simp [execOp,ho,Ce,resolve,invoke,y,I,D,go_sem]) iE p (Ep of i T V _) ?_;rintro e w'' ⟨rfl,rfl⟩;exact ⟨_,rfl,gH d _ ee,rfl,kq⟩
   | 4,_=>
    intro o b w' Dn x ho p k s t r d g;obtain rfl:=mr d ee s t;exact ia (v:=Z7 Z9 (q:Int)) (by (conv at ho=>rhs;whnf);simp only [execOp,ho,(k.slot 7 ec).trans Z];go_simp) iE p ⟨gH d _ ee,rfl,kq⟩
   | 5,_=>
    intro o b w' Dn x ho p k s t r d g;obtain rfl:=mr d ee s t;exact ia (v:=z) (by (conv at ho=>rhs;whnf);simp only [execOp,ho,(k.slot 8 ec).trans i8];go_simp) iE p ⟨gH d _ ee,rfl,kq⟩
   | 6,_=>
    intro o b w' Dn x ho p k s t r d g;obtain rfl:=mr d ee s t;exact ia (v:=A) (by (conv at ho=>rhs;whnf);simp only [execOp,ho,(k.slot 9 ec).trans i9];go_simp) iE p ⟨gH d _ ee,rfl,kq⟩
   | 7,_=>
    intro o b w' Dn x ho p k s t r d g;obtain rfl:=mr d ee s t;have y:b.eval (Z0 28)=.agg (aV C):=g 0 (r 0 ee);have J:b.eval (Z0 31)=Z7 Z8 (bB of i:Nat):=g 3 (r 3 ee);have K:b.eval (Z0 32)=Z7 Z9 (q:Int):=g 4 (r 4 ee);have L:b.eval (Z0 33)=z:=g 5 (r 5 ee);have M:b.eval (Z0 34)=A:=g 6 (r 6 ee);refine BQ (f:=229) (args:=#[.agg (aV C),Z7 Z8 (bB of i:Nat),Z7 Z9 (q:Int),z,A]) (w1:=w.drew) (by have D:b.eval (.func 229)=.func (.func 229) #[] #[]:=rfl;generalize b.eval=N at y J K L M D ⊢;(conv at ho=>rhs;whnf);simp [execOp,ho,Ce,resolve,invoke,y,J,K,L,M,D,go_sem]) iE p (Vd.1 (P 0)) ?_;rintro e w'' ⟨rfl,X⟩;exact ⟨_,rfl,(show R w'' from X),rfl,kq⟩
   | 8,_=>
    intro o b w' Dn x ho p k s t r d g;have y:b.eval (Z0 35)=Z1 ZV:=g 7 (r 7 ee);exact ia (v:=Z1 ZU) (by (conv at ho=>rhs;whnf);simp only [execOp,ho,y];go_simp) iE p ⟨gH d _ ee,rfl,kq⟩
 . rintro b w' k _ ⟨Dn,O,d⟩ g;unfold EJ at d;rw [O 7 ee,TT rfl] at d;exact h b w' ⟨k.size,k.defers,k.slot⟩ (g 8 ee) d
section
attribute [local go_sem] Oper.semAt_some
theorem xV (p least Bl:Nat) (w:ZT) (a:w.cell? ⟨Bl,0,ZX⟩=ZW (Z7 Z9 (least:Int))) :
 ZR ZM 225 #[Z7 Z9 p,Z6 (ZW ⟨Bl,0,ZX⟩)] w λe w'=>e=Z3 (Z1 (decide (p<least)))/\w'=w:=by
 go_enter func225,ntmps225;go_wp2;go_ret;exact ⟨ek,rfl⟩
def fy (Bl:Nat):ZS:=.func (.func 225) #[] #[Z6 (ZW ⟨Bl,0,ZX⟩)]
def Bx (W:ZT) (B:Nat) (v:ZS):Prop:=∃ t,ZO W B t v
def Bx.cell {v:ZS} (h:Bx W B v):W.cell? ⟨B,0,ZX⟩=ZW v:=by obtain ⟨t,h⟩:=h;exact h.cell
def Bx.frozen {v:ZS} (h:Bx W B v):W.frozen? ⟨B,0,ZX⟩=ZU:=by obtain ⟨t,h⟩:=h;exact h.frozen
def Bx.lt {v:ZS} (h:Bx W B v):B<W.heap.size:=by obtain ⟨t,h⟩:=h;exact h.lt
def Bx.keep {v:ZS} (h:Bx W B v) (e:W'.heap[B]?=W.heap[B]?):Bx W' B v:=by obtain ⟨t,h⟩:=h;exact ⟨t,e.trans h⟩
def Bx.set {v:ZS} (h:Bx W B v) (a:ZS):Bx (W.setCell ⟨B,0,ZX⟩ a) B a:=by obtain ⟨t,h⟩:=h;exact ⟨t,h.set a⟩
def Bx.new (W:ZT) (t:ZP) (v:ZS):Bx (W.alloc (Z4 #[v] t)) W.heap.size v:=⟨t,Us W t v⟩
def Bx.alloc {v:ZS} (h:Bx W B v) (o:Obj):Bx (W.alloc o) B v:=by obtain ⟨t,h⟩:=h;exact ⟨t,h.alloc o⟩
structure VB (W:ZT) (h:Nat) (C:Ck) (of q Bl l:Nat):Prop where
 ck:aC W h C
 set:Bx W (h+1) (Z7 Z8 (of:Int))
 pas:Bx W (h+1+1) (Z7 Z9 (q:Int))
 Sj:Bx W (h+1+1+1) (fy Bl)
 yld:Bx W (h+1+1+1+1) (.func (.yield l) #[] #[])
 res:Bx W (h+1+1+1+1+1) (Z1 ZU)
def VB.keep (v:VB W h C of q Bl l) (e:∀ k,h<=k->k<h+6->W'.heap[k]?=W.heap[k]?):VB W' h C of q Bl l:=
 ⟨v.ck.keep (e _ ec ec),v.set.keep (e _ ec ec),v.pas.keep (e _ ec ec),v.Sj.keep (e _ ec ec),v.yld.keep (e _ ec ec),v.res.keep (e _ ec ec)⟩
def VB.passed (v:VB W h C of q Bl l) (a:Nat):VB (W.setCell ⟨h+1+1,0,ZX⟩ (Z7 Z9 (a:Int))) h C of a Bl l:=by
 have e:∀ k,k≠h+1+1->(W.setCell ⟨h+1+1,0,ZX⟩ (Z7 Z9 (a:Int))).heap[k]?=W.heap[k]?:=λk b=>Wm _ _ _ _ b;exact ⟨v.ck.keep (e _ ec),v.set.keep (e _ ec),v.pas.set _,v.Sj.keep (e _ ec),v.yld.keep (e _ ec),v.res.keep (e _ ec)⟩
def jg (K:a8) (d:Nat) (C:Ck) (of p:Nat) (s:cD) (pre:List Sh):Nat×cD×Bool:=(pre.map (·.1)).foldl (gY (zn K d) C of) (p,ft K s C,ZU)
def EL (K:a8) (d:Nat) (C:Ck) (of p:Nat) (s:cD) (pre:List Sh) (x:Sh):jg K d C of p s (pre++[x])=gY (zn K d) C of (jg K d C of p s pre) x.1:=by
 unfold jg;rw [Uw,Wu];rfl
def Iv {K:a8} (h:pre.map (·.1)=ab of):(jg K d C of p s pre).2.1=iF K d C of p s:=by
 unfold jg;rw [h,pt]
def EM {K:a8} (h:pre.map (·.1)<+:ab of) (e:(jg K d C of p s pre).2.2=ZV):(jg K d C of p s pre).2.1=iF K d C of p s:=by
 obtain ⟨R,c⟩:=h;rw [pt,<- c,Wu];show _=(R.foldl (gY (zn K d) C of) (jg K d C of p s pre)).2.1;obtain ⟨f,a⟩:∃ q sx,jg K d C of p s pre=(q,sx,ZV):=⟨_,_,by rw [<- e]⟩;obtain ⟨a,b⟩:=a;rw [b,wU]
def VI (K:a8) (d:Nat) (C:Ck) (of p:Nat) (s:cD) (W:ZT) (B n0 Bl l:Nat) (J:cD->ZT->Prop) (brk:Bool) (pre:List Sh) (X:ZT):Prop:=
 (jg K d C of p s pre).2.2=brk/\VB X W.heap.size C of (jg K d C of p s pre).1 Bl l/\J (jg K d C of p s pre).2.1 X/\bh n0 W X/\(jg K d C of p s pre).1<=p+pre.length/\B<=X.heap.size
def VI.own {K:a8} {brk:Bool} (f:∀ s A B,J s A->Below n0 A B->J s B) (o:W.heap.size+6<=B) (t:n0<=W.heap.size) :
 OwnFrom B (VI K d C of p s W B n0 Bl l J brk):=by
 rintro pre X Y row ⟨g,h,i,b,j,q⟩ a n;have c:∀ k,k<W.heap.size+6->Y.heap[k]?=X.heap[k]?:=λk c=>a.block k ec (λe=>e9 ((n k e.symm).1));have:=a.size;refine ⟨g,h.keep (λk _ m=>c k m),f _ _ _ i ⟨a.os,a.tape,a.output,a.size,λk r=>c k ec⟩,⟨a.os.trans b.os,a.tape.trans b.tape,a.output.trans b.output,e9 b.size,λk k1 k2=>(c k ec).trans (b.block k k1 k2)⟩,j,ec⟩
def VX (K:a8) (d:Nat) (C:Ck) (of p:Nat) (s:cD) (W:ZT) (B n0 Bl l:Nat) (J:cD->ZT->Prop) (c:Code) (pre:List Sh) (X:ZT):Prop:=c=.exit 0/\VI K d C of p s W B n0 Bl l J ZV pre X
def Iw (h:¬ q<sx.2):gY rec C of (q,sx,ZU) i=(q,sx,ZV):=by unfold gY;simp [h]
def Ix (h:q<sx.2) (hl:iB C i=ZX):gY rec C of (q,sx,ZU) i=(q,sx,ZU):=by unfold gY;simp [h,hl]
def Oj (h:q<sx.2) (hl:iB C i=ZW C'):gY rec C of (q,sx,ZU) i=(q+1,rec C' (bB of i) q sx,ZU):=by unfold gY;simp [h,hl]
def kK (s:Nat):(shs s).length=(ab s).length:=by rw [<- N6 s,Ue]
def pL (s:Nat):(shs s).length<=16:=by
 rw [kK];exact TU (WS _ _) ek
theorem Iy (q:Nat) (h:q<=100000):wrap64 ((q:Int)+1)=((q+1:Nat):Int)/\IntKind.i64.wrap ((q:Int)+1)=((q+1:Nat):Int):=by
 constructor
 . unfold wrap64;omega
 . rw [Uy];omega
theorem xW (b:∀ s A B,J s A->Below n0 A B->J s B) (w:n0<=W.heap.size) (q:W.heap.size<=B) (r:W.heap.size<=D) (j:B≠D)
 (i:Bx X B (Z1 ZU)) (t:J s X) (o:bh n0 W X) (hK:X.heap[D]?=ZW (.deferred (ZW []))) (f:a.defers=[{ target:=.collected D,args:=#[] }]) (h5:a.eval (Z0 10)=Z6 (ZW ⟨B,0,ZX⟩)) (hT:a.tmps.size=39) :
 bodyPostM Fence.wide n ZM Tryz.f229 (λe W'=>e=Z3 (Z1 ZV)/\J s W'/\bh n0 W W') .ret a (X.setCell ⟨B,0,ZX⟩ (Z1 ZV)):=by
 have d:(X.setCell ⟨B,0,ZX⟩ (Z1 ZV)).heap[D]?=ZW (.deferred (ZW [])):=(V5 _ _ _).same D _ hK rfl;obtain ⟨g,u⟩:=a;simp only at f hT;subst f;refine ⟨ek,.inl ⟨_,_,rfl,WA d,?_⟩⟩;have k:Bx (X.setCell ⟨B,0,ZX⟩ (Z1 ZV)) B (Z1 ZV):=i.set _;have l:Bx ((X.setCell ⟨B,0,ZX⟩ (Z1 ZV)).putObj D (.deferred ZX)) B (Z1 ZV):=k.keep (UP (λe=>j e));have c:=l.cell;have m:=(TX.1 d).1;have h:g.getD 10 ZY=Z6 (ZW ⟨B,0,ZX⟩):=h5;refine ⟨Z1 ZV,?_,rfl,b _ _ _ (b _ _ _ t ((TW _ _).setCell (p:=⟨B,0,ZX⟩) (by show n0<=B;omega) _)) (Below.RO (TW _ _) ec m _),(o.setCell (p:=⟨B,0,ZX⟩) (.inr q) _).putObj (.inr r) _⟩;have v:g[10]' ec=Z6 (ZW ⟨B,0,ZX⟩):=by rw [<- h];simp [hT]
 simp only [results,results229];go_simp
theorem tS (K:a8) (n0 Bl l:Nat) (J:cD->ZT->Prop) (t:∀ s A B,J s A->Below n0 A B->J s B)
 (k7:∀ s A,J s A->A.cell? ⟨Bl,0,ZX⟩=ZW (Z7 Z9 (s.2:Int))/\n0<=A.heap.size/\aG A) (qp:2<=n0)
 (hY:∀ m s C W1,J s W1->eA C->YieldAt Fence.wide m ZM l #[.agg (aV C)] W1 λe W'=>e=Z3 (Z1 ZV)/\J (ft K s C) W'/\bh n0 W1 W')
 (d m:Nat) (C:Ck) (of p:Nat) (s:cD) (W:ZT) (hf:eA C) (kk:of<65536) (hp:p+16<=100000) (hJ:J s W)
 (ko:∀ (m i:Nat) (C':Ck) (z p':Nat) (s':cD) (W':ZT),iB C i=ZW C'->z<65536->p'<=p+16->J s' W' ->
  CallsIn Fence.wide m ZM 229 #[.agg (aV C'),Z7 Z8 z,Z7 Z9 p',fy Bl,.func (.yield l) #[] #[]] W' λe H=>e=Z3 (Z1 ZV)/\J (zn K d C' z p' s') H/\bh n0 W' H) :
 CallsIn Fence.wide m ZM 229 #[.agg (aV C),Z7 Z8 of,Z7 Z9 p,fy Bl,.func (.yield l) #[] #[]] W λe W'=>e=Z3 (Z1 ZV)/\J (iF K d C of p s) W'/\bh n0 W W':=by
 obtain ⟨_,R,_⟩:=k7 s W hJ;obtain ⟨n,HN⟩:∃ n:Nat,b9 (5<=n):=⟨5,TV _⟩;refine Vd.2 ((Vd (n:=n)).1 ?_);refine Wh func229 rfl trivial ?_ rfl;simp only [ntmps229,UH,UA,UV,YG,YH,Vg,Vh,Vj,Vk,Uq,US];have N:bW W ((((((W.alloc (Z4 (aV C) 332)).alloc (Z4 #[Z7 Z8 (of:Int)] 133)).alloc (Z4 #[Z7 Z9 (p:Int)] 3)).alloc (Z4 #[fy Bl] 201)).alloc (Z4 #[.func (.yield l) #[] #[]] 350)).alloc (Z4 #[Z1 ZU] 4)):=
  (((((bA W _).alloc ek _).alloc en _).alloc en _).alloc en _).alloc en _
 have S:VB ((((((W.alloc (Z4 (aV C) 332)).alloc (Z4 #[Z7 Z8 (of:Int)] 133)).alloc (Z4 #[Z7 Z9 (p:Int)] 3)).alloc (Z4 #[fy Bl] 201)).alloc (Z4 #[.func (.yield l) #[] #[]] 350)).alloc (Z4 #[Z1 ZU] 4)) W.heap.size C of p Bl l:=by
  have M:∀ (X:ZT) (o:Obj) (k:Nat),k<X.heap.size->(X.alloc o).heap[k]?=X.heap[k]?:=λX o k h=>We X o k h;refine ⟨?_,?_,?_,?_,?_,?_⟩
  . exact (aC.new W C).keep (by rw [M _ _ _ en,M _ _ _ en,M _ _ _ en,M _ _ _ en,M _ _ _ ek])
  . have h:=Bx.new (W.alloc (Z4 (aV C) 332)) 133 (Z7 Z8 (of:Int));rw [Ul] at h;exact (((h.alloc _).alloc _).alloc _).alloc _
  . have h:=Bx.new ((W.alloc (Z4 (aV C) 332)).alloc (Z4 #[Z7 Z8 (of:Int)] 133)) 3 (Z7 Z9 (p:Int));simp only [Ul] at h;exact ((h.alloc _).alloc _).alloc _
  . have h:=Bx.new (((W.alloc (Z4 (aV C) 332)).alloc (Z4 #[Z7 Z8 (of:Int)] 133)).alloc (Z4 #[Z7 Z9 (p:Int)] 3)) 201 (fy Bl);simp only [Ul] at h;exact (h.alloc _).alloc _
  . have h:=Bx.new ((((W.alloc (Z4 (aV C) 332)).alloc (Z4 #[Z7 Z8 (of:Int)] 133)).alloc (Z4 #[Z7 Z9 (p:Int)] 3)).alloc (Z4 #[fy Bl] 201)) 350 (.func (.yield l) #[] #[]);simp only [Ul] at h;exact h.alloc _
  . have h:=Bx.new (((((W.alloc (Z4 (aV C) 332)).alloc (Z4 #[Z7 Z8 (of:Int)] 133)).alloc (Z4 #[Z7 Z9 (p:Int)] 3)).alloc (Z4 #[fy Bl] 201)).alloc (Z4 #[.func (.yield l) #[] #[]] 350)) 4 (Z1 ZU);simp only [Ul] at h;exact h
 have k9:((((((W.alloc (Z4 (aV C) 332)).alloc (Z4 #[Z7 Z8 (of:Int)] 133)).alloc (Z4 #[Z7 Z9 (p:Int)] 3)).alloc (Z4 #[fy Bl] 201)).alloc (Z4 #[.func (.yield l) #[] #[]] 350)).alloc (Z4 #[Z1 ZU] 4)).heap.size=W.heap.size+6:=ek
 unfold fy at N S k9 ⊢;obtain ⟨W6,kc⟩:=nM (((((((W.alloc (Z4 (aV C) 332)).alloc (Z4 #[Z7 Z8 (of:Int)] 133)).alloc (Z4 #[Z7 Z9 (p:Int)] 3)).alloc (Z4 #[.func (.func 225) #[] #[Z6 (ZW ⟨Bl,0,ZX⟩)]] 201)).alloc (Z4 #[.func (.yield l) #[] #[]] 350)).alloc (Z4 #[Z1 ZU] 4)));rw [kc] at N S k9;obtain ⟨fn,tmps,assign,body,hy,q0⟩:=hY (n-1) s C W6 (t s W W6 hJ (N.mono R)) hf;have c9:=S.yld.cell;have r:=ak S;have HB:=ak N;have HS:=ak k9;clear S N k9;gi_wp2_with (first
  | (rw [kc];refine kJ rfl (Z0 5) rfl W.heap.size C rfl r.o.ck ?_)
  | (refine kJ rfl (Z0 5) rfl W.heap.size C rfl r.o.ck ?_))
 refine ⟨λh=>vE,q0.mono ?_⟩;rintro e f ⟨rfl,kz,Z⟩;have hA:bh n0 W f:=(bh.RM HB.o).trans Z;have kr:VB f W.heap.size C of p Bl l:=r.o.keep (λk k1 k2=>Z.block k ec (e9 HS.o));have qq:W.heap.size+6<=f.heap.size:=by have:=Z.size;have:=HS.o;omega
 have q6:=k7 _ _ kz;have c6:=kr.set.cell;clear hy q0 kc r HB HS Z c9;have r:=ak kr;clear kr;gi_wp2;refine cd (dK of f) ?_;rintro e w' ⟨rfl,rfl⟩;have q1:aG (f.alloc (Z4 #[Z7 Z8 (of:Int)] 133)):=q6.2.2.mono (B:=f.heap.size) ec (bA _ _);have q3:(f.alloc (Z4 #[Z7 Z8 (of:Int)] 133)).cell? ⟨f.heap.size,0,ZX⟩=ZW (Z7 Z8 (of:Int)):=(Bx.new f 133 (Z7 Z8 (of:Int))).cell;have h0:VI K d C of p s W (f.alloc (Z4 #[Z7 Z8 (of:Int)] 133)).heap.size n0 Bl l J ZU [] (f.alloc (Z4 #[Z7 Z8 (of:Int)] 133)):=
  ⟨rfl,r.o.keep (λk k1 k2=>We _ _ _ ec),t _ _ _ kz ((TW _ _).alloc q6.2.1 _),hA.trans (bh.RM (bA _ _)),TV _,TV _⟩
 have q8:(f.alloc (Z4 #[Z7 Z8 (of:Int)] 133)).heap.size=f.heap.size+1:=ek
 obtain ⟨V,q2⟩:=nM (f.alloc (Z4 #[Z7 Z8 (of:Int)] 133));have H0:=ak h0;have HC:=ak q3;have HT:=ak q1;have j:=ak q8;clear h0 q3 q1 q8;gi_wp2;rw [q2] at H0 HC HT j;clear q2;refine Wi rfl (e9 HN.o) (gf:=147) (lb:=#[Z6 (ZW ⟨f.heap.size,0,ZX⟩)]) rfl trivial (U5 func147 ei rfl)
  (eS (n-1) f.heap.size of kk V (e9 j.o) HC.o (e9 j.o) HT.o) (λh k=>qY h k) (qZ (e9 j.o)) (TW _ _) (λ_=>rfl)
  (VI K d C of p s W V.heap.size n0 Bl l J ZU) (VX K d C of p s W V.heap.size n0 Bl l J)
  (VI.own t (e9 j.o) R) (λc=>by
   rintro pre X Y row ⟨w,b⟩ hg hr;exact ⟨w,VI.own t (e9 j.o) R pre X Y row b hg hr⟩) H0.o
  (λx=>{ tmps:=#[.agg (aV C),Z7 Z8 (of:Int),Z7 Z9 (p:Int),.func (.func 225) #[] #[Z6 (ZW ⟨Bl,0,ZX⟩)],.func (.yield l) #[] #[],Z6 (ZW ⟨W.heap.size,0,ZX⟩),Z6 (ZW ⟨W.heap.size+1,0,ZX⟩),Z6 (ZW ⟨W.heap.size+1+1,0,ZX⟩),Z6 (ZW ⟨W.heap.size+1+1+1,0,ZX⟩),Z6 (ZW ⟨W.heap.size+1+1+1+1,0,ZX⟩),Z6 (ZW ⟨W.heap.size+1+1+1+1+1,0,ZX⟩),Z7 Z9 (x.1:Int),ZY,.func (.yield l) #[] #[],.agg (aV C),Z1 ZV,Z1 ZU,Z7 Z8 (of:Int),.func (.func 147) #[] #[Z6 (ZW ⟨f.heap.size,0,ZX⟩)],Z7 Z9 (x.1:Int),ZY,ZY,ZY,ZY,ZY,ZY,ZY,ZY,ZY,ZY,ZY,ZY,ZY,ZY,ZY,ZY,ZY,ZY,ZY],defers:=[] }) ?assign ?body ?done ?stop
 case assign=>
  intro l2 x X Kk hK;unfold qX;gi_wp2;exact hK
 case body=>
  rintro l2 pre x X ⟨w,b,g,u,y,E⟩ ki;obtain ⟨q,sx,q9⟩:∃ q sx,jg K d C of p s pre=(q,sx,ZU):=⟨_,_,by rw [<- w]⟩;have kp:=EL K d C of p s pre x;rw [q9] at b g y kp;simp only at b g y;have kj:(ab of).length<=16:=by rw [<- kK of];exact pL of
  have hq:q<=p+16:=ec
  have qj:q<=100000:=ec
  have hl:=k7 _ _ g;have cl:=hl.1;have c7:=b.pas.cell;have f7:=b.pas.frozen;have c8:=b.Sj.cell;unfold fy at c8;have r:=ak b;have HJ:=ak g;have HA:=ak u;have ka:=ak kp;have k5:=x.2;have U:=ak E;clear b g u q9 w kp hl E ki;gi_wp2;refine dq (xV q sx.2 Bl X cl) ?_;rintro e w' ⟨rfl,rfl⟩;by_cases Q:q<sx.2
  . have kg:decide (q<sx.2)=ZV:=UZ Q;rw [kg];have hz:=zeroCk;have ke:=r.o.ck;gi_wp2_with (first
     | (refine kJ rfl (Z0 5) rfl W.heap.size C rfl ke ?_)
     | (refine jN rfl (Z0 12) (Z0 24) rfl w'.heap.size C dN rfl rfl (aC.new w' dN) ?_))
    have kf:aC ((w'.alloc (Z4 (aV dN) 332)).setRow w'.heap.size (aV C)) w'.heap.size C:=(aC.new w' dN).setRow C;have O:bW w' ((w'.alloc (Z4 (aV dN) 332)).setRow w'.heap.size (aV C)):=(bA _ _).grown (aN _ _ _) ek (λk e=>B3);refine dq (Cd w'.heap.size x.1 C _ kf hf k5) ?_;rintro e w2 (⟨q7,rfl,qm⟩|⟨C',P,rfl,kb,q4⟩)
    ·
     subst qm;have HL:=ak q7;have F:=ak O;clear q7 O kf hz ke;gi_wp2;have kh:=j.o;have E:=U.o;have qg:=r.o.keep (λk k1 k2=>F.out.block k ec);refine ⟨(bh.RM F.out).keeps (T8 _),Gk.RM ec F.out,?_⟩;unfold VI;rw [ka.out,Ix Q HL.o];exact ⟨rfl,qg,t _ _ _ HJ.o (F.out.mono ec),HA.o.trans (bh.RM F.out),by rw [Ua];exact YM y,e9 F.out.size⟩
    ·
     have k8:bW w' w2:=O.grown q4 O.size (λk e=>B3);have qk:w'.heap.size<w2.heap.size:=kb.lt;have kv:=ak P;have qb:=ak k8;have qc:=ak kb;have qi:W.heap.size+6<=w'.heap.size:=(by have:=j.o;have:=U.o;omega);have qa:VB w2 W.heap.size C of q Bl l:=r.o.keep (λk k1 k2=>k8.block k ec);have q5:J sx w2:=t _ _ _ HJ.o (k8.mono ec);have L:=ak qa;have qd:=ak q5;clear P k8 kb q4 O kf hz ke qa q5;gi_wp2;have k0:∀ m,CallsIn Fence.wide m ZM 229 #[.agg (aV C'),Z7 Z8 (bB of x.1:Nat),Z7 Z9 (q:Int),fy Bl,.func (.yield l) #[] #[]] w2.drew λe w''=>e=Z3 (Z1 ZV)/\(J (zn K d C' (bB of x.1) q sx) w''/\bh n0 w2.drew w''):=
      λm=>ko m x.1 C' (bB of x.1) q sx w2.drew kv.out (pC _ _ kk) ec (t _ _ _ qd.out (TW _ _).drew)
     refine EK w'.heap.size (W.heap.size+1) (W.heap.size+1+1) (W.heap.size+1+1+1) (W.heap.size+1+1+1+1) x.1 of q C' (fy Bl) (.func (.yield l) #[] #[]) (λw''=>J (zn K d C' (bB of x.1) q sx) w''/\bh n0 w2.drew w'') ei rfl k5 kk rfl rfl rfl rfl rfl rfl
      (show aC w2.drew _ _ from qc.out) L.out.set.cell L.out.pas.cell L.out.Sj.cell L.out.yld.cell k0 ?_
     clear k0;rintro a' T hk f36 ⟨kx,G⟩;obtain ⟨ls,P,rfl⟩:=hk.split ee ek;clear hk;obtain ⟨u0,u1,u2,u3,u4,u5,u6,u7,u8,rfl⟩:=aaC P;clear P;simp only [abP,Wq,abL,Xy,US,Uq] at f36 ⊢;obtain rfl:u8=Z1 ZU:=f36;have h9:bh n0 w2 T:=⟨G.os,G.tape,G.output,G.size,G.block⟩;have hv3:VB T W.heap.size C of q Bl l:=L.out.keep (λk k1 k2=>h9.block k ec ec);have c7:=hv3.pas.cell;have f7:=hv3.pas.frozen;obtain ⟨qs,qn⟩:=Iy q qj;have qf:=ak hv3;have qe:=ak kx;have ks:=ak h9;clear hv3 kx h9 G;gi_wp2;have kh:=j.o;have E:=U.o;have ky:J (zn K d C' (bB of x.1) q sx) (T.setCell ⟨W.heap.size+1+1,0,ZX⟩ (Z7 Z9 ((q+1:Nat):Int))):=t _ _ _ qe.out ((TW _ _).setCell (p:=⟨W.heap.size+1+1,0,ZX⟩) (by show n0<=W.heap.size+1+1;omega) _);have hh:bh n0 w' T:=(bh.RM qb.out).trans ks.out;have qh:KeepsFrom V.heap.size w' (T.setCell ⟨W.heap.size+1+1,0,ZX⟩ (Z7 Z9 ((q+1:Nat):Int))):=(hh.keeps ec).trans ((V5 _ _ _).from _);refine ⟨qh,λ_=>(k7 _ _ ky).2.2,?_⟩;unfold VI;rw [ka.out,Oj Q kv.out];refine ⟨rfl,qf.out.passed (q+1),ky,(HA.o.trans hh).setCell (p:=⟨W.heap.size+1+1,0,ZX⟩) (.inr (TU (Nat.le_succ _) (Nat.le_succ _))) _,by rw [Ua];exact Nat.succ_le_succ y,?_⟩;have:=ks.out.size;simp only [World.setCell,abz];omega
  . have kg:decide (q<sx.2)=ZU:=Vr Q;rw [kg];gi_wp2;refine ⟨Yk _ _,rfl,?_⟩;unfold VI;rw [ka.out,Iw Q];exact ⟨rfl,r.o,HJ.o,HA.o,by rw [Ua];exact YM y,U.o⟩
 case done=>
  rintro D xs X hD qo ⟨w,b,g,u,y,E⟩ hK;have I:=Iv (K:=K) (d:=d) (C:=C) (p:=p) (s:=s) qo;rw [I] at g;have hb:=b.res.cell;have f10:=b.res.frozen;have kh:=j.o;have v:=aE b g u;clear b g u;gi_wp2;clear I;exact xW (a:=_) t R ec ec ec v.o.1.res v.o.2.1 v.o.2.2 hK ek ZH ek
 case stop=>
  rintro D c pre X hD km ⟨rfl,w,b,g,u,y,E⟩ hK;have I:=EM (K:=K) (d:=d) (C:=C) (p:=p) (s:=s) km w;rw [I] at g;have hb:=b.res.cell;have f10:=b.res.frozen;have kh:=j.o;have v:=aE b g u;clear b g u;gi_wp2;clear I;exact xW (a:=_) t R ec ec ec v.o.1.res v.o.2.1 v.o.2.2 hK ek ZH ek
def Iz (a:eA C) (h:iB C i=ZW C'):eA C':=by
 obtain ⟨r,rfl,b,c,_⟩:=gB h;have:=a.Sb;exact ⟨m8 a.byt,by show C.told<=C.count-1;omega,by show C.count-1<=8;omega⟩
def Lg (K:a8) (n0 Bl l:Nat) (J:cD->ZT->Prop) (h:∀ s A B,J s A->Below n0 A B->J s B)
 (j:∀ s A,J s A->A.cell? ⟨Bl,0,ZX⟩=ZW (Z7 Z9 (s.2:Int))/\n0<=A.heap.size/\aG A) (k:2<=n0)
 (n:∀ m s C c,J s c->eA C->YieldAt Fence.wide m ZM l #[.agg (aV C)] c λe W'=>e=Z3 (Z1 ZV)/\J (ft K s C) W'/\bh n0 c W') :
 ∀ (d m:Nat) (C:Ck) (of p:Nat) (s:cD) (W:ZT),eA C->C.count<=C.told+d->of<65536->p+16*(d+1)<=100000->J s W ->
  CallsIn Fence.wide m ZM 229 #[.agg (aV C),Z7 Z8 of,Z7 Z9 p,fy Bl,.func (.yield l) #[] #[]] W λe W'=>e=Z3 (Z1 ZV)/\J (iF K d C of p s) W'/\bh n0 W W':=by
 intro d;induction d with
 | zero=>
  intro m C of p s W b y f z g;refine tS K n0 Bl l J h j k n 0 m C of p s W b f ec g ?_;intro m i C' a o q W' hl;obtain ⟨r,_,t,u,_⟩:=gB hl;omega
 | succ d ih=>
  intro m C of p s W b y f z g;refine tS K n0 Bl l J h j k n (d+1) m C of p s W b f ec g ?_;intro m i C' a o q W' hl ho D w;have x:=Iz b hl;obtain ⟨r,v,t,u,_⟩:=gB hl;exact ih m C' a o q W' x (by rw [v];show C.count-1<=C.told+d;omega) ho ec w
end
def xX {B':Nat} {v:ZS} (h:aC W B C) (a:Bx W B' v):B≠B':=by
 rintro rfl;obtain ⟨t,a⟩:=a;have e:=h.heap.symm.trans a;simp only [UB,UQ] at e;have:=Ux Array.size e.1;rw [bY] at this;simp at this
noncomputable def RF1:Array ZQ:=((Tryz.f212.body.bind (JY · 1))).getD #[]
def aaE:List (Op×Option Nat×a8):=[(.load 332 (Z0 2),ZW 11,[]),(.load 133 (Z0 3),ZW 12,[]),(.call { callee:=.value (.func 223),args:=#[Z0 12],argTypes:=#[133] },ZW 13,[1]),
 (.alloc 332,ZW 5,[]),(.alloc 3,ZW 6,[]),(.store 332 (Z0 5) (Z0 11),ZX,[3,0,2,0,3,4]),(.store 3 (Z0 6) (Z0 13),ZX,[4,2,5,0,1,2,3,4,5])]
def IA:eu RF1 5 14 aaE:=ti ei ei
def Ol (n t:Nat) (w:ZT) (b:Nat):Prop:=n<=b/\∃ c,w.heap[b]?=ZW (Z4 c t (0,0))
def ix {c:Array ZS} (h:Ol n t' (w.alloc (Z4 c t)) b):Ol n t' w b\/(b=w.heap.size/\t'=t):=by
 obtain ⟨f,d,a⟩:=h;by_cases e:b<w.heap.size
 . exact .inl ⟨f,d,(UF _ _ _ e).symm.trans a⟩
 . have hl:=(TX.1 a).1;rw [Ul] at hl;obtain rfl:b=w.heap.size:=ec;rw [Ug] at a;cases a;exact .inr ⟨rfl,rfl⟩
def BFw (w:ZT) (D:Nat->Bool) (w':ZT):Prop:=bW w w'/\(∀ t b b',Ol w.heap.size t w' b->Ol w.heap.size t w' b'->b=b')/\(D 3=ZU->∀ b,¬ Ol w.heap.size 332 w' b)/\(D 4=ZU->∀ b,¬ Ol w.heap.size 3 w' b)
def zX {D:Nat->Bool} (h:BFw w D w') (i:Nat) (a:3≠i) (b:4≠i):BFw w (Ge D i) w':=⟨h.1,h.2.1,by rw [iJ a];exact h.2.2.1,by rw [iJ b];exact h.2.2.2⟩
def Gt {D:Nat->Bool} (h:BFw w D w') (i:Nat) (d:3≠i) (f:4≠i) (g:bW w w'') (a:∀ t b,Ol w.heap.size t w'' b->Ol w.heap.size t w' b):BFw w (Ge D i) w'':=
 ⟨g,λt b c q j=>h.2.1 t b c (a t b q) (a t c j),λe b q=>h.2.2.1 (by rwa [iJ d] at e) b (a _ b q),λe b q=>h.2.2.2 (by rwa [iJ f] at e) b (a _ b q)⟩
def Om (w:ZT) (kept:Nat) (C:Ck) (i:Nat) (u:ZS) (w':ZT):Prop:=match i with
 | 0=>u=.agg (aV C)
 | 1=>u=Z7 Z8 (kept:Int)
 | 2=>u=Z7 Z9 ((ab kept).length:Nat)
 | 3=>∃ b,u=Z6 (ZW ⟨b,0,ZX⟩)/\w.heap.size<=b/\∃ Z,aC w' b Z
 | 4=>∃ b,u=Z6 (ZW ⟨b,0,ZX⟩)/\w.heap.size<=b/\∃ z,w'.heap[b]?=ZW (Z4 #[z] 3 (0,0))
 | 5=>∃ b,w.heap.size<=b/\aC w' b C
 | 6=>∃ b,w.heap.size<=b/\w'.heap[b]?=ZW (Z4 #[Z7 Z9 ((ab kept).length:Nat)] 3 (0,0))
 | _=>True
def Cf (a:∀ b,w.heap.size<=b->b<w'.heap.size->w''.heap[b]?=w'.heap[b]?):∀ j u,Om w kept C j u w'->Om w kept C j u w'':=λj u h=>by
 match j,h with
 | 0,h|1,h|2,h=>exact h
 | 3,⟨b,h1,h2,Z,h3⟩=>exact ⟨b,h1,h2,Z,h3.keep (a b h2 h3.lt)⟩
 | 4,⟨b,h1,h2,z,h3⟩=>exact ⟨b,h1,h2,z,(a b h2 (TX.1 h3).1).trans h3⟩
 | 5,⟨b,h2,h3⟩=>exact ⟨b,h2,h3.keep (a b h2 h3.lt)⟩
 | 6,⟨b,h2,h3⟩=>exact ⟨b,h2,(a b h2 (TX.1 h3).1).trans h3⟩
 | _+7,_=>trivial
theorem IB (Y P kept:Nat) (C:Ck) (hR:RF1=ops) (sz:a.tmps.size=35) (he:kept<65536)
 (i2:a.eval (Z0 2)=Z6 (ZW ⟨Y,0,ZX⟩)) (i3:a.eval (Z0 3)=Z6 (ZW ⟨P,0,ZX⟩)) (hh:aC w Y C) (ha:Bx w P (Z7 Z8 (kept:Int)))
 (h:∀ g w' R S,Ld 5 14 a g->g.eval (Z0 5)=Z6 (ZW ⟨R,0,ZX⟩)->g.eval (Z0 6)=Z6 (ZW ⟨S,0,ZX⟩)->w.heap.size<=R->w.heap.size<=S->aC w' R C->Bx w' S (Z7 Z9 ((ab kept).length:Nat))->bW w w'->Q .normal g w') :
 (Code.region 1 ops ZV).wpIn Fence.wide n ZM Q a w:=by
 subst hR;refine jw ei IA a w ec (Om w kept C) (BFw w) ?_ ?_ ?_
 . have X:∀ t b,¬ Ol w.heap.size t w.drew b:=λt b ⟨N,c,B⟩=>by
    have:b<w.heap.size:=(TX.1 B).1;omega
   exact ⟨(TW _ w).drew,λt b _ q=>absurd q (X t b),λ_ b=>X _ b,λ_ b=>X _ b⟩
 . intro j s;match j,s with
   | 0,_=>
    intro o g w' D K ho y m r G x d i;exact sn (w':=w') (v:=.agg (aV C)) (by (conv at ho=>rhs;whnf);simp [execOp,ho,(m.slot 2 ec).trans i2,mq (hh.mono d.1 hh.lt),Result.andThen]) iE y ⟨zX d _ ee ee,rfl,kq⟩
   | 1,_=>
    intro o g w' D K ho y m r G x d i;have cs:=(ha.keep (d.1.block P ha.lt)).cell;exact sn (v:=Z7 Z8 (kept:Int)) (by (conv at ho=>rhs;whnf);simp only [execOp,ho,(m.slot 3 ec).trans i3];go_simp) iE y ⟨zX d _ ee ee,rfl,kq⟩
   | 2,_=>
    intro o g w' D K ho y m r G x d i;have s0:g.eval (Z0 12)=Z7 Z8 (kept:Int):=i 1 (x 1 ee);refine KT (f:=223) (args:=#[Z7 Z8 (kept:Int)]) (w1:=w') (by have sf:g.eval (.func 223)=.func (.func 223) #[] #[]:=rfl;generalize g.eval=ev at s0 sf ⊢;(conv at ho=>rhs;whnf);simp [execOp,ho,aaE,resolve,invoke,s0,sf,go_sem]) iE y (BI kept he w') ?_;rintro e w'' ⟨rfl,rfl⟩;exact ⟨_,rfl,zX d _ ee ee,rfl,kq⟩
   | 3,_=>
    intro o g w' D K ho y m r G x d i;have A:=zeroCk w';have W:=(TW _ w').alloc lR (Z4 (aV dN) 332);refine sn (v:=Z6 (ZW ⟨w'.heap.size,0,ZX⟩)) (w':=w'.alloc (Z4 (aV dN) 332)) (by (conv at ho=>rhs;whnf);simp only [execOp,ho];go_simp) iE y ⟨⟨d.1.alloc d.1.size _,λt b E q F=>?_,nofun,λe b q=>?_⟩,⟨_,rfl,d.1.size,dN,aC.new w' dN⟩,λj u _=>Cf (λb _ V=>W.block b V) j u⟩
    . rcases ix q with q|⟨rfl,rfl⟩<;>rcases ix F with F|⟨rfl,e⟩
      . exact d.2.1 t b E q F
      . subst e;exact absurd q (d.2.2.1 r b)
      . exact absurd F (d.2.2.1 r E)
      . rfl
    . rcases ix q with q|⟨_,e⟩
      . exact d.2.2.2 (by rwa [iJ ee] at e) b q
      . cases e
   | 4,_=>
    intro o g w' D K ho y m r G x d i;have W:=(TW _ w').alloc lR (Z4 #[Z7 Z9 0] 3);refine sn (v:=Z6 (ZW ⟨w'.heap.size,0,ZX⟩)) (w':=w'.alloc (Z4 #[Z7 Z9 0] 3)) (by (conv at ho=>rhs;whnf);simp only [execOp,ho];go_simp) iE y ⟨⟨d.1.alloc d.1.size _,λt b E q F=>?_,λe b q=>?_,nofun⟩,⟨_,rfl,d.1.size,_,Ug _ _⟩,λj u _=>Cf (λb _ V=>W.block b V) j u⟩
    . rcases ix q with q|⟨rfl,rfl⟩<;>rcases ix F with F|⟨rfl,e⟩
      . exact d.2.1 t b E q F
      . subst e;exact absurd q (d.2.2.2 r b)
      . exact absurd F (d.2.2.2 r E)
      . rfl
    . rcases ix q with q|⟨_,e⟩
      . exact d.2.2.1 (by rwa [iJ ee] at e) b q
      . cases e
   | 5,_=>
    intro o g w' D K ho y m r G x d i;obtain ⟨b5,T,L,Z,I⟩:Om w kept C 3 (g.eval (Z0 5)) w':=i 3 (x 3 ee);have H:aC (w'.setRow b5 (aV C)) b5 C:=I.setRow C;have J:∀ k,k≠b5->k<w'.heap.size->(w'.setRow b5 (aV C)).heap[k]?=w'.heap[k]?:=λk m hl=>(aN w' b5 (aV C)).block k hl (λe=>m acs);have hm:(w'.setRow b5 (aV C)).heap.size=w'.heap.size:=V1;refine BR (w':=w'.setRow b5 (aV C)) (by (conv at ho=>rhs;whnf);simp [execOp,ho,T,show g.eval (Z0 11)=.agg (aV C) from i 0 (x 0 ee),nu C I,Result.andThen]) iE ⟨Gt d _ ee ee (d.1.grown (aN w' b5 (aV C)) d.1.size (λk e=>by cases e;exact L)) λt b ⟨N,c,B⟩=>?_,⟨b5,L,H⟩,λj u s q=>?_⟩
    . by_cases e:b=b5
      . subst e;rw [H.heap] at B;cases B;exact ⟨N,_,I.heap⟩
      . exact ⟨N,c,(J b e (by rw [<- hm];exact (TX.1 B).1)).symm.trans B⟩
    . match j,s,q with
      | 0,_,q|1,_,q|2,_,q=>exact q
      | 3,_,⟨b,h1,h2,Z',h3⟩=>
       obtain rfl:b=b5:=d.2.1 _ b b5 ⟨h2,_,h3.heap⟩ ⟨L,_,I.heap⟩;exact ⟨b,h1,h2,C,H⟩
      | 4,_,⟨b,h1,h2,z,h3⟩=>exact ⟨b,h1,h2,z,(J b (λe=>by subst e;rw [I.heap] at h3;cases h3) (TX.1 h3).1).trans h3⟩
      | 5,s,_=>rw [r] at s;cases s
      | 6,s,_=>exact nomatch r.symm.trans ((G 6 s).2 5 ee)
      | _+7,_,_=>trivial
   | 6,_=>
    intro o g w' D K ho y m r G x d i;obtain ⟨b6,U,M,z,A⟩:Om w kept C 4 (g.eval (Z0 6)) w':=i 4 (x 4 ee);have cc:w'.cell? ⟨b6,0,ZX⟩=ZW z:=(by simp [World.cell?,A]);have ff:w'.frozen? ⟨b6,0,ZX⟩=ZU:=(by simp [World.frozen?,A]);have H:(w'.setCell ⟨b6,0,ZX⟩ (Z7 Z9 ((ab kept).length:Nat))).heap[b6]?=ZW (Z4 #[Z7 Z9 ((ab kept).length:Nat)] 3 (0,0)):=(by simp [World.setCell,Vy,A]);have J:∀ k,k≠b6->(w'.setCell ⟨b6,0,ZX⟩ (Z7 Z9 ((ab kept).length:Nat))).heap[k]?=w'.heap[k]?:=λk m=>Ud _ _ _ _ m;refine BR (w':=w'.setCell ⟨b6,0,ZX⟩ (Z7 Z9 ((ab kept).length:Nat))) (by (conv at ho=>rhs;whnf);simp only [execOp,ho,U,show g.eval (Z0 13)=Z7 Z9 ((ab kept).length:Nat) from i 2 (x 2 ee)];go_simp) iE ⟨Gt d _ ee ee (d.1.setCell (p:=⟨b6,0,ZX⟩) M _) λt b ⟨N,c,B⟩=>?_,⟨b6,M,H⟩,λj u s q=>?_⟩
    . by_cases e:b=b6
      . subst e;rw [H] at B;cases B;exact ⟨N,_,A⟩
      . exact ⟨N,c,(J b e).symm.trans B⟩
    . match j,s,q with
      | 0,_,q|1,_,q|2,_,q=>exact q
      | 3,_,⟨b,h1,h2,Z',h3⟩=>exact ⟨b,h1,h2,Z',h3.keep (J b (λe=>by subst e;have O:=h3.heap;rw [A] at O;cases O))⟩
      | 4,_,⟨b,h1,h2,z',h3⟩=>
       obtain rfl:b=b6:=d.2.1 _ b b6 ⟨h2,_,h3⟩ ⟨M,_,A⟩;exact ⟨b,h1,h2,_,H⟩
      | 5,_,⟨b,h2,h3⟩=>exact ⟨b,h2,h3.keep (J b (λe=>by subst e;have O:=h3.heap;rw [A] at O;cases O))⟩
      | 6,s,_=>rw [r] at s;cases s
      | _+7,_,_=>trivial
 . rintro g w' m _ ⟨D,hi,d⟩ i;obtain ⟨b5,T,L,Z,I⟩:Om w kept C 3 (g.eval (Z0 5)) w':=i 3 ee;obtain ⟨b6,U,M,z,A⟩:Om w kept C 4 (g.eval (Z0 6)) w':=i 4 ee;obtain ⟨b,l,hC⟩:Om w kept C 5 ZY w':=i 5 ee;obtain ⟨E,l',hM⟩:Om w kept C 6 ZY w':=i 6 ee;obtain rfl:b=b5:=d.2.1 _ b b5 ⟨l,_,hC.heap⟩ ⟨L,_,I.heap⟩;obtain rfl:E=b6:=d.2.1 _ E b6 ⟨l',_,hM⟩ ⟨M,_,A⟩;exact h g w' b E ⟨m.size,m.defers,m.slot⟩ T U L M hC ⟨_,hM⟩ d.1
noncomputable def aaF:Array ZQ:=((Tryz.f212.body.bind (JY · 11))).getD #[]
def aaG:List (Op×Option Nat×a8):=[(.load 332 (Z0 8),ZW 32,[]),(.load 3 (Z0 9),ZW 33,[]),(.store 332 (Z0 5) (Z0 32),ZX,[0,0]),(.store 3 (Z0 6) (Z0 33),ZX,[1,2,0,1,2])]
def EN:eu aaF 32 34 aaG:=ti ei ei
theorem EO (p q A y n:Nat) (C C':Ck) (v:ZS) (P:aaF=ops) (sz:a.tmps.size=35)
 (U:a.eval (Z0 5)=Z6 (ZW ⟨p,0,ZX⟩)) (V:a.eval (Z0 6)=Z6 (ZW ⟨q,0,ZX⟩)) (X:a.eval (Z0 8)=Z6 (ZW ⟨A,0,ZX⟩)) (Y:a.eval (Z0 9)=Z6 (ZW ⟨y,0,ZX⟩))
 (O:aC w A C) (z:Bx w y (Z7 Z9 (n:Int))) (E:aC w p C') (F:Bx w q v)
 (h:∀ g,Ld 32 34 a g->Q .normal g ((w.drew.setRow p (aV C)).setCell ⟨q,0,ZX⟩ (Z7 Z9 (n:Int)))) :
 (Code.region 11 ops ZV).wpIn (Fence.wide.inRound l) m ZM Q a w:=by
 subst P;obtain ⟨W,J⟩:=nM (w.drew.setRow p (aV C));have I:∀ k,k≠p->k<w.heap.size->W.heap[k]?=w.heap[k]?:=λk f R=>by rw [<- J];exact (aN w.drew p (aV C)).block k R (λe=>f acs)
 have K:=F.keep (I q (xX E F).symm F.lt);have Z:=K.cell;have ff:=K.frozen;have M:∀ b:Bool,(if b=ZV then W else w.drew).cell? ⟨y,0,ZX⟩=ZW (Z7 Z9 (n:Int)):=λb=>by
  cases b
  . exact z.cell
  . exact (z.keep (I y (xX E z).symm z.lt)).cell
 have L:=nu C (show aC w.drew p C' from E);rw [J] at h L;refine jw ei EN a w ec (λj u _=>u=([.agg (aV C),Z7 Z9 (n:Int),ZY,ZY]:List ZS).getD j ZY) (Le 2 3 w W (W.setCell ⟨q,0,ZX⟩ (Z7 Z9 (n:Int)))) rfl ?_ ?_
 . intro j S;match j,S with
   | 0,_=>
    intro o g w' D G ho t f i s r d x;have N:D 2=ZU:=VT.2 λe=>nomatch i.symm.trans ((s 2 e).2 0 ee);obtain rfl:=Cc d N;exact ia (w':=w.drew) (by (conv at ho=>rhs;whnf);simp [execOp,ho,(f.slot 8 ec).trans X,mq (show aC w.drew A C from O),Result.andThen]) iE t ⟨Gs d _ ee ee,rfl,kq⟩
   | 1,_=>
    intro o g w' D G ho t f i s r d x;have B:D 3=ZU:=VT.2 λe=>nomatch i.symm.trans ((s 3 e).2 1 ee);have cs:=M (D 2);have T:w'=if D 2=ZV then W else w.drew:=(by unfold Le at d;rw [B] at d;exact d);rw [<- T] at cs;exact ia (v:=Z7 Z9 (n:Int)) (by (conv at ho=>rhs;whnf);simp only [execOp,ho,(f.slot 9 ec).trans Y];go_simp) iE t ⟨Gs d _ ee ee,rfl,kq⟩
   | 2,_=>
    intro o g w' D G ho t f i s r d x;have B:D 3=ZU:=VT.2 λe=>nomatch i.symm.trans ((s 3 e).2 2 ee);obtain rfl:=Cc d i;exact BP (w':=W) (by (conv at ho=>rhs;whnf);simp [execOp,ho,(f.slot 5 ec).trans U,show g.eval (Z0 32)=.agg (aV C) from x 0 (r 0 ee),L,Result.andThen]) iE ⟨by unfold Le;rw [iJ (j:=3) ee,B];rfl,rfl,kq⟩
   | 3,_=>
    intro o g w' D G ho t f i s r d x;unfold Le at d;rw [i,r 2 ee] at d;obtain rfl:w'=W:=d;exact BP (w':=w'.setCell ⟨q,0,ZX⟩ (Z7 Z9 (n:Int))) (by (conv at ho=>rhs;whnf);simp only [execOp,ho,(f.slot 6 ec).trans V,show g.eval (Z0 33)=Z7 Z9 (n:Int) from x 1 (r 1 ee)];go_simp) iE ⟨by unfold Le;rw [iJ (j:=2) ee,r 2 ee];rfl,rfl,kq⟩
 . rintro g w' f _ ⟨D,H,d⟩ _;unfold Le at d;rw [H 2 ee,H 3 ee] at d;obtain rfl:w'=W.setCell ⟨q,0,ZX⟩ (Z7 Z9 (n:Int)):=d;exact h g ⟨f.size,f.defers,f.slot⟩
section
attribute [local go_sem] Oper.semAt_some
theorem zY (C:Ck) (kept Bl:Nat) (w:ZT) :
 ZR ZM 226 #[.agg (aV C),Z7 Z8 kept,fy Bl] w λe w'=>e=Z3 (.func (.func 228) #[] #[Z6 (ZW ⟨w.heap.size,0,ZX⟩),Z6 (ZW ⟨w.heap.size+1,0,ZX⟩),Z6 (ZW ⟨w.heap.size+1+1,0,ZX⟩)]) /\
  aC w' w.heap.size C/\Bx w' (w.heap.size+1) (Z7 Z8 (kept:Int))/\Bx w' (w.heap.size+1+1) (fy Bl)/\bW w w'/\w'.heap.size=w.heap.size+3:=by
 unfold fy;go_enter func226,ntmps226;go_wp2;go_ret;refine ⟨rfl,?_,?_,?_,?_,ek⟩
 . exact (aC.new w C).keep (by rw [We _ _ _ en,We _ _ _ ek])
 . have h:=Bx.new (w.alloc (Z4 (aV C) 332)) 133 (Z7 Z8 (kept:Int));rw [Ul] at h;exact h.alloc _
 . have h:=Bx.new ((w.alloc (Z4 (aV C) 332)).alloc (Z4 #[Z7 Z8 (kept:Int)] 133)) 201 (.func (.func 225) #[] #[Z6 (ZW ⟨Bl,0,ZX⟩)]);simp only [Ul] at h;exact h
 . exact ((bA w _).alloc ek _).alloc en _
theorem zZ (K:a8) (n0 Bl l:Nat) (J:cD->ZT->Prop) (j:∀ s A B,J s A->Below n0 A B->J s B)
 (k:∀ s A,J s A->A.cell? ⟨Bl,0,ZX⟩=ZW (Z7 Z9 (s.2:Int))/\n0<=A.heap.size/\aG A) (p:2<=n0)
 (r:∀ m s C b,J s b->eA C->YieldAt Fence.wide m ZM l #[.agg (aV C)] b λe W'=>e=Z3 (Z1 ZV)/\J (ft K s C) W'/\bh n0 b W')
 (n a Bs c:Nat) (C:Ck) (kept:Nat) (s:cD) (W:ZT) (t:aC W a C) (w:Bx W Bs (Z7 Z8 (kept:Int))) (o:Bx W c (fy Bl)) (d:eA C) (u:kept<65536) (q:J s W) :
 CallsIn Fence.wide n ZM 228 #[.func (.yield l) #[] #[],Z6 (ZW ⟨a,0,ZX⟩),Z6 (ZW ⟨Bs,0,ZX⟩),Z6 (ZW ⟨c,0,ZX⟩)] W λe W'=>(∃ v,e=Z3 v)/\J (iF K 8 C kept 0 s) W':=by
 have f:=λm=>Lg K n0 Bl l J j k p r 8 m C kept 0 s W d (e9 d.Sb) u ee q;have c1:=w.cell;have g:=o.cell;unfold fy at g f;refine Xv func228 rfl trivial ?_ rfl;simp only [ntmps228,UH,UA,UV,YG,YH,Vg,Vh,Vj,Vk,Uq,US];gi_wp2_with (refine kJ rfl (Z0 1) rfl a C rfl t ?_)
 refine ⟨trivial,λh=>vE,(f _).mono ?_⟩;rintro e W' ⟨rfl,i,_⟩;gi_wp2;go_end0
 exact ⟨⟨_,rfl⟩,i⟩
structure FI (w:ZT) (kept B5 B6 B7:Nat) (s:cD) (W:ZT):Prop where
 SN:aC W B5 s.1
 least:Bx W B6 (Z7 Z9 (s.2:Int))
 Sj:Bx W B7 (fy B6)
 set:Bx W (w.heap.size+1) (Z7 Z8 (kept:Int))
 res:aC W (w.heap.size+1+1) dN
 below:bW w W
def FI.mono {B5 B6 B7:Nat} (h:FI w kept B5 B6 B7 s W) (a:Below B W W') (b:W.heap.size<=B\/(B5<B/\B6<B/\B7<B/\w.heap.size+3<=B)):FI w kept B5 B6 B7 s W':=by
 have:=h.SN.lt;have:=h.least.lt;have:=h.Sj.lt;have:=h.res.lt;exact ⟨h.SN.keep (a.block _ ec),h.least.keep (a.block _ ec),h.Sj.keep (a.block _ ec),h.set.keep (a.block _ ec),h.res.keep (a.block _ ec),h.below.trans (a.mono ec)⟩
def Lh {z:Int} (p least Bl:Nat) (w:ZT) (b:z=(p:Int)) (a:w.cell? ⟨Bl,0,ZX⟩=ZW (Z7 Z9 (least:Int))) :
 ZR ZM 225 #[Z7 Z9 z,Z6 (ZW ⟨Bl,0,ZX⟩)] w λe w'=>e=Z3 (Z1 (decide (p<least)))/\w'=w:=by
 subst b;exact xV p least Bl w a
def cR (x:Ck) (pre:List Sh):Nat:=((pre.map (·.1)).filter (cF x)).length
theorem On (x:Ck) (pre:List Sh) (i:Sh):cR x (pre++[i])=cR x pre+(if cF x i.1=ZV then 1 else 0):=by
 unfold cR;rw [Uw,Wv,Ua];congr 1;by_cases h:cF x i.1=ZV
 . simp [h]
 . simp [h]
def QP (h:pre.map (·.1)=ab kept):cR x pre=iD (ab kept) x:=by unfold cR iD;rw [h]
def Oo (h:pre.map (·.1)<+:ab kept):cR x pre<=iD (ab kept) x:=by
 unfold cR iD;obtain ⟨R,a⟩:=h;rw [<- a,Wv,Ua];omega
def aaH (x:Ck) (pre:List Sh):cR x pre<=pre.length:=by
 unfold cR;exact TU (WS _ _) (by rw [Ue];exact TV _)
def InI (X:ZT) (s:cD) (x:Ck) (pre:List Sh) (Y:ZT):Prop:=bW X Y/\Bx Y X.heap.size (Z7 Z9 (cR x pre:Int))/\(cR x pre=0\/cR x pre<s.2)
def InI.own (i:X.heap.size+1<=B):OwnFrom B (λpre Y=>InI X s x pre Y):=by
 rintro pre A h row ⟨c,d,g⟩ b a;have f:=d.lt;exact ⟨c.grown b (e9 c.size) (λk e=>e9 ((a k e).1)),d.keep (b.block _ f (λe=>e9 ((a _ e.symm).1))),g⟩
theorem EP (C:Ck) (kept:Nat) (w:ZT) (hf:eA C) (U:kept<65536) (hT:aG w) (h2:3<=w.heap.size) :
 ZR ZM 212 #[.agg (aV C),Z7 Z8 kept] w λe w'=>e=Z3 (.agg (aV (aP 8 C kept).1))/\bW w w':=by
 have Z:=bY C;have h9:=bY dN;have hz:=zeroCk;obtain ⟨n,HN⟩:∃ n:Nat,b9 (9<=n):=⟨9,TV _⟩;refine (Vd (n:=n)).1 ?_;refine Wh func212 rfl trivial ?_ rfl;simp only [ntmps212,UH,UA,UV,YG,YH,Vg,Vh,Vj,Vk,Uq,US];have b0:bW w (((w.alloc (Z4 (aV C) 332)).alloc (Z4 #[Z7 Z8 (kept:Int)] 133)).alloc (Z4 (aV dN) 332)):=((bA w _).alloc ek _).alloc en _;have c0:aC (((w.alloc (Z4 (aV C) 332)).alloc (Z4 #[Z7 Z8 (kept:Int)] 133)).alloc (Z4 (aV dN) 332)) w.heap.size C:=(aC.new w C).keep (by rw [We _ _ _ en,We _ _ _ ek]);have s0:Bx (((w.alloc (Z4 (aV C) 332)).alloc (Z4 #[Z7 Z8 (kept:Int)] 133)).alloc (Z4 (aV dN) 332)) (w.heap.size+1) (Z7 Z8 (kept:Int)):=by
  have h:=Bx.new (w.alloc (Z4 (aV C) 332)) 133 (Z7 Z8 (kept:Int));rw [Ul] at h;exact h.alloc _
 have r0:aC (((w.alloc (Z4 (aV C) 332)).alloc (Z4 #[Z7 Z8 (kept:Int)] 133)).alloc (Z4 (aV dN) 332)) (w.heap.size+1+1) dN:=by
  have h:=aC.new ((w.alloc (Z4 (aV C) 332)).alloc (Z4 #[Z7 Z8 (kept:Int)] 133)) dN;simp only [Ul] at h;exact h
 have z0:(((w.alloc (Z4 (aV C) 332)).alloc (Z4 #[Z7 Z8 (kept:Int)] 133)).alloc (Z4 (aV dN) 332)).heap.size=w.heap.size+3:=ek
 obtain ⟨w3,qe⟩:=nM (((w.alloc (Z4 (aV C) 332)).alloc (Z4 #[Z7 Z8 (kept:Int)] 133)).alloc (Z4 (aV dN) 332));rw [qe] at b0 c0 s0 r0 z0;have HB:=ak b0;have HC:=ak c0;have HS:=ak s0;have N:=ak r0;have HZ:=ak z0;clear b0 c0 s0 r0 z0;gi_wp2;refine Ki ?_;gi_wp2;refine IB w.heap.size (w.heap.size+1) kept C ei rfl U rfl rfl HC.o HS.o ?_;rintro O d f a q7 e5 e6 l5 l6 c5 G v;obtain ⟨ls,V,rfl⟩:=q7.split ee ek;clear q7;obtain ⟨u0,u1,u2,u3,u4,u5,u6,u7,u8,rfl⟩:=aaC V;clear V;simp only [abP,Wq,abL,Xy,US,Uq] at e5 e6 ⊢;obtain rfl:u0=Z6 (ZW ⟨f,0,ZX⟩):=e5;obtain rfl:u1=Z6 (ZW ⟨a,0,ZX⟩):=e6;clear qe;have qg:=HZ.o;have cN:=(Bx.new d 201 .nilFunc).cell;have fN:=(Bx.new d 201 .nilFunc).frozen;have u:bW d ((d.alloc (Z4 #[.nilFunc] 201)).setCell ⟨d.heap.size,0,ZX⟩ (fy a)):=(bA _ _).setCell (p:=⟨d.heap.size,0,ZX⟩) lR _;have L:FI w kept f a d.heap.size (C,(ab kept).length) ((d.alloc (Z4 #[.nilFunc] 201)).setCell ⟨d.heap.size,0,ZX⟩ (fy a)):=
  ⟨c5.keep (u.block _ c5.lt),G.keep (u.block _ G.lt),(Bx.new d 201 .nilFunc).set _,HS.o.keep ((u.block _ (e9 v.size)).trans (v.block _ ec)),N.o.keep ((u.block _ (e9 v.size)).trans (v.block _ ec)),(HB.o.trans (v.mono ec)).trans (u.mono (e9 v.size))⟩
 have k8:aC ((d.alloc (Z4 #[.nilFunc] 201)).setCell ⟨d.heap.size,0,ZX⟩ (fy a)) w.heap.size C:=HC.o.keep ((u.block _ (e9 v.size)).trans (v.block _ ec));have qh:((d.alloc (Z4 #[.nilFunc] 201)).setCell ⟨d.heap.size,0,ZX⟩ (fy a)).heap.size=d.heap.size+1:=oB
 have x9:=v.size;have xq:=G.lt;obtain ⟨j,kj⟩:=nM ((d.alloc (Z4 #[.nilFunc] 201)).setCell ⟨d.heap.size,0,ZX⟩ (fy a));rw [kj] at L k8 qh;unfold fy at kj;have Q:=L.Sj.cell;unfold fy at Q;have c3:=L.set.cell;have HF:=ak L;have qj:=ak k8;have T:=ak qg;clear L k8 qh u c5 G v HB HC HS N HZ x9 qg hz Z h9;have ka:=zY C kept a j;unfold fy at ka;gi_wp2;refine wpIn_label ?_;gi_wp2_with (refine kJ rfl (Z0 2) rfl w.heap.size C rfl qj.out ?_)
 refine cd ka ?_;clear ka;rintro e w6 ⟨rfl,k1,k2,k3,k4,k5⟩;have qk:=ak k1;have qm:=ak k2;have qn:b9 (Bx w6 (j.heap.size+1+1) (fy a)):=ak k3;have qo:=ak k4;have kp:=ak k5;clear k1 k2 k3 k4 k5 kj cN fN Q c3;gi_wp2;have qv:FI w kept f a d.heap.size (C,(ab kept).length) w6:=HF.o.mono qo.out (.inl lR);have xn:=HF.o.SN.lt;have xp:=HF.o.least.lt;have xx:=HF.o.Sj.lt;have xm:=HF.o.res.lt;have q8:=kp.out;obtain ⟨m,HM⟩:∃ m:Nat,b9 (9<=m):=⟨9,TV _⟩;refine Kj (P:=ZM) (n:=n) m (w:=w6) (gf:=228) (lb:=#[Z6 (ZW ⟨j.heap.size,0,ZX⟩),Z6 (ZW ⟨j.heap.size+1,0,ZX⟩),Z6 (ZW ⟨j.heap.size+1+1,0,ZX⟩)]) rfl (U5 func228 ei rfl)
  (encs:=λC:Ck=>#[.agg (aV C)]) (λ_=>rfl) (ft (ab kept)) eA (FI w kept f a d.heap.size) (λs A B h hb=>h.mono hb (.inr ⟨ec,ec,ec,ec⟩)) (λs=>s=aP 8 C kept) (C,(ab kept).length)
  ?call qv (λB x O A=>∃ q,B<=q/\aC A q x/\O={ tmps:=#[.agg (aV C),Z7 Z8 (kept:Int),Z6 (ZW ⟨w.heap.size,0,ZX⟩),Z6 (ZW ⟨w.heap.size+1,0,ZX⟩),Z6 (ZW ⟨w.heap.size+1+1,0,ZX⟩),Z6 (ZW ⟨f,0,ZX⟩),Z6 (ZW ⟨a,0,ZX⟩),Z6 (ZW ⟨d.heap.size,0,ZX⟩),Z6 (ZW ⟨q,0,ZX⟩),u4,u5,u6,u7,u8,.func (.func 225) #[] #[Z6 (ZW ⟨a,0,ZX⟩)],.agg (aV C),Z7 Z8 (kept:Int),.func (.func 225) #[] #[Z6 (ZW ⟨a,0,ZX⟩)],.func (.func 228) #[] #[Z6 (ZW ⟨j.heap.size,0,ZX⟩),Z6 (ZW ⟨j.heap.size+1,0,ZX⟩),Z6 (ZW ⟨j.heap.size+1+1,0,ZX⟩)],.agg (aV x),ZY,ZY,ZY,ZY,ZY,ZY,ZY,ZY,ZY,ZY,ZY,ZY,ZY,ZY,ZY],defers:=[] }) ?ax ?assign ?body ?done
 case call=>
  intro l J W k7 xi x0 qz hY qy;refine (zZ (ab kept) (w6.heap.size+2) a l J x0 (λs A hj=>?_) ec hY (n-1) j.heap.size (j.heap.size+1) (j.heap.size+1+1) C kept _ W (qk.out.keep (k7.block _ ec)) (qm.out.keep (k7.block _ ec)) (qn.out.keep (k7.block _ ec)) hf U qy).mono ?_
  . obtain ⟨fi,hs⟩:=qz s A hj;exact ⟨fi.least.cell,hs,hT.mono ec fi.below⟩
  . rintro e W' ⟨hv,qx⟩;exact ⟨hv,_,rfl,qx⟩
 case ax=>
  rintro B x O A A' ⟨q,h1,ky,h3⟩ x3;exact ⟨q,h1,ky.keep (x3.block q h1 ky.lt),h3⟩
 case assign=>
  intro l s x W K z q4 hK;have hz:=zeroCk;have h9:=bY dN;gi_wp2_with (refine jN rfl (Z0 8) (Z0 19) rfl W.heap.size x dN rfl rfl (aC.new W dN) ?_)
  exact hK _ _ ((bA _ _).grown (aN _ _ _) ek (λk e=>B3)) ⟨W.heap.size,TV _,(aC.new W dN).setRow x,rfl⟩
 case body=>
  rintro l B s x O X hl xg xc ⟨r,hr⟩ z q4 ⟨q,xb,qf,rfl⟩;have V:=z.below.size;have x6:l<X.heap.size:=(TX.1 hr).1;have k6:bW X (X.alloc (Z4 #[Z7 Z9 0] 3)):=bA _ _;have c3:=(z.mono k6 (.inl lR)).set.cell;have hc:bW X ((X.alloc (Z4 #[Z7 Z9 0] 3)).alloc (Z4 #[Z7 Z8 (kept:Int)] 133)):=k6.alloc ek _;have kz:=(Bx.new X 3 (Z7 Z9 0)).alloc (Z4 #[Z7 Z8 (kept:Int)] 133);have kf:=(Bx.new (X.alloc (Z4 #[Z7 Z9 0] 3)) 133 (Z7 Z8 (kept:Int))).cell;have kk:((X.alloc (Z4 #[Z7 Z9 0] 3)).alloc (Z4 #[Z7 Z8 (kept:Int)] 133)).heap.size=X.heap.size+1+1:=ek
  rw [Ul] at kf;have hx:=dK kept (X.alloc (Z4 #[Z7 Z9 0] 3));rw [Ul] at hx;have y:=ak z;have S:=ak qf;have R:=ak hc;have km:=ak kz;have ks:=ak kf;have kx:=ak kk;have N:=ak hr;have ko:=ak hx;clear z qf k6 kz kf kk hc hr V hx q8;gi_wp2;refine dq ko.out ?_;rintro e w' ⟨rfl,qd⟩;rw [<- qd] at R km ks kx;clear ko c3 qd;gi_wp2;have x1:aG w':=hT.mono ec ((y.o.mono R.out (.inl lR)).below);have kk:=kx.out;have x8:w'.heap[l]?=ZW (.loop r):=(R.out.block l x6).trans N.o;have xd:=y.o.least;refine wpIn_rangeFunc_ownN (l₀:=l) (r₀:=r) rfl x8 (e9 HM.o) (gf:=147) (lb:=#[Z6 (ZW ⟨X.heap.size+1,0,ZX⟩)]) rfl trivial (U5 func147 ei rfl)
   ((eS (m-1) (X.heap.size+1) kept U w' ec ks.out ec x1).inRound l) (λh k=>qY h k) (qZ ec) (TW _ _) (λ_=>rfl)
   (λpre Y=>InI X s x pre Y) (λc pre Y=>c=.exit 1/\bW X Y/\1<=cR x pre/\s.2<=cR x pre)
   (InI.own ec) (λc=>by
    rintro pre A Bw row ⟨g,t,E⟩ hg ke;exact ⟨g,t.grown hg (e9 t.size) (λk e=>e9 ((ke k e).1)),E⟩)
   ⟨R.out,km.out,.inl rfl⟩
   (λi H _=>H={ tmps:=#[.agg (aV C),Z7 Z8 (kept:Int),Z6 (ZW ⟨w.heap.size,0,ZX⟩),Z6 (ZW ⟨w.heap.size+1,0,ZX⟩),Z6 (ZW ⟨w.heap.size+1+1,0,ZX⟩),Z6 (ZW ⟨f,0,ZX⟩),Z6 (ZW ⟨a,0,ZX⟩),Z6 (ZW ⟨d.heap.size,0,ZX⟩),Z6 (ZW ⟨q,0,ZX⟩),Z6 (ZW ⟨X.heap.size,0,ZX⟩),Z7 Z9 (i.1:Int),u6,u7,u8,.func (.func 225) #[] #[Z6 (ZW ⟨a,0,ZX⟩)],.agg (aV C),Z7 Z8 (kept:Int),.func (.func 225) #[] #[Z6 (ZW ⟨a,0,ZX⟩)],.func (.func 228) #[] #[Z6 (ZW ⟨j.heap.size,0,ZX⟩),Z6 (ZW ⟨j.heap.size+1,0,ZX⟩),Z6 (ZW ⟨j.heap.size+1+1,0,ZX⟩)],.agg (aV x),Z7 Z8 (kept:Int),.func (.func 147) #[] #[Z6 (ZW ⟨X.heap.size+1,0,ZX⟩)],Z7 Z9 (i.1:Int),ZY,ZY,ZY,ZY,ZY,ZY,ZY,ZY,ZY,ZY,ZY,ZY],defers:=[] })
   (λ_ _ _ _ _ _ hs _ _=>hs)
   ?assign2 ?body2 ?done2 ?stop2
  case assign2=>
   rintro l2 pre i Y K hi hK;unfold qX;gi_wp2;exact hK _ _ (Yk _ _) (Gk.refl _) hi rfl
  case body2=>
   rintro l2 pre i H Y _ _ ⟨g,t,E⟩ rfl x7;have h8:=S.out.lt;have q5:=S.out.keep (g.block q h8);have q6:=aaH x pre;have x5:(ab kept).length<=16:=(by rw [<- kK kept];exact pL kept);have qp:=ak g;have qq:=ak t;have qs:=ak E;have c9:=t.cell;have f9:=t.frozen;have qa:=xR q i.1 x Y q5 q4 i.2;have qc:=On x pre i;have kv:=ak qc;have u:bW X (Y.setCell ⟨X.heap.size,0,ZX⟩ (Z7 Z9 ((cR x pre:Int)+1))):=g.setCell (p:=⟨X.heap.size,0,ZX⟩) lR _;have k0:=y.o.mono u (.inl lR);have Q:=k0.Sj.cell;have G:=k0.least.cell;have hy:=t.set (Z7 Z9 ((cR x pre:Int)+1));have xk:=hy.cell;unfold fy at Q;have hq:=ak u;have qi:=ak hy;clear g t E qc u k0 hy q5;gi_wp2;refine dq qa ?_;clear qa;rintro e w'' ⟨rfl,kh⟩;subst kh;cases hn:cF x i.1 with
   | false=>
    have F:b9 (cR x (pre++[i])=cR x pre):=ak (by rw [kv.out,hn];simp);clear hn;gi_wp2;refine ⟨Yk _ _,Gk.refl _,qp.out,?_,?_⟩
    . rw [F.out];exact qq.out
    . rw [F.out];exact qs.out
   | true=>
    have F:b9 (cR x (pre++[i])=cR x pre+1):=ak (by rw [kv.out,hn];simp);clear hn;gi_wp2;refine dq (Lh (cR x pre+1) s.2 a _ ec G) ?_;rintro e xy ⟨rfl,ki⟩;have q9:KeepsFrom w'.heap.size w'' (w''.setCell ⟨X.heap.size,0,ZX⟩ (Z7 Z9 ((cR x pre:Int)+1))):=(V5 _ _ _).from _;have kr:=ak q9;clear q9;subst ki;by_cases k9:cR x pre+1<s.2
    . rw [UZ k9];gi_wp2;refine ⟨kr.out,λ_=>hT.mono ec (y.o.mono hq.out (.inl lR)).below,hq.out,?_,?_⟩
      . rw [F.out];exact qi.out
      . rw [F.out];exact .inr k9
    . rw [Vr k9];gi_wp2;refine ⟨kr.out,rfl,hq.out,?_,?_⟩
      . rw [F.out];omega
      . rw [F.out];omega
  case done2=>
   rintro ys Y xa ⟨g,t,E⟩;have q6:=QP (x:=x) xa;rw [q6] at t E;have b:=y.o.mono g (.inl lR);have h8:=S.out.lt;have x2:=S.out.keep (g.block q h8);have q8:=kp.out;gi_wp2;refine EO f a q X.heap.size (iD (ab kept) x) x s.1 _ ei rfl rfl rfl rfl rfl x2 t b.SN b.least ?_;intro a3 xf;have kg:ft (ab kept) s x=(x,iD (ab kept) x):=(by unfold ft;rw [TT E]);rw [kg];have M:=xX b.SN b.least;have qr:=xX b.SN b.Sj;have xj:=xX b.SN b.set;have hd:=xX b.res b.least;have I:∀ k,k≠f->k≠a->k<Y.heap.size->((Y.drew.setRow f (aV x)).setCell ⟨a,0,ZX⟩ (Z7 Z9 (iD (ab kept) x:Int))).heap[k]?=Y.heap[k]?:=λk k1 k2 k3=>
    (Wm _ _ _ _ k2).trans ((aN Y.drew f (aV x)).block k k3 (λe=>k1 acs))
   have Z:Y.heap.size<=((Y.drew.setRow f (aV x)).setCell ⟨a,0,ZX⟩ (Z7 Z9 (iD (ab kept) x:Int))).heap.size:=(by simp [World.setCell,World.setRow]);have xe:=g.size;have xo:w.heap.size<=f:=(e9 T.out);have xv:w.heap.size<=a:=(e9 T.out);refine ⟨⟨?_,?_,?_,?_,?_,?_⟩,?_⟩
   . exact (((show aC Y.drew f s.1 from b.SN).setRow x)).keep (Wm _ _ _ _ M)
   . exact ((show Bx Y.drew a _ from b.least).keep ((aN Y.drew f (aV x)).block a b.least.lt (λe=>M acs))).set _
   . exact b.Sj.keep (I _ (Vn qr) ec b.Sj.lt)
   . exact b.set.keep (I _ (Vn xj) (e9 T.out) b.set.lt)
   . exact b.res.keep (I _ (e9 T.out) hd b.res.lt)
   . exact b.below.trans ⟨rfl,rfl,rfl,Z,λk U=>I k ec ec (e9 b.below.size)⟩
   . exact (bh.RM g).trans ⟨rfl,rfl,rfl,Z,λk k1 k2=>I k ec ec k2⟩
  case stop2=>
   rintro c pre Y kb ⟨rfl,g,t,E⟩;have xh:=Oo (x:=x) kb;have kg:ft (ab kept) s x=s:=(by unfold ft;rw [TS ec]);rw [kg];gi_wp2;exact ⟨y.o.mono g (.inl lR),bh.RM g⟩
 case done=>
  rintro D s X hD rfl z hK;have hb:=z.SN;have qb:=z.res;have y:=ak z;have h9:=bY dN;gi_wp2_with (first
   | (refine kJ rfl (Z0 5) rfl f (aP 8 C kept).1 rfl hb ?_)
   | (refine jN rfl (Z0 4) (Z0 34) rfl (w.heap.size+1+1) (aP 8 C kept).1 dN rfl rfl qb ?_))
  have q0:(X.setRow (w.heap.size+1+1) (aV (aP 8 C kept).1)).heap[D]?=ZW (.deferred (ZW [])):=((aN X (w.heap.size+1+1) _).block D (TX.1 hK).1 (λe=>Zb)).trans hK;refine ⟨ek,.inl ⟨_,_,rfl,WA q0,?_⟩⟩;have kc:aC ((X.setRow (w.heap.size+1+1) (aV (aP 8 C kept).1)).putObj D (.deferred ZX)) (w.heap.size+1+1) (aP 8 C kept).1:=(qb.setRow (aP 8 C kept).1).keep (UP ec);have x4:bW w ((X.setRow (w.heap.size+1+1) (aV (aP 8 C kept).1)).putObj D (.deferred ZX)):=
   Below.RO (y.o.below.grown (aN _ _ _) y.o.below.size (λk e=>Zb)) ec (TX.1 q0).1 _
  exact ⟨.agg (aV (aP 8 C kept).1),Wp results212 _ _ (w.heap.size+1+1) 332 (aV (aP 8 C kept).1) (0,0) _ rfl kc.heap XP rfl (dR _),rfl,x4⟩
end
def Oq (m:Nat->Nat->Nat) (q:Nat) (src:a8):Nat->Nat->Nat:=λr j=>if r=q/\j<src.length then src.getD j 0 else m r j
theorem Cg (z:o.guard=ZX) (d s:ZN)
 (ho:o.op=.call { callee:=.builtin .copy,args:=#[d,s],argTypes:=#[40,40] }) (b q:Nat) (v:ZS) (hd:a.eval d=Z5 (ZW ⟨b,q*16,ZX⟩) 16 16) (hs:a.eval s=v)
 (C:Ck) (src:a8) (hC:aC w b C) (hq:q<8) (hS:Bs w v src) (h8:src.length<=16)
 (h:∀ w',aC w' b ⟨Oq C.m q src,C.told,C.count⟩->Below b w w'->wpList ZM ops Q rest (a.put o.dst (goInt src.length)) w'):wpList ZM ops Q (o::rest) a w:=by
 obtain ⟨ao,c,rfl,J,K,L,t⟩:=hS;refine abV z d s 40 40 ho 5 Un ei (ZW ⟨b,q*16,ZX⟩) ao 16 16 src.length c hd hs b (q*16) _ 332 hC.heap (src.map (λx=>Value.int .u8 ((x:Nat):Int))) ?_ ?_ ?_ ?_ b w (TW _ _) lR ?_
 . rw [Ue];show src.length=min src.length 16;omega
 . intro l;rw [Ue] at l;obtain ⟨I,off,rfl,D⟩:=t (by intro e;rw [e] at l;simp at l);refine ⟨rfl,_,rfl,λj u k=>?_⟩;have g:j<src.length:=by
    obtain ⟨q,_⟩:=Va.1 k;simpa using q
   rw [Vo,D j g];simp [g] at k;simp [g,k]
 . simp;omega
 . intro u E;obtain ⟨x,_,rfl⟩:=T9.1 E;rfl
 . intro w' A y;have F:=A.out;rw [Ue];refine h w' ⟨_,F,?_,λi r=>?_⟩ y
   . rw [UH,length_splice _ _ _ en];simp
   . unfold splice;rw [Xq];have p:∀ x,x<130->((YE 130).map (nF C))[x]?=ZW (nF C x):=λx G=>by rw [UD,Ww G];rfl
     have B:((YE 130).map (nF C)).length=130:=(by rw [Ue,Vp]);by_cases H:i<q*16
     . rw [VC en,X8,TT H,p i r];congr 1;unfold nF;rw [TT ec,TT ec];show _=Value.int .u8 ((Oq C.m q src (i/16) (i%16):Nat):Int);unfold Oq;rw [TS ec]
     . have n:(((YE 130).map (nF C)).take (q*16)).length=q*16:=(by rw [Uo,B];omega);rw [U7 (by rw [n];omega),n];by_cases M:i<q*16+src.length
       . rw [VC en];have f:i-q*16<src.length:=ec;rw [UD,Uc f];simp only [WV];congr 1;unfold nF;rw [TT ec];show _=Value.int .u8 ((Oq C.m q src (i/16) (i%16):Nat):Int);unfold Oq;rw [TT ec,(ec:i%16=i-q*16),Ub,Uc f];rfl
       . rw [U7 en];simp only [Ue];rw [Wf,(ec:q*16+src.length+(i-q*16-src.length)=i),p i r];congr 1;unfold nF;by_cases f:i<128
         . rw [TT f,TT f];show _=Value.int .u8 ((Oq C.m q src (i/16) (i%16):Nat):Int);unfold Oq;rw [TS ec]
         . rw [TS f,TS f]
theorem ER (h:aC w b C) (q i v:Nat) (d:q<8) (c:i<16):aC (w.setCell ⟨b,q*16+i,ZX⟩ (Z7 .u8 (v:Int))) b ⟨λr j=>if r=q/\j=i then v else C.m r j,C.told,C.count⟩:=
 (h.set (q*16+i) (Z7 .u8 (v:Int))).congr (λx f=>by
  unfold nF;by_cases e:x=q*16+i
  . rw [TT e,TT ec];show _=Value.int .u8 ((if x/16=q/\x%16=i then v else _:Nat):Int);rw [TT ec]
  . rw [TS e];by_cases a:x<128
    . rw [TT a,TT a];show _=Value.int .u8 ((if x/16=q/\x%16=i then v else C.m (x/16) (x%16):Nat):Int);rw [TS ec]
    . rw [TS a,TS a])
def mf (M:List a8) (i j:Nat):Nat:=(M.getD i []).getD j 0
theorem Li (M:Nat->Nat->Nat) (D:Nat):kl M D 0=dN:=by
 unfold kl dN;congr 1
theorem Lj (M:List a8) (D k:Nat) (hl:(M.getD (D+k) []).length=D) :
 (⟨λr j=>if r=k/\j=D+k then 1 else Oq (kl (mf M) D k).m k (M.getD (D+k) []) r j,0,k+1⟩:Ck)=kl (mf M) D (k+1):=by
 unfold kl;congr 1;funext r j;show (if r=k/\j=D+k then 1 else (if r=k/\j<(M.getD (D+k) []).length then (M.getD (D+k) []).getD j 0 else (if r<k then (if j<D then mf M (D+r) j else if j=D+r then 1 else 0) else 0)))=(if r<k+1 then (if j<D then mf M (D+r) j else if j=D+r then 1 else 0) else 0);rw [hl];by_cases e:r=k
 . subst e;by_cases a:j=D+r
   . simp [a];intro h;omega
   . by_cases b:j<D
     . simp [a,b,mf]
     . simp [a,b]
 . by_cases a:r<k
   . simp [e,a,(ec:r<k+1)]
   . simp [e,a,(ec:¬ r<k+1)]
def CoR (w:ZT) (M:List a8) (D:Nat) (i:ZS) (wr:ZT):Prop:=
 ∃ k:Nat,D+k<=M.length/\i=Z7 Z9 (k:Int)/\aC wr (w.heap.size+1) (kl (mf M) D k)/\aC wr w.heap.size dN/\bW w wr
theorem Aa (b off c:Nat) (M:List a8) (D:Nat) (w:ZT) (k0:M.length<=c) (L:∀ i (hi:i<M.length),∃ u,w.cell? ⟨b,off+i,ZX⟩=ZW u/\Bs w u M[i]) (hD:1<=D) (k9:D<M.length) (k8:M.length<=16) (hP:M.length<=D+8) (F:∀ i,i<M.length->(M.getD i []).length=D) :
 ZR ZM 219 #[Z5 (ZW ⟨b,off,ZX⟩) M.length c,Z7 Z9 D] w λe w'=>e=Z3 (.agg (aV (kl (mf M) D (M.length-D))))/\bW w w':=by
 have hz:=zeroCk;have ka:(D:Int)<=(M.length:Int):=ec
 have hy:¬ c<=D:=ec
 have N:=ak L;have E:=ak F;clear L F;have K:CoR w M D (Z7 Z9 (0:Nat)) ((w.alloc (Z4 (aV dN) 332)).alloc (Z4 (aV dN) 332)):=by
  refine ⟨0,ec,rfl,?_,(aC.new w dN).keep (We _ _ _ ek),(bA _ _).alloc ek _⟩;rw [Li];have h:=aC.new (w.alloc (Z4 (aV dN) 332)) dN;rw [Ul] at h;exact h
 have G:=ak K;clear K;go_enter func219,ntmps219;go_wp2;clear hz;go_loopw [12] (λi wr=>CoR w M D i wr) (λi _=>(M.length-D)-(intOf i).toNat)
 case atStart=>exact G.out
 case round=>
  clear G;rename ZT=>wo;obtain ⟨k,hk,rfl,A,B,f⟩:=hrel;by_cases y:D+k<M.length
  . have k5:(k:Int)<((M.length-D:Nat):Int):=ec;obtain ⟨u,C,J⟩:=N.o (D+k) y;have kf:wo.cell? ⟨b,off+D+k,ZX⟩=ZW u:=(by rw [Vv,f.cell (Uf C)];exact C);have H:=J.mono f;have n:=E.o (D+k) y;have s:M.getD (D+k) []=M[D+k]:=(by simp [y]);rw [s] at n;have z:=Lj M D k (by rw [s];exact n);rw [s] at z;have ke:=λw'=>pJ w' (w.heap.size+1) (k*16);have kc:(k:Int)<8:=ec;have kb:(D:Int)+(k:Int)<16:=ec;have kh:wrap64 ((D:Int)+(k:Int))=((D+k:Nat):Int):=E3;have k7:IntKind.i64.wrap ((D:Int)+(k:Int))=((D+k:Nat):Int):=l3;have kg:wrap64 ((k:Int)+1)=((k+1:Nat):Int):=E3;have k6:IntKind.i64.wrap ((k:Int)+1)=((k+1:Nat):Int):=l3;have V:=ak z;have g:=ak H;have x:=ak A;have l:=ak B;have S:=ak f;have W:=ak n;clear z H A B f J C E s n;generalize M[D+k]=row at *;go_wp2_with (refine Cg rfl (Z0 20) (Z0 21) rfl (w.heap.size+1) k _ rfl rfl _ row x.out ec g.o (e9 W.out) ?_;intro w2 a d;have c1:=a.at k (D+k) ec ec;have f1:=a.frozen (k*16+(D+k));have O:(w2.setCell ⟨w.heap.size+1,k*16+(D+k),ZX⟩ (Z7 .u8 1)).cell? ⟨w.heap.size+1,129,ZX⟩=ZW (Z7 Z9 (k:Int)):=(ER a k (D+k) 1 ec ec).Sm;have Q:(w2.setCell ⟨w.heap.size+1,k*16+(D+k),ZX⟩ (Z7 .u8 1)).frozen? ⟨w.heap.size+1,129,ZX⟩=ZU:=(ER a k (D+k) 1 ec ec).frozen 129;have T:=ak a;have R:=ak d;clear a d);have a:=T.out;have d:=R.out;have Y:=ER a k (D+k) 1 ec ec;have Z:=xU Y (k+1);have hv:=l.o.keep (d.block w.heap.size ec);have P:(⟨(⟨λr j=>if r=k/\j=D+k then 1 else Oq (kl (mf M) D k).m k row r j,(kl (mf M) D k).told,(kl (mf M) D k).count⟩:Ck).m,(kl (mf M) D k).told,k+1⟩:Ck)=kl (mf M) D (k+1):=V.out;have hs:aC ((w2.setCell ⟨w.heap.size+1,k*16+(D+k),ZX⟩ (Z7 .u8 1)).setCell ⟨w.heap.size+1,129,ZX⟩ (Z7 Z9 ((k+1:Nat):Int))) (w.heap.size+1) (kl (mf M) D (k+1)):=(by rw [<- P];exact Z);have hx:aC ((w2.setCell ⟨w.heap.size+1,k*16+(D+k),ZX⟩ (Z7 .u8 1)).setCell ⟨w.heap.size+1,129,ZX⟩ (Z7 Z9 ((k+1:Nat):Int))) w.heap.size dN:=
     hv.keep ((Wm _ _ _ _ (by show w.heap.size≠w.heap.size+1;omega)).trans (Wm _ _ _ _ (by show w.heap.size≠w.heap.size+1;omega)))
    have X:bW w ((w2.setCell ⟨w.heap.size+1,k*16+(D+k),ZX⟩ (Z7 .u8 1)).setCell ⟨w.heap.size+1,129,ZX⟩ (Z7 Z9 ((k+1:Nat):Int))):=
     ((S.out.trans (d.mono ec)).setCell (p:=⟨w.heap.size+1,k*16+(D+k),ZX⟩) eP _).setCell (p:=⟨w.heap.size+1,129,ZX⟩) eP _
    have t:=aE hs hx X;go_roundw
    case rel=>exact ⟨k+1,ec,eT,t.o.1,t.o.2.1,t.o.2.2⟩
    case measure=>simp [intOf];omega
  . have k5:¬ (k:Int)<((M.length-D:Nat):Int):=ec;have I:M.length-D=k:=ec;have U:=ak I;have g:=ak f;have x:=ak A;have l:=ak B;clear I;go_wp2_with (first
     | refine abl rfl 332 (Z0 5) rfl (w.heap.size+1) rfl 332 (aV (kl (mf M) D k)) (0,0) _ x.out.heap XP rfl (dR _) ?_
     | refine Wz rfl 332 (Z0 4) (Z0 35) rfl w.heap.size (aV (kl (mf M) D k)) rfl rfl 332 (aV dN) l.o.heap (dR _) (by rw [bY,bY]) (mn _) ?_)
    refine Ut (v:=.agg (aV (kl (mf M) D k))) (Wp results219 _ _ w.heap.size 332 (aV (kl (mf M) D k)) (0,0) _ rfl (l.o.setRow (kl (mf M) D k)).heap XP rfl (dR _)) rfl ?_;rw [U.out];exact ⟨rfl,g.o.grown (aN _ _ _) g.o.size (λq e=>B3)⟩
def PB (W:ZT) (n0 Bg:Nat) (regs:Int) (L:List St):Prop:=
 Bg<n0/\n0<=W.heap.size/\∃ v,W.heap[Bg]?=ZW (Z4 #[Z7 Z9 regs,v] 206 (0,0))/\W.ownsRow n0 299 4 v L.length (ez .u8 L)
def Tryz.Tk:(ZM.info? 299).map (λi=>(i.zero,i.size,i.bytes))=ZW (ZW (.agg #[Z7 .u8 0,Z7 Z9 0,Z7 Z9 0,Z7 .u8 0]),4,32):=ei
def Ab {F:Fence} (t:o.guard=ZX) (x y:ZN) (ho:o.op=.call { callee:=.builtin .append,args:=#[x,y],argTypes:=#[204,204] })
 (n0 q:Nat) (L:List St) (s:St) (v:ZS) (hx:a.eval x=v) (hy:a.eval y=Z5 (ZW ⟨q,0,ZX⟩) 1 1) (h3:w.ownsRow n0 299 4 v L.length (ez .u8 L)) (hc:∀ j u,(Ii .u8 s)[j]?=ZW u->w.cell? ((⟨q,0,ZX⟩:Addr).add j)=ZW u) (h6:n0<=w.heap.size) (hL:L.length<=100000)
 (hK:∀ c b w2,n0<=c->w2.ownsRow n0 299 4 (Z5 (ZW ⟨c,0,ZX⟩) (L.length+1) b) (L.length+1) (ez .u8 (L++[s]))->w.grownBy w2 v.ownBlock->wpListIn F n ZM ops Q rest (a.put o.dst (Z5 (ZW ⟨c,0,ZX⟩) (L.length+1) b)) w2):wpListIn F n ZM ops Q (o::rest) a w:=by
 obtain ⟨A,k,l,m,p⟩:=Uu Tryz.Tk;refine wpListIn_append_own w t x y 204 ho n0 299 A (.agg #[Z7 .u8 0,Z7 Z9 0,Z7 Z9 0,Z7 .u8 0]) 4 32 underlying204 k l m p rfl ee v L.length (ez .u8 L) hx h3 ⟨q,0,ZX⟩ 1 1 (Ii .u8 s) hy (by simp [Ii]) hc (λu f=>by simp [Ii] at f;rcases f with rfl|rfl|rfl|rfl<;>rfl) eD ec h6 ?_;intro B w2 d h _;obtain ⟨c,b,rfl,i⟩:∃ c b,B=Z5 (ZW ⟨c,0,ZX⟩) (L.length+1) b/\n0<=c:=by
  rcases d.2 with ⟨_,C⟩|⟨g,cap,cur,z,r,_⟩
  . omega
  . exact ⟨g,cap,z,r⟩
 have e:ez .u8 L++Ii .u8 s=ez .u8 (L++[s]):=by rw [rj];simp [ez]
 rw [e] at d;exact hK c b w2 i d h
def jO {v:ZS} {xs:List ZS} {t:ZP} (h:w.ownsRow n0 t 4 v k xs) {q:Nat} (e:v.ownBlock=ZW q):n0<=q:=(h.lt q e).1
def PB.next {g' cap':Nat} {L:List St} {s:St} {v:ZS} {ob:Obj} (h:Bg<n0) (x:n0<=W.heap.size) (n:W.heap[Bg]?=ZW (Z4 #[Z7 Z9 regs,v] 206 (0,0))) (f:W.ownsRow n0 299 4 v L.length (ez .u8 L))
 (a:(W.alloc ob).grownBy w2 v.ownBlock) (u:n0<=g') (m:w2.ownsRow n0 299 4 (Z5 (ZW ⟨g',0,ZX⟩) (L.length+1) cap') (L.length+1) (ez .u8 (L++[s]))) :
 PB (w2.setCell ⟨Bg,1,ZX⟩ (Z5 (ZW ⟨g',0,ZX⟩) (L.length+1) cap')) n0 Bg regs (L++[s])/\w2.cell? ⟨Bg,1,ZX⟩=ZW v/\w2.frozen? ⟨Bg,1,ZX⟩=ZU /\
  (∀ k,k<n0->k≠Bg->(w2.setCell ⟨Bg,1,ZX⟩ (Z5 (ZW ⟨g',0,ZX⟩) (L.length+1) cap')).heap[k]?=W.heap[k]?)/\KeepsOthers W (w2.setCell ⟨Bg,1,ZX⟩ (Z5 (ZW ⟨g',0,ZX⟩) (L.length+1) cap')) /\
  (w2.setCell ⟨Bg,1,ZX⟩ (Z5 (ZW ⟨g',0,ZX⟩) (L.length+1) cap')).os=W.os/\(w2.setCell ⟨Bg,1,ZX⟩ (Z5 (ZW ⟨g',0,ZX⟩) (L.length+1) cap')).tape=W.tape/\(w2.setCell ⟨Bg,1,ZX⟩ (Z5 (ZW ⟨g',0,ZX⟩) (L.length+1) cap')).output=W.output:=by
 have hold:∀ k,k<n0->w2.heap[k]?=W.heap[k]?:=λk b=>(a.block k en (λe=>e9 (jO f e.symm))).trans (og W _ k ec);have d:=(hold Bg h).trans n;obtain ⟨_,c1,l,_⟩:=ay d;have w:W.heap.size<=w2.heap.size:=by have:=a.size;simp at this;omega
 have p:(w2.setCell ⟨Bg,1,ZX⟩ (Z5 (ZW ⟨g',0,ZX⟩) (L.length+1) cap')).heap[Bg]?=ZW (Z4 #[Z7 Z9 regs,Z5 (ZW ⟨g',0,ZX⟩) (L.length+1) cap'] 206 (0,0)):=by
  obtain ⟨r,b⟩:=TX.1 d;show (w2.heap.modify Bg _)[Bg]?=_;rw [VK (by rw [abz];exact r),ab9,b];rfl
 refine ⟨⟨h,Zc,_,p,?_⟩,c1,l,λk b t=>(Wm _ _ _ _ t).trans (hold k b),?_,a.os,a.tape,a.output⟩
 . have:=m.kept (dy w2 Bg 1 (Z5 (ZW ⟨g',0,ZX⟩) (L.length+1) cap')) (.inr (by simp [Value.ownBlock];omega));simpa using this
 . refine ((KeepsOthers.alloc W ob).trans (ab7 a λj o c i=>?_)).trans (V5 _ _ _);rcases (f.alloc ob).2 with ⟨rfl,_⟩|⟨g,cap,cur,rfl,_,q,_⟩
   . simp [Value.ownBlock] at c
   . obtain rfl:g=j:=(by simpa [Value.ownBlock] using c);rw [q] at i;cases i;rfl
theorem PB.own {L:List St} (h:PB X n0 Bg regs L) (m:n0<=B) (a:X.grownBy Y row) (c:∀ r,row=ZW r->B<=r/\∃ o:Obj,X.heap[r]?=ZW o/\o.isCells=ZU):PB Y n0 Bg regs L:=by
 obtain ⟨i,j,v,k,b⟩:=h;refine ⟨i,TU j a.size,v,(a.block Bg ec (λe=>e9 ((c Bg e.symm).1))).trans k,b.kept a ?_⟩;rcases b.2 with ⟨rfl,_⟩|⟨g,cap,cur,rfl,_,f,_⟩
 . exact .inl rfl
 . refine .inr λd=>?_;obtain ⟨_,o,ho,l⟩:=c g (by simpa [Value.ownBlock] using d.symm);rw [f] at ho;cases ho;cases l
def lH (C:Ck) (i:Nat):List St:=if cF C i=ZV then ⟨0,0,i,0⟩::((YE C.told).filter (λr=>decide (C.m r i≠0))).map (λr:Nat=>(⟨1,1+(r:Int),0,C.m r i⟩:St)) else []
def wrTo (C:Ck) (pre:a8):List St:=(pre.map (lH C)).flatten
def xY (C:Ck) (pre:a8) (i:Nat):wrTo C (pre++[i])=wrTo C pre++lH C i:=by unfold wrTo;simp
def gI (C:Ck) (i k:Nat):List St:=((YE k).filter (λr=>decide (C.m r i≠0))).map (λr:Nat=>(⟨1,1+(r:Int),0,C.m r i⟩:St))
def tT (C:Ck) (i:Nat):gI C i 0=[]:=rfl
def Ci (C:Ck) (i k:Nat) (h:C.m k i≠0):gI C i (k+1)=gI C i k++[⟨1,1+(k:Int),0,C.m k i⟩]:=by unfold gI;rw [Vw];simp [h]
def xZ (C:Ck) (i k:Nat) (h:C.m k i=0):gI C i (k+1)=gI C i k:=by unfold gI;rw [Vw];simp [h]
def Cj (C:Ck) (i k:Nat):(gI C i k).length<=k:=by
 unfold gI;rw [Ue];exact TU (WS _ _) ek
def iy (h:cF C i=ZV):lH C i=⟨0,0,i,0⟩::gI C i C.told:=by unfold lH gI;rw [TT h]
def lI (h:cF C i=ZU):lH C i=[]:=by unfold lH;simp [h]
def Lk (C:Ck) (i:Nat):(lH C i).length<=C.told+1:=by
 cases h:cF C i
 . rw [lI h];simp
 . rw [iy h];have:=Cj C i C.told;simp;omega
theorem sy (C:Ck):∀ pre:a8,(wrTo C pre).length<=pre.length*(C.told+1)
 | []=>by simp [wrTo]
 | i::pre=>by
  have:=sy C pre;have:=Lk C i;have e:wrTo C (i::pre)=lH C i++wrTo C pre:=by unfold wrTo;simp
  rw [e,Ua,UA,W5];omega
def fL (pre:a8):List St:=(YE pre.length).map (λk:Nat=>(⟨2,(k:Int)+1,((pre.getD k 0:Nat):Int),0⟩:St))
theorem ES (pre:a8) (i:Nat):fL (pre++[i])=fL pre++[⟨2,(pre.length:Int)+1,i,0⟩]:=by
 unfold fL;rw [Ua,ab6,Vw,Uw];congr 1
 . apply Wt;intro k a;have:=Ur.1 a;simp [this,VC]
 . simp
def fW (C:Ck) (gone kept:Nat):List St:=wrTo C (ab kept)++fL (ab gone)
def bF (P:List St) (k:Nat):St:=P.getD k ⟨3,0,0,0⟩
def dS (P:List St) (k:Nat) (h:k<P.length):bF P k=P[k]:=by simp [bF,h]
def fl (P:List St) (D:List a8):Nat->Option Nat
 | 0=>ZX
 | k+1=>match fl P D k with
  | some n=>ZW n
  | none=>if (bF P k).k=0 then ZW (D.getD (bF P k).b.toNat []).length else ZX
def oz (gone i:Nat):Prop:=gone/2^i%2=1
def Ot (P:List St) (D:List a8) (gone i:Nat):Prop:=(bF P i).k=0->¬ oz gone (bF P i).b.toNat/\fl P D (i+1)=ZW (D.getD (bF P i).b.toNat []).length/\(D.getD (bF P i).b.toNat []).length<=4096
def gJ (P:List St) (D:List a8) (gone:Nat):Prop:=∀ i,i<P.length->Ot P D gone i
def eB (P:List St) (D:List a8):Nat:=(fl P D P.length).getD 0
def oA (P:List St) (D:List a8) (k n:Nat) (h:fl P D k=ZW n):fl P D (k+1)=ZW n:=by simp [fl,h]
def Ac (P:List St) (D:List a8) (k:Nat) (h:fl P D k=ZX) (a:(bF P k).k=0):fl P D (k+1)=ZW (D.getD (bF P k).b.toNat []).length:=by simp [fl,h,a]
def tU (P:List St) (D:List a8) (k:Nat) (a:(bF P k).k≠0):fl P D (k+1)=fl P D k:=by
 cases h:fl P D k<;>simp [fl,h,a]
def Gu (P:List St) (D:List a8) (k n:Nat) (h:fl P D k=ZW n):∀ m,k<=m->fl P D m=ZW n:=by
 intro m a;induction m with
 | zero => have:k=0:=by omega
           subst this;exact h
 | succ m ih=>
  by_cases e:k=m+1
  . subst e;exact h
  . exact oA P D m n (ih ec)
def QQ {D:List a8} (h:gJ P D gone) (i:Nat) (a:i<P.length) (c:(bF P i).k=0):(D.getD (bF P i).b.toNat []).length=eB P D:=by
 have:=(h i a c).2.1;have:=Gu P D (i+1) _ this P.length ec;simp [eB,this]
def PL {D:List a8} (h:gJ P D gone):∀ k,k<=P.length->∀ n,fl P D k=ZW n->n<=4096
 | 0,_,n,e=>by simp [fl] at e
 | k+1,hk,n,e=>by
  cases a:fl P D k with
  | some m=>
   have:=PL h k ec m a;rw [oA P D k m a] at e;simp at e;omega
  | none=>
   by_cases b:(bF P k).k=0
   . have q:=(h k ec b);rw [q.2.1] at e;have:=UM e;omega
   . rw [tU P D k b,a] at e;simp at e
def IC {D:List a8} (h:gJ P D gone):eB P D<=4096:=by
 unfold eB;cases hf:fl P D P.length with
 | none=>simp
 | some n=>exact PL h P.length lR n hf
def iR (x y:a8) (c:Nat):a8:=(YE x.length).map λj=>x.getD j 0^^^gm c (y.getD j 0)
def dO (D:List a8) (s:St) (R:List a8):List a8:=
 if s.k=0 then R.set s.a.toNat (D.getD s.b.toNat []) else if s.k=1 then R.set s.a.toNat (iR (R.getD s.a.toNat []) (R.getD s.b.toNat []) s.c) else R
def ig (s:St) (R:List a8) (O:List (Int×a8)):List (Int×a8):=if s.k=2 then O++[(s.b,R.getD s.a.toNat [])] else O
def bP (P:List St) (D:List a8) (R0:List a8):Nat->List a8
 | 0=>R0
 | k+1=>dO D (bF P k) (bP P D R0 k)
def dA (P:List St) (D:List a8) (R0:List a8):Nat->List (Int×a8)
 | 0=>[]
 | k+1=>ig (bF P k) (bP P D R0 k) (dA P D R0 k)
def eW (r n:Nat):List a8:=YI r (YI n 0)
def In (w:ZT) (b:Nat) (D:List a8) (gone:Nat):Prop:=∀ i (hi:i<D.length),(oz gone i->w.cell? ⟨b,i,ZX⟩=ZW (Z5 ZX 0 0))/\(¬ oz gone i->∃ a c,w.cell? ⟨b,i,ZX⟩=ZW (Z5 (ZW a) (D[i]).length c)/\Bs w (Z5 (ZW a) (D[i]).length c) D[i])
def In.mono {D:List a8} (h:In w b D gone) (d:bW w w'):In w' b D gone:=λi l=>by
 obtain ⟨g,j⟩:=h i l;refine ⟨λf=>by have:=g f;rw [d.cell (Uf this)];exact this,λf=>?_⟩;obtain ⟨a,c,e,k⟩:=j f;exact ⟨a,c,by rw [d.cell (Uf e)];exact e,k.mono d⟩
def Ad (P:List St):Nat:=P.foldl (λs t=>if t.k=0 then s|||2^t.b.toNat else s) 0
def Cl (P:List St) (t:St):Ad (P++[t])=if t.k=0 then Ad P|||2^t.b.toNat else Ad P:=by unfold Ad;rw [Wu];rfl
def Ll (a:k<P.length):Ad (P.take (k+1))=if P[k].k=0 then Ad (P.take k)|||2^P[k].b.toNat else Ad (P.take k):=by
 rw [Ve,Uc a,YL,Cl]
theorem oC (P:List St) (i:Nat):(Ad P).testBit i=ZV↔∃ s∈P,s.k=0/\s.b.toNat=i:=by
 obtain ⟨Q,rfl⟩:∃ Q,P=Q.reverse:=⟨P.reverse,ek⟩;induction Q with
 | nil=>simp [Ad]
 | cons t Q ih=>
  rw [List.reverse_cons,Cl];by_cases h:t.k=0
  . rw [TT h,V6,X9,Xj,ih,V4];constructor
    . rintro (⟨s,a,c⟩|a)
      . exact ⟨s,UG _ a,c⟩
      . exact ⟨t,ek,h,a⟩
    . rintro ⟨s,a,c,d⟩;rcases Ui.1 a with q|q
      . exact .inl ⟨s,q,c,d⟩
      . rw [U6] at q;exact .inr (by rw [<- q];exact d)
  . rw [TS h,ih];constructor
    . rintro ⟨s,a,c⟩;exact ⟨s,UG _ a,c⟩
    . rintro ⟨s,a,c⟩;rcases Ui.1 a with q|q
      . exact ⟨s,q,c⟩
      . rw [U6] at q;exact absurd (q▸c.1) h
def Lm (h:∀ s∈P,s.k=0->s.b.toNat<16):Ad P<65536:=by
 refine Nat.lt_pow_two_of_testBit (n:=16) _ λi e=>?_;cases hb:(Ad P).testBit i
 . rfl
 . obtain ⟨s,a,c,d⟩:=(oC P i).1 hb;have:=h s a c;omega
def LoR (w:ZT) (P:List St) (lv iv:ZS) (wr:ZT):Prop:=∃ k:Nat,k<=P.length/\iv=Z7 Z9 k/\lv=Z7 Z8 (Ad (P.take k):Nat)/\bW w wr
theorem ID (regs:Int) {v:ZS} {P:List St} {w:ZT} (h:Ps .u8 w v P) (u:∀ s∈P,s.k=0->0<=s.b/\s.b<16) (hl:P.length<=5000) :
 ZR ZM 169 #[.agg #[Z7 Z9 regs,v]] w λe w'=>e=Z3 (Z7 Z8 (Ad P:Nat))/\bW w w':=by
 obtain ⟨ao,c,rfl⟩:=h.slice;have m:bW w (w.alloc (Z4 #[Z7 Z9 regs,.slice ao P.length c] 206)):=bA w _;have n:(w.alloc (Z4 #[Z7 Z9 regs,.slice ao P.length c] 206)).heap[w.heap.size]?=ZW (Z4 #[Z7 Z9 regs,.slice ao P.length c] 206 (0,0)):=Ug _ _;obtain ⟨w1,t⟩:=nM (w.alloc (Z4 #[Z7 Z9 regs,.slice ao P.length c] 206));rw [t] at m n;have k1:w1.cell? ⟨w.heap.size,1,ZX⟩=ZW (.slice ao P.length c):=by simp [World.cell?,n]
 have H:=aE m h u;clear m n h u;go_enter func169,ntmps169;go_wp2;go_loopw [3,9] (λE p wr=>LoR w P E p wr) (λ_ p _=>P.length-(intOf p).toNat)
 case atStart=>exact ⟨0,T8 _,rfl,rfl,H.o.1⟩
 case round=>
  clear k1 t;rename ZT=>wo;obtain ⟨k,K,rfl,rfl,f⟩:=hrel;by_cases j:k<P.length
  . rcases (H.o.2.1.mono f).cases with ⟨rfl,_⟩|⟨b,off,F,e,_,y⟩
    . simp at j
    simp at e;obtain ⟨rfl,rfl⟩:=e;obtain ⟨G,d1,I,J⟩:=y k j;have r:=f.alloc f.size (Z4 #[Z7 .u8 P[k].k,Z7 Z9 P[k].a,Z7 Z9 P[k].b,Z7 .u8 P[k].c] 299);have HT:=ak (Ll j);have HP:=ak (H.o.2.2 _ (T6 j));have A:=ak (Lm (P:=P.take k) (λs D z=>e9 (H.o.2.2 s (UX D) z)));have i:=ak r;clear y f r;generalize P[k].k=q at *;generalize P[k].b=sb at *;by_cases g:q=0
    . have tk:((q:Int)==0)=ZV:=(by simp [g]);have L:=HP.o g;have d:=HT.o;rw [TT g] at d;have l:=ak d;clear g d HT;obtain ⟨x,rfl⟩:∃ x:Nat,sb=(x:Int):=⟨sb.toNat,ec⟩;go_wp2_with fail;refine (eU (Ad (P.take k)) x (e9 A.out) ec _).mono ?_;rintro e M ⟨rfl,C⟩;subst C;go_wp2;go_roundw
      case rel=>exact ⟨k+1,ec,eT,by rw [l.out,VD],i.o⟩
      case measure=>simp [intOf]<;>omega
    . have tk:((q:Int)==0)=ZU:=en;have d:=HT.o;rw [TS g] at d;have l:=ak d;clear g d HT;go_wp2;go_roundw
      case rel=>exact ⟨k+1,ec,eT,by rw [l.out],i.o⟩
      case measure=>simp [intOf]<;>omega
  . have B:k=P.length:=ec;subst B;rw [VA];have i:=ak f;clear f;go_wp2;go_ret;exact ⟨rfl,i.o⟩
def LlR (w:ZT) (P:List St) (D:List a8) (gone:Nat) (lv sv iv:ZS) (wr:ZT):Prop:=
 ∃ k:Nat,k<=P.length/\iv=Z7 Z9 k/\lv=Z7 Z9 ((fl P D k).getD 0:Nat)/\sv=Z1 (fl P D k).isSome/\(∀ i,i<k->Ot P D gone i)/\bW w wr
def QR (P:List St) (D:List a8) (gone:Nat) (w:ZT) (r:Ending) (w':ZT):Prop:=
 (gJ P D gone->r=Z3 (ZZ #[Z7 Z9 (eB P D:Nat),.nilIface]))/\(¬ gJ P D gone->r=Z3 (ZZ #[Z7 Z9 0,.iface 66 (Z7 Z9 2)]))/\bW w w'
theorem pM (v:ZS) (P:List St) (V ci:Nat) (D:List a8) (gone:Nat) (w:ZT) (h:Ps .u8 w v P) (L:In w V D gone) (hq:∀ l∈D,l.length<=100000)
 (N:∀ i,i<P.length->(bF P i).k=0->0<=(bF P i).b/\(bF P i).b<(D.length:Int)) (hl:P.length<=5000) :
 ZR ZM 177 #[v,Z5 (ZW ⟨V,0,ZX⟩) D.length ci] w λr w'=>QR P D gone w r w':=by
 obtain ⟨ao,c,rfl⟩:=h.slice;go_enter func177,ntmps177;go_wp2;go_loopw [6,7,13] (λlv sv S wr=>LlR w P D gone lv sv S wr) (λ_ _ S _=>P.length-(intOf S).toNat)
 case atStart=>exact ⟨0,T8 _,rfl,rfl,rfl,λi A=>absurd A ec,TW _ _⟩
 case round=>
  rename ZT=>wo;obtain ⟨k,hk,rfl,rfl,rfl,J,I⟩:=hrel;have k8:=I.size;by_cases y:k<P.length
  . rcases (h.mono I).cases with ⟨rfl,_⟩|⟨b,off,cc,e,_,W⟩
    . simp at y
    simp at e;obtain ⟨rfl,rfl⟩:=e;obtain ⟨d0,d1,d2,d3⟩:=W k y;have Z:=dS P k y;have K:=N k y;have E:=ak J;have u:=ak (oA P D k);have s:=ak (Ac P D k);have H:=ak (tU P D k);have d:b9 (Ot P D gone k↔((bF P k).k=0->¬ oz gone (bF P k).b.toNat/\fl P D (k+1)=ZW (D.getD (bF P k).b.toNat []).length/\(D.getD (bF P k).b.toNat []).length<=4096)):=Yl;rw [Z] at K s H d;have j:=I.alloc k8 (Z4 #[Z7 .u8 P[k].k,Z7 Z9 P[k].a,Z7 Z9 P[k].b,Z7 .u8 P[k].c] 299);have M:=L.mono j;clear W J L h N Z;generalize P[k].k=T at *;generalize P[k].b=sb at *;by_cases z:T=0
    . have tk:((T:Int) != 0)=ZU:=(by simp [z]);obtain ⟨q1,q2⟩:=K z;have G:=ak z;clear z;obtain ⟨x,rfl⟩:∃ x:Nat,sb=(x:Int):=⟨sb.toNat,ec⟩;have O:x<D.length:=ec;obtain ⟨Q,R⟩:=M x O;have X:D.getD x []=D[x]:=(by simp [O]);have k9:=hq _ (T6 O);rw [VD,X] at s d;clear K q1 q2 M X H;by_cases F:oz gone x
      . have ha:=Q F;have t:b9 (¬ gJ P D gone):=λhl=>((d.out.1 (hl k y)) G.out).1 F;have k5:=λU=>XM (P:=ZM) U 40 5 ZX 0 0 0 0 Un;clear Q R d s u;cases hf:fl P D k
        . go_wp2;go_ret2;exact ⟨λhl=>absurd hl t.o,λ_=>rfl,j⟩
        . go_wp2;go_ret2;exact ⟨λhl=>absurd hl t.o,λ_=>rfl,j⟩
      . obtain ⟨ax,cx,ha,hz⟩:=R F;have k5:=λU=>XM (P:=ZM) U 40 5 (ZW ax) (D[x]).length cx 0 0 Un;clear Q R hz;generalize D[x].length=n at *;cases hf:fl P D k with
        | none=>
         have f:=s.out hf G.out;by_cases g:n<=4096
         . have C:=d.out.2 (λ_=>⟨F,f,g⟩);have B:=ak C;have p:=ak f;clear d s u f C;go_wp2;go_roundw
           case rel=>
            refine ⟨k+1,ec,eT,by first|(rw [p.out];rfl)|rw [p.out],by first|(rw [p.out];rfl)|rw [p.out],λi A=>?_,j⟩;by_cases e:i=k
            . subst e;exact B.out
            . exact E.out i ec
           case measure=>simp [intOf];omega
         . have t:b9 (¬ gJ P D gone):=λhl=>g ((d.out.1 (hl k y)) G.out).2.2;have k7:(4096:Int)<(n:Int):=ec;clear d s u f;go_wp2;go_ret2;exact ⟨λhl=>absurd hl t.o,λ_=>rfl,j⟩
        | some m=>
         have f:=u.out m hf;by_cases g:n=m/\n<=4096
         . obtain ⟨rfl,g⟩:=g;have C:=d.out.2 (λ_=>⟨F,f,g⟩);have B:=ak C;have p:=ak f;have tt:(((n:Nat):Int) != (n:Int))=ZU:=ek;clear d s u f C;go_wp2;go_roundw
           case rel=>
            refine ⟨k+1,ec,eT,by first|(rw [p.out];rfl)|rw [p.out],by first|(rw [p.out];rfl)|rw [p.out],λi A=>?_,j⟩;by_cases e:i=k
            . subst e;exact B.out
            . exact E.out i ec
           case measure=>simp [intOf];omega
         . have t:b9 (¬ gJ P D gone):=λhl=>by
            have q:=(d.out.1 (hl k y)) G.out;rw [f] at q;have:=q.2.1;simp at this;omega
           clear d s u f;by_cases Y:n=m
           . have k7:(4096:Int)<(m:Int):=ec;have tt:(((n:Nat):Int) != (m:Int))=ZU:=en;clear g Y;go_wp2;go_ret2;exact ⟨λhl=>absurd hl t.o,λ_=>rfl,j⟩
           . have tt:(((n:Nat):Int) != (m:Int))=ZV:=en;clear g Y;go_wp2;go_ret2;exact ⟨λhl=>absurd hl t.o,λ_=>rfl,j⟩
    . have tk:((T:Int) != 0)=ZV:=en;have HF:=ak (H.out z);have B:=ak (d.out.2 (λe=>absurd e z));clear H s u d K M z;go_wp2;go_roundw
      case rel=>
       refine ⟨k+1,ec,eT,by rw [HF.o],by rw [HF.o],λi A=>?_,j⟩;by_cases e:i=k
       . subst e;exact B.out
       . exact E.out i ec
      case measure=>simp [intOf];omega
  . have k6:k=P.length:=ec;subst k6;have E:=ak J;clear h L N J;go_wp2;go_ret2;exact ⟨λ_=>rfl,λg=>absurd (λi A=>E.out i A) g,I⟩
def pN (n nb:Nat):eQ:=⟨n,nb,λ_=>ZU,λ_ _=>ZU,λ_ _=>zb⟩
def pO (n nb S:Nat):az:=⟨n,nb,λ_ _=>ZU,λ_=>ZU,λ_ _=>ZU,λ_ _=>ZU,λ_ _=>.blank,S⟩
def Ae (n nb S:Nat):jc (pN n nb) (pO n nb S):=⟨rfl,rfl,λ_ _=>rfl,λ_ _ _ _=>zx (r:=.blank) trivial,λ_ _ _ _ h=>vE⟩
def ET (w:ZT) (b nb:Nat):Prop:=w.rowIs b 114 (64*nb) (λ_=>Z7 .u8 0)
def IE (w:ZT) (b nb:Nat):Prop:=w.rowIs b 4 nb (λ_=>Z1 ZU)
def dP (nb:Nat) (q:Nat×Nat):List ZS:=[Z1 ZU,Z5 (ZW ⟨q.1,0,ZX⟩) nb nb,Z5 (ZW ⟨q.2,0,ZX⟩) nb nb,Z7 Z9 0]
def nv (nb:Nat) (l:List (Nat×Nat)):List ZS:=l.flatMap (dP nb)
def Tryz.infoDrive:(ZM.info? 79).map (λi=>(i.zero,i.size,i.bytes))=ZW (ZW (.agg #[Z1 ZU,Z5 ZX 0 0,Z5 ZX 0 0,Z7 Z9 0]),4,64):=ei
def Tryz.Th:(ZM.info? 4).map (λi=>(i.zero,i.size,i.bytes))=ZW (ZW (Z1 ZU),1,1):=ei
def Ln (w:ZT) (nb:Nat):ET (w.alloc (Z4 (madeCells (aH zb) (nb*64)) 114)) w.heap.size nb:=by
 refine ⟨_,Ug _ _,by rw [size_madeCells];omega,λi c=>?_⟩;have b:(aH zb).size=64:=by rw [iu,dD]
 have:i%64<64:=Wc _ ee;have a:(aH zb)[i%64]! = Z7 .u8 0:=by
  have e:aH zb=YK 64 (Z7 .u8 0):=by simp only [aH,aJ,zb,List.map_replicate,List.toArray_replicate];rfl
  rw [getElem!_pos (aH zb) (i%64) ec];simp only [e,Array.getElem_replicate]
 simp [madeCells,b,a,(ec:i<nb*64)]
def QS (w:ZT) (p nb k:Nat) (L:List (Nat×Nat)) (v:ZS) (wr:ZT):Prop:=
 L.length=k/\wr.heap[p]?=ZW (Z4 #[v,Z7 Z9 (-1)] 75 (0,0))/\wr.ownsRow (p+1) 79 4 v k (nv nb L)/\(∀ q∈L,(p<q.1/\p<q.2)/\ET wr q.1 nb/\IE wr q.2 nb)/\(L.map (λq=>q.1)).Nodup/\(L.map (λq=>q.2)).Nodup/\Below p w wr
def NaR (w:ZT) (p nb n:Nat) (i:ZS) (wr:ZT):Prop:=∃ k L v,k<=n/\i=Z7 Z9 (k:Nat)/\QS w p nb k L v wr
def Gv {v:ZS} {xs:List ZS} (h:w.ownsRow base 79 4 v n xs) (j:w.rowIs b t m f) (l:t≠79):v.ownBlock≠ZW b:=by
 intro e;rcases h.2 with ⟨i,_⟩|⟨g,cap,cur,d,o,a,p⟩
 . rw [i] at e;simp [Value.ownBlock] at e
 . rw [d] at e;simp [Value.ownBlock] at e;subst e;obtain ⟨c,k,_⟩:=j;rw [k] at a;simp at a;exact l a.2
def tV {l:a8} (h:l.Nodup) (a:∀ x∈l,x<b) (c:Nat) (g:b<=c):(l++[c]).Nodup:=by
 rw [U9];refine ⟨h,ek,λx d y f e=>?_⟩;simp at f;have:=a x d;omega
def QS.next {L:List (Nat×Nat)} {v v':ZS} {q:Nat×Nat} (h:QS w p nb k L v wr) (z:wr.heap.size<=q.1) (A:wr.heap.size<=q.2) (ho:w'.ownsRow (p+1) 79 4 v' (k+1) (nv nb L++dP nb q))
 (B:ET w' q.1 nb) (C:IE w' q.2 nb) (u:w'.heap[p]?=ZW (Z4 #[v',Z7 Z9 (-1)] 75 (0,0))) (b:aa (λj=>j=p\/v.ownBlock=ZW j) wr w'):QS w p nb (k+1) (L++[q]) v' w':=by
 obtain ⟨n,o,i,d,r,s,c⟩:=h;have:p<wr.heap.size:=(TX.1 o).1;have m:∀ x∈L,ET w' x.1 nb/\IE w' x.2 nb:=λx a=>by
  obtain ⟨⟨D,E⟩,f,g⟩:=d x a;refine ⟨Wd f (b.block _ f.lt ?_),Wd g (b.block _ g.lt ?_)⟩
  . rintro (e|e)
    . omega
    . exact Gv i f ee e
  . rintro (e|e)
    . omega
    . exact Gv i g ee e
 refine ⟨by simp [n],u,?_,λx a=>?_,?_,?_,⟨b.os.trans c.os,b.tape.trans c.tape,b.output.trans c.output,TU c.size b.size,λj t=>(b.block j ec (λe=>?_)).trans (c.block j t)⟩⟩
 . have e:nv nb (L++[q])=nv nb L++dP nb q:=(by simp [nv]);rw [e];exact ho
 . rcases Ui.1 a with a|a
   . exact ⟨(d x a).1,m x a⟩
   . simp at a;subst a;exact ⟨⟨ec,ec⟩,B,C⟩
 . rw [Uw];exact tV r (λx a=>by obtain ⟨y,l,rfl⟩:=T9.1 a;exact (d y l).2.1.lt) _ z
 . rw [Uw];exact tV s (λx a=>by obtain ⟨y,l,rfl⟩:=T9.1 a;exact (d y l).2.2.lt) _ A
 . rcases e with e|e
   . omega
   . have:=(i.lt j e).1;omega
def Lo (n nb:Nat) (w:ZT) (e:Ending) (w':ZT):Prop:=e=Z3 (Z6 (ZW ⟨w.heap.size,0,ZX⟩))/\bW w w'/\∃ F:aK,ah w' w.heap.size (pN n nb) F/\∀ k,F.S k->w.heap.size<=k
def Cm (nb:Nat):∀ (L:List (Nat×Nat)) (i:Nat),i<L.length->(nv nb L)[i*4]?=ZW (Z1 ZU)/\(nv nb L)[i*4+1]?=ZW (Z5 (ZW ⟨(L.getD i (0,0)).1,0,ZX⟩) nb nb)/\(nv nb L)[i*4+2]?=ZW (Z5 (ZW ⟨(L.getD i (0,0)).2,0,ZX⟩) nb nb)/\(nv nb L)[i*4+3]?=ZW (Z7 Z9 0)
 | [],i,h=>absurd h ek
 | q::L,0,_=>⟨rfl,rfl,rfl,rfl⟩
 | q::L,i+1,h=>by
  have e:nv nb (q::L)=dP nb q++nv nb L:=by simp [nv]
  have ih:=Cm nb L i (oD h);have a:∀ j,(dP nb q++nv nb L)[(i+1)*4+j]?=(nv nb L)[i*4+j]?:=λj=>by
   rw [U7 (by simp [dP];omega),show (i+1)*4+j-(dP nb q).length=i*4+j by simp [dP];omega]
  rw [e];exact ⟨(a 0).trans ih.1,(a 1).trans ih.2.1,(a 2).trans ih.2.2.1,(a 3).trans ih.2.2.2⟩
def Cn {l:a8} (h:l.Nodup) {i j:Nat} (a:i<l.length) (b:j<l.length) (e:l[i]=l[j]):i=j:=(List.getElem_inj h).1 e
theorem QS.post {L:List (Nat×Nat)} {v:ZS} (h:QS w w.heap.size nb n L v wr) (K:0<n) (B:n<=1000) (C:nb<=1000000):Lo n nb w (Z3 (Z6 (ZW ⟨w.heap.size,0,ZX⟩))) wr:=by
 obtain ⟨b,t,u,f,y,z,A⟩:=h;refine ⟨rfl,A,?_⟩;rcases u.2 with ⟨rfl,I⟩|⟨g,cap,cur,rfl,c,r,F,G,H,s⟩
 . omega
 . have l:∀ i,i<n->(L.getD i (0,0))∈L:=λi a=>by
    rw [Ub,Uc (ec:i<L.length)];exact T6 _
   refine ⟨⟨g,cap,λi=>(L.getD i (0,0)).1,λi=>(L.getD i (0,0)).2,λk=>k=w.heap.size\/k=g\/∃ i,i<n/\(k=(L.getD i (0,0)).1\/k=(L.getD i (0,0)).2)⟩,⟨t,⟨cur,r,λi a=>?_⟩,λi a=>?_,λi a=>?_,λi j a d=>⟨λe=>?_,λe=>?_⟩,λk=>Yl,B,C,λ_ _=>⟨dD,λx D=>e9 (VF D)⟩⟩,?_⟩
   . have q:=Cm nb L i (by rw [b];exact a);have:i<n:=a;rw [<- s] at q;simp only [VM (ec:i*4<n*4),VM (ec:i*4+1<n*4),VM (ec:i*4+2<n*4),VM (ec:i*4+3<n*4),aby] at q;exact ⟨q.1,q.2.1,q.2.2.1,_,q.2.2.2⟩
   . refine World.rowIs.congr (f _ (l i a)).2.1 λj d=>?_;show Value.int .u8 0=Value.int .u8 ((zb.getD (j%64) 0:Nat):Int);have E:zb.getD (j%64) 0=0:=by
      unfold zb;rw [Ub,WH];split<;>rfl
     rw [E];rfl
   . exact (f _ (l i a)).2.2
   . have p:i<(L.map (λq=>q.1)).length:=(by rw [Ue,b];exact a);have c:j<(L.map (λq=>q.1)).length:=(by rw [Ue,b];exact d);refine Cn y p c ?_;have m:i<L.length:=(by rw [b];exact a);have o:j<L.length:=(by rw [b];exact d);simpa [m,o] using e
   . have p:i<(L.map (λq=>q.2)).length:=(by rw [Ue,b];exact a);have c:j<(L.map (λq=>q.2)).length:=(by rw [Ue,b];exact d);refine Cn z p c ?_;have m:i<L.length:=(by rw [b];exact a);have o:j<L.length:=(by rw [b];exact d);simpa [m,o] using e
   . rintro k (rfl|rfl|⟨i,a,rfl|rfl⟩)
     . exact TV _
     . exact Nat.le_of_succ_le c
     . exact Nat.le_of_lt (f _ (l i a)).1.1
     . exact Nat.le_of_lt (f _ (l i a)).1.2
def FkN (w w2:ZT) (nb b1 b2:Nat):Prop:=ET w2 b1 nb/\IE w2 b2 nb/\w.heap.size<=b1/\w.heap.size<=b2/\bW w w2
theorem kL (n nb:Nat) (w:ZT) (km:0<n) (hn:n<=1000) (ko:nb<=1000000) :
 ZR ZM 8 #[Z7 Z9 n,Z7 Z9 nb] w λe w'=>Lo n nb w e w':=by
 go_enter func8,ntmps8;have h0:QS w w.heap.size nb 0 [] (Z5 ZX 0 0) (w.alloc (Z4 #[Z5 ZX 0 0,Z7 Z9 (-1)] 75)):=⟨rfl,Ug _ _,UK _ _ _ _,λq hq=>(by simp at hq),ek,ek,bA w _⟩;go_wp2_with fail;go_loopw [9] (λi wr=>NaR w w.heap.size nb n i wr) (λi _=>n-(intOf i).toNat)
 case atStart=>exact ⟨0,[],_,T8 _,rfl,h0⟩
 case round=>
  clear h0;obtain ⟨k,L,v,hk,rfl,c⟩:=hrel;by_cases kp:k<n
  . have d:=ak c;clear c;go_wp2_with fail;obtain ⟨p,hp⟩:=nM (w.heap.size);have c:=d.o;rw [hp] at c ⊢;have I:=c.2.1;have he:=c.2.2.1;have ke:p<wr.heap.size:=(TX.1 I).1;have c0:wr.drew.cell? ⟨p,0,ZX⟩=ZW v:=show wr.cell? _=_ by simp [World.cell?,I]
    have n1:¬ (nb:Int)<0:=ec;obtain ⟨ib,kb,k7,k6,k5⟩:=Uu Tryz.zeroBlk;obtain ⟨ic,kc,ka,k9,k8⟩:=Uu Tryz.Th;obtain ⟨id,R,kj,ki,kh⟩:=Uu Tryz.infoDrive;have N:∀ w',(Instr.makeSlice 76 (Z7 Z9 nb) (Z7 Z9 nb)).run ZM w'=.ok (Z5 (ZW ⟨w'.heap.size,0,ZX⟩) nb nb) (w'.alloc (Z4 (madeCells (aH zb) (nb*64)) 114)):=λw'=>by
     have E:=run_make (P:=ZM) w' 76 114 ib (.agg (aH zb)) underlying76 kb k7 .i64 .i64 nb nb ec (Int.le_refl _) (by rw [k5];omega) ec;rw [k6,VD] at E;exact E
    have H:∀ w',(Instr.makeSlice 77 (Z7 Z9 nb) (Z7 Z9 nb)).run ZM w'=.ok (Z5 (ZW ⟨w'.heap.size,0,ZX⟩) nb nb) (w'.alloc (Z4 (madeCells #[Z1 ZU] nb) 4)):=λw'=>by
     have E:=run_make (P:=ZM) w' 77 4 ic (Z1 ZU) underlying77 kc ka .i64 .i64 nb nb ec (Int.le_refl _) (by rw [k8];omega) ec;rw [k9,VD,Wg] at E;exact E
    refine qU (n:=7) 16 [(0,ZV),(1,ZV),(2,ZV),(3,ZV),(4,ZV),(5,ZV),(6,ZV),(8,ZV),(9,ZV)] [[(7,ZU),(10,ZU),(11,ZV),(12,ZU),(13,ZU),(14,ZV),(15,ZV),(16,ZU)],[(10,ZU),(7,ZU),(11,ZV),(12,ZU),(13,ZU),(14,ZV),(15,ZV),(16,ZU)]] (λw'=>w'.cell? ⟨p,0,ZX⟩=ZW v) ei ei c0 ?_;iterate 9 (refine aF rfl rfl ?_;apply YF;refine ⟨λw' c=>?_,?_⟩;(first|(go_simp;done)|(go_simp;exact rfl));simp only [Act.put,TZ,TY,T5])
    have C:∀ w1:ZT,bW wr w1->w1.cell? ⟨p,0,ZX⟩=ZW v:=λw1 hb=>(hb.cell (p:=⟨p,0,ZX⟩) ke).trans c0;have x:bW wr wr.drew:=(TW _ wr).drew;have a:∀ {w1:ZT} (o:Obj),bW wr w1->bW wr (w1.alloc o):=λo h=>h.alloc h.size o;clear d;have d:=aE c he I;clear c he I c0;obtain ⟨f,T⟩:∃ o,Obj.cells (madeCells (aH zb) (nb*64)) 114=o:=⟨_,rfl⟩;obtain ⟨l,U⟩:∃ o,Obj.cells (madeCells #[Z1 ZU] nb) 4=o:=⟨_,rfl⟩;have W:∀ w':ZT,ET (w'.alloc f) w'.heap.size nb:=λw'=>T▸Ln w' nb;have X:∀ w':ZT,IE (w'.alloc l) w'.heap.size nb:=λw'=>U▸Xz w' (Z1 ZU) nb _;rw [T] at N;rw [U] at H;refine cH (Bm ?fa ?fb)
    case' fa=>
     obtain ⟨b1,A⟩:∃ b,wr.heap.size=b:=⟨_,rfl⟩;obtain ⟨b2,B⟩:∃ b,wr.heap.size+1=b:=⟨_,rfl⟩;refine eJ (v:=Z5 (ZW ⟨b1,0,ZX⟩) nb nb) (w1:=wr.drew.alloc f) rfl rfl (by simp [execOp,Act.eval,N,A]) (λ_=>C _ (a _ x)) ?_;simp only [Act.put,TZ,TY,T5];refine eJ (v:=Z5 (ZW ⟨b2,0,ZX⟩) nb nb) (w1:=(wr.drew.alloc f).alloc l) rfl rfl (by simp [execOp,Act.eval,H,B]) (λ_=>C _ (a _ (a _ x))) ?_;have z:FkN wr ((wr.drew.alloc f).alloc l) nb b1 b2:=⟨by rw [<- A];exact (W _).alloc _,by have:=X (wr.drew.alloc f);rw [Ul] at this;rw [<- B];exact this,ec,ec,a _ (a _ x)⟩;obtain ⟨w2,V⟩:=nM ((wr.drew.alloc f).alloc l)
    case' fb=>
     obtain ⟨b2,B⟩:∃ b,wr.heap.size=b:=⟨_,rfl⟩;obtain ⟨b1,A⟩:∃ b,wr.heap.size+1=b:=⟨_,rfl⟩;refine eJ (v:=Z5 (ZW ⟨b2,0,ZX⟩) nb nb) (w1:=wr.drew.alloc l) rfl rfl (by simp [execOp,Act.eval,H,B]) (λ_=>C _ (a _ x)) ?_;simp only [Act.put,TZ,TY,T5];refine eJ (v:=Z5 (ZW ⟨b1,0,ZX⟩) nb nb) (w1:=(wr.drew.alloc l).alloc f) rfl rfl (by simp [execOp,Act.eval,N,A]) (λ_=>C _ (a _ (a _ x))) ?_;have z:FkN wr ((wr.drew.alloc l).alloc f) nb b1 b2:=⟨by have:=W (wr.drew.alloc l);rw [Ul] at this;rw [<- A];exact this,by rw [<- B];exact (X _).alloc _,ec,ec,a _ (a _ x)⟩;obtain ⟨w2,V⟩:=nM ((wr.drew.alloc l).alloc f)
    all_goals
     simp only [Act.put,TZ,TY,T5];rw [V] at z ⊢;clear A B V W X N H kb k7 k6 k5 kc ka k9 k8 x T U;obtain ⟨z1,z2,q1,q2,z⟩:=z;refine aF rfl rfl ⟨.agg (dP nb (b1,b2)).toArray,λw' _=>by simp only [dP];go_simp,?_⟩;simp only [Act.put,TZ,TY,T5];refine eJ (v:=Z5 (ZW ⟨w2.heap.size,0,ZX⟩) 1 1) (w1:=w2.alloc (Z4 (dP nb (b1,b2)).toArray 79)) rfl rfl (by simp only [dP];go_simp) (λ_=>C _ (a _ z)) ?_;simp only [Act.put,TZ,TY,T5];have y:=a (Z4 (dP nb (b1,b2)).toArray 79) z;have Q:=Ug w2 (Z4 (dP nb (b1,b2)).toArray 79);have r:=z1.alloc (Z4 (dP nb (b1,b2)).toArray 79);have s:=z2.alloc (Z4 (dP nb (b1,b2)).toArray 79);obtain ⟨Y,kf⟩:=nM (w2.alloc (Z4 (dP nb (b1,b2)).toArray 79));rw [kf] at y Q r s ⊢;refine te rfl rfl λK hK=>?_;refine wp_append_own Y (Z0 15) (Z0 23) 73 rfl (p+1) 79 id _ 4 64 underlying73 R kj ki kh rfl ee v k (nv nb L) rfl (aq d.o.2.1 y) ⟨w2.heap.size,0,ZX⟩ 1 1 (dP nb (b1,b2)) rfl rfl (λj u S=>?_) (λu hu=>?_) (by simp [maxLen];omega) ec (e9 y.size) ?_
     . rw [jG];simp only [World.cell?,Q];simpa using S
     . simp [dP] at hu;rcases hu with rfl|rfl|rfl|rfl<;>rfl
     intro v' m J t kk;have D:∀ b,wr.heap.size<=b->b<Y.heap.size->m.heap[b]?=Y.heap[b]?:=λb hb kg=>t.block b kg (λe=>e9 ((d.o.2.1.lt b e.symm).2));have M:m.heap[p]?=ZW (Z4 #[v,Z7 Z9 (-1)] 75 (0,0)):=(t.block p (e9 y.size) (λe=>e9 ((d.o.2.1.lt p e.symm).1))).trans ((y.block p ke).trans d.o.2.2);have Z:m.cell? ⟨p,0,ZX⟩=ZW v:=(by simp [World.cell?,M]);have f4:m.frozen? ⟨p,0,ZX⟩=ZU:=(by simp [World.frozen?,M]);have F:ET m b1 nb:=Wd r (D _ q1 r.lt);have G:IE m b2 nb:=Wd s (D _ q2 s.lt);have k0:aa (λj=>j=p\/v.ownBlock=ZW j) wr m:=(aa.RL y _).trans ⟨t.os,t.tape,t.output,t.size,λj S hs=>t.block j S (λe=>hs (.inr e.symm))⟩;refine hK _ _ (λ_=>Z) ?_;clear hK kk t D Q y r s z z1 z2 kf;obtain ⟨O,sl,sc,rfl⟩:∃ O sl sc,v'=.slice O sl sc:=by
      rcases J.2 with ⟨e,_⟩|⟨g,cap,cur,e,_⟩
      . exact ⟨_,_,_,e⟩
      . exact ⟨_,_,_,e⟩
     simp only [Act.put,TZ,TY,T5];iterate 2 (refine aF rfl rfl ?_;apply YF;refine ⟨λw' c=>?_,?_⟩;(first|(go_simp;done)|(go_simp;exact rfl));simp only [Act.put,TZ,TY,T5])
     refine ku (w1:=m.setCell ⟨p,0,ZX⟩ (.slice O sl sc)) rfl rfl ua (absurd rfl) (cH ?_);have hN:=d.o.1.next (w':=m.setCell ⟨p,0,ZX⟩ (.slice O sl sc)) (q:=(b1,b2)) q1 q2 (J.kept (row:=ZW p) ⟨rfl,rfl,rfl,oB,λi _ hi=>Ud _ _ _ _ (λe=>hi Wb)⟩ (.inr λe=>e9 ((J.lt p e).1))) (Wd F (Ud _ _ _ _ (by show b1≠p;omega))) (Wd G (Ud _ _ _ _ (by show b2≠p;omega))) (by simp [World.setCell,Vy,M]) (k0.trans (aa.setCell _ _ _ (.inl rfl)));have HN:=ak hN;clear hN d J F G k0 M Z f4;rename_i hK
     refine hK _ _ ?_;clear hK;simp only [Act.put];go_wp2;exact ⟨⟨k+1,_,_,ec,eT,HN.o⟩,l7⟩
  . have D:k=n:=ec;subst D;have d:=ak c;clear c;go_wp2;go_ret;exact d.o.post km hn ko
def QT (n nb S:Nat) (w:ZT) (e:Ending) (w':ZT):Prop:=e=Z3 (Z6 (ZW ⟨w.heap.size,0,ZX⟩))/\bW w w'/\∃ F:aK,aA w' w.heap.size (pO n nb S) F/\∀ k,F.S k->w.heap.size<=k
def Af (n nb S:Nat) (w:ZT) (a:0<n) (f:n<=1000) (d:nb<=1000000) :
 ZR ZM 8 #[Z7 Z9 n,Z7 Z9 nb] w λe w'=>QT n nb S w e w':=by
 refine (kL n nb w a f d).mono ?_;rintro e w' ⟨b,c,F,g,h⟩;exact ⟨b,c,F,⟨_,g,Ae n nb S⟩,h⟩
def pP (X:ZT) (p:Nat) (A:az) (F:aK) (M:List (Nat×Nat)):Prop:=aA X p A F/\∀ i b,A.tn i b=ZV->(i,b)∈M
def pP.keep {A:az} (h:pP X p A F M) (a:∀ k,F.S k->Y.heap[k]?=X.heap[k]?):pP Y p A F M:=⟨h.1.keep a,h.2⟩
def az.SG (A:az) (d b:Nat):az:={ A with bad:=λi m=>if i=d/\m=b then ZV else A.bad i m }
def az.Tb (A:az) (d:Nat):az:={ A with lost:=λi=>if i=d then ZV else A.lost i }
def az.renew (A:az) (d:Nat):az:={ A with lost:=λi=>if i=d then ZU else A.lost i,bad:=λi m=>if i=d then ZU else A.bad i m,bl:=λi m=>if i=d then ZV else A.bl i m }
def az.turn (A:az) (d b:Nat):az:={ A with bad:=λi m=>if i=d/\m=b then ZV else A.bad i m,tn:=λi m=>if i=d/\m=b then ZV else A.tn i m }
theorem ah.setByte (h:ah X p R F) {d b j z:Nat} (c:d<R.n) (f:j<64) (l:z<256):ah (X.setCell ⟨F.bb d,b*64+j,ZX⟩ (Z7 .u8 (z:Nat))) p (R.RT d λm=>if m=b then (R.blk d b).set j z else R.blk d m) F:=by
 refine h.RT c (((h.blk d c).set (b*64+j) (Z7 .u8 (z:Nat))).congr λm _=>?_) (λk g=>Ud _ _ _ _ g) λm=>?_
 . unfold NU;show _=Value.int .u8 (((if m/64=b then (R.blk d b).set j z else R.blk d (m/64)).getD (m%64) 0:Nat):Int);by_cases e:m/64=b
   . rw [TT e,e];simp only [Ub,Xn,(h.len d b).1];by_cases a:m=b*64+j
     . rw [TT a,TT ec,TT f];rfl
     . rw [TS a,TS ec]
   . rw [TS ec,TS e]
 . split
   . refine ⟨by rw [VZ];exact (h.len d b).1,λx i=>?_⟩;rcases Ye i with q|q
     . exact (h.len d b).2 x q
     . rw [q];exact l
   . exact h.len d m
theorem jc.turn {A:az} (a:jc R A) (hl:∀ i j,(R.blk i j).length=64/\∀ x∈R.blk i j,x<256) {d b j z:Nat} (s:j<64) (v:z<256) (o:z≠(R.blk d b).getD j 0) (u:A.tn d b=ZU):jc (R.RT d λm=>if m=b then (R.blk d b).set j z else R.blk d m) (A.turn d b):=by
 refine ⟨a.n,a.nb,a.lost,λi m h f=>?_,λi m h f c p=>?_⟩
 . have q:=a.rd i m h f;unfold eQ.rd az.rd at q ⊢;show (if R.bad i m=ZV then ZX else JW ((if i=d then λm=>if m=b then (R.blk d b).set j z else R.blk d m else R.blk i) m))=if (if i=d/\m=b then ZV else A.bad i m)=ZV then ZX else ZW (if A.bl i m=ZV then .blank else A.rc i m);by_cases e:i=d/\m=b
   . obtain ⟨rfl,rfl⟩:=e;rw [TT (show i=i/\m=m from ⟨rfl,rfl⟩),TT rfl,TT rfl];by_cases c:R.bad i m=ZV
     . rw [TT c];rfl
     . rw [TS c] at q ⊢;have r:¬ A.bad i m=ZV:=λe=>c (a.tn i m h f e u);rw [TS r] at q;unfold JW at q ⊢;simp only [if_true];split at q
       . rename_i t
         rw [TS (Kp (hl i m).1 (hl i m).2 s v o t)]
       . cases q
   . rw [TS e];by_cases k:i=d
     . subst k;rw [TT rfl];simp only [TS (show ¬ m=b from λq=>e ⟨rfl,q⟩)];exact q
     . rw [TS k];exact q
 . have l:(if i=d/\m=b then ZV else A.bad i m)=ZV:=c;have g:(if i=d/\m=b then ZV else A.tn i m)=ZU:=p;by_cases e:i=d/\m=b
   . rw [TT e] at g;cases g
   . rw [TS e] at l g;exact a.tn i m h f l g
def Co (R:eQ) (d b i m:Nat) (t:Bool):(R.RZ d λm=>if m=b then t else R.bad d m).bad i m=if i=d/\m=b then t else R.bad i m:=by
 show (if i=d then λm=>if m=b then t else R.bad d m else R.bad i) m=_;by_cases e:i=d
 . subst e;rw [TT rfl];by_cases a:m=b<;>simp [a]
 . rw [TS e,TS (λq=>e q.1)]
theorem Lp {A:az} (k:pP w p A F M) (d:Nat) (j:d<A.n):ZR ZM 24 #[Z6 (ZW ⟨p,0,ZX⟩),Z7 Z9 d] w λe w'=>e=Z3 (ZZ #[])/\pP w' p (A.Tb d) F M/\aa F.S w w':=by
 obtain ⟨⟨R,h,a⟩,g⟩:=k;rw [<- a.n] at j;obtain ⟨c0,c1⟩:=h.RQ;obtain ⟨l,d1,m,q⟩:=h.R3 d j;have t:=h.Sa (d*4);have r:(0:Int)<=(d:Int):=ec
 have s:(d:Int)<(R.n:Int):=ec
 have H:=aE h a g;clear h a g;go_enter func24,ntmps24;go_wp2;first|go_end0|skip
 obtain ⟨h,a,g⟩:=H.o;refine ⟨rfl,⟨⟨_,h.S5 d ZV,⟨a.n,a.nb,λi f=>?_,λi b f hl=>?_,λi b f hl=>?_⟩⟩,g⟩,aa.setCell _ _ _ h.sg⟩
 . show (if i=d then ZV else R.lost i)=if i=d then ZV else A.lost i;rw [a.lost i f]
 all_goals
  have c:(if i=d then ZV else A.lost i)=ZU:=hl;by_cases e:i=d
  . rw [TT e] at c;cases c
  . rw [TS e] at c;first|exact a.rd i b f c|exact a.tn i b f c
theorem IF {A:az} (s:pP w p A F M) (d b:Nat) (c:d<A.n) (g:b<A.nb):ZR ZM 25 #[Z6 (ZW ⟨p,0,ZX⟩),Z7 Z9 d,Z7 Z9 b,Z7 Z9 (-1)] w λe w'=>e=Z3 (ZZ #[])/\pP w' p (A.SG d b) F M/\aa F.S w w':=by
 obtain ⟨⟨R,h,a⟩,f⟩:=s;rw [<- a.n] at c;rw [<- a.nb] at g;obtain ⟨c0,c1⟩:=h.RQ;obtain ⟨u,d1,x,y⟩:=h.R3 d c;have j:=h.bad d c;have cb:=abM j (i:=b) g;have J:=World.rowIs.frozen j b;have r:=iN h ec;have z:¬ (d:Int)<0:=ec
 have B:¬ (R.n:Int)<=(d:Int):=ec
 have C:¬ (b:Int)<0:=ec
 have D:(d:Int)<(R.n:Int):=ec
 have E:(b:Int)<(R.nb:Int):=ec
 have G:(0:Int)<=(d:Int):=ec
 have I:(0:Int)<=(b:Int):=ec
 have H:=a5 h r a f;clear h r j a f;go_enter func25,ntmps25;go_wp2_with fail;refine H.o.2.1.mono ?_;rintro e w' ⟨rfl,rfl⟩;go_wp2;refine Ut (v:=ZZ #[]) (by simp [results,results25,go_sem]) rfl ?_;obtain ⟨h,_,a,f⟩:=H.o;refine ⟨rfl,⟨⟨_,h.Tx c b ZV,⟨a.n,a.nb,a.lost,λi m k hl=>?_,λi m k hl g t=>?_⟩⟩,f⟩,aa.setCell _ _ _ (h.sd c)⟩
 . have q:=a.rd i m k hl;unfold eQ.rd az.rd at q ⊢;rw [Co];show (if (if i=d/\m=b then ZV else R.bad i m)=ZV then ZX else JW (R.blk i m))=if (if i=d/\m=b then ZV else A.bad i m)=ZV then ZX else ZW (if A.bl i m=ZV then .blank else A.rc i m);by_cases e:i=d/\m=b
   . simp only [TT e];rfl
   . simp only [TS e];exact q
 . rw [Co];have l:(if i=d/\m=b then ZV else A.bad i m)=ZV:=g;by_cases e:i=d/\m=b
   . exact TT e
   . rw [TS e] at l ⊢;exact a.tn i m k hl l t
theorem Lq {A:az} (N:pP w p A F M) (d b k:Nat) (f:d<A.n) (O:b<A.nb) (hk:k<512) (x:(d,b)∉M):ZR ZM 25 #[Z6 (ZW ⟨p,0,ZX⟩),Z7 Z9 d,Z7 Z9 b,Z7 Z9 k] w λe w'=>e=Z3 (ZZ #[])/\pP w' p (A.turn d b) F (M++[(d,b)])/\aa F.S w w':=by
 obtain ⟨⟨R,h,c⟩,g⟩:=N;rw [<- c.n] at f;rw [<- c.nb] at O;obtain ⟨c0,c1⟩:=h.RQ;obtain ⟨V,d1,W,J⟩:=h.R3 d f;have G:=iN h ec;have X:¬ (d:Int)<0:=ec
 have Y:¬ (R.n:Int)<=(d:Int):=ec
 have Z:¬ (b:Int)<0:=ec
 have e5:(d:Int)<(R.n:Int):=ec
 have e6:(b:Int)<(R.nb:Int):=ec
 have e7:(0:Int)<=(d:Int):=ec
 have e8:(0:Int)<=(b:Int):=ec
 have hh:(k:Int).tmod 512=(k:Nat):=by rw [abA ec];omega
 obtain ⟨j,Q⟩:=nM (k/8);obtain ⟨t,U⟩:=nM (k%8);have hf:(k:Int).tdiv 8=(j:Nat):=by rw [XN ec];omega
 have hg:(k:Int).tmod 8=(t:Nat):=by rw [abA ec];omega
 have E:j<64:=ec
 have P:t<8:=ec
 have cb:=(h.blk d f).cell (i:=b*64+j) ec;have fb:=(h.blk d f).frozen (b*64+j);have I:NU (R.blk d) (b*64+j)=Z7 .u8 (((R.blk d b).getD j 0:Nat):Int):=by
  unfold NU;rw [(ec:(b*64+j)/64=b),(ec:(b*64+j)%64=j)]
 rw [I] at cb;have B:(R.blk d b).getD j 0<256:=by
  have hl:=h.len d b;rw [Ub,Uc ec];exact hl.2 _ (T6 _)
 obtain ⟨y,r⟩:=nM ((R.blk d b).getD j 0);rw [r] at cb B;have v:2^t<256:=VE (n:=8) ee P;have a:y^^^2^t<256:=V9 (n:=8) B v;have l:y^^^2^t≠y:=λe=>by
  have K:y^^^(y^^^2^t)=y^^^y:=Wb
  rw [<- U3,UU,VU] at K;have:=VO t;omega
 obtain ⟨z,C⟩:=nM (y^^^2^t);have s:bits .xor .u8 (y:Int) ((2:Int)^t%256)=(z:Nat):=by
  have T:(2:Int)^t=((2^t:Nat):Int):=by rw [Xu];rfl
  have L:∀ u:Nat,u<256->(u:Int)%256=(u:Int):=λu hu=>ec
  rw [T,L _ v,u8_xor_nat y (2^t) B v,C]
 rw [C] at a l;have H:=hide9 h G c g r x a l s;clear h G c g r x I C Q U a l v J s;go_enter func25,ntmps25;go_wp2_with fail;refine H.o.2.1.mono ?_;rintro e w' ⟨rfl,rfl⟩;go_wp2;go_region;all_goals (
  go_end0
  obtain ⟨h,_,c,g,r,x,a,l,s⟩:=H.o;rw [s];refine ⟨rfl,⟨⟨_,(h.setByte f E a).keep λ_ _=>rfl,c.turn h.len E a (by rw [r];exact l) (VT.2 λe=>x (g d b e))⟩,λi m e=>?_⟩,(aa.setCell _ _ _ (h.sb f)).trans (aa.drew _)⟩;have D:(if i=d/\m=b then ZV else A.tn i m)=ZV:=e;by_cases q:i=d/\m=b
  . rw [q.1,q.2];simp
  . rw [TS q] at D;exact UG _ (g i m D))
