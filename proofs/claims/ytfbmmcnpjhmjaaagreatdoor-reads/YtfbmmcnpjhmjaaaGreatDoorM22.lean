import Derived.Test.YtfbmmcnpjhmjaaaGreatDoorM17
import Derived.Deep.CutRange
set_option maxRecDepth 100000
set_option maxHeartbeats 8000000
open Go.IntKind renaming i64 -> Z9, u64 -> Z8
open Go.Value renaming int -> Z7, pointer -> Z6, slice -> Z5, bool -> Z2, tuple -> Z0
open Go.Obj renaming cells -> Z4
open Go.Ending renaming returned -> Z3
open Go.Operand renaming tmp -> Z1
open Go renaming undef -> ZZ, World -> ZU, Value -> ZT, Calls -> ZR, Boxed -> ZQ
open Option renaming none -> ZY, some -> ZX
open Bool renaming true -> ZW, false -> ZV
open Go.RowKit renaming Below -> ZS
open Array renaming getElem?_eq_some_iff -> Tm, replicate_succ -> Tv, replicate_zero -> Tw
open Nat renaming le_trans -> Tn
open List renaming nil_append -> To, cons_append -> Tp, size_toArray -> Tq, mem_map -> Tr, foldl_append -> Ts, length_cons -> Tt, length_nil -> Tu, push_toArray -> Tx, append_toArray -> Ty, setIfInBounds_toArray -> Tz, set_cons_succ -> TA, set_cons_zero -> TB
open Go.Proofs.Tryz renaming prog -> ZP
namespace Go.Proofs.YtfbmmcnpjhmjaaaGreatDoor
open Go.RowKit Go.Deep
variable {A:aB} {F:bx} {n:Int} {vs:List ZT} {q d b p v D L G ps ho B S i:Nat} {u:ZT} {X:ZT->Prop} {w:ZU}
def sQ (q:Nat):ZT:=.iface 270 (Z6 (ZX ⟨q,0,ZY⟩))
def iG (w:ZU) (q d b:Nat) (n:Int):Prop:=w.heap[q]?=ZX (Z4 #[Z7 Z9 d,Z7 Z9 b,Z7 Z9 n] 272 (0,0))
theorem iG.lt (h:iG w q d b n):q<w.heap.size:=(Tm.1 h).1
theorem iG.cell (h:iG w q d b n):w.cell? ⟨q,2,ZY⟩=ZX (Z7 Z9 n):=by
 have a:w.heap[q]?=_:=h;simp [World.cell?,a]
theorem iG.new (w:ZU) (d b:Nat) (n:Int):iG (w.alloc (Z4 #[Z7 Z9 d,Z7 Z9 b,Z7 Z9 n] 272)) w.heap.size d b n:=blk_alloc_new w _
theorem iG.below {w':ZU} (h:iG w q d b n) (a:ZS w.heap.size w w'):iG w' q d b n:=(a.block _ h.lt).trans h
theorem vR (h:aq w p A F) (g:A.fit) (d b:Nat) (f:d<A.n) (r:A.wait≠0) (i:A.lost d=ZW) :
 ZR ZP 174 #[Z6 (ZX ⟨p,0,ZY⟩),Z7 Z9 d,Z7 Z9 b] w λe w'=>e=Z3 (Z0 #[.pointer ZY,sQ w.heap.size])/\w'=w.alloc (Z4 #[Z7 Z9 d,Z7 Z9 b,Z7 Z9 11] 272):=by
 obtain ⟨j,c1,_,_⟩:=h.p_cells;obtain ⟨a,d1,k,l⟩:=h.drvs d f;rw [i] at a;have q:=g.n;have m:¬ (d:Int)<0:=by omega
 have o:¬ (A.n:Int)<=(d:Int):=by omega
 have c:(d:Int)<(A.n:Int):=by omega
 go_enter Tryz.func174,Tryz.ntmps174;go_wp2;go_ret2;exact ⟨rfl,rfl⟩
def JR (w:ZU) (d b:Nat) (mk:ZT->ZT) (e:Ending) (w':ZU):Prop:=∃ q,e=Z3 (mk (sQ q))/\w.heap.size<=q/\iG w' q d b 11/\ZS w.heap.size w w'
def JS (w:ZU) (d b:Nat) (mk:ZT->ZT) (e:Ending) (w':ZU):Prop:=e=Z3 (mk (sQ (w.heap.size+1)))/\iG w' (w.heap.size+1) d b 11/\ZS w.heap.size w w'
theorem F6 (h:aq w p A F) (E:A.fit) (d b:Nat) (D:d<A.n) (H:A.wait≠0) (s:A.lost d=ZW) :
 ZR ZP 159 #[Z6 (ZX ⟨p,0,ZY⟩),Z7 Z9 d,Z7 Z9 b] w (JS w d b (λx=>Z0 #[.agg (an zb),x])):=by
 have L:=zeroBlk;have m:=h.alloc (Z4 (an zb) 255);have a:=bG.new w zb;have g:ZS w.heap.size w (w.alloc (Z4 (an zb) 255)):=bA w _;obtain ⟨w1,o⟩:=nM (w.alloc (Z4 (an zb) 255));have J:w1.heap.size=w.heap.size+1:=by rw [<- o];simp
 rw [o] at m a g;have I:(an zb).size=64:=by rw [bz,bD]
 have y:=vR m E d b D H s;have i:=hide2 a g;clear h m a g;go_enter Tryz.func159,Tryz.ntmps159;go_wp2_with fail;refine y.mono ?_;rintro e w2 ⟨rfl,r⟩;obtain ⟨a,g⟩:=i.out;have f:iG w2 w1.heap.size d b 11:=by rw [r];exact iG.new _ _ _ _
 have c:ZS w1.heap.size w1 w2:=by rw [r];exact bA w1 _
 have k:bG w2 w.heap.size zb:=a.keep (c.block _ a.lt);obtain ⟨q,l⟩:=nM (w1.heap.size);rw [l] at f ⊢;unfold sQ;have t:=hide4 f c k l;clear a g f c k l r y o;go_wp2_with (refine fZ rfl (Z1 6) (Z1 19) rfl w.heap.size zb zb rfl rfl t.out.2.2.1 bD bD ?_);obtain ⟨f,c,k,l⟩:=t.out;have B:=k.setRow zb;have C:=pQ B bD;refine bodyPost_ret (v:=Z0 #[.agg (an zb),.iface 270 (Z6 (ZX ⟨q,0,ZY⟩))]) (iO Tryz.results159 _ _ _ _ _ rfl rfl C) rfl ?_;have G:=i.out.2.size;have K:w.heap.size<w1.heap.size:=i.out.1.lt;have u:∀ j,j≠w.heap.size->j<w2.heap.size->(w2.setRow w.heap.size (an zb)).heap[j]?=w2.heap[j]?:=λj z s=>(aI w2 w.heap.size (an zb)).block j s (λe=>by cases e;exact z rfl);obtain rfl:q=w.heap.size+1:=by omega
 refine ⟨rfl,(u _ (by omega) f.lt).trans f,?_⟩;exact (i.out.2.trans (c.mono G)).trans ⟨rfl,rfl,rfl,by simp [World.setRow],λj z=>u j (by omega) (by have:=c.size;omega)⟩
theorem Dm (h:aq w p A F) (u:A.fit) (d b:Nat) (t:d<A.n) (y:A.wait≠0) (v:A.lost d=ZW) (l:List Nat) (s:l.length=64) :
 ZR ZP 155 #[Z6 (ZX ⟨p,0,ZY⟩),Z7 Z9 d,Z7 Z9 b,.agg (an l)] w (JR w d b (λx=>x)):=by
 have i:=h.alloc (Z4 (an l) 255);have j:ZS w.heap.size w (w.alloc (Z4 (an l) 255)):=bA w _;obtain ⟨w1,m⟩:=nM (w.alloc (Z4 (an l) 255));rw [m] at i j;have z:(an l).size=64:=by rw [bz,s]
 have o:=vR i u d b t y v;have g:=hide j;clear h i j;go_enter Tryz.func155,Tryz.ntmps155;go_wp2_with fail;refine o.mono ?_;rintro e w2 ⟨rfl,k⟩;have a:iG w2 w1.heap.size d b 11:=by rw [k];exact iG.new _ _ _ _
 have c:ZS w1.heap.size w1 w2:=by rw [k];exact bA w1 _
 obtain ⟨q,f⟩:=nM (w1.heap.size);rw [f] at a ⊢;unfold sQ;have r:=hide3 a c f;clear a c f k o m;go_wp2;go_ret;obtain ⟨a,c,f⟩:=r.out;exact ⟨q,rfl,by have:=g.out.size;omega,a,g.out.trans (c.mono g.out.size)⟩
theorem F7 (q:Nat) (m:Int) (w:ZU):(binOp .eql 63 (sQ q) (.iface 66 (Z7 Z9 m))).run ZP w=.ok (Z2 ZV) w:=by
 have a:∀ d,(Op.equalIn (d+1) 63 (.iface 270 (Z6 (ZX ⟨q,0,ZY⟩))) (.iface 66 (Z7 Z9 m))).run ZP w=.ok ZV w:=λd=>by
  rw [Op.equalIn];simp [Sem.run_bind,run_underlying Tryz.underlying63,Result.andThen_ok]
 have b:=a 9999;unfold sQ;simp only [binOp];simp [Op.equal,Op.maxDepth,b]
theorem Do (h:iG w q d b n):ZR ZP 254 #[Z6 (ZX ⟨q,0,ZY⟩)] w λe w'=>e=Z3 (.iface 66 (Z7 Z9 n))/\w'=w:=by
 have c:=h.cell;go_enter Tryz.func254,Tryz.ntmps254;go_wp2;go_ret;exact ⟨rfl,rfl⟩
theorem F8 (h:iG w q d b n) (m:Int):ZR ZP 107 #[sQ q,.iface 66 (Z7 Z9 m),Z2 ZW] w λe w'=>e=Z3 (Z2 (n==m))/\w'=w:=by
 have f:=F7 q m;have a:=vF n m;have b1:∀ w:ZU,(Instr.typeAssert (sQ q) 63 239 ZW).run ZP w=.ok (Z0 #[.nilIface,Z2 ZV]) w:=λw=>run_typeAssert_lacksB Tryz.underlying239 (by kernel_rfl) (by kernel_rfl) _ _ w;have b2:∀ w:ZU,(Instr.typeAssert (sQ q) 63 156 ZW).run ZP w=.ok (Z0 #[sQ q,Z2 ZW]) w:=λw=>run_typeAssert_hasB Tryz.underlying156 (by kernel_rfl) _ _ w;have g:∀ w:ZU,(Instr.typeAssert (.iface 66 (Z7 Z9 n)) 63 239 ZW).run ZP w=.ok (Z0 #[.nilIface,Z2 ZV]) w:=λw=>run_typeAssert_lacksB Tryz.underlying239 (by kernel_rfl) (by kernel_rfl) _ _ w;have i:∀ w:ZU,(Instr.typeAssert (.iface 66 (Z7 Z9 n)) 63 156 ZW).run ZP w=.ok (Z0 #[.nilIface,Z2 ZV]) w:=λw=>run_typeAssert_lacksB Tryz.underlying156 (by kernel_rfl) (by kernel_rfl) _ _ w;have j:∀ w:ZU,(Instr.typeAssert (.iface 66 (Z7 Z9 n)) 63 157 ZW).run ZP w=.ok (Z0 #[.nilIface,Z2 ZV]) w:=λw=>run_typeAssert_lacksB Tryz.underlying157 (by kernel_rfl) (by kernel_rfl) _ _ w;have k:∀ w:ZU,(Go.method 461 270 (Z6 (ZX ⟨q,0,ZY⟩)) "Unwrap").run ZP w=.ok (254,Z6 (ZX ⟨q,0,ZY⟩)) w:=λw=>by kernel_rfl
 have c:=Do h;unfold sQ at f b1 b2 ⊢;clear h;cases h2:(n==m)
 . rw [h2] at a;go_enter Tryz.func107,Tryz.ntmps107;go_wp2;refine wp_loop_rounds 2 ?_;rw [rounds_succ];go_wp2_with fail;refine c.mono ?_;rintro e w' ⟨rfl,rfl⟩;go_wp2;rw [rounds_succ];go_wp2;go_ret;exact ⟨rfl,rfl⟩
 . rw [h2] at a;go_enter Tryz.func107,Tryz.ntmps107;go_wp2;refine wp_loop_rounds 2 ?_;rw [rounds_succ];go_wp2_with fail;refine c.mono ?_;rintro e w' ⟨rfl,rfl⟩;go_wp2;rw [rounds_succ];go_wp2;go_ret;exact ⟨rfl,rfl⟩
theorem AF (h:iG w q d b n) (m:Int):ZR ZP 72 #[sQ q,.iface 66 (Z7 Z9 m)] w λe w'=>e=Z3 (Z2 (n==m))/\w'=w:=by
 have g:=Tryz.typeOfE (Z7 Z9 m);have c := @run_callFunc_extern ZP 78 _ Extern.ReflectliteType.typeOf Tryz.func78 (by kernel_rfl) (by kernel_rfl) (by kernel_rfl) (by kernel_rfl);have i:∀ (h:ZT) (w:ZU),(Go.method 461 148 (.agg #[h]) "Comparable").run ZP w=.ok (241,.agg #[h]) w:=λh w=>by kernel_rfl
 have f:∀ w:ZU,(callFunc 241 #[.agg #[Z6 (ZX ⟨3,66,ZY⟩)]]).run ZP w=.ok (.value (Z2 ZW)) w:=λw=>by kernel_rfl
 have a:=F8 h m;unfold sQ at a ⊢;clear h;generalize (n==m)=nm at a ⊢;go_enter Tryz.func72,Tryz.ntmps72;go_wp2_with fail;refine a.mono ?_;rintro e w' ⟨rfl,rfl⟩;go_wp2;go_ret;exact ⟨rfl,rfl⟩
theorem sR (h:iG w q d b n) (c:n≠13):ZR ZP 157 #[sQ q] w λe w'=>e=Z3 (Z0 #[])/\w'=w:=by
 have a:=AF h 13;rw [show (n==13)=ZV from by simpa using c] at a;unfold sQ at a ⊢;clear h;go_enter Tryz.func157,Tryz.ntmps157;go_wp2_with fail;refine a.mono ?_;rintro e w' ⟨rfl,rfl⟩;go_wp2;first|go_end0|skip
 exact ⟨rfl,rfl⟩
theorem yz (B:bq w v p D L G ps ho) (h:aq w p A F) (K:A.fit) (d b:Nat) (J:d<A.n) (N:A.wait≠0) (u:A.lost d=ZW) :
 ZR ZP 137 #[Z6 (ZX ⟨v,0,ZY⟩),Z7 Z9 d,Z7 Z9 b] w (JS w d b (λx=>Z0 #[.nilIface,x])):=by
 obtain ⟨I,_⟩:=B.cells;have Q:=zeroBlk;have O:(an zb).size=64:=by rw [bz,bD]
 have C:=F6 h K d b J N u;clear B h;go_enter Tryz.func137,Tryz.ntmps137;go_wp2_with fail;refine C.mono ?_;rintro e w1 ⟨rfl,o,l⟩;obtain ⟨q,f⟩:=nM (w.heap.size+1);have i:w.heap.size<=q:=by omega
 rw [f] at o ⊢;have M:=hide f;clear f;have m:=bG.new w1 zb;have a:iG (w1.alloc (Z4 (an zb) 255)) q d b 11:=o.below (bA w1 _);have c:ZS w.heap.size w (w1.alloc (Z4 (an zb) 255)):=l.alloc l.size _;have g:q≠w1.heap.size:=by have:=o.lt;omega
 have P:=l.size;unfold sQ;have y:=hide5 m a c g i;clear C o l m a c g i I;go_wp2_with (refine fZ rfl (Z1 8) (Z1 20) rfl w1.heap.size zb zb rfl rfl y.out.1 bD bD ?_);obtain ⟨m,a,c,g,i⟩:=y.out;have r:∀ j,j≠w1.heap.size->j<(w1.alloc (Z4 (an zb) 255)).heap.size->((w1.alloc (Z4 (an zb) 255)).setRow w1.heap.size (an zb)).heap[j]?=(w1.alloc (Z4 (an zb) 255)).heap[j]?:=λj H u=>(aI _ w1.heap.size (an zb)).block j u (λe=>by cases e;exact H rfl);have k:iG ((w1.alloc (Z4 (an zb) 255)).setRow w1.heap.size (an zb)) q d b 11:=(r q g a.lt).trans a;have s:ZS w.heap.size w ((w1.alloc (Z4 (an zb) 255)).setRow w1.heap.size (an zb)):=c.trans ⟨rfl,rfl,rfl,by simp [World.setRow],λj H=>r j (by omega) (by simp;omega)⟩;obtain ⟨R,E⟩:=nM ((w1.alloc (Z4 (an zb) 255)).setRow w1.heap.size (an zb));rw [E] at k s ⊢;have t:=sR k (by decide);unfold sQ at t;have z:=hide3 k s i;clear m a c g i r k s E;refine t.mono ?_;rintro e S ⟨rfl,rfl⟩;clear t;go_wp2;go_ret2;have f:=M.out;subst f;exact ⟨rfl,z.out.1,z.out.2.1⟩
theorem AG (h:bq w v p D L G ps ho) (d b:Nat) (r:aW) (q:iS r) (i:bj w) (R:ZT->ZU->Prop)
 (g:∀ w1,ZS w.heap.size w w1->ZR ZP 155 #[Z6 (ZX ⟨p,0,ZY⟩),Z7 Z9 d,Z7 Z9 b,.agg (an r.blk)] w1 λe w2=>∃ x,e=Z3 x/\R x w2)
 (n:∀ x w2,R x w2->ZR ZP 157 #[x] w2 λe w'=>e=Z3 (Z0 #[])/\w'=w2) :
 ZR ZP 130 #[Z6 (ZX ⟨v,0,ZY⟩),Z7 Z9 d,Z7 Z9 b,bp r] w λe w'=>∃ x,e=Z3 x/\R x w':=by
 obtain ⟨j,_⟩:=h.cells;obtain ⟨rv,m⟩:=nM (bp r);have c:=q w.drew (i.below ((Below.refl _ w).drew) i.lt);simp only [m] at c ⊢;obtain ⟨z,l⟩:=nM (an r.blk);simp only [l] at c g;have k:∀ w',ZS w.heap.size w w'->w'.cell? ⟨v,0,ZY⟩=ZX (Z6 (ZX ⟨p,0,ZY⟩)):=λw' t=>(t.cell (p:=⟨v,0,ZY⟩) h.lt).trans j;have H:=hide3 g n k;clear g n h m l q i k;go_enter Tryz.func130,Tryz.ntmps130;go_upto_region 1 with fail;go_cut [9] from 10 to 21 (λu y=>R u y)
 case first=>
  go_region_with (first
   | (go_at_call 156;refine c.mono ?_;rintro e w1 ⟨rfl,f⟩;have c1:=H.out.2.2 w1 (((Below.refl _ w).drew).trans f);have s:=hide (((Below.refl _ w).drew).trans f);clear f)
   | (go_at_call 155;refine (H.out.1 w1 s.out).mono ?_;rintro e w2 ⟨x,rfl,o⟩;have a:=hide o;clear o))
  all_goals (go_wp2_with fail;go_meet;case rel=>exact a.out)
 case rest=>
  have a:=hide hcut;clear hcut c j;go_wp2_with fail;refine (H.out.2.1 _ _ a.out).mono ?_;rintro e w' ⟨rfl,rfl⟩;go_wp2;go_ret;exact ⟨_,rfl,a.out⟩
theorem mN (k:bq w v p D L G ps ho) (h:aq w p A F) (m:A.fit) (d b:Nat) (l:d<A.n) (z:A.wait≠0) (o:A.lost d=ZW) (r:aW) (u:r.ok) (s:iS r) (y:bj w) :
 ZR ZP 130 #[Z6 (ZX ⟨v,0,ZY⟩),Z7 Z9 d,Z7 Z9 b,bp r] w (JR w d b (λx=>x)):=by
 refine (AG k d b r s y (λx w2=>∃ q,x=sQ q/\w.heap.size<=q/\iG w2 q d b 11/\ZS w.heap.size w w2) (λw1 a=>(Dm (h.below a lR) m d b l z o r.blk (ez u)).mono ?_) ?_).mono ?_
 . rintro e w2 ⟨q,rfl,t,c,j⟩;exact ⟨_,rfl,q,rfl,Tn a.size t,c,a.trans (j.mono a.size)⟩
 . rintro x w2 ⟨q,rfl,_,c,_⟩;exact sR c (by decide)
 . rintro e w2 ⟨x,rfl,q,rfl,f,g,i⟩;exact ⟨q,rfl,f,g,i⟩
section
open Go.Shelf Gf
attribute [local go_sem] Oper.semAt_some
def bS (A:aB) (ds:List Nat):Nat:=ds.foldl (λs d=>if A.lost d=ZW then s|||2^d else s) 0
theorem ku (A:aB) (ds:List Nat) (d:Nat) (h:A.lost d=ZV):bS A (ds++[d])=bS A ds:=by unfold bS;rw [Ts];simp [h]
theorem jP (A:aB) (ds:List Nat) (d:Nat) (h:A.lost d=ZW):bS A (ds++[d])=bS A ds|||2^d:=by unfold bS;rw [Ts];simp [h]
theorem oE (A:aB) (ds:List Nat) (h:∀ d∈ds,d<16):bS A ds<65536:=by
 unfold bS;suffices ∀ (l:List Nat) (s:Nat),(∀ d∈l,d<16)->s<65536->l.foldl (λs d=>if A.lost d=ZW then s|||2^d else s) s<65536 from this ds 0 h (by decide)
 intro l;induction l with
 | nil=>intro s _ a;exact a
 | cons d l ih=>
  intro s b a;refine ih _ (λx c=>b x (by simp [c])) ?_;show (if A.lost d=ZW then s|||2^d else s)<65536;split
  . exact Nat.or_lt_two_pow (n:=16) a (Nat.pow_lt_pow_right (by decide) (b d (by simp)))
  . exact a
theorem pC {ds:List Nat} (h:∀ d∈ds,A.lost d=ZV):bS A ds=0:=by
 unfold bS;suffices ∀ (l:List Nat),(∀ d∈l,A.lost d=ZV)->l.foldl (λs d=>if A.lost d=ZW then s|||2^d else s) 0=0 from this ds h
 intro l;induction l with
 | nil=>intro _;rfl
 | cons d l ih=>
  intro a;rw [List.foldl_cons,a d (by simp)];exact ih (λx b=>a x (by simp [b]))
structure PD (w:ZU) (v p b:Nat) (r:aW) (A:aB) (F:bx) (B S:Nat) (pre:List (Mb S)) (X:ZU):Prop where
 b0:ZQ X w.heap.size 115 (Z6 (ZX ⟨v,0,ZY⟩))
 b1:ZQ X (w.heap.size+1) 3 (Z7 Z9 b)
 b2:ZQ X (w.heap.size+1+1) 219 (bp r)
 b3:ZQ X (w.heap.size+1+1+1) 124 (Z7 Z8 (bS A (cw pre):Nat))
 arr:aq X p (A.putAt (cw pre) b (λ_=>r.blk)) F
 out:aa (F.has p A.n) w X
 size:B<=X.heap.size
theorem PD.own {r:aW} (u:w.heap.size+4<=B) (s:∀ k,F.has p A.n k->k<w.heap.size):OwnFrom B (PD w v p b r A F B S):=by
 rintro pre X Y row ⟨d,f,g,h,i,j,l⟩ c t;have a:∀ k,k<w.heap.size+4->Y.heap[k]?=X.heap[k]?:=λk a=>c.block k (by omega) (λe=>by have:=(t k e.symm).1;omega);exact ⟨(a _ (by omega)).trans d,(a _ (by omega)).trans f,(a _ (by omega)).trans g,(a _ (by omega)).trans h,i.keep λk m=>a k (by have:=s k m;omega),j.later (T:=λk=>w.heap.size<=k) ⟨c.os,c.tape,c.output,c.size,λk o q=>a k (by omega)⟩ (λk o q=>by omega),Tn l c.size⟩
theorem kV (m:m6 w v p D L G ps ho A F) (O:jI F p A.n v) (hf:A.fit) (b S:Nat) (hb:b<A.nb) (hS:S<65536) (k7:∀ i,i∈ae S->i<A.n) (hw:A.wait<0)
 (r:aW) (Y:r.ok) (hm:iS r) :
 ZR ZP 122 #[Z6 (ZX ⟨v,0,ZY⟩),Z7 Z9 b,bp r,Z7 Z8 S] w λe w'=>e=Z3 (Z7 Z8 (bS A (ae S):Nat))/\aq w' p (A.putAt (ae S) b (λ_=>r.blk)) F/\aa (F.has p A.n) w w':=by
 obtain ⟨n,HN⟩:∃ n:Nat,Hid (9<=n):=⟨9,Nat.le_refl _⟩;obtain ⟨rv,hv⟩:=nM (bp r);have ky:∃ M K,rv=.iface M K:=by cases r<;>exact ⟨_,_,hv.symm⟩
 obtain ⟨M,K,rfl⟩:=ky;rw [hv];have N:=hide hv;clear hv;have W:∀ k,F.has p A.n k->k<w.heap.size:=λk l=>m.arr.has_lt l;have ko:=ez Y;have kp:=jg Y;refine (callsIn_wide (n:=n)).1 ?_;refine callsIn_of_wp_marks Tryz.func122 rfl trivial ?_ rfl;simp only [Tryz.ntmps122,Tq,Tt,Tu,Nat.reduceAdd,Nat.reduceSub,Tv,Tw,Tx,Ty,To,Tp];gi_wp2;obtain ⟨c,B⟩:=nM ((((w.alloc (Z4 #[Z6 (ZX ⟨v,0,ZY⟩)] 115)).alloc (Z4 #[Z7 Z9 (b:Int)] 3)).alloc (Z4 #[.iface M K] 219)).alloc (Z4 #[Z7 Z8 0] 124));have h0:ZQ c w.heap.size 115 (Z6 (ZX ⟨v,0,ZY⟩)):=by rw [<- B];exact (((Boxed.new w _ _).alloc _).alloc _).alloc _
 have h1:ZQ c (w.heap.size+1) 3 (Z7 Z9 b):=by
  rw [<- B];have:=Boxed.new (w.alloc (Z4 #[Z6 (ZX ⟨v,0,ZY⟩)] 115)) 3 (Z7 Z9 b);rw [World.size_alloc] at this;exact (this.alloc _).alloc _
 have h2:ZQ c (w.heap.size+1+1) 219 (bp r):=by
  rw [<- B,N.out];have:=Boxed.new ((w.alloc (Z4 #[Z6 (ZX ⟨v,0,ZY⟩)] 115)).alloc (Z4 #[Z7 Z9 (b:Int)] 3)) 219 (.iface M K);rw [World.size_alloc,World.size_alloc] at this;exact this.alloc _
 have h3:ZQ c (w.heap.size+1+1+1) 124 (Z7 Z8 0):=by
  rw [<- B];have:=Boxed.new (((w.alloc (Z4 #[Z6 (ZX ⟨v,0,ZY⟩)] 115)).alloc (Z4 #[Z7 Z9 (b:Int)] 3)).alloc (Z4 #[.iface M K] 219)) 124 (Z7 Z8 0);rw [World.size_alloc,World.size_alloc,World.size_alloc] at this;exact this
 have k5:c.heap.size=w.heap.size+4:=by rw [<- B];simp
 have k8:ZS w.heap.size w c:=by rw [<- B];exact (((bA w _).alloc (by simp) _).alloc (by simp;omega) _).alloc (by simp;omega) _
 rw [B];clear B;refine cV (dy S c) ?_;rintro e w' ⟨rfl,rfl⟩;have kg:(c.alloc (Z4 #[Z7 Z8 (S:Int)] 124)).heap.size=c.heap.size+1:=by simp
 have k9:(c.alloc (Z4 #[Z7 Z8 (S:Int)] 124)).cell? ⟨c.heap.size,0,ZY⟩=ZX (Z7 Z8 (S:Int)):=(Boxed.new c 124 (Z7 Z8 (S:Int))).cell;have Z:ZS w.heap.size w (c.alloc (Z4 #[Z7 Z8 (S:Int)] 124)):=k8.alloc (by omega) _;have kb:PD w v p b r A F (c.heap.size+1) S [] (c.alloc (Z4 #[Z7 Z8 (S:Int)] 124)):=
  ⟨h0.alloc _,h1.alloc _,h2.alloc _,h3.alloc _,by rw [show cw ([]:List (Mb S))=[] from rfl,vD];exact m.arr.below Z lR,aa.of_all Z _,by omega⟩
 obtain ⟨w6,ke⟩:=nM (c.alloc (Z4 #[Z7 Z8 (S:Int)] 124));have k6:=hide k9;have U:=hide2 kb Z;have ki:=hide k5;clear k9 kb h0 h1 h2 h3 k8 Z k5;gi_wp2;obtain ⟨k5,q1⟩:w.heap.size+4<=c.heap.size/\c.heap.size<=w.heap.size+4:=by have:=ki.out;omega
 rw [ke] at kg k6 U;clear ke;rw [<- kg] at U;refine wpIn_rangeFunc_ownG rfl (by have:=HN.out;omega) (gf:=153) (lb:=#[Z6 (ZX ⟨c.heap.size,0,ZY⟩)]) rfl trivial (enters_of Tryz.func153 (by kernel_rfl) rfl)
  (m4 (n-1) c.heap.size S hS w6 (by omega) k6.out (by have:=m.room;omega) (m.tab.mono (by exact m.tab.lt) U.out.2)) (λh k=>pZ h k) (ql (by have:=m.room;omega)) (Below.refl _ _) (λ_=>rfl)
  (PD w v p b r A F w6.heap.size S) (λ_ _ _=>False) (PD.own (by omega) W) (λ_ _ _ _ _ h _ _=>h.elim) U.out.1
  (λx=>{ tmps:=#[Z6 (ZX ⟨v,0,ZY⟩),Z7 Z9 (b:Int),.iface M K,Z7 Z8 (S:Int),Z6 (ZX ⟨w.heap.size,0,ZY⟩),Z6 (ZX ⟨w.heap.size+1,0,ZY⟩),Z6 (ZX ⟨w.heap.size+1+1,0,ZY⟩),ZZ,Z6 (ZX ⟨w.heap.size+1+1+1,0,ZY⟩),Z7 Z9 (x.1:Int),Z7 Z8 (S:Int),.func (.func 153) #[] #[Z6 (ZX ⟨c.heap.size,0,ZY⟩)],Z7 Z9 (x.1:Int),ZZ,ZZ,ZZ,ZZ,ZZ,ZZ,ZZ,ZZ,ZZ,ZZ],defers:=[] }) ?assign ?body ?done ?stop
 case assign=>
  intro l2 x X Kk hK;unfold vC;gi_wp2;exact hK
 case body=>
  rintro l2 pre x X a hg;have kf:x.1∈ae S:=bM.2 x.2;have kz:=x.2.1;have z:=m.turn O a.out a.arr;have ka:(A.putAt (cw pre) b (λ_=>r.blk)).fit:=hf.putAt _ _ _ λ_ _=>⟨ko,kp⟩;have q5:=oE A (cw pre) (λd hd=>by obtain ⟨y,_,rfl⟩:=Tr.1 hd;exact y.2.1);cases j:A.lost x.1 with
  | false=>
   have E:=pR z.vol z.arr ka x.1 b (k7 _ kf) hb hw j r Y hm z.laid O.g O.v;rw [j4,N.out] at E;have c0:=a.b0.cell;have c1:=a.b1.cell;have Q:=a.b2.cell;rw [N.out] at Q;have C:=hide2 a j;clear a hg z j;gi_wp2;refine dG E ?_;clear E;rintro e w2 ⟨rfl,V,H⟩;have f:∀ k,w.heap.size<=k->k<X.heap.size->w2.heap[k]?=X.heap[k]?:=λk l hy=>H.block k hy (λq=>by have:=W k q;omega);have R:=C.out.1.b3.lt;have H2:=hide3 V H f;clear V H f;gi_wp2;obtain ⟨V,H,f⟩:=H2.out;obtain ⟨a,j⟩:=C.out;have P:aa (F.has p A.n) w w2:=a.out.trans H;refine ⟨⟨H.size,λk o l ho _=>(f k (by omega) (Tm.1 ho).1).trans ho⟩,λ_=>m.tab.keep (P.block _ m.tab.lt O.t),?_⟩;exact ⟨(f _ (by omega) (by omega)).trans a.b0,(f _ (by omega) (by omega)).trans a.b1,(f _ (by omega) (by omega)).trans a.b2,by rw [bF,ku _ _ _ j];exact (f _ (by omega) (by omega)).trans a.b3,by rw [bF];exact V,P,Tn a.size H.size⟩
  | true=>
   have E:=mN z.vol z.arr ka x.1 b (k7 _ kf) (by show A.wait≠0;omega) j r Y hm z.laid;rw [N.out] at E;have c0:=a.b0.cell;have c1:=a.b1.cell;have Q:=a.b2.cell;rw [N.out] at Q;have C:=hide2 a j;clear a hg z j;gi_wp2;refine dG E ?_;clear E;rintro e w2 ⟨q,rfl,hq,_,u⟩;obtain ⟨a,j⟩:=C.out;have J:ZQ w2 (w.heap.size+1+1+1) 124 (Z7 Z8 (bS A (cw pre):Nat)):=(u.block _ a.b3.lt).trans a.b3;have d0:=J.cell;have d1:=J.frozen;have hz:=iF (bS A (cw pre)) x.1 (by omega) (by omega) w2;rw [<- jP _ _ _ j] at hz;unfold sQ;have R:=a.b3.lt;have H2:=hide2 u J;clear u J a j c0 c1 Q;generalize bS A (cw pre)=ls at *;generalize kc:bS A (cw pre++[x.1])=I at *;have kh:=hide kc;clear kc;gi_wp2;refine dG hz ?_;rintro e w3 ⟨rfl,rfl⟩;clear hz;gi_wp2;obtain ⟨u,J⟩:=H2.out;obtain ⟨a,j⟩:=C.out;have q6:=u.size;have f:∀ k,k≠w.heap.size+1+1+1->k<X.heap.size->(w3.setCell ⟨w.heap.size+1+1+1,0,ZY⟩ (Z7 Z8 (I:Nat))).heap[k]?=X.heap[k]?:=λk l hy=>(blk_setCell_other _ _ _ _ l).trans (u.block k hy);have k0:X.heap.size<=(w3.setCell ⟨w.heap.size+1+1+1,0,ZY⟩ (Z7 Z8 (I:Nat))).heap.size:=(by simp [World.setCell];omega);have P:aa (F.has p A.n) w (w3.setCell ⟨w.heap.size+1+1+1,0,ZY⟩ (Z7 Z8 (I:Nat))):=a.out.later (T:=λk=>k=w.heap.size+1+1+1) ⟨u.os,u.tape,u.output,k0,λk l kv=>f k kv l⟩ (λk h1 h2=>by omega);have q2:=a.size;refine ⟨⟨k0,λk o l ho _=>(f k (by omega) (Tm.1 ho).1).trans ho⟩,λ_=>m.tab.keep (P.block _ m.tab.lt O.t),?_⟩;exact ⟨(f _ (by omega) (by omega)).trans a.b0,(f _ (by omega) (by omega)).trans a.b1,(f _ (by omega) (by omega)).trans a.b2,by rw [bF,kh.out];exact J.set _,by rw [bF,<- j4];exact (a.arr.keep λk l=>f k (by have:=W k l;omega) (a.arr.has_lt l)).lostPut j _ _,P,Tn a.size k0⟩
 case done=>
  rintro D' xs X kj q0 a hK;have c3:=a.b3.cell;have f3:=a.b3.frozen;have C:=hide2 a hK;clear a hK;gi_wp2;obtain ⟨a,hK⟩:=C.out;have hh:cw xs=ae S:=q0;have km:=a.b3.set (Z7 Z8 (bS A (cw xs):Nat));have ks:=KeepsOthers.setCell X ⟨w.heap.size+1+1+1,0,ZY⟩ (Z7 Z8 (bS A (cw xs):Nat));have kk:=ks.same D' _ hK rfl;have q3:=(Tm.1 hK).1;refine z8 (b:=w.heap.size+1+1+1) (t8:=8) Tryz.results122 rfl rfl (z9 (s:=bS A (cw xs)) km) kk (by omega) ⟨by rw [hh],?_,?_⟩
  . have R:=a.arr;rw [hh] at R;exact R.keep λk l=>by have:=W k l;exact (World.putObj_heap_other (by omega)).trans (blk_setCell_other _ _ _ _ (by show k≠w.heap.size+1+1+1;omega))
  . exact a.out.later (T:=λk=>w.heap.size<=k) ⟨rfl,rfl,rfl,by simp [World.setCell,World.putObj],λk _ kr=>(World.putObj_heap_other (by omega)).trans (blk_setCell_other _ _ _ _ (by show k≠w.heap.size+1+1+1;omega))⟩ (λk q4 kr=>by omega)
 case stop=>
  rintro D' cc pre X kj kx hx hK;exact hx.elim
theorem sS (h:m6 w v p D L G ps ho A F) (f:jI F p A.n v) (k:A.fit) (b S:Nat) (j:b<A.nb) (g:S<65536) (a:∀ i,i∈ae S->i<A.n) (q:A.wait<0) (l:∀ i,i∈ae S->A.lost i=ZV)
 (r:aW) (o:r.ok) (m:iS r) :
 ZR ZP 122 #[Z6 (ZX ⟨v,0,ZY⟩),Z7 Z9 b,bp r,Z7 Z8 S] w λe w'=>e=Z3 (Z7 Z8 0)/\aq w' p (A.putAt (ae S) b (λ_=>r.blk)) F/\aa (F.has p A.n) w w':=by
 refine (kV h f k b S j g a q r o m).mono ?_;rintro e w' ⟨rfl,c,d⟩;exact ⟨by rw [pC l];rfl,c,d⟩
end
section
open Go.Shelf Gf
attribute [local go_sem] Oper.semAt_some
def PE (v g m c bl off rc x b:Nat) (l:List Nat) (bv:Bool):List ZT:=[Z6 (ZX ⟨v,0,ZY⟩),Z7 Z9 x,Z7 Z9 b,Z5 (ZX ⟨g,0,ZY⟩) m c,Z7 Z9 x,Z6 (ZX ⟨g,x,ZY⟩),Z5 (ZX ⟨bl,off,ZY⟩) 44 rc,Z6 (ZX ⟨bl,off,ZY⟩),.agg (aH l).toArray,.agg (aH l).toArray,bp (.shard l),.nilIface,Z2 bv]
def yA (A A2:aB) (D:Nat->Bool):aB:=if D 11=ZW then A2 else A
def N9 (X:ZT->Prop) (vs:List ZT) (i:Nat) (u:ZT) (_:ZU):Prop:=if i=11 then X u else u=vs.getD i ZZ
theorem gD (h:i≠11) (q:N9 X vs i u w):u=vs.getD i ZZ:=by unfold N9 at q;rwa [if_neg h] at q
theorem gE (h:i≠11) (q:u=vs.getD i ZZ):N9 X vs i u w:=by unfold N9;rwa [if_neg h]
def Qw (w0:ZU) (p:Nat) (A A2:aB) (F:bx) (Dn:Nat->Bool) (w:ZU):Prop:=aq w p (yA A A2 Dn) F/\aa (F.has p A.n) w0 w
theorem eQ {w0:ZU} {A2:aB} {Dn:Nat->Bool} (h:Qw w0 p A A2 F Dn w) (i:Nat) (a:i≠11):Qw w0 p A A2 F (dN Dn i) w:=by
 refine ⟨?_,h.2⟩;have e:yA A A2 (dN Dn i)=yA A A2 Dn:=by unfold yA dN;rw [if_neg (λe:11=i=>a e.symm)]
 rw [e];exact h.1
theorem gI {l n:Nat} {ops:Array Oper} {Q:Exit->Act->ZU->Prop} {a:Act} (hc:Q2=ops) (hV:m6 w v p D L G ps ho A F) (hF:jI F p A.n v) (_:A.fit) (x b:Nat) {A2:aB} (X:ZT->Prop) (bv:Bool) (hX:∀ (o:Oper) (r:Act) (w':ZU),o.op=Op.binOp BinOp.neq 63 (Z1 24) (Operand.const Value.nilIface) 63->X (r.eval (Z1 24))->(execOp r.eval o).run ZP w'=.ok (.value (Z2 bv)) w')
 {q4 O S g m c:Nat} (h4:ZQ w q4 115 (Z6 (ZX ⟨v,0,ZY⟩))) (h5:ZQ w O 3 (Z7 Z9 b)) (h6:ZQ w S 95 (Z5 (ZX ⟨g,0,ZY⟩) m c)) {base:Nat} {R:List (List Nat)} (hR:K7 w base g R) (hv:x<R.length) (hm:R.length<=m)
 (M:∀ k,F.has p A.n k->k<base/\k≠q4/\k≠O/\k≠S) (kj:a.tmps.size=30) (W:∀ w',aq w' p A F->m6 w' v p D L G ps ho A F->ZR ZP 130 #[Z6 (ZX ⟨v,0,ZY⟩),Z7 Z9 x,Z7 Z9 b,bp (.shard (R.getD x []))] w' λe K=>∃ u,e=Z3 u/\X u/\aq K p A2 F/\aa (F.has p A.n) w' K)
 (e4:a.eval (Z1 4)=Z6 (ZX ⟨q4,0,ZY⟩)) (e5:a.eval (Z1 5)=Z6 (ZX ⟨O,0,ZY⟩)) (e6:a.eval (Z1 6)=Z6 (ZX ⟨S,0,ZY⟩)) (e9:a.eval (Z1 9)=Z7 Z9 x)
 (hQ:∀ (w':ZU) (vs:List ZT),vs.length=12->aq w' p A2 F->aa (F.has p A.n) w w'->Q .normal (Act.putFrom a 13 (vs++[Z2 bv])) w') :
 (Code.region 3 ops ZW).wpIn (Fence.wide.inRound l) n ZP Q a w:=by
 subst hc;obtain ⟨kc,ke,h8⟩:=hR;obtain ⟨bl,off,T,k8,k9,ka,hh,V,kb⟩:=h8 x hv;have k0:R.getD x []=R[x]:=by simp [hv]
 rw [k0] at W;obtain ⟨s,hs⟩:=nM (R[x]);rw [hs] at hh V kb W;have hj:∀ w',aa (F.has p A.n) w w'->∀ k,k<w.heap.size->¬ F.has p A.n k->w'.heap[k]?=w.heap[k]?:=λw' hO k C kh=>hO.block k C kh;have hp:∀ k,base<=k->¬ F.has p A.n k:=λk C q=>by have:=(M k q).1;omega
 have hq:(aH s).toArray.size=44:=by rw [Tq,bm,V]
 refine dK (by kernel_rfl) Fz a w (by omega) (N9 X (PE v g m c bl off T x b s bv)) (Qw w p A A2 F) ⟨hV.arr.keep λ_ _=>rfl,aa.drew w⟩ ?_ ?_
 . intro i Y;match i,Y with
   | 0,_=>
    intro o r w' E J ho y C H I B d t;have u0:r.eval (Z1 4)=Z6 (ZX ⟨q4,0,ZY⟩):=(C.slot 4 (by omega)).trans e4;have U:=(show ZQ w' q4 115 (Z6 (ZX ⟨v,0,ZY⟩)) from (d.2.block _ h4.lt (λq=>(M _ q).2.1 rfl)).trans h4).cell;exact aT (v:=Z6 (ZX ⟨v,0,ZY⟩)) (by simp only [execOp,show o.op=Op.load 115 (Z1 4) from ho,u0];go_simp) (by rw [ho];intro c h;cases h) y ⟨eQ d _ (by decide),gE (by decide) rfl,kq⟩
   | 1,_=>exact λo r w' E J ho y C H I B d t=>aT (ag ho ((C.slot 9 (by omega)).trans e9) w') (by rw [ho];intro c h;cases h) y ⟨eQ d _ (by decide),gE (by decide) rfl,kq⟩
   | 2,_=>
    intro o r w' E J ho y C H I B d t;have u0:r.eval (Z1 5)=Z6 (ZX ⟨O,0,ZY⟩):=(C.slot 5 (by omega)).trans e5;have U:=(show ZQ w' O 3 (Z7 Z9 b) from (d.2.block _ h5.lt (λq=>(M _ q).2.2.1 rfl)).trans h5).cell;exact aT (v:=Z7 Z9 b) (by simp only [execOp,show o.op=Op.load 3 (Z1 5) from ho,u0];go_simp) (by rw [ho];intro c h;cases h) y ⟨eQ d _ (by decide),gE (by decide) rfl,kq⟩
   | 3,_=>
    intro o r w' E J ho y C H I B d t;have u0:r.eval (Z1 6)=Z6 (ZX ⟨S,0,ZY⟩):=(C.slot 6 (by omega)).trans e6;have U:=(show ZQ w' S 95 (Z5 (ZX ⟨g,0,ZY⟩) m c) from (d.2.block _ h6.lt (λq=>(M _ q).2.2.2 rfl)).trans h6).cell;exact aT (v:=Z5 (ZX ⟨g,0,ZY⟩) m c) (by simp only [execOp,show o.op=Op.load 95 (Z1 6) from ho,u0];go_simp) (by rw [ho];intro c h;cases h) y ⟨eQ d _ (by decide),gE (by decide) rfl,kq⟩
   | 4,_=>exact λo r w' E J ho y C H I B d t=>aT (ag ho ((C.slot 9 (by omega)).trans e9) w') (by rw [ho];intro c h;cases h) y ⟨eQ d _ (by decide),gE (by decide) rfl,kq⟩
   | 5,_=>
    intro o r w' E J ho y C H I B d t;have u0:r.eval (Z1 16)=Z5 (ZX ⟨g,0,ZY⟩) m c:=gD (by decide) (t 3 (B 3 (by decide)));have u1:r.eval (Z1 17)=Z7 Z9 x:=gD (by decide) (t 4 (B 4 (by decide)));have kk:x<m:=(by omega);exact aT (v:=Z6 (ZX ⟨g,x,ZY⟩)) (by simp only [execOp,show o.op=Op.indexAddr 95 (Z1 16) (Z1 17) from ho,u0,u1];go_simp) (by rw [ho];intro c h;cases h) y ⟨eQ d _ (by decide),gE (by decide) rfl,kq⟩
   | 6,_=>
    intro o r w' E J ho y C H I B d t;have u0:r.eval (Z1 18)=Z6 (ZX ⟨g,x,ZY⟩):=gD (by decide) (t 5 (B 5 (by decide)));have U:w'.cell? ⟨g,x,ZY⟩=ZX (Z5 (ZX ⟨bl,off,ZY⟩) 44 T):=(World.cell?_of_block (d.2.block g ke (hp g kc))).trans k8;exact aT (v:=Z5 (ZX ⟨bl,off,ZY⟩) 44 T) (by simp only [execOp,show o.op=Op.load 34 (Z1 18) from ho,u0];go_simp) (by rw [ho];intro c h;cases h) y ⟨eQ d _ (by decide),gE (by decide) rfl,kq⟩
   | 7,_=>
    intro o r w' E J ho y C H I B d t;have u0:r.eval (Z1 19)=Z5 (ZX ⟨bl,off,ZY⟩) 44 T:=gD (by decide) (t 6 (B 6 (by decide)));have k6:(Instr.arrayAt 215 (Z5 (ZX ⟨bl,off,ZY⟩) 44 T)).run ZP w'=.ok (Z6 (ZX ⟨bl,off,ZY⟩)) w':=(by simp [Instr.arrayAt,run_underlying Tryz.underlying215]);exact aT (v:=Z6 (ZX ⟨bl,off,ZY⟩)) (by simp [execOp,show o.op=Op.sliceToArrayPointer 215 (Z1 19) from ho,u0,k6]) (by rw [ho];intro c h;cases h) y ⟨eQ d _ (by decide),gE (by decide) rfl,kq⟩
   | 8,_=>
    intro o r w' E J ho y C H I B d t;have u0:r.eval (Z1 20)=Z6 (ZX ⟨bl,off,ZY⟩):=gD (by decide) (t 7 (B 7 (by decide)));have hr:w'.rangeAt bl off (aH s):=λj u Z=>(World.cell?_of_block (d.2.block bl ka (hp bl k9))).trans (hh j u Z);have kg:=run_loadAt_mid (P:=ZP) w' bl off 215 (aH s) _ hr Tryz.underlying215 rfl (by rw [bm,V];kernel_rfl);exact aT (v:=.agg (aH s).toArray) (by simp [execOp,show o.op=Op.load 215 (Z1 20) from ho,u0,kg]) (by rw [ho];intro c h;cases h) y ⟨eQ d _ (by decide),gE (by decide) rfl,kq⟩
   | 9,_=>
    intro o r w' E J ho y C H I B d t;have u0:r.eval (Z1 21)=.agg (aH s).toArray:=gD (by decide) (t 8 (B 8 (by decide)));have k7:∀ z:Array ZT,z.size=44->Array.foldl (λcs x=>cs.setIfInBounds x.snd x.fst) z (aH s).toArray.zipIdx 0 44=(aH s).toArray:=λz hz=>uP z _ 44 hz hq;obtain ⟨sa,he⟩:=nM ((aH s).toArray);refine aT (v:=.agg (aH s).toArray) ?_ (by rw [ho];intro c h;cases h) y ⟨eQ d _ (by decide),gE (by decide) rfl,kq⟩;rw [he] at u0 k7 hq ⊢;simp only [execOp,show o.op=Op.build 217 #[(0,Z1 21)] from ho,List.map_toArray,List.map_cons,List.map_nil,u0];go_simp
   | 10,_=>
    intro o r w' E J ho y C H I B d t;have u0:r.eval (Z1 22)=.agg (aH s).toArray:=gD (by decide) (t 9 (B 9 (by decide)));exact aT (v:=bp (.shard s)) (by simp only [execOp,show o.op=Op.makeInterface 217 (Z1 22) from ho,u0,bp];go_simp) (by rw [ho];intro c h;cases h) y ⟨eQ d _ (by decide),gE (by decide) rfl,kq⟩
   | 11,_=>
    intro o r w' E ki ho y C H I B d t;have u0:r.eval (Z1 13)=Z6 (ZX ⟨v,0,ZY⟩):=gD (by decide) (t 0 (B 0 (by decide)));have u1:r.eval (Z1 14)=Z7 Z9 x:=gD (by decide) (t 1 (B 1 (by decide)));have u2:r.eval (Z1 15)=Z7 Z9 b:=gD (by decide) (t 2 (B 2 (by decide)));have u3:r.eval (Z1 23)=bp (.shard s):=gD (by decide) (t 10 (B 10 (by decide)));have N:aq w' p A F:=(by have:=d.1;unfold yA at this;rw [if_neg (by rw [H];decide)] at this;exact this);have k5:=hV.turn hF d.2 N;refine nZ (f:=130) (args:=#[Z6 (ZX ⟨v,0,ZY⟩),Z7 Z9 x,Z7 Z9 b,bp (.shard s)]) (w1:=w') (by simp only [execOp,show o.op=Op.call { callee:=Callee.value (Operand.func 130),args:=#[Z1 13,Z1 14,Z1 15,Z1 23],argTypes:=#[115,3,3,219] } from ho];go_simp;exact ⟨by simpa [Act.eval] using u0,by simpa [Act.eval] using u1,by simpa [Act.eval] using u2,by simpa [Act.eval] using u3⟩) (by rw [ho];intro c h;cases h) y (W w' N k5) ?_;rintro e K ⟨u,rfl,Z,hx,hy⟩;refine ⟨_,rfl,⟨?_,d.2.trans hy⟩,by unfold N9;rw [if_pos rfl];exact Z,kq⟩;have e:yA A A2 (dN E 11)=A2:=(by unfold yA dN;rw [if_pos (by rw [if_pos rfl])]);rw [e];exact hx
   | 12,_=>
    intro o r w' E J ho y C H I B d t;have u0:X (r.eval (Z1 24)):=(by have:=t 11 (B 11 (by decide));unfold N9 at this;rwa [if_pos rfl] at this);exact aT (hX o r w' ho u0) (by rw [ho];intro c h;cases h) y ⟨eQ d _ (by decide),gE (by decide) rfl,kq⟩
   | n+13,M=>exact absurd M (by show ¬ n+13<13;omega)
 . rintro r w' kf _ ⟨E,hD,d⟩ t;have e:yA A A2 E=A2:=(by unfold yA;rw [if_pos (hD 11 (by decide))]);have N:=d.1;rw [e] at N;have e:r=Act.putFrom a 13 (((List.range 12).map λi=>r.eval (.tmp (13+i)))++[Z2 bv]):=kf.out _ (by simp) (by omega) (λi Y=>by
    simp at Y;by_cases ha:i=12
    . subst ha;have:=gD (by decide) (t 12 (by decide));simpa [cM,bV,Pm,PE] using this
    . rw [List.getD_eq_getElem?_getD,List.getElem?_append_left (by simp;omega),List.getElem?_map,List.getElem?_range (by omega)];rfl)
   rw [e];exact hQ w' _ (by rw [List.length_map,List.length_range]) N d.2
structure PF (w:ZU) (v p b g m c:Nat) (R:List (List Nat)) (A:aB) (F:bx) (B S:Nat) (pre:List (Mb S)) (X:ZU):Prop where
 b0:ZQ X w.heap.size 115 (Z6 (ZX ⟨v,0,ZY⟩))
 b1:ZQ X (w.heap.size+1) 3 (Z7 Z9 b)
 b2:ZQ X (w.heap.size+1+1) 95 (Z5 (ZX ⟨g,0,ZY⟩) m c)
 b3:ZQ X (w.heap.size+1+1+1) 124 (Z7 Z8 (bS A (cw pre):Nat))
 arr:aq X p (A.putAt (cw pre) b (λi=>(aW.shard (R.getD i [])).blk)) F
 out:aa (F.has p A.n) w X
 size:B<=X.heap.size
theorem PF.own {g m c:Nat} {R:List (List Nat)} (z:w.heap.size+4<=B) (u:∀ k,F.has p A.n k->k<w.heap.size):OwnFrom B (PF w v p b g m c R A F B S):=by
 rintro pre X Y row ⟨f,h,i,j,l,o,q⟩ d y;have a:∀ k,k<w.heap.size+4->Y.heap[k]?=X.heap[k]?:=λk a=>d.block k (by omega) (λe=>by have:=(y k e.symm).1;omega);have x:aa (F.has p A.n) w Y:=o.later (T:=λk=>w.heap.size<=k) ⟨d.os,d.tape,d.output,d.size,λk s t=>a k (by omega)⟩ (λk s t=>by omega);exact ⟨(a _ (by omega)).trans f,(a _ (by omega)).trans h,(a _ (by omega)).trans i,(a _ (by omega)).trans j,l.keep λk r=>a k (by have:=u k r;omega),x,Tn q d.size⟩
theorem qN (C:m6 w v p D L G ps ho A F) (I:jI F p A.n v) (hf:A.fit) (b S:Nat) (hb:b<A.nb) (hS:S<65536) (ke:∀ i,i∈ae S->i<A.n) (hw:A.wait<0)
 {g m c base:Nat} {R:List (List Nat)} (hR:K7 w base g R) (k7:∀ i,i∈ae S->i<R.length) (hm:R.length<=m) (ha:∀ k,F.has p A.n k->k<base) :
 ZR ZP 88 #[Z6 (ZX ⟨v,0,ZY⟩),Z7 Z9 b,Z5 (ZX ⟨g,0,ZY⟩) m c,Z7 Z8 S] w λe w'=>e=Z3 (Z7 Z8 (bS A (ae S):Nat))/\aq w' p (A.putAt (ae S) b (λi=>(aW.shard (R.getD i [])).blk)) F/\aa (F.has p A.n) w w':=by
 obtain ⟨n,HN⟩:∃ n:Nat,Hid (9<=n):=⟨9,Nat.le_refl _⟩;have P:∀ k,F.has p A.n k->k<w.heap.size:=λk z=>C.arr.has_lt z;have N:∀ i,i∈ae S->(aW.shard (R.getD i [])).ok:=λi a=>by
  have kk:=k7 i a;obtain ⟨_,_,_,_,_,_,_,q1,q2⟩:=hR.2.2 i kk;have e:R.getD i []=R[i]:=by simp [kk]
  rw [e];exact ⟨q1,q2⟩
 refine (callsIn_wide (n:=n)).1 ?_;refine callsIn_of_wp_marks Tryz.func88 rfl trivial ?_ rfl;simp only [Tryz.ntmps88,Tq,Tt,Tu,Nat.reduceAdd,Nat.reduceSub,Tv,Tw,Tx,Ty,To,Tp];gi_wp2;obtain ⟨f,E⟩:=nM ((((w.alloc (Z4 #[Z6 (ZX ⟨v,0,ZY⟩)] 115)).alloc (Z4 #[Z7 Z9 (b:Int)] 3)).alloc (Z4 #[Z5 (ZX ⟨g,0,ZY⟩) m c] 95)).alloc (Z4 #[Z7 Z8 0] 124));have h0:ZQ f w.heap.size 115 (Z6 (ZX ⟨v,0,ZY⟩)):=by rw [<- E];exact (((Boxed.new w _ _).alloc _).alloc _).alloc _
 have h1:ZQ f (w.heap.size+1) 3 (Z7 Z9 b):=by
  rw [<- E];have:=Boxed.new (w.alloc (Z4 #[Z6 (ZX ⟨v,0,ZY⟩)] 115)) 3 (Z7 Z9 b);rw [World.size_alloc] at this;exact (this.alloc _).alloc _
 have h2:ZQ f (w.heap.size+1+1) 95 (Z5 (ZX ⟨g,0,ZY⟩) m c):=by
  rw [<- E];have:=Boxed.new ((w.alloc (Z4 #[Z6 (ZX ⟨v,0,ZY⟩)] 115)).alloc (Z4 #[Z7 Z9 (b:Int)] 3)) 95 (Z5 (ZX ⟨g,0,ZY⟩) m c);rw [World.size_alloc,World.size_alloc] at this;exact this.alloc _
 have h3:ZQ f (w.heap.size+1+1+1) 124 (Z7 Z8 0):=by
  rw [<- E];have:=Boxed.new (((w.alloc (Z4 #[Z6 (ZX ⟨v,0,ZY⟩)] 115)).alloc (Z4 #[Z7 Z9 (b:Int)] 3)).alloc (Z4 #[Z5 (ZX ⟨g,0,ZY⟩) m c] 95)) 124 (Z7 Z8 0);rw [World.size_alloc,World.size_alloc,World.size_alloc] at this;exact this
 have kb:f.heap.size=w.heap.size+4:=by rw [<- E];simp
 have kg:ZS w.heap.size w f:=by rw [<- E];exact (((bA w _).alloc (by simp) _).alloc (by simp;omega) _).alloc (by simp;omega) _
 rw [E];clear E;refine cV (dy S f) ?_;rintro e w' ⟨rfl,rfl⟩;have kr:(f.alloc (Z4 #[Z7 Z8 (S:Int)] 124)).heap.size=f.heap.size+1:=by simp
 have kh:(f.alloc (Z4 #[Z7 Z8 (S:Int)] 124)).cell? ⟨f.heap.size,0,ZY⟩=ZX (Z7 Z8 (S:Int)):=(Boxed.new f 124 (Z7 Z8 (S:Int))).cell;have k6:ZS w.heap.size w (f.alloc (Z4 #[Z7 Z8 (S:Int)] 124)):=kg.alloc (by omega) _;have kj:PF w v p b g m c R A F (f.heap.size+1) S [] (f.alloc (Z4 #[Z7 Z8 (S:Int)] 124)):=
  ⟨h0.alloc _,h1.alloc _,h2.alloc _,h3.alloc _,by rw [show cw ([]:List (Mb S))=[] from rfl,vD];exact C.arr.below k6 lR,aa.of_all k6 _,by omega⟩
 obtain ⟨w6,ko⟩:=nM (f.alloc (Z4 #[Z7 Z8 (S:Int)] 124));have kc:=hide kh;have hz:=hide2 kj k6;have kv:=hide kb;clear kh kj h0 h1 h2 h3 kg k6 kb;gi_wp2;obtain ⟨kb,qa⟩:w.heap.size+4<=f.heap.size/\f.heap.size<=w.heap.size+4:=by have:=kv.out;omega
 rw [ko] at kr kc hz;clear ko;rw [<- kr] at hz;refine wpIn_rangeFunc_ownG rfl (by have:=HN.out;omega) (gf:=153) (lb:=#[Z6 (ZX ⟨f.heap.size,0,ZY⟩)]) rfl trivial (enters_of Tryz.func153 (by kernel_rfl) rfl)
  (m4 (n-1) f.heap.size S hS w6 (by omega) kc.out (by have:=C.room;omega) (C.tab.mono (by exact C.tab.lt) hz.out.2)) (λh k=>pZ h k) (ql (by have:=C.room;omega)) (Below.refl _ _) (λ_=>rfl)
  (PF w v p b g m c R A F w6.heap.size S) (λ_ _ _=>False) (PF.own (by omega) P) (λ_ _ _ _ _ h _ _=>h.elim) hz.out.1
  (λx=>{ tmps:=#[Z6 (ZX ⟨v,0,ZY⟩),Z7 Z9 (b:Int),Z5 (ZX ⟨g,0,ZY⟩) m c,Z7 Z8 (S:Int),Z6 (ZX ⟨w.heap.size,0,ZY⟩),Z6 (ZX ⟨w.heap.size+1,0,ZY⟩),Z6 (ZX ⟨w.heap.size+1+1,0,ZY⟩),ZZ,Z6 (ZX ⟨w.heap.size+1+1+1,0,ZY⟩),Z7 Z9 (x.1:Int),Z7 Z8 (S:Int),.func (.func 153) #[] #[Z6 (ZX ⟨f.heap.size,0,ZY⟩)],Z7 Z9 (x.1:Int),ZZ,ZZ,ZZ,ZZ,ZZ,ZZ,ZZ,ZZ,ZZ,ZZ,ZZ,ZZ,ZZ,ZZ,ZZ,ZZ,ZZ],defers:=[] }) ?assign ?body ?done ?stop
 case assign=>
  intro l2 x X Kk hK;unfold vC;gi_wp2;exact hK
 case body=>
  rintro l2 pre x X a k9;have H:x.1∈ae S:=bM.2 x.2;have K:=C.turn I a.out a.arr;have J:K7 X base g R:=hR.keep a.out.size (λk z q4=>a.out.block k q4 (λq=>by have:=ha k q;omega));have h4:=a.b3.lt;have V:=hide3 a K J;clear k9 a K J;gi_wp2;obtain ⟨a,K,J⟩:=V.out;have q5:=oE A (cw pre) (λd hd=>by obtain ⟨y,_,rfl⟩:=Tr.1 hd;exact y.2.1);have q8:=x.2.1;have Q:(A.putAt (cw pre) b (λi=>(aW.shard (R.getD i [])).blk)).fit:=hf.putAt _ _ _ λi ki=>by
   unfold cw at ki;obtain ⟨y,_,rfl⟩:=Tr.1 ki;exact ⟨ez (N _ (bM.2 y.2)),jg (N _ (bM.2 y.2))⟩
  have k5:∀ k,F.has p A.n k->k<base/\k≠w.heap.size/\k≠w.heap.size+1/\k≠w.heap.size+1+1:=λk q=>by
   have h1:k<w.heap.size:=P k q;exact ⟨ha k q,by omega,by omega,by omega⟩
  cases B:A.lost x.1 with
  | false=>
   refine gI (by kernel_rfl) K I Q x.1 b (A2:=A.putAt (cw pre++[x.1]) b (λi=>(aW.shard (R.getD i [])).blk)) (λu=>u=.nilIface) ZV (λo a' w' ho (hu:a'.eval (Z1 24)=.nilIface)=>by simp only [execOp,ho,hu];go_simp) a.b0 a.b1 a.b2 J (k7 _ H) hm k5 rfl
    (λw' k0 Y=>(pR Y.vol k0 Q x.1 b (ke _ H) hb hw B _ (N _ H) (ll (N _ H)) Y.laid I.g I.v).mono (by
     rintro e qf ⟨rfl,r,l⟩;rw [j4 A (cw pre) x.1 b (λi=>(aW.shard (R.getD i [])).blk)] at r;exact ⟨_,rfl,rfl,r,l⟩)) rfl rfl rfl rfl ?_
   intro w2 vs Z r l;obtain ⟨x0,x1,x2,x3,x4,x5,x6,x7,x8,x9,xa,xb,rfl⟩:=xF Z;have j:∀ k,w.heap.size<=k->k<X.heap.size->w2.heap[k]?=X.heap[k]?:=λk z k8=>l.block k k8 (λq=>by have:=P k q;omega);have H2:=hide4 r l j B;clear r l j a K J Z q5 Q k5 B;rename_i hK
   refine hK _ _ ?_;clear hK;simp only [Act.putFrom,Act.put,Tz,TA,TB,Tp,To];gi_wp2;obtain ⟨r,l,j,B⟩:=H2.out;have a:=V.out.1;have W:aa (F.has p A.n) w w2:=a.out.trans l;refine ⟨⟨l.size,λk o z ho _=>(j k (by omega) (Tm.1 ho).1).trans ho⟩,λ_=>C.tab.keep (W.block _ C.tab.lt I.t),?_⟩;exact ⟨(j _ (by omega) (by omega)).trans a.b0,(j _ (by omega) (by omega)).trans a.b1,(j _ (by omega) (by omega)).trans a.b2,by rw [bF,ku _ _ _ B];exact (j _ (by omega) (by omega)).trans a.b3,by rw [bF];exact r,W,Tn a.size l.size⟩
  | true=>
   refine gI (by kernel_rfl) K I Q x.1 b (A2:=A.putAt (cw pre++[x.1]) b (λi=>(aW.shard (R.getD i [])).blk)) (λu=>∃ q,u=sQ q) ZW (λo a' w' ho hu=>by obtain ⟨q,hq⟩:=hu;unfold sQ at hq;simp only [execOp,ho,hq];go_simp) a.b0 a.b1 a.b2 J (k7 _ H) hm k5 rfl
    (λw' k0 Y=>(mN Y.vol k0 Q x.1 b (ke _ H) (by show A.wait≠0;omega) B _ (N _ H) (ll (N _ H)) Y.laid).mono (by
     rintro e qf ⟨q,rfl,_,_,kf⟩;rw [<- j4];exact ⟨_,rfl,⟨q,rfl⟩,(k0.below kf lR).lostPut B _ _,aa.of_all kf _⟩)) rfl rfl rfl rfl ?_
   intro w2 vs Z r l;obtain ⟨x0,x1,x2,x3,x4,x5,x6,x7,x8,x9,xa,xb,rfl⟩:=xF Z;have j:∀ k,w.heap.size<=k->k<X.heap.size->w2.heap[k]?=X.heap[k]?:=λk z k8=>l.block k k8 (λq=>by have:=P k q;omega);have O:ZQ w2 (w.heap.size+1+1+1) 124 (Z7 Z8 (bS A (cw pre):Nat)):=(j _ (by omega) a.b3.lt).trans a.b3;have d0:=O.cell;have d1:=O.frozen;have ka:=iF (bS A (cw pre)) x.1 (by omega) (by omega) w2;rw [<- jP _ _ _ B] at ka;have H2:=hide5 r l j B O;clear r l j a K J Z Q k5 B O;generalize bS A (cw pre)=ls at *;generalize km:bS A (cw pre++[x.1])=M at *;have ks:=hide km;clear km;rename_i hK
   refine hK _ _ ?_;clear hK;simp only [Act.putFrom,Act.put,Tz,TA,TB,Tp,To];gi_wp2;refine dG ka ?_;rintro e w3 ⟨rfl,rfl⟩;clear ka;gi_wp2;obtain ⟨r,l,j,B,O⟩:=H2.out;have a:=V.out.1;have qe:=l.size;have kp:X.heap.size<=(w3.setCell ⟨w.heap.size+1+1+1,0,ZY⟩ (Z7 Z8 (M:Nat))).heap.size:=(by simp [World.setCell];omega);have U:∀ k,k≠w.heap.size+1+1+1->(w3.setCell ⟨w.heap.size+1+1+1,0,ZY⟩ (Z7 Z8 (M:Nat))).heap[k]?=w3.heap[k]?:=λk z=>blk_setCell_other _ _ _ _ z;have W:aa (F.has p A.n) w (w3.setCell ⟨w.heap.size+1+1+1,0,ZY⟩ (Z7 Z8 (M:Nat))):=(a.out.trans l).later (T:=λk=>k=w.heap.size+1+1+1) ⟨rfl,rfl,rfl,by simp [World.setCell],λk _ q6=>U k q6⟩ (λk h1 h2=>by omega);have qb:=a.size;refine ⟨⟨kp,λk o z ho _=>(U k (by omega)).trans ((j k (by omega) (Tm.1 ho).1).trans ho)⟩,λ_=>C.tab.keep (W.block _ C.tab.lt I.t),?_⟩;exact ⟨(U _ (by omega)).trans ((j _ (by omega) (by omega)).trans a.b0),(U _ (by omega)).trans ((j _ (by omega) (by omega)).trans a.b1),(U _ (by omega)).trans ((j _ (by omega) (by omega)).trans a.b2),by rw [bF,ks.out];exact O.set _,by rw [bF];exact r.keep λk z=>U k (by have:=P k z;omega),W,Tn a.size kp⟩
 case done=>
  rintro D' xs X kx q9 a hK;have c3:=a.b3.cell;have f3:=a.b3.frozen;have V:=hide2 a hK;clear a hK;gi_wp2;obtain ⟨a,hK⟩:=V.out;have hy:cw xs=ae S:=q9;have kz:=a.b3.set (Z7 Z8 (bS A (cw xs):Nat));have q3:=KeepsOthers.setCell X ⟨w.heap.size+1+1+1,0,ZY⟩ (Z7 Z8 (bS A (cw xs):Nat));have ky:=q3.same D' _ hK rfl;have qc:=(Tm.1 hK).1;refine z8 (b:=w.heap.size+1+1+1) (t8:=8) Tryz.results88 rfl rfl (z9 (s:=bS A (cw xs)) kz) ky (by omega) ⟨by rw [hy],?_,?_⟩
  . have h4:=a.arr;rw [hy] at h4;exact h4.keep λk z=>by have:=P k z;exact (World.putObj_heap_other (by omega)).trans (blk_setCell_other _ _ _ _ (by show k≠w.heap.size+1+1+1;omega))
  . exact a.out.later (T:=λk=>w.heap.size<=k) ⟨rfl,rfl,rfl,by simp [World.setCell,World.putObj],λk _ q0=>(World.putObj_heap_other (by omega)).trans (blk_setCell_other _ _ _ _ (by show k≠w.heap.size+1+1+1;omega))⟩ (λk qd q0=>by omega)
 case stop=>
  rintro D' cc pre X kx q7 hx hK;exact hx.elim
end
end Go.Proofs.YtfbmmcnpjhmjaaaGreatDoor
