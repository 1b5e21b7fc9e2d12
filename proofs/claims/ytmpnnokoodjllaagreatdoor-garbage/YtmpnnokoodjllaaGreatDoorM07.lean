import Derived.Test.YtmpnnokoodjllaaGreatDoorM05
import Derived.Lib.UnsafeStr
import Derived.Test.YtmpnnokoodjllaaGreatDoorM06
set_option maxRecDepth 100000
set_option linter.all false
set_option maxHeartbeats 8000000
open Go.IntKind renaming i64 -> Z9, u64 -> Z8
open Go.Value renaming int -> Z7, pointer -> Z6, slice -> Z5, bool -> Z1, string -> ZZ, tuple -> ZY
open Go.Obj renaming cells -> Z4
open Go.Ending renaming returned -> Z3
open Go.Operand renaming tmp -> Z0
open Go renaming undef -> ZX, World -> ZS, Value -> ZR, Calls -> ZQ
open Option renaming none -> ZW, some -> ZV
open Bool renaming true -> ZU, false -> ZT
open List renaming range -> YC
open List.Sublist renaming append -> YD, refl -> YE
open Go.Proofs.Tryz renaming prog -> ZP
open Go.Proofs.Tryz
namespace Go.Proofs.YtmpnnokoodjllaaGreatDoor
def abt:=@Go.Proofs.Tryz.underlying206
def abz:=@List.sublist_append_right
def XS:=@Nat.div_le_div_right
def XT:=@Go.Lib.size_eq
end Go.Proofs.YtmpnnokoodjllaaGreatDoor
namespace Go.Proofs.YtmpnnokoodjllaaGreatDoor
open Go.RowKit Go.Deep Go.Shelf Gf
variable {a:Act} {ad:Addr} {ops:Array Oper} {Q:Exit->Act->ZS->Prop} {F:aR} {l ds P P':a9} {rest:List Oper} {g N s n r v b q gone sp D' base S x i k D L G m d p ps ho bl B0:Nat} {Dn:Nat->Bool} {R:Nat->a9} {f0 f:Nat->ZR} {o:Oper} {u:ZR} {w w':ZS}
theorem BZ (k:FuncId) (first cap:Array ZR) (m:∀ (args:Array ZR) (w:ZS),(callFunc k args).run ZP w=.ok (.enter k args) w) (w:ZS) (R:ZS->ZR->ZS->Prop)
 (g:∀ w1,bW w w1->w1.heap.size=w.heap.size+1->w1.heap[w.heap.size]?=ZV (Z4 #[.nilIface] 42 (0,0))->ZQ ZP k (first++cap) w1 λe w2=>∃ v,e=Z3 v/\isErr v/\R w1 v w2/\w2.heap[w.heap.size]?=w1.heap[w.heap.size]?) :
 ZQ ZP 63 #[.func (.func k) first cap] w λe w'=>∃ v w1 w2,e=Z3 v/\isErr v/\bW w w1/\w1.heap.size=w.heap.size+1/\R w1 v w2/\w'=w2.setCell ⟨w.heap.size,0,ZW⟩ v:=by
 have i:=g (w.alloc (Z4 #[.nilIface] 42)) (bA w _) ek (UG w _);have c:(w.alloc (Z4 #[.nilIface] 42)).heap[w.heap.size]?=ZV (Z4 #[.nilIface] 42 (0,0)):=T9 _ _;go_enter_defers func63,ntmps63
 go_wp2_with fail;refine i.mono ?_;clear i;rintro e w2 ⟨v,rfl,hv,h,d⟩;have ht:w2.heap[w.heap.size]?=ZV (Z4 #[.nilIface] 42 (0,0)):=d.trans c;have j:w2.cell? ⟨w.heap.size,0,ZW⟩=ZV .nilIface:=ZE
 have l:w2.frozen? ⟨w.heap.size,0,ZW⟩=ZT:=by simp [World.frozen?,ht]
 have b:(w2.setCell ⟨w.heap.size,0,ZW⟩ v).cell? ⟨w.heap.size,0,ZW⟩=ZV v:=by simp [World.cell?,World.setCell,Vv,ht]
 have H:=au h hv;clear h d ht c g;rcases hv with rfl|⟨t,u,rfl⟩
 . go_wp2;refine leaves_cons (f:=94) (args:=#[Z6 (ZV ⟨w.heap.size,0,ZW⟩)]) ek abM ?_;refine (tl ⟨w.heap.size,0,ZW⟩ _).mono ?_;rintro e u' a ⟨rfl,rfl,rfl⟩;refine ⟨.nilIface,by simp [results,results63,go_sem,b],_,_,w2,rfl,.inl rfl,(TX _ w).alloc lR (Z4 #[.nilIface] 42),ek,H.out.1,rfl⟩
 . go_wp2;refine leaves_cons (f:=94) (args:=#[Z6 (ZV ⟨w.heap.size,0,ZW⟩)]) ek abM ?_;refine (tl ⟨w.heap.size,0,ZW⟩ _).mono ?_;rintro e u' a ⟨rfl,rfl,rfl⟩;refine ⟨.iface t u,by simp [results,results63,go_sem,b],_,_,w2,rfl,.inr ⟨t,u,rfl⟩,(TX _ w).alloc lR (Z4 #[.nilIface] 42),ek,H.out.1,rfl⟩
theorem mb (k:FuncId) (first cap:Array ZR) (E:∀ (args:Array ZR) (w:ZS),(callFunc k args).run ZP w=.ok (.enter k args) w) (w:ZS) (a:Nat) (cs:Array ZR) (q:w.heap[a]?=ZV (Z4 cs 115 (0,0))) (D:cs[9]?=ZV (Z1 ZT)) (R:ZS->ZR->ZS->Prop)
 (t:∀ w1,bW w w1->w1.heap.size=w.heap.size+1->w1.heap[w.heap.size]?=ZV (Z4 #[.nilIface] 42 (0,0))->ZQ ZP k (first++cap) w1 λe w2=>∃ v,e=Z3 v/\fJ v/\R w1 v w2/\w2.heap[w.heap.size]?=w1.heap[w.heap.size]?/\∃ cs',w2.heap[a]?=ZV (Z4 cs' 115 (0,0))/\cs'[9]?=ZV (Z1 ZT)) :
 ZQ ZP 45 #[Z6 (ZV ⟨a,0,ZW⟩),.func (.func k) first cap] w λe w'=>∃ v w1 w2,e=Z3 v/\fJ v/\bW w w1/\w1.heap.size=w.heap.size+1/\R w1 v w2/\w'=(w2.setCell ⟨w.heap.size,0,ZW⟩ v).setCell ⟨a,9,ZW⟩ (Z1 ZT):=by
 have K:a<w.heap.size:=(TW.1 q).1;have G:w.cell? ⟨a,9,ZW⟩=ZV (Z1 ZT):=by simp [World.cell?,q,D]
 have o:=BZ k first cap E w (λw1 v w2=>fJ v/\R w1 v w2/\∃ cs',w2.heap[a]?=ZV (Z4 cs' 115 (0,0))/\cs'[9]?=ZV (Z1 ZT)) (λw1 y z d=>(t w1 y z d).mono (by
  rintro e w2 ⟨v,rfl,d,A,B,C⟩;exact ⟨v,rfl,d.isErr,⟨d,A,C⟩,B⟩))
 go_enter func45,ntmps45;go_wp2_with fail;refine o.mono ?_;rintro e b ⟨v,w1,w2,rfl,_,s,x,⟨u,p,cs',r,m⟩,rfl⟩;have c:(w2.setCell ⟨w.heap.size,0,ZW⟩ v).heap[a]?=ZV (Z4 cs' 115 (0,0)):=(T7 _ _ _ _ (by show a≠w.heap.size;omega)).trans r;obtain ⟨b,f⟩:=nM (w2.setCell ⟨w.heap.size,0,ZW⟩ v);rw [f] at c ⊢;have I:b.cell? ⟨a,9,ZW⟩=ZV (Z1 ZT):=by simp [World.cell?,c,m]
 have J:b.frozen? ⟨a,9,ZW⟩=ZT:=by simp [World.frozen?,c]
 have H:=a7 s x p u f;clear s x p o t c m r f;rcases u with rfl|⟨n,F,rfl⟩
 . go_wp2_with fail;refine (zu 13 b).mono ?_;rintro e w' ⟨rfl,rfl⟩;go_wp2;go_ret;obtain ⟨g,h,i,j,l⟩:=H.out;exact ⟨.nilIface,w1,w2,rfl,j,g,h,i,by rw [l]⟩
 . go_wp2_with fail;refine (Kc n F b).mono ?_;rintro e w' ⟨rfl,rfl⟩;go_wp2;go_ret;obtain ⟨g,h,i,j,l⟩:=H.out;exact ⟨.iface 54 (Z7 Z9 n),w1,w2,rfl,j,g,h,i,by rw [l]⟩
structure Rt where
 D:Nat
 L:Nat
 G:Nat
 t:Nat
 f:Nat
 n:Nat
def Ib (x:Rt):Array ZR:=av x.D x.L x.G x.t x.f x.n
def eV:Option bx->ZR
 | none=>.nilIface
 | some r=>bm r
def me (x:Rt):Option bx->Rt
 | some (.root D L G t f n)=>if x.t<t then ⟨D,L,G,t,f,n⟩ else x
 | _=>x
def bt (R:Nat->Option bx):Nat->Rt
 | 0=>⟨0,0,0,0,0,0⟩
 | k+1=>me (bt R k) (R k)
def Lr (x k:Nat):Option bx->Nat
 | some .blank=>x|||2^k
 | _=>x
def ew (R:Nat->Option bx):Nat->Nat
 | 0=>0
 | k+1=>Lr (ew R k) k (R k)
theorem kO (R:Nat->Option bx):∀ k,k<=60->ew R k<2^k
 | 0,_=>by simp [ew]
 | k+1,h=>by
  have:=kO R k eb;have a:2^k<2^(k+1):=VC ec eb;show Lr (ew R k) k (R k)<2^(k+1);unfold Lr;split
  . exact V0 eb a
  . omega
def ux (e:o.guard=ZW) (x y:Operand) (ho:o.op=.store 110 x y) {b D L G t f n:Nat} {cs:Array ZR}
 (g:a.eval x=Z6 (ZV ⟨b,0,ZW⟩)) (i:a.eval y=.agg (av D L G t f n)) (c:w.heap[b]?=ZV (Z4 cs 110 (0,0))) (d:cs.size=6) (h:wpList ZP ops Q rest (a.put o.dst ZX) (w.setRow b (av D L G t f n))):wpList ZP ops Q (o::rest) a w:=by
 refine VD e λK hK=>?_;unfold Oper.wp;simp [execOp,ho,g,i,uf c d,Result.andThen];exact hK _ _ h
def N2 (v:ZR) (w:ZS):(Instr.typeAssert (.iface 110 v) 195 110 ZU).run ZP w=.ok (ZY #[v,Z1 ZU]) w:=by
 simp [Instr.typeAssert,Uw WG]
def mh (t:TypeId) (h:t≠110) (v:ZR) (w:ZS):(Instr.typeAssert (.iface t v) 195 110 ZU).run ZP w=.ok (ZY #[.agg (av 0 0 0 0 0 0),Z1 ZT]) w:=by
 simp [Instr.typeAssert,Uw WG,h];rfl
def B1 (w:ZS):(Instr.typeAssert .nilIface 195 110 ZU).run ZP w=.ok (ZY #[.agg (av 0 0 0 0 0 0),Z1 ZT]) w:=by
 simp [Instr.typeAssert,Uw WG];rfl
def uy (w:ZS):(zeroValue 206).run ZP w=.ok (.agg #[]) w:=by
 obtain ⟨a,b,c⟩:∃ a,ZP.info? 206=ZV a/\a.zero=ZV (.agg #[]):=by
  have:(ZP.info? 206).map (λi=>i.zero)=ZV (ZV (.agg #[])):=ei
  rw [VU] at this;exact this
 simp [zeroValue,typeInfo,Uo,b,c]
def B4 (v:ZR) (w:ZS):(Instr.typeAssert (.iface 206 v) 195 206 ZU).run ZP w=.ok (ZY #[v,Z1 ZU]) w:=by
 simp [Instr.typeAssert,Uw abt]
def fD (t:TypeId) (h:t≠206) (v:ZR) (w:ZS):(Instr.typeAssert (.iface t v) 195 206 ZU).run ZP w=.ok (ZY #[.agg #[],Z1 ZT]) w:=by
 simp [Instr.typeAssert,Uw abt,h]
def pd (w:ZS):(Instr.typeAssert .nilIface 195 206 ZU).run ZP w=.ok (ZY #[.agg #[],Z1 ZT]) w:=by
 simp [Instr.typeAssert,Uw abt]
def fE (w:ZS) (D L G t f n:Nat):ZS:=(w.alloc (Z4 (av 0 0 0 0 0 0) 110)).setRow w.heap.size (av D L G t f n)
def uz (w:ZS) (D L G t f n:Nat):(fE w D L G t f n).heap[w.heap.size]?=ZV (Z4 (av D L G t f n) 110 (0,0)):=U3 _ _ _ _ _ _ (T9 w (Z4 (av 0 0 0 0 0 0) 110))
def eK (w:ZS) (D L G t f n:Nat):bW w (fE w D L G t f n):=(bA w _).trans ⟨rfl,rfl,rfl,by unfold fE;rw [gw];exact TV _,λk a=>(aF _ _ _).block k en (λq=>eT (UA q))⟩
def nT (b:o.guard=ZW) (x y:Operand) (ho:o.op=.store 110 x y) {D L G t f n:Nat}
 (c:a.eval x=Z6 (ZV ⟨w.heap.size,0,ZW⟩)) (d:a.eval y=.agg (av D L G t f n)) (h:wpList ZP ops Q rest (a.put o.dst ZX) (fE w D L G t f n)):wpList ZP ops Q (o::rest) a (w.alloc (Z4 (av 0 0 0 0 0 0) 110)):=
 ux b x y ho c d (T9 _ _) rfl h
def BkR (w:ZS) (R:Nat->Option bx) (N:Nat) (s i:ZR) (wr:ZS):Prop:=∃ k:Nat,k<=N/\i=Z7 Z9 k/\s=Z7 Z8 (ew R k:Nat)/\bW w wr
theorem uA (R:Nat->Option bx) (x:N<=60) (d:w.rowIs g 195 N (λi=>eV (R i))) :
 ZQ ZP 70 #[Z5 (ZV ⟨g,0,ZW⟩) N N] w λe w'=>e=Z3 (Z7 Z8 (ew R N:Nat))/\bW w w':=by
 have q:=d.lt;have z:=uy;go_enter func70,ntmps70;go_wp2_with fail;go_loopw [2,9] (λs i wr=>BkR w R N s i wr) (λ_ i _=>N-(intOf i).toNat)
 case atStart=>exact ⟨0,T3 _,rfl,rfl,TX _ _⟩
 case round=>
  obtain ⟨k,y,rfl,rfl,b⟩:=hrel;by_cases v:k<N
  . have j:wr.rowIs g 195 N (λi=>eV (R i)):=d.of_block (b.block g q);have c:=j.cell (i:=k) v;have a:ew R (k+1)=Lr (ew R k) k (R k):=rfl;have h:=kO R k eb;have p:ew R k<18446744073709551616:=W9 h (Fq eb);have m:=b.size;cases h4:R k with
    | none=>
     have o:=pd;rw [h4] at c a;simp only [eV] at c;have H:=au b a;clear b j a h d;go_wp2;refine ⟨⟨k+1,eb,e8,ZI,H.out.1.alloc m _⟩,e9⟩
    | some r=>
     cases r with
     | shard l=>
      have o:=fD 233 ec;rw [h4] at c a;simp only [eV,bm] at c;have H:=au b a;clear b j a h d;go_wp2;refine ⟨⟨k+1,eb,e8,ZI,H.out.1.alloc m _⟩,e9⟩
     | filled=>
      have o:=fD 182 ec;rw [h4] at c a;simp only [eV,bm] at c;have H:=au b a;clear b j a h d;go_wp2;refine ⟨⟨k+1,eb,e8,ZI,H.out.1.alloc m _⟩,e9⟩
     | root D L G t f n=>
      have o:=fD 110 ec;rw [h4] at c a;simp only [eV,bm] at c;have H:=au b a;clear b j a h d;go_wp2;refine ⟨⟨k+1,eb,e8,ZI,H.out.1.alloc m _⟩,e9⟩
     | blank=>
      have o:=B4;rw [h4] at c a;simp only [eV,bm] at c;have H:=au b a;clear b j a h d;go_wp2_with fail;refine (iM _ k p eb _).mono ?_;rintro e w2 ⟨rfl,rfl⟩;go_wp2;refine ⟨⟨k+1,eb,e8,ZI,H.out.1.alloc m _⟩,e9⟩
  . have u:k=N:=eb;subst u;have H:=al b;clear b d;go_wp2;go_ret;exact ⟨rfl,H.out⟩
def LrR (w:ZS) (R:Nat->Option bx) (N:Nat) (i:ZR) (wr:ZS):Prop:=∃ k:Nat,k<=N/\i=Z7 Z9 k/\wr.heap[w.heap.size]?=ZV (Z4 (Ib (bt R k)) 110 (0,0))/\bW w wr
theorem zY (R:Nat->Option bx) (V:N<=60) (m:w.rowIs g 195 N (λi=>eV (R i))) :
 ZQ ZP 66 #[Z5 (ZV ⟨g,0,ZW⟩) N N] w λe w'=>e=Z3 (.agg (Ib (bt R N)))/\bW w w':=by
 have O:=m.lt;have C:(w.alloc (Z4 (av 0 0 0 0 0 0) 110)).heap[w.heap.size]?=ZV (Z4 (Ib (bt R 0)) 110 (0,0)):=T9 _ _;have F:bW w (w.alloc (Z4 (av 0 0 0 0 0 0) 110)):=bA w _;have W:=xN;go_enter func66,ntmps66;go_wp2_with fail;go_loopw [9] (λi wr=>LrR w R N i wr) (λi _=>N-(intOf i).toNat)
 case atStart=>exact ⟨0,T3 _,rfl,C,F⟩
 case round=>
  clear C F;obtain ⟨k,u,rfl,d,a⟩:=hrel;by_cases Q:k<N
  . have o:wr.rowIs g 195 N (λi=>eV (R i)):=m.of_block (a.block g O);have c:=o.cell (i:=k) Q;have hl:bt R (k+1)=me (bt R k) (R k):=rfl;have J:=a.size;have E:w.heap.size<wr.heap.size:=(TW.1 d).1;have j:(fE wr 0 0 0 0 0 0).heap[w.heap.size]?=ZV (Z4 (Ib (bt R k)) 110 (0,0)):=((eK wr 0 0 0 0 0 0).block _ E).trans d;have h:bW w (fE wr 0 0 0 0 0 0):=a.trans ((eK wr 0 0 0 0 0 0).mono J);cases h7:R k with
    | none=>
     have t1:=B1;rw [h7] at c hl;simp only [eV] at c;have H:=aE j h hl;clear d a o hl m j h;go_wp2_with (show wpList _ _ _ ({ dst:=ZW,op:=Op.store 110 (Z0 5) (Z0 16),type:=_,pos:=_,after:=_,guard:=_ }::_) _ _;refine nT (w:=wr) (D:=0) (L:=0) (G:=0) (t:=0) (f:=0) (n:=0) rfl (Z0 5) (Z0 16) rfl l3 l3 ?_);refine ⟨⟨k+1,eb,e8,Zo,H.out.2.1⟩,e9⟩
    | some r=>
     cases r with
     | shard l=>
      have t1:=mh 233 ec;rw [h7] at c hl;simp only [eV,bm] at c;have H:=aE j h hl;clear d a o hl m j h;go_wp2_with (show wpList _ _ _ ({ dst:=ZW,op:=Op.store 110 (Z0 5) (Z0 16),type:=_,pos:=_,after:=_,guard:=_ }::_) _ _;refine nT (w:=wr) (D:=0) (L:=0) (G:=0) (t:=0) (f:=0) (n:=0) rfl (Z0 5) (Z0 16) rfl l3 l3 ?_);refine ⟨⟨k+1,eb,e8,Zo,H.out.2.1⟩,e9⟩
     | blank=>
      have t1:=mh 206 ec;rw [h7] at c hl;simp only [eV,bm] at c;have H:=aE j h hl;clear d a o hl m j h;go_wp2_with (show wpList _ _ _ ({ dst:=ZW,op:=Op.store 110 (Z0 5) (Z0 16),type:=_,pos:=_,after:=_,guard:=_ }::_) _ _;refine nT (w:=wr) (D:=0) (L:=0) (G:=0) (t:=0) (f:=0) (n:=0) rfl (Z0 5) (Z0 16) rfl l3 l3 ?_);refine ⟨⟨k+1,eb,e8,Zo,H.out.2.1⟩,e9⟩
     | filled=>
      have t1:=mh 182 ec;rw [h7] at c hl;simp only [eV,bm] at c;have H:=aE j h hl;clear d a o hl m j h;go_wp2_with (show wpList _ _ _ ({ dst:=ZW,op:=Op.store 110 (Z0 5) (Z0 16),type:=_,pos:=_,after:=_,guard:=_ }::_) _ _;refine nT (w:=wr) (D:=0) (L:=0) (G:=0) (t:=0) (f:=0) (n:=0) rfl (Z0 5) (Z0 16) rfl l3 l3 ?_);refine ⟨⟨k+1,eb,e8,Zo,H.out.2.1⟩,e9⟩
     | root D L G t f n=>
      have t1:=N2;rw [h7] at c hl;simp only [eV,bm] at c;have s:=uz wr D L G t f n;have p:(fE wr D L G t f n).heap[w.heap.size]?=ZV (Z4 (Ib (bt R k)) 110 (0,0)):=((eK wr D L G t f n).block _ E).trans d;have y:bW w (fE wr D L G t f n):=a.trans ((eK wr D L G t f n).mono J);obtain ⟨K,z⟩:=nM (fE wr D L G t f n);rw [z] at s p y;have U:K.cell? ⟨wr.heap.size,3,ZW⟩=ZV (Z7 Z8 t):=(by simp [World.cell?,s,av]);have T:K.cell? ⟨w.heap.size,3,ZW⟩=ZV (Z7 Z8 (bt R k).t):=(by simp [World.cell?,p,Ib,av]);have H:=a7 z s p y hl;clear d a o hl m z s p y j h;by_cases I:(bt R k).t<t
      . go_wp2_with (first|(show wpList _ _ _ ({ dst:=ZW,op:=Op.store 110 (Z0 5) (Z0 16),type:=_,pos:=_,after:=_,guard:=_ }::_) _ _;refine nT (w:=wr) (D:=D) (L:=L) (G:=G) (t:=t) (f:=f) (n:=n) rfl (Z0 5) (Z0 16) rfl l3 l3 ?_;rw [H.out.1])|(show wpList _ _ _ ({ dst:=ZV 26,op:=_,type:=_,pos:=_,after:=_,guard:=_ }::_) _ _;refine kM (D:=D) (L:=L) (G:=G) (t:=t) (f:=f) (n:=n) (b:=wr.heap.size) rfl (Z0 5) rfl rfl l3 (by exact H.out.2.1) ?_)|(show wpList _ _ _ ({ dst:=ZW,op:=Op.store 110 (Z0 2) (Z0 26),type:=_,pos:=_,after:=_,guard:=_ }::_) _ _;refine ux (D:=D) (L:=L) (G:=G) (t:=t) (f:=f) (n:=n) (b:=w.heap.size) (cs:=Ib (bt R k)) rfl (Z0 2) (Z0 26) rfl l3 l3 (by exact H.out.2.2.1) rfl ?_));obtain ⟨_,S,A,x,B⟩:=H.out;refine ⟨⟨k+1,eb,e8,?_,x.trans ⟨rfl,rfl,rfl,by rw [gw];exact TV _,λk u=>(aF _ _ _).block k (TY u x.size) (λq=>eT (UA q))⟩⟩,e9⟩;rw [B];rw [show me (bt R k) (ZV (.root D L G t f n))=⟨D,L,G,t,f,n⟩ from if_pos I];exact U3 _ _ _ _ _ _ A
      . go_wp2_with (show wpList _ _ _ ({ dst:=ZW,op:=Op.store 110 (Z0 5) (Z0 16),type:=_,pos:=_,after:=_,guard:=_ }::_) _ _;refine nT (w:=wr) (D:=D) (L:=L) (G:=G) (t:=t) (f:=f) (n:=n) rfl (Z0 5) (Z0 16) rfl l3 l3 ?_;rw [H.out.1]);obtain ⟨_,S,A,x,B⟩:=H.out;refine ⟨⟨k+1,eb,e8,?_,x⟩,e9⟩;rw [B];rw [show me (bt R k) (ZV (.root D L G t f n))=bt R k from if_neg I];exact A
  . have P:k=N:=eb;subst P;have H:=au d a;clear d a m;go_wp2_with (first|(show wpList _ _ _ ({ dst:=ZV 28,op:=_,type:=_,pos:=_,after:=_,guard:=_ }::_) _ _;refine kM (b:=w.heap.size) (ra:=Ib (bt R k)) rfl (Z0 2) rfl rfl l3 abI ?_)|(show wpList _ _ _ ({ dst:=ZW,op:=Op.store 110 (Z0 2) (Z0 28),type:=_,pos:=_,after:=_,guard:=_ }::_) _ _;refine ux (b:=w.heap.size) (cs:=Ib (bt R k)) (D:=(bt R k).D) (L:=(bt R k).L) (G:=(bt R k).G) (t:=(bt R k).t) (f:=(bt R k).f) (n:=(bt R k).n) rfl (Z0 2) (Z0 28) rfl l3 l3 abI rfl ?_));have M:=U3 _ _ _ (Ib (bt R k)) _ _ H.out.1;refine Uf (v:=.agg (Ib (bt R k))) (VG results66 _ _ w.heap.size 110 (Ib (bt R k)) (0,0) _ rfl M WG rfl (kL _ _ _ _ _ _)) rfl ?_;exact ⟨rfl,H.out.2.trans ⟨rfl,rfl,rfl,by rw [gw];exact TV _,λk u=>(aF _ _ _).block k (TY u H.out.2.size) (λq=>eT (UA q))⟩⟩
def Ic (s:Nat) (w:ZS) (ad:Addr) (u:ZR) (Dn:Nat->Bool) (w':ZS):Prop:=w'=if Dn s=ZU then w.drew.setCell ad u else w.drew
def bR (h:Ic s w ad u Dn w') (i:Nat) (a:s≠i):Ic s w ad u (du Dn i) w':=by unfold Ic;rw [dm a];exact h
theorem jM (h:Ic s w ad u Dn w') {a:Addr} (c:a.block≠ad.block) {v:ZR} (b:w.cell? a=ZV v):w'.cell? a=ZV v:=by
 unfold Ic at h;subst h;split
 . exact (Uh (T7 _ _ _ _ c)).trans b
 . exact b
def pe (h:Ic s w ad u Dn w') (a:Dn s=ZT):w'=w.drew:=by
 unfold Ic at h;rwa [if_neg ZC] at h
def Ca (h:Ic s w ad u Dn w') (a:Dn s=ZU):w'=w.drew.setCell ad u:=by
 unfold Ic at h;rwa [if_pos a] at h
noncomputable def RFg:Array Oper:=((Tryz.f126.body.bind (nZ · 14))).getD #[]
def aac:List (Op×Option Nat×a9):=[(Op.load 164 (Z0 2),ZV 91,[]),
 (Op.load 164 (Z0 2),ZV 92,[]),
 (Op.nilCheck (Z0 92),ZV 93,[1]),
 (Op.fieldAddr 217 (Z0 93) 3,ZV 94,[2]),
 (Op.load 131 (Z0 94),ZV 95,[3]),
 (Op.move (Z0 4),ZV 96,[]),
 (Op.call { callee:=Callee.value (Operand.func 75),args:=#[Z0 95,Z0 96],argTypes:=#[131,3] },ZV 97,[4,5]),
 (Op.nilCheck (Z0 91),ZV 98,[0,0,1,2,3,4,5,6]),
 (Op.fieldAddr 217 (Z0 98) 3,ZV 99,[7,0,1,2,3,4,5,6]),
 (Op.store 131 (Z0 99) (Z0 97),ZW,[8,6,6,0,1,2,3,4,5,6])]
def Ie:aL RFg 91 100 aac:=bj ei ei
def Qf (r x gone:Nat):List ZR:=[Z6 (ZV ⟨r,0,ZW⟩),Z6 (ZV ⟨r,0,ZW⟩),Z6 (ZV ⟨r,0,ZW⟩),Z6 (ZV ⟨r,3,ZW⟩),Z7 Z8 gone,Z7 Z9 x,Z7 Z8 ((gone|||2^x:Nat):Int),Z6 (ZV ⟨r,0,ZW⟩),Z6 (ZV ⟨r,3,ZW⟩),ZX]
theorem mi {l:Nat} (L:Boxed w q 164 (Z6 (ZV ⟨r,0,ZW⟩))) (hr:cP w r v b g N gone sp) (x:Nat) (W:x<=60) (R:gone<18446744073709551616) (G:q≠r) (M:RFg=ops) (hh:a.tmps.size=100)
 (F:a.eval (Z0 2)=Z6 (ZV ⟨q,0,ZW⟩)) (I:a.eval (Z0 4)=Z7 Z9 x)
 (P:∀ (w':ZS),w'=w.drew.setCell ⟨r,3,ZW⟩ (Z7 Z8 ((gone|||2^x:Nat):Int))->Q .normal (Act.RL a 91 [Z6 (ZV ⟨r,0,ZW⟩),Z6 (ZV ⟨r,0,ZW⟩),Z6 (ZV ⟨r,0,ZW⟩),Z6 (ZV ⟨r,3,ZW⟩),Z7 Z8 gone,Z7 Z9 x,Z7 Z8 ((gone|||2^x:Nat):Int),Z6 (ZV ⟨r,0,ZW⟩),Z6 (ZV ⟨r,3,ZW⟩)]) w'):(Code.region 14 ops ZU).wpIn (Fence.wide.inRound l) n ZP Q a w:=by
 subst M;have E:=L.cell;have D:=hr.cells.2.2.2.1;have J:w.frozen? ⟨r,3,ZW⟩=ZT:=by
  have K:w.heap[r]?=_:=hr;simp [World.frozen?,K]
 refine bu ei Ie a w eb (λi u _=>u=(Qf r x gone).getD i ZX) (Ic 9 w ⟨r,3,ZW⟩ (Z7 Z8 ((gone|||2^x:Nat):Int))) rfl ?_ ?_
 . intro i C;match i,C with
   | 0,_=>
    intro o k w' Dn A ho p s t y m j d;have u0:k.eval (Z0 2)=Z6 (ZV ⟨q,0,ZW⟩):=(s.slot 2 eb).trans F;have B:=jM j (a:=⟨q,0,ZW⟩) G E;exact ak (v:=Z6 (ZV ⟨r,0,ZW⟩)) ee ej p ⟨bR j 0 ec,rfl,kq⟩
   | 1,_=>
    intro o k w' Dn A ho p s t y m j d;have u0:k.eval (Z0 2)=Z6 (ZV ⟨q,0,ZW⟩):=(s.slot 2 eb).trans F;have B:=jM j (a:=⟨q,0,ZW⟩) G E;exact ak (v:=Z6 (ZV ⟨r,0,ZW⟩)) ee ej p ⟨bR j 1 ec,rfl,kq⟩
   | 2,_|3,_|7,_|8,_=>
    intro o k w' Dn A ho p s t y m j d;have u0:=d _ (m _ (.head _));simp only [aac,Qf,bT,dy,wK,wJ] at ho u0;exact ak (by simp only [execOp,ho,u0,Qf,wK,wJ];go_simp) ej p ⟨bR j _ ec,rfl,kq⟩
   | 4,_=>
    intro o k w' Dn A ho p s t y m j d;have u0:k.eval (Z0 94)=Z6 (ZV ⟨r,3,ZW⟩):=d 3 (m 3 ec);have T:Dn 9=ZT:=by
     cases e:Dn 9 with
     | false=>rfl
     | true=>exact absurd ((y 9 e).2 4 ec) abF
    have U:=pe j T;have B:w'.cell? ⟨r,3,ZW⟩=ZV (Z7 Z8 gone):=(by rw [U];exact D);exact ak (v:=Z7 Z8 gone) ee ej p ⟨bR j 4 ec,rfl,kq⟩
   | 5,_=>
    intro o k w' Dn A ho p s t y m j d;have u0:k.eval (Z0 4)=Z7 Z9 x:=(s.slot 4 eb).trans I;exact ak (ah ho u0 w') ej p ⟨bR j 5 ec,rfl,kq⟩
   | 6,_=>
    intro o k w' Dn A ho p s t y m j d;have u0:k.eval (Z0 95)=Z7 Z8 gone:=d 4 (m 4 ec);have u1:k.eval (Z0 96)=Z7 Z9 x:=d 5 (m 5 ec);refine gz (f:=75) (args:=#[Z7 Z8 gone,Z7 Z9 x]) (w1:=w') (by (conv at ho=>rhs;whnf);simp only [execOp,ho];go_simp;exact ⟨B3,A1⟩) ej p (iM gone x R W w') ?_;rintro e X ⟨rfl,rfl⟩;exact ⟨_,rfl,bR j 6 ec,rfl,kq⟩
   | 9,_=>
    intro o k w' Dn A ho p s t y m j d;have u0:k.eval (Z0 99)=Z6 (ZV ⟨r,3,ZW⟩):=d 8 (m 8 ec);have u1:k.eval (Z0 97)=Z7 Z8 ((gone|||2^x:Nat):Int):=d 6 (m 6 ec);have V:=pe j t;subst V;have B:w.drew.cell? ⟨r,3,ZW⟩=ZV (Z7 Z8 gone):=D;have Y:w.drew.frozen? ⟨r,3,ZW⟩=ZT:=J;obtain ⟨z,H⟩:=nM (((gone|||2^x:Nat):Int));rw [H] at u1;refine jD (w':=w.drew.setCell ⟨r,3,ZW⟩ (Z7 Z8 z)) ua ej ⟨?_,rfl,kq⟩;unfold Ic;rw [if_pos ku,H]
   | n+10,hn=>exact absurd hn (by show ¬ n+10<10;omega)
 . rintro k w' S Z ⟨Dn,O,j⟩ d;have e:k=Act.RL a 91 [Z6 (ZV ⟨r,0,ZW⟩),Z6 (ZV ⟨r,0,ZW⟩),Z6 (ZV ⟨r,0,ZW⟩),Z6 (ZV ⟨r,3,ZW⟩),Z7 Z8 gone,Z7 Z9 x,Z7 Z8 ((gone|||2^x:Nat):Int),Z6 (ZV ⟨r,0,ZW⟩),Z6 (ZV ⟨r,3,ZW⟩)]:=S.out _ rfl eb (λi C=>?_)
   . rw [e];exact P w' (Ca j (O 9 ec))
   . match i,C with
     | 0,_=>exact d 0 ec
     | 1,_=>exact d 1 ec
     | 2,_=>exact d 2 ec
     | 3,_=>exact d 3 ec
     | 4,_=>exact d 4 ec
     | 5,_=>exact d 5 ec
     | 6,_=>exact d 6 ec
     | 7,_=>exact d 7 ec
     | 8,_=>exact d 8 ec
     | n+9,hn=>exact absurd hn ek
section
attribute [local go_sem] Oper.semAt_some
def Ls (v:ZR) (w:ZS):(Instr.typeAssert (.iface 233 v) 195 233 ZU).run ZP w=.ok (ZY #[v,Z1 ZU]) w:=by
 simp [Instr.typeAssert,Uw underlying233]
def If:(ZP.info? 233).map (·.size)=ZV 44:=ei
def Cb (w:ZS) (z:Array ZR) (c:z.size=44) (l:a9) (hl:l.length=44):(Instr.storeAt 233 (Z6 (ZV ⟨w.heap.size,0,ZW⟩)) (.agg (aJ l).toArray)).run ZP (w.alloc (Z4 z 233))=.ok () (w.alloc (Z4 (aJ l).toArray 233)):=by
 have a:(aJ l).toArray.size=44:=by rw [Uy,aW,hl]
 have:=run_storeVar_new (P:=ZP) w 233 z (aJ l).toArray (by rw [a];exact If) (by rw [a,c]) (by
  rw [List.all_toArray,Xa];intro u b;obtain ⟨x,_,rfl⟩:=T1.1 b;rfl)
 simp only [Instr.storeAt,Instr.sureAddr,Uo,UW,Uz,this]
def zZ {F:Fence} (d:o.guard=ZW) (x y:Operand) (ho:o.op=.store 233 x y) {z:Array ZR} {l:a9}
 (e:a.eval x=Z6 (ZV ⟨w.heap.size,0,ZW⟩)) (f:a.eval y=.agg (aJ l).toArray) (g:z.size=44) (hl:l.length=44) (h:wpListIn F n ZP ops Q rest (a.put o.dst ZX) (w.alloc (Z4 (aJ l).toArray 233))):wpListIn F n ZP ops Q (o::rest) a (w.alloc (Z4 z 233)):=by
 refine Yj d λK b=>?_;unfold Oper.wpIn;refine ⟨by simp [Oper.about,ho],?_⟩;rw [V8 F _ _ ej];simp [execOp,ho,e,f,Cb w z g l hl,Result.andThen];exact b _ _ h
def Lt {fn:Func} {Z:ZS} {R:Ending->ZS->Prop} (hr:fn.results=#[]) (b:a.defers=[{ target:=.collected D',args:=#[] }])
 (hK:Z.heap[D']?=ZV (.deferred (ZV []))) (hR:R (Z3 (ZY #[])) (Z.putObj D' (.deferred ZW))):bodyPostM Fence.wide n ZP fn R .normal a Z:=by
 obtain ⟨d,c⟩:=a;simp only at b;subst b;refine ⟨ek,.inl ⟨_,_,rfl,Wd hK,?_⟩⟩;refine ⟨ZY #[],?_,hR⟩;simp [results,hr]
def aA.rd (A:aA) (r:Nat->Int):aA:={ A with reads:=r }
def Kn (w:ZS) (base:Nat) (f0 f:Nat->ZR) (R:Nat->a9) (ds:a9):Prop:=(∀ i,i∉ds->f i=f0 i)/\∀ i,i∈ds->∃ bl,f i=Z5 (ZV ⟨bl,0,ZW⟩) 44 44/\base<=bl/\bl<w.heap.size/\w.heap[bl]?=ZV (Z4 (aJ (R i)).toArray 233 (0,0))
def Kn.keep (h:Kn w base f0 f R ds) (d:w.heap.size<=w'.heap.size) (c:∀ k o,base<=k->w.heap[k]?=ZV o->o.isCells=ZU->w'.heap[k]?=ZV o):Kn w' base f0 f R ds:=by
 refine ⟨h.1,λi b=>?_⟩;obtain ⟨bl,e,a,g,j⟩:=h.2 i b;exact ⟨bl,e,a,TY g d,c bl _ a j rfl⟩
def Kn.nil (w:ZS) (base:Nat) (f0:Nat->ZR) (R:Nat->a9):Kn w base f0 f0 R []:=⟨λ_ _=>rfl,λ_ h=>Bf⟩
def Db (S x:Nat):Nat:=S &&& (18446744073709551615-x)
def FL (S x:Nat) (a:S<65536) (b:x<65536):bits .andNot .u64 (S:Int) (x:Int)=(Db S x:Int):=X5 S x eb eb
def Ey (x:Nat) (a:S<65536):Db S x<65536:=Xy WJ a
theorem su (d:x<65536):i∈ae (Db S x)↔i∈ae S/\x.testBit i=ZT:=by
 rw [bS,bS];unfold Db;have e:(18446744073709551615-x).testBit i=(decide (i<64) && !x.testBit i):=by
  have:=Xw (x:=x) (n:=64) eb i;rwa [(eb:2^64-(x+1)=18446744073709551615-x)] at this
 rw [Xb,e];constructor
 . rintro ⟨b,a⟩;simp at a;exact ⟨⟨b,a.1⟩,a.2.2⟩
 . rintro ⟨⟨b,a⟩,c⟩;refine ⟨b,?_⟩;simp [a,c];omega
def vX:Nat->ZR:=λ_=>Z5 ZW 0 0
def vY (ds l:a9):a9:=l.filter λi=>decide (i∉ds)
def Qg (h:i∈ds):vY ds (l++[i])=vY ds l:=by unfold vY;rw [V4];simp [h]
def kQ (h:i∉ds):vY ds (l++[i])=vY ds l++[i]:=by unfold vY;rw [V4];simp [h]
def FM:i∈vY ds l↔i∈l/\i∉ds:=by unfold vY;rw [Vq];simp
def Cc:∃ z,∀ w:ZS,(Instr.typeAssert .nilIface 195 233 ZU).run ZP w=.ok (ZY #[z,Z1 ZT]) w:=by
 exact ⟨.agg (List.replicate 44 (Z7 .u8 0)).toArray,λw=>ei⟩
end
def mj (D:Nat) (d:a9) (k:Nat):a9:=(d.drop (k*(D*44))).take (D*44)
def aA.R5 (A:aA) (D L G:Nat) (S d:a9):Nat->aA
 | 0=>A
 | k+1=>(aA.R5 A D L G S d k).putAt (YC A.n) (S.getD k 0) (λi=>(bx.shard ((bJ D L G (mj D d k)).getD i [])).blk)
def aA.wrTo (A:aA) (at':Nat->Nat) (f:Nat->Nat->a9):Nat->aA
 | 0=>A
 | k+1=>(aA.wrTo A at' f k).putAt (YC A.n) (at' k) (f k)
def Ez (A:aA) (D L G:Nat) (P l:a9):∀ k,A.RT D L G P l k=A.wrTo (P.getD · 0) (λk i=>(bx.shard ((bJ D L G (gY D P l k)).getD i [])).blk) k
 | 0=>rfl
 | k+1=>by rw [aA.RT,Ez A D L G P l k];rfl
def Cd (A:aA) (D L G:Nat) (S d:a9):∀ k,A.R5 D L G S d k=A.wrTo (S.getD · 0) (λk i=>(bx.shard ((bJ D L G (mj D d k)).getD i [])).blk) k
 | 0=>rfl
 | k+1=>by rw [aA.R5,Cd A D L G S d k];rfl
def Lu (A:aA) (at':Nat->Nat) (f:Nat->Nat->a9):∀ k,(A.wrTo at' f k).n=A.n/\(A.wrTo at' f k).nb=A.nb/\(A.wrTo at' f k).wait=A.wait/\(A.wrTo at' f k).lost=A.lost
 | 0=>⟨rfl,rfl,rfl,rfl⟩
 | k+1=>Lu A at' f k
def sy (h:k<l.length):l.getD k 0=l[k]:=by rw [T6,T2 h];rfl
def FN (A:aA) (D L G:Nat) (S d:a9) (k:Nat):(A.R5 D L G S d k).n=A.n/\(A.R5 D L G S d k).nb=A.nb/\(A.R5 D L G S d k).wait=A.wait/\(A.R5 D L G S d k).lost=A.lost:=by rw [Cd];exact Lu A _ _ k
abbrev bP:=List (Ob×a9)
def bP.os (xs:bP):List Ob:=xs.map (·.1)
def bP.names (xs:bP):List ByteArray:=aZ xs.os
structure uB (D:Nat) (x:Ob×a9):Prop where
 fit:x.1.fit
 st:x.1.RM.length=max 1 ((x.1.size+D*44-1)/(D*44))
 len:x.2.length=x.1.size
 byt:∀ b∈x.2,b<256
structure gU (A:aA) (D L G:Nat) (P:a9) (xs:bP):Prop where
 n:A.n=D+L+G
 wait:A.wait<0
 here:∀ i,A.lost i=ZT
 pl:P.length=pgs D (aG xs.os).length
 nod:(P++an xs.os).Nodup
 inb:∀ x∈P++an xs.os,2<=x/\x<A.nb
 fits:∀ x∈xs,uB D x
 up:Up xs.names
def gU.lost {A:aA} {xs:bP} (h:gU A D L G P xs):jK A D L G:=jK.here h.here D L G
theorem gU.congr {A B:aA} {xs:bP} (h:gU A D L G P xs) (a:B.n=A.n) (b:B.nb=A.nb) (c:B.wait=A.wait) (d:B.lost=A.lost):gU B D L G P xs:=
 ⟨a.trans h.n,by rw [c];exact h.wait,by rw [d];exact h.here,h.pl,h.nod,by rw [b];exact h.inb,h.fits,h.up⟩
def bP.ins (xs:bP) (x:Ob×a9):bP:=xs.take (aI xs.names x.1.name)++x::xs.drop (aI xs.names x.1.name)
def bP.del (xs:bP) (k:Nat):bP:=xs.take k++xs.drop (k+1)
def ml (xs:bP) (x:Ob×a9):(xs.ins x).Perm (x::xs):=by
 unfold bP.ins;refine List.perm_middle.trans ?_;rw [Wc]
def Lv (xs:bP) (x:Ob×a9):(xs.ins x).os=xs.os.take (aI xs.names x.1.name)++x.1::xs.os.drop (aI xs.names x.1.name):=by
 unfold bP.ins bP.os;rw [Uu,UD,Wi,Wj]
def Ig (xs:bP) (x:Ob×a9):(xs.ins x).names=xs.names.take (aI xs.names x.1.name)++x.1.name::xs.names.drop (aI xs.names x.1.name):=by
 unfold bP.names;rw [Lv];unfold aZ bP.names aZ;rw [Uu,UD,Wi,Wj]
def Lw (xs:bP) (k:Nat):(xs.del k).os=xs.os.take k++xs.os.drop (k+1):=by
 unfold bP.del bP.os;rw [Uu,Wi,Wj]
def Ih (xs:bP) (k:Nat):(xs.del k).names=xs.names.take k++xs.names.drop (k+1):=by
 unfold bP.names;rw [Lw];unfold aZ;rw [Uu,Wi,Wj]
def mT (xs:bP) (k:Nat):(xs.del k).Sublist xs:=by
 have a:(xs.take k++xs.drop (k+1)).Sublist (xs.take k++xs.drop k):=YD (YE _) (by rw [<- VF];exact List.drop_sublist _ _);rwa [Wc] at a
def Qh (o:Ob) (os:List Ob):an (o::os)=o.RM++an os:=by unfold an;rw [VR]
def xX (xs:bP) (x:Ob×a9):(an (xs.ins x).os).Perm (x.1.RM++an xs.os):=by
 have h:=(ml xs x).map (·.1);have:=h.flatMap_right (·.RM);rw [UD,VR] at this;exact this
def Ii (xs:bP) (x:Ob×a9):(aG (xs.ins x).os).length=(aG xs.os).length+(gT x.1).length:=by
 have h:=((ml xs x).map (·.1)).flatMap_right gT;rw [UD,VR] at h;have:=h.length_eq;rw [T5] at this;unfold aG bP.os;omega
def pf {α β:Type} (f:α->List β):∀ {l m:List α},l.Sublist m->(l.flatMap f).Sublist (m.flatMap f)
 | _,_,.slnil=>ek
 | _,_,.cons a h=>by rw [VR];exact (pf f h).trans (abz _ _)
 | _,_,.cons_cons a h=>by rw [VR,VR];exact YD (YE _) (pf f h)
def Ij (xs:bP) (k:Nat):(an (xs.del k).os).Sublist (an xs.os):=pf _ ((mT xs k).map _)
def Ik (xs:bP) (k:Nat):(aG (xs.del k).os).length<=(aG xs.os).length:=(pf gT ((mT xs k).map (Prod.fst:Ob×a9->Ob))).length_le
def Lz (h:m<=n):pgs D m<=pgs D n:=by
 unfold pgs;have:(m+(D*44-4)-1)/(D*44-4)<=(n+(D*44-4)-1)/(D*44-4):=XS eb;omega
def LA {A B:aA} {xs:bP} (h:gU A D L G P xs) (x:Ob×a9) (t:uB D x) (p:x.1.name∉xs.names) (r:P'.length=pgs D (aG (xs.ins x).os).length)
 (g:((x.1.RM++P')++(P++an xs.os)).Nodup) (o:∀ b∈(x.1.RM++P')++(P++an xs.os),2<=b/\b<A.nb) (j:B.n=A.n) (k:B.nb=A.nb) (l:B.wait=A.wait) (m:B.lost=A.lost):gU B D L G P' (xs.ins x):=by
 rw [Vc] at g;obtain ⟨n1,u,i⟩:=g;obtain ⟨v,w,z⟩:=Vc.1 n1;obtain ⟨E,C,F⟩:=Vc.1 u;refine ⟨j.trans h.n,by rw [l];exact h.wait,by rw [m];exact h.here,r,?_,?_,?_,?_⟩
 . have s:(P'++an (xs.ins x).os).Perm (P'++(x.1.RM++an xs.os)):=(xX xs x).append_left P';rw [s.nodup_iff,Vc];refine ⟨w,?_,?_⟩
   . rw [Vc];exact ⟨v,C,λa d b c=>i a (by simp [d]) b ZB⟩
   . intro a d b c;rcases Ub.1 c with c|c
     . exact λe=>z b c a d e.symm
     . exact i a (by simp [d]) b ZB
 . intro b c;rw [k];refine o b ?_;rcases Ub.1 c with c|c
   . simp [c]
   . have:=(xX xs x).mem_iff.1 c;rcases Ub.1 this with q|q<;>simp [q]
 . intro y f;rcases Un.1 ((ml xs x).mem_iff.1 f) with rfl|f
   . exact t
   . exact h.fits y f
 . rw [Ig];exact HU h.up p
def LB {A B:aA} {xs:bP} (h:gU A D L G P xs) (k:Nat) (m:P'.length=pgs D (aG (xs.del k).os).length)
 (l:(P'++(P++an xs.os)).Nodup) (e:∀ b∈P'++(P++an xs.os),2<=b/\b<A.nb) (f:B.n=A.n) (g:B.nb=A.nb) (i:B.wait=A.wait) (j:B.lost=A.lost):gU B D L G P' (xs.del k):=by
 have d:=Ij xs k;obtain ⟨n1,q,r⟩:=Vc.1 l;obtain ⟨t,s,u⟩:=Vc.1 q;refine ⟨f.trans h.n,by rw [i];exact h.wait,by rw [j];exact h.here,m,?_,?_,λx p=>h.fits x ((mT xs k).subset p),?_⟩
 . rw [Vc];exact ⟨n1,s.sublist d,λa o b c=>r a o b (Wn _ (d.subset c))⟩
 . intro b c;rw [g];refine e b ?_;rcases Ub.1 c with c|c
   . simp [c]
   . simp [d.subset c]
 . rw [Ih];exact Ld h.up k
theorem LC (q s:Nat) (d:1<=q):max 1 ((s+q-1)/q)<=s/q+1:=by
 have c:(s+q-1)/q<=(s+q)/q:=XS eb;rw [Nat.add_div_right _ eb] at c;generalize s/q=a at c ⊢;generalize (s+q-1)/q=b at c ⊢;omega
def mn (hD:1<=D):∀ {xs:bP},(∀ x∈xs,uB D x)->(aG xs.os).length<=xs.length*(19+4*(1500/(D*44)+1))
 | [],_=>by simp [aG,bP.os]
 | x::xs,h=>by
  have:=mn hD (xs:=xs) (λy c=>h y ZB);have a:=h x ek;have b:=LC (D*44) x.1.size eb;rw [<- a.st] at b;have:x.1.size/(D*44)<=1500/(D*44):=XS a.fit.size;have e:aG (bP.os (x::xs))=gT x.1++aG (bP.os xs):=by unfold bP.os aG;rw [UD,VR]
  rw [e,T5,fY a.fit,Um,Xi];omega
def EA {A:aA} {xs:bP} (h:gU A D L G P xs) {count pages l:Nat} (c:pages=pgs D ((aG xs.os).length+l)) (d:(an xs.os).length+count+2*pages+2<=A.nb) :
 count+pages<=(aX (tk A.nb (P++an xs.os)).1 A.nb).length:=by
 have a:=l9 h.nod h.inb;have b:=Lz (D:=D) (eb:(aG xs.os).length<=(aG xs.os).length+l);rw [<- c,<- h.pl] at b;rw [T5] at a;omega
def de (x:ByteArray):Bool:=decide (1<=x.size/\x.size<=16)
theorem dg (x:ByteArray) (w:ZS):ZQ ZP 80 #[ZZ x] w λe w'=>e=Z3 (Z1 (de x))/\w'=w:=by
 have g:de x=(decide (1<=x.size)&&decide (x.size<=16)):=by unfold de;simp
 rw [g];obtain ⟨n,f⟩:=nM (x.size);rw [f];by_cases b:1<=n
 . have a:(1:Int)<=(n:Int):=eb;by_cases c:n<=16
   . have d:(n:Int)<=16:=eb;go_enter func80,ntmps80;go_wp2;go_ret;exact ⟨by simp [b,c],rfl⟩
   . have d:¬ (n:Int)<=16:=eb;go_enter func80,ntmps80;go_wp2;go_ret;exact ⟨ek,rfl⟩
 . have a:¬ (1:Int)<=(n:Int):=eb;go_enter func80,ntmps80;go_wp2;go_ret;exact ⟨ek,rfl⟩
theorem uC (s:ByteArray) (w:ZS) (l:¬ s.size=0) (A:s.size<=1000000):ZQ ZP 144 #[ZZ s] w λe w'=>e=Z3 (ZZ s)/\bW w w':=by
 obtain ⟨i,d,v,a,y⟩:=Ur Tryz.Sg;have m:(ZP.info? 5).map (·.size)=ZV 1:=by rw [d];simp [a]
 have r:ZP.cellsOf 5=1:=by simp [Program.cellsOf,d,a]
 obtain ⟨M,b⟩:∃ M,M=madeCells (Value.int .u8 0).cells (((s.size:Nat):Int).toNat*i.size):=⟨_,rfl⟩;have B:M.size=s.size:=by rw [b,size_madeCells,a];simp
 have D:∀ W:ZS,(Instr.makeSlice 31 (Z7 Z9 (s.size:Int)) (Z7 Z9 (s.size:Int))).run ZP W=.ok (Z5 (ZV ⟨W.heap.size,0,ZW⟩) s.size s.size) (W.alloc (Z4 M 5)):=λW=>by
  have h:=run_make (P:=ZP) W 31 5 i (Z7 .u8 0) Ui d v .i64 .i64 (s.size:Int) (s.size:Int) eb eb (by rw [y];omega) eb;rw [<- b] at h;simpa using h
 clear b;have t:=Lib.run_copy_row_string (P:=ZP) (w.alloc (Z4 M 5)) 31 9 3 5 w.heap.size 0 s.size s.size s M 5 Ui m (Yh w _) lR eb;obtain ⟨Y,c⟩:∃ Y,Y=(M.toList.take 0++Lib.byteCells s.data.toList++M.toList.drop (0+s.size)).toArray:=⟨_,rfl⟩;rw [<- c] at t;have f:Y.toList=Lib.byteCells s.data.toList:=by
  rw [c,List.toList_toArray,VQ,Uk,List.drop_of_length_le (by rw [Wm];omega),V7]
 have C:Y.size=s.size:=by rw [<- Wm,f,Lib.byteCells_length,<- XT]
 have g:((w.alloc (Z4 M 5)).setRow w.heap.size Y).heap[w.heap.size]?=ZV (Z4 Y 5 (0,0)):=U3 _ _ M _ 5 (0,0) (Yh w _);have u:s.data.toList≠[]:=λe=>l (by rw [XT,e];rfl);have n:=Lib.run_unsafeString_row (P:=ZP) ((w.alloc (Z4 M 5)).setRow w.heap.size Y) 281 3 9 5 underlying281 r w.heap.size Y.size (by unfold World.shape?;rw [g]) s.data.toList u (by rw [<- XT];omega) (by rw [<- XT];omega)
  (λj x z=>Lib.cells_of_row g Y.size j _ (by rw [UU (by rw [Wm];exact TV _),f];simp [Lib.byteCells,z]))
 rw [<- XT] at n;clear c;go_enter func144,ntmps144;go_wp2;go_ret;have o:bW w (w.alloc (Z4 M 5)):=bA w _;have q:Below w.heap.size (w.alloc (Z4 M 5)) ((w.alloc (Z4 M 5)).setRow w.heap.size Y):=⟨rfl,rfl,rfl,ek,λk E=>setRow_other _ _ _ _ eb⟩;exact ⟨rfl,Lib.below_freeze (o.trans q) (p:=⟨w.heap.size,0,ZW⟩) lR _⟩
theorem uD (s:ByteArray) (w:ZS) (c:¬ s.size=0) (d:s.size<=1000000):ZQ ZP 107 #[ZZ s] w λe w'=>e=Z3 (ZZ s)/\bW w w':=by
 have b:=uC s w c d;go_enter func107,ntmps107;go_wp2_with fail;refine b.mono ?_;rintro e w1 ⟨rfl,a⟩;have H:=al a;clear a b;go_wp2;go_ret;exact ⟨rfl,H.out⟩
def mV {A:aA} (h:A.fit) {D L G:Nat} (hD:D<=12) (hG:G<=4) (f:A.n=D+L+G) (S d:a9):∀ k,(A.R5 D L G S d k).fit
 | 0=>h
 | k+1=>(mV h hD hG f S d k).putAt _ _ _ λi c=>by
  rw [Uq,f] at c;have a:i<(bJ D L G (mj D d k)).length:=by rw [jf];exact c
  have e:(bJ D L G (mj D d k)).getD i []=(bJ D L G (mj D d k))[i]:=Zv
  have b:(bx.shard ((bJ D L G (mj D d k)).getD i [])).ok:=by rw [e];exact l8 hD hG _ i a
  exact ⟨dJ b,fO b⟩
def Qi {off c:Nat} {d:a9} (h:Bs w (Z5 (ZV ⟨b,off,ZW⟩) n c) d) (z:n=d.length) {ks m a:Nat} (q:((d.drop ks).take m).length=a) (y:ks+a<=n):Bs w (Z5 (ZV ⟨b,off+ks,ZW⟩) a (c-ks)) ((d.drop ks).take m):=by
 obtain ⟨ao,t,e,u,v,j,l⟩:=h;simp only [Vt] at e;obtain ⟨rfl,_,rfl⟩:=e;refine ⟨_,_,by rw [q],eb,eb,λx r=>j x (UV (US r)),λhl=>⟨b,off+ks,rfl,λk i=>?_⟩⟩;obtain ⟨s,g,f,p⟩:=l (λe=>by rw [e] at hl;simp at hl);simp only [UC,XO] at f;obtain ⟨rfl,rfl,_⟩:=f;have o:k<m:=by rw [Ud] at i;omega
 rw [Vb,p (ks+k) eb];simp only [T6,VP o,VM]
def Qj (w:ZS) (p:Nat) (A:aA) (F:aR) (B:aA) (e:Ending) (w':ZS):Prop:=e=Z3 .nilIface/\aj w' p B F/\aa (F.has p A.n) w w'
theorem rP {ar L' G' t f nn:Nat} {pg ob:ZR} {ofb:Bool} {A:aA} (r:bf w ar v D' L' G' t f nn pg ob ofb) (s:rp w v p D L G ps ho A F) (hF:m8 F p A.n v) (kg:¬ F.has p A.n ar) (hf:A.fit) (hn:A.n=D+L+G) (hr:cJ D L G=ZU) (kb:1<=D) (hD:D<=12) (hL:1<=L) (kc:L<=4) (hG:G<=4) (hj:D%L=0) (ka:D+L+G<=16)
 (hw:A.wait<0) (hc:jK A D L G) (nm:ByteArray) (sv:ZR) (S:a9) (C:bp (λk=>¬ F.has p A.n k) w sv S) (ke:∀ x∈S,x<A.nb) (b off c:Nat) (d:a9) (M:∀ w',aa (F.has p A.n) w w'->Bs w' (Z5 (ZV ⟨b,off,ZW⟩) d.length c) d) (kk:d.length<=1500) (ki:d.length<c) (hs:∀ k,k<S.length->k*(D*44)<=d.length) :
 ZQ ZP 108 #[Z6 (ZV ⟨ar,0,ZW⟩),.agg #[ZZ nm,Z7 Z9 (d.length:Nat),sv],Z5 (ZV ⟨b,off,ZW⟩) d.length c] w (Qj w p A F (A.R5 D L G S d S.length)):=by
 obtain ⟨O,P,rfl,hx,_⟩:=id C;obtain ⟨c0,_⟩:=r.cells;have k8:=λW (hW:bW w W)=>cG (s.vol.keep (hW.block _ s.vol.lt)) eb;obtain ⟨sz,N⟩:=nM (D*44);have kz:44<=sz/\sz<=528:=eb
 have m:bW w (w.alloc (Z4 #[ZZ nm,Z7 Z9 (d.length:Nat),.slice O S.length P] 130)):=bA w _;have l:ay (w.alloc (Z4 #[ZZ nm,Z7 Z9 (d.length:Nat),.slice O S.length P] 130)) w.heap.size 130 [ZZ nm,Z7 Z9 (d.length:Nat),.slice O S.length P]:=UG w _;obtain ⟨n,o⟩:=nM (d.length);rw [o] at m l ki kk ⊢;have g2:=l.cell (j:=2) (u:=.slice O S.length P) rfl;have I:=(m.cell (p:=⟨ar,0,ZW⟩) r.lt).trans c0;have T:=k8 _ m;obtain ⟨w1,q0⟩:=nM (w.alloc (Z4 #[ZZ nm,Z7 Z9 (n:Nat),.slice O S.length P] 130));rw [q0] at T g2 I m l;rw [N] at T hs;have R:=hide8 r s C M m l o N;clear r s C M k8 m l o c0;go_enter func108,ntmps108;go_wp2_with fail;refine T.mono ?_;rintro e Q ⟨rfl,rfl⟩;clear T;go_wp2;go_loopw [19] (λi wr=>∃ k:Nat,i=Z7 Z9 (k:Nat)/\k<=S.length/\aj wr p (A.R5 D L G S d k) F/\aa (F.has p A.n) Q wr) (λi _=>S.length-(intOf i).toNat)
 case atStart=>exact ⟨0,rfl,T3 _,R.out.2.1.arr.below R.out.2.2.2.2.1 lR,aa.refl _ _⟩
 case round=>
  clear g2 I;obtain ⟨k,rfl,hk,U,B⟩:=hrel;by_cases z:k<S.length
  . obtain ⟨r,s,C,M,m,l,o,N⟩:=R.out;have K:aa (F.has p A.n) w wr:=(aa.RO m _).trans B;obtain ⟨sb,so,hb,e1,hz⟩:=sn (C.keep (dN.Sl K)) (λe=>by rw [e] at z;simp at z);simp only [Vt] at e1;obtain ⟨rfl,_,rfl⟩:=e1;have g1:=hz k z;obtain ⟨y,V⟩:=nM (S[k]);rw [V] at g1;have q1:y<A.nb:=(by rw [<- V];exact ke _ (T4 z));have Z:=r.keep (K.block _ r.lt kg);obtain ⟨ca,_⟩:=Z.cells;have ky:¬ F.has p A.n w.heap.size:=λh=>by have:=s.arr.RQ h;omega
    have hi:ay wr w.heap.size 130 _:=l.keep (B.block _ l.lt ky);have cz:=hi.cell (j:=1) (u:=Z7 Z9 (n:Nat)) rfl;have k6:=hs k z;obtain ⟨g,k7⟩:=nM (k*sz);obtain ⟨a,hm⟩:=nM ((k+1)*sz);have Y:(k+1)*sz=k*sz+sz:=Wz k sz;have kr:(k:Int)*(sz:Int)=((k*sz:Nat):Int):=(by rw [XD]);have kv:((k:Int)+1)*(sz:Int)=(((k+1)*sz:Nat):Int):=(by rw [XD];rfl);rw [k7] at kr Y k6;rw [hm] at kv Y;rw [o] at k6;obtain ⟨bb,kh⟩:=nM (min a n);have q2:g<=bb:=eb;have q3:bb<=c:=eb;have k5:mj D d k=(d.drop g).take sz:=(by unfold mj;rw [N,k7]);have X:((d.drop g).take sz).length=bb-g:=abX;have kx:∀ H ty w,(Builtin.min_ H ty #[Z7 Z9 (a:Nat),Z7 Z9 (n:Nat)]).run ZP w=.ok (Z7 Z9 (bb:Nat)) w:=λH ty w=>by
     rw [gy];by_cases J:((n:Nat):Int)<((a:Nat):Int)
     . rw [if_pos J,(eb:bb=n)]
     . rw [if_neg J,(eb:bb=a)]
    have q:=FN A D L G S d k;have k9:ZQ ZP 145 #[Z6 (ZV ⟨v,0,ZW⟩),Z7 Z9 y,Z5 (ZV ⟨b,off+g,ZW⟩) (bb-g) (c-g)] wr.drew λe w'=>e=Z3 .nilIface/\aj w' p (A.R5 D L G S d (k+1)) F/\aa (F.has p A.n) Q w':=by
     have kf:rp wr.drew v p D L G ps ho (A.R5 D L G S d k) F:=s.turn hF (K.trans (aa.drew _)) (U.keep λ_ _=>rfl);have k0:=M wr.drew (K.trans (aa.drew _));rw [o] at k0;refine (lf kf (by rw [q.1];exact hF) (mV hf hD hG hn S d k) (by rw [q.1];exact hn) hr kb hD hL kc hG hj ka y (by rw [q.2.1];exact q1) (by rw [q.2.2.1];exact hw) (hc.congr q.1 q.2.2.2) _ _ (Qi k0 o.symm X eb) (by rw [X];omega)).mono ?_;rintro e w' ⟨rfl,J,h2⟩;rw [q.1] at J h2;refine ⟨rfl,?_,B.trans ((aa.drew _).trans h2)⟩;have:A.R5 D L G S d (k+1)=(A.R5 D L G S d k).putAt (YC A.n) y (λi=>(bx.shard ((bJ D L G ((d.drop g).take sz)).getD i [])).blk):=by
      rw [aA.R5,k5,sy z,V]
     rw [this];exact J
    have HW:=aE k9 Z hi;have kj:¬ c=g:=eb;have q4:IntKind.i64.wrap ((k:Int)+1)=(k:Int)+1:=iE;have ko:IntKind.i64.wrap (g:Int)=(g:Int):=iE;have kp:IntKind.i64.wrap (a:Int)=(a:Int):=iE;clear k9 Z hi B K U q k5 X hz V r s C M m l o N kh Y;go_wp2;go_region_with (go_at_call 145;refine HW.out.1.mono ?_;rintro e w2 ⟨rfl,hp,hq⟩;have E:=au hp hq;clear hp hq);all_goals (
     go_wp2;go_roundw
     case rel=>exact ⟨k+1,e8,eb,E.out.1,E.out.2⟩
     case measure=>simp only [intOf];omega)
  . have km:k=S.length:=eb;subst km;have E:=au U B;clear U B;go_wp2;go_ret;exact ⟨rfl,E.out.1,(aa.RO R.out.2.2.2.2.1 _).trans E.out.2⟩
def vZ (N:Nat) (ds:a9) (R:Nat->a9):List a9:=(YC N).map λi=>if i∈ds then R i else []
def LD (N:Nat) (ds:a9):Nat:=Bk (((YC N).filter λi=>decide (i∉ds)).map λi:Nat=>⟨0,0,(i:Int),0⟩)
theorem ph (N:Nat) (ds:a9) (i:Nat):(LD N ds).testBit i=ZU↔i<N/\i∉ds:=by
 unfold LD;rw [oQ];constructor
 . rintro ⟨s,f,_,a⟩;obtain ⟨j,e,rfl⟩:=T1.1 f;obtain ⟨c,d⟩:=Vq.1 e;have:j=i:=a;subst this;exact ⟨Uq.1 c,of_decide_eq_true d⟩
 . rintro ⟨b,a⟩;exact ⟨_,T1.2 ⟨i,Vq.2 ⟨Uq.2 b,decide_eq_true a⟩,rfl⟩,rfl,rfl⟩
def uE (N:Nat) (ds:a9) (R:Nat->a9):(vZ N ds R).length=N:=by simp [vZ]
def uF (a:i<N):(vZ N ds R).getD i []=if i∈ds then R i else []:=by simp [vZ,a]
def LF (h:w.heap[bl]?=ZV (Z4 (aJ l).toArray 233 (0,0))) (hl:l.length=44) (c:∀ x∈l,x<256):Bs w (Z5 (ZV ⟨bl,0,ZW⟩) 44 44) l:=by
 refine ⟨ZV ⟨bl,0,ZW⟩,44,by rw [hl],eb,eb,c,λ_=>⟨bl,0,rfl,λk a=>?_⟩⟩;have e:(aJ l)[k]?=ZV (Z7 .u8 ((l.getD k 0:Nat):Int)):=by
  unfold aJ;rw [Ul,T2 a];simp [a]
 have b:(aJ l).toArray[k]?=ZV (Z7 .u8 ((l.getD k 0:Nat):Int)):=vE e
 simp [World.cell?,h,b]
def OS (n:w.rowIs g 31 N f) (o:∀ i∈ds,(R i).length=44/\∀ x∈R i,x<256) (j:Kn w base vX f R ds):In w g (vZ N ds R) (LD N ds):=by
 intro i c;have b:i<N:=by rw [uE] at c;exact c
 have p:(vZ N ds R)[i]=if i∈ds then R i else []:=by rw [<- uF b];simp [c]
 have h:=n.cell b;refine ⟨λa=>?_,λa=>?_⟩
 . rw [h,j.1 i ((ph N ds i).1 (tY.1 a)).2];rfl
 . have d:i∈ds:=by
    by_cases q:i∈ds
    . exact q
    . exact absurd (tY.2 ((ph N ds i).2 ⟨b,q⟩)) a
   obtain ⟨bl,k,_,_,l⟩:=j.2 i d;obtain ⟨e,m⟩:=o i d;rw [p,if_pos d,e];exact ⟨⟨bl,0,ZW⟩,44,by rw [h,k],LF l e m⟩
theorem xY (a:∀ i∈ds,(R i).length=44/\∀ x∈R i,x<256):∀ l∈vZ N ds R,l.length<=100000:=by
 intro l hl;unfold vZ at hl;obtain ⟨i,_,rfl⟩:=T1.1 hl;split
 . rename_i h;rw [(a i h).1];omega
 . simp
def xZ {row:a9} (h:aM w bl l) (g:m<=l.length) (e:l.take m=row):w.rangeAt bl 0 (aJ row)/\row.length=m:=by
 have c:row.length=m:=by rw [<- e,Ud];omega
 refine ⟨λj u a=>?_,c⟩;unfold aJ at a;rw [Ul,VU] at a;obtain ⟨x,b,rfl⟩:=a;have f:j<row.length:=(UT.1 b).1;have d:=Yw h (i:=j) eb;rw [Uc];rw [d];unfold vb;have:l.getD j 0=x:=by
  rw [<- e,Xx,if_pos eb] at b;rw [T6,b];rfl
 rw [this]
def jh (h:w.heap[bl]?=ZV (Z4 (aJ l).toArray 233 (0,0))):w.rangeAt bl 0 (aJ l):=λj u a=>by simp [World.cell?,h];simpa using a
theorem sA (e:gone<65536) (f:sp<65536) {i:Nat}:i∈vY ds (ae (Db (Db S gone) sp))↔i∈ae S/\gone.testBit i=ZT/\sp.testBit i=ZT/\i∉ds:=by
 rw [FM,su f,su e];constructor
 . rintro ⟨⟨⟨a,b⟩,c⟩,d⟩;exact ⟨a,b,c,d⟩
 . rintro ⟨a,b,c,d⟩;exact ⟨⟨⟨a,b⟩,c⟩,d⟩
def qK (h:¬ x.testBit i=ZU):x.testBit i=ZT:=by cases q:x.testBit i;rfl;exact absurd q h
section
theorem EB (s i:Nat) (g:s<65536) (f:i<16) (w:ZS):ZQ ZP 199 #[Z7 Z8 s,Z7 Z9 i] w λe w'=>e=Z3 (Z1 (s.testBit i))/\w'=w:=by
 have key:(bits .and .u64 ((s:Int)/2^i) 1==1)=s.testBit i:=by
  have e:((s:Int)/2^i)=((s/2^i:Nat):Int):=by rw [X4,X3];rfl
  have d:s/2^i<=s:=VK _ _;have b:=gh (s/2^i) 1 eb ec;rw [e,show ((1:Int))=((1:Nat):Int) from rfl,b,Nat.and_one_is_mod,abb];by_cases c:s/2^i%2=1
  . rw [c];rfl
  . have a:s/2^i%2=0:=eb;rw [a];rfl
 go_enter func199,ntmps199;go_wp2;go_ret;exact ⟨by rw [<- key];rfl,rfl⟩
def N3 {e:Nat} {v:ZR} {xs:List ZR} (b:w.ownsRow base e s v n xs):∃ ao m a,v=.slice ao m a:=by
 rcases b.2 with ⟨rfl,_⟩|⟨g,cap,cur,rfl,_⟩
 . exact ⟨_,_,_,rfl⟩
 . exact ⟨_,_,_,rfl⟩
def qM:Ending:=Z3 (ZY #[.agg #[Z7 Z9 0,Z5 ZW 0 0],.iface 54 (Z7 Z9 3)])
def GrA (D L G lost:Nat) (w w':ZS) (z:Int) (ao:Option Addr) (m c:Nat) (er:ZR):Prop:=bW w w'/\((er=.iface 54 (Z7 Z9 3)/\z=0/\ao=ZW/\m=0/\c=0)\/(er=.nilIface/\∃ s C,(∀ i,lost.testBit i=ZU->s.testBit i=ZU)/\tells (lS D L G) (ae (aC (D+L+G) s))=ZV C/\z=1+((ae (aC (D+L+G) s)).length:Int)/\w'.ownsRow w.heap.size 288 4 (.slice ao m c) (di D L G s C).length (dW .u8 (di D L G s C))))
def Qk (D L G lost:Nat) (w:ZS) (e:Ending) (w':ZS):Prop:=∃ z ao m c er,e=Z3 (ZY #[.agg #[Z7 Z9 z,.slice ao m c],er])/\GrA D L G lost w w' z ao m c er
def Qk.no {lost:Nat} (h:bW w w'):Qk D L G lost w qM w':=⟨0,ZW,0,0,_,rfl,h,.inl ⟨rfl,rfl,rfl,rfl,rfl⟩⟩
def aad (w:ZS) (D L G lost cb:Nat) (lv iv:ZR) (wr:ZS):Prop:=
 ∃ (k s:Nat) (C:Ck),k<=D+L+G/\lv=Z7 Z8 (s:Nat)/\iv=Z7 Z9 ((D+L+G:Nat)-1-(k:Int))/\aH wr cb C/\(∃ K,tells (lS D L G) K=ZV C)/\(∀ i,lost.testBit i=ZU->s.testBit i=ZU)/\s<2^(D+L+G)/\CI w D L G wr/\cb<wr.heap.size/\w.heap.size+2<=cb
section
variable (D L G lost:Nat) (hr:cJ D L G=ZU) (hD1:1<=D) (hD:D<=12) (hL:1<=L) (hL4:L<=4) (hG:G<=4) (hdiv:D%L=0) (h16:D+L+G<=16) (hl:lost<2^(D+L+G))
include hr hD1 hD hL hL4 hG hdiv h16 hl
def rE (w:ZS) (j:aK w) (g:3<=w.heap.size):ZQ ZP 190 #[.agg #[Z7 Z9 D,Z7 Z9 L,Z7 Z9 G],Z7 Z8 lost] w (Qk D L G lost w):=by
 have:lost<65536:=TY hl (je h16);refine (vW D L G lost hr hD1 hD hL hL4 hG hdiv h16 eb w j g).mono ?_;rintro e w1 ⟨a,f⟩;rcases f with ⟨l,rfl⟩|⟨c,v,h,rfl,b⟩
 . exact Qk.no a
 . obtain ⟨ao,m,d,rfl⟩:=N3 b;exact ⟨_,ao,m,d,_,rfl,a,.inr ⟨rfl,lost,c,λi q=>q,h,rfl,b⟩⟩
theorem Ce (w:ZS) (hT:aK w) (b:3<=w.heap.size):ZQ ZP 189 #[.agg #[Z7 Z9 D,Z7 Z9 L,Z7 Z9 G],Z7 Z8 lost] w (Qk D L G lost w):=by
 have ks:lost<65536:=TY hl (je h16);have g:=CI.new w D L G;have o:((w.alloc (Z4 #[Z7 Z9 (D:Int),Z7 Z9 (L:Int),Z7 Z9 (G:Int)] 26)).alloc (Z4 #[Z7 Z9 0,Z5 ZW 0 0] 189)).heap.size=w.heap.size+2:=ek
 obtain ⟨Q,R,S⟩:=eu g.par;have ki:=kZ D L G lost hr hD1 hD hL hL4 hG hdiv h16 ks _ (hT.mono eb g.below) (TU b g.below.size);have T:=aE g o ki;clear g o ki;go_enter func189,ntmps189;go_wp2_with fail;refine T.out.2.2.mono ?_;rintro e w1 ⟨y,hy⟩;obtain ⟨g,o,_⟩:=T.out;try change Below _ _ _ at y
 rw [o] at y;have r:=y.size;try change Below _ _ _ at r
 rw [o] at r;have V:=g.mono y lR;have hz:=zeroCk;have Y:∀ C,bW w1 ((w1.alloc (Z4 (aV dq) 322)).setRow w1.heap.size (aV C)):=λC=>(bA _ _).grown (aP _ _ _) ek (λk e=>D2);rcases hy with ⟨q7,rfl⟩|⟨C,J,rfl⟩
 . have f:=V.mono (Y dq) r;obtain ⟨r0,r1,g1,g0⟩:=az f.res;have t:=al f;clear T g o y V Y f;go_wp2_with (refine V9 rfl 322 (Z0 6) (Z0 13) rfl w1.heap.size (aV dq) rfl rfl 322 (aV dq) (aH.new w1 dq).heap (dA _) rfl (mO _) ?_);obtain ⟨n0,n1,_⟩:=az (gE (y':=Z5 ZW 0 0) (gD (x':=Z7 Z9 0) t.out.res));refine Uf (v:=ZY #[.agg #[Z7 Z9 0,Z5 ZW 0 0],.iface 54 (Z7 Z9 3)]) (by simp [results,results189,go_sem,n0,n1]) rfl (Qk.no ?_);exact (t.out.below.setCell (p:=⟨w.heap.size+1,0,ZW⟩) eP _).setCell (p:=⟨w.heap.size+1,1,ZW⟩) eP _
 have x:aH ((w1.alloc (Z4 (aV dq) 322)).setRow w1.heap.size (aV C)) w1.heap.size C:=(aH.new w1 dq).setRow C;have f:=V.mono (Y C) r;obtain ⟨Q,R,S⟩:=eu f.par;have t:=a5 x f r J;clear T g o y V Y x f J;go_wp2_with (refine V9 rfl 322 (Z0 6) (Z0 13) rfl w1.heap.size (aV C) rfl rfl 322 (aV dq) (aH.new w1 dq).heap (dA _) rfl (mO _) ?_);obtain ⟨w5,ko⟩:=nM ((w1.alloc (Z4 (aV dq) 322)).setRow w1.heap.size (aV C));rw [ko] at t Q R S ⊢;clear ko hz;refine (dU D L G _ eb eb eb).mono ?_;rintro e w6 ⟨rfl,Z⟩;obtain ⟨x,f,r,J⟩:=t.out;have l:=(TW.1 x.heap).1;have he:aad w D L G lost w1.heap.size (Z7 Z8 (lost:Nat)) (Z7 Z9 ((D:Int)+L+G-1)) w6:=⟨0,lost,C,T3 _,rfl,by congr 1;omega,x.keep (Z.block _ l),⟨_,J⟩,λ_ q=>q,hl,f.mono Z eb,TY l Z.size,r⟩;have kg:=al he;clear Q R S x f l Z he t J;go_wp2;go_loopw [1,8] (λlv iv wr=>aad w D L G lost w1.heap.size lv iv wr) (λ_ iv _=>(intOf iv+1).toNat)
 case atStart=>exact kg.out
 case round=>
  clear kg;rename ZS=>wo;obtain ⟨k,s,C1,hk,rfl,rfl,ka,⟨K,hK⟩,u,P,a,l,kh⟩:=hrel;have kx:s<65536:=TY P (je h16);by_cases kk:k<D+L+G
  . obtain ⟨i,hi⟩:∃ i,i=D+L+G-1-k:=⟨_,rfl⟩;have N:((D+L+G:Nat):Int)-1-(k:Int)=(i:Int):=eb;rw [N];have ky:=tQ w1.heap.size i C1 wo ka (zL hD hL4 hG hK) eb;have ke:i<16:=eb;have HN:=hide7 a ka l kh u P hK;have d:=aE hi kk N;clear a ka l kh N hi kk u P hK;go_wp2_with fail;refine (EB s i kx ke wo).mono ?_;rintro e w2 ⟨rfl,kz⟩;subst kz;cases hb:s.testBit i with
    | true=>
     go_wp2;go_roundw
     case rel=>
      obtain ⟨b,U,A,B,E,F,I⟩:=HN.out;exact ⟨k+1,s,C1,eT d.out,rfl,abN,U,⟨K,I⟩,E,F,b,A,B⟩
     case measure=>have:=d.out;simp [intOf]<;>omega
    | false=>
     go_wp2_with fail;refine ky.mono ?_;rintro e w3 (⟨q6,rfl,q4⟩|⟨C',kb,rfl,X,n⟩)
     . subst q4;go_wp2;go_roundw
       case rel=>
        obtain ⟨b,U,A,B,E,F,I⟩:=HN.out;exact ⟨k+1,s,C1,eT d.out,rfl,abN,U,⟨K,I⟩,E,F,b,A,B⟩
       case measure=>have:=d.out;simp [intOf]<;>omega
     . have H3:=aE kb X n;clear kb X n;go_wp2_with fail;refine (iM s i eb eb w3).mono ?_;rintro e w4 ⟨rfl,q5⟩;subst q5;go_wp2;go_roundw
       case rel=>
        obtain ⟨b,U,A,B,E,F,I⟩:=HN.out;obtain ⟨kb,X,n⟩:=H3.out;have kv:=b.below.size;exact ⟨k+1,s|||2^i,C',eT d.out,rfl,abN,X,⟨K++[i],by rw [jS,I];exact kb⟩,λj q=>by rw [VA,E j q];rfl,V0 F (VC ec (eT d.out)),
         ⟨(n.block _ eb (λe=>eT (UA e))).trans b.par,(n.block _ eb (λe=>eT (UA e))).trans b.res,b.below.grown n kv (λq e=>eT (UA e))⟩,TY A n.size,B⟩
       case measure=>have:=d.out;simp [intOf]<;>omega
  . have kr:k=D+L+G:=eb;subst kr;have N:((D+L+G:Nat):Int)-1-((D+L+G:Nat):Int)=-1:=eb;rw [N];have kj:=rE D L G s hr hD1 hD hL hL4 hG hdiv h16 P wo (hT.mono eb a.below) (TU b a.below.size);obtain ⟨Q,R,S⟩:=eu a.par;have H:=aE u kj a;clear kj a ka l u hK P;go_wp2_with fail;refine H.out.2.1.mono ?_;rintro e w3 ⟨z,ao,m,c,er,rfl,M,W⟩;have a:=H.out.2.2;have kp:=(TW.1 a.res).1;have O:=(M.block _ kp).trans a.res;obtain ⟨r0,r1,g1,g0⟩:=az O;have H3:=a5 W M O kp;clear W M O Q R S a;go_wp2;obtain ⟨W,M,O,hs⟩:=H3.out;obtain ⟨n0,n1,_⟩:=az (gE (y':=.slice ao m c) (gD (x':=Z7 Z9 z) O));refine Uf (v:=ZY #[.agg #[Z7 Z9 z,.slice ao m c],er]) (by simp [results,results189,go_sem,n0,n1]) rfl ?_;obtain ⟨u,_,a⟩:=H.out;have kc:bW w w3:=a.below.trans (M.mono a.below.size);refine ⟨z,ao,m,c,er,rfl,(kc.setCell (p:=⟨w.heap.size+1,0,ZW⟩) eP _).setCell (p:=⟨w.heap.size+1,1,ZW⟩) eP _,?_⟩;rcases W with q|⟨q0,s',C,q1,q2,q3,km⟩
    . exact .inl q
    . have hp:(Value.slice ao m c).ownBlock≠ZV (w.heap.size+1):=λe=>by have:=jI km e;omega
      have kf:=(km.kept (cT w3 (w.heap.size+1) 0 (Z7 Z9 z)) (.inr hp)).kept (cT _ (w.heap.size+1) 1 (.slice ao m c)) (.inr hp);exact .inr ⟨q0,s',C,λi h=>q1 i (u i h),q2,q3,fW kf (eT a.below.size)⟩
end
end
def VF4 (r v x b:Nat) (Xv:ZR) (K:ZR->ZS->Prop) (i:Nat) (u:ZR) (W:ZS):Prop:=if i<9 then u=(aaM r v x b Xv ZX).getD i ZX else if i<11 then ∃ Y,u=ZY #[Xv,Y]/\K Y W else if i=11\/i=13 then u=Xv else K u W
theorem uG {l:Nat} {Xv:ZR} {K:ZR->ZS->Prop} (x:Nat) (Z:ZQ ZP 96 #[Z6 (ZV ⟨v,0,ZW⟩),Z7 Z9 x,Z7 Z9 b] w.drew λe w'=>∃ Y,e=Z3 (ZY #[Xv,Y])/\K Y w') (U:Boxed w q 164 (Z6 (ZV ⟨r,0,ZW⟩))) (hr:cP w r v b g N gone sp) (hf:RF4=ops) (hq:a.tmps.size=100)
 (M:a.eval (Z0 2)=Z6 (ZV ⟨q,0,ZW⟩)) (T:a.eval (Z0 4)=Z7 Z9 x)
 (X:∀ (w':ZS) (E G H F:ZR),K E w'->K G w'->K H w'->K F w'->Q .normal (Act.RL (Act.RL a 5 [Xv,E]) 30 [ZY #[Xv,G],Z6 (ZV ⟨r,0,ZW⟩),Z6 (ZV ⟨r,0,ZW⟩),Z6 (ZV ⟨r,0,ZW⟩),Z6 (ZV ⟨v,0,ZW⟩),Z7 Z9 x,Z6 (ZV ⟨r,0,ZW⟩),Z6 (ZV ⟨r,0,ZW⟩),Z6 (ZV ⟨r,1,ZW⟩),Z7 Z9 b,ZY #[Xv,H],Xv,F]) w'):(Code.region 4 ops ZU).wpIn (Fence.wide.inRound l) n ZP Q a w:=by
 subst hf;have L:=U.cell;obtain ⟨S,c1,_⟩:=hr.cells;refine bu ei GV a w eb (VF4 r v x b Xv K) (MQ w λW=>∃ Y,K Y W) rfl ?_ ?_
 . intro i I;match i,I with
   | 0,_=>
    intro o k w' Dn B ho s z y p t m d;have u0:k.eval (Z0 2)=Z6 (ZV ⟨q,0,ZW⟩):=(z.slot 2 eb).trans M;have D:w'=w.drew:=by
     have A:=m;unfold MQ at A;rwa [if_neg (λe=>by have q:=((p 1 ((p 2 ((p 3 ((p 9 e).2 3 ec)).2 2 ec)).2 1 ec)).2 0 ec);rw [y] at q;cases q)] at A
    have J:w'.cell? ⟨q,0,ZW⟩=ZV (Z6 (ZV ⟨r,0,ZW⟩)):=(by rw [D];exact L);exact ak (v:=Z6 (ZV ⟨r,0,ZW⟩)) ee ej s ⟨dO m 0 ec,rfl,kq⟩
   | 1,_=>
    intro o k w' Dn B ho s z y p t m d;have u0:k.eval (Z0 31)=Z6 (ZV ⟨r,0,ZW⟩):=d 0 (t 0 ec);exact ak (dR ho u0 w') ej s ⟨dO m 1 ec,rfl,kq⟩
   | 2,_=>
    intro o k w' Dn B ho s z y p t m d;have u0:k.eval (Z0 32)=Z6 (ZV ⟨r,0,ZW⟩):=d 1 (t 1 ec);exact ak (v:=Z6 (ZV ⟨r,0,ZW⟩)) ee ej s ⟨dO m 2 ec,rfl,kq⟩
   | 3,_=>
    intro o k w' Dn B ho s z y p t m d;have u0:k.eval (Z0 33)=Z6 (ZV ⟨r,0,ZW⟩):=d 2 (t 2 ec);have D:w'=w.drew:=by
     have A:=m;unfold MQ at A;rwa [if_neg (λe=>by have q:=((p 9 e).2 3 ec);rw [y] at q;cases q)] at A
    have J:w'.cell? ⟨r,0,ZW⟩=ZV (Z6 (ZV ⟨v,0,ZW⟩)):=(by rw [D];exact S);exact ak (v:=Z6 (ZV ⟨v,0,ZW⟩)) ee ej s ⟨dO m 3 ec,rfl,kq⟩
   | 4,_=>
    intro o k w' Dn B ho s z y p t m d;have u0:k.eval (Z0 4)=Z7 Z9 x:=(z.slot 4 eb).trans T;exact ak (ah ho u0 w') ej s ⟨dO m 4 ec,rfl,kq⟩
   | 5,_=>
    intro o k w' Dn B ho s z y p t m d;have u0:k.eval (Z0 2)=Z6 (ZV ⟨q,0,ZW⟩):=(z.slot 2 eb).trans M;have D:w'=w.drew:=by
     have A:=m;unfold MQ at A;rwa [if_neg (λe=>by have q:=((p 6 ((p 7 ((p 8 ((p 9 e).2 8 ec)).2 7 ec)).2 6 ec)).2 5 ec);rw [y] at q;cases q)] at A
    have J:w'.cell? ⟨q,0,ZW⟩=ZV (Z6 (ZV ⟨r,0,ZW⟩)):=(by rw [D];exact L);exact ak (v:=Z6 (ZV ⟨r,0,ZW⟩)) ee ej s ⟨dO m 5 ec,rfl,kq⟩
   | 6,_=>
    intro o k w' Dn B ho s z y p t m d;have u0:k.eval (Z0 36)=Z6 (ZV ⟨r,0,ZW⟩):=d 5 (t 5 ec);exact ak (dR ho u0 w') ej s ⟨dO m 6 ec,rfl,kq⟩
   | 7,_=>
    intro o k w' Dn B ho s z y p t m d;have u0:k.eval (Z0 37)=Z6 (ZV ⟨r,0,ZW⟩):=d 6 (t 6 ec);exact ak (v:=Z6 (ZV ⟨r,1,ZW⟩)) ee ej s ⟨dO m 7 ec,rfl,kq⟩
   | 8,_=>
    intro o k w' Dn B ho s z y p t m d;have u0:k.eval (Z0 38)=Z6 (ZV ⟨r,1,ZW⟩):=d 7 (t 7 ec);have D:w'=w.drew:=by
     have A:=m;unfold MQ at A;rwa [if_neg (λe=>by have q:=((p 9 e).2 8 ec);rw [y] at q;cases q)] at A
    have J:w'.cell? ⟨r,1,ZW⟩=ZV (Z7 Z9 b):=(by rw [D];exact c1);exact ak (v:=Z7 Z9 b) ee ej s ⟨dO m 8 ec,rfl,kq⟩
   | 9,_=>
    intro o k w' Dn B ho s z y p t m d;have u0:k.eval (Z0 34)=Z6 (ZV ⟨v,0,ZW⟩):=d 3 (t 3 ec);have u1:k.eval (Z0 35)=Z7 Z9 x:=d 4 (t 4 ec);have u2:k.eval (Z0 39)=Z7 Z9 b:=d 8 (t 8 ec);have D:w'=w.drew:=by
     have A:=m;unfold MQ at A;rwa [if_neg (λe=>by have q:=e;rw [y] at q;cases q)] at A
    refine gz (f:=96) (args:=#[Z6 (ZV ⟨v,0,ZW⟩),Z7 Z9 x,Z7 Z9 b]) (w1:=w') (by (conv at ho=>rhs;whnf);simp only [execOp,ho];go_simp;exact ⟨B3,A1,YY⟩) ej s (by rw [D];exact Z) ?_;rintro e hb ⟨Y,rfl,hK⟩;have C:Dn 10=ZU->False:=λh=>by
     have q:=(p 10 h).2 9 ec;rw [y] at q;cases q
    refine ⟨_,rfl,(by unfold MQ;rw [if_pos ku];exact ⟨Y,hK⟩),⟨Y,rfl,hK⟩,λj u hD q=>?_⟩;by_cases hj:j<9
    . unfold VF4 at q ⊢;rw [if_pos hj] at q ⊢;exact q
    . have hl:j<15:=(p j hD).1;obtain rfl|rfl|rfl|rfl|rfl|rfl:j=9\/j=10\/j=11\/j=12\/j=13\/j=14:=by omega
      . rw [y] at hD;cases hD
      . exact (C hD).elim
      . exact (C ((p 11 hD).2 10 ec)).elim
      . exact (C ((p 12 hD).2 10 ec)).elim
      . exact (C ((p 13 hD).2 10 ec)).elim
      . exact (C ((p 14 hD).2 10 ec)).elim
   | 10,_=>
    intro o k w' Dn B ho s z y p t m d;obtain ⟨Y,u0,hK⟩:∃ Y,k.eval (Z0 40)=ZY #[Xv,Y]/\K Y w':=d 9 (t 9 ec);exact ak (ah ho u0 w') ej s ⟨dO m 10 ec,⟨Y,rfl,hK⟩,kq⟩
   | 11,_=>
    intro o k w' Dn B ho s z y p t m d;obtain ⟨Y,u0,hK⟩:∃ Y,k.eval (Z0 30)=ZY #[Xv,Y]/\K Y w':=d 10 (t 10 ec);exact ak (v:=Xv) ee ej s ⟨dO m 11 ec,rfl,kq⟩
   | 12,_=>
    intro o k w' Dn B ho s z y p t m d;obtain ⟨Y,u0,hK⟩:∃ Y,k.eval (Z0 30)=ZY #[Xv,Y]/\K Y w':=d 10 (t 10 ec);exact ak (v:=Y) ee ej s ⟨dO m 12 ec,hK,kq⟩
   | 13,_=>
    intro o k w' Dn B ho s z y p t m d;have u0:k.eval (Z0 41)=Xv:=d 11 (t 11 ec);exact ak (v:=Xv) ee ej s ⟨dO m 13 ec,rfl,kq⟩
   | 14,_=>
    intro o k w' Dn B ho s z y p t m d;obtain ⟨Y,u0⟩:=nM (k.eval (Z0 42));have hK:K Y w':=(by rw [<- u0];exact d 12 (t 12 ec));exact ak (v:=Y) ee ej s ⟨dO m 14 ec,hK,kq⟩
   | n+15,hn=>exact absurd hn abV
 . rintro k w' R he ⟨Dn,hp,m⟩ d;obtain ⟨E,O⟩:∃ Y,k.eval (Z0 6)=Y:=⟨_,rfl⟩;obtain ⟨F,P⟩:∃ Y,k.eval (Z0 42)=Y:=⟨_,rfl⟩;obtain ⟨G,hm,k2⟩:∃ Y,k.eval (Z0 30)=ZY #[Xv,Y]/\K Y w':=d 10 ec;obtain ⟨H,V,k3⟩:∃ Y,k.eval (Z0 40)=ZY #[Xv,Y]/\K Y w':=d 9 ec;have k1:K E w':=(by rw [<- O];exact d 14 ec);have k4:K F w':=(by rw [<- P];exact d 12 ec);have e:k=Act.RL (Act.RL a 5 [Xv,E]) 30 [ZY #[Xv,G],Z6 (ZV ⟨r,0,ZW⟩),Z6 (ZV ⟨r,0,ZW⟩),Z6 (ZV ⟨r,0,ZW⟩),Z6 (ZV ⟨v,0,ZW⟩),Z7 Z9 x,Z6 (ZV ⟨r,0,ZW⟩),Z6 (ZV ⟨r,0,ZW⟩),Z6 (ZV ⟨r,1,ZW⟩),Z7 Z9 b,ZY #[Xv,H],Xv,F]:=Rj R.size R.defers (Fj he) l3 (by show 5+2<=30;omega) (by show 43<=_;omega) (λi I=>?_) (λi I=>?_)
   . rw [e];exact X w' E G H F k1 k2 k3 k4
   . match i,I with
     | 0,_=>exact d 13 ec
     | 1,_=>exact O
     | n+2,hn=>exact absurd hn ek
   . match i,I with
     | 0,_=>exact hm
     | 1,_=>exact d 0 ec
     | 2,_=>exact d 1 ec
     | 3,_=>exact d 2 ec
     | 4,_=>exact d 3 ec
     | 5,_=>exact d 4 ec
     | 6,_=>exact d 5 ec
     | 7,_=>exact d 6 ec
     | 8,_=>exact d 7 ec
     | 9,_=>exact d 8 ec
     | 10,_=>exact V
     | 11,_=>exact d 11 ec
     | 12,_=>exact P
     | n+13,hn=>exact absurd hn ek
def aae (s:Nat):List (Op×Option Nat×a9):=[(Op.load 164 (Z0 2),ZV (s+0),[]),
 (Op.nilCheck (.tmp (s+0)),ZV (s+1),[0]),
 (Op.fieldAddr 217 (.tmp (s+1)) 0,ZV (s+2),[1]),
 (Op.load 106 (.tmp (s+2)),ZV (s+3),[2]),
 (Op.load 164 (Z0 2),ZV (s+4),[]),
 (Op.nilCheck (.tmp (s+4)),ZV (s+5),[4]),
 (Op.fieldAddr 217 (.tmp (s+5)) 0,ZV (s+6),[5]),
 (Op.load 106 (.tmp (s+6)),ZV (s+7),[6]),
 (Op.nilCheck (.tmp (s+7)),ZV (s+8),[7]),
 (Op.fieldAddr 137 (.tmp (s+8)) 3,ZV (s+9),[8]),
 (Op.load 131 (.tmp (s+9)),ZV (s+10),[9]),
 (Op.move (Z0 4),ZV (s+11),[]),
 (Op.call { callee:=Callee.value (Operand.func 75),args:=#[.tmp (s+10),.tmp (s+11)],argTypes:=#[131,3] },ZV (s+12),[10,11]),
 (Op.nilCheck (.tmp (s+3)),ZV (s+13),[3,0,1,2,3,4,5,6,7,8,9,10,11,12]),
 (Op.fieldAddr 137 (.tmp (s+13)) 3,ZV (s+14),[13,0,1,2,3,4,5,6,7,8,9,10,11,12]),
 (Op.store 131 (.tmp (s+14)) (.tmp (s+12)),ZW,[14,12,12,0,1,2,3,4,5,6,7,8,9,10,11,12])]
def aaR (r v x hol:Nat):List ZR:=[Z6 (ZV ⟨r,0,ZW⟩),Z6 (ZV ⟨r,0,ZW⟩),Z6 (ZV ⟨r,0,ZW⟩),Z6 (ZV ⟨v,0,ZW⟩),Z6 (ZV ⟨r,0,ZW⟩),Z6 (ZV ⟨r,0,ZW⟩),Z6 (ZV ⟨r,0,ZW⟩),Z6 (ZV ⟨v,0,ZW⟩),Z6 (ZV ⟨v,0,ZW⟩),Z6 (ZV ⟨v,5,ZW⟩),Z7 Z8 hol,Z7 Z9 x,Z7 Z8 ((hol|||2^x:Nat):Int),Z6 (ZV ⟨v,0,ZW⟩),Z6 (ZV ⟨v,5,ZW⟩),ZX]
theorem Aa {l:Nat} (hf:aL ops s (s+15) (aae s)) (hs:4<s) {Q:Exit->Act->ZS->Prop} {a:Act} {w:ZS} {r v p D L G ps hol b g N q gone sp:Nat} (R:bk w v p D L G ps hol) (W:Boxed w q 164 (Z6 (ZV ⟨r,0,ZW⟩))) (hr:cP w r v b g N gone sp) (x:Nat) (hx:x<=60) (Z:hol<18446744073709551616) (O:q≠v) (P:r≠v) (hj:s+15<=100) (hm:a.tmps.size=100)
 (M:a.eval (Z0 2)=Z6 (ZV ⟨q,0,ZW⟩)) (T:a.eval (Z0 4)=Z7 Z9 x)
 (Y:∀ (w':ZS),w'=w.drew.setCell ⟨v,5,ZW⟩ (Z7 Z8 ((hol|||2^x:Nat):Int))->Q .normal (Act.RL a s [Z6 (ZV ⟨r,0,ZW⟩),Z6 (ZV ⟨r,0,ZW⟩),Z6 (ZV ⟨r,0,ZW⟩),Z6 (ZV ⟨v,0,ZW⟩),Z6 (ZV ⟨r,0,ZW⟩),Z6 (ZV ⟨r,0,ZW⟩),Z6 (ZV ⟨r,0,ZW⟩),Z6 (ZV ⟨v,0,ZW⟩),Z6 (ZV ⟨v,0,ZW⟩),Z6 (ZV ⟨v,5,ZW⟩),Z7 Z8 hol,Z7 Z9 x,Z7 Z8 ((hol|||2^x:Nat):Int),Z6 (ZV ⟨v,0,ZW⟩),Z6 (ZV ⟨v,5,ZW⟩)]) w'):(Code.region m ops ZU).wpIn (Fence.wide.inRound l) n ZP Q a w:=by
 have J:=W.cell;have K:=hr.cells.1;have I:=R.cells.2.2.2.2.2;have U:w.frozen? ⟨v,5,ZW⟩=ZT:=by
  have V:w.heap[v]?=_:=R;simp [World.frozen?,V]
 refine bu ei hf a w eb (λi u _=>u=(aaR r v x hol).getD i ZX) (Ic 15 w ⟨v,5,ZW⟩ (Z7 Z8 ((hol|||2^x:Nat):Int))) rfl ?_ ?_
 . intro i H;match i,H with
   | 0,_=>
    intro o k w' Dn E ho y A B C t j d;have u0:k.eval (Z0 2)=Z6 (ZV ⟨q,0,ZW⟩):=(A.slot 2 eb).trans M;have F:=jM j (a:=⟨q,0,ZW⟩) O J;exact ak (v:=Z6 (ZV ⟨r,0,ZW⟩)) ee ej y ⟨bR j 0 ec,rfl,kq⟩
   | 1,_=>
    intro o k w' Dn E ho y A B C t j d;have u0:k.eval (.tmp (s+0))=Z6 (ZV ⟨r,0,ZW⟩):=d 0 (t 0 (of_decide_eq_true rfl));exact ak (v:=Z6 (ZV ⟨r,0,ZW⟩)) ee ej y ⟨bR j 1 ec,rfl,kq⟩
   | 2,_=>
    intro o k w' Dn E ho y A B C t j d;have u0:k.eval (.tmp (s+1))=Z6 (ZV ⟨r,0,ZW⟩):=d 1 (t 1 (of_decide_eq_true rfl));exact ak (v:=Z6 (ZV ⟨r,0,ZW⟩)) ee ej y ⟨bR j 2 ec,rfl,kq⟩
   | 3,_=>
    intro o k w' Dn E ho y A B C t j d;have u0:k.eval (.tmp (s+2))=Z6 (ZV ⟨r,0,ZW⟩):=d 2 (t 2 (of_decide_eq_true rfl));have F:=jM j (a:=⟨r,0,ZW⟩) P K;exact ak (v:=Z6 (ZV ⟨v,0,ZW⟩)) ee ej y ⟨bR j 3 ec,rfl,kq⟩
   | 4,_=>
    intro o k w' Dn E ho y A B C t j d;have u0:k.eval (Z0 2)=Z6 (ZV ⟨q,0,ZW⟩):=(A.slot 2 eb).trans M;have F:=jM j (a:=⟨q,0,ZW⟩) O J;exact ak (v:=Z6 (ZV ⟨r,0,ZW⟩)) ee ej y ⟨bR j 4 ec,rfl,kq⟩
   | 5,_=>
    intro o k w' Dn E ho y A B C t j d;have u0:k.eval (.tmp (s+4))=Z6 (ZV ⟨r,0,ZW⟩):=d 4 (t 4 (of_decide_eq_true rfl));exact ak (v:=Z6 (ZV ⟨r,0,ZW⟩)) ee ej y ⟨bR j 5 ec,rfl,kq⟩
   | 6,_=>
    intro o k w' Dn E ho y A B C t j d;have u0:k.eval (.tmp (s+5))=Z6 (ZV ⟨r,0,ZW⟩):=d 5 (t 5 (of_decide_eq_true rfl));exact ak (v:=Z6 (ZV ⟨r,0,ZW⟩)) ee ej y ⟨bR j 6 ec,rfl,kq⟩
   | 7,_=>
    intro o k w' Dn E ho y A B C t j d;have u0:k.eval (.tmp (s+6))=Z6 (ZV ⟨r,0,ZW⟩):=d 6 (t 6 (of_decide_eq_true rfl));have F:=jM j (a:=⟨r,0,ZW⟩) P K;exact ak (v:=Z6 (ZV ⟨v,0,ZW⟩)) ee ej y ⟨bR j 7 ec,rfl,kq⟩
   | 8,_=>
    intro o k w' Dn E ho y A B C t j d;have u0:k.eval (.tmp (s+7))=Z6 (ZV ⟨v,0,ZW⟩):=d 7 (t 7 (of_decide_eq_true rfl));exact ak (v:=Z6 (ZV ⟨v,0,ZW⟩)) ee ej y ⟨bR j 8 ec,rfl,kq⟩
   | 9,_=>
    intro o k w' Dn E ho y A B C t j d;have u0:k.eval (.tmp (s+8))=Z6 (ZV ⟨v,0,ZW⟩):=d 8 (t 8 (of_decide_eq_true rfl));exact ak (v:=Z6 (ZV ⟨v,5,ZW⟩)) ee ej y ⟨bR j 9 ec,rfl,kq⟩
   | 10,_=>
    intro o k w' Dn E ho y A B C t j d;have u0:k.eval (.tmp (s+9))=Z6 (ZV ⟨v,5,ZW⟩):=d 9 (t 9 (of_decide_eq_true rfl));have he:Dn 15=ZT:=by
     cases e:Dn 15 with
     | false=>rfl
     | true=>exact absurd ((C 15 e).2 10 (of_decide_eq_true rfl)) (by rw [B];decide)
    have hh:=pe j he;have F:w'.cell? ⟨v,5,ZW⟩=ZV (Z7 Z8 hol):=(by rw [hh];exact I);exact ak (v:=Z7 Z8 hol) ee ej y ⟨bR j 10 ec,rfl,kq⟩
   | 11,_=>
    intro o k w' Dn E ho y A B C t j d;have u0:k.eval (Z0 4)=Z7 Z9 x:=(A.slot 4 eb).trans T;exact ak (ah ho u0 w') ej y ⟨bR j 11 ec,rfl,kq⟩
   | 12,_=>
    intro o k w' Dn E ho y A B C t j d;have u0:k.eval (.tmp (s+10))=Z7 Z8 hol:=d 10 (t 10 (of_decide_eq_true rfl));have u1:k.eval (.tmp (s+11))=Z7 Z9 x:=d 11 (t 11 (of_decide_eq_true rfl));refine gz (f:=75) (args:=#[Z7 Z8 hol,Z7 Z9 x]) (w1:=w') (by (conv at ho=>rhs;whnf);simp only [execOp,ho];go_simp;exact ⟨B3,A1⟩) ej y (iM hol x Z hx w') ?_;rintro e hb ⟨rfl,rfl⟩;exact ⟨_,rfl,bR j 12 ec,rfl,kq⟩
   | 13,_=>
    intro o k w' Dn E ho y A B C t j d;have u0:k.eval (.tmp (s+3))=Z6 (ZV ⟨v,0,ZW⟩):=d 3 (t 3 (of_decide_eq_true rfl));exact ak (v:=Z6 (ZV ⟨v,0,ZW⟩)) ee ej y ⟨bR j 13 ec,rfl,kq⟩
   | 14,_=>
    intro o k w' Dn E ho y A B C t j d;have u0:k.eval (.tmp (s+13))=Z6 (ZV ⟨v,0,ZW⟩):=d 13 (t 13 (of_decide_eq_true rfl));exact ak (v:=Z6 (ZV ⟨v,5,ZW⟩)) ee ej y ⟨bR j 14 ec,rfl,kq⟩
   | 15,_=>
    intro o k w' Dn E ho y A B C t j d;have u0:k.eval (.tmp (s+14))=Z6 (ZV ⟨v,5,ZW⟩):=d 14 (t 14 (of_decide_eq_true rfl));have u1:k.eval (.tmp (s+12))=Z7 Z8 ((hol|||2^x:Nat):Int):=d 12 (t 12 (of_decide_eq_true rfl));have hw:=pe j B;subst hw;have F:w.drew.cell? ⟨v,5,ZW⟩=ZV (Z7 Z8 hol):=I;have ff:w.drew.frozen? ⟨v,5,ZW⟩=ZT:=U;obtain ⟨z,S⟩:=nM (((hol|||2^x:Nat):Int));rw [S] at u1;refine jD (w':=w.drew.setCell ⟨v,5,ZW⟩ (Z7 Z8 z)) ua ej ⟨?_,rfl,kq⟩;unfold Ic;rw [if_pos ku,S]
   | n+16,hn=>exact absurd hn (by show ¬ n+16<16;omega)
 . rintro k w' hc h8 ⟨Dn,X,j⟩ d;have e:k=Act.RL a s [Z6 (ZV ⟨r,0,ZW⟩),Z6 (ZV ⟨r,0,ZW⟩),Z6 (ZV ⟨r,0,ZW⟩),Z6 (ZV ⟨v,0,ZW⟩),Z6 (ZV ⟨r,0,ZW⟩),Z6 (ZV ⟨r,0,ZW⟩),Z6 (ZV ⟨r,0,ZW⟩),Z6 (ZV ⟨v,0,ZW⟩),Z6 (ZV ⟨v,0,ZW⟩),Z6 (ZV ⟨v,5,ZW⟩),Z7 Z8 hol,Z7 Z9 x,Z7 Z8 ((hol|||2^x:Nat):Int),Z6 (ZV ⟨v,0,ZW⟩),Z6 (ZV ⟨v,5,ZW⟩)]:=hc.out _ rfl eb (λi H=>?_)
   . rw [e];exact Y w' (Ca j (X 15 (of_decide_eq_true rfl)))
   . match i,H with
     | 0,_=>exact d 0 (of_decide_eq_true rfl)
     | 1,_=>exact d 1 (of_decide_eq_true rfl)
     | 2,_=>exact d 2 (of_decide_eq_true rfl)
     | 3,_=>exact d 3 (of_decide_eq_true rfl)
     | 4,_=>exact d 4 (of_decide_eq_true rfl)
     | 5,_=>exact d 5 (of_decide_eq_true rfl)
     | 6,_=>exact d 6 (of_decide_eq_true rfl)
     | 7,_=>exact d 7 (of_decide_eq_true rfl)
     | 8,_=>exact d 8 (of_decide_eq_true rfl)
     | 9,_=>exact d 9 (of_decide_eq_true rfl)
     | 10,_=>exact d 10 (of_decide_eq_true rfl)
     | 11,_=>exact d 11 (of_decide_eq_true rfl)
     | 12,_=>exact d 12 (of_decide_eq_true rfl)
     | 13,_=>exact d 13 (of_decide_eq_true rfl)
     | 14,_=>exact d 14 (of_decide_eq_true rfl)
     | n+15,hn=>exact absurd hn ek
section
attribute [local go_sem] Oper.semAt_some
def OT (A:aA) (b i:Nat):Option a9:=match A.R9 i b with
 | some (.shard l)=>ZV l
 | _=>ZW
def Ab (A:aA) (b i:Nat):a9:=(OT A b i).getD []
def gnB (A:aA) (b i:Nat):Bool:=(OT A b i).isNone
def Cf (A:aA) (b i:Nat):Bool:=A.lost i || decide (A.R9 i b=ZV .blank)
def Cg (A:aA) (b:Nat) (ds:a9):a9:=ds.filter λi=>!gnB A b i
def nU (f:Nat->Bool) (ds:a9):Nat:=ds.foldl (λs d=>if f d=ZU then s|||2^d else s) 0
def uH {f:Nat->Bool} (ds:a9) {d:Nat} (h:f d=ZT):nU f (ds++[d])=nU f ds:=by unfold nU;rw [V3];simp [h]
def FO {f:Nat->Bool} (ds:a9) {d:Nat} (h:f d=ZU):nU f (ds++[d])=nU f ds|||2^d:=by unfold nU;rw [V3];simp [h]
theorem LG (f:Nat->Bool) (ds:a9) (h:∀ d∈ds,d<16):nU f ds<65536:=by
 unfold nU;suffices ∀ (l:a9) (s:Nat),(∀ d∈l,d<16)->s<65536->l.foldl (λs d=>if f d=ZU then s|||2^d else s) s<65536 from this ds 0 h ec
 intro l;induction l with
 | nil=>intro s _ a;exact a
 | cons d l ih=>
  intro s b a;refine ih _ (λx c=>b x ZB) ?_;show (if f d=ZU then s|||2^d else s)<65536;split
  . exact V0 (n:=16) a (VC ec (b d ek))
  . exact a
def Ql {A:aA} (ds:a9) {d:Nat} (h:gnB A b d=ZU):Cg A b (ds++[d])=Cg A b ds:=by unfold Cg;rw [V4];simp [h]
def FP {A:aA} (ds:a9) {d:Nat} (h:gnB A b d=ZT):Cg A b (ds++[d])=Cg A b ds++[d]:=by unfold Cg;rw [V4];simp [h]
def mW {A:aA}:d∈Cg A b ds↔d∈ds/\gnB A b d=ZT:=by unfold Cg;rw [Vq];simp
theorem Ci {A:aA} {r:bx} (h:A.R9 d b=ZV r):A.lost d=ZT:=by
 unfold aA.R9 at h;split at h
 . rename_i q;exact q.1
 . cases h
theorem LH {A:aA} (h:gnB A b d=ZT):∃ l,A.R9 d b=ZV (.shard l):=by
 unfold gnB OT at h;split at h
 . rename_i l q;exact ⟨l,q⟩
 . cases h
def LJ {A:aA} (h:gnB A b d=ZT):Cf A b d=ZT:=by
 obtain ⟨l,q⟩:=LH h;unfold Cf;rw [q,Ci q];simp
def LK (A:aA) (a:Nat->Int) (d b:Nat):(A.rd a).R9 d b=A.R9 d b:=rfl
theorem LL (A:aA) (a:Nat->Int) (d b:Nat):∃ c,(A.rd a).cnt d b=A.rd c:=by
 unfold aA.cnt;split
 . exact ⟨_,rfl⟩
 . exact ⟨a,rfl⟩
def aA.fit.rd {A:aA} (h:A.fit) (a:Nat->Int):(A.rd a).fit:=⟨h.n,h.nb,h.len,h.byt⟩
def VrK (p d b:Nat) (A:aA) (F:aR) (w:ZS) (Y:ZR) (w':ZS):Prop:=
 (∃ rr,aj w' p (A.rd rr) F)/\aa (F.has p A.n) w w'/\(ZQ ZP 64 #[Y,.iface 54 (Z7 Z9 11)] w' λe w''=>e=Z3 (Z1 (A.lost d))/\w''=w')/\(A.R9 d b≠ZW->Y=.nilIface)
def Il {A:aA} {rr:Nat->Int} (m:bk w v p D L G ps ho) (h:aj w p (A.rd rr) F) (t:A.fit) (d b:Nat) (o:d<A.n) (x:A.wait≠0) (hv:aY w) (u:¬ F.has p A.n 2) :
 ZQ ZP 96 #[Z6 (ZV ⟨v,0,ZW⟩),Z7 Z9 d,Z7 Z9 b] w λe w'=>∃ Y,e=Z3 (ZY #[eV (A.R9 d b),Y])/\VrK p d b A F w Y w':=by
 refine (rB m h (t.rd rr) d b o x hv u).mono ?_;rintro e w' ⟨c,g,f⟩;obtain ⟨j,l⟩:=LL A rr d b;rw [l] at c;rw [LK] at f;rcases f with ⟨r,hr,rfl⟩|⟨hr,q,n,rfl,z,k,a,y⟩
 . refine ⟨.nilIface,by rw [hr];rfl,⟨j,c⟩,g,?_,λ_=>rfl⟩;rw [Ci hr];exact zu 11 w'
 . refine ⟨sm q,by rw [hr];rfl,⟨j,c⟩,g,?_,λq=>absurd hr q⟩;have i:=BM k 11;have s:(n==11)=A.lost d:=by
    change n=11↔A.lost d=ZU at a;cases hl:A.lost d with
    | true=>rw [hl] at a;simp [a.2 rfl]
    | false=>rw [hl] at a;simpa using a
   rw [s] at i;exact i
structure Q0 (w:ZS) (r v b g N p D L G ps ho gone sp B0:Nat) (ds:a9) (A:aA) (F:aR) (B S:Nat) (pre:List (Mb S)) (X:ZS):Prop where
 b2:Boxed X w.heap.size 164 (Z6 (ZV ⟨r,0,ZW⟩))
 rd:cP X r v b g N (gone|||nU (gnB A b) (vY ds (ep pre))) sp
 vol:bk X v p D L G ps (ho|||nU (Cf A b) (vY ds (ep pre)))
 row:∃ f,X.rowIs g 31 N f/\Kn X B0 vX f (Ab A b) (ds++Cg A b (vY ds (ep pre)))
 arr:∃ rr,aj X p (A.rd rr) F
 out:aa (λk=>k=g\/k=r\/k=v\/F.has p A.n k) w X
 size:B<=X.heap.size
def Q0.own {A:aA} {B:Nat} (J:w.heap.size+1<=B) (K:g<w.heap.size) (hr:r<w.heap.size) (hv:v<w.heap.size) (u:∀ k,F.has p A.n k->k<w.heap.size):OwnFrom B (Q0 w r v b g N p D L G ps ho gone sp B0 ds A F B S):=by
 rintro pre X Y row ⟨j,l,H,⟨f,m,x⟩,⟨I,q⟩,s,t⟩ a i;have c:∀ k,k<w.heap.size+1->Y.heap[k]?=X.heap[k]?:=λk c=>a.block k eb (λe=>eT ((i k e.symm).1));refine ⟨(c _ eb).trans j,l.keep (c _ eb),H.keep (c _ eb),⟨f,m.of_block (c _ eb),x.keep a.size λk o _ ho y=>?_⟩,⟨I,q.keep λk z=>c k (eT (u k z))⟩,s.later (T:=λk=>w.heap.size<=k) ⟨a.os,a.tape,a.output,a.size,λk C E=>c k eb⟩ (λk C E=>eb),TU t a.size⟩;refine (a.block k (TW.1 ho).1 (λe=>?_)).trans ho;obtain ⟨_,M,h,d⟩:=i k e.symm;rw [ho] at h;cases h;rw [y] at d;cases d
structure Qm (w:ZS) (r v b g N p D L G ps ho gone sp B0:Nat) (ds:a9) (A:aA) (F:aR) (nw:a9) (e:Ending) (w':ZS):Prop where
 ret:e=Z3 (ZY #[])
 rd:cP w' r v b g N (gone|||nU (gnB A b) nw) sp
 vol:bk w' v p D L G ps (ho|||nU (Cf A b) nw)
 row:∃ f,w'.rowIs g 31 N f/\Kn w' B0 vX f (Ab A b) (ds++Cg A b nw)
 arr:∃ rr,aj w' p (A.rd rr) F
 out:aa (λk=>k=g\/k=r\/k=v\/F.has p A.n k) w w'
def kR (t:TypeId) (h:t≠233):∃ z,∀ (v:ZR) (w:ZS),(Instr.typeAssert (.iface t v) 195 233 ZU).run ZP w=.ok (ZY #[z,Z1 ZT]) w:=by
 obtain ⟨z,a⟩:=Cc;refine ⟨z,λv w=>?_⟩;rw [<- a w];simp [Instr.typeAssert,Uw underlying233,h]
def LM {o:Option bx} (c:∀ l,o≠ZV (.shard l)) (d:o≠ZV .blank):∃ a e,(∀ w:ZS,(Instr.typeAssert (eV o) 195 233 ZU).run ZP w=.ok (ZY #[a,Z1 ZT]) w)/\∀ w:ZS,(Instr.typeAssert (eV o) 195 206 ZU).run ZP w=.ok (ZY #[e,Z1 ZT]) w:=by
 match o with
 | none=>
  obtain ⟨a,b⟩:=Cc;exact ⟨a,_,b,pd⟩
 | some .blank=>exact absurd rfl d
 | some (.shard l)=>exact absurd rfl (c l)
 | some .filled=>
  obtain ⟨a,b⟩:=kR 182 ec;exact ⟨a,_,b _,fD 182 ec _⟩
 | some (.root ..)=>
  obtain ⟨a,b⟩:=kR 110 ec;exact ⟨a,_,b _,fD 110 ec _⟩
noncomputable def RFk:Array Oper:=((Tryz.f126.body.bind (nZ · 11))).getD #[]
def Im (h:RFk=ops):aL ops 58 (58+15) (aae 58):=h▸bj ei ei
theorem Io {A:aA} (a:A.fit) {b d:Nat} {l:a9} (h:A.R9 d b=ZV (.shard l)):l.length=44:=by
 unfold aA.R9 at h;split at h
 . exact (DX (a.len d b) (a.byt d b) h).1.1
 . cases h
theorem Ip {A:aA} {rr0:Nat->Int} (H:rp w v p D L G ps ho (A.rd rr0) F) (hh:∀ i,A.lost i=ZT) (hF:m8 F p A.n v) (hf:A.fit) (hr:cP w r v b g N gone sp) (kk:w.rowIs g 31 N f0) (x9:Kn w B0 vX f0 (Ab A b) ds) (T:Nat) (hT:T<65536) (x7:gone<65536) (y3:sp<65536) (y8:∀ i,i∈ae T->i<N/\i<A.n) (hw:A.wait≠0)
 (ye:ho<65536) (qx:v≠r) (z0:3<=r) (z5:3<=v) (x5:¬ F.has p A.n g) (kx:¬ F.has p A.n r) (x8:r≠g) (xq:v≠g) (yv:3<=g) (x2:B0<=w.heap.size) (ys:g<B0) (yz:r<B0) (z4:v<B0) (qm:∀ k,F.has p A.n k->k<B0) :
 ZQ ZP 126 #[Z6 (ZV ⟨r,0,ZW⟩),Z7 Z8 T] w (Qm w r v b g N p D L G ps ho gone sp B0 ds A F (vY ds (ae (Db (Db T gone) sp)))):=by
 obtain ⟨S1,q8⟩:=nM (Db T gone);obtain ⟨S,qo⟩:=nM (Db S1 sp);have qb:=FL T gone hT x7;have qc:=FL S1 sp (by rw [<- q8];exact Ey _ hT) y3;have hS:S<65536:=by rw [<- qo,<- q8];exact Ey _ (Ey _ hT)
 rw [q8] at qb ⊢;rw [qo] at qc ⊢;have y7:∀ i,i∈ae S->i∈ae T:=λi a=>by
  rw [<- qo] at a;have:=((su y3).1 a).1;rw [<- q8] at this;exact ((su x7).1 this).1
 clear q8 qo;obtain ⟨n,HN⟩:∃ n:Nat,Hid (9<=n):=⟨9,TV _⟩;have q5:∀ k,F.has p A.n k->k<w.heap.size:=λk c=>TY (qm k c) x2;have yd:=kk.lt;have yh:=hr.lt;have yk:=H.vol.lt;refine (U6 (n:=n)).1 ?_;refine VS func126 rfl trivial ?_ rfl;simp only [ntmps126,Uy,Um,UQ,Nat.reduceAdd,Nat.reduceSub,UX,UY,UZ,U0,Uk,UH];gi_wp2;obtain ⟨w1,qg⟩:=nM (w.alloc (Z4 #[Z6 (ZV ⟨r,0,ZW⟩)] 164));have h2:Boxed w1 w.heap.size 164 (Z6 (ZV ⟨r,0,ZW⟩)):=by rw [<- qg];exact Uj w _ _
 have xg:w1.heap.size=w.heap.size+1:=by rw [<- qg];simp
 have qp:bW w w1:=by rw [<- qg];exact bA w _
 rw [qg];clear qg;have y2:=hr.keep (qp.block _ hr.lt);refine vS h2 y2 qb qc ei rfl rfl rfl ?_;clear qb qc;intro w6 qz;have xi:w6.heap.size=w1.heap.size+1:=by rw [qz];simp
 have xo:w6.cell? ⟨w1.heap.size,0,ZW⟩=ZV (Z7 Z8 (S:Int)):=by rw [qz];exact (Uj w1.drew 131 (Z7 Z8 (S:Int))).cell
 have kj:bW w1 w6:=by rw [qz];exact (TX _ w1).drew.alloc lR _
 have k9:bW w w6:=qp.trans (kj.mono qp.size);have xc:vY ds (ep ([]:List (Mb S)))=[]:=rfl;have xv:Q0 w r v b g N p D L G ps ho gone sp B0 ds A F (w1.heap.size+1) S [] w6:=
  ⟨(kj.block _ h2.lt).trans h2,by rw [xc,show nU (gnB A b) []=0 from rfl,Nat.or_zero];exact hr.keep (k9.block _ hr.lt),by rw [xc,show nU (Cf A b) []=0 from rfl,Nat.or_zero];exact H.vol.keep (k9.block _ H.vol.lt),⟨f0,kk.of_block (k9.block _ kk.lt),by rw [xc,show Cg A b []=[] from rfl,V7];exact x9.keep k9.size λk o _ ho _=>(k9.block k (TW.1 ho).1).trans ho⟩,⟨rr0,H.arr.below k9 lR⟩,aa.RO k9 _,eb⟩
 have y5:=al xo;have x0:=au xv k9;have HZ:=au xg xi;clear xo xv h2 qp k9 kj y2 qz xg;rename_i hK
 refine hK _ _ ?_;clear hK;simp only [Act.RL,Act.put,UL,UJ,UM];gi_wp2;obtain ⟨xg,yp,xi⟩:w.heap.size+1<=w1.heap.size/\w1.heap.size<=w.heap.size+1/\w6.heap.size=w1.heap.size+1:=eT HZ.out
 rw [<- xi] at x0;refine VT rfl (eT HN.out) (gf:=156) (lb:=#[Z6 (ZV ⟨w1.heap.size,0,ZW⟩)]) rfl trivial (UR func156 ei rfl)
  (nK (n-1) w1.heap.size S hS w6 eb y5.out (eT H.room) (H.RZ.mono (by exact H.RZ.lt) x0.out.2)) (λh k=>qX h k) (qY (eT H.room)) (TX _ _) (λ_=>rfl)
  (Q0 w r v b g N p D L G ps ho gone sp B0 ds A F w6.heap.size S) (λ_ _ _=>False) (Q0.own eb yd yh yk q5) (λ_ _ _ _ _ h _ _=>h.elim) x0.out.1
  (λx=>{ tmps:=#[Z6 (ZV ⟨r,0,ZW⟩),Z7 Z8 (T:Int),Z6 (ZV ⟨w.heap.size,0,ZW⟩),ZX,Z7 Z9 (x.1:Int),ZX,ZX,ZX,ZX,Z7 Z8 (T:Int),Z6 (ZV ⟨r,0,ZW⟩),Z6 (ZV ⟨r,0,ZW⟩),Z6 (ZV ⟨r,3,ZW⟩),Z7 Z8 (gone:Int),Z7 Z8 (S1:Int),Z6 (ZV ⟨r,0,ZW⟩),Z6 (ZV ⟨r,0,ZW⟩),Z6 (ZV ⟨r,4,ZW⟩),Z7 Z8 (sp:Int),Z7 Z8 (S:Int),.func (.func 156) #[] #[Z6 (ZV ⟨w1.heap.size,0,ZW⟩)],Z7 Z9 (x.1:Int),ZX,ZX,ZX,ZX,ZX,ZX,ZX,ZX,ZX,ZX,ZX,ZX,ZX,ZX,ZX,ZX,ZX,ZX,ZX,ZX,ZX,ZX,ZX,ZX,ZX,ZX,ZX,ZX,ZX,ZX,ZX,ZX,ZX,ZX,ZX,ZX,ZX,ZX,ZX,ZX,ZX,ZX,ZX,ZX,ZX,ZX,ZX,ZX,ZX,ZX,ZX,ZX,ZX,ZX,ZX,ZX,ZX,ZX,ZX,ZX,ZX,ZX,ZX,ZX,ZX,ZX,ZX,ZX,ZX,ZX,ZX,ZX,ZX,ZX,ZX,ZX,ZX,ZX],defers:=[] }) ?assign ?body ?done ?stop
 case assign=>
  intro l2 x X Kk hK;unfold wY;gi_wp2;exact hK
 case body=>
  rintro l2 pre x X a xb;clear xb;have ym:x.1∈ae S:=bS.2 x.2;obtain ⟨y4,yn⟩:=y8 _ (y7 _ ym);have x1:=a.b2.lt;have c2:=a.b2.cell;obtain ⟨c0,c1,cs,c3,c4⟩:=a.rd.cells;obtain ⟨f,B,C⟩:=a.row;have cg:=B.cell (i:=x.1) y4;have y0:¬ F.has p A.n w.heap.size:=λq=>eT (q5 _ q)
  obtain ⟨rr,I⟩:=a.arr;have y1:∀ d∈vY ds (ep pre),d<16:=λd hd=>by replace hd:=(FM.1 hd).1;unfold ep at hd;obtain ⟨y,_,rfl⟩:=T1.1 hd;exact y.2.1
  have xy:=LG (gnB A b) _ y1;have xz:=LG (Cf A b) _ y1;obtain ⟨gn,x6⟩:=nM (nU (gnB A b) (vY ds (ep pre)));obtain ⟨hl,qs⟩:=nM (nU (Cf A b) (vY ds (ep pre)));have z:=a.rd;have u:=a.vol;rw [x6] at xy z;rw [qs] at xz u;by_cases hy:x.1∈ds++Cg A b (vY ds (ep pre))
  . obtain ⟨bl,Y,y9,ya,yb⟩:=C.2 _ hy;rw [Y] at cg;have HI:=al a;have HK:=al C;have HR:=al B;clear a C B I z u;gi_wp2;rename_i q6
    refine q6 _ _ ?_;clear q6;simp only [Act.put,UL,UJ,UM,Bool.not_false];gi_wp2;have a:=HI.out;refine ⟨⟨TV _,λk o _ ho _=>ho⟩,λ_=>H.RZ.keep (a.out.block _ H.RZ.lt (λq=>by rcases q with q|q|q|q;omega;omega;omega;exact hF.t q)),?_⟩;by_cases k8:x.1∈ds
    . refine ⟨a.b2,?_,?_,⟨f,HR.out,?_⟩,a.arr,a.out,a.size⟩<;>rw [cK,Qg k8]
      . exact a.rd
      . exact a.vol
      . exact HK.out
    . have R:=(mW.1 ((Ub.1 hy).resolve_left k8)).2;refine ⟨a.b2,?_,?_,⟨f,HR.out,?_⟩,a.arr,a.out,a.size⟩<;>rw [cK,kQ k8]
      . rw [uH _ R];exact a.rd
      . rw [uH _ (LJ R)];exact a.vol
      . rw [FP _ R,<- UI];refine ⟨λi kf=>HK.out.1 i (λq=>kf (UN _ q)),λi kf=>HK.out.2 i ?_⟩;rcases Ub.1 kf with q|q
        . exact q
        . rw [U9.1 q];exact hy
  . have yc:f x.1=Z5 ZW 0 0:=C.1 _ hy;rw [yc] at cg;have k8:x.1∉ds:=λq=>hy (UN _ q);have O:aY X:=H.laid.keep (a.out.block _ H.laid.lt (λq=>by rcases q with q|q|q|q;omega;omega;omega;exact hF.g q));have HI:=hide7 a C B I z u O;clear a C B I z u O;gi_wp2;rename_i q6
    refine q6 _ _ ?_;clear q6;simp only [Act.put,UL,UJ,UM];gi_wp2;obtain ⟨a,C,B,I,z,u,O⟩:=HI.out;have yy:ho|||hl<65536:=V0 (n:=16) ye xz;have yx:gone|||gn<65536:=V0 (n:=16) x7 xy;have qq:bW X X.drew:=(TX _ X).drew;refine uG (K:=VrK p x.1 b A F X.drew) x.1 (Il (u.keep (qq.block _ u.lt)) (I.below qq lR) hf x.1 b yn hw (O.below qq O.lt) hF.g) a.b2 a.rd ei rfl rfl rfl ?_;rintro w2 Y1 Y2 Y3 Y4 ⟨⟨r2,xj⟩,q7,qn,x4⟩ - - -;have J:aa (F.has p A.n) X w2:=(aa.drew X).trans q7;have qy:∀ k,B0<=k->k<X.heap.size->w2.heap[k]?=X.heap[k]?:=λk c U=>J.block k U (λq=>eT (qm k q));have kz:=al xj;have qj:=au J qy;clear a C B I z u O xj J q7 qy c0 c1 cs c3 c4 cg c2 qq;rename_i hK
    refine hK _ _ ?_;clear hK;have qa:∀ m,gnB A b x.1=ZU->cP m r v b g N (gone|||gn|||2^x.1) sp->bk m v p D L G ps (ho|||nU (Cf A b) (vY ds (ep pre)++[x.1]))->(∃ rr,aj m p (A.rd rr) F)->aa (λk=>k=r\/k=v\/F.has p A.n k) X m->(X.heap.size<=m.heap.size/\∀ k,w.heap.size<=k->k<X.heap.size->m.heap[k]?=X.heap[k]?)/\aK m/\Q0 w r v b g N p D L G ps ho gone sp B0 ds A F w6.heap.size S (pre++[x]) m:=λm xp he yj kg ki=>by
     obtain ⟨a,C,B,_⟩:=HI.out;have xk:aa (λk=>k=g\/k=r\/k=v\/F.has p A.n k) w m:=a.out.trans (ki.mono λ_ _ q=>.inr q);have xn:∀ k,w.heap.size<=k->k<X.heap.size->m.heap[k]?=X.heap[k]?:=λk c U=>ki.block k U (λq=>by rcases q with q|q|q;omega;omega;have:=q5 k q;omega);refine ⟨⟨ki.size,xn⟩,H.RZ.keep (xk.block _ H.RZ.lt (λq=>by rcases q with q|q|q|q;omega;omega;omega;exact hF.t q)),?_⟩;have U:∀ k,B0<=k->k<X.heap.size->m.heap[k]?=X.heap[k]?:=λk c U=>ki.block k U (λq=>by rcases q with q|q|q;omega;omega;have:=qm k q;omega);exact ⟨(xn _ lR x1).trans a.b2,by rw [cK,kQ k8,FO _ xp,x6,<- Nat.or_assoc];exact he,by rw [cK,kQ k8];exact yj,⟨f,B.of_block (ki.block _ B.lt (λq=>by rcases q with q|q|q;exact x8 q.symm;exact xq q.symm;exact x5 q)),by rw [cK,kQ k8,Ql _ xp];exact C.keep ki.size λk o c ho _=>(U k c (TW.1 ho).1).trans ho⟩,kg,xk,TU a.size ki.size⟩
    have HF:=al qa;clear qa;by_cases qf:∃ l,A.R9 x.1 b=ZV (.shard l)
    . obtain ⟨l,qe⟩:=qf;have xa:=Io hf qe;have yi:Ab A b x.1=l:=(by unfold Ab OT;rw [qe];rfl);have R:gnB A b x.1=ZT:=(by unfold gnB OT;rw [qe];rfl);rw [qe];clear qe qn x4 HF;have z3:=Ls;simp only [Act.RL,Act.put,UL,UJ,UM,eV,bm];gi_wp2_with (show wpListIn _ _ _ _ _ ({ dst:=ZW,op:=Op.store 233 (Z0 7) (Z0 46),type:=_,pos:=_,after:=_,guard:=_ }::_) _ _;refine zZ (w:=w2) (l:=l) rfl (Z0 7) (Z0 46) rfl l3 l3 l3 xa ?_)
      obtain ⟨J,qy⟩:=qj.out;obtain ⟨a,C,B,I,z,u,O⟩:=HI.out;have yr:X.heap.size<=w2.heap.size:=J.size;have V:bW w2 (w2.alloc (Z4 (aJ (l)).toArray 233)):=bA w2 _;have xd:(w2.alloc (Z4 (aJ (l)).toArray 233)).heap[w2.heap.size]?=ZV (Z4 (aJ (l)).toArray 233 (0,0)):=T9 _ _;have yq:(w2.alloc (Z4 (aJ (l)).toArray 233)).heap.size=w2.heap.size+1:=ek;obtain ⟨E,km⟩:=nM (w2.alloc (Z4 (aJ (l)).toArray 233));rw [km] at V xd yq ⊢;have ks:∀ k,k<X.heap.size->¬ F.has p A.n k->E.heap[k]?=X.heap[k]?:=λk c yf=>(V.block k eb).trans (J.block k c yf);have x3:∀ k,B0<=k->k<X.heap.size->E.heap[k]?=X.heap[k]?:=λk c U=>ks k U (λq=>eT (qm k q));have hz:E.rowIs g 31 N f:=B.of_block (ks g B.lt x5);refine vT (show Boxed E w.heap.size 164 (Z6 (ZV ⟨r,0,ZW⟩)) from (x3 _ x2 eb).trans a.b2) (z.keep (ks r z.lt kx)) hz x.1 y4 eb x8 ei rfl rfl rfl rfl ?_;intro P kb;have hp:∀ k,k≠g->P.heap[k]?=E.heap[k]?:=λk c=>by rw [kb];exact T7 _ _ _ _ c
      have z7:P.heap.size=E.heap.size:=(by rw [kb];simp [World.setCell]);have hj:=hz.set x.1 (Z5 (ZV ⟨w2.heap.size,0,ZW⟩) 44 44);have k0:P.rowIs g 31 N (λi=>if i=x.1 then Z5 (ZV ⟨w2.heap.size,0,ZW⟩) 44 44 else f i):=(by rw [kb];exact hj);have kv:∀ k,B0<=k->k<X.heap.size->P.heap[k]?=X.heap[k]?:=λk c U=>(hp k eb).trans (x3 k c U);have M:aa (λk=>k=g\/k=r\/k=v\/F.has p A.n k) w P:=by
       have h3:aa (λk=>k=g\/k=r\/k=v\/F.has p A.n k) w E:=(a.out.trans (J.mono λ_ _ q=>.inr (.inr (.inr q)))).trans (aa.RO V _);rw [kb];exact (h3.trans (aa.drew E)).trans (aa.setCell _ _ _ (.inl rfl))
      have qk:=kz.out.keep λk c=>by
       have:=q5 k c;exact (hp k (λe=>x5 abE)).trans (V.block k eb)
      have ka:Kn P B0 vX (λi=>if i=x.1 then Z5 (ZV ⟨w2.heap.size,0,ZW⟩) 44 44 else f i) (Ab A b) (ds++Cg A b (vY ds (ep pre))++[x.1]):=by
       have xx:=C.keep (w':=P) eb λk o c ho _=>(kv k c (TW.1 ho).1).trans ho;refine ⟨λi kf=>?_,λi kf=>?_⟩
       . have h1:i≠x.1:=λe=>kf (by rw [e];simp);show (if i=x.1 then _ else f i)=_;rw [if_neg h1];exact xx.1 i (λq=>kf (UN _ q))
       . show ∃ bl,(if i=x.1 then _ else f i)=_/\_;by_cases e:i=x.1
         . rw [if_pos e,e,yi];exact ⟨w2.heap.size,rfl,eb,eb,(hp _ eb).trans xd⟩
         . rw [if_neg e];rcases Ub.1 kf with q|q
           . exact xx.2 i q
           . exact absurd (U9.1 q) e
      have H4:=a7 k0 kv M qk ka;have ha:=al (z.keep ((hp r x8).trans (ks r z.lt kx)));have xe:=al (u.keep ((hp v xq).trans (ks v u.lt hF.v)));have xh:X.heap.size<=P.heap.size:=eb;clear hj k0 kv M qk ka hp kb hz ks x3 V xd a C B I z u O J qy km qj kz;rename_i hK
      refine hK _ _ ?_;clear hK;simp only [Act.RL,Act.put,UL,UJ,UM];gi_wp2;obtain ⟨hj,kv,M,qk,ka⟩:=H4.out;have a:=HI.out.1;have z8:=a.size;refine ⟨⟨xh,λk o c ho _=>(kv k eb (TW.1 ho).1).trans ho⟩,λ_=>H.RZ.keep (M.block _ H.RZ.lt (λq=>by rcases q with q|q|q|q;omega;omega;omega;exact hF.t q)),?_⟩;exact ⟨(kv _ x2 eb).trans a.b2,by rw [cK,kQ k8,uH _ R,x6];exact ha.out,by rw [cK,kQ k8,uH _ (LJ R),qs];exact xe.out,⟨_,hj,by rw [cK,kQ k8,FP _ R,<- UI];exact ka⟩,⟨r2,qk⟩,M,eb⟩
    . by_cases Y:A.R9 x.1 b=ZV .blank
      . obtain ⟨z1,qh⟩:=kR 206 ec;have qi:=B4;have z6:=uy;have R:gnB A b x.1=ZU:=(by unfold gnB OT;rw [Y];rfl);have qv:Cf A b x.1=ZU:=(by unfold Cf;simp [Y]);obtain rfl:=x4 (by rw [Y];exact nofun);have HS:=al (zu 11);rw [Y];clear Y qf qn x4;simp only [Act.RL,Act.put,UL,UJ,UM,eV,bm];gi_wp2;have V:bW w2 (w2.alloc (Z4 #[] 206)):=bA w2 _;obtain ⟨E,km⟩:=nM (w2.alloc (Z4 #[] 206));rw [km] at V ⊢;clear km;have kc:aa (F.has p A.n) X E:=qj.out.1.trans (aa.RO V _);have kr:=kz.out.below V lR;obtain ⟨a,C,B,I,z,u,O⟩:=HI.out;have W:Boxed E w.heap.size 164 (Z6 (ZV ⟨r,0,ZW⟩)):=(kc.block _ x1 y0).trans a.b2;have Q:=z.keep (kc.block _ z.lt kx);have Z:=u.keep (kc.block _ u.lt hF.v);clear a C B I z u O;refine Aa (s:=58) (Im ei) eb Z W Q x.1 eb eb eb (λe=>qx e.symm) eb rfl rfl rfl ?_;intro P kb;have ky:bk P v p D L G ps (ho|||hl|||2^x.1):=(by rw [kb];exact ai (j:=5) Z _);have M:aa (λk=>k=v) E P:=by
         rw [kb];exact (aa.drew E).trans (aa.setCell _ _ _ rfl)
        have ha:=Q.keep (M.block r Q.lt (λe=>qx e.symm));have q0:Boxed P w.heap.size 164 (Z6 (ZV ⟨r,0,ZW⟩)):=(M.block _ W.lt eb).trans W;have H4:=a8 ky M ha q0 kc kr;clear Q Z W kb ky M ha q0 kc kr V;rename_i hK
        refine hK _ _ ?_;clear hK;simp only [Act.RL,Act.put,UL,UJ,UM];gi_wp2;refine dS (HS.out _) ?_;rintro e hb ⟨rfl,xf⟩;subst xf;gi_wp2;obtain ⟨ky,M,ha,q0,kc,kr⟩:=H4.out;refine mi q0 ha x.1 eb eb eb ei rfl rfl rfl ?_;intro m ko;have he:cP m r v b g N (gone|||gn|||2^x.1) sp:=(by rw [ko];exact ai (j:=3) ha _);have ke:aa (λk=>k=r) hb m:=by
         rw [ko];exact (aa.drew hb).trans (aa.setCell _ _ _ rfl)
        have kh:aa (λk=>k=r\/k=v) E m:=(M.mono λ_ _ q=>.inr q).trans (ke.mono λ_ _ q=>.inl q);have kg:∃ rr,aj m p (A.rd rr) F:=⟨r2,kr.keep λk c=>kh.block k (kr.RQ c) (λe=>by rcases e with e|e;exact kx abE;exact hF.v abE)⟩;have q9:=HF.out m R he (by rw [FO _ qv,qs,<- Nat.or_assoc];exact ky.keep (ke.block _ ky.lt qx)) kg ((kc.mono λ_ _ q=>.inr (.inr q)).trans (kh.mono λ_ _ q=>q.elim .inl λq=>.inr (.inl q)));have H5:=al q9;clear ha ky q0 ko he ke kg q9 M kh kc kr;simp only [Act.RL,Act.put,UL,UJ,UM];gi_wp2;obtain ⟨⟨q1,q2⟩,q3,q4⟩:=H5.out;exact ⟨⟨q1,λk o c ho _=>(q2 k eb (TW.1 ho).1).trans ho⟩,λ_=>q3,q4⟩
      . obtain ⟨z1,z2,qh,qi⟩:=LM (λl e=>qf ⟨l,e⟩) Y;have R:gnB A b x.1=ZU:=by
         unfold gnB OT;split
         . rename_i l q;exact absurd ⟨l,q⟩ qf
         . rfl
        have qv:Cf A b x.1=A.lost x.1:=(by unfold Cf;simp [Y]);obtain ⟨Xv,xm⟩:=nM (eV (A.R9 x.1 b));rw [xm] at qh qi ⊢;clear xm qf Y;have HS:=al qn;clear qn;simp only [Act.RL,Act.put,UL,UJ,UM];gi_wp2;refine dS HS.out ?_;rintro e E ⟨rfl,km⟩;subst km;have J:=qj.out.1;obtain ⟨a,C,B,I,z,u,O⟩:=HI.out;have W:Boxed E w.heap.size 164 (Z6 (ZV ⟨r,0,ZW⟩)):=(J.block _ x1 y0).trans a.b2;have Q:=z.keep (J.block _ z.lt kx);have Z:=u.keep (J.block _ u.lt hF.v);clear a C B I z u O;rw [hh] at qv ⊢;have H2:=aE Q Z W;clear Q Z W;gi_wp2;obtain ⟨Q,Z,W⟩:=H2.out;refine mi W Q x.1 eb eb eb ei rfl rfl rfl ?_;intro m ko;have he:cP m r v b g N (gone|||gn|||2^x.1) sp:=(by rw [ko];exact ai (j:=3) Q _);have ke:aa (λk=>k=r) E m:=by
         rw [ko];exact (aa.drew E).trans (aa.setCell _ _ _ rfl)
        have kg:∃ rr,aj m p (A.rd rr) F:=⟨r2,kz.out.keep λk c=>ke.block k (kz.out.RQ c) (λe=>kx abE)⟩;have q9:=HF.out m R he (by rw [uH _ qv,qs];exact Z.keep (ke.block _ Z.lt qx)) kg ((J.mono λ_ _ q=>.inr (.inr q)).trans (ke.mono λ_ _ q=>.inl q));have H5:=al q9;clear Q Z W ko he ke kg q9;simp only [Act.RL,Act.put,UL,UJ,UM];gi_wp2;obtain ⟨⟨q1,q2⟩,q3,q4⟩:=H5.out;exact ⟨⟨q1,λk o c ho _=>(q2 k eb (TW.1 ho).1).trans ho⟩,λ_=>q3,q4⟩
 case done=>
  rintro D' xs X y6 yo a hK;have kp:ep xs=ae S:=yo;obtain ⟨f,B,C⟩:=a.row;have qd:∀ k,k<w.heap.size+1->(X.putObj D' (.deferred ZW)).heap[k]?=X.heap[k]?:=λk c=>UE eb;obtain ⟨rr,I⟩:=a.arr;refine Lt results126 rfl hK ⟨rfl,by rw [<- kp];exact a.rd.keep (qd _ eb),by rw [<- kp];exact a.vol.keep (qd _ eb),⟨f,B.of_block (qd _ eb),?_⟩,?_,?_⟩
  . rw [<- kp];refine C.keep W7 λk o c ho hc=>(UE (λe=>?_)).trans ho;rw [e,hK] at ho;cases ho;cases hc
  . exact ⟨rr,I.keep λk c=>qd k (eT (q5 k c))⟩
  . exact a.out.later (T:=λk=>w.heap.size<=k) ⟨rfl,rfl,rfl,W7,λk qb qc=>qd k eb⟩ (λk qb qc=>eb)
 case stop=>
  rintro D' cc pre X y6 yg hx hK;exact hx.elim
end
def LN (A:aA) (b k i:Nat):ZR:=if i<k then eV (A.R9 i b) else .nilIface
def Qn {A:aA} {r:bx} (h:A.R9 k b=ZV r) (i:Nat):(if i=k then bm r else LN A b k i)=LN A b (k+1) i:=by
 unfold LN;by_cases e:i=k
 . rw [if_pos e,if_pos eb,e,h];rfl
 . rw [if_neg e];by_cases a:i<k
   . rw [if_pos a,if_pos eb]
   . rw [if_neg a,if_neg eb]
def Qo {A:aA} (h:A.R9 k b=ZW) (i:Nat):LN A b k i=LN A b (k+1) i:=by
 unfold LN;by_cases e:i=k
 . rw [if_neg eb,if_pos eb,e,h];rfl
 . by_cases a:i<k
   . rw [if_pos a,if_pos eb]
   . rw [if_neg a,if_neg eb]
def aaS (w1:ZS) (g p N b:Nat) (A:aA) (F:aR) (i:ZR) (wr:ZS):Prop:=∃ k:Nat,k<=N/\i=Z7 Z9 k/\(∃ rs,aj wr p (A.rd rs) F)/\aa (λj=>j=g\/F.has p A.n j) w1 wr/\wr.rowIs g 195 N (LN A b k)
def N4 (w:ZS) (p b:Nat) (A:aA) (F:aR) (e:Ending) (w':ZS):Prop:=∃ g,e=Z3 (Z5 (ZV ⟨g,0,ZW⟩) A.n A.n)/\w.heap.size<=g/\w'.rowIs g 195 A.n (λi=>eV (A.R9 i b))/\(∃ rs,aj w' p (A.rd rs) F)/\aa (F.has p A.n) w w'
theorem iR {A:aA} (m:rp w v p D L G ps ho A F) (J:m8 F p A.n v) (y:A.fit) (b:Nat) (hn:A.n=D+L+G) (hD:D<=12) (hL:L<=4) (hG:G<=4) (hw:A.wait≠0) :
 ZQ ZP 65 #[Z6 (ZV ⟨v,0,ZW⟩),Z7 Z9 b] w λe w'=>N4 w p b A F e w':=by
 obtain ⟨_,c1,c2,c3,_⟩:=m.vol.cells;have Q:((D:Int)+(L:Int)+(G:Int))=((A.n:Nat):Int):=eb
 have k9:A.n<=1000:=y.n;go_enter func65,ntmps65;go_wp2_with fail;refine (dU (D:Int) (L:Int) (G:Int) w ⟨eb,eb⟩ ⟨eb,eb⟩ ⟨eb,eb⟩).mono ?_;rintro e a ⟨rfl,X⟩;rw [Q];clear Q hn;simp only [];go_wp2_with (at_make;refine vM _ rfl (Z0 13) (Z0 13) rfl _ A.n rfl rfl rfl eb ?_;intro I P Y ka);have z:bW w a:=X;have d:bW w I:=z.trans (Y.mono z.size);have k5:w.heap.size<=a.heap.size:=z.size;have hr:¬ F.has p A.n a.heap.size:=λq=>eT (m.arr.RQ q)
 have t:=m.below d lR;have k6:v≠a.heap.size:=λe=>eT m.vol.lt
 have k0:2≠a.heap.size:=λe=>eT m.laid.lt
 have R:∃ rs,aj I p (A.rd rs) F:=⟨A.reads,t.arr⟩;have V:I.rowIs a.heap.size 195 A.n (LN A b 0):=P.congr λi M=>by unfold LN;rw [if_neg eb]
 clear P X z Y m c1 c2 c3;go_loopw [17] (λi wr=>aaS I a.heap.size p A.n b A F i wr) (λi _=>A.n-(intOf i).toNat)
 case atStart=>exact ⟨0,T3 _,rfl,R,aa.refl _ _,V⟩
 case round=>
  clear R V;obtain ⟨k,hk,rfl,⟨rs,B⟩,l,C⟩:=hrel;by_cases Z:k<A.n
  . have W:bk wr v p D L G ps ho:=t.vol.keep (l.block _ t.vol.lt (λq=>q.elim k6 J.v));have S:aY wr:=t.laid.keep (l.block _ t.laid.lt (λq=>q.elim k0 J.g));have O:=rB (A:=A.rd rs) W B ⟨y.n,y.nb,y.len,y.byt⟩ k b Z hw S J.g;have H:=aE l C O;clear W S O B l C;go_wp2_with fail;refine H.out.2.2.mono ?_;rintro e w7 ⟨o,s,hz⟩;obtain ⟨r',K⟩:=LL A rs k b;rw [K] at o;rw [LK] at hz;have f:w7.rowIs a.heap.size 195 A.n (LN A b k):=H.out.2.1.of_block (s.block a.heap.size H.out.2.1.lt hr);rcases hz with ⟨r,u,rfl⟩|⟨u,q,n,rfl,-⟩
    . have cS:=f.cell (i:=k) Z;have fS:=f.frozen k;obtain ⟨ty,x,N⟩:=iL r;rw [N];have k8:((k:Nat):Int).toNat=k:=eb;have c:=a7 o (H.out.1.trans (s.mono λ_ _ q=>.inr q)) f u N;clear o s H f u N K;go_wp2;refine ⟨⟨k+1,eb,e8,⟨_,c.out.1.keep λj E=>T7 _ _ _ _ (λe=>hr (by have e':j=a.heap.size:=e;rwa [e'] at E))⟩,c.out.2.1.trans (aa.setCell _ _ _ (.inl rfl)),(c.out.2.2.1.set k _).congr λi M=>?_⟩,e9⟩;rw [<- c.out.2.2.2.2];exact Qn c.out.2.2.2.1 i
    . unfold sm;have c:=a5 o (H.out.1.trans (s.mono λ_ _ q=>.inr q)) f u;clear o s H f u K;go_wp2;exact ⟨⟨k+1,eb,e8,⟨_,c.out.1⟩,c.out.2.1,c.out.2.2.1.congr λi _=>Qo c.out.2.2.2 i⟩,e9⟩
  . have k7:k=A.n:=eb;subst k7;have U:aa (F.has p A.n) w wr:=(l.mono (T:=λj=>j=a.heap.size\/F.has p A.n j) λ_ _ q=>q) |> λh=>⟨h.os.trans d.os,h.tape.trans d.tape,h.output.trans d.output,TU d.size h.size,λj E hs=>(h.block j (TY E d.size) (λq=>q.elim (λe=>eb) hs)).trans (d.block j E)⟩;have H:=aE B U C;clear B l U C;go_wp2;go_ret;exact ⟨_,rfl,k5,H.out.2.2.congr λi M=>(by unfold LN;rw [if_pos M]),⟨rs,H.out.1⟩,H.out.2.1⟩
theorem EC (D L G t f n D' e d q g p:Nat):∃ b,∀ w:ZS,(Op.equalIn 9999 110 (.agg (av D L G t f n)) (.agg (av D' e d q g p))).run ZP w=.ok b w:=by
 have c:∀ {a b:Nat},a≠b->((a:Int)==(b:Int))=ZT:=λh=>en
 unfold av;by_cases i:D=D'
 . subst i;by_cases j:L=e
   . subst j;by_cases k:G=d
     . subst k;by_cases l:t=q
       . subst l;by_cases m:f=g
         . subst m;by_cases o:n=p
           . subst o;exact ⟨ZU,λw=>ab4⟩
           . have:=c o;exact ⟨ZT,λw=>ab4⟩
         . have:=c m;exact ⟨ZT,λw=>ab4⟩
       . have:=c l;exact ⟨ZT,λw=>ab4⟩
     . have:=c k;exact ⟨ZT,λw=>ab4⟩
   . have:=c j;exact ⟨ZT,λw=>ab4⟩
 . have:=c i;exact ⟨ZT,λw=>ab4⟩
def Cj:∃ i:TypeInfo,ZP.info? 182=ZV i/\i.comparable=ZU:=by
 have:(ZP.info? 182).map (λi=>i.comparable)=ZV ZU:=ei
 rw [VU] at this;exact this
def iz {t t':TypeId} (h:t≠t') (x y:ZR) (w:ZS):(Op.equalIn 10000 195 (.iface t x) (.iface t' y)).run ZP w=.ok ZT w:=by
 rw [Op.equalIn];simp [Uo,Uw abr,Uz,h]
def yt (t:TypeId) (y:ZR) (w:ZS):(Op.equalIn 10000 195 .nilIface (.iface t y)).run ZP w=.ok ZT w:=by
 rw [Op.equalIn];simp [Uo,Uw abr,Uz]
def LO:bx->Prop
 | .filled=>True
 | .root ..=>True
 | _=>False
theorem Iq (o:Option bx) {r:bx} (h:LO r):∃ b,∀ w:ZS,(Op.equalIn 10000 195 (eV o) (bm r)).run ZP w=.ok b w:=by
 match r,h with
 | .filled,_=>
  match o with
  | none=>exact ⟨_,yt _ _⟩
  | some .blank=>exact ⟨_,iz ec _ _⟩
  | some (.shard _)=>exact ⟨_,iz ec _ _⟩
  | some (.root ..)=>exact ⟨_,iz ec _ _⟩
  | some .filled=>
   obtain ⟨i,a,c⟩:=Cj;exact ⟨ZU,λw=>(uw 9999 182 _ _ i a c w).trans ab4⟩
 | .root D L G t f n,_=>
  match o with
  | none=>exact ⟨_,yt _ _⟩
  | some .blank=>exact ⟨_,iz ec _ _⟩
  | some (.shard _)=>exact ⟨_,iz ec _ _⟩
  | some .filled=>exact ⟨_,iz ec _ _⟩
  | some (.root D' e d l g k)=>
   obtain ⟨i,a,c⟩:=Lp;obtain ⟨b,j⟩:=EC D' e d l g k D L G t f n;exact ⟨b,λw=>(uw 9999 110 _ _ i a c w).trans (j w)⟩
def uI (o:Option bx):eV o=.nilIface\/∃ t x,eV o=.iface t x:=by
 cases o with
 | none=>exact .inl rfl
 | some r=>exact .inr (iL r)
def ED (o:Option bx) {r:bx} (h:LO r):∃ b,∀ w:ZS,(binOp .neq 195 (eV o) (bm r)).run ZP w=.ok (Z1 b) w:=by
 obtain ⟨b,c⟩:=Iq o h;refine ⟨!b,λw=>?_⟩;have a:=c w;obtain ⟨t,x,d⟩:=iL r;rcases uI o with e|⟨f,y,e⟩<;>(rw [e,d] at a ⊢;simp only [binOp];simp [Op.equal,Op.maxDepth,a])
def UgR (w:ZS) (N:Nat) (s i:ZR) (wr:ZS):Prop:=∃ k x:Nat,k<=N/\i=Z7 Z9 k/\s=Z7 Z8 x/\x<2^k/\wr=w
theorem uJ {r:bx} {R:Nat->Option bx} (C:N<=60) (hr:LO r) (a:w.rowIs g 195 N (λi=>eV (R i))) :
 ZQ ZP 99 #[Z5 (ZV ⟨g,0,ZW⟩) N N,bm r] w λe w'=>∃ x:Nat,e=Z3 (Z7 Z8 x)/\x<2^N/\w'=w:=by
 have f:∀ o:Option bx,∃ b,∀ w:ZS,(binOp .neq 195 (eV o) (bm r)).run ZP w=.ok (Z1 b) w:=λo=>ED o hr;obtain ⟨E,rv,m⟩:=iL r;rw [m] at f ⊢;clear m hr;have q:=al f;clear f;go_enter func99,ntmps99;go_wp2_with fail;go_loopw [4,9] (λs i wr=>UgR w N s i wr) (λ_ i _=>N-(intOf i).toNat)
 case atStart=>exact ⟨0,0,T3 _,rfl,rfl,ec,rfl⟩
 case round=>
  obtain ⟨k,x,D,rfl,rfl,d,rfl⟩:=hrel;by_cases v:k<N
  . have c:=a.cell (i:=k) v;have z:x<18446744073709551616:=W9 d (Fq eb);have j:=iM x k z eb wr;have h:x|||2^k<2^(k+1):=V0 (W9 d (VC ec eb)) (VC ec eb);have n:x<2^(k+1):=W9 d (VC ec eb);have H:=al a;clear a;obtain ⟨b,A⟩:=q.out (R k);obtain ⟨y,B⟩:=nM (x|||2^k);rw [B] at j h;have l:=al j;clear j;rcases uI (R k) with p|⟨F,u,p⟩<;>simp only [p] at c A<;>cases b
    . go_wp2;exact ⟨⟨k+1,x,eb,e8,rfl,n,rfl⟩,e9⟩
    . go_wp2_with fail;refine l.out.mono ?_;rintro e w' ⟨rfl,rfl⟩;go_wp2;exact ⟨⟨k+1,y,eb,e8,rfl,h,rfl⟩,e9⟩
    . go_wp2;exact ⟨⟨k+1,x,eb,e8,rfl,n,rfl⟩,e9⟩
    . go_wp2_with fail;refine l.out.mono ?_;rintro e w' ⟨rfl,rfl⟩;go_wp2;exact ⟨⟨k+1,y,eb,e8,rfl,h,rfl⟩,e9⟩
  . have t:k=N:=eb;subst t;clear a;go_wp2;go_ret;exact ⟨x,rfl,d,rfl⟩
