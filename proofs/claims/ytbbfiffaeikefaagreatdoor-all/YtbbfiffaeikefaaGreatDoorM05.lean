import Derived.Test.YtbbfiffaeikefaaGreatDoorM04
import Derived.Laws.EntriesVeiled
set_option maxRecDepth 100000
set_option linter.all false
set_option maxHeartbeats 8000000
open Go.IntKind renaming i64 -> Z9, u64 -> Z8
open Go.Value renaming int -> Z7, pointer -> Z6, slice -> Z5, bool -> Z1
open Go.Obj renaming cells -> Z4
open Go.Ending renaming returned -> Z3
open Go.Operand renaming tmp -> Z0
open Go renaming undef -> ZZ, World -> ZU, Value -> ZT, Calls -> ZR, Oper -> ZQ, Operand -> ZP
open Option renaming none -> ZY, some -> ZX
open Bool renaming true -> ZW, false -> ZV
open Go.RowKit renaming Below -> ZS
open List renaming range -> YE, replicate -> YG, nodup_range -> YJ, mem_flatten -> YK
open Exists renaming intro -> YF
open Nat renaming reduceAdd -> YH, reduceSub -> YI, le_succ_of_le -> YL, pos_of_ne_zero -> YM
open Go.Proofs.Tryz renaming prog -> ZO
open Go.Proofs.Tryz
namespace Go.Proofs.YtbbfiffaeikefaaGreatDoor
def WE:=@Go.Proofs.Tryz.underlying3
def ab2:=@List.flatten_append
def abz:=@Go.heap_setCell_same
def UR:=@List.nodup_cons
def Ww:=@Array.length_toList
def XQ:=@Go.Proofs.Tryz.underlying329
def abA:=@Array.size_modify
def U1:=@Go.Obj.cells.injEq
def ab3:=@Array.getElem_modify_self
def Wp:=@List.map_congr_left
end Go.Proofs.YtbbfiffaeikefaaGreatDoor
namespace Go.Proofs.YtbbfiffaeikefaaGreatDoor
open Go.RowKit Go.Deep Gf Go.Shelf
variable {a:Act} {ops:Array ZQ} {x C C':Ck} {rec:Ck->Nat->Nat->cE->cE} {Q:Exit->Act->ZU->Prop} {F:Fence} {regs:Int} {R M:List a8} {K:a8} {rest:List ZQ} {pre:List Sh} {base n size g r b N gone sp p D L G i nb l k q m B h of Bl d n0 kept lost Bg:Nat} {Dn:Nat->Bool} {o:ZQ} {row:Option Nat} {P:Program} {s sx:cE} {J:cE->ZU->Prop} {e t:TypeId} {v:ZT} {w w' w1 w2 W W' X w'' Y:ZU}
def qA (w:ZU) (t u q e:TypeId) (k:IntKind) (i:TypeInfo) (z:ZT) (l:P.underlying t=ZX (.slice e)) (m:P.underlying u=ZX (.int k)) (g:P.info? e=ZX i) (p:i.zero=ZX z) (f:i.bytes=1) (j:i.size=1)
 (n:Nat) (a:0<n) (r:n<=1000000) :
 (Builtin.append_ #[t,u] q #[Z5 ZY 0 0,Z7 Z9 n]).run P w =
  .ok (Z5 (ZX ⟨w.heap.size,0,ZY⟩) n (grownCap w n 0 e)) (w.drew.alloc (Z4 (Builtin.zeroCells z.cells n++Builtin.zeroCells z.cells (grownCap w n 0 e-n)) e)):=by
 have h:n≠0:=by omega
 have d:¬ (9223372036854775807<(n:Int)):=by omega
 have o:IntKind.i64.wrap (n:Int)=n:=by rw [UB];omega
 have hl:¬ ((n:Int)<0):=by omega
 have c:¬ (281474976710656<Builtin.nextslicecap n 0):=by rw [nextslicecap_zero a];omega
 have b:¬ (281474976710656<(n:Int)):=by omega
 simp [Builtin.append_,UO l,UO m,sizeOf,typeInfo,zeroValue,g,p,f,j,h,d,c,b,o,hl,Question.forced,run_firstCells_none,newRow,grownCap,asInt,asIntOf]
def Tryz.R4:(ZO.info? 5).map (λi=>(i.zero,i.size,i.bytes))=ZX (ZX (Z7 .u8 0),1,1):=by kernel_rfl
def Ix (w:ZU) (n c:Nat) (b:n<=c) (a:c<=maxLen):(w.drew.alloc (Z4 (Builtin.zeroCells (Value.cells (Z7 .u8 0)) n++Builtin.zeroCells (Value.cells (Z7 .u8 0)) (c-n)) 5)).ownsRow w.heap.size 5 1 (Z5 (ZX ⟨w.heap.size,0,ZY⟩) 0 c) 0 []:=by
 refine ⟨rfl,.inr ⟨w.heap.size,c,_,rfl,TV _,Ug w.drew _,T5 _,a,?_,by simp⟩⟩;simp [Builtin.zeroCells,Value.cells];omega
def zS (w w':ZU) {ops:Array ZQ} {rest:List ZQ} {o:ZQ} {a:Act} {Q:Exit->Act->ZU->Prop} (b:o.guard=ZY) (s x:ZP) (t tx:TypeId)
 (ho:o.op=.call { callee:=.builtin .append,args:=#[s,x],argTypes:=#[t,tx] }) (v u v':ZT) (hv:a.eval s=v) (hu:a.eval x=u) (hr:∀ c,(Builtin.append_ #[t,tx] c #[v,u]).run P w=.ok v' w')
 (h:wpList P ops Q rest (a.put o.dst v') w'):wpList P ops Q (o::rest) a w:=by
 refine VZ b λK hK=>?_;unfold Oper.wp execOp;simp only [ho,resolve,invoke,builtin,Ux,Vf,UM,V3,UG,Vg,hv,hu,hr];exact hK _ _ h
theorem Lv (n:Nat) (r:n<=1000000) (w:ZU):ZR ZO 144 #[Z5 ZY 0 0,Z7 Z9 n] w λe w'=>∃ v,e=Z3 v/\w'.ownsRow w.heap.size 5 1 v 0 []/\bW w w':=by
 obtain ⟨s,k,m,p,q⟩:=Us Tryz.R4;by_cases j:0<n
 . have a:=λt=>qA (P:=ZO) w 39 3 t 5 .i64 s (Z7 .u8 0) Ul WE k m q p n j r;have f:n<=grownCap w n 0 5:=abo w n 0 5;have d:grownCap w n 0 5<=maxLen:=abp w n 0 5 (by unfold maxLen;omega);have c:=Ix w n (grownCap w n 0 5) f d;have b:bW w (w.drew.alloc (Z4 (Builtin.zeroCells (Value.cells (Z7 .u8 0)) n++Builtin.zeroCells (Value.cells (Z7 .u8 0)) (grownCap w n 0 5-n)) 5)):=(TW _ w).drew.alloc lR _;obtain ⟨cp,g⟩:=nM (grownCap w n 0 5);rw [g] at a f d c b;obtain ⟨w2,h⟩:=nM (w.drew.alloc (Z4 (Builtin.zeroCells (Value.cells (Z7 .u8 0)) n++Builtin.zeroCells (Value.cells (Z7 .u8 0)) (cp-n)) 5));rw [h] at a c b;have H:=al c b;have i:=ak a;clear c b h g d a;go_enter func144,ntmps144;go_wp2_with (show wpList _ _ _ ({ dst:=ZX 22,op:=_,type:=_,pos:=_,after:=_,guard:=_ }::_) _ _;refine zS w w2 rfl (Z0 20) (Z0 21) 39 3 rfl (Z5 ZY 0 0) (Z7 Z9 n) (Z5 (ZX ⟨w.heap.size,0,ZY⟩) n cp) rfl rfl (by exact i.o) ?_);go_ret;exact ⟨_,rfl,H.o.1,H.o.2⟩
 . have l:n=0:=(by omega);subst l;go_enter func144,ntmps144;go_wp2;go_ret;exact ⟨_,rfl,UN _ _ _ _,TW _ _⟩
def eh {xs:List ZT} (h:w.ownsRow base e size v n xs) {k:Nat} (a:v.ownBlock=ZX k):base<=k:=by
 rcases h.2 with ⟨c,_⟩|⟨g,cap,cur,b,d,_⟩
 . rw [c] at a;simp [Value.ownBlock] at a
 . rw [b] at a;simp [Value.ownBlock] at a;omega
def CcR (w:ZU) (K:Nat) (s i:ZT) (wr:ZU):Prop:=∃ k:Nat,k<=K/\i=Z7 Z9 k/\s=Z7 Z9 ((44*k:Nat):Int)/\wr=w
def CdR (w:ZU) (R:List a8) (v i:ZT) (wr:ZU):Prop:=∃ k:Nat,k<=R.length/\i=Z7 Z9 k/\wr.ownsRow w.heap.size 5 1 v (44*k) (aH (R.take k).flatten)/\bW w wr
theorem Iy {c:Nat} (T:Nq w base g R) (W:R.length<=1000):ZR ZO 112 #[Z5 (ZX ⟨g,0,ZY⟩) R.length c] w λe w'=>∃ v,e=Z3 v/\w'.ownsRow w.heap.size 5 1 v (44*R.length) (aH R.flatten)/\bW w w':=by
 obtain ⟨i0,Z,hx,hy,hz⟩:=Us Tryz.R4;obtain ⟨K,hK⟩:=nM (R.length);obtain ⟨_,Y,G⟩:=T;have f:=al G hK;rw [hK] at W ⊢;clear G hK;go_enter func112,ntmps112;go_wp2_with fail;go_loopw [3,11] (λs i wr=>CcR w K s i wr) (λ_ i _=>K-(intOf i).toNat)
 case atStart=>exact ⟨0,T5 _,rfl,rfl,rfl⟩
 case round=>
  obtain ⟨k,k6,rfl,rfl,P⟩:=hrel;obtain rfl:w=wr:=P.symm;clear P;by_cases D:k<K
  . obtain ⟨b,off,l,c1,B,m,n,p,C⟩:=f.o.1 k (by rw [f.o.2];exact D);clear B m n p C;have y:((44*k:Nat):Int)+44=((44*(k+1):Nat):Int):=(by omega);have U:44*(k+1)<=44000:=(by omega);obtain ⟨M,r⟩:=nM (44*k);obtain ⟨M',A⟩:=nM (44*(k+1));rw [r,A] at y;rw [A] at U;rw [r];go_wp2;refine ⟨⟨k+1,by omega,by go_num,by rw [A],rfl⟩,by simp [intOf];omega⟩
  . have hv:k=K:=(by omega);subst hv;obtain ⟨M,r⟩:=nM (44*k);have k0:M<=44000:=(by omega);rw [r];go_wp2_with fail;refine (Lv M (by omega) w).mono ?_;rintro e w1 ⟨v,rfl,d,a⟩;have t:=al d a;clear d a;go_wp2_with fail;go_loopw [6,27] (λv i F=>CdR w R v i F) (λ_ i _=>k-(intOf i).toNat)
    case atStart=>exact ⟨0,T5 _,rfl,t.o.1,t.o.2⟩
    case round=>
     clear t;obtain ⟨j,hr,rfl,d,a⟩:=hrel;rw [f.o.2] at hr;by_cases D:j<k
     . have J:j<R.length:=(by rw [f.o.2];exact D);obtain ⟨b,off,l,c1,B,m,n,p,C⟩:=f.o.1 j J;have Q:wr.cell? ⟨g,j,ZY⟩=ZX (Z5 (ZX ⟨b,off,ZY⟩) 44 l):=(Uk (a.block g Y)).trans c1;have z:Src ZO 1 39 (Z5 (ZX ⟨b,off,ZY⟩) 44 l) 44 (aH R[j]) wr:=Vn wr Ul ⟨b,off,ZY⟩ 44 l (aH R[j]) (by rw [aX,p]) (λq u hq=>by have I:wr.cell? ⟨b,off+q,ZY⟩=ZX u:=(Uk (a.block b m)).trans (n q u hq);unfold Addr.add;split<;>first|exact I|(rename_i S;subst S;exact I)) (λu hu=>by
        obtain ⟨x,_,rfl⟩:=T7.1 hu;rfl)
       have h:aH (R.take (j+1)).flatten=aH (R.take j).flatten++aH R[j]:=by
        rw [Vh,Ua J,Option.toList_some,ab2,bM];simp
       obtain ⟨E,N⟩:=nM (aH R[j]);obtain ⟨rt,L⟩:=nM (aH (R.take j).flatten);rw [N] at z h;rw [L] at d h;have O:=a.size;have H:=a5 d a z h;have k5:44*j+44<=44000:=(by omega);clear d a z h B m n p C c1 N L;go_wp2_with (show wpList _ _ _ ({ dst:=ZX 33,op:=_,type:=_,pos:=_,after:=_,guard:=_ }::_) _ _;refine ae _ rfl (Z0 31) (Z0 32) 39 39 rfl w.heap.size 5 i0 (Z7 .u8 0) 1 1 Ul Z hx hy hz rfl _ (44*j) rt (by rfl) (by exact H.o.1) _ (by rfl) 44 E (by exact H.o.2.2.1) (by unfold maxLen;omega) (by omega) (by exact O) ?_;intro v' w3 V X _);obtain ⟨d,a,_,h⟩:=H.o;refine ⟨⟨j+1,by rw [f.o.2];omega,by go_num,?_,a.grown X O λq e=>eh d e⟩,by simp [intOf];omega⟩;rw [h,show 44*(j+1)=44*j+44 by omega];exact V
     . have hs:j=k:=(by omega);subst hs;have H:=al d a;clear d a;go_wp2;go_ret;refine ⟨_,rfl,?_,H.o.2⟩;have:=H.o.1;rw [UI (by rw [f.o.2];exact TV _)] at this;exact this
def rdA (v b g N gone sp:Nat):Array ZT:=#[Z6 (ZX ⟨v,0,ZY⟩),Z7 Z9 b,Z5 (ZX ⟨g,0,ZY⟩) N N,Z7 Z8 gone,Z7 Z8 sp]
def ew (w:ZU) (r v b g N gone sp:Nat):Prop:=w.heap[r]?=ZX (Z4 (rdA v b g N gone sp) 200 (0,0))
def ew.keep {v:Nat} (h:ew w r v b g N gone sp) (e:w'.heap[r]?=w.heap[r]?):ew w' r v b g N gone sp:=e.trans h
def ew.lt {v:Nat} (h:ew w r v b g N gone sp):r<w.heap.size:=(TX.1 h).1
def ew.cells {v:Nat} (h:ew w r v b g N gone sp):w.cell? ⟨r,0,ZY⟩=ZX (Z6 (ZX ⟨v,0,ZY⟩))/\w.cell? ⟨r,1,ZY⟩=ZX (Z7 Z9 b)/\w.cell? ⟨r,2,ZY⟩=ZX (Z5 (ZX ⟨g,0,ZY⟩) N N)/\w.cell? ⟨r,3,ZY⟩=ZX (Z7 Z8 gone)/\w.cell? ⟨r,4,ZY⟩=ZX (Z7 Z8 sp):=by
 have a:w.heap[r]?=ZX (Z4 (rdA v b g N gone sp) 200 (0,0)):=h;simp [World.cell?,a,rdA]
def ew.free {v:Nat} (h:ew w r v b g N gone sp) (i:Nat):w.frozen? ⟨r,i,ZY⟩=ZV:=by
 have a:w.heap[r]?=ZX (Z4 (rdA v b g N gone sp) 200 (0,0)):=h;simp [World.frozen?,a]
def wA (w:ZU) {ops:Array ZQ} {rest:List ZQ} {o:ZQ} {a:Act} {Q:Exit->Act->ZU->Prop}
 (h:o.guard=ZY) (l c:ZP) (e:o.op=Op.makeSlice 85 l c) (C:Int) (n:Nat) (hl:a.eval l=Z7 Z9 C) (g:a.eval c=Z7 Z9 C) (f:C=(n:Int)) (i:n<=1000000)
 (hK:∀ w',w'.rowIs w.heap.size 39 n (λ_=>Z5 ZY 0 0)->bW w w'->w'.heap.size=w.heap.size+1->wpList ZO ops Q rest (a.put o.dst (Z5 (ZX ⟨w.heap.size,0,ZY⟩) n n)) w') :
 wpList ZO ops Q (o::rest) a w:=by
 refine VZ h λK d=>?_;have b:=XY (P:=ZO) 85 39 (Z5 ZY 0 0) 24 VQ Tryz.R7 rfl .i64 .i64 n (by omega) (by omega) w;subst f;unfold Oper.wp;simp [execOp,e,hl,g,b,Result.andThen];exact d _ _ (hK _ (XA w _ n _) (bA _ _) (Uh _ _))
theorem ui (w:ZU) (n:TypeId) (g N c:Nat) (f:Nat->ZT) (h:w.rowIs g 39 N f) (s:0<N):(Builtin.clear_ #[85] n #[Z5 (ZX ⟨g,0,ZY⟩) N c]).run ZO w=.ok (.tuple #[]) (w.setRow g (YG N (Value.slice ZY 0 0)).toArray):=by
 obtain ⟨cs,d,e,o⟩:=h;obtain ⟨t,b,j,q,r⟩:=Us Tryz.R7;have l:(Builtin.zeroCells (Value.cells (Z5 ZY 0 0)) N).toList=YG N (Value.slice ZY 0 0):=by
  apply Vb
  . simp [Builtin.zeroCells,Value.cells]
  . intro i _ _;simp [Builtin.zeroCells,Value.cells,Nat.mod_one]
 have a:=run_storeCells_from (P:=ZO) g 39 (YG N (Value.slice ZY 0 0)) 0 cs w d (by simp [e]) (λv k=>by rw [VJ k];rfl);have:N≠0:=by omega
 simp only [Wm,Uo] at a;obtain ⟨m,rfl⟩:∃ m,N=m+1:=⟨N-1,by omega⟩;simp [Builtin.clear_,UO VQ,zeroValue,typeInfo,b,j,l,a]
def zT (w:ZU) {ops:Array ZQ} {rest:List ZQ} {o:ZQ} {a:Act} {Q:Exit->Act->ZU->Prop} (j:o.guard=ZY) (s:ZP)
 (ho:o.op=.call { callee:=.builtin .clear,args:=#[s],argTypes:=#[85] }) (h0:o.dst=ZY) {g N c:Nat} {f:Nat->ZT} (hv:a.eval s=Z5 (ZX ⟨g,0,ZY⟩) N c) (hr:w.rowIs g 39 N f) (hN:0<N)
 (h:∀ w',w'.rowIs g 39 N (λ_=>Z5 ZY 0 0)->aa (λk=>k=g) w w'->wpList ZO ops Q rest a w'):wpList ZO ops Q (o::rest) a w:=by
 refine VZ j λK hK=>?_;unfold Oper.wp execOp;simp only [ho,resolve,invoke,builtin,Ux,Vf,UM,V3,UG,Vg,hv,ui w _ g N c f hr hN];have b:=aL w g (YG N (Value.slice ZY 0 0)).toArray;obtain ⟨cs,d,_⟩:=hr;refine hK _ _ ?_;rw [h0];exact h _ ⟨_,Vv _ _ _ _ _ _ d,by simp,λi m=>by simp [m]⟩ ⟨b.os,b.tape,b.output,b.size,λk n l=>b.block k n (λe=>l (UJ e))⟩
def EH (w:ZU) (r:Nat) {v b0 g N gone sp:Nat} (h:ew w r v b0 g N gone sp) (b ho:Nat):ew (((w.setCell ⟨r,1,ZY⟩ (Z7 Z9 b)).setCell ⟨r,3,ZY⟩ (Z7 Z8 0)).setCell ⟨r,4,ZY⟩ (Z7 Z8 ho)) r v b g N 0 ho/\aa (λk=>k=r) w (((w.setCell ⟨r,1,ZY⟩ (Z7 Z9 b)).setCell ⟨r,3,ZY⟩ (Z7 Z8 0)).setCell ⟨r,4,ZY⟩ (Z7 Z8 ho)):=by
 refine ⟨?_,((aa.setCell (S:=λk=>k=r) w ⟨r,1,ZY⟩ _ rfl).trans (aa.setCell _ ⟨r,3,ZY⟩ _ rfl)).trans (aa.setCell _ ⟨r,4,ZY⟩ _ rfl)⟩;have a:=abz w r 1 _ _ (Z7 Z9 b) h;have c:=abz _ r 3 _ _ (Z7 Z8 0) a;exact abz _ r 4 _ _ (Z7 Z8 ho) c
theorem Gm {v ps ho b0:Nat} {f:Nat->ZT} (h:ew w r v b0 g N gone sp) (m:bt w v p D L G ps ho) (n:w.rowIs g 39 N f) (x:0<N) (d:g≠r) (u:v≠g) (b:Nat) :
 ZR ZO 109 #[Z6 (ZX ⟨r,0,ZY⟩),Z7 Z9 b] w λe w'=>e=Z3 (.tuple #[])/\ew w' r v b g N 0 ho/\w'.rowIs g 39 N (λ_=>Z5 ZY 0 0)/\aa (λk=>k=r\/k=g) w w':=by
 obtain ⟨c0,c1,q,s,t⟩:=h.cells;have H:=aE h m n;clear h m n;go_enter func109,ntmps109;go_wp2_with (show wpList _ _ _ ({ dst:=ZY,op:=.call { callee:=.builtin .clear,args:=_,argTypes:=_ },type:=_,pos:=_,after:=_,guard:=_ }::_) _ _;refine zT _ rfl (Z0 7) rfl rfl (g:=g) (N:=N) (c:=N) (f:=f) rfl (by exact H.o.2.2) x ?_;intro w1 l a;obtain ⟨z,d1,A,B,C⟩:=(H.o.1.keep (a.block _ H.o.1.lt (λe=>d e.symm))).cells;obtain ⟨_,_,_,_,_,J⟩:=(H.o.2.1.keep (a.block _ H.o.2.1.lt u)).cells;have E:=(H.o.1.keep (a.block _ H.o.1.lt (λe=>d e.symm))).free 1;have F:=(H.o.1.keep (a.block _ H.o.1.lt (λe=>d e.symm))).free 3;have I:=(H.o.1.keep (a.block _ H.o.1.lt (λe=>d e.symm))).free 4;have i:=al l a;clear l a c0 c1 q s t);first|go_end0|skip
 have y:=H.o.1.keep (i.o.2.block _ H.o.1.lt (λe=>d e.symm));have j:=EH w1 r y b ho;refine ⟨rfl,j.1,i.o.1.of_block (j.2.block _ i.o.1.lt (λe=>d e)),(i.o.2.mono λ_ _ e=>.inr e).trans (j.2.mono λ_ _ e=>.inl e)⟩
def QN {D:Nat->Bool}:mj D i i=ZW:=TT rfl
def bE {xs:List ZT} (h:w.ownsRow base e size v n xs):∃ d f,v=.slice d n f:=by
 rcases h.2 with ⟨b,c⟩|⟨g,cap,cur,a,_⟩
 . exact ⟨ZY,0,by rw [b,c]⟩
 . exact ⟨_,_,a⟩
def bz {xs:List ZT} (h:w.ownsRow base e size v n xs) {k:Nat} (a:v.ownBlock=ZX k):∃ cur,w.heap[k]?=ZX (Z4 cur e (0,0)):=by
 rcases h.2 with ⟨d,_⟩|⟨g,cap,cur,b,_,c,_⟩
 . rw [d] at a;simp [Value.ownBlock] at a
 . rw [b] at a;simp [Value.ownBlock] at a;subst a;exact ⟨cur,c⟩
def bF {xs:List ZT} (h:w.ownsRow base e size v n xs) {k:Nat} {cs:Array ZT} (c:w.heap[k]?=ZX (Z4 cs t (0,0))) (b:e≠t):v.ownBlock≠ZX k:=by
 intro q;obtain ⟨cur,a⟩:=bz h q;rw [c] at a;injection a with a;injection a with h1 h2;exact b h2.symm
def bV {xs:List ZT} {S:Nat->Prop} (h:w.ownsRow base e size v n xs) (f:aa S w w') (i:∀ k,v.ownBlock=ZX k->¬ S k):w'.ownsRow base e size v n xs:=by
 refine ⟨h.1,?_⟩;rcases h.2 with d|⟨g,cap,cur,a,c,b,r⟩
 . exact .inl d
 . exact .inr ⟨g,cap,cur,a,c,(f.block g (TX.1 b).1 (i g (by rw [a];rfl))).trans b,r⟩
def xY {xs:List ZT} (h:w.ownsRow base e size v n xs) (f:∀ k,v.ownBlock=ZX k->w'.heap[k]?=w.heap[k]?):w'.ownsRow base e size v n xs:=by
 refine ⟨h.1,?_⟩;rcases h.2 with d|⟨g,cap,cur,a,b,c,r⟩
 . exact .inl d
 . exact .inr ⟨g,cap,cur,a,b,(f g (by rw [a];rfl)).trans c,r⟩
def QO {xs:List ZT} (h:w.ownsRow base e size v n xs) {k:Nat} (b:v.ownBlock=ZX k):k<w.heap.size:=by
 obtain ⟨cur,a⟩:=bz h b;exact (TX.1 a).1
def Gn (nb:Nat):∀ (l:a8) (s:(Nat->Bool)×Bool),(∀ x∈l,2<=x/\x<nb/\s.1 x=ZV)->l.Nodup->(l.foldl (jt nb) s).2=s.2/\∀ x,(l.foldl (jt nb) s).1 x=(s.1 x || decide (x∈l))
 | [],s,_,_=>⟨rfl,λx=>by simp⟩
 | y::l,s,h,m=>by
  obtain ⟨p,r,g⟩:=h y (U7 ..);obtain ⟨i,k⟩:=UR.1 m;have e:jt nb s y=(λj=>if j=y then ZW else s.1 j,s.2):=by
   unfold jt;rw [TS (λq=>by rcases q with q|q|q;omega;omega;rw [g] at q;cases q)]
  rw [W4,e];obtain ⟨n,o⟩:=Gn nb l (λj=>if j=y then ZW else s.1 j,s.2) (λx f=>by
   obtain ⟨a,b,c⟩:=h x (UP _ f);have d:¬ x=y:=λq=>i (by rw [<- q];exact f);exact ⟨a,b,by show (if x=y then ZW else s.1 x)=ZV;rw [TS d];exact c⟩) k
  refine ⟨n,λx=>?_⟩;rw [o];show ((if x=y then ZW else s.1 x) || decide (x∈l))=(s.1 x || decide (x∈y::l));by_cases d:x=y
  . subst d;simp
  . rw [TS d];simp [d]
def Lw {l:a8} (e:l.Nodup) (a:∀ x∈l,2<=x/\x<nb):(tk nb l).2=ZW/\∀ x,(tk nb l).1 x=decide (x∈l):=by
 obtain ⟨c,d⟩:=Gn nb l (λ_=>ZV,ZW) (λx b=>⟨(a x b).1,(a x b).2,rfl⟩) e;exact ⟨c,λx=>by rw [show (tk nb l).1 x=_ from d x];rfl⟩
def qB {T:Nat->Bool} {x:Nat}:x∈aY T k↔x<k/\2<=x/\T x=ZV:=by
 unfold aY;rw [Vt,Uu];simp
def ry (T:Nat->Bool) (k:Nat):(aY T k).Nodup:=(YJ).filter _
def jc {l:a8} (e:l.Nodup) (d:∀ x∈l,2<=x/\x<nb) {x:Nat} (f:x∈aY (tk nb l).1 nb):(2<=x/\x<nb)/\x∉l:=by
 obtain ⟨b,c,a⟩:=qB.1 f;rw [(Lw e d).2] at a;exact ⟨⟨c,b⟩,of_decide_eq_false a⟩
def nz {l:a8} (b:l.Nodup) (a:∀ x∈l,2<=x/\x<nb) (c:Nat):(((aY (tk nb l).1 nb).take c)++l).Nodup/\∀ x∈((aY (tk nb l).1 nb).take c)++l,2<=x/\x<nb:=by
 refine ⟨U9.2 ⟨(ry _ _).sublist (List.take_sublist _ _),b,λx d y f e=>?_⟩,λx d=>?_⟩
 . subst e;exact (jc b a (UY d)).2 f
 . rcases Uj.1 d with h|h
   . exact (jc b a (UY h)).1
   . exact a x h
theorem lT {l:a8} (c:l.Nodup) (a:∀ x∈l,2<=x/\x<nb):(aY (tk nb l).1 nb).length+l.length+2=max 2 nb:=by
 by_cases m:2<=nb
 . have k:((aY (tk nb l).1 nb)++l++[0,1]).Perm (YE nb):=by
    refine (List.perm_ext_iff_of_nodup ?_ YJ).2 λx=>?_
    . refine U9.2 ⟨U9.2 ⟨ry _ _,c,λx b y d e=>?_⟩,by decide,λx b y d e=>?_⟩
      . subst e;exact (jc c a b).2 d
      . subst e;have g:2<=x:=by
         rcases Uj.1 b with h|h
         . exact (jc c a h).1.1
         . exact (a x h).1
        simp at d;omega
    . rw [Uu,Uj,Uj,qB];constructor
      . rintro ((h|h)|h)
        . exact h.1
        . exact (a x h).2
        . simp at h;omega
      . intro h;by_cases g:2<=x
        . by_cases f:x∈l
          . exact .inl (.inr f)
          . exact .inl (.inl ⟨h,g,by rw [(Lw c a).2];exact Vu f⟩)
        . exact .inr (by simp;omega)
   have:=k.length_eq;simp at this;omega
 . have i:l=[]:=by
    cases l with
    | nil=>rfl
    | cons x l=>have:=a x (U7 ..);omega
   subst i;have j:aY (tk nb []).1 nb=[]:=by
    rw [acb];intro x b;have:=qB.1 b;omega
   rw [j];simp;omega
structure Ly (lo hi:Nat) (a a':Act):Prop where
 size:a'.tmps.size=a.tmps.size
 defers:a'.defers=a.defers
 slot:∀ s,s<lo\/hi<=s->a'.eval (.tmp s)=a.eval (.tmp s)
def Lz (p q:Nat) (w w1 w2:ZU) (Dn:Nat->Bool) (w':ZU):Prop:=w'=if Dn p=ZW then (if Dn q=ZW then w2 else w1) else w.drew
def Gp (h:Lz p q w w1 w2 Dn w') (i:Nat) (a:p≠i) (b:q≠i):Lz p q w w1 w2 (mj Dn i) w':=by unfold Lz;rw [gJ a,gJ b];exact h
def Co (h:Lz p q w w1 w2 Dn w') (a:Dn p=ZV):w'=w.drew:=by
 unfold Lz at h;rwa [TS (by rw [a];decide)] at h
def EJ {o:Nat} {m:Nat->Nat} (h:w.there b o 16):(Instr.storeAt 249 (Z6 (ZX ⟨b,o,ZY⟩)) (.agg (fE m).toArray)).run ZO w=.ok () (w.setCells b o (fE m)):=run_storeAt_mid (P:=ZO) w b o 249 (fE m).toArray (by simpa [jH] using h) (by simpa using Tryz.Sf _) (Lp _)
theorem Ly.split {lo hi:Nat} {a':Act} (b:Ly lo hi a a') (p:lo<=hi) (q:hi<=a.tmps.size) :
 ∃ l:List ZT,l.length=hi-lo/\a'={ tmps:=(a.tmps.toList.take lo++(l++a.tmps.toList.drop hi)).toArray,defers:=a.defers }:=by
 have f:∀ (x:Act) (s:Nat),s<x.tmps.size->x.tmps[s]?=ZX (x.eval (.tmp s)):=λx s g=>by
  simp [Act.eval,Vs,g]
 refine ⟨(a'.tmps.toList.drop lo).take (hi-lo),?_,?_⟩
 . have:=b.size;simp;omega
 . obtain ⟨c,o⟩:=a';have g:=b.size;have j:=b.defers;simp only at g j;subst j;congr 1;apply Array.ext_getElem?;intro i;simp only [Xm,List.getElem?_append,X6,Wd,Un,Um,Ww,abx];by_cases c1:i<lo
   . rw [TT (by omega),TT c1];have e:=b.slot i (.inl c1);have d:=f ⟨c,a.defers⟩ i (by show i<c.size;omega);have h:=f a i (by omega);simp only at d;rw [d,h,e]
   . by_cases n:i<hi
     . rw [TS (by omega),TT (by omega),TT (by omega),show lo+(i-min lo a.tmps.size)=i by omega]
     . rw [TS (by omega),TS (by omega)];have m:hi+(i-min lo a.tmps.size-min (hi-lo) (c.size-lo))=i:=(by omega);rw [m];by_cases k:i<a.tmps.size
       . have e:=b.slot i (.inr (by omega));have d:=f ⟨c,a.defers⟩ i (by show i<c.size;omega);have h:=f a i k;simp only at d;rw [d,h,e]
       . rw [Xl (by omega),Xl (by omega)]
def aau {l:List ZT} (h:l.length=9):∃ u0 u1 u2 u3 u4 u5 u6 u7 u8,l=[u0,u1,u2,u3,u4,u5,u6,u7,u8]:=by
 match l,h with
 | [u0,u1,u2,u3,u4,u5,u6,u7,u8],_=>exact ⟨u0,u1,u2,u3,u4,u5,u6,u7,u8,rfl⟩
theorem Cp (b i:Nat) (C:Ck) (w:ZU) (p:aD w b C) (q:eF C) (B:i<16) :
 ZR ZO 223 #[Z6 (ZX ⟨b,0,ZY⟩),Z7 Z9 i] w λe w'=>
  (ix C i=ZY/\e=Z3 (Z1 ZV)/\w'=w)\/(∃ C',ix C i=ZX C'/\e=Z3 (Z1 ZW)/\aD w' b C'/\w.grownBy w' (ZX b)):=by
 go_enter func223,ntmps223;go_wp2_with fail;refine (xT b i C w p q B).mono ?_;rintro e w1 ⟨rfl,G⟩;subst G;cases h2:eo C i with
 | none=>
  have h:cA (ix C i=ZY):=ak (by unfold ix;rw [h2];rfl);simp only [spV];clear h2;go_wp2;go_ret;exact .inl ⟨h.o,rfl,rfl⟩
 | some r=>
  obtain ⟨K,L,M⟩:=gT h2;have h:cA (ix C i=ZX (gU C i r)):=ak (by unfold ix;rw [h2];rfl);have J:=q.Sd;simp only [spV];clear h2;go_wp2_with fail;refine (xW b r i C _ p q (by omega) B).mono ?_;rintro e w2 ⟨rfl,f,y⟩;have u:=f.Sl;have E:=f.frozen 129;have x:(ll C C.count r i).count=C.count:=rfl;rw [x] at u;have c:=xX f (C.count-1);have a:=eI y 129 (Z7 Z9 ((C.count-1:Nat):Int));have F:IntKind.i64.wrap ((C.count:Int)-1)=((C.count-1:Nat):Int):=by rw [UB];omega
  obtain ⟨g,z⟩:=nM (w2.setCell ⟨b,129,ZY⟩ (Z7 Z9 ((C.count-1:Nat):Int)));rw [z] at c a;have j:=c.Sl;have s:=ak (sA (show aD g.drew b _ from c) r (by omega) ((ll C C.count r i).m (C.count-1)));have v:cA (w1.grownBy (g.drew.setCells b (r*16) (fE ((ll C C.count r i).m (C.count-1)))) (ZX b)):=ak (oK _ _ _ _ ⟨a.os,a.tape,a.output,a.size,a.block⟩);have k:=ak (show aD g.drew b _ from c);clear f y c a p;go_wp2;clear z u E F x;obtain ⟨t,D⟩:=nM (C.count-1);have l:=sB k.out (C.count-1) (by omega);have n:=EJ (m:=(ll C C.count r i).m (C.count-1)) (tY k.out r (by omega));simp only [D] at j l n ⊢;have k1:(r:Int)<8:=by omega
  have k2:(t:Int)<8:=by omega
  refine iC 14 [(0,ZW),(1,ZW),(2,ZW),(3,ZW),(4,ZW),(5,ZW),(6,ZW),(7,ZW),(8,ZW),(9,ZW),(10,ZW),(11,ZW),(12,ZW),(13,ZW),(14,ZV)] (λw'=>w'.cell? ⟨b,129,ZY⟩=ZX (Z7 Z9 (t:Int))/\(Instr.loadAt 249 (Z6 (ZX ⟨b,t*16,ZY⟩))).run ZO w'=.ok (.agg (fE ((ll C C.count r i).m t)).toArray) w') (by kernel_rfl) (by kernel_rfl) ⟨j,l⟩ ?_;iterate 10 (refine a9 rfl rfl ?_;apply YF;refine ⟨λw' d=>?_,?_⟩;(obtain ⟨H,I⟩:=d;first|(go_simp;done)|(go_simp;exact rfl));simp only [Act.put,Ue,Uc,Uf])
  refine a9 rfl rfl ⟨_,λw' d=>by simp [execOp,Act.eval,d.2];rfl,?_⟩;simp only [Act.put,Ue,Uc,Uf];iterate 3 (refine a9 rfl rfl ?_;apply YF;refine ⟨λw' d=>?_,?_⟩;(obtain ⟨H,I⟩:=d;first|(go_simp;done)|(go_simp;exact rfl));simp only [Act.put,Ue,Uc,Uf])
  refine oe rfl rfl (by simp [execOp,Act.eval,n];rfl) (absurd rfl) (gL ?_);simp only [Act.put];subst D;clear l n k1 k2 k j;obtain ⟨N,A⟩:=nM (g.drew.setCells b (r*16) (fE ((ll C C.count r i).m (C.count-1))));rw [A] at s v ⊢;clear A;go_wp2;go_ret;exact .inr ⟨_,h.o,rfl,s.o,v.out⟩
theorem LA (m:Nat->Nat->Nat) (t r:Nat):rS (rS m t (m r)) r (m t)=dD m t r:=by
 funext k;unfold rS dD;by_cases b:k=r
 . rw [TT b];by_cases a:k=t
   . rw [TT a,<- b,<- a]
   . rw [TS a,TT b]
 . rw [TS b];by_cases a:k=t
   . rw [TT a,TT a]
   . rw [TS a,TS a,TS b]
theorem uj (b i:Nat) (C:Ck) (w:ZU) (f:aD w b C) (c:eF C) (u:i<16) :
 ZR ZO 206 #[Z6 (ZX ⟨b,0,ZY⟩),Z7 Z9 i] w λe w'=>
  (pA C i=ZY/\e=Z3 (Z1 ZV)/\w'=w)\/(∃ C',pA C i=ZX C'/\e=Z3 (Z1 ZW)/\aD w' b C'/\w.grownBy w' (ZX b)):=by
 go_enter func206,ntmps206;go_wp2_with fail;refine (xT b i C w f c u).mono ?_;rintro e w1 ⟨rfl,T⟩;subst T;cases h5:eo C i with
 | none=>
  have k:cA (pA C i=ZY):=ak (by unfold pA;rw [h5];rfl);simp only [spV];clear h5;go_wp2;go_ret;exact .inl ⟨k.o,rfl,rfl⟩
 | some r=>
  obtain ⟨r1,r2,r3⟩:=gT h5;have k:cA (pA C i=ZX (jh C i r)):=ak (by unfold pA;rw [h5];rfl);have hr:=c.Sd;simp only [spV];clear h5;have l:=f.R5;have D:=sA (sA (show aD w1.drew b _ from f) C.told (by omega) (C.m r)) r (by omega) (C.m C.told);have A:(⟨rS (rS C.m C.told (C.m r)) r (C.m C.told),C.told,C.count⟩:Ck)=⟨dD C.m C.told r,C.told,C.count⟩:=by rw [LA]
  have E:aD ((w1.drew.setCells b (C.told*16) (fE (C.m r))).setCells b (r*16) (fE (C.m C.told))) b ⟨dD C.m C.told r,C.told,C.count⟩:=by rw [<- A];exact D
  have H:w1.grownBy ((w1.drew.setCells b (C.told*16) (fE (C.m r))).setCells b (r*16) (fE (C.m C.told))) (ZX b):=
   oK _ _ _ _ (oK _ _ _ _ ⟨rfl,rfl,rfl,TV _,λ_ _ _=>rfl⟩)
  have g:=ak E;have p:=ak H;have d:=ak (show aD w1.drew b C from f);clear D A E H f;go_wp2;have h:=sA d.out C.told (by omega) (C.m r);have s:=sB d.out r (by omega);have O:=sB d.out C.told (by omega);have t:=sB h r (by omega);have B:rS C.m C.told (C.m r) r=C.m r:=by unfold rS;split<;>rfl
  simp only [B] at t;have P:=EJ (m:=C.m r) (tY d.out C.told (by omega));have Q:=EJ (m:=C.m C.told) (tY h r (by omega));have k1:(r:Int)<8:=by omega
  have k2:(C.told:Int)<8:=by omega
  refine iC 29 [(0,ZW),(1,ZW),(2,ZW),(3,ZW),(4,ZW),(5,ZW),(6,ZW),(7,ZW),(8,ZW),(9,ZW),(10,ZW),(11,ZW),(12,ZW),(13,ZW),(14,ZW),(15,ZW),(16,ZW),(17,ZW),(18,ZW),(19,ZW),(20,ZW),(22,ZW),(23,ZW),(26,ZW),(27,ZW),(21,ZV),(24,ZW),(25,ZV),(28,ZW),(29,ZV)] (λw'=>w'.cell? ⟨b,128,ZY⟩=ZX (Z7 Z9 (C.told:Int))/\(Instr.loadAt 249 (Z6 (ZX ⟨b,r*16,ZY⟩))).run ZO w'=.ok (.agg (fE (C.m r)).toArray) w') (by kernel_rfl) (by kernel_rfl) ⟨d.out.R5,s⟩ ?_;iterate 12 (refine a9 rfl rfl ?_;apply YF;refine ⟨λw' a=>?_,?_⟩;(obtain ⟨x,y⟩:=a;first|(go_simp;done)|(go_simp;exact rfl));simp only [Act.put,Ue,Uc,Uf])
  refine a9 rfl rfl ⟨_,λw' a=>by simp [execOp,Act.eval,a.2];rfl,?_⟩;simp only [Act.put,Ue,Uc,Uf];iterate 12 (refine a9 rfl rfl ?_;apply YF;refine ⟨λw' a=>?_,?_⟩;(obtain ⟨x,y⟩:=a;first|(go_simp;done)|(go_simp;exact rfl));simp only [Act.put,Ue,Uc,Uf])
  refine D9 (v:=.agg (fE (C.m C.told)).toArray) (w1:=w1.drew) rfl rfl (by simp [execOp,Act.eval,O]) (λ_=>⟨d.out.R5,s⟩) ?_;simp only [Act.put,Ue,Uc,Uf];refine a9 rfl rfl ?_;apply YF;refine ⟨λw' a=>?_,?_⟩;(obtain ⟨x,y⟩:=a;first|(go_simp;done)|(go_simp;exact rfl));simp only [Act.put,Ue,Uc,Uf];refine oe rfl rfl (by simp [execOp,Act.eval,P]) (λ_=>⟨h.R5,t⟩) ?_;simp only [Act.put,Ue,Uc,Uf];refine a9 rfl rfl ?_;apply YF;refine ⟨λw' a=>?_,?_⟩;(obtain ⟨x,y⟩:=a;first|(go_simp;done)|(go_simp;exact rfl));simp only [Act.put,Ue,Uc,Uf];refine oe rfl rfl (by simp [execOp,Act.eval,Q];rfl) (absurd rfl) (gL ?_);simp only [Act.put];clear h s O t B P Q k1 k2 d;obtain ⟨w2,R⟩:=nM ((w1.drew.setCells b (C.told*16) (fE (C.m r))).setCells b (r*16) (fE (C.m C.told)));rw [R] at g p ⊢;clear R l;have l:=g.out.R5;have W:eF ⟨dD C.m C.told r,C.told,C.count⟩:=⟨jz c.byt,c.le,c.Sd⟩;go_wp2_with fail;refine (Cg b C.told i _ _ g.out W (by omega) u).mono ?_;rintro e w3 ⟨rfl,q,L⟩;have X:eF ⟨eJ (dD C.m C.told r) C.told i,C.told,C.count⟩:=⟨sP (jz c.byt),c.le,c.Sd⟩;have F:=gw p.out L;have n:=q.R5;have I:=ak q;have J:=ak F;clear q L F l g p;go_wp2_with fail;refine (xW b C.told i _ _ I.out X (by omega) u).mono ?_;rintro e Y ⟨rfl,j,M⟩;have G:=gw J.out M;have K:=Lq j (C.told+1);have N:=eI G 128 (Z7 Z9 ((C.told+1:Nat):Int));have z:=j.R5;have Z:=j.frozen 128;have S:Y.cell? ⟨b,128,ZY⟩=ZX (Z7 Z9 (C.told:Int)):=z;have k7:wrap64 ((C.told:Int)+1)=((C.told+1:Nat):Int):=by unfold wrap64;omega
  have k6:IntKind.i64.wrap ((C.told:Int)+1)=((C.told+1:Nat):Int):=by rw [UB];omega
  have U:=ak K;have V:=ak N;clear j M G K N z n I J;go_wp2;go_ret;exact .inr ⟨_,k.o,rfl,U.out,V.out⟩
def aV (C:Ck):Array ZT:=((YE 130).map (nJ C)).toArray
def b8 (C:Ck):(aV C).size=130:=by unfold aV;rw [UH,T9,UK]
def zU (C:Ck) (i:Nat) (a:i<130):(aV C)[i]?=ZX (nJ C i):=by
 unfold aV;rw [Xm,UA,VP a];rfl
def Tryz.infoCk:(ZO.info? 329).map (λi=>i.size)=ZX 130:=by kernel_rfl
def dV (C:Ck):(ZO.info? 329).map (λi=>i.size)=ZX (aV C).size:=by rw [b8];exact Tryz.infoCk
theorem N4 (C:Ck) (i:Nat):(nJ C i).oneCell'=ZW:=by
 unfold nJ;split
 . rfl
 . split<;>rfl
def mx (C:Ck):(aV C).all (λv=>v.oneCell')=ZW:=by
 rw [X9];intro i a;have:=zU C i (by rw [<- b8 C];exact a);rw [VM a] at this;rw [UJ this];exact N4 C i
theorem aD.heap (h:aD w b C):w.heap[b]?=ZX (Z4 (aV C) 329 (0,0)):=by
 obtain ⟨c,j,l,k⟩:=h;have e:c=aV C:=by
  apply XZ
  . rw [l,b8]
  . intro i f g;have a:=k i (by omega);have d:=zU C i (by omega);rw [VM f] at a;rw [VM g] at d;rw [UJ a,UJ d]
 rw [<- e];exact j
def aD.of_heap (h:w.heap[b]?=ZX (Z4 (aV C) 329 (0,0))):aD w b C:=⟨_,h,b8 C,λi a=>zU C i a⟩
def aD.new (w:ZU) (C:Ck):aD (w.alloc (Z4 (aV C) 329)) w.heap.size C:=aD.of_heap (X3 w _)
def aD.lt (h:aD w b C):b<w.heap.size:=(TX.1 h.heap).1
def aD.keep (h:aD w b C) (e:w'.heap[b]?=w.heap[b]?):aD w' b C:=aD.of_heap (e.trans h.heap)
def aD.setRow (C:Ck) (h:aD w b C'):aD (w.setRow b (aV C)) b C:=aD.of_heap (Vv w b (aV C') (aV C) _ _ h.heap)
def aM (w:ZU) (b:Nat) (cs:Array ZT):w.grownBy (w.setRow b cs) (ZX b):=
 ⟨rfl,rfl,rfl,by simp,λk _ a=>by
  have:b≠k:=λe=>a (by rw [e]);simp [World.setRow,VL,this]⟩
def my (h:aD w b C):(Instr.loadAt 329 (Z6 (ZX ⟨b,0,ZY⟩))).run ZO w=.ok (.agg (aV C)) w:=by
 simp only [Instr.loadAt,Instr.sureAddr,Ux,Vf,UM,Xj w b 329 329 (aV C) (0,0) _ h.heap XQ rfl (dV C)]
def nA (C:Ck) (h:aD w b C'):(Instr.storeAt 329 (Z6 (ZX ⟨b,0,ZY⟩)) (.agg (aV C))).run ZO w=.ok () (w.setRow b (aV C)):=by
 simp only [Instr.storeAt,Instr.sureAddr,Ux,Vf,UM,X4 w b 329 329 (aV C') (aV C) h.heap (dV C) (by rw [b8,b8]) (mx C)]
def kQ (f:o.guard=ZY) (x:ZP) (ho:o.op=.load 329 x) (b:Nat) (C:Ck)
 (g:a.eval x=Z6 (ZX ⟨b,0,ZY⟩)) (e:aD w b C) (h:wpListIn F n ZO ops Q rest (a.put o.dst (.agg (aV C))) w):wpListIn F n ZO ops Q (o::rest) a w:=by
 refine abu f λK hK=>?_;unfold Oper.wpIn;refine ⟨by simp [Oper.about,ho],?_⟩;rw [VF F _ _ (by rw [ho];intro c d;cases d)];simp [execOp,ho,g,my e,Result.andThen];exact hK _ _ h
def jI (f:o.guard=ZY) (x y:ZP) (ho:o.op=.store 329 x y) (b:Nat) (C C':Ck)
 (g:a.eval x=Z6 (ZX ⟨b,0,ZY⟩)) (i:a.eval y=.agg (aV C)) (e:aD w b C') (h:wpListIn F n ZO ops Q rest (a.put o.dst ZZ) (w.setRow b (aV C))):wpListIn F n ZO ops Q (o::rest) a w:=by
 refine abu f λK hK=>?_;unfold Oper.wpIn;refine ⟨by simp [Oper.about,ho],?_⟩;rw [VF F _ _ (by rw [ho];intro c d;cases d)];simp [execOp,ho,g,i,nA C e,Result.andThen];exact hK _ _ h
def dO:Ck:=⟨λ_ _=>0,0,0⟩
def Tryz.zeroCk:(ZO.info? 329).map (λi=>(i.zero,i.size,i.bytes))=ZX (ZX (.agg (aV dO)),130,144):=by kernel_rfl
def zeroCk (w:ZU):(zeroValue 329).run ZO w=.ok (.agg (aV dO)) w:=by
 obtain ⟨c,a,b,_,_⟩:=Us Tryz.zeroCk;simp [zeroValue,typeInfo,Ux,a,b]
def aD.mono (h:aD w b C) (c:ZS B w w') (a:b<B):aD w' b C:=h.keep (c.block b a)
def JQ:Code->Nat->Option (Array ZQ)
 | .region i ops _,n=>if i=n then ZX ops else ZY
 | .seq a b,n=>(JQ a n).orElse λ_=>JQ b n
 | .cond _ a b,n=>(JQ a n).orElse λ_=>JQ b n
 | .block _ a,n=>JQ a n
 | .loop a,n=>JQ a n
 | .scope a,n=>JQ a n
 | .rangeFunc _ _ a b,n=>(JQ a n).orElse λ_=>JQ b n
 | _,_=>ZY
noncomputable def aav:Array ZQ:=((Tryz.f222.body.bind (JQ · 8))).getD #[]
def Cq:List (Op×Option Nat×a8):=[(.load 329 (Z0 12),ZX 28,[]),(.load 138 (Z0 6),ZX 29,[]),(.move (Z0 11),ZX 30,[]),
 (.call { callee:=.value (.func 224),args:=#[Z0 29,Z0 30],argTypes:=#[138,3] },ZX 31,[1,2]),(.load 3 (Z0 7),ZX 32,[]),(.load 210 (Z0 8),ZX 33,[]),(.load 344 (Z0 9),ZX 34,[]),
 (.call { callee:=.value (.func 222),args:=#[Z0 28,Z0 31,Z0 32,Z0 33,Z0 34],argTypes:=#[329,138,3,210,344] },ZX 35,[0,3,4,5,6,3]),(.unOp .not 4 (Z0 35),ZX 36,[7])]
def EK:bD aav 28 37 Cq:=eQ (by kernel_rfl) (by kernel_rfl)
def EL (w:ZU) (R:ZU->Prop) (Dn:Nat->Bool) (w':ZU):Prop:=if Dn 7=ZW then R w' else w'=w.drew
def gE {R:ZU->Prop} (h:EL w R Dn w') (i:Nat) (a:7≠i):EL w R (mj Dn i) w':=by unfold EL;rw [gJ a];exact h
def mz {R:ZU->Prop} (h:EL w R Dn w') {j:Nat} (e:j<8) (a:Dn j=ZV) (b:∀ j,Dn j=ZW->j<Cq.length/\∀ k∈(dQ Cq j).2.2,Dn k=ZW):w'=w.drew:=by
 unfold EL at h;cases q:Dn 7 with
 | false=>rw [q] at h;exact h
 | true=>
  have c:=(b 7 q).2;have d:=(b 3 (c 3 (by decide))).2;exfalso;match j,e with
  | 0,_|3,_|4,_|5,_|6,_=>exact nomatch a.symm.trans (c _ (by decide))
  | 1,_|2,_=>exact nomatch a.symm.trans (d _ (by decide))
  | 7,_=>exact nomatch a.symm.trans q
theorem EM (B E F G H i of q:Nat) (C:Ck) (z A:ZT) (R:ZU->Prop) (U:aav=ops)
 (sz:a.tmps.size=39) (V:i<16) (T:of<65536) (i12:a.eval (Z0 12)=Z6 (ZX ⟨B,0,ZY⟩)) (Y:a.eval (Z0 6)=Z6 (ZX ⟨E,0,ZY⟩)) (i11:a.eval (Z0 11)=Z7 Z9 (i:Int)) (Z:a.eval (Z0 7)=Z6 (ZX ⟨F,0,ZY⟩)) (i8:a.eval (Z0 8)=Z6 (ZX ⟨G,0,ZY⟩)) (i9:a.eval (Z0 9)=Z6 (ZX ⟨H,0,ZY⟩))
 (S:aD w.drew B C) (c6:w.drew.cell? ⟨E,0,ZY⟩=ZX (Z7 Z8 (of:Int))) (c7:w.drew.cell? ⟨F,0,ZY⟩=ZX (Z7 Z9 (q:Int))) (c8:w.drew.cell? ⟨G,0,ZY⟩=ZX z) (c9:w.drew.cell? ⟨H,0,ZY⟩=ZX A)
 (P:∀ m,CallsIn Fence.wide m ZO 222 #[.agg (aV C),Z7 Z8 (bH of i:Nat),Z7 Z9 (q:Int),z,A] w.drew λe w''=>e=Z3 (Z1 ZW)/\R w'')
 (h:∀ b w'',Ly 28 37 a b->b.eval (Z0 36)=Z1 ZV->R w''->Q .normal b w''):(Code.region 8 ops ZW).wpIn (Fence.wide.inRound l) n ZO Q a w:=by
 subst U;refine jo (by kernel_rfl) EK a w (by omega) (λj u _=>u=([.agg (aV C),Z7 Z8 (of:Int),Z7 Z9 (i:Int),Z7 Z8 (bH of i:Nat),Z7 Z9 (q:Int),z,A,Z1 ZW,Z1 ZV]:List ZT).getD j ZZ) (EL w R) rfl ?_ ?_
 . intro j W;match j,W with
   | 0,_=>
    intro o b w' Dn x ho p k s t r d g;obtain rfl:=mz d (by decide) s t;exact gZ (by (conv at ho=>rhs;whnf);simp [execOp,ho,(k.slot 12 (by omega)).trans i12,my S,Result.andThen]) (by rw [ho];intro c h;cases h) p ⟨gE d _ (by decide),rfl,kq⟩
   | 1,_=>
    intro o b w' Dn x ho p k s t r d g;obtain rfl:=mz d (by decide) s t;exact gZ (v:=Z7 Z8 (of:Int)) (by (conv at ho=>rhs;whnf);simp only [execOp,ho,(k.slot 6 (by omega)).trans Y];go_simp) (by rw [ho];intro c h;cases h) p ⟨gE d _ (by decide),rfl,kq⟩
   | 2,_=>exact λo b w' Dn x ho p k s t r d g=>gZ (bS ho ((k.slot 11 (by omega)).trans i11) w') (by rw [ho];intro c h;cases h) p ⟨gE d _ (by decide),rfl,kq⟩
   | 3,_=>
    intro o b w' Dn x ho p k s t r d g;have y:b.eval (Z0 29)=Z7 Z8 (of:Int):=g 1 (r 1 (by decide));have I:b.eval (Z0 30)=Z7 Z9 (i:Int):=g 2 (r 2 (by decide));refine BC (f:=224) (args:=#[Z7 Z8 (of:Int),Z7 Z9 (i:Int)]) (w1:=w') (by have D:b.eval (.func 224)=.func (.func 224) #[] #[]:=rfl;generalize b.eval=N at y I D ⊢;(conv at ho=>rhs;whnf);simp [execOp,ho,Cq,resolve,invoke,y,I,D,go_sem]) (by rw [ho];intro c h;cases h) p (Ed of i T V _) ?_;rintro e w'' ⟨rfl,rfl⟩;exact ⟨_,rfl,gE d _ (by decide),rfl,kq⟩
   | 4,_=>
    intro o b w' Dn x ho p k s t r d g;obtain rfl:=mz d (by decide) s t;exact gZ (v:=Z7 Z9 (q:Int)) (by (conv at ho=>rhs;whnf);simp only [execOp,ho,(k.slot 7 (by omega)).trans Z];go_simp) (by rw [ho];intro c h;cases h) p ⟨gE d _ (by decide),rfl,kq⟩
   | 5,_=>
    intro o b w' Dn x ho p k s t r d g;obtain rfl:=mz d (by decide) s t;exact gZ (v:=z) (by (conv at ho=>rhs;whnf);simp only [execOp,ho,(k.slot 8 (by omega)).trans i8];go_simp) (by rw [ho];intro c h;cases h) p ⟨gE d _ (by decide),rfl,kq⟩
   | 6,_=>
    intro o b w' Dn x ho p k s t r d g;obtain rfl:=mz d (by decide) s t;exact gZ (v:=A) (by (conv at ho=>rhs;whnf);simp only [execOp,ho,(k.slot 9 (by omega)).trans i9];go_simp) (by rw [ho];intro c h;cases h) p ⟨gE d _ (by decide),rfl,kq⟩
   | 7,_=>
    intro o b w' Dn x ho p k s t r d g;obtain rfl:=mz d (by decide) s t;have y:b.eval (Z0 28)=.agg (aV C):=g 0 (r 0 (by decide));have J:b.eval (Z0 31)=Z7 Z8 (bH of i:Nat):=g 3 (r 3 (by decide));have K:b.eval (Z0 32)=Z7 Z9 (q:Int):=g 4 (r 4 (by decide));have L:b.eval (Z0 33)=z:=g 5 (r 5 (by decide));have M:b.eval (Z0 34)=A:=g 6 (r 6 (by decide));refine BC (f:=222) (args:=#[.agg (aV C),Z7 Z8 (bH of i:Nat),Z7 Z9 (q:Int),z,A]) (w1:=w.drew) (by have D:b.eval (.func 222)=.func (.func 222) #[] #[]:=rfl;generalize b.eval=N at y J K L M D ⊢;(conv at ho=>rhs;whnf);simp [execOp,ho,Cq,resolve,invoke,y,J,K,L,M,D,go_sem]) (by rw [ho];intro c h;cases h) p (Vc.1 (P 0)) ?_;rintro e w'' ⟨rfl,X⟩;exact ⟨_,rfl,(show R w'' from X),rfl,kq⟩
   | 8,_=>
    intro o b w' Dn x ho p k s t r d g;have y:b.eval (Z0 35)=Z1 ZW:=g 7 (r 7 (by decide));exact gZ (v:=Z1 ZV) (by (conv at ho=>rhs;whnf);simp only [execOp,ho,y];go_simp) (by rw [ho];intro c h;cases h) p ⟨gE d _ (by decide),rfl,kq⟩
 . rintro b w' k _ ⟨Dn,O,d⟩ g;unfold EL at d;rw [O 7 (by decide),TT rfl] at d;exact h b w' ⟨k.size,k.defers,k.slot⟩ (g 8 (by decide)) d
section
attribute [local go_sem] Oper.semAt_some
theorem xZ (p least Bl:Nat) (w:ZU) (a:w.cell? ⟨Bl,0,ZY⟩=ZX (Z7 Z9 (least:Int))) :
 ZR ZO 218 #[Z7 Z9 p,Z6 (ZX ⟨Bl,0,ZY⟩)] w λe w'=>e=Z3 (Z1 (decide (p<least)))/\w'=w:=by
 go_enter func218,ntmps218;go_wp2;go_ret;exact ⟨by simp,rfl⟩
def fu (Bl:Nat):ZT:=.func (.func 218) #[] #[Z6 (ZX ⟨Bl,0,ZY⟩)]
def Bx (W:ZU) (B:Nat) (v:ZT):Prop:=∃ t,Boxed W B t v
def Bx.cell (h:Bx W B v):W.cell? ⟨B,0,ZY⟩=ZX v:=by obtain ⟨t,h⟩:=h;exact h.cell
def Bx.frozen (h:Bx W B v):W.frozen? ⟨B,0,ZY⟩=ZV:=by obtain ⟨t,h⟩:=h;exact h.frozen
def Bx.lt (h:Bx W B v):B<W.heap.size:=by obtain ⟨t,h⟩:=h;exact h.lt
def Bx.keep (h:Bx W B v) (e:W'.heap[B]?=W.heap[B]?):Bx W' B v:=by obtain ⟨t,h⟩:=h;exact ⟨t,e.trans h⟩
def Bx.set (h:Bx W B v) (a:ZT):Bx (W.setCell ⟨B,0,ZY⟩ a) B a:=by obtain ⟨t,h⟩:=h;exact ⟨t,h.set a⟩
def Bx.new (W:ZU) (t:TypeId) (v:ZT):Bx (W.alloc (Z4 #[v] t)) W.heap.size v:=⟨t,Ut W t v⟩
def Bx.alloc (h:Bx W B v) (o:Obj):Bx (W.alloc o) B v:=by obtain ⟨t,h⟩:=h;exact ⟨t,h.alloc o⟩
structure VB (W:ZU) (h:Nat) (C:Ck) (of q Bl l:Nat):Prop where
 ck:aD W h C
 set:Bx W (h+1) (Z7 Z8 (of:Int))
 pas:Bx W (h+1+1) (Z7 Z9 (q:Int))
 Si:Bx W (h+1+1+1) (fu Bl)
 yld:Bx W (h+1+1+1+1) (.func (.yield l) #[] #[])
 res:Bx W (h+1+1+1+1+1) (Z1 ZV)
def VB.keep (v:VB W h C of q Bl l) (e:∀ k,h<=k->k<h+6->W'.heap[k]?=W.heap[k]?):VB W' h C of q Bl l:=
 ⟨v.ck.keep (e _ (by omega) (by omega)),v.set.keep (e _ (by omega) (by omega)),v.pas.keep (e _ (by omega) (by omega)),v.Si.keep (e _ (by omega) (by omega)),v.yld.keep (e _ (by omega) (by omega)),v.res.keep (e _ (by omega) (by omega))⟩
def VB.passed (v:VB W h C of q Bl l) (a:Nat):VB (W.setCell ⟨h+1+1,0,ZY⟩ (Z7 Z9 (a:Int))) h C of a Bl l:=by
 have e:∀ k,k≠h+1+1->(W.setCell ⟨h+1+1,0,ZY⟩ (Z7 Z9 (a:Int))).heap[k]?=W.heap[k]?:=λk b=>Wk _ _ _ _ b;exact ⟨v.ck.keep (e _ (by omega)),v.set.keep (e _ (by omega)),v.pas.set _,v.Si.keep (e _ (by omega)),v.yld.keep (e _ (by omega)),v.res.keep (e _ (by omega))⟩
def jd (K:a8) (d:Nat) (C:Ck) (of p:Nat) (s:cE) (pre:List Sh):Nat×cE×Bool:=(pre.map (·.1)).foldl (gW (zh K d) C of) (p,fq K s C,ZV)
def EN (K:a8) (d:Nat) (C:Ck) (of p:Nat) (s:cE) (pre:List Sh) (x:Sh):jd K d C of p s (pre++[x])=gW (zh K d) C of (jd K d C of p s pre) x.1:=by
 unfold jd;rw [Uv,Wq];rfl
def Iz (h:pre.map (·.1)=ab of):(jd K d C of p s pre).2.1=iA K d C of p s:=by
 unfold jd;rw [h,pB]
def EO (h:pre.map (·.1)<+:ab of) (e:(jd K d C of p s pre).2.2=ZW):(jd K d C of p s pre).2.1=iA K d C of p s:=by
 obtain ⟨R,c⟩:=h;rw [pB,<- c,Wq];show _=(R.foldl (gW (zh K d) C of) (jd K d C of p s pre)).2.1;obtain ⟨f,a⟩:∃ q sx,jd K d C of p s pre=(q,sx,ZW):=⟨_,_,by rw [<- e]⟩;obtain ⟨a,b⟩:=a;rw [b,wQ]
def VI (K:a8) (d:Nat) (C:Ck) (of p:Nat) (s:cE) (W:ZU) (B n0 Bl l:Nat) (J:cE->ZU->Prop) (brk:Bool) (pre:List Sh) (X:ZU):Prop:=
 (jd K d C of p s pre).2.2=brk/\VB X W.heap.size C of (jd K d C of p s pre).1 Bl l/\J (jd K d C of p s pre).2.1 X/\bj n0 W X/\(jd K d C of p s pre).1<=p+pre.length/\B<=X.heap.size
def VI.own {brk:Bool} (f:∀ s A B,J s A->ZS n0 A B->J s B) (o:W.heap.size+6<=B) (t:n0<=W.heap.size) :
 OwnFrom B (VI K d C of p s W B n0 Bl l J brk):=by
 rintro pre X Y row ⟨g,h,i,b,j,q⟩ a n;have c:∀ k,k<W.heap.size+6->Y.heap[k]?=X.heap[k]?:=λk c=>a.block k (by omega) (λe=>by have:=(n k e.symm).1;omega);have:=a.size;refine ⟨g,h.keep (λk _ m=>c k m),f _ _ _ i ⟨a.os,a.tape,a.output,a.size,λk r=>c k (by omega)⟩,⟨a.os.trans b.os,a.tape.trans b.tape,a.output.trans b.output,by have:=b.size;omega,λk k1 k2=>(c k (by omega)).trans (b.block k k1 k2)⟩,j,by omega⟩
def VX (K:a8) (d:Nat) (C:Ck) (of p:Nat) (s:cE) (W:ZU) (B n0 Bl l:Nat) (J:cE->ZU->Prop) (c:Code) (pre:List Sh) (X:ZU):Prop:=c=.exit 0/\VI K d C of p s W B n0 Bl l J ZW pre X
def IA (h:¬ q<sx.2):gW rec C of (q,sx,ZV) i=(q,sx,ZW):=by unfold gW;simp [h]
def IB (h:q<sx.2) (hl:ix C i=ZY):gW rec C of (q,sx,ZV) i=(q,sx,ZV):=by unfold gW;simp [h,hl]
def N5 (h:q<sx.2) (hl:ix C i=ZX C'):gW rec C of (q,sx,ZV) i=(q+1,rec C' (bH of i) q sx,ZV):=by unfold gW;simp [h,hl]
def kR (s:Nat):(shs s).length=(ab s).length:=by rw [<- NK s,T9]
def qC (s:Nat):(shs s).length<=16:=by
 rw [kR];exact TU (WL _ _) (by simp)
theorem IC (q:Nat) (h:q<=100000):wrap64 ((q:Int)+1)=((q+1:Nat):Int)/\IntKind.i64.wrap ((q:Int)+1)=((q+1:Nat):Int):=by
 constructor
 . unfold wrap64;omega
 . rw [UB];omega
theorem yt (b:∀ s A B,J s A->ZS n0 A B->J s B) (w:n0<=W.heap.size) (q:W.heap.size<=B) (r:W.heap.size<=D) (j:B≠D)
 (i:Bx X B (Z1 ZV)) (t:J s X) (o:bj n0 W X) (hK:X.heap[D]?=ZX (.deferred (ZX []))) (f:a.defers=[{ target:=.collected D,args:=#[] }]) (h5:a.eval (Z0 10)=Z6 (ZX ⟨B,0,ZY⟩)) (hT:a.tmps.size=39) :
 bodyPostM Fence.wide n ZO Tryz.f222 (λe W'=>e=Z3 (Z1 ZW)/\J s W'/\bj n0 W W') .ret a (X.setCell ⟨B,0,ZY⟩ (Z1 ZW)):=by
 have d:(X.setCell ⟨B,0,ZY⟩ (Z1 ZW)).heap[D]?=ZX (.deferred (ZX [])):=(V5 _ _ _).same D _ hK rfl;obtain ⟨g,u⟩:=a;simp only at f hT;subst f;refine ⟨by simp,.inl ⟨_,_,rfl,Wu d,?_⟩⟩;have k:Bx (X.setCell ⟨B,0,ZY⟩ (Z1 ZW)) B (Z1 ZW):=i.set _;have l:Bx ((X.setCell ⟨B,0,ZY⟩ (Z1 ZW)).putObj D (.deferred ZY)) B (Z1 ZW):=k.keep (US (λe=>j e));have c:=l.cell;have m:=(TX.1 d).1;have h:g.getD 10 ZZ=Z6 (ZX ⟨B,0,ZY⟩):=h5;refine ⟨Z1 ZW,?_,rfl,b _ _ _ (b _ _ _ t ((TW _ _).setCell (p:=⟨B,0,ZY⟩) (by show n0<=B;omega) _)) (Below.RR (TW _ _) (by omega) m _),(o.setCell (p:=⟨B,0,ZY⟩) (.inr q) _).putObj (.inr r) _⟩;have v:g[10]'(by omega)=Z6 (ZX ⟨B,0,ZY⟩):=by rw [<- h];simp [hT]
 simp only [results,results222];go_simp
theorem uk (K:a8) (n0 Bl l:Nat) (J:cE->ZU->Prop) (t:∀ s A B,J s A->ZS n0 A B->J s B)
 (k7:∀ s A,J s A->A.cell? ⟨Bl,0,ZY⟩=ZX (Z7 Z9 (s.2:Int))/\n0<=A.heap.size/\aG A) (qp:2<=n0)
 (hY:∀ m s C W1,J s W1->eF C->YieldAt Fence.wide m ZO l #[.agg (aV C)] W1 λe W'=>e=Z3 (Z1 ZW)/\J (fq K s C) W'/\bj n0 W1 W')
 (d m:Nat) (C:Ck) (of p:Nat) (s:cE) (W:ZU) (hf:eF C) (kk:of<65536) (hp:p+16<=100000) (hJ:J s W)
 (ko:∀ (m i:Nat) (C':Ck) (z p':Nat) (s':cE) (W':ZU),ix C i=ZX C'->z<65536->p'<=p+16->J s' W' ->
  CallsIn Fence.wide m ZO 222 #[.agg (aV C'),Z7 Z8 z,Z7 Z9 p',fu Bl,.func (.yield l) #[] #[]] W' λe H=>e=Z3 (Z1 ZW)/\J (zh K d C' z p' s') H/\bj n0 W' H) :
 CallsIn Fence.wide m ZO 222 #[.agg (aV C),Z7 Z8 of,Z7 Z9 p,fu Bl,.func (.yield l) #[] #[]] W λe W'=>e=Z3 (Z1 ZW)/\J (iA K d C of p s) W'/\bj n0 W W':=by
 obtain ⟨_,R,_⟩:=k7 s W hJ;obtain ⟨n,HN⟩:∃ n:Nat,cA (5<=n):=⟨5,TV _⟩;refine Vc.2 ((Vc (n:=n)).1 ?_);refine Wf func222 rfl trivial ?_ rfl;simp only [ntmps222,UH,UD,UW,YH,YI,Vj,Vk,Vl,Vm,Uo,UU];have N:bW W ((((((W.alloc (Z4 (aV C) 329)).alloc (Z4 #[Z7 Z8 (of:Int)] 138)).alloc (Z4 #[Z7 Z9 (p:Int)] 3)).alloc (Z4 #[fu Bl] 210)).alloc (Z4 #[.func (.yield l) #[] #[]] 344)).alloc (Z4 #[Z1 ZV] 4)):=
  (((((bA W _).alloc (by simp) _).alloc (by simp;omega) _).alloc (by simp;omega) _).alloc (by simp;omega) _).alloc (by simp;omega) _
 have S:VB ((((((W.alloc (Z4 (aV C) 329)).alloc (Z4 #[Z7 Z8 (of:Int)] 138)).alloc (Z4 #[Z7 Z9 (p:Int)] 3)).alloc (Z4 #[fu Bl] 210)).alloc (Z4 #[.func (.yield l) #[] #[]] 344)).alloc (Z4 #[Z1 ZV] 4)) W.heap.size C of p Bl l:=by
  have M:∀ (X:ZU) (o:Obj) (k:Nat),k<X.heap.size->(X.alloc o).heap[k]?=X.heap[k]?:=λX o k h=>Wc X o k h;refine ⟨?_,?_,?_,?_,?_,?_⟩
  . exact (aD.new W C).keep (by rw [M _ _ _ (by simp;omega),M _ _ _ (by simp;omega),M _ _ _ (by simp;omega),M _ _ _ (by simp;omega),M _ _ _ (by simp)])
  . have h:=Bx.new (W.alloc (Z4 (aV C) 329)) 138 (Z7 Z8 (of:Int));rw [Uq] at h;exact (((h.alloc _).alloc _).alloc _).alloc _
  . have h:=Bx.new ((W.alloc (Z4 (aV C) 329)).alloc (Z4 #[Z7 Z8 (of:Int)] 138)) 3 (Z7 Z9 (p:Int));simp only [Uq] at h;exact ((h.alloc _).alloc _).alloc _
  . have h:=Bx.new (((W.alloc (Z4 (aV C) 329)).alloc (Z4 #[Z7 Z8 (of:Int)] 138)).alloc (Z4 #[Z7 Z9 (p:Int)] 3)) 210 (fu Bl);simp only [Uq] at h;exact (h.alloc _).alloc _
  . have h:=Bx.new ((((W.alloc (Z4 (aV C) 329)).alloc (Z4 #[Z7 Z8 (of:Int)] 138)).alloc (Z4 #[Z7 Z9 (p:Int)] 3)).alloc (Z4 #[fu Bl] 210)) 344 (.func (.yield l) #[] #[]);simp only [Uq] at h;exact h.alloc _
  . have h:=Bx.new (((((W.alloc (Z4 (aV C) 329)).alloc (Z4 #[Z7 Z8 (of:Int)] 138)).alloc (Z4 #[Z7 Z9 (p:Int)] 3)).alloc (Z4 #[fu Bl] 210)).alloc (Z4 #[.func (.yield l) #[] #[]] 344)) 4 (Z1 ZV);simp only [Uq] at h;exact h
 have k9:((((((W.alloc (Z4 (aV C) 329)).alloc (Z4 #[Z7 Z8 (of:Int)] 138)).alloc (Z4 #[Z7 Z9 (p:Int)] 3)).alloc (Z4 #[fu Bl] 210)).alloc (Z4 #[.func (.yield l) #[] #[]] 344)).alloc (Z4 #[Z1 ZV] 4)).heap.size=W.heap.size+6:=by simp
 unfold fu at N S k9 ⊢;obtain ⟨W6,kc⟩:=nM (((((((W.alloc (Z4 (aV C) 329)).alloc (Z4 #[Z7 Z8 (of:Int)] 138)).alloc (Z4 #[Z7 Z9 (p:Int)] 3)).alloc (Z4 #[.func (.func 218) #[] #[Z6 (ZX ⟨Bl,0,ZY⟩)]] 210)).alloc (Z4 #[.func (.yield l) #[] #[]] 344)).alloc (Z4 #[Z1 ZV] 4)));rw [kc] at N S k9;obtain ⟨fn,tmps,assign,body,hy,q0⟩:=hY (n-1) s C W6 (t s W W6 hJ (N.mono R)) hf;have c9:=S.yld.cell;have r:=ak S;have HB:=ak N;have HS:=ak k9;clear S N k9;gi_wp2_with (first
  | (rw [kc];refine kQ rfl (Z0 5) rfl W.heap.size C rfl r.o.ck ?_)
  | (refine kQ rfl (Z0 5) rfl W.heap.size C rfl r.o.ck ?_))
 refine ⟨λh=>(by cases h),q0.mono ?_⟩;rintro e f ⟨rfl,kz,Z⟩;have hA:bj n0 W f:=(bj.RM HB.o).trans Z;have kr:VB f W.heap.size C of p Bl l:=r.o.keep (λk k1 k2=>Z.block k (by omega) (by have:=HS.o;omega));have qq:W.heap.size+6<=f.heap.size:=by have:=Z.size;have:=HS.o;omega
 have q6:=k7 _ _ kz;have c6:=kr.set.cell;clear hy q0 kc r HB HS Z c9;have r:=ak kr;clear kr;gi_wp2;refine cj (dI of f) ?_;rintro e w' ⟨rfl,rfl⟩;have q1:aG (f.alloc (Z4 #[Z7 Z8 (of:Int)] 138)):=q6.2.2.mono (B:=f.heap.size) (by omega) (bA _ _);have q3:(f.alloc (Z4 #[Z7 Z8 (of:Int)] 138)).cell? ⟨f.heap.size,0,ZY⟩=ZX (Z7 Z8 (of:Int)):=(Bx.new f 138 (Z7 Z8 (of:Int))).cell;have h0:VI K d C of p s W (f.alloc (Z4 #[Z7 Z8 (of:Int)] 138)).heap.size n0 Bl l J ZV [] (f.alloc (Z4 #[Z7 Z8 (of:Int)] 138)):=
  ⟨rfl,r.o.keep (λk k1 k2=>Wc _ _ _ (by omega)),t _ _ _ kz ((TW _ _).alloc q6.2.1 _),hA.trans (bj.RM (bA _ _)),TV _,TV _⟩
 have q8:(f.alloc (Z4 #[Z7 Z8 (of:Int)] 138)).heap.size=f.heap.size+1:=by simp
 obtain ⟨V,q2⟩:=nM (f.alloc (Z4 #[Z7 Z8 (of:Int)] 138));have H0:=ak h0;have HC:=ak q3;have HT:=ak q1;have j:=ak q8;clear h0 q3 q1 q8;gi_wp2;rw [q2] at H0 HC HT j;clear q2;refine Wg rfl (by have:=HN.o;omega) (gf:=151) (lb:=#[Z6 (ZX ⟨f.heap.size,0,ZY⟩)]) rfl trivial (Ve func151 (by kernel_rfl) rfl)
  (eS (n-1) f.heap.size of kk V (by have:=j.o;omega) HC.o (by have:=j.o;omega) HT.o) (λh k=>qZ h k) (rh (by have:=j.o;omega)) (TW _ _) (λ_=>rfl)
  (VI K d C of p s W V.heap.size n0 Bl l J ZV) (VX K d C of p s W V.heap.size n0 Bl l J)
  (VI.own t (by have:=j.o;omega) R) (λc=>by
   rintro pre X Y row ⟨w,b⟩ hg hr;exact ⟨w,VI.own t (by have:=j.o;omega) R pre X Y row b hg hr⟩) H0.o
  (λx=>{ tmps:=#[.agg (aV C),Z7 Z8 (of:Int),Z7 Z9 (p:Int),.func (.func 218) #[] #[Z6 (ZX ⟨Bl,0,ZY⟩)],.func (.yield l) #[] #[],Z6 (ZX ⟨W.heap.size,0,ZY⟩),Z6 (ZX ⟨W.heap.size+1,0,ZY⟩),Z6 (ZX ⟨W.heap.size+1+1,0,ZY⟩),Z6 (ZX ⟨W.heap.size+1+1+1,0,ZY⟩),Z6 (ZX ⟨W.heap.size+1+1+1+1,0,ZY⟩),Z6 (ZX ⟨W.heap.size+1+1+1+1+1,0,ZY⟩),Z7 Z9 (x.1:Int),ZZ,.func (.yield l) #[] #[],.agg (aV C),Z1 ZW,Z1 ZV,Z7 Z8 (of:Int),.func (.func 151) #[] #[Z6 (ZX ⟨f.heap.size,0,ZY⟩)],Z7 Z9 (x.1:Int),ZZ,ZZ,ZZ,ZZ,ZZ,ZZ,ZZ,ZZ,ZZ,ZZ,ZZ,ZZ,ZZ,ZZ,ZZ,ZZ,ZZ,ZZ,ZZ],defers:=[] }) ?assign ?body ?done ?stop
 case assign=>
  intro l2 x X Kk hK;unfold qY;gi_wp2;exact hK
 case body=>
  rintro l2 pre x X ⟨w,b,g,u,y,E⟩ ki;obtain ⟨q,sx,q9⟩:∃ q sx,jd K d C of p s pre=(q,sx,ZV):=⟨_,_,by rw [<- w]⟩;have kp:=EN K d C of p s pre x;rw [q9] at b g y kp;simp only at b g y;have kj:(ab of).length<=16:=by rw [<- kR of];exact qC of
  have hq:q<=p+16:=by omega
  have qj:q<=100000:=by omega
  have hl:=k7 _ _ g;have cl:=hl.1;have c7:=b.pas.cell;have f7:=b.pas.frozen;have c8:=b.Si.cell;unfold fu at c8;have r:=ak b;have HJ:=ak g;have HA:=ak u;have ka:=ak kp;have k5:=x.2;have U:=ak E;clear b g u q9 w kp hl E ki;gi_wp2;refine eR (xZ q sx.2 Bl X cl) ?_;rintro e w' ⟨rfl,rfl⟩;by_cases Q:q<sx.2
  . have kg:decide (q<sx.2)=ZW:=UZ Q;rw [kg];have hz:=zeroCk;have ke:=r.o.ck;gi_wp2_with (first
     | (refine kQ rfl (Z0 5) rfl W.heap.size C rfl ke ?_)
     | (refine jI rfl (Z0 12) (Z0 24) rfl w'.heap.size C dO rfl rfl (aD.new w' dO) ?_))
    have kf:aD ((w'.alloc (Z4 (aV dO) 329)).setRow w'.heap.size (aV C)) w'.heap.size C:=(aD.new w' dO).setRow C;have O:bW w' ((w'.alloc (Z4 (aV dO) 329)).setRow w'.heap.size (aV C)):=(bA _ _).grown (aM _ _ _) (by simp) (λk e=>by cases e;exact TV _);refine eR (Cp w'.heap.size x.1 C _ kf hf k5) ?_;rintro e w2 (⟨q7,rfl,qm⟩|⟨C',P,rfl,kb,q4⟩)
    ·
     subst qm;have HL:=ak q7;have F:=ak O;clear q7 O kf hz ke;gi_wp2;have kh:=j.o;have E:=U.o;have qg:=r.o.keep (λk k1 k2=>F.out.block k (by omega));refine ⟨(bj.RM F.out).keeps (T5 _),F6.RM (by omega) F.out,?_⟩;unfold VI;rw [ka.out,IB Q HL.o];exact ⟨rfl,qg,t _ _ _ HJ.o (F.out.mono (by omega)),HA.o.trans (bj.RM F.out),by rw [T8];exact YL y,by have:=F.out.size;omega⟩
    ·
     have k8:bW w' w2:=O.grown q4 O.size (λk e=>by cases e;exact TV _);have qk:w'.heap.size<w2.heap.size:=kb.lt;have kv:=ak P;have qb:=ak k8;have qc:=ak kb;have qi:W.heap.size+6<=w'.heap.size:=(by have:=j.o;have:=U.o;omega);have qa:VB w2 W.heap.size C of q Bl l:=r.o.keep (λk k1 k2=>k8.block k (by omega));have q5:J sx w2:=t _ _ _ HJ.o (k8.mono (by omega));have L:=ak qa;have qd:=ak q5;clear P k8 kb q4 O kf hz ke qa q5;gi_wp2;have k0:∀ m,CallsIn Fence.wide m ZO 222 #[.agg (aV C'),Z7 Z8 (bH of x.1:Nat),Z7 Z9 (q:Int),fu Bl,.func (.yield l) #[] #[]] w2.drew λe w''=>e=Z3 (Z1 ZW)/\(J (zh K d C' (bH of x.1) q sx) w''/\bj n0 w2.drew w''):=
      λm=>ko m x.1 C' (bH of x.1) q sx w2.drew kv.out (pF _ _ kk) (by omega) (t _ _ _ qd.out (TW _ _).drew)
     refine EM w'.heap.size (W.heap.size+1) (W.heap.size+1+1) (W.heap.size+1+1+1) (W.heap.size+1+1+1+1) x.1 of q C' (fu Bl) (.func (.yield l) #[] #[]) (λw''=>J (zh K d C' (bH of x.1) q sx) w''/\bj n0 w2.drew w'') (by kernel_rfl) rfl k5 kk rfl rfl rfl rfl rfl rfl
      (show aD w2.drew _ _ from qc.out) L.out.set.cell L.out.pas.cell L.out.Si.cell L.out.yld.cell k0 ?_
     clear k0;rintro a' T hk f36 ⟨kx,G⟩;obtain ⟨ls,P,rfl⟩:=hk.split (by decide) (by simp);clear hk;obtain ⟨u0,u1,u2,u3,u4,u5,u6,u7,u8,rfl⟩:=aau P;clear P;simp only [abQ,Wm,abI,Xz,UU,Uo] at f36 ⊢;obtain rfl:u8=Z1 ZV:=f36;have h9:bj n0 w2 T:=⟨G.os,G.tape,G.output,G.size,G.block⟩;have hv3:VB T W.heap.size C of q Bl l:=L.out.keep (λk k1 k2=>h9.block k (by omega) (by omega));have c7:=hv3.pas.cell;have f7:=hv3.pas.frozen;obtain ⟨qs,qn⟩:=IC q qj;have qf:=ak hv3;have qe:=ak kx;have ks:=ak h9;clear hv3 kx h9 G;gi_wp2;have kh:=j.o;have E:=U.o;have ky:J (zh K d C' (bH of x.1) q sx) (T.setCell ⟨W.heap.size+1+1,0,ZY⟩ (Z7 Z9 ((q+1:Nat):Int))):=t _ _ _ qe.out ((TW _ _).setCell (p:=⟨W.heap.size+1+1,0,ZY⟩) (by show n0<=W.heap.size+1+1;omega) _);have hh:bj n0 w' T:=(bj.RM qb.out).trans ks.out;have qh:KeepsFrom V.heap.size w' (T.setCell ⟨W.heap.size+1+1,0,ZY⟩ (Z7 Z9 ((q+1:Nat):Int))):=(hh.keeps (by omega)).trans ((V5 _ _ _).from _);refine ⟨qh,λ_=>(k7 _ _ ky).2.2,?_⟩;unfold VI;rw [ka.out,N5 Q kv.out];refine ⟨rfl,qf.out.passed (q+1),ky,(HA.o.trans hh).setCell (p:=⟨W.heap.size+1+1,0,ZY⟩) (.inr (TU (Nat.le_succ _) (Nat.le_succ _))) _,by rw [T8];exact Nat.succ_le_succ y,?_⟩;have:=ks.out.size;simp only [World.setCell,abA];omega
  . have kg:decide (q<sx.2)=ZV:=Vu Q;rw [kg];gi_wp2;refine ⟨Yh _ _,rfl,?_⟩;unfold VI;rw [ka.out,IA Q];exact ⟨rfl,r.o,HJ.o,HA.o,by rw [T8];exact YL y,U.o⟩
 case done=>
  rintro D xs X hD qo ⟨w,b,g,u,y,E⟩ hK;have I:=Iz (K:=K) (d:=d) (C:=C) (p:=p) (s:=s) qo;rw [I] at g;have hb:=b.res.cell;have f10:=b.res.frozen;have kh:=j.o;have v:=aE b g u;clear b g u;gi_wp2;clear I;exact yt (a:=_) t R (by omega) (by omega) (by omega) v.o.1.res v.o.2.1 v.o.2.2 hK (by simp) (by simp [Act.eval]) (by simp)
 case stop=>
  rintro D c pre X hD km ⟨rfl,w,b,g,u,y,E⟩ hK;have I:=EO (K:=K) (d:=d) (C:=C) (p:=p) (s:=s) km w;rw [I] at g;have hb:=b.res.cell;have f10:=b.res.frozen;have kh:=j.o;have v:=aE b g u;clear b g u;gi_wp2;clear I;exact yt (a:=_) t R (by omega) (by omega) (by omega) v.o.1.res v.o.2.1 v.o.2.2 hK (by simp) (by simp [Act.eval]) (by simp)
def ID (a:eF C) (h:ix C i=ZX C'):eF C':=by
 obtain ⟨r,rfl,b,c,_⟩:=gu h;have:=a.Sd;exact ⟨ng a.byt,by show C.told<=C.count-1;omega,by show C.count-1<=8;omega⟩
def LB (K:a8) (n0 Bl l:Nat) (J:cE->ZU->Prop) (h:∀ s A B,J s A->ZS n0 A B->J s B)
 (j:∀ s A,J s A->A.cell? ⟨Bl,0,ZY⟩=ZX (Z7 Z9 (s.2:Int))/\n0<=A.heap.size/\aG A) (k:2<=n0)
 (n:∀ m s C c,J s c->eF C->YieldAt Fence.wide m ZO l #[.agg (aV C)] c λe W'=>e=Z3 (Z1 ZW)/\J (fq K s C) W'/\bj n0 c W') :
 ∀ (d m:Nat) (C:Ck) (of p:Nat) (s:cE) (W:ZU),eF C->C.count<=C.told+d->of<65536->p+16*(d+1)<=100000->J s W ->
  CallsIn Fence.wide m ZO 222 #[.agg (aV C),Z7 Z8 of,Z7 Z9 p,fu Bl,.func (.yield l) #[] #[]] W λe W'=>e=Z3 (Z1 ZW)/\J (iA K d C of p s) W'/\bj n0 W W':=by
 intro d;induction d with
 | zero=>
  intro m C of p s W b y f z g;refine uk K n0 Bl l J h j k n 0 m C of p s W b f (by omega) g ?_;intro m i C' a o q W' hl;obtain ⟨r,_,t,u,_⟩:=gu hl;omega
 | succ d ih=>
  intro m C of p s W b y f z g;refine uk K n0 Bl l J h j k n (d+1) m C of p s W b f (by omega) g ?_;intro m i C' a o q W' hl ho D w;have x:=ID b hl;obtain ⟨r,v,t,u,_⟩:=gu hl;exact ih m C' a o q W' x (by rw [v];show C.count-1<=C.told+d;omega) ho (by omega) w
end
def yu {B':Nat} (h:aD W B C) (a:Bx W B' v):B≠B':=by
 rintro rfl;obtain ⟨t,a⟩:=a;have e:=h.heap.symm.trans a;simp only [UF,U1] at e;have:=Uy Array.size e.1;rw [b8] at this;simp at this
noncomputable def RF1:Array ZQ:=((Tryz.f208.body.bind (JQ · 1))).getD #[]
def aaw:List (Op×Option Nat×a8):=[(.load 329 (Z0 2),ZX 11,[]),(.load 138 (Z0 3),ZX 12,[]),(.call { callee:=.value (.func 216),args:=#[Z0 12],argTypes:=#[138] },ZX 13,[1]),
 (.alloc 329,ZX 5,[]),(.alloc 3,ZX 6,[]),(.store 329 (Z0 5) (Z0 11),ZY,[3,0,2,0,3,4]),(.store 3 (Z0 6) (Z0 13),ZY,[4,2,5,0,1,2,3,4,5])]
def IE:bD RF1 5 14 aaw:=eQ (by kernel_rfl) (by kernel_rfl)
def N6 (n t:Nat) (w:ZU) (b:Nat):Prop:=n<=b/\∃ c,w.heap[b]?=ZX (Z4 c t (0,0))
def iq {t t':Nat} {c:Array ZT} (h:N6 n t' (w.alloc (Z4 c t)) b):N6 n t' w b\/(b=w.heap.size/\t'=t):=by
 obtain ⟨f,d,a⟩:=h;by_cases e:b<w.heap.size
 . exact .inl ⟨f,d,(UC _ _ _ e).symm.trans a⟩
 . have hl:=(TX.1 a).1;rw [Uq] at hl;obtain rfl:b=w.heap.size:=(by omega);rw [Ug] at a;cases a;exact .inr ⟨rfl,rfl⟩
def BFw (w:ZU) (D:Nat->Bool) (w':ZU):Prop:=bW w w'/\(∀ t b b',N6 w.heap.size t w' b->N6 w.heap.size t w' b'->b=b')/\(D 3=ZV->∀ b,¬ N6 w.heap.size 329 w' b)/\(D 4=ZV->∀ b,¬ N6 w.heap.size 3 w' b)
def zV {D:Nat->Bool} (h:BFw w D w') (i:Nat) (a:3≠i) (b:4≠i):BFw w (mj D i) w':=⟨h.1,h.2.1,by rw [gJ a];exact h.2.2.1,by rw [gJ b];exact h.2.2.2⟩
def Gq {D:Nat->Bool} (h:BFw w D w') (i:Nat) (d:3≠i) (f:4≠i) (g:bW w w'') (a:∀ t b,N6 w.heap.size t w'' b->N6 w.heap.size t w' b):BFw w (mj D i) w'':=
 ⟨g,λt b c q j=>h.2.1 t b c (a t b q) (a t c j),λe b q=>h.2.2.1 (by rwa [gJ d] at e) b (a _ b q),λe b q=>h.2.2.2 (by rwa [gJ f] at e) b (a _ b q)⟩
def N7 (w:ZU) (kept:Nat) (C:Ck) (i:Nat) (u:ZT) (w':ZU):Prop:=match i with
 | 0=>u=.agg (aV C)
 | 1=>u=Z7 Z8 (kept:Int)
 | 2=>u=Z7 Z9 ((ab kept).length:Nat)
 | 3=>∃ b,u=Z6 (ZX ⟨b,0,ZY⟩)/\w.heap.size<=b/\∃ Z,aD w' b Z
 | 4=>∃ b,u=Z6 (ZX ⟨b,0,ZY⟩)/\w.heap.size<=b/\∃ z,w'.heap[b]?=ZX (Z4 #[z] 3 (0,0))
 | 5=>∃ b,w.heap.size<=b/\aD w' b C
 | 6=>∃ b,w.heap.size<=b/\w'.heap[b]?=ZX (Z4 #[Z7 Z9 ((ab kept).length:Nat)] 3 (0,0))
 | _=>True
def Cr (a:∀ b,w.heap.size<=b->b<w'.heap.size->w''.heap[b]?=w'.heap[b]?):∀ j u,N7 w kept C j u w'->N7 w kept C j u w'':=λj u h=>by
 match j,h with
 | 0,h|1,h|2,h=>exact h
 | 3,⟨b,h1,h2,Z,h3⟩=>exact ⟨b,h1,h2,Z,h3.keep (a b h2 h3.lt)⟩
 | 4,⟨b,h1,h2,z,h3⟩=>exact ⟨b,h1,h2,z,(a b h2 (TX.1 h3).1).trans h3⟩
 | 5,⟨b,h2,h3⟩=>exact ⟨b,h2,h3.keep (a b h2 h3.lt)⟩
 | 6,⟨b,h2,h3⟩=>exact ⟨b,h2,(a b h2 (TX.1 h3).1).trans h3⟩
 | _+7,_=>trivial
theorem IF (Y P kept:Nat) (C:Ck) (hR:RF1=ops) (sz:a.tmps.size=35) (he:kept<65536)
 (i2:a.eval (Z0 2)=Z6 (ZX ⟨Y,0,ZY⟩)) (i3:a.eval (Z0 3)=Z6 (ZX ⟨P,0,ZY⟩)) (hh:aD w Y C) (ha:Bx w P (Z7 Z8 (kept:Int)))
 (h:∀ g w' R S,Ly 5 14 a g->g.eval (Z0 5)=Z6 (ZX ⟨R,0,ZY⟩)->g.eval (Z0 6)=Z6 (ZX ⟨S,0,ZY⟩)->w.heap.size<=R->w.heap.size<=S->aD w' R C->Bx w' S (Z7 Z9 ((ab kept).length:Nat))->bW w w'->Q .normal g w') :
 (Code.region 1 ops ZW).wpIn Fence.wide n ZO Q a w:=by
 subst hR;refine jo (by kernel_rfl) IE a w (by omega) (N7 w kept C) (BFw w) ?_ ?_ ?_
 . have X:∀ t b,¬ N6 w.heap.size t w.drew b:=λt b ⟨N,c,B⟩=>by
    have:b<w.heap.size:=(TX.1 B).1;omega
   exact ⟨(TW _ w).drew,λt b _ q=>absurd q (X t b),λ_ b=>X _ b,λ_ b=>X _ b⟩
 . intro j s;match j,s with
   | 0,_=>
    intro o g w' D K ho y m r G x d i;exact su (w':=w') (v:=.agg (aV C)) (by (conv at ho=>rhs;whnf);simp [execOp,ho,(m.slot 2 (by omega)).trans i2,my (hh.mono d.1 hh.lt),Result.andThen]) (by rw [ho];intro c h;cases h) y ⟨zV d _ (by decide) (by decide),rfl,kq⟩
   | 1,_=>
    intro o g w' D K ho y m r G x d i;have cs:=(ha.keep (d.1.block P ha.lt)).cell;exact su (v:=Z7 Z8 (kept:Int)) (by (conv at ho=>rhs;whnf);simp only [execOp,ho,(m.slot 3 (by omega)).trans i3];go_simp) (by rw [ho];intro c h;cases h) y ⟨zV d _ (by decide) (by decide),rfl,kq⟩
   | 2,_=>
    intro o g w' D K ho y m r G x d i;have s0:g.eval (Z0 12)=Z7 Z8 (kept:Int):=i 1 (x 1 (by decide));refine Lk (f:=216) (args:=#[Z7 Z8 (kept:Int)]) (w1:=w') (by have sf:g.eval (.func 216)=.func (.func 216) #[] #[]:=rfl;generalize g.eval=ev at s0 sf ⊢;(conv at ho=>rhs;whnf);simp [execOp,ho,aaw,resolve,invoke,s0,sf,go_sem]) (by rw [ho];intro c h;cases h) y (Bn kept he w') ?_;rintro e w'' ⟨rfl,rfl⟩;exact ⟨_,rfl,zV d _ (by decide) (by decide),rfl,kq⟩
   | 3,_=>
    intro o g w' D K ho y m r G x d i;have A:=zeroCk w';have W:=(TW _ w').alloc lR (Z4 (aV dO) 329);refine su (v:=Z6 (ZX ⟨w'.heap.size,0,ZY⟩)) (w':=w'.alloc (Z4 (aV dO) 329)) (by (conv at ho=>rhs;whnf);simp only [execOp,ho];go_simp) (by rw [ho];intro c h;cases h) y ⟨⟨d.1.alloc d.1.size _,λt b E q F=>?_,nofun,λe b q=>?_⟩,⟨_,rfl,d.1.size,dO,aD.new w' dO⟩,λj u _=>Cr (λb _ V=>W.block b V) j u⟩
    . rcases iq q with q|⟨rfl,rfl⟩<;>rcases iq F with F|⟨rfl,e⟩
      . exact d.2.1 t b E q F
      . subst e;exact absurd q (d.2.2.1 r b)
      . exact absurd F (d.2.2.1 r E)
      . rfl
    . rcases iq q with q|⟨_,e⟩
      . exact d.2.2.2 (by rwa [gJ (by decide)] at e) b q
      . cases e
   | 4,_=>
    intro o g w' D K ho y m r G x d i;have W:=(TW _ w').alloc lR (Z4 #[Z7 Z9 0] 3);refine su (v:=Z6 (ZX ⟨w'.heap.size,0,ZY⟩)) (w':=w'.alloc (Z4 #[Z7 Z9 0] 3)) (by (conv at ho=>rhs;whnf);simp only [execOp,ho];go_simp) (by rw [ho];intro c h;cases h) y ⟨⟨d.1.alloc d.1.size _,λt b E q F=>?_,λe b q=>?_,nofun⟩,⟨_,rfl,d.1.size,_,Ug _ _⟩,λj u _=>Cr (λb _ V=>W.block b V) j u⟩
    . rcases iq q with q|⟨rfl,rfl⟩<;>rcases iq F with F|⟨rfl,e⟩
      . exact d.2.1 t b E q F
      . subst e;exact absurd q (d.2.2.2 r b)
      . exact absurd F (d.2.2.2 r E)
      . rfl
    . rcases iq q with q|⟨_,e⟩
      . exact d.2.2.1 (by rwa [gJ (by decide)] at e) b q
      . cases e
   | 5,_=>
    intro o g w' D K ho y m r G x d i;obtain ⟨b5,T,L,Z,I⟩:N7 w kept C 3 (g.eval (Z0 5)) w':=i 3 (x 3 (by decide));have H:aD (w'.setRow b5 (aV C)) b5 C:=I.setRow C;have J:∀ k,k≠b5->k<w'.heap.size->(w'.setRow b5 (aV C)).heap[k]?=w'.heap[k]?:=λk m hl=>(aM w' b5 (aV C)).block k hl (λe=>m (by cases e;rfl));have hm:(w'.setRow b5 (aV C)).heap.size=w'.heap.size:=(by simp [World.setRow]);refine Ce (w':=w'.setRow b5 (aV C)) (by (conv at ho=>rhs;whnf);simp [execOp,ho,T,show g.eval (Z0 11)=.agg (aV C) from i 0 (x 0 (by decide)),nA C I,Result.andThen]) (by rw [ho];intro c h;cases h) ⟨Gq d _ (by decide) (by decide) (d.1.grown (aM w' b5 (aV C)) d.1.size (λk e=>by cases e;exact L)) λt b ⟨N,c,B⟩=>?_,⟨b5,L,H⟩,λj u s q=>?_⟩
    . by_cases e:b=b5
      . subst e;rw [H.heap] at B;cases B;exact ⟨N,_,I.heap⟩
      . exact ⟨N,c,(J b e (by rw [<- hm];exact (TX.1 B).1)).symm.trans B⟩
    . match j,s,q with
      | 0,_,q|1,_,q|2,_,q=>exact q
      | 3,_,⟨b,h1,h2,Z',h3⟩=>
       obtain rfl:b=b5:=d.2.1 _ b b5 ⟨h2,_,h3.heap⟩ ⟨L,_,I.heap⟩;exact ⟨b,h1,h2,C,H⟩
      | 4,_,⟨b,h1,h2,z,h3⟩=>exact ⟨b,h1,h2,z,(J b (λe=>by subst e;rw [I.heap] at h3;cases h3) (TX.1 h3).1).trans h3⟩
      | 5,s,_=>rw [r] at s;cases s
      | 6,s,_=>exact nomatch r.symm.trans ((G 6 s).2 5 (by decide))
      | _+7,_,_=>trivial
   | 6,_=>
    intro o g w' D K ho y m r G x d i;obtain ⟨b6,U,M,z,A⟩:N7 w kept C 4 (g.eval (Z0 6)) w':=i 4 (x 4 (by decide));have cc:w'.cell? ⟨b6,0,ZY⟩=ZX z:=(by simp [World.cell?,A]);have ff:w'.frozen? ⟨b6,0,ZY⟩=ZV:=(by simp [World.frozen?,A]);have H:(w'.setCell ⟨b6,0,ZY⟩ (Z7 Z9 ((ab kept).length:Nat))).heap[b6]?=ZX (Z4 #[Z7 Z9 ((ab kept).length:Nat)] 3 (0,0)):=(by simp [World.setCell,VL,A]);have J:∀ k,k≠b6->(w'.setCell ⟨b6,0,ZY⟩ (Z7 Z9 ((ab kept).length:Nat))).heap[k]?=w'.heap[k]?:=λk m=>Ud _ _ _ _ m;refine Ce (w':=w'.setCell ⟨b6,0,ZY⟩ (Z7 Z9 ((ab kept).length:Nat))) (by (conv at ho=>rhs;whnf);simp only [execOp,ho,U,show g.eval (Z0 13)=Z7 Z9 ((ab kept).length:Nat) from i 2 (x 2 (by decide))];go_simp) (by rw [ho];intro c h;cases h) ⟨Gq d _ (by decide) (by decide) (d.1.setCell (p:=⟨b6,0,ZY⟩) M _) λt b ⟨N,c,B⟩=>?_,⟨b6,M,H⟩,λj u s q=>?_⟩
    . by_cases e:b=b6
      . subst e;rw [H] at B;cases B;exact ⟨N,_,A⟩
      . exact ⟨N,c,(J b e).symm.trans B⟩
    . match j,s,q with
      | 0,_,q|1,_,q|2,_,q=>exact q
      | 3,_,⟨b,h1,h2,Z',h3⟩=>exact ⟨b,h1,h2,Z',h3.keep (J b (λe=>by subst e;have O:=h3.heap;rw [A] at O;cases O))⟩
      | 4,_,⟨b,h1,h2,z',h3⟩=>
       obtain rfl:b=b6:=d.2.1 _ b b6 ⟨h2,_,h3⟩ ⟨M,_,A⟩;exact ⟨b,h1,h2,_,H⟩
      | 5,_,⟨b,h2,h3⟩=>exact ⟨b,h2,h3.keep (J b (λe=>by subst e;have O:=h3.heap;rw [A] at O;cases O))⟩
      | 6,s,_=>rw [r] at s;cases s
      | _+7,_,_=>trivial
 . rintro g w' m _ ⟨D,hi,d⟩ i;obtain ⟨b5,T,L,Z,I⟩:N7 w kept C 3 (g.eval (Z0 5)) w':=i 3 (by decide);obtain ⟨b6,U,M,z,A⟩:N7 w kept C 4 (g.eval (Z0 6)) w':=i 4 (by decide);obtain ⟨b,l,hC⟩:N7 w kept C 5 ZZ w':=i 5 (by decide);obtain ⟨E,l',hM⟩:N7 w kept C 6 ZZ w':=i 6 (by decide);obtain rfl:b=b5:=d.2.1 _ b b5 ⟨l,_,hC.heap⟩ ⟨L,_,I.heap⟩;obtain rfl:E=b6:=d.2.1 _ E b6 ⟨l',_,hM⟩ ⟨M,_,A⟩;exact h g w' b E ⟨m.size,m.defers,m.slot⟩ T U L M hC ⟨_,hM⟩ d.1
noncomputable def aax:Array ZQ:=((Tryz.f208.body.bind (JQ · 11))).getD #[]
def aay:List (Op×Option Nat×a8):=[(.load 329 (Z0 8),ZX 32,[]),(.load 3 (Z0 9),ZX 33,[]),(.store 329 (Z0 5) (Z0 32),ZY,[0,0]),(.store 3 (Z0 6) (Z0 33),ZY,[1,2,0,1,2])]
def EP:bD aax 32 34 aay:=eQ (by kernel_rfl) (by kernel_rfl)
theorem ER (p q A y n:Nat) (C C':Ck) (v:ZT) (P:aax=ops) (sz:a.tmps.size=35)
 (U:a.eval (Z0 5)=Z6 (ZX ⟨p,0,ZY⟩)) (V:a.eval (Z0 6)=Z6 (ZX ⟨q,0,ZY⟩)) (X:a.eval (Z0 8)=Z6 (ZX ⟨A,0,ZY⟩)) (Y:a.eval (Z0 9)=Z6 (ZX ⟨y,0,ZY⟩))
 (O:aD w A C) (z:Bx w y (Z7 Z9 (n:Int))) (E:aD w p C') (F:Bx w q v)
 (h:∀ g,Ly 32 34 a g->Q .normal g ((w.drew.setRow p (aV C)).setCell ⟨q,0,ZY⟩ (Z7 Z9 (n:Int)))) :
 (Code.region 11 ops ZW).wpIn (Fence.wide.inRound l) m ZO Q a w:=by
 subst P;obtain ⟨W,J⟩:=nM (w.drew.setRow p (aV C));have I:∀ k,k≠p->k<w.heap.size->W.heap[k]?=w.heap[k]?:=λk f R=>by rw [<- J];exact (aM w.drew p (aV C)).block k R (λe=>f (by cases e;rfl))
 have K:=F.keep (I q (yu E F).symm F.lt);have Z:=K.cell;have ff:=K.frozen;have M:∀ b:Bool,(if b=ZW then W else w.drew).cell? ⟨y,0,ZY⟩=ZX (Z7 Z9 (n:Int)):=λb=>by
  cases b
  . exact z.cell
  . exact (z.keep (I y (yu E z).symm z.lt)).cell
 have L:=nA C (show aD w.drew p C' from E);rw [J] at h L;refine jo (by kernel_rfl) EP a w (by omega) (λj u _=>u=([.agg (aV C),Z7 Z9 (n:Int),ZZ,ZZ]:List ZT).getD j ZZ) (Lz 2 3 w W (W.setCell ⟨q,0,ZY⟩ (Z7 Z9 (n:Int)))) rfl ?_ ?_
 . intro j S;match j,S with
   | 0,_=>
    intro o g w' D G ho t f i s r d x;have N:D 2=ZV:=Yj.2 λe=>nomatch i.symm.trans ((s 2 e).2 0 (by decide));obtain rfl:=Co d N;exact gZ (w':=w.drew) (by (conv at ho=>rhs;whnf);simp [execOp,ho,(f.slot 8 (by omega)).trans X,my (show aD w.drew A C from O),Result.andThen]) (by rw [ho];intro c h;cases h) t ⟨Gp d _ (by decide) (by decide),rfl,kq⟩
   | 1,_=>
    intro o g w' D G ho t f i s r d x;have B:D 3=ZV:=Yj.2 λe=>nomatch i.symm.trans ((s 3 e).2 1 (by decide));have cs:=M (D 2);have T:w'=if D 2=ZW then W else w.drew:=(by unfold Lz at d;rw [B] at d;exact d);rw [<- T] at cs;exact gZ (v:=Z7 Z9 (n:Int)) (by (conv at ho=>rhs;whnf);simp only [execOp,ho,(f.slot 9 (by omega)).trans Y];go_simp) (by rw [ho];intro c h;cases h) t ⟨Gp d _ (by decide) (by decide),rfl,kq⟩
   | 2,_=>
    intro o g w' D G ho t f i s r d x;have B:D 3=ZV:=Yj.2 λe=>nomatch i.symm.trans ((s 3 e).2 2 (by decide));obtain rfl:=Co d i;exact BB (w':=W) (by (conv at ho=>rhs;whnf);simp [execOp,ho,(f.slot 5 (by omega)).trans U,show g.eval (Z0 32)=.agg (aV C) from x 0 (r 0 (by decide)),L,Result.andThen]) (by rw [ho];intro c h;cases h) ⟨by unfold Lz;rw [gJ (j:=3) (by decide),B];rfl,rfl,kq⟩
   | 3,_=>
    intro o g w' D G ho t f i s r d x;unfold Lz at d;rw [i,r 2 (by decide)] at d;obtain rfl:w'=W:=d;exact BB (w':=w'.setCell ⟨q,0,ZY⟩ (Z7 Z9 (n:Int))) (by (conv at ho=>rhs;whnf);simp only [execOp,ho,(f.slot 6 (by omega)).trans V,show g.eval (Z0 33)=Z7 Z9 (n:Int) from x 1 (r 1 (by decide))];go_simp) (by rw [ho];intro c h;cases h) ⟨by unfold Lz;rw [gJ (j:=2) (by decide),r 2 (by decide)];rfl,rfl,kq⟩
 . rintro g w' f _ ⟨D,H,d⟩ _;unfold Lz at d;rw [H 2 (by decide),H 3 (by decide)] at d;obtain rfl:w'=W.setCell ⟨q,0,ZY⟩ (Z7 Z9 (n:Int)):=d;exact h g ⟨f.size,f.defers,f.slot⟩
section
attribute [local go_sem] Oper.semAt_some
theorem zW (C:Ck) (kept Bl:Nat) (w:ZU) :
 ZR ZO 219 #[.agg (aV C),Z7 Z8 kept,fu Bl] w λe w'=>e=Z3 (.func (.func 221) #[] #[Z6 (ZX ⟨w.heap.size,0,ZY⟩),Z6 (ZX ⟨w.heap.size+1,0,ZY⟩),Z6 (ZX ⟨w.heap.size+1+1,0,ZY⟩)]) /\
  aD w' w.heap.size C/\Bx w' (w.heap.size+1) (Z7 Z8 (kept:Int))/\Bx w' (w.heap.size+1+1) (fu Bl)/\bW w w'/\w'.heap.size=w.heap.size+3:=by
 unfold fu;go_enter func219,ntmps219;go_wp2;go_ret;refine ⟨rfl,?_,?_,?_,?_,by simp⟩
 . exact (aD.new w C).keep (by rw [Wc _ _ _ (by simp;omega),Wc _ _ _ (by simp)])
 . have h:=Bx.new (w.alloc (Z4 (aV C) 329)) 138 (Z7 Z8 (kept:Int));rw [Uq] at h;exact h.alloc _
 . have h:=Bx.new ((w.alloc (Z4 (aV C) 329)).alloc (Z4 #[Z7 Z8 (kept:Int)] 138)) 210 (.func (.func 218) #[] #[Z6 (ZX ⟨Bl,0,ZY⟩)]);simp only [Uq] at h;exact h
 . exact ((bA w _).alloc (by simp) _).alloc (by simp;omega) _
theorem zX (K:a8) (n0 Bl l:Nat) (J:cE->ZU->Prop) (j:∀ s A B,J s A->ZS n0 A B->J s B)
 (k:∀ s A,J s A->A.cell? ⟨Bl,0,ZY⟩=ZX (Z7 Z9 (s.2:Int))/\n0<=A.heap.size/\aG A) (p:2<=n0)
 (r:∀ m s C b,J s b->eF C->YieldAt Fence.wide m ZO l #[.agg (aV C)] b λe W'=>e=Z3 (Z1 ZW)/\J (fq K s C) W'/\bj n0 b W')
 (n a Bs c:Nat) (C:Ck) (kept:Nat) (s:cE) (W:ZU) (t:aD W a C) (w:Bx W Bs (Z7 Z8 (kept:Int))) (o:Bx W c (fu Bl)) (d:eF C) (u:kept<65536) (q:J s W) :
 CallsIn Fence.wide n ZO 221 #[.func (.yield l) #[] #[],Z6 (ZX ⟨a,0,ZY⟩),Z6 (ZX ⟨Bs,0,ZY⟩),Z6 (ZX ⟨c,0,ZY⟩)] W λe W'=>(∃ v,e=Z3 v)/\J (iA K 8 C kept 0 s) W':=by
 have f:=λm=>LB K n0 Bl l J j k p r 8 m C kept 0 s W d (by have:=d.Sd;omega) u (by decide) q;have c1:=w.cell;have g:=o.cell;unfold fu at g f;refine Xs func221 rfl trivial ?_ rfl;simp only [ntmps221,UH,UD,UW,YH,YI,Vj,Vk,Vl,Vm,Uo,UU];gi_wp2_with (refine kQ rfl (Z0 1) rfl a C rfl t ?_)
 refine ⟨trivial,λh=>(by cases h),(f _).mono ?_⟩;rintro e W' ⟨rfl,i,_⟩;gi_wp2;go_end0
 exact ⟨⟨_,rfl⟩,i⟩
structure FI (w:ZU) (kept B5 B6 B7:Nat) (s:cE) (W:ZU):Prop where
 SE:aD W B5 s.1
 least:Bx W B6 (Z7 Z9 (s.2:Int))
 Si:Bx W B7 (fu B6)
 set:Bx W (w.heap.size+1) (Z7 Z8 (kept:Int))
 res:aD W (w.heap.size+1+1) dO
 below:bW w W
def FI.mono {B5 B6 B7:Nat} (h:FI w kept B5 B6 B7 s W) (a:ZS B W W') (b:W.heap.size<=B\/(B5<B/\B6<B/\B7<B/\w.heap.size+3<=B)):FI w kept B5 B6 B7 s W':=by
 have:=h.SE.lt;have:=h.least.lt;have:=h.Si.lt;have:=h.res.lt;exact ⟨h.SE.keep (a.block _ (by omega)),h.least.keep (a.block _ (by omega)),h.Si.keep (a.block _ (by omega)),h.set.keep (a.block _ (by omega)),h.res.keep (a.block _ (by omega)),h.below.trans (a.mono (by omega))⟩
def LC {z:Int} (p least Bl:Nat) (w:ZU) (b:z=(p:Int)) (a:w.cell? ⟨Bl,0,ZY⟩=ZX (Z7 Z9 (least:Int))) :
 ZR ZO 218 #[Z7 Z9 z,Z6 (ZX ⟨Bl,0,ZY⟩)] w λe w'=>e=Z3 (Z1 (decide (p<least)))/\w'=w:=by
 subst b;exact xZ p least Bl w a
def cR (x:Ck) (pre:List Sh):Nat:=((pre.map (·.1)).filter (cH x)).length
theorem N8 (x:Ck) (pre:List Sh) (i:Sh):cR x (pre++[i])=cR x pre+(if cH x i.1=ZW then 1 else 0):=by
 unfold cR;rw [Uv,Wr,T8];congr 1;by_cases h:cH x i.1=ZW
 . simp [h]
 . simp [h]
def QP (h:pre.map (·.1)=ab kept):cR x pre=iz (ab kept) x:=by unfold cR iz;rw [h]
def N9 (h:pre.map (·.1)<+:ab kept):cR x pre<=iz (ab kept) x:=by
 unfold cR iz;obtain ⟨R,a⟩:=h;rw [<- a,Wr,T8];omega
def aaz (x:Ck) (pre:List Sh):cR x pre<=pre.length:=by
 unfold cR;exact TU (WL _ _) (by rw [T9];exact TV _)
def InI (X:ZU) (s:cE) (x:Ck) (pre:List Sh) (Y:ZU):Prop:=bW X Y/\Bx Y X.heap.size (Z7 Z9 (cR x pre:Int))/\(cR x pre=0\/cR x pre<s.2)
def InI.own (i:X.heap.size+1<=B):OwnFrom B (λpre Y=>InI X s x pre Y):=by
 rintro pre A h row ⟨c,d,g⟩ b a;have f:=d.lt;exact ⟨c.grown b (by have:=c.size;omega) (λk e=>by have:=(a k e).1;omega),d.keep (b.block _ f (λe=>by have:=(a _ e.symm).1;omega)),g⟩
theorem ES (C:Ck) (kept:Nat) (w:ZU) (hf:eF C) (V:kept<65536) (hT:aG w) (h2:3<=w.heap.size) :
 ZR ZO 208 #[.agg (aV C),Z7 Z8 kept] w λe w'=>e=Z3 (.agg (aV (aP 8 C kept).1))/\bW w w':=by
 have hp:=b8 C;have h9:=b8 dO;have hz:=zeroCk;obtain ⟨n,HN⟩:∃ n:Nat,cA (9<=n):=⟨9,TV _⟩;refine (Vc (n:=n)).1 ?_;refine Wf func208 rfl trivial ?_ rfl;simp only [ntmps208,UH,UD,UW,YH,YI,Vj,Vk,Vl,Vm,Uo,UU];have b0:bW w (((w.alloc (Z4 (aV C) 329)).alloc (Z4 #[Z7 Z8 (kept:Int)] 138)).alloc (Z4 (aV dO) 329)):=((bA w _).alloc (by simp) _).alloc (by simp;omega) _;have c0:aD (((w.alloc (Z4 (aV C) 329)).alloc (Z4 #[Z7 Z8 (kept:Int)] 138)).alloc (Z4 (aV dO) 329)) w.heap.size C:=(aD.new w C).keep (by rw [Wc _ _ _ (by simp;omega),Wc _ _ _ (by simp)]);have s0:Bx (((w.alloc (Z4 (aV C) 329)).alloc (Z4 #[Z7 Z8 (kept:Int)] 138)).alloc (Z4 (aV dO) 329)) (w.heap.size+1) (Z7 Z8 (kept:Int)):=by
  have h:=Bx.new (w.alloc (Z4 (aV C) 329)) 138 (Z7 Z8 (kept:Int));rw [Uq] at h;exact h.alloc _
 have r0:aD (((w.alloc (Z4 (aV C) 329)).alloc (Z4 #[Z7 Z8 (kept:Int)] 138)).alloc (Z4 (aV dO) 329)) (w.heap.size+1+1) dO:=by
  have h:=aD.new ((w.alloc (Z4 (aV C) 329)).alloc (Z4 #[Z7 Z8 (kept:Int)] 138)) dO;simp only [Uq] at h;exact h
 have z0:(((w.alloc (Z4 (aV C) 329)).alloc (Z4 #[Z7 Z8 (kept:Int)] 138)).alloc (Z4 (aV dO) 329)).heap.size=w.heap.size+3:=by simp
 obtain ⟨w3,qe⟩:=nM (((w.alloc (Z4 (aV C) 329)).alloc (Z4 #[Z7 Z8 (kept:Int)] 138)).alloc (Z4 (aV dO) 329));rw [qe] at b0 c0 s0 r0 z0;have HB:=ak b0;have HC:=ak c0;have HS:=ak s0;have O:=ak r0;have HZ:=ak z0;clear b0 c0 s0 r0 z0;gi_wp2;refine Kf ?_;gi_wp2;refine IF w.heap.size (w.heap.size+1) kept C (by kernel_rfl) rfl V rfl rfl HC.o HS.o ?_;rintro Q d f a q7 e5 e6 l5 l6 c5 G v;obtain ⟨ls,Z,rfl⟩:=q7.split (by decide) (by simp);clear q7;obtain ⟨u0,u1,u2,u3,u4,u5,u6,u7,u8,rfl⟩:=aau Z;clear Z;simp only [abQ,Wm,abI,Xz,UU,Uo] at e5 e6 ⊢;obtain rfl:u0=Z6 (ZX ⟨f,0,ZY⟩):=e5;obtain rfl:u1=Z6 (ZX ⟨a,0,ZY⟩):=e6;clear qe;have qg:=HZ.o;have cN:=(Bx.new d 210 .nilFunc).cell;have fN:=(Bx.new d 210 .nilFunc).frozen;have u:bW d ((d.alloc (Z4 #[.nilFunc] 210)).setCell ⟨d.heap.size,0,ZY⟩ (fu a)):=(bA _ _).setCell (p:=⟨d.heap.size,0,ZY⟩) lR _;have M:FI w kept f a d.heap.size (C,(ab kept).length) ((d.alloc (Z4 #[.nilFunc] 210)).setCell ⟨d.heap.size,0,ZY⟩ (fu a)):=
  ⟨c5.keep (u.block _ c5.lt),G.keep (u.block _ G.lt),(Bx.new d 210 .nilFunc).set _,HS.o.keep ((u.block _ (by have:=v.size;omega)).trans (v.block _ (by omega))),O.o.keep ((u.block _ (by have:=v.size;omega)).trans (v.block _ (by omega))),(HB.o.trans (v.mono (by omega))).trans (u.mono (by have:=v.size;omega))⟩
 have k8:aD ((d.alloc (Z4 #[.nilFunc] 210)).setCell ⟨d.heap.size,0,ZY⟩ (fu a)) w.heap.size C:=HC.o.keep ((u.block _ (by have:=v.size;omega)).trans (v.block _ (by omega)));have qh:((d.alloc (Z4 #[.nilFunc] 210)).setCell ⟨d.heap.size,0,ZY⟩ (fu a)).heap.size=d.heap.size+1:=by simp [World.setCell]
 have x9:=v.size;have xq:=G.lt;obtain ⟨j,kj⟩:=nM ((d.alloc (Z4 #[.nilFunc] 210)).setCell ⟨d.heap.size,0,ZY⟩ (fu a));rw [kj] at M k8 qh;unfold fu at kj;have R:=M.Si.cell;unfold fu at R;have c3:=M.set.cell;have H:=ak M;have qj:=ak k8;have U:=ak qg;clear M k8 qh u c5 G v HB HC HS O HZ x9 qg hz hp h9;have ka:=zW C kept a j;unfold fu at ka;gi_wp2;refine wpIn_label ?_;gi_wp2_with (refine kQ rfl (Z0 2) rfl w.heap.size C rfl qj.out ?_)
 refine cj ka ?_;clear ka;rintro e w6 ⟨rfl,k1,k2,k3,k4,k5⟩;have qk:=ak k1;have qm:=ak k2;have qn:cA (Bx w6 (j.heap.size+1+1) (fu a)):=ak k3;have qo:=ak k4;have kp:=ak k5;clear k1 k2 k3 k4 k5 kj cN fN R c3;gi_wp2;have qv:FI w kept f a d.heap.size (C,(ab kept).length) w6:=H.o.mono qo.out (.inl lR);have xn:=H.o.SE.lt;have xp:=H.o.least.lt;have xx:=H.o.Si.lt;have xm:=H.o.res.lt;have q8:=kp.out;obtain ⟨m,HM⟩:∃ m:Nat,cA (9<=m):=⟨9,TV _⟩;refine Kg (P:=ZO) (n:=n) m (w:=w6) (gf:=221) (lb:=#[Z6 (ZX ⟨j.heap.size,0,ZY⟩),Z6 (ZX ⟨j.heap.size+1,0,ZY⟩),Z6 (ZX ⟨j.heap.size+1+1,0,ZY⟩)]) rfl (Ve func221 (by kernel_rfl) rfl)
  (encs:=λC:Ck=>#[.agg (aV C)]) (λ_=>rfl) (fq (ab kept)) eF (FI w kept f a d.heap.size) (λs A B h hb=>h.mono hb (.inr ⟨by omega,by omega,by omega,by omega⟩)) (λs=>s=aP 8 C kept) (C,(ab kept).length)
  ?call qv (λB x Q A=>∃ q,B<=q/\aD A q x/\Q={ tmps:=#[.agg (aV C),Z7 Z8 (kept:Int),Z6 (ZX ⟨w.heap.size,0,ZY⟩),Z6 (ZX ⟨w.heap.size+1,0,ZY⟩),Z6 (ZX ⟨w.heap.size+1+1,0,ZY⟩),Z6 (ZX ⟨f,0,ZY⟩),Z6 (ZX ⟨a,0,ZY⟩),Z6 (ZX ⟨d.heap.size,0,ZY⟩),Z6 (ZX ⟨q,0,ZY⟩),u4,u5,u6,u7,u8,.func (.func 218) #[] #[Z6 (ZX ⟨a,0,ZY⟩)],.agg (aV C),Z7 Z8 (kept:Int),.func (.func 218) #[] #[Z6 (ZX ⟨a,0,ZY⟩)],.func (.func 221) #[] #[Z6 (ZX ⟨j.heap.size,0,ZY⟩),Z6 (ZX ⟨j.heap.size+1,0,ZY⟩),Z6 (ZX ⟨j.heap.size+1+1,0,ZY⟩)],.agg (aV x),ZZ,ZZ,ZZ,ZZ,ZZ,ZZ,ZZ,ZZ,ZZ,ZZ,ZZ,ZZ,ZZ,ZZ,ZZ],defers:=[] }) ?ax ?assign ?body ?done
 case call=>
  intro l J W k7 xi x0 qz hY qy;refine (zX (ab kept) (w6.heap.size+2) a l J x0 (λs A hj=>?_) (by omega) hY (n-1) j.heap.size (j.heap.size+1) (j.heap.size+1+1) C kept _ W (qk.out.keep (k7.block _ (by omega))) (qm.out.keep (k7.block _ (by omega))) (qn.out.keep (k7.block _ (by omega))) hf V qy).mono ?_
  . obtain ⟨fi,hs⟩:=qz s A hj;exact ⟨fi.least.cell,hs,hT.mono (by omega) fi.below⟩
  . rintro e W' ⟨hv,qx⟩;exact ⟨hv,_,rfl,qx⟩
 case ax=>
  rintro B x Q A A' ⟨q,h1,ky,h3⟩ x3;exact ⟨q,h1,ky.keep (x3.block q h1 ky.lt),h3⟩
 case assign=>
  intro l s x W K z q4 hK;have hz:=zeroCk;have h9:=b8 dO;gi_wp2_with (refine jI rfl (Z0 8) (Z0 19) rfl W.heap.size x dO rfl rfl (aD.new W dO) ?_)
  exact hK _ _ ((bA _ _).grown (aM _ _ _) (by simp) (λk e=>by cases e;exact TV _)) ⟨W.heap.size,TV _,(aD.new W dO).setRow x,rfl⟩
 case body=>
  rintro l B s x Q X hl xg xc ⟨r,hr⟩ z q4 ⟨q,xb,qf,rfl⟩;have Z:=z.below.size;have x6:l<X.heap.size:=(TX.1 hr).1;have k6:bW X (X.alloc (Z4 #[Z7 Z9 0] 3)):=bA _ _;have c3:=(z.mono k6 (.inl lR)).set.cell;have hc:bW X ((X.alloc (Z4 #[Z7 Z9 0] 3)).alloc (Z4 #[Z7 Z8 (kept:Int)] 138)):=k6.alloc (by simp) _;have kz:=(Bx.new X 3 (Z7 Z9 0)).alloc (Z4 #[Z7 Z8 (kept:Int)] 138);have kf:=(Bx.new (X.alloc (Z4 #[Z7 Z9 0] 3)) 138 (Z7 Z8 (kept:Int))).cell;have kk:((X.alloc (Z4 #[Z7 Z9 0] 3)).alloc (Z4 #[Z7 Z8 (kept:Int)] 138)).heap.size=X.heap.size+1+1:=by simp
  rw [Uq] at kf;have hx:=dI kept (X.alloc (Z4 #[Z7 Z9 0] 3));rw [Uq] at hx;have y:=ak z;have T:=ak qf;have S:=ak hc;have km:=ak kz;have ks:=ak kf;have kx:=ak kk;have O:=ak hr;have ko:=ak hx;clear z qf k6 kz kf kk hc hr Z hx q8;gi_wp2;refine eR ko.out ?_;rintro e w' ⟨rfl,qd⟩;rw [<- qd] at S km ks kx;clear ko c3 qd;gi_wp2;have x1:aG w':=hT.mono (by omega) ((y.o.mono S.out (.inl lR)).below);have kk:=kx.out;have x8:w'.heap[l]?=ZX (.loop r):=(S.out.block l x6).trans O.o;have xd:=y.o.least;refine wpIn_rangeFunc_ownN (l₀:=l) (r₀:=r) rfl x8 (by have:=HM.o;omega) (gf:=151) (lb:=#[Z6 (ZX ⟨X.heap.size+1,0,ZY⟩)]) rfl trivial (Ve func151 (by kernel_rfl) rfl)
   ((eS (m-1) (X.heap.size+1) kept V w' (by omega) ks.out (by omega) x1).inRound l) (λh k=>qZ h k) (rh (by omega)) (TW _ _) (λ_=>rfl)
   (λpre Y=>InI X s x pre Y) (λc pre Y=>c=.exit 1/\bW X Y/\1<=cR x pre/\s.2<=cR x pre)
   (InI.own (by omega)) (λc=>by
    rintro pre A Bw row ⟨g,t,E⟩ hg ke;exact ⟨g,t.grown hg (by have:=t.size;omega) (λk e=>by have:=(ke k e).1;omega),E⟩)
   ⟨S.out,km.out,.inl rfl⟩
   (λi I _=>I={ tmps:=#[.agg (aV C),Z7 Z8 (kept:Int),Z6 (ZX ⟨w.heap.size,0,ZY⟩),Z6 (ZX ⟨w.heap.size+1,0,ZY⟩),Z6 (ZX ⟨w.heap.size+1+1,0,ZY⟩),Z6 (ZX ⟨f,0,ZY⟩),Z6 (ZX ⟨a,0,ZY⟩),Z6 (ZX ⟨d.heap.size,0,ZY⟩),Z6 (ZX ⟨q,0,ZY⟩),Z6 (ZX ⟨X.heap.size,0,ZY⟩),Z7 Z9 (i.1:Int),u6,u7,u8,.func (.func 218) #[] #[Z6 (ZX ⟨a,0,ZY⟩)],.agg (aV C),Z7 Z8 (kept:Int),.func (.func 218) #[] #[Z6 (ZX ⟨a,0,ZY⟩)],.func (.func 221) #[] #[Z6 (ZX ⟨j.heap.size,0,ZY⟩),Z6 (ZX ⟨j.heap.size+1,0,ZY⟩),Z6 (ZX ⟨j.heap.size+1+1,0,ZY⟩)],.agg (aV x),Z7 Z8 (kept:Int),.func (.func 151) #[] #[Z6 (ZX ⟨X.heap.size+1,0,ZY⟩)],Z7 Z9 (i.1:Int),ZZ,ZZ,ZZ,ZZ,ZZ,ZZ,ZZ,ZZ,ZZ,ZZ,ZZ,ZZ],defers:=[] })
   (λ_ _ _ _ _ _ hs _ _=>hs)
   ?assign2 ?body2 ?done2 ?stop2
  case assign2=>
   rintro l2 pre i Y K hi hK;unfold qY;gi_wp2;exact hK _ _ (Yh _ _) (F6.refl _) hi rfl
  case body2=>
   rintro l2 pre i I Y _ _ ⟨g,t,E⟩ rfl x7;have h8:=T.out.lt;have q5:=T.out.keep (g.block q h8);have q6:=aaz x pre;have x5:(ab kept).length<=16:=(by rw [<- kR kept];exact qC kept);have qp:=ak g;have qq:=ak t;have qs:=ak E;have c9:=t.cell;have f9:=t.frozen;have qa:=xU q i.1 x Y q5 q4 i.2;have qc:=N8 x pre i;have kv:=ak qc;have u:bW X (Y.setCell ⟨X.heap.size,0,ZY⟩ (Z7 Z9 ((cR x pre:Int)+1))):=g.setCell (p:=⟨X.heap.size,0,ZY⟩) lR _;have k0:=y.o.mono u (.inl lR);have R:=k0.Si.cell;have G:=k0.least.cell;have hy:=t.set (Z7 Z9 ((cR x pre:Int)+1));have xk:=hy.cell;unfold fu at R;have hq:=ak u;have qi:=ak hy;clear g t E qc u k0 hy q5;gi_wp2;refine eR qa ?_;clear qa;rintro e w'' ⟨rfl,kh⟩;subst kh;cases hn:cH x i.1 with
   | false=>
    have F:cA (cR x (pre++[i])=cR x pre):=ak (by rw [kv.out,hn];simp);clear hn;gi_wp2;refine ⟨Yh _ _,F6.refl _,qp.out,?_,?_⟩
    . rw [F.out];exact qq.out
    . rw [F.out];exact qs.out
   | true=>
    have F:cA (cR x (pre++[i])=cR x pre+1):=ak (by rw [kv.out,hn];simp);clear hn;gi_wp2;refine eR (LC (cR x pre+1) s.2 a _ (by omega) G) ?_;rintro e xy ⟨rfl,ki⟩;have q9:KeepsFrom w'.heap.size w'' (w''.setCell ⟨X.heap.size,0,ZY⟩ (Z7 Z9 ((cR x pre:Int)+1))):=(V5 _ _ _).from _;have kr:=ak q9;clear q9;subst ki;by_cases k9:cR x pre+1<s.2
    . rw [UZ k9];gi_wp2;refine ⟨kr.out,λ_=>hT.mono (by omega) (y.o.mono hq.out (.inl lR)).below,hq.out,?_,?_⟩
      . rw [F.out];exact qi.out
      . rw [F.out];exact .inr k9
    . rw [Vu k9];gi_wp2;refine ⟨kr.out,rfl,hq.out,?_,?_⟩
      . rw [F.out];omega
      . rw [F.out];omega
  case done2=>
   rintro ys Y xa ⟨g,t,E⟩;have q6:=QP (x:=x) xa;rw [q6] at t E;have b:=y.o.mono g (.inl lR);have h8:=T.out.lt;have x2:=T.out.keep (g.block q h8);have q8:=kp.out;gi_wp2;refine ER f a q X.heap.size (iz (ab kept) x) x s.1 _ (by kernel_rfl) rfl rfl rfl rfl rfl x2 t b.SE b.least ?_;intro a3 xf;have kg:fq (ab kept) s x=(x,iz (ab kept) x):=(by unfold fq;rw [TT E]);rw [kg];have N:=yu b.SE b.least;have qr:=yu b.SE b.Si;have xj:=yu b.SE b.set;have hd:=yu b.res b.least;have L:∀ k,k≠f->k≠a->k<Y.heap.size->((Y.drew.setRow f (aV x)).setCell ⟨a,0,ZY⟩ (Z7 Z9 (iz (ab kept) x:Int))).heap[k]?=Y.heap[k]?:=λk k1 k2 k3=>
    (Wk _ _ _ _ k2).trans ((aM Y.drew f (aV x)).block k k3 (λe=>k1 (by cases e;rfl)))
   have hp:Y.heap.size<=((Y.drew.setRow f (aV x)).setCell ⟨a,0,ZY⟩ (Z7 Z9 (iz (ab kept) x:Int))).heap.size:=(by simp [World.setCell,World.setRow]);have xe:=g.size;have xo:w.heap.size<=f:=(by have:=U.out;omega);have xv:w.heap.size<=a:=(by have:=U.out;omega);refine ⟨⟨?_,?_,?_,?_,?_,?_⟩,?_⟩
   . exact (((show aD Y.drew f s.1 from b.SE).setRow x)).keep (Wk _ _ _ _ N)
   . exact ((show Bx Y.drew a _ from b.least).keep ((aM Y.drew f (aV x)).block a b.least.lt (λe=>N (by cases e;rfl)))).set _
   . exact b.Si.keep (L _ (Vq qr) (by omega) b.Si.lt)
   . exact b.set.keep (L _ (Vq xj) (by have:=U.out;omega) b.set.lt)
   . exact b.res.keep (L _ (by have:=U.out;omega) hd b.res.lt)
   . exact b.below.trans ⟨rfl,rfl,rfl,hp,λk V=>L k (by omega) (by omega) (by have:=b.below.size;omega)⟩
   . exact (bj.RM g).trans ⟨rfl,rfl,rfl,hp,λk k1 k2=>L k (by omega) (by omega) k2⟩
  case stop2=>
   rintro c pre Y kb ⟨rfl,g,t,E⟩;have xh:=N9 (x:=x) kb;have kg:fq (ab kept) s x=s:=(by unfold fq;rw [TS (by omega)]);rw [kg];gi_wp2;exact ⟨y.o.mono g (.inl lR),bj.RM g⟩
 case done=>
  rintro D s X hD rfl z hK;have hb:=z.SE;have qb:=z.res;have y:=ak z;have h9:=b8 dO;gi_wp2_with (first
   | (refine kQ rfl (Z0 5) rfl f (aP 8 C kept).1 rfl hb ?_)
   | (refine jI rfl (Z0 4) (Z0 34) rfl (w.heap.size+1+1) (aP 8 C kept).1 dO rfl rfl qb ?_))
  have q0:(X.setRow (w.heap.size+1+1) (aV (aP 8 C kept).1)).heap[D]?=ZX (.deferred (ZX [])):=((aM X (w.heap.size+1+1) _).block D (TX.1 hK).1 (λe=>by cases e;omega)).trans hK;refine ⟨by simp,.inl ⟨_,_,rfl,Wu q0,?_⟩⟩;have kc:aD ((X.setRow (w.heap.size+1+1) (aV (aP 8 C kept).1)).putObj D (.deferred ZY)) (w.heap.size+1+1) (aP 8 C kept).1:=(qb.setRow (aP 8 C kept).1).keep (US (by omega));have x4:bW w ((X.setRow (w.heap.size+1+1) (aV (aP 8 C kept).1)).putObj D (.deferred ZY)):=
   Below.RR (y.o.below.grown (aM _ _ _) y.o.below.size (λk e=>by cases e;omega)) (by omega) (TX.1 q0).1 _
  exact ⟨.agg (aV (aP 8 C kept).1),V4 results208 _ _ (w.heap.size+1+1) 329 (aV (aP 8 C kept).1) (0,0) _ rfl kc.heap XQ rfl (dV _),rfl,x4⟩
end
def Oa (m:Nat->Nat->Nat) (q:Nat) (src:a8):Nat->Nat->Nat:=λr j=>if r=q/\j<src.length then src.getD j 0 else m r j
theorem Cs (z:o.guard=ZY) (d s:ZP)
 (ho:o.op=.call { callee:=.builtin .copy,args:=#[d,s],argTypes:=#[39,39] }) (b q:Nat) (v:ZT) (hd:a.eval d=Z5 (ZX ⟨b,q*16,ZY⟩) 16 16) (hs:a.eval s=v)
 (C:Ck) (src:a8) (hC:aD w b C) (hq:q<8) (hS:Bs w v src) (h8:src.length<=16)
 (h:∀ w',aD w' b ⟨Oa C.m q src,C.told,C.count⟩->ZS b w w'->wpList ZO ops Q rest (a.put o.dst (goInt src.length)) w'):wpList ZO ops Q (o::rest) a w:=by
 obtain ⟨ao,c,rfl,J,K,L,t⟩:=hS;refine abL z d s 39 39 ho 5 Ul (by kernel_rfl) (ZX ⟨b,q*16,ZY⟩) ao 16 16 src.length c hd hs b (q*16) _ 329 hC.heap (src.map (λx=>Value.int .u8 ((x:Nat):Int))) ?_ ?_ ?_ ?_ b w (TW _ _) lR ?_
 . rw [T9];show src.length=min src.length 16;omega
 . intro l;rw [T9] at l;obtain ⟨I,off,rfl,D⟩:=t (by intro e;rw [e] at l;simp at l);refine ⟨rfl,_,rfl,λj u k=>?_⟩;have g:j<src.length:=by
    obtain ⟨q,_⟩:=Va.1 k;simpa using q
   rw [Vr,D j g];simp [g] at k;simp [g,k]
 . simp;omega
 . intro u E;obtain ⟨x,_,rfl⟩:=T7.1 E;rfl
 . intro w' A y;have F:=A.out;rw [T9];refine h w' ⟨_,F,?_,λi r=>?_⟩ y
   . rw [UH,length_splice _ _ _ (by simp;omega)];simp
   . unfold splice;rw [Xm];have p:∀ x,x<130->((YE 130).map (nJ C))[x]?=ZX (nJ C x):=λx G=>by rw [UA,VP G];rfl
     have B:((YE 130).map (nJ C)).length=130:=(by rw [T9,UK]);by_cases H:i<q*16
     . rw [VD (by simp;omega),X6,TT H,p i r];congr 1;unfold nJ;rw [TT (by omega),TT (by omega)];show _=Value.int .u8 ((Oa C.m q src (i/16) (i%16):Nat):Int);unfold Oa;rw [TS (by omega)]
     . have n:(((YE 130).map (nJ C)).take (q*16)).length=q*16:=(by rw [Un,B];omega);rw [U6 (by rw [n];omega),n];by_cases M:i<q*16+src.length
       . rw [VD (by simp;omega)];have f:i-q*16<src.length:=(by omega);rw [UA,Ua f];simp only [WO];congr 1;unfold nJ;rw [TT (by omega)];show _=Value.int .u8 ((Oa C.m q src (i/16) (i%16):Nat):Int);unfold Oa;rw [TT (by omega),show i%16=i-q*16 by omega,T6,Ua f];rfl
       . rw [U6 (by simp;omega)];simp only [T9];rw [Wd,show q*16+src.length+(i-q*16-src.length)=i by omega,p i r];congr 1;unfold nJ;by_cases f:i<128
         . rw [TT f,TT f];show _=Value.int .u8 ((Oa C.m q src (i/16) (i%16):Nat):Int);unfold Oa;rw [TS (by omega)]
         . rw [TS f,TS f]
theorem ET (h:aD w b C) (q i v:Nat) (d:q<8) (c:i<16):aD (w.setCell ⟨b,q*16+i,ZY⟩ (Z7 .u8 (v:Int))) b ⟨λr j=>if r=q/\j=i then v else C.m r j,C.told,C.count⟩:=
 (h.set (q*16+i) (Z7 .u8 (v:Int))).congr (λx f=>by
  unfold nJ;by_cases e:x=q*16+i
  . rw [TT e,TT (by omega)];show _=Value.int .u8 ((if x/16=q/\x%16=i then v else _:Nat):Int);rw [TT (by omega)]
  . rw [TS e];by_cases a:x<128
    . rw [TT a,TT a];show _=Value.int .u8 ((if x/16=q/\x%16=i then v else C.m (x/16) (x%16):Nat):Int);rw [TS (by omega)]
    . rw [TS a,TS a])
def mf (M:List a8) (i j:Nat):Nat:=(M.getD i []).getD j 0
theorem LD (M:Nat->Nat->Nat) (D:Nat):jY M D 0=dO:=by
 unfold jY dO;congr 1
theorem LF (M:List a8) (D k:Nat) (hl:(M.getD (D+k) []).length=D) :
 (⟨λr j=>if r=k/\j=D+k then 1 else Oa (jY (mf M) D k).m k (M.getD (D+k) []) r j,0,k+1⟩:Ck)=jY (mf M) D (k+1):=by
 unfold jY;congr 1;funext r j;show (if r=k/\j=D+k then 1 else (if r=k/\j<(M.getD (D+k) []).length then (M.getD (D+k) []).getD j 0 else (if r<k then (if j<D then mf M (D+r) j else if j=D+r then 1 else 0) else 0)))=(if r<k+1 then (if j<D then mf M (D+r) j else if j=D+r then 1 else 0) else 0);rw [hl];by_cases e:r=k
 . subst e;by_cases a:j=D+r
   . simp [a];intro h;omega
   . by_cases b:j<D
     . simp [a,b,mf]
     . simp [a,b]
 . by_cases a:r<k
   . simp [e,a,show r<k+1 by omega]
   . simp [e,a,show ¬ r<k+1 by omega]
def CoR (w:ZU) (M:List a8) (D:Nat) (i:ZT) (wr:ZU):Prop:=
 ∃ k:Nat,D+k<=M.length/\i=Z7 Z9 (k:Int)/\aD wr (w.heap.size+1) (jY (mf M) D k)/\aD wr w.heap.size dO/\bW w wr
theorem zY (b off c:Nat) (M:List a8) (D:Nat) (w:ZU) (k0:M.length<=c) (L:∀ i (hi:i<M.length),∃ u,w.cell? ⟨b,off+i,ZY⟩=ZX u/\Bs w u M[i]) (hD:1<=D) (k9:D<M.length) (k8:M.length<=16) (hP:M.length<=D+8) (F:∀ i,i<M.length->(M.getD i []).length=D) :
 ZR ZO 212 #[Z5 (ZX ⟨b,off,ZY⟩) M.length c,Z7 Z9 D] w λe w'=>e=Z3 (.agg (aV (jY (mf M) D (M.length-D))))/\bW w w':=by
 have hz:=zeroCk;have ka:(D:Int)<=(M.length:Int):=by omega
 have hy:¬ c<=D:=by omega
 have N:=ak L;have E:=ak F;clear L F;have K:CoR w M D (Z7 Z9 (0:Nat)) ((w.alloc (Z4 (aV dO) 329)).alloc (Z4 (aV dO) 329)):=by
  refine ⟨0,by omega,rfl,?_,(aD.new w dO).keep (Wc _ _ _ (by simp)),(bA _ _).alloc (by simp) _⟩;rw [LD];have h:=aD.new (w.alloc (Z4 (aV dO) 329)) dO;rw [Uq] at h;exact h
 have G:=ak K;clear K;go_enter func212,ntmps212;go_wp2;clear hz;go_loopw [12] (λi wr=>CoR w M D i wr) (λi _=>(M.length-D)-(intOf i).toNat)
 case atStart=>exact G.out
 case round=>
  clear G;rename ZU=>wo;obtain ⟨k,hk,rfl,A,B,f⟩:=hrel;by_cases y:D+k<M.length
  . have k5:(k:Int)<((M.length-D:Nat):Int):=(by omega);obtain ⟨u,C,J⟩:=N.o (D+k) y;have kf:wo.cell? ⟨b,off+D+k,ZY⟩=ZX u:=(by rw [Vx,f.cell (Ub C)];exact C);have H:=J.mono f;have n:=E.o (D+k) y;have s:M.getD (D+k) []=M[D+k]:=(by simp [y]);rw [s] at n;have z:=LF M D k (by rw [s];exact n);rw [s] at z;have ke:=λw'=>pY w' (w.heap.size+1) (k*16);have kc:(k:Int)<8:=(by omega);have kb:(D:Int)+(k:Int)<16:=(by omega);have kh:wrap64 ((D:Int)+(k:Int))=((D+k:Nat):Int):=(by unfold wrap64;omega);have k7:IntKind.i64.wrap ((D:Int)+(k:Int))=((D+k:Nat):Int):=(by rw [UB];omega);have kg:wrap64 ((k:Int)+1)=((k+1:Nat):Int):=(by unfold wrap64;omega);have k6:IntKind.i64.wrap ((k:Int)+1)=((k+1:Nat):Int):=(by rw [UB];omega);have V:=ak z;have g:=ak H;have x:=ak A;have l:=ak B;have S:=ak f;have W:=ak n;clear z H A B f J C E s n;generalize M[D+k]=row at *;go_wp2_with (refine Cs rfl (Z0 20) (Z0 21) rfl (w.heap.size+1) k _ rfl rfl _ row x.out (by omega) g.o (by have:=W.out;omega) ?_;intro w2 a d;have c1:=a.at k (D+k) (by omega) (by omega);have f1:=a.frozen (k*16+(D+k));have O:(w2.setCell ⟨w.heap.size+1,k*16+(D+k),ZY⟩ (Z7 .u8 1)).cell? ⟨w.heap.size+1,129,ZY⟩=ZX (Z7 Z9 (k:Int)):=(ET a k (D+k) 1 (by omega) (by omega)).Sl;have Q:(w2.setCell ⟨w.heap.size+1,k*16+(D+k),ZY⟩ (Z7 .u8 1)).frozen? ⟨w.heap.size+1,129,ZY⟩=ZV:=(ET a k (D+k) 1 (by omega) (by omega)).frozen 129;have T:=ak a;have R:=ak d;clear a d);have a:=T.out;have d:=R.out;have Y:=ET a k (D+k) 1 (by omega) (by omega);have Z:=xX Y (k+1);have hv:=l.o.keep (d.block w.heap.size (by omega));have P:(⟨(⟨λr j=>if r=k/\j=D+k then 1 else Oa (jY (mf M) D k).m k row r j,(jY (mf M) D k).told,(jY (mf M) D k).count⟩:Ck).m,(jY (mf M) D k).told,k+1⟩:Ck)=jY (mf M) D (k+1):=V.out;have hs:aD ((w2.setCell ⟨w.heap.size+1,k*16+(D+k),ZY⟩ (Z7 .u8 1)).setCell ⟨w.heap.size+1,129,ZY⟩ (Z7 Z9 ((k+1:Nat):Int))) (w.heap.size+1) (jY (mf M) D (k+1)):=(by rw [<- P];exact Z);have hx:aD ((w2.setCell ⟨w.heap.size+1,k*16+(D+k),ZY⟩ (Z7 .u8 1)).setCell ⟨w.heap.size+1,129,ZY⟩ (Z7 Z9 ((k+1:Nat):Int))) w.heap.size dO:=
     hv.keep ((Wk _ _ _ _ (by show w.heap.size≠w.heap.size+1;omega)).trans (Wk _ _ _ _ (by show w.heap.size≠w.heap.size+1;omega)))
    have X:bW w ((w2.setCell ⟨w.heap.size+1,k*16+(D+k),ZY⟩ (Z7 .u8 1)).setCell ⟨w.heap.size+1,129,ZY⟩ (Z7 Z9 ((k+1:Nat):Int))):=
     ((S.out.trans (d.mono (by omega))).setCell (p:=⟨w.heap.size+1,k*16+(D+k),ZY⟩) (by show w.heap.size<=w.heap.size+1;omega) _).setCell (p:=⟨w.heap.size+1,129,ZY⟩) (by show w.heap.size<=w.heap.size+1;omega) _
    have t:=aE hs hx X;go_roundw
    case rel=>exact ⟨k+1,by omega,by go_num,t.o.1,t.o.2.1,t.o.2.2⟩
    case measure=>simp [intOf];omega
  . have k5:¬ (k:Int)<((M.length-D:Nat):Int):=(by omega);have I:M.length-D=k:=(by omega);have U:=ak I;have g:=ak f;have x:=ak A;have l:=ak B;clear I;go_wp2_with (first
     | refine abl rfl 329 (Z0 5) rfl (w.heap.size+1) rfl 329 (aV (jY (mf M) D k)) (0,0) _ x.out.heap XQ rfl (dV _) ?_
     | refine Wv rfl 329 (Z0 4) (Z0 35) rfl w.heap.size (aV (jY (mf M) D k)) rfl rfl 329 (aV dO) l.o.heap (dV _) (by rw [b8,b8]) (mx _) ?_)
    refine Ur (v:=.agg (aV (jY (mf M) D k))) (V4 results212 _ _ w.heap.size 329 (aV (jY (mf M) D k)) (0,0) _ rfl (l.o.setRow (jY (mf M) D k)).heap XQ rfl (dV _)) rfl ?_;rw [U.out];exact ⟨rfl,g.o.grown (aM _ _ _) g.o.size (λq e=>by cases e;exact TV _)⟩
def aq (n lost:Nat):Nat:=lost &&& (2^n-1)
def bC (n lost:Nat):Nat:=(2^n-1) &&& (18446744073709551615-aq n lost)
def jJ (h:n<=16):2^n<=65536:=U8 (n:=2) (i:=n) (j:=16) (by decide) h
def yw (n lost i:Nat):(aq n lost).testBit i=(lost.testBit i&&decide (i<n)):=by unfold aq;rw [XG,WS]
def oN (lost:Nat) (h:n<=16):aq n lost<65536:=by
 have:=jJ h;have:aq n lost<=2^n-1:=Nat.and_le_right;have:0<2^n:=Vz n;omega
def Ct (lost:Nat) (h:n<=16):bC n lost<65536:=by
 have:=jJ h;have:bC n lost<=2^n-1:=WW;have:0<2^n:=Vz n;omega
def qD (lost i:Nat) (h:n<=16):(bC n lost).testBit i=(decide (i<n) && !lost.testBit i):=by
 have:=oN lost h;unfold bC;rw [XG,WS,show 18446744073709551615-aq n lost=2^64-(aq n lost+1) by omega,X5 (by omega),yw];by_cases a:i<n
 . simp [a,show i<64 by omega]
 . simp [a]
theorem bO (h:n<=16):i∈ab (aq n lost)↔i<n/\lost.testBit i=ZW:=by
 rw [cW,yw];simp only [WU,Wt];constructor
 . rintro ⟨_,a,b⟩;exact ⟨b,a⟩
 . rintro ⟨a,b⟩;exact ⟨by omega,b,a⟩
theorem oO (h:n<=16):i∈ab (bC n lost)↔i<n/\lost.testBit i=ZV:=by
 rw [cW,qD lost i h];simp only [WU,Wt,Bool.not_eq_true'];constructor
 . rintro ⟨_,a,b⟩;exact ⟨a,b⟩
 . rintro ⟨a,b⟩;exact ⟨by omega,a,b⟩
def EU (s:Nat):(ab s).Nodup:=List.Pairwise.filter _ YJ
def LG {T:List (Nat×Nat×a8)} (h:ez w B v T) (d:cO T D M) (k:∀ r∈M,r.length=D) (m:M≠[]) :
 ∃ g c,v=Z5 (ZX ⟨g,0,ZY⟩) M.length c/\M.length<=c/\∀ i (b:i<M.length),∃ u,w.cell? ⟨g,0+i,ZY⟩=ZX u/\Bs w u M[i]:=by
 have f:T.length=M.length:=by simpa using Uy List.length d
 rcases h.own.2 with ⟨_,n⟩|⟨g,c,cur,rfl,_,_,o,_⟩
 . exact absurd (UX (by omega)) m
 . refine ⟨g,c,by rw [f],by omega,λi b=>?_⟩;have a:i<T.length:=(by omega);refine ⟨fP T[i],by rw [Ui];exact h.Sj a,?_⟩;have:=h.SZ a;have j:T[i].2=(D,M[i]):=by
    have:=Uy (λl=>l[i]?) d;simpa [a,b] using this
   rw [j] at this;have e:(M[i]).take D=M[i]:=(by rw [<- k _ (TY b),VE]);rw [e] at this;exact this
def Gr (D L G i:Nat) (a:i<D):(aR D L G).getD i []=dq D i:=by
 unfold aR;rw [Uz,T6,VD (by simpa using a)];simp [a]
def jK (D L G:Nat) (c:D<=12) (d:G<=4):Gf.Code (mf (aR D L G)) D (L+G):=by
 refine ⟨λi j=>?_,λi a j=>?_,λi j b=>?_⟩
 . unfold mf;by_cases a:i<(aR D L G).length
   . have e:(aR D L G).getD i []=(aR D L G)[i]:=(by simp [a]);rw [e];exact dw (oJ D L G c d _ (TY a)) j
   . have e:(aR D L G).getD i []=[]:=(by simp [a]);rw [e];simp
 . unfold mf;rw [Gr D L G i a];unfold dq;rw [T6,Xh];by_cases e:i=j
   . subst e;simp [a]
   . simp only [e,if_false];rw [TS (λh=>e h.symm)];by_cases b:j<D
     . simp [b]
     . simp [b]
 . unfold mf;by_cases a:i<(aR D L G).length
   . have e:(aR D L G).getD i []=(aR D L G)[i]:=(by simp [a]);have:=kL D L G _ (TY a);rw [e,T6,Vo (by omega)];rfl
   . have e:(aR D L G).getD i []=[]:=(by simp [a]);rw [e];simp
def jL (D L G:Nat):Ck:=jY (mf (aR D L G)) D (L+G)
def zZ (c:D<=12) (f:L<=4) (d:G<=4) {pre:a8} {C:Ck} (h:tells (jL D L G) pre=ZX C):eF C:=by
 rcases (jK D L G c d).told pre with ⟨C',a,b⟩|⟨a,_⟩
 . have e:tells (jL D L G) pre=ZX C':=a;rw [h] at e;obtain rfl:=UJ e;exact ⟨b.byt,b.le,by have:C.count=L+G:=b.count;omega⟩
 . have e:tells (jL D L G) pre=ZY:=a;rw [h] at e;cases e
def PB (W:ZU) (n0 Bg:Nat) (regs:Int) (L:List St):Prop:=
 Bg<n0/\n0<=W.heap.size/\∃ v,W.heap[Bg]?=ZX (Z4 #[Z7 Z9 regs,v] 214 (0,0))/\W.ownsRow n0 290 4 v L.length (eC .u8 L)
def Tryz.S8:(ZO.info? 290).map (λi=>(i.zero,i.size,i.bytes))=ZX (ZX (.agg #[Z7 .u8 0,Z7 Z9 0,Z7 Z9 0,Z7 .u8 0]),4,32):=by kernel_rfl
def z7 (t:o.guard=ZY) (x y:ZP) (ho:o.op=.call { callee:=.builtin .append,args:=#[x,y],argTypes:=#[212,212] })
 (n0 q:Nat) (L:List St) (s:St) (v:ZT) (hx:a.eval x=v) (hy:a.eval y=Z5 (ZX ⟨q,0,ZY⟩) 1 1) (h3:w.ownsRow n0 290 4 v L.length (eC .u8 L)) (hc:∀ j u,(HU .u8 s)[j]?=ZX u->w.cell? ((⟨q,0,ZY⟩:Addr).add j)=ZX u) (h6:n0<=w.heap.size) (hL:L.length<=100000)
 (hK:∀ c b w2,n0<=c->w2.ownsRow n0 290 4 (Z5 (ZX ⟨c,0,ZY⟩) (L.length+1) b) (L.length+1) (eC .u8 (L++[s]))->w.grownBy w2 v.ownBlock->wpListIn F n ZO ops Q rest (a.put o.dst (Z5 (ZX ⟨c,0,ZY⟩) (L.length+1) b)) w2):wpListIn F n ZO ops Q (o::rest) a w:=by
 obtain ⟨A,k,l,m,p⟩:=Us Tryz.S8;refine wpListIn_append_own w t x y 212 ho n0 290 A (.agg #[Z7 .u8 0,Z7 Z9 0,Z7 Z9 0,Z7 .u8 0]) 4 32 underlying212 k l m p rfl (by decide) v L.length (eC .u8 L) hx h3 ⟨q,0,ZY⟩ 1 1 (HU .u8 s) hy (by simp [HU]) hc (λu f=>by simp [HU] at f;rcases f with rfl|rfl|rfl|rfl<;>rfl) (by unfold maxLen;omega) (by omega) h6 ?_;intro B w2 d h _;obtain ⟨c,b,rfl,i⟩:∃ c b,B=Z5 (ZX ⟨c,0,ZY⟩) (L.length+1) b/\n0<=c:=by
  rcases d.2 with ⟨_,C⟩|⟨g,cap,cur,z,r,_⟩
  . omega
  . exact ⟨g,cap,z,r⟩
 have e:eC .u8 L++HU .u8 s=eC .u8 (L++[s]):=by rw [rk];simp [eC]
 rw [e] at d;exact hK c b w2 i d h
def jM {xs:List ZT} (h:w.ownsRow n0 t 4 v k xs) {q:Nat} (e:v.ownBlock=ZX q):n0<=q:=(h.lt q e).1
def PB.next {g' cap':Nat} {L:List St} {s:St} {ob:Obj} (h:Bg<n0) (x:n0<=W.heap.size) (n:W.heap[Bg]?=ZX (Z4 #[Z7 Z9 regs,v] 214 (0,0))) (f:W.ownsRow n0 290 4 v L.length (eC .u8 L))
 (a:(W.alloc ob).grownBy w2 v.ownBlock) (u:n0<=g') (m:w2.ownsRow n0 290 4 (Z5 (ZX ⟨g',0,ZY⟩) (L.length+1) cap') (L.length+1) (eC .u8 (L++[s]))) :
 PB (w2.setCell ⟨Bg,1,ZY⟩ (Z5 (ZX ⟨g',0,ZY⟩) (L.length+1) cap')) n0 Bg regs (L++[s])/\w2.cell? ⟨Bg,1,ZY⟩=ZX v/\w2.frozen? ⟨Bg,1,ZY⟩=ZV /\
  (∀ k,k<n0->k≠Bg->(w2.setCell ⟨Bg,1,ZY⟩ (Z5 (ZX ⟨g',0,ZY⟩) (L.length+1) cap')).heap[k]?=W.heap[k]?)/\KeepsOthers W (w2.setCell ⟨Bg,1,ZY⟩ (Z5 (ZX ⟨g',0,ZY⟩) (L.length+1) cap')) /\
  (w2.setCell ⟨Bg,1,ZY⟩ (Z5 (ZX ⟨g',0,ZY⟩) (L.length+1) cap')).os=W.os/\(w2.setCell ⟨Bg,1,ZY⟩ (Z5 (ZX ⟨g',0,ZY⟩) (L.length+1) cap')).tape=W.tape/\(w2.setCell ⟨Bg,1,ZY⟩ (Z5 (ZX ⟨g',0,ZY⟩) (L.length+1) cap')).output=W.output:=by
 have hold:∀ k,k<n0->w2.heap[k]?=W.heap[k]?:=λk b=>(a.block k (by simp;omega) (λe=>by have:=jM f e.symm;omega)).trans (oB W _ k (by omega));have d:=(hold Bg h).trans n;obtain ⟨_,c1,l,_⟩:=aw d;have w:W.heap.size<=w2.heap.size:=by have:=a.size;simp at this;omega
 have p:(w2.setCell ⟨Bg,1,ZY⟩ (Z5 (ZX ⟨g',0,ZY⟩) (L.length+1) cap')).heap[Bg]?=ZX (Z4 #[Z7 Z9 regs,Z5 (ZX ⟨g',0,ZY⟩) (L.length+1) cap'] 214 (0,0)):=by
  obtain ⟨r,b⟩:=TX.1 d;show (w2.heap.modify Bg _)[Bg]?=_;rw [VM (by rw [abA];exact r),ab3,b];rfl
 refine ⟨⟨h,by simp [World.setCell];omega,_,p,?_⟩,c1,l,λk b t=>(Wk _ _ _ _ t).trans (hold k b),?_,a.os,a.tape,a.output⟩
 . have:=m.kept (dz w2 Bg 1 (Z5 (ZX ⟨g',0,ZY⟩) (L.length+1) cap')) (.inr (by simp [Value.ownBlock];omega));simpa using this
 . refine ((KeepsOthers.alloc W ob).trans (ab1 a λj o c i=>?_)).trans (V5 _ _ _);rcases (f.alloc ob).2 with ⟨rfl,_⟩|⟨g,cap,cur,rfl,_,q,_⟩
   . simp [Value.ownBlock] at c
   . obtain rfl:g=j:=(by simpa [Value.ownBlock] using c);rw [q] at i;cases i;rfl
theorem PB.own {L:List St} (h:PB X n0 Bg regs L) (m:n0<=B) (a:X.grownBy Y row) (c:∀ r,row=ZX r->B<=r/\∃ o:Obj,X.heap[r]?=ZX o/\o.isCells=ZV):PB Y n0 Bg regs L:=by
 obtain ⟨i,j,v,k,b⟩:=h;refine ⟨i,TU j a.size,v,(a.block Bg (by omega) (λe=>by have:=(c Bg e.symm).1;omega)).trans k,b.kept a ?_⟩;rcases b.2 with ⟨rfl,_⟩|⟨g,cap,cur,rfl,_,f,_⟩
 . exact .inl rfl
 . refine .inr λd=>?_;obtain ⟨_,o,ho,l⟩:=c g (by simpa [Value.ownBlock] using d.symm);rw [f] at ho;cases ho;cases l
def lU (C:Ck) (i:Nat):List St:=if cH C i=ZW then ⟨0,0,i,0⟩::((YE C.told).filter (λr=>decide (C.m r i≠0))).map (λr:Nat=>(⟨1,1+(r:Int),0,C.m r i⟩:St)) else []
def wrTo (C:Ck) (pre:a8):List St:=(pre.map (lU C)).flatten
def yA (C:Ck) (pre:a8) (i:Nat):wrTo C (pre++[i])=wrTo C pre++lU C i:=by unfold wrTo;simp
def gG (C:Ck) (i k:Nat):List St:=((YE k).filter (λr=>decide (C.m r i≠0))).map (λr:Nat=>(⟨1,1+(r:Int),0,C.m r i⟩:St))
def uo (C:Ck) (i:Nat):gG C i 0=[]:=rfl
def Cu (C:Ck) (i k:Nat) (h:C.m k i≠0):gG C i (k+1)=gG C i k++[⟨1,1+(k:Int),0,C.m k i⟩]:=by unfold gG;rw [Vy];simp [h]
def yB (C:Ck) (i k:Nat) (h:C.m k i=0):gG C i (k+1)=gG C i k:=by unfold gG;rw [Vy];simp [h]
def Cv (C:Ck) (i k:Nat):(gG C i k).length<=k:=by
 unfold gG;rw [T9];exact TU (WL _ _) (by simp)
def ir (h:cH C i=ZW):lU C i=⟨0,0,i,0⟩::gG C i C.told:=by unfold lU gG;rw [TT h]
def lV (h:cH C i=ZV):lU C i=[]:=by unfold lU;simp [h]
def LH (C:Ck) (i:Nat):(lU C i).length<=C.told+1:=by
 cases h:cH C i
 . rw [lV h];simp
 . rw [ir h];have:=Cv C i C.told;simp;omega
theorem sE (C:Ck):∀ pre:a8,(wrTo C pre).length<=pre.length*(C.told+1)
 | []=>by simp [wrTo]
 | i::pre=>by
  have:=sE C pre;have:=LH C i;have e:wrTo C (i::pre)=lU C i++wrTo C pre:=by unfold wrTo;simp
  rw [e,T8,UD,WZ];omega
def fF (pre:a8):List St:=(YE pre.length).map (λk:Nat=>(⟨2,(k:Int)+1,((pre.getD k 0:Nat):Int),0⟩:St))
theorem EV (pre:a8) (i:Nat):fF (pre++[i])=fF pre++[⟨2,(pre.length:Int)+1,i,0⟩]:=by
 unfold fF;rw [T8,ab0,Vy,Uv];congr 1
 . apply Wp;intro k a;have:=Uu.1 a;simp [this,VD]
 . simp
def fO (C:Ck) (gone kept:Nat):List St:=wrTo C (ab kept)++fF (ab gone)
def EX {B:Ck} {s:St} (h:s∈fO B gone kept):(∃ i∈ab kept,s=⟨0,0,(i:Int),0⟩)\/(∃ i∈ab kept,∃ r,r<B.told/\s=⟨1,1+(r:Int),0,B.m r i⟩)\/(∃ k,∃ d:k<(ab gone).length,s=⟨2,(k:Int)+1,((ab gone)[k]:Int),0⟩):=by
 unfold fO wrTo at h;rcases Uj.1 h with h|h
 . obtain ⟨l,hl,a⟩:=YK.1 h;obtain ⟨i,c,rfl⟩:=T7.1 hl;cases hr:cH B i
   . rw [lV hr] at a;cases a
   . rw [ir hr] at a;rcases Uw.1 a with rfl|a
     . exact .inl ⟨i,c,rfl⟩
     . unfold gG at a;obtain ⟨r,e,rfl⟩:=T7.1 a;exact .inr (.inl ⟨i,c,r,Uu.1 (Vt.1 e).1,rfl⟩)
 . unfold fF at h;obtain ⟨k,d,rfl⟩:=T7.1 h;have b:=Uu.1 d;exact .inr (.inr ⟨k,b,by simp [b]⟩)
def QQ {B:Ck} (gone kept:Nat) (e:B.told<=8):(fO B gone kept).length<=160:=by
 have:=sE B (ab kept);have a:∀ s,(ab s).length<=16:=λs=>TU (WL _ _) (by simp);have:(ab kept).length*(B.told+1)<=16*9:=Xg (a kept) (by omega);have:=a gone;unfold fO fF;simp only [T8,T9,UK];omega
def aaA {B:Ck} (h:B.told=(ab gone).length) (b:B.told<=8) (g:∀ i∈ab kept,i<n) (d:∀ i∈ab gone,i<n):iH (1+((ab gone).length:Int)) (fO B gone kept) (n:Int):=by
 have:=QQ gone kept b;refine ⟨⟨by omega,by omega,by omega⟩,λi f=>?_⟩;rcases EX (TY f) with ⟨j,a,e⟩|⟨j,a,r,l,e⟩|⟨k,c,e⟩
 . have:=g j a;rw [e];exact .inl ⟨.inl rfl,by show (0:Int)<=0;omega,by show (0:Int)<_;omega,by show (0:Int)<=(j:Int);omega,by show (j:Int)<_;omega⟩
 . rw [e];exact .inr ⟨rfl,by show (0:Int)<=1+(r:Int);omega,by show (1+(r:Int))<_;omega,by show (0:Int)<=0;omega,by show (0:Int)<_;omega,by show (1+(r:Int))≠0;omega⟩
 . have:=d _ (TY c);rw [e];exact .inl ⟨.inr rfl,by show (0:Int)<=(k:Int)+1;omega,by show ((k:Int)+1)<_;omega,by show (0:Int)<=((ab gone)[k]:Int);omega,by show ((ab gone)[k]:Int)<_;omega⟩
theorem Oc {α:Type} (L:List α) (f:α->a8) (v:Nat->Nat):nK (L.map f) 0 v↔∃ x∈L,v=dG (f x):=by
 unfold nK;constructor
 . rintro ⟨i,a,_,rfl⟩;have b:i<L.length:=(by simpa using a);exact ⟨L[i],TY b,by simp⟩
 . rintro ⟨x,c,rfl⟩;obtain ⟨i,a,rfl⟩:=UT c;exact ⟨i,by simpa using a,T5 _,by simp⟩
def Gs (x i:Nat):x/2^i%2=0↔x.testBit i=ZV:=by
 rw [WV];simp
theorem Cw (M:List a8) (lost n:Nat) (h:n<=16):nK (dg M lost n) 0=J3 (mf M) n (λi=>i∉ab (aq n lost)):=by
 funext v;apply propext;unfold dg;rw [Oc];unfold J3;constructor
 . rintro ⟨i,a,rfl⟩;obtain ⟨c,d⟩:=Vt.1 a;refine ⟨i,Uu.1 c,λb=>?_,rfl⟩;have:=(bO h).1 b;rw [(Gs lost i).1 (Wy d)] at this;exact absurd this.2 (by decide)
 . rintro ⟨i,a,b,rfl⟩;refine ⟨i,Vt.2 ⟨Uu.2 a,UZ ((Gs lost i).2 ?_)⟩,rfl⟩;cases hb:lost.testBit i
   . rfl
   . exact absurd ((bO h).2 ⟨a,hb⟩) b
theorem EY (g:D<=12) (k:G<=4) (h:D+L+G<=16):iT D L G lost↔∃ C,tells (jL D L G) (ab (aq (D+L+G) lost))=ZX C:=by
 have a:=jK D L G g k;have e:D+(L+G)=D+L+G:=by omega
 unfold iT;rw [Cw _ _ _ h];constructor
 . intro j;rcases a.told (ab (aq (D+L+G) lost)) with ⟨C,b,_⟩|⟨_,c⟩
   . exact ⟨C,b⟩
   . refine absurd ?_ (a.To (EU _) (λi l=>by rw [e];exact ((bO h).1 l).1) c);rw [e];exact j
 . rintro ⟨C,f⟩;rcases a.told (ab (aq (D+L+G) lost)) with ⟨C',_,c⟩|⟨b,_⟩
   . have:=a.full c;rw [e] at this;exact this
   . have d:tells (jL D L G) (ab (aq (D+L+G) lost))=ZY:=b;rw [f] at d;cases d
def oP (f:D<=12) (g:G<=4) {C:Ck} (d:tells (jL D L G) (ab (aq (D+L+G) lost))=ZX C) :
 G3 (mf (aR D L G)) D (L+G) (ab (aq (D+L+G) lost)) (aP 8 C (bC (D+L+G) lost)).1/\fa (jY (mf (aR D L G)) D (L+G)) (vV (mf (aR D L G)) D (D+(L+G))) (ab (aq (D+L+G) lost)) C:=by
 have e:=jK D L G f g;rcases e.told (ab (aq (D+L+G) lost)) with ⟨C',b,c⟩|⟨b,_⟩
 . have a:tells (jL D L G) (ab (aq (D+L+G) lost))=ZX C':=b;rw [d] at a;obtain rfl:=UJ a;exact ⟨e.SC c (zj 8 C _).1,c⟩
 . have a:tells (jL D L G) (ab (aq (D+L+G) lost))=ZY:=b;rw [d] at a;cases a
def bX (D L G lost:Nat) (C:Ck):List St:=fO (aP 8 C (bC (D+L+G) lost)).1 (aq (D+L+G) lost) (bC (D+L+G) lost)
section
def ln (D:List a8) (R:List a8) (P:List St):List a8:=P.foldl (λR s=>dM D s R) R
def ur (D R:List a8):ln D R []=R:=rfl
def IG (D R:List a8) (s:St) (P:List St):ln D R (s::P)=ln D (dM D s R) P:=rfl
def lW (D R:List a8) (P Q:List St):ln D R (P++Q)=ln D (ln D R P) Q:=by unfold ln;rw [Wq]
def uv (P:List St) (D a:List a8):∀ k,k<=P.length->bT P D a k=ln D a (P.take k)
 | 0,_=>by simp [bT,ln]
 | k+1,h=>by
  have b:k<P.length:=by omega
  show dM D (bI P k) (bT P D a k)=_;rw [uv P D a k (by omega),dR P k b,Yw b,lW];rfl
def uw (P:List St) (D a:List a8):∀ k,k<=P.length->(∀ i (h:i<P.length),i<k->P[i].k≠2)->dB P D a k=[]
 | 0,_,_=>rfl
 | k+1,h,hn=>by
  have b:k<P.length:=by omega
  show ia (bI P k) _ _=[];rw [uw P D a k (by omega) (λi c d=>hn i c (by omega)),dR P k b];unfold ia;rw [TS (hn k b (by omega))]
def Cx (D R:List a8) {s:St} (h:s.k=2):dM D s R=R:=by
 unfold dM;rw [TS (by omega),TS (by omega)]
def ux (A Q:List St) (D c:List a8) (g:∀ s∈A,s.k≠2) (j:∀ s∈Q,s.k=2):∀ k,k<=Q.length ->
 bT (A++Q) D c (A.length+k)=ln D c A/\dB (A++Q) D c (A.length+k)=(Q.take k).map (λs=>(s.b,(ln D c A).getD s.a.toNat []))
 | 0,_=>by
  refine ⟨?_,?_⟩
  . rw [VR,uv _ _ _ _ (by simp)];simp
  . rw [VR,uw _ _ _ _ (by simp) (λi l d=>by rw [XV d];exact g _ (TY d))];simp
 | k+1,h=>by
  obtain ⟨e,o⟩:=ux A Q D c g j k (by omega);have m:k<Q.length:=by omega
  have l:A.length+k<(A++Q).length:=by simp;omega
  have n:bI (A++Q) (A.length+k)=Q[k]:=by rw [dR _ _ l,XU (by omega)];simp
  have f:=j _ (TY m);refine ⟨?_,?_⟩
  . show dM D (bI (A++Q) (A.length+k)) (bT (A++Q) D c (A.length+k))=_;rw [n,e,Cx D _ f]
  . show ia (bI (A++Q) (A.length+k)) (bT (A++Q) D c (A.length+k)) (dB (A++Q) D c (A.length+k))=_;rw [n,e,o];unfold ia;rw [TT f,Yw m,Uv];rfl
def xl (f:Nat->Nat) (K:a8):Nat:=K.foldr (λi a=>f i^^^a) 0
def LI (f:Nat->Nat):xl f []=0:=rfl
def z8 (f:Nat->Nat) (i:Nat) (K:a8):xl f (i::K)=f i^^^xl f K:=rfl
theorem Cy (f:Nat->Nat) (p:Nat->Bool):∀ n,xl f ((YE n).filter p)=xs (λi=>if p i=ZW then f i else 0) n
 | 0=>rfl
 | n+1=>by
  have b:∀ A B:a8,xl f (A++B)=xl f A^^^xl f B:=by
   intro A B;induction A with
   | nil=>rw [Uo,LI,VT]
   | cons a A ih=>rw [UU,z8,z8,ih,U3]
  rw [Vy,Wr,b,Cy f p n];show _=xs _ n^^^(if p n=ZW then f n else 0);congr 1;by_cases h:p n=ZW
  . rw [TT h];simp [h,xl]
  . rw [TS h];simp [h,xl]
structure Rg (R:List a8) (T m:Nat) (v:Nat->Nat->Nat):Prop where
 len:R.length=1+T
 row:∀ r,r<T->R.getD (1+r) []=(YE m).map (v r)
def oQ {a:Nat} {x:a8} (c:a<R.length):(R.set a x).getD b []=if a=b then x else R.getD b []:=by
 rw [T6,Xh];by_cases e:a=b
 . subst e;simp [c]
 . simp [e]
theorem EZ (m:Nat) (v:Nat->Nat) (y:a8) (c:Nat):iI ((YE m).map v) y c=(YE m).map (λq=>v q^^^gm c (y.getD q 0)):=by
 unfold iI;rw [T9,UK];apply Wp;intro q a;have:=Uu.1 a;simp [this]
theorem Cz (B:Ck) (D:List a8) (i T m:Nat) (y:a8) (v:Nat->Nat->Nat) {R:List a8} (h:Rg R T m v) (j:R.getD 0 []=y):∀ k,k<=T ->
 (ln D R (gG B i k)).getD 0 []=y/\Rg (ln D R (gG B i k)) T m (λr q=>if r<k then v r q^^^gm (B.m r i) (y.getD q 0) else v r q)
 | 0,_=>by rw [uo,ur];exact ⟨j,h.len,λr d=>by rw [h.row r d];simp⟩
 | k+1,hk=>by
  obtain ⟨f,a⟩:=Cz B D i T m y v h j k (by omega);by_cases g:B.m k i=0
  . rw [yB B i k g];refine ⟨f,a.len,λr d=>?_⟩;rw [a.row r d];apply Wp;intro q _;by_cases c:r<k
    . rw [TT c,TT (by omega)]
    . by_cases e:r=k
      . subst e;rw [TS c,TT (by omega),g,bK,U4]
      . rw [TS c,TS (by omega)]
  . rw [Cu B i k g,lW];generalize h5:ln D R (gG B i k)=b at f a;have l:ln D b [⟨1,1+(k:Int),0,B.m k i⟩]=b.set (1+k) (iI (b.getD (1+k) []) (b.getD 0 []) (B.m k i)):=by
     show dM D ⟨1,1+(k:Int),0,B.m k i⟩ b=_;unfold dM;have e:(1+(k:Int)).toNat=1+k:=(by omega);simp only [e];rw [TS (by decide),TT trivial];rfl
    have hl:1+k<b.length:=(by rw [a.len];omega);rw [l];refine ⟨by rw [oQ hl,TS (by omega)];exact f,by rw [VY];exact a.len,λr d=>?_⟩;rw [oQ hl,f];by_cases e:r=k
    . subst e;rw [TT rfl,a.row r d,EZ];apply Wp;intro q _;rw [TS (by omega),TT (by omega)]
    . rw [TS (by omega),a.row r d];apply Wp;intro q _;by_cases c:r<k
      . rw [TT c,TT (by omega)]
      . rw [TS c,TS (by omega)]
theorem Od (B:Ck) (D:List a8) (i m:Nat) (v:Nat->Nat->Nat) {R:List a8} (a:Rg R B.told m v):Rg (ln D R (lU B i)) B.told m (λr q=>v r q^^^gm (B.m r i) ((D.getD i []).getD q 0)):=by
 cases hr:cH B i
 . rw [lV hr,ur];refine ⟨a.len,λr h=>?_⟩;rw [a.row r h];apply Wp;intro q _;rw [gV.1 hr r h,bK,U4]
 . rw [ir hr,IG];have b:0<R.length:=(by rw [a.len];omega);have e:dM D ⟨0,0,(i:Int),0⟩ R=R.set 0 (D.getD i []):=by
    unfold dM;rw [TT rfl];rfl
   rw [e];have d:Rg (R.set 0 (D.getD i [])) B.told m v:=⟨by rw [VY];exact a.len,λr h=>by rw [oQ b,TS (by omega)];exact a.row r h⟩;obtain ⟨_,c⟩:=Cz B D i B.told m (D.getD i []) v d (by rw [oQ b,TT rfl]) B.told lR;refine ⟨c.len,λr h=>?_⟩;rw [c.row r h];apply Wp;intro q _;rw [TT h]
theorem LJ (B:Ck) (D:List a8) (m:Nat):∀ (K:a8) (v:Nat->Nat->Nat) (R:List a8),Rg R B.told m v->Rg (ln D R (wrTo B K)) B.told m (λr q=>v r q^^^xl (λi=>gm (B.m r i) ((D.getD i []).getD q 0)) K)
 | [],v,R,h=>by
  rw [show wrTo B []=[] from rfl,ur];exact ⟨h.len,λr a=>by rw [h.row r a];simp [LI]⟩
 | i::K,v,R,h=>by
  have e:wrTo B (i::K)=lU B i++wrTo B K:=by unfold wrTo;simp
  rw [e,lW];have:=LJ B D m K _ _ (Od B D i m v h);refine ⟨this.len,λr a=>?_⟩;rw [this.row r a];apply Wp;intro q _;rw [z8,U3]
def LK (T m:Nat):Rg (eV (1+T) m) T m (λ_ _=>0):=by
 refine ⟨by simp [eV],λr a=>?_⟩;unfold eV;have:1+r<1+T:=by omega
 rw [T6,WC,TT this];simp [List.map_const']
def LL {P:List St} {D:List a8} (h:∀ s∈P,s.k=0->(D.getD s.b.toNat []).length=m):∀ k,k<=P.length->fl P D k=ZY\/fl P D k=ZX m
 | 0,_=>.inl rfl
 | k+1,hk=>by
  rcases LL h k (by omega) with e|e
  . by_cases a:(bI P k).k=0
    . rw [zG P D k e a];rw [dR P k (by omega)] at a ⊢;exact .inr (by rw [h _ (TY _) a])
    . rw [tE P D k a];exact .inl e
  . exact .inr (oD P D k m e)
def CA {P:List St} {D:List a8} (h:∀ s∈P,s.k=0->(D.getD s.b.toNat []).length=m) {k:Nat} (a:k<P.length) (c:P[k].k=0):fl P D (k+1)=ZX m:=by
 rcases LL h k (by omega) with e|e
 . rw [zG P D k e (by rw [dR P k a];exact c),dR P k a,h _ (TY a) c]
 . exact oD P D k m e
def JR (S:List a8) (lost:Nat):List a8:=(YE S.length).map (λi=>if lost.testBit i=ZW then [] else S.getD i [])
def z9 (S:List a8) (lost i:Nat) (a:i<S.length):(JR S lost).getD i []=if lost.testBit i=ZW then [] else S.getD i []:=by simp [JR,a]
def LM (row:a8) (Dt:List a8) (q:Nat):∀ t,NY row Dt t q=xs (λj=>gm (row.getD j 0) ((Dt.getD j []).getD q 0)) t
 | 0=>rfl
 | t+1=>by
  show NY row Dt t q^^^gm (row.getD t 0) ((Dt.getD t []).getD q 0)=xs (λj=>gm (row.getD j 0) ((Dt.getD j []).getD q 0)) t^^^gm (row.getD t 0) ((Dt.getD t []).getD q 0);rw [LM row Dt q t]
def QR (a:i<M.length) (j:Nat):mf M i j=(M[i]).getD j 0:=by unfold mf;simp [a]
theorem Aa (M Dt:List a8) (m i:Nat) (a:i<M.length):(fm M Dt m).getD i []=(YE m).map (λq=>xs (λj=>gm (mf M i j) ((Dt.getD j []).getD q 0)) Dt.length):=by
 have e:(fm M Dt m).getD i []=cK M[i] Dt m Dt.length:=by simp [fm,a]
 rw [e];unfold cK;apply Wp;intro q _;rw [LM];exact eO _ (λj _=>by rw [QR a])
def Ab (M Dt:List a8) (m:Nat):(fm M Dt m).length=M.length:=by simp [fm]
def oR:oC lost i↔lost.testBit i=ZW:=by
 unfold oC;rw [WV];simp
section
variable {D L G lost m:Nat} {C:Ck} {Dt:List a8}
def jN (c:D+L+G<=16) {s:St} (e:s∈bX D L G lost C) (a:s.k=0):∃ i:Nat,s.b=(i:Int)/\i<D+L+G/\lost.testBit i=ZV:=by
 rcases EX e with ⟨i,d,rfl⟩|⟨_,_,_,_,rfl⟩|⟨_,_,rfl⟩
 . exact ⟨i,rfl,(oO c).1 d⟩
 . exact absurd a (Nat.one_ne_zero)
 . exact absurd a (Nat.succ_ne_zero 1)
def Ac (c:D+L+G<=16):∀ s∈bX D L G lost C,s.k=0->((JR (fm (aR D L G) Dt m) lost).getD s.b.toNat []).length=m:=by
 intro s f a;obtain ⟨i,d,e,hl⟩:=jN c f a;have:(fm (aR D L G) Dt m).length=D+L+G:=by rw [Ab,cL]
 rw [d,VG,z9 _ _ _ (by omega),TS (by rw [hl];decide),Aa _ _ _ _ (by rw [cL];exact e)];simp
def Oe (c:D+L+G<=16) (h:m<=4096):gC (bX D L G lost C) (JR (fm (aR D L G) Dt m) lost) lost:=by
 intro i b a;rw [dR _ _ b] at a ⊢;have e:=Ac (m:=m) (Dt:=Dt) c _ (TY b) a;obtain ⟨j,f,g,hl⟩:=jN c (TY b) a;refine ⟨λd=>?_,by rw [e];exact CA (Ac c) b a,by omega⟩;rw [f,VG] at d;have:=oR.1 d;rw [hl] at this;cases this
theorem E0 (b:D+L+G<=16) (a:0<iz (ab (bC (D+L+G) lost)) (aP 8 C (bC (D+L+G) lost)).1):eE (bX D L G lost C) (JR (fm (aR D L G) Dt m) lost)=m:=by
 unfold iz at a;obtain ⟨i,g⟩:=List.exists_mem_of_length_pos a;obtain ⟨c,d⟩:=Vt.1 g;have j:(⟨0,0,(i:Int),0⟩:St)∈bX D L G lost C:=by
  unfold bX fO wrTo;refine UL _ (YK.2 ⟨lU _ i,T7.2 ⟨i,c,rfl⟩,?_⟩);rw [ir d];exact U7
 obtain ⟨k,h,e⟩:=UT j;have f:=CA (Ac (m:=m) (Dt:=Dt) b) h (by rw [e]);have:=Gc _ _ _ _ f (bX D L G lost C).length (by omega);unfold eE;rw [this];rfl
theorem Of (w:D<=12) (y:G<=4) (b:D+L+G<=16) (I:tells (jL D L G) (ab (aq (D+L+G) lost))=ZX C) (p:Dt.length=D) (U:∀ l∈Dt,∀ x∈l,x<256) :
 ∃ O,dB (bX D L G lost C) (JR (fm (aR D L G) Dt m) lost) (eV (1+(ab (aq (D+L+G) lost)).length) (eE (bX D L G lost C) (JR (fm (aR D L G) Dt m) lost))) (bX D L G lost C).length=O /\
  O.length=(ab (aq (D+L+G) lost)).length/\∀ k (S:k<O.length) (f:k<(ab (aq (D+L+G) lost)).length),O[k].1=(((ab (aq (D+L+G) lost))[k]:Nat):Int)/\(0<iz (ab (bC (D+L+G) lost)) (aP 8 C (bC (D+L+G) lost)).1->O[k].2=(fm (aR D L G) Dt m).getD (ab (aq (D+L+G) lost))[k] []):=by
 obtain ⟨o,_⟩:=oP w y I;have K:=jK D L G w y;have e:D+(L+G)=D+L+G:=by omega
 have J:(bX D L G lost C).length=(wrTo (aP 8 C (bC (D+L+G) lost)).1 (ab (bC (D+L+G) lost))).length+(fF (ab (aq (D+L+G) lost))).length:=by unfold bX fO;rw [T8]
 have N:(fF (ab (aq (D+L+G) lost))).length=(ab (aq (D+L+G) lost)).length:=by unfold fF;simp
 have R:=λz=>ux (wrTo (aP 8 C (bC (D+L+G) lost)).1 (ab (bC (D+L+G) lost))) (fF (ab (aq (D+L+G) lost))) (JR (fm (aR D L G) Dt m) lost) z (λs a=>by
  unfold wrTo at a;obtain ⟨l,hl,a⟩:=YK.1 a;obtain ⟨i,c,rfl⟩:=T7.1 hl;cases hr:cH (aP 8 C (bC (D+L+G) lost)).1 i
  . rw [lV hr] at a;cases a
  . rw [ir hr] at a;rcases Uw.1 a with rfl|a
    . exact (by decide:(0:Nat)≠2)
    . unfold gG at a;obtain ⟨r,_,rfl⟩:=T7.1 a;exact (by decide:(1:Nat)≠2)) (λs a=>by
  unfold fF at a;obtain ⟨k,_,rfl⟩:=T7.1 a;rfl) _ lR
 refine ⟨_,rfl,?_⟩;rw [J];have g:=(R (eV (1+(ab (aq (D+L+G) lost)).length) (eE (bX D L G lost C) (JR (fm (aR D L G) Dt m) lost)))).2;rw [VE] at g;rw [show bX D L G lost C=wrTo (aP 8 C (bC (D+L+G) lost)).1 (ab (bC (D+L+G) lost))++fF (ab (aq (D+L+G) lost)) from rfl] at g ⊢;rw [g];refine ⟨by simp [N],λk S f=>?_⟩;have:k<(fF (ab (aq (D+L+G) lost))).length:=by omega
 have H:(fF (ab (aq (D+L+G) lost)))[k]=⟨2,(k:Int)+1,(((ab (aq (D+L+G) lost))[k]:Nat):Int),0⟩:=by
  simp [fF,f]
 rw [UQ,H];refine ⟨rfl,λE=>?_⟩;have v:=E0 (m:=m) (Dt:=Dt) b E;rw [show bX D L G lost C=wrTo (aP 8 C (bC (D+L+G) lost)).1 (ab (bC (D+L+G) lost))++fF (ab (aq (D+L+G) lost)) from rfl] at v;rw [v];have Q:=LJ (aP 8 C (bC (D+L+G) lost)).1 (JR (fm (aR D L G) Dt m) lost) m (ab (bC (D+L+G) lost)) (λ_ _=>0) (eV (1+(ab (aq (D+L+G) lost)).length) m) (by rw [o.told];exact LK _ _);have F:=Q.row k (by rw [o.told];exact f);have B:((k:Int)+1).toNat=1+k:=by omega
 show (ln _ _ _).getD ((k:Int)+1).toNat []=_;rw [B,F,Aa _ _ _ _ (by rw [cL];exact ((bO b).1 (TY f)).1)];apply Wp;intro q T;have P:=Uu.1 T;have u:=o.sum K (λi c=>by rw [e];exact ((bO b).1 c).1) (λj=>(Dt.getD j []).getD q 0) (λj=>by
  show (Dt.getD j []).getD q 0<256;by_cases n:j<Dt.length
  . have A:Dt.getD j []=Dt[j]:=(by simp [n]);rw [A];exact dw (U _ (TY n)) q
  . simp [n]) k f
 rw [e] at u;rw [p,<- u,VT];rw [show ab (bC (D+L+G) lost)=(YE 16).filter (λi=>(bC (D+L+G) lost).testBit i) from rfl,Cy];obtain ⟨d,M⟩:=Nat.exists_eq_add_of_le b;rw [M,zk];have V:xs (λi=>if (bC (D+L+G) lost).testBit (D+L+G+i)=ZW then gm ((aP 8 C (bC (D+L+G) lost)).1.m k (D+L+G+i)) (((JR (fm (aR D L G) Dt m) lost).getD (D+L+G+i) []).getD q 0) else 0) d=0:=dX d (λi _=>by
  rw [TS];rw [qD _ _ b,show decide (D+L+G+i<D+L+G)=ZV from Vu (by omega)];simp)
 rw [V,U4];apply eO;intro i c;have:(fm (aR D L G) Dt m).length=D+L+G:=by rw [Ab,cL]
 rw [qD _ _ b];have t:i∈ab (aq (D+L+G) lost)↔lost.testBit i=ZW:=by
  rw [bO b];exact ⟨λh=>h.2,λh=>⟨c,h⟩⟩
 cases hb:lost.testBit i
 . rw [TT (show (decide (i<D+L+G) && !false)=ZW by simp [c]),TS (λh=>by rw [t,hb] at h;cases h),z9 _ _ _ (by omega),TS (by rw [hb];decide),Aa _ _ _ _ (by rw [cL];exact c),p];congr 1;simp [P]
 . rw [TS (show ¬ (decide (i<D+L+G) && !true)=ZW by simp),TT (t.2 hb)]
end
theorem CB (d:D<=12) (e:G<=4) (b:D+L+G<=16) (c:tells (jL D L G) (ab (aq (D+L+G) lost))=ZX C):∀ s∈bX D L G lost C,zE s:=by
 intro s k;have a:=(oP d e c).1;have:=a.le;have:=a.Sd;rcases EX k with ⟨i,g,rfl⟩|⟨i,_,r,o,rfl⟩|⟨j,h,rfl⟩
 . have:=((oO b).1 g).1;exact ⟨by show 0<256;decide,by show -9223372036854775808<=(0:Int);omega,by show (0:Int)<=9223372036854775807;omega,by show -9223372036854775808<=(i:Int);omega,by show (i:Int)<=9223372036854775807;omega,by show 0<256;decide⟩
 . exact ⟨by show 1<256;decide,by show -9223372036854775808<=(1:Int)+(r:Int);omega,by show (1:Int)+(r:Int)<=9223372036854775807;omega,by show -9223372036854775808<=(0:Int);omega,by show (0:Int)<=9223372036854775807;omega,a.byt r i⟩
 . have:(ab (aq (D+L+G) lost)).length<=16:=TU (WL _ _) (by simp);have f:=((bO b).1 (TY h)).1;generalize (ab (aq (D+L+G) lost))[j]=y at f;exact ⟨by show 2<256;decide,by show -9223372036854775808<=(j:Int)+1;omega,by show (j:Int)+1<=9223372036854775807;omega,by show -9223372036854775808<=(y:Int);omega,by show (y:Int)<=9223372036854775807;omega,by show 0<256;decide⟩
def LN (e:D<=12) (j:L<=4) (f:G<=4) (c:D+L+G<=16) (d:tells (jL D L G) (ab (aq (D+L+G) lost))=ZX C):iH (1+((ab (aq (D+L+G) lost)).length:Int)) (bX D L G lost C) ((D+L+G:Nat):Int):=by
 have b:=(oP e f d).1;have:=b.le;have:=b.Sd;exact aaA b.told (by omega) (λi a=>((oO c).1 a).1) (λi a=>((bO c).1 a).1)
end
def mfl (a:g<L) (j:Nat) (b:j<D):mf (aR D L G) (D+g) j=if g*(D/L)<=j/\j<(g+1)*(D/L) then 1 else 0:=by
 unfold mf aR;have e:((YE D).map (dq D)++(YE L).map (dy D L)++(YE G).map (dj D)).getD (D+g) []=dy D L g:=by
  rw [Uz,T6,U6 (by simp)];simp only [T9,UK,WN];rw [VD (by simpa using a)];simp [a]
 rw [e];unfold dy;simp [b]
def mfg (a:i<G) (j:Nat) (b:j<D):mf (aR D L G) (D+L+i) j=gi ((D+i)^^^j):=by
 unfold mf aR;have e:((YE D).map (dq D)++(YE L).map (dy D L)++(YE G).map (dj D)).getD (D+L+i) []=dj D i:=by
  rw [T6,U6 (by simp)];simp only [T8,T9,UK,WN];simp [a]
 rw [e];unfold dj;simp [b]
def QS (o:1<=D) (p:D<=12) (q:G<=4) (k:D%L=0) (r:d<D+L+G):∃ j,j<D/\mf (aR D L G) d j≠0:=by
 by_cases a:d<D
 . refine ⟨d,a,?_⟩;unfold mf;rw [Gr D L G d a];unfold dq;simp [a]
 . by_cases n:d<D+L
   . obtain ⟨g,rfl⟩:∃ g,d=D+g:=⟨d-D,by omega⟩;have h:g<L:=(by omega);have c:D/L*L=D:=Nat.div_mul_cancel (Nat.dvd_of_mod_eq_zero k);have m:0<D/L:=YM λe=>by rw [e] at c;omega
     have f:g*(D/L)<D:=by
      have b:=ab8 h m;rw [Wx L,c] at b;exact b
     refine ⟨g*(D/L),f,?_⟩;rw [mfl h _ f,TT ⟨TV _,by rw [XN];omega⟩];decide
   . obtain ⟨i,rfl⟩:∃ i,d=D+L+i:=⟨d-(D+L),by omega⟩;have l:i<G:=(by omega);refine ⟨0,by omega,?_⟩;rw [mfg l 0 (by omega),U4];exact aab (by omega) (by omega)
theorem Og (w:1<=D) (g:D<=12) (h:G<=4) (v:D%L=0) (b:D+L+G<=16) (B:tells (jL D L G) (ab (aq (D+L+G) lost))=ZX C) (p:d<D+L+G) (hl:lost.testBit d=ZW):0<iz (ab (bC (D+L+G) lost)) (aP 8 C (bC (D+L+G) lost)).1:=by
 apply YM;intro n;obtain ⟨t,_⟩:=oP g h B;have o:=jK D L G g h;have e:D+(L+G)=D+L+G:=by omega
 obtain ⟨k,r,y⟩:=UT ((bO b).2 ⟨p,hl⟩);obtain ⟨j,E,z⟩:=QS w g h v p;have A:∀ i,i∈ab (bC (D+L+G) lost)->cH (aP 8 C (bC (D+L+G) lost)).1 i=ZV:=λi a=>by
  cases hr:cH (aP 8 C (bC (D+L+G) lost)).1 i
  . rfl
  . unfold iz at n;have:=UX n;have s:i∈(ab (bC (D+L+G) lost)).filter (cH (aP 8 C (bC (D+L+G) lost)).1):=Vt.2 ⟨a,hr⟩;rw [this] at s;cases s
 have c:=t.sum o (λi a=>by rw [e];exact ((bO b).1 a).1) (λq=>if q=j then 1 else 0) (λq=>by show (if q=j then 1 else 0)<256;split<;>decide) k r;rw [e,y] at c;have H:=dX (f:=λi=>if i∈ab (aq (D+L+G) lost) then 0 else gm ((aP 8 C (bC (D+L+G) lost)).1.m k i) (xs (λq=>gm (mf (aR D L G) i q) (if q=j then 1 else 0)) D)) (D+L+G) (λi a=>by
  by_cases l:i∈ab (aq (D+L+G) lost)
  . rw [TT l]
  . have x:lost.testBit i=ZV:=by
     cases hb:lost.testBit i
     . rfl
     . exact absurd ((bO b).2 ⟨a,hb⟩) l
    have:=gV.1 (A i ((oO b).2 ⟨a,x⟩)) k (by rw [t.told];exact r);rw [TS l,this,bK])
 rw [H] at c;have u:=ji (f:=λq=>gm (mf (aR D L G) d q) (if q=j then 1 else 0)) (k:=j) D E (λq _ F=>by rw [TS F,bG]);rw [u,TT rfl,eA _ (o.byt d j)] at c;exact z c.symm
section
attribute [local go_sem] Oper.semAt_some
structure CF (w:ZU) (D L G:Nat) (X:ZU):Prop where
 par:X.heap[w.heap.size]?=ZX (Z4 #[Z7 Z9 (D:Int),Z7 Z9 (L:Int),Z7 Z9 (G:Int)] 27 (0,0))
 res:aD X (w.heap.size+1) dO
 err:Boxed X (w.heap.size+1+1) 63 .nilIface
 below:bW w X
def CF.mono (h:CF w D L G X) (a:ZS B X Y) (b:w.heap.size+3<=B):CF w D L G Y:=
 ⟨(a.block _ (by omega)).trans h.par,h.res.keep (a.block _ (by omega)),(a.block _ (by omega)).trans h.err,h.below.trans (a.mono (by omega))⟩
def CF.own (h:CF w D L G X) (c:w.heap.size+3<=B) (a:X.grownBy Y row) (b:∀ r,row=ZX r->B<=r):CF w D L G Y:=
 h.mono (B:=w.heap.size+3) ⟨a.os,a.tape,a.output,a.size,λk d=>a.block k (by have:=h.err.lt;omega) (λe=>by have:=b k e.symm;omega)⟩ lR
def ft {x y z:ZT} (h:X.heap[b]?=ZX (Z4 #[x,y,z] t (0,0))):X.cell? ⟨b,0,ZY⟩=ZX x/\X.cell? ⟨b,1,ZY⟩=ZX y/\X.cell? ⟨b,2,ZY⟩=ZX z:=by simp [World.cell?,h]
def QT (D L G S:Nat) (w:ZU) (e:Ending) (w':ZU):Prop:=
 bW w w'/\((tells (jL D L G) (ab S)=ZY/\e=Z3 (.tuple #[.agg (aV dO),.iface 66 (Z7 Z9 3)])) \/
  (∃ C,tells (jL D L G) (ab S)=ZX C/\e=Z3 (.tuple #[.agg (aV C),.nilIface])))
def E1 (pre:List Sh):a8:=pre.map (·.1)
def IH (pre:List Sh) (x:Sh):E1 (pre++[x])=E1 pre++[x.1]:=by unfold E1;simp
def CfI (w:ZU) (D L G Bc B:Nat) (pre:List Sh) (X:ZU):Prop:=CF w D L G X/\(∃ C,tells (jL D L G) (E1 pre)=ZX C/\aD X Bc C)/\B<=X.heap.size
def CfX (w:ZU) (D L G B:Nat) (c:Code) (pre:List Sh) (X:ZU):Prop:=c=.ret/\tells (jL D L G) (E1 pre)=ZY/\bW w X/\B<=X.heap.size /\
 aD X (w.heap.size+1) dO/\Boxed X (w.heap.size+1+1) 63 (.iface 66 (Z7 Z9 3))
def CfI.own {Bc:Nat} (h:w.heap.size+3<=B) (i:Bc<B):OwnFrom B (CfI w D L G Bc B):=by
 rintro pre X Y row ⟨d,⟨C,f,b⟩,g⟩ a c;exact ⟨d.own h a (λr e=>(c r e).1),⟨C,f,b.keep (a.block _ b.lt (λe=>by have:=(c _ e.symm).1;omega))⟩,TU g a.size⟩
def CfX.own (m:w.heap.size+3<=B) (c:Code):OwnFrom B (CfX w D L G B c):=by
 rintro pre X Y row ⟨g,h,d,i,j,l⟩ a f;have b:∀ k,k<w.heap.size+3->Y.heap[k]?=X.heap[k]?:=λk b=>a.block k (by omega) (λe=>by have:=(f k e.symm).1;omega);exact ⟨g,h,d.grown a d.size (λk e=>by have:=(f k e).1;omega),TU i a.size,j.keep (b _ (by omega)),(b _ (by omega)).trans l⟩
def rz (h:aD X b C) (cs:Array ZT):KeepsOthers X (X.setRow b cs):=
 ab1 (aM _ _ _) (λj o e ho=>by cases e;rw [h.heap] at ho;cases ho;rfl)
def E4 (h:aD w b C):(loadVar 329 ⟨b,0,ZY⟩).run ZO w=.ok (.agg (aV C)) w:=Xj w b 329 329 (aV C) (0,0) _ h.heap XQ rfl (dV C)
theorem LO {Z:ZU} {D':Nat} {ev:ZT} {R:Ending->ZU->Prop} (c:a.defers=[{ target:=.collected D',args:=#[] }]) (h4:a.tmps.getD 4 ZZ=Z6 (ZX ⟨w.heap.size+1,0,ZY⟩)) (h5:a.tmps.getD 5 ZZ=Z6 (ZX ⟨w.heap.size+1+1,0,ZY⟩))
 (h1:aD Z (w.heap.size+1) C) (h0:Boxed Z (w.heap.size+1+1) 63 ev) (hK:Z.heap[D']?=ZX (.deferred (ZX []))) (hD:w.heap.size+3<=D')
 (hR:R (Z3 (.tuple #[.agg (aV C),ev])) (Z.putObj D' (.deferred ZY))):bodyPostM Fence.wide n ZO Tryz.f204 R .ret a Z:=by
 obtain ⟨d,h⟩:=a;simp only at c h4 h5;subst c;refine ⟨by simp,.inl ⟨_,_,rfl,Wu hK,?_⟩⟩;have c0:=E4 (show aD (Z.putObj D' (.deferred ZY)) (w.heap.size+1) C from h1.keep (US (by omega)));have e:=(show Boxed (Z.putObj D' (.deferred ZY)) (w.heap.size+1+1) 63 ev from (US (by omega)).trans h0).cell;have b:(loadVar 63 ⟨w.heap.size+1+1,0,ZY⟩).run ZO (Z.putObj D' (.deferred ZY))=.ok ev (Z.putObj D' (.deferred ZY)):=by simp [go_sem,e]
 refine ⟨.tuple #[.agg (aV C),ev],?_,hR⟩;have f:d[4]?.getD ZZ=Z6 (ZX ⟨w.heap.size+1,0,ZY⟩):=by simpa using h4
 have g:d[5]?.getD ZZ=Z6 (ZX ⟨w.heap.size+1+1,0,ZY⟩):=by simpa using h5
 simp [results,results204,asAddr,f,g,c0,b]
theorem lg (D L G S:Nat) (hr:de D L G=ZW) (qb:1<=D) (hD:D<=12) (hL:1<=L) (k9:L<=4) (hG:G<=4) (hv:D%L=0) (qf:D+L+G<=16) (hS:S<65536) (w:ZU) (hT:aG w) (h2:3<=w.heap.size) :
 ZR ZO 204 #[.agg #[Z7 Z9 D,Z7 Z9 L,Z7 Z9 G],Z7 Z8 S] w λe w'=>QT D L G S w e w':=by
 obtain ⟨n,HN⟩:∃ n:Nat,cA (9<=n):=⟨9,TV _⟩;refine (Vc (n:=n)).1 ?_;refine Wf func204 rfl trivial ?_ rfl;simp only [ntmps204,UH,UD,UW,YH,YI,Vj,Vk,Vl,Vm,Uo,UU];have hz:=zeroCk;gi_wp2;refine cj (kA D L G hr hD hL k9 hG hv _) ?_;rintro e w1 ⟨v,T,rfl,ka,hH,F⟩;have Y:(((w.alloc (Z4 #[Z7 Z9 (D:Int),Z7 Z9 (L:Int),Z7 Z9 (G:Int)] 27)).alloc (Z4 (aV dO) 329)).alloc (Z4 #[.nilIface] 63)).heap.size=w.heap.size+3:=by simp
 have kg:CF w D L G (((w.alloc (Z4 #[Z7 Z9 (D:Int),Z7 Z9 (L:Int),Z7 Z9 (G:Int)] 27)).alloc (Z4 (aV dO) 329)).alloc (Z4 #[.nilIface] 63)):=by
  obtain ⟨a1,a2,a3,a4⟩:=KU w (Z4 #[Z7 Z9 (D:Int),Z7 Z9 (L:Int),Z7 Z9 (G:Int)] 27) (Z4 (aV dO) 329) (Z4 #[.nilIface] 63);exact ⟨a2,aD.of_heap a3,a4,((bA w _).alloc (by simp) _).alloc (by simp;omega) _⟩
 try change ZS _ _ _ at F
 rw [Y] at F;have Q:=kg.mono F lR;have M:=F.size;try change ZS _ _ _ at M
 rw [Y] at M;clear kg F Y;have hM:aR D L G≠[]:=λe=>by have:=cL D L G;rw [e] at this;simp at this;omega
 obtain ⟨g,c,rfl,hs,kf⟩:=LG ka hH (kL D L G) hM;obtain ⟨p0,p1,p2⟩:=ft Q.par;have kh:ZR ZO 212 #[Z5 (ZX ⟨g,0,ZY⟩) (aR D L G).length c,Z7 Z9 D] w1 λe w'=>e=Z3 (.agg (aV (jL D L G)))/\bW w1 w':=by
  have ha:=cL D L G;have h:=zY g 0 c (aR D L G) D w1 hs (λi a=>kf i a) qb (by omega) (by omega) (by omega) (λi a=>by
   have e:(aR D L G).getD i []=(aR D L G)[i]:=(by simp [a]);rw [e];exact kL D L G _ (TY a))
  try change ZS _ _ _ at h
  rw [show (aR D L G).length-D=L+G by omega] at h;exact h
 have k5:=ak Q;clear ka hH Q kf;gi_wp2;refine cj kh ?_;clear kh;rintro e b ⟨rfl,W⟩;have kp:=W.size;have h6:=k5.out.mono W (by omega);have kb:bW b ((b.alloc (Z4 (aV dO) 329)).setRow b.heap.size (aV (jL D L G))):=(bA _ _).grown (aM _ _ _) (by simp) (λk e=>by cases e;exact TV _);have kc:aD ((b.alloc (Z4 (aV dO) 329)).setRow b.heap.size (aV (jL D L G))) b.heap.size (jL D L G):=(aD.new b dO).setRow (jL D L G);have h7:=h6.mono kb (by omega);have ky:((b.alloc (Z4 (aV dO) 329)).setRow b.heap.size (aV (jL D L G))).heap.size=b.heap.size+1:=by simp [World.setRow]
 have H:=aE kc h7 ky;clear k5 W h6 kb kc h7 ky;gi_wp2_with (refine jI rfl (Z0 8) (Z0 22) rfl b.heap.size (jL D L G) dO rfl rfl (aD.new b dO) ?_)
 obtain ⟨d,ks⟩:=nM ((b.alloc (Z4 (aV dO) 329)).setRow b.heap.size (aV (jL D L G)));rw [ks] at H ⊢;clear ks;refine cj (dI S d) ?_;rintro e w' ⟨rfl,rfl⟩;have kz:(d.alloc (Z4 #[Z7 Z8 (S:Int)] 138)).heap.size=d.heap.size+1:=by simp
 have ke:(d.alloc (Z4 #[Z7 Z8 (S:Int)] 138)).cell? ⟨d.heap.size,0,ZY⟩=ZX (Z7 Z8 (S:Int)):=(Bx.new d 138 (Z7 Z8 (S:Int))).cell;have kj:CfI w D L G b.heap.size (d.heap.size+1) [] (d.alloc (Z4 #[Z7 Z8 (S:Int)] 138)):=by
  have E:bW d (d.alloc (Z4 #[Z7 Z8 (S:Int)] 138)):=bA _ _;obtain ⟨u,y,m⟩:=H.o;exact ⟨y.mono E (by omega),⟨jL D L G,rfl,u.keep (E.block _ (by omega))⟩,by omega⟩
 obtain ⟨A,kv⟩:=nM (d.alloc (Z4 #[Z7 Z8 (S:Int)] 138));have hf:=H.o.2.2;have K:=a5 kz hf M kp;have J:=ak ke;have s:=ak kj;clear kz ke kj H hf M kp p0 p1 p2;gi_wp2;try change ZS _ _ _ at K
 try change ZS _ _ _ at J
 try change ZS _ _ _ at s
 rw [kv] at K J s;clear kv;have q9:w.heap.size+3<=A.heap.size/\b.heap.size<A.heap.size/\A.heap.size=d.heap.size+1:=by obtain ⟨u,y,m,N⟩:=K.out;omega
 obtain ⟨k6,q8,U⟩:=q9;try change ZS _ _ _ at s
 rw [<- U] at s;have q0:=ak U;clear U;refine Wg rfl (by have:=HN.o;omega) (gf:=151) (lb:=#[Z6 (ZX ⟨d.heap.size,0,ZY⟩)]) rfl trivial (Ve func151 (by kernel_rfl) rfl)
  (eS (n-1) d.heap.size S hS A (by have:=q0.out;omega) J.out (by omega) (hT.mono (by omega) s.out.1.below)) (λh k=>qZ h k) (rh (by omega)) (TW _ _) (λ_=>rfl)
  (CfI w D L G b.heap.size A.heap.size) (CfX w D L G A.heap.size) (CfI.own k6 q8) (CfX.own k6) s.out
  (λx=>{ tmps:=#[.agg #[Z7 Z9 (D:Int),Z7 Z9 (L:Int),Z7 Z9 (G:Int)],Z7 Z8 (S:Int),Z6 (ZX ⟨w.heap.size,0,ZY⟩),ZZ,Z6 (ZX ⟨w.heap.size+1,0,ZY⟩),Z6 (ZX ⟨w.heap.size+1+1,0,ZY⟩),Z5 (ZX ⟨g,0,ZY⟩) (aR D L G).length c,.nilIface,Z6 (ZX ⟨b.heap.size,0,ZY⟩),Z7 Z9 (x.1:Int),.tuple #[Z5 (ZX ⟨g,0,ZY⟩) (aR D L G).length c,.nilIface],.agg #[Z7 Z9 (D:Int),Z7 Z9 (L:Int),Z7 Z9 (G:Int)],.tuple #[Z5 (ZX ⟨g,0,ZY⟩) (aR D L G).length c,.nilIface],Z5 (ZX ⟨g,0,ZY⟩) (aR D L G).length c,.nilIface,.nilIface,Z1 ZV,ZZ,ZZ,Z5 (ZX ⟨g,0,ZY⟩) (aR D L G).length c,Z6 (ZX ⟨w.heap.size,0,ZY⟩),Z7 Z9 (D:Int),.agg (aV (jL D L G)),Z7 Z8 (S:Int),.func (.func 151) #[] #[Z6 (ZX ⟨d.heap.size,0,ZY⟩)],Z7 Z9 (x.1:Int),ZZ,ZZ,ZZ,ZZ,ZZ,ZZ],defers:=[] }) ?assign ?body ?done ?stop
 case assign=>
  intro l2 x X Kk hK;unfold qY;gi_wp2;exact hK
 case body=>
  rintro l2 pre x X ⟨a,⟨C,l,z⟩,t⟩ ha;have h9:=zZ hD k9 hG l;have kr:=uj b.heap.size x.1 C X z h9 x.2;have I:tells (jL D L G) (E1 (pre++[x]))=pA C x.1:=by rw [IH,jX,l];rfl
  have j:=ak a;have HX:=ak t;clear t ha l z h9;have ce:=a.err.cell;have fe:=a.err.frozen;clear a;gi_wp2;refine eR kr ?_;clear kr;rintro e w2 (⟨kk,rfl,qe⟩|⟨C',km,rfl,k7,ki⟩)
  . subst qe;have q7:=ak (I.trans kk);clear I kk;have f:Boxed (w2.setRow (w.heap.size+1) (aV dO)) (w.heap.size+1+1) 63 .nilIface:=((aM _ _ _).block _ j.o.err.lt (λe=>by have:=UJ e;omega)).trans j.o.err;have O:=f.cell;have P:=f.frozen;have q6:=ak f;clear f;gi_wp2_with (refine jI rfl (Z0 4) (Z0 29) rfl (w.heap.size+1) dO dO rfl rfl j.o.res ?_)
    have a:=j.o;have V:bW w (w2.setRow (w.heap.size+1) (aV dO)):=a.below.grown (aM _ _ _) a.below.size (λq e=>by cases e;omega);refine ⟨?_,rfl,q7.out,?_,?_,?_,?_⟩
    . exact ((rz j.o.res _).trans (V5 _ _ _)).from _
    . exact V.setCell (p:=⟨w.heap.size+1+1,0,ZY⟩) (by show w.heap.size<=w.heap.size+1+1;omega) _
    . have:=HX.o;simpa [World.setCell,World.setRow] using this
    . exact (a.res.setRow dO).keep (Wk _ _ _ _ (by show w.heap.size+1≠w.heap.size+1+1;omega))
    . exact q6.out.set _
  . have H2:=aE (I.trans km) k7 ki;clear I km k7 ki;gi_wp2;obtain ⟨u,y,m⟩:=H2.o;have h5:=j.o.own (B:=w.heap.size+3) lR m (λr e=>by cases e;obtain ⟨u,y,m,N⟩:=K.out;omega);exact ⟨⟨m.size,λk o hk ho _=>(m.block k (TX.1 ho).1 (λe=>by cases e;omega)).trans ho⟩,λ_=>hT.mono (by omega) h5.below,h5,⟨C',u,y⟩,TU HX.o m.size⟩
 case done=>
  rintro Z xs X qa kx ⟨a,⟨C,l,z⟩,t⟩ hK;try change ZS _ _ _ at l
  rw [show E1 xs=ab S from kx] at l;have f:Boxed (X.setRow (w.heap.size+1) (aV C)) (w.heap.size+1+1) 63 .nilIface:=((aM _ _ _).block _ a.err.lt (λe=>by have:=UJ e;omega)).trans a.err;have O:=f.cell;have P:=f.frozen;have j:=a7 a z t hK l f;clear a z t hK l kx xs s J f;gi_wp2_with (first
   | refine kQ rfl (Z0 8) rfl b.heap.size C rfl j.o.2.1 ?_
   | refine jI rfl (Z0 4) (Z0 31) rfl (w.heap.size+1) C dO rfl rfl j.o.1.res ?_)
  obtain ⟨a,z,t,hK,l,f⟩:=j.o;have V:bW w (X.setRow (w.heap.size+1) (aV C)):=a.below.grown (aM _ _ _) a.below.size (λq e=>by cases e;omega);have qc:=V.setCell (p:=⟨w.heap.size+1+1,0,ZY⟩) (by show w.heap.size<=w.heap.size+1+1;omega) .nilIface;have qd:=(rz a.res (aV C)).trans (V5 _ ⟨w.heap.size+1+1,0,ZY⟩ .nilIface);have k8:=qd.same Z _ hK rfl;exact LO (w:=w) rfl rfl rfl ((a.res.setRow C).keep (Wk _ _ _ _ (by show w.heap.size+1≠w.heap.size+1+1;omega))) (f.set _) k8 (by omega)
   ⟨Below.RR qc (by omega) (TX.1 k8).1 _,.inr ⟨C,l,rfl⟩⟩
 case stop=>
  rintro Z cc pre X qa hy ⟨rfl,ko,E,t,he,h8⟩ hK;have hc:tells (jL D L G) (ab S)=ZY:=by
   obtain ⟨R,hR⟩:=hy;rw [<- hR];exact iV _ _ _ ko
  have HH:=a6 E he h8 hK hc;clear E he h8 hK hc ko;gi_wp2;obtain ⟨u,y,m,N,q5⟩:=HH.o;exact LO (w:=w) rfl rfl rfl y m N (by omega) ⟨Below.RR u (by omega) (TX.1 N).1 _,.inl ⟨q5,rfl⟩⟩
end
