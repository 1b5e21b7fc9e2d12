import Derived.Test.YtfbmmcnpjhmjaaaGreatDoorM18
import Derived.Deep.RegionHeld
set_option maxRecDepth 100000
set_option maxHeartbeats 8000000
open Go.IntKind renaming i64 -> Z9, u64 -> Z8
open Go.Value renaming int -> Z7, pointer -> Z6, slice -> Z5, tuple -> Z2
open Go.Obj renaming cells -> Z4
open Go.Operand renaming tmp -> Z3
open Option renaming none -> Z1, some -> Z0
open Go renaming World -> ZZ, Value -> ZY
open List renaming replicate -> Tm, map_toArray -> To, map_cons -> Tp
open Nat renaming zero_le -> Tn
open Go.Proofs.Tryz renaming prog -> ZX
namespace Go.Proofs.YtfbmmcnpjhmjaaaGreatDoor
open Go.RowKit Go.Deep Gf
variable {a:Act} {ops:Array Oper} {Q:Exit->Act->ZZ->Prop} {base n v g r b N gone sp i S x q7 q l:Nat} {D Dn:Nat->Bool} {f:Nat->ZY} {P:Program} {w w':ZZ} {K:ZZ->Prop}
theorem ph (w:ZZ) (t u r e:TypeId) (k:IntKind) (i:TypeInfo) (z:ZY) (m:P.underlying t=Z0 (.slice e)) (o:P.underlying u=Z0 (.int k)) (g:P.info? e=Z0 i) (q:i.zero=Z0 z) (f:i.bytes=1) (l:i.size=1)
 (n:Nat) (a:0<n) (s:n<=1000000) :
 (Builtin.append_ #[t,u] r #[Z5 Z1 0 0,Z7 Z9 n]).run P w =
  .ok (Z5 (Z0 ⟨w.heap.size,0,Z1⟩) n (grownCap w n 0 e)) (w.drew.alloc (Z4 (Builtin.zeroCells z.cells n++Builtin.zeroCells z.cells (grownCap w n 0 e-n)) e)):=by
 have j:n≠0:=by omega
 have d:¬ (9223372036854775807<(n:Int)):=by omega
 have p:IntKind.i64.wrap (n:Int)=n:=by rw [IntKind.wrap_i64];omega
 have h:¬ ((n:Int)<0):=by omega
 have c:¬ (281474976710656<Builtin.nextslicecap n 0):=by rw [nextslicecap_zero a];omega
 have b:¬ (281474976710656<(n:Int)):=by omega
 simp [Builtin.append_,run_underlying m,run_underlying o,sizeOf,typeInfo,zeroValue,g,q,f,l,j,d,c,b,p,h,Question.forced,run_firstCells_none,newRow,grownCap,asInt,asIntOf]
theorem Tryz.infoByteC:(ZX.info? 5).map (λi=>(i.zero,i.size,i.bytes))=Z0 (Z0 (Z7 .u8 0),1,1):=by kernel_rfl
theorem FD (w:ZZ) (n c:Nat) (b:n<=c) (a:c<=maxLen):(w.drew.alloc (Z4 (Builtin.zeroCells (Value.cells (Z7 .u8 0)) n++Builtin.zeroCells (Value.cells (Z7 .u8 0)) (c-n)) 5)).ownsRow w.heap.size 5 1 (Z5 (Z0 ⟨w.heap.size,0,Z1⟩) 0 c) 0 []:=by
 refine ⟨rfl,.inr ⟨w.heap.size,c,_,rfl,Nat.le_refl _,blk_alloc_new w.drew _,Tn _,a,?_,by simp⟩⟩;simp [Builtin.zeroCells,Value.cells];omega
theorem xI (w w':ZZ) {ops:Array Oper} {rest:List Oper} {o:Oper} {a:Act} {Q:Exit->Act->ZZ->Prop} (b:o.guard=Z1) (s x:Operand) (t tx:TypeId)
 (ho:o.op=.call { callee:=.builtin .append,args:=#[s,x],argTypes:=#[t,tx] }) (v u v':ZY) (hv:a.eval s=v) (hu:a.eval x=u) (hr:∀ c,(Builtin.append_ #[t,tx] c #[v,u]).run P w=.ok v' w')
 (h:wpList P ops Q rest (a.put o.dst v') w'):wpList P ops Q (o::rest) a w:=by
 refine wpList_plain b λK hK=>?_;unfold Oper.wp execOp;simp only [ho,resolve,invoke,builtin,Sem.run_bind,Sem.run_pure,Result.andThen_ok,To,Tp,List.map_nil,hv,hu,hr];exact hK _ _ h
theorem Ja (n:Nat) (q:n<=1000000) (w:ZZ):Calls ZX 146 #[Z5 Z1 0 0,Z7 Z9 n] w λe w'=>∃ v,e=.returned v/\w'.ownsRow w.heap.size 5 1 v 0 []/\Below w.heap.size w w':=by
 obtain ⟨r,k,m,o,p⟩:=info_parts Tryz.infoByteC;by_cases j:0<n
 . have b:=λs=>ph (P:=ZX) w 34 3 s 5 .i64 r (Z7 .u8 0) Tryz.underlying34 Tryz.underlying3 k m p o n j q;have f:n<=grownCap w n 0 5:=grownCap_ge w n 0 5;have a:grownCap w n 0 5<=maxLen:=grownCap_le_maxLen w n 0 5 (by unfold maxLen;omega);have d:=FD w n (grownCap w n 0 5) f a;have c:Below w.heap.size w (w.drew.alloc (Z4 (Builtin.zeroCells (Value.cells (Z7 .u8 0)) n++Builtin.zeroCells (Value.cells (Z7 .u8 0)) (grownCap w n 0 5-n)) 5)):=(Below.refl _ w).drew.alloc lR _;obtain ⟨cp,g⟩:=nM (grownCap w n 0 5);rw [g] at b f a d c;obtain ⟨w2,h⟩:=nM (w.drew.alloc (Z4 (Builtin.zeroCells (Value.cells (Z7 .u8 0)) n++Builtin.zeroCells (Value.cells (Z7 .u8 0)) (cp-n)) 5));rw [h] at b d c;have t:cp<=9223372036854775807:=(by unfold maxLen at a;omega);have H:=hide2 d c;have i:=hide b;clear d c h g a b;go_enter Tryz.func146,Tryz.ntmps146;go_wp2_with (show wpList _ _ _ ({ dst:=Z0 22,op:=_,type:=_,pos:=_,after:=_,guard:=_ }::_) _ _;refine xI w w2 rfl (Z3 20) (Z3 21) 34 3 rfl (Z5 Z1 0 0) (Z7 Z9 n) (Z5 (Z0 ⟨w.heap.size,0,Z1⟩) n cp) rfl rfl (by exact i.out) ?_);go_ret;exact ⟨_,rfl,H.out.1,H.out.2⟩
 . have l:n=0:=(by omega);subst l;go_enter Tryz.func146,Tryz.ntmps146;go_wp2;go_ret;exact ⟨_,rfl,World.ownsRow_nil _ _ _ _,Below.refl _ _⟩
theorem iy {e:TypeId} {size:Nat} {v:ZY} {xs:List ZY} (h:w.ownsRow base e size v n xs) {k:Nat} (a:v.ownBlock=Z0 k):base<=k:=by
 rcases h.2 with ⟨c,_⟩|⟨g,cap,cur,b,d,_⟩
 . rw [c] at a;simp [Value.ownBlock] at a
 . rw [b] at a;simp [Value.ownBlock] at a;omega
def RL (w:ZZ) (K:Nat) (s i:ZY) (wr:ZZ):Prop:=∃ k:Nat,k<=K/\i=Z7 Z9 k/\s=Z7 Z9 ((44*k:Nat):Int)/\wr=w
def RM (w:ZZ) (R:List (List Nat)) (v i:ZY) (wr:ZZ):Prop:=∃ k:Nat,k<=R.length/\i=Z7 Z9 k/\wr.ownsRow w.heap.size 5 1 v (44*k) (aH (R.take k).flatten)/\Below w.heap.size w wr
theorem FE {c:Nat} {R:List (List Nat)} (S:K7 w base g R) (V:R.length<=1000):Calls ZX 114 #[Z5 (Z0 ⟨g,0,Z1⟩) R.length c] w λe w'=>∃ v,e=.returned v/\w'.ownsRow w.heap.size 5 1 v (44*R.length) (aH R.flatten)/\Below w.heap.size w w':=by
 obtain ⟨i0,Y,hx,hy,hz⟩:=info_parts Tryz.infoByteC;obtain ⟨K,hK⟩:=nM (R.length);obtain ⟨_,X,F⟩:=S;have f:=hide2 F hK;rw [hK] at V ⊢;clear F hK;go_enter Tryz.func114,Tryz.ntmps114;go_wp2_with fail;go_loopw [3,11] (λs i wr=>RL w K s i wr) (λ_ i _=>K-(intOf i).toNat)
 case atStart=>exact ⟨0,Tn _,rfl,rfl,rfl⟩
 case round=>
  obtain ⟨k,k6,rfl,rfl,O⟩:=hrel;obtain rfl:w=wr:=O.symm;clear O;by_cases C:k<K
  . obtain ⟨b,off,l,c1,A,m,n,o,B⟩:=f.out.1 k (by rw [f.out.2];exact C);clear A m n o B;have t:((44*k:Nat):Int)+44=((44*(k+1):Nat):Int):=(by omega);have T:44*(k+1)<=44000:=(by omega);obtain ⟨M,p⟩:=nM (44*k);obtain ⟨M',z⟩:=nM (44*(k+1));rw [p,z] at t;rw [z] at T;rw [p];go_wp2;refine ⟨⟨k+1,by omega,by go_num,by rw [z],rfl⟩,by simp [intOf];omega⟩
  . have hv:k=K:=(by omega);subst hv;obtain ⟨M,p⟩:=nM (44*k);have k0:M<=44000:=(by omega);rw [p];go_wp2_with fail;refine (Ja M (by omega) w).mono ?_;rintro e w1 ⟨v,rfl,d,a⟩;have r:=hide2 d a;clear d a;go_wp2_with fail;go_loopw [6,27] (λv i E=>RM w R v i E) (λ_ i _=>k-(intOf i).toNat)
    case atStart=>exact ⟨0,Tn _,rfl,r.out.1,r.out.2⟩
    case round=>
     clear r;obtain ⟨j,hr,rfl,d,a⟩:=hrel;rw [f.out.2] at hr;by_cases C:j<k
     . have I:j<R.length:=(by rw [f.out.2];exact C);obtain ⟨b,off,l,c1,A,m,n,o,B⟩:=f.out.1 j I;have P:wr.cell? ⟨g,j,Z1⟩=Z0 (Z5 (Z0 ⟨b,off,Z1⟩) 44 l):=(World.cell?_of_block (a.block g X)).trans c1;have y:Src ZX 1 34 (Z5 (Z0 ⟨b,off,Z1⟩) 44 l) 44 (aH R[j]) wr:=Src.ofSlice wr Tryz.underlying34 ⟨b,off,Z1⟩ 44 l (aH R[j]) (by rw [bm,o]) (λq u Z=>by have G:wr.cell? ⟨b,off+q,Z1⟩=Z0 u:=(World.cell?_of_block (a.block b m)).trans (n q u Z);unfold Addr.add;split<;>first|exact G|(rename_i Q;subst Q;exact G)) (λu hu=>by
        obtain ⟨x,_,rfl⟩:=List.mem_map.1 hu;rfl)
       have h:aH (R.take (j+1)).flatten=aH (R.take j).flatten++aH R[j]:=by
        rw [List.take_add_one,List.getElem?_eq_getElem I,Option.toList_some,List.flatten_append,bU];simp
       obtain ⟨D,L⟩:=nM (aH R[j]);obtain ⟨rt,J⟩:=nM (aH (R.take j).flatten);rw [L] at y h;rw [J] at d h;have N:=a.size;have H:=hide4 d a y h;have k5:44*j+44<=44000:=(by omega);clear d a y h A m n o B c1 L J;go_wp2_with (show wpList _ _ _ ({ dst:=Z0 33,op:=_,type:=_,pos:=_,after:=_,guard:=_ }::_) _ _;refine af _ rfl (Z3 31) (Z3 32) 34 34 rfl w.heap.size 5 i0 (Z7 .u8 0) 1 1 Tryz.underlying34 Y hx hy hz rfl _ (44*j) rt (by rfl) (by exact H.out.1) _ (by rfl) 44 D (by exact H.out.2.2.1) (by unfold maxLen;omega) (by omega) (by exact N) ?_;intro v' w3 U W _);obtain ⟨d,a,_,h⟩:=H.out;refine ⟨⟨j+1,by rw [f.out.2];omega,by go_num,?_,a.grown W N λq e=>iy d e⟩,by simp [intOf];omega⟩;rw [h,show 44*(j+1)=44*j+44 by omega];exact U
     . have hs:j=k:=(by omega);subst hs;have H:=hide2 d a;clear d a;go_wp2;go_ret;refine ⟨_,rfl,?_,H.out.2⟩;have:=H.out.1;rw [List.take_of_length_le (by rw [f.out.2];exact Nat.le_refl _)] at this;exact this
def Po (v b g N gone sp:Nat):Array ZY:=#[Z6 (Z0 ⟨v,0,Z1⟩),Z7 Z9 b,Z5 (Z0 ⟨g,0,Z1⟩) N N,Z7 Z8 gone,Z7 Z8 sp]
def ef (w:ZZ) (r v b g N gone sp:Nat):Prop:=w.heap[r]?=Z0 (Z4 (Po v b g N gone sp) 196 (0,0))
theorem ef.keep (h:ef w r v b g N gone sp) (e:w'.heap[r]?=w.heap[r]?):ef w' r v b g N gone sp:=e.trans h
theorem ef.lt (h:ef w r v b g N gone sp):r<w.heap.size:=(Array.getElem?_eq_some_iff.1 h).1
theorem ef.cells (h:ef w r v b g N gone sp):w.cell? ⟨r,0,Z1⟩=Z0 (Z6 (Z0 ⟨v,0,Z1⟩))/\w.cell? ⟨r,1,Z1⟩=Z0 (Z7 Z9 b)/\w.cell? ⟨r,2,Z1⟩=Z0 (Z5 (Z0 ⟨g,0,Z1⟩) N N)/\w.cell? ⟨r,3,Z1⟩=Z0 (Z7 Z8 gone)/\w.cell? ⟨r,4,Z1⟩=Z0 (Z7 Z8 sp):=by
 have a:w.heap[r]?=Z0 (Z4 (Po v b g N gone sp) 196 (0,0)):=h;simp [World.cell?,a,Po]
theorem ef.free (h:ef w r v b g N gone sp) (i:Nat):w.frozen? ⟨r,i,Z1⟩=false:=by
 have a:w.heap[r]?=Z0 (Z4 (Po v b g N gone sp) 196 (0,0)):=h;simp [World.frozen?,a]
theorem uD (w:ZZ) {ops:Array Oper} {rest:List Oper} {o:Oper} {a:Act} {Q:Exit->Act->ZZ->Prop}
 (h:o.guard=Z1) (l c:Operand) (e:o.op=Op.makeSlice 95 l c) (C:Int) (n:Nat) (i:a.eval l=Z7 Z9 C) (g:a.eval c=Z7 Z9 C) (f:C=(n:Int)) (j:n<=1000000)
 (hK:∀ w',w'.rowIs w.heap.size 34 n (λ_=>Z5 Z1 0 0)->Below w.heap.size w w'->w'.heap.size=w.heap.size+1->wpList ZX ops Q rest (a.put o.dst (Z5 (Z0 ⟨w.heap.size,0,Z1⟩) n n)) w') :
 wpList ZX ops Q (o::rest) a w:=by
 refine wpList_plain h λK d=>?_;have b:=run_make_row' (P:=ZX) 95 34 (Z5 Z1 0 0) 24 Tryz.underlying95 Tryz.infoBytes2 rfl .i64 .i64 n (by omega) (by omega) w;subst f;unfold Oper.wp;simp [execOp,e,i,g,b,Result.andThen];exact d _ _ (hK _ (World.rowIs_made w _ n _) (bA _ _) (nblk_alloc _ _))
theorem sj (w:ZZ) (n:TypeId) (g N c:Nat) (f:Nat->ZY) (h:w.rowIs g 34 N f) (s:0<N):(Builtin.clear_ #[95] n #[Z5 (Z0 ⟨g,0,Z1⟩) N c]).run ZX w=.ok (Z2 #[]) (w.setRow g (Tm N (Value.slice Z1 0 0)).toArray):=by
 obtain ⟨cs,d,e,o⟩:=h;obtain ⟨t,b,j,q,r⟩:=info_parts Tryz.infoBytes2;have l:(Builtin.zeroCells (Value.cells (Z5 Z1 0 0)) N).toList=Tm N (Value.slice Z1 0 0):=by
  apply List.ext_getElem
  . simp [Builtin.zeroCells,Value.cells]
  . intro i _ _;simp [Builtin.zeroCells,Value.cells,Nat.mod_one]
 have a:=run_storeCells_from (P:=ZX) g 34 (Tm N (Value.slice Z1 0 0)) 0 cs w d (by simp [e]) (λv k=>by rw [List.eq_of_mem_replicate k];rfl);have p:N≠0:=by omega
 simp only [List.take_zero,List.nil_append] at a;obtain ⟨m,rfl⟩:∃ m,N=m+1:=⟨N-1,by omega⟩;simp [Builtin.clear_,run_underlying Tryz.underlying95,zeroValue,typeInfo,b,j,l,a]
theorem xJ (w:ZZ) {ops:Array Oper} {rest:List Oper} {o:Oper} {a:Act} {Q:Exit->Act->ZZ->Prop} (j:o.guard=Z1) (s:Operand)
 (ho:o.op=.call { callee:=.builtin .clear,args:=#[s],argTypes:=#[95] }) (h0:o.dst=Z1) {g N c:Nat} {f:Nat->ZY} (hv:a.eval s=Z5 (Z0 ⟨g,0,Z1⟩) N c) (hr:w.rowIs g 34 N f) (hN:0<N)
 (h:∀ w',w'.rowIs g 34 N (λ_=>Z5 Z1 0 0)->aa (λk=>k=g) w w'->wpList ZX ops Q rest a w'):wpList ZX ops Q (o::rest) a w:=by
 refine wpList_plain j λK hK=>?_;unfold Oper.wp execOp;simp only [ho,resolve,invoke,builtin,Sem.run_bind,Sem.run_pure,Result.andThen_ok,To,Tp,List.map_nil,hv,sj w _ g N c f hr hN];have b:=aI w g (Tm N (Value.slice Z1 0 0)).toArray;obtain ⟨cs,d,_⟩:=hr;refine hK _ _ ?_;rw [h0];exact h _ ⟨_,setRow_heap _ _ _ _ _ _ d,by simp,λi m=>by simp [m]⟩ ⟨b.os,b.tape,b.output,b.size,λk n l=>b.block k n (λe=>l (Option.some.inj e))⟩
theorem CN (w:ZZ) (r:Nat) {v b0 g N gone sp:Nat} (h:ef w r v b0 g N gone sp) (b ho:Nat):ef (((w.setCell ⟨r,1,Z1⟩ (Z7 Z9 b)).setCell ⟨r,3,Z1⟩ (Z7 Z8 0)).setCell ⟨r,4,Z1⟩ (Z7 Z8 ho)) r v b g N 0 ho/\aa (λk=>k=r) w (((w.setCell ⟨r,1,Z1⟩ (Z7 Z9 b)).setCell ⟨r,3,Z1⟩ (Z7 Z8 0)).setCell ⟨r,4,Z1⟩ (Z7 Z8 ho)):=by
 refine ⟨?_,((aa.setCell (S:=λk=>k=r) w ⟨r,1,Z1⟩ _ rfl).trans (aa.setCell _ ⟨r,3,Z1⟩ _ rfl)).trans (aa.setCell _ ⟨r,4,Z1⟩ _ rfl)⟩;have a:=heap_setCell_same w r 1 _ _ (Z7 Z9 b) h;have c:=heap_setCell_same _ r 3 _ _ (Z7 Z8 0) a;exact heap_setCell_same _ r 4 _ _ (Z7 Z8 ho) c
theorem LA {p D L G ps ho b0:Nat} (h:ef w r v b0 g N gone sp) (m:bq w v p D L G ps ho) (n:w.rowIs g 34 N f) (x:0<N) (d:g≠r) (u:v≠g) (b:Nat) :
 Calls ZX 111 #[Z6 (Z0 ⟨r,0,Z1⟩),Z7 Z9 b] w λe w'=>e=.returned (Z2 #[])/\ef w' r v b g N 0 ho/\w'.rowIs g 34 N (λ_=>Z5 Z1 0 0)/\aa (λk=>k=r\/k=g) w w':=by
 obtain ⟨o,c1,q,s,t⟩:=h.cells;have H:=hide3 h m n;clear h m n;go_enter Tryz.func111,Tryz.ntmps111;go_wp2_with (show wpList _ _ _ ({ dst:=Z1,op:=.call { callee:=.builtin .clear,args:=_,argTypes:=_ },type:=_,pos:=_,after:=_,guard:=_ }::_) _ _;refine xJ _ rfl (Z3 7) rfl rfl (g:=g) (N:=N) (c:=N) (f:=f) rfl (by exact H.out.2.2) x ?_;intro w1 l a;obtain ⟨z,d1,A,B,C⟩:=(H.out.1.keep (a.block _ H.out.1.lt (λe=>d e.symm))).cells;obtain ⟨_,_,_,_,_,J⟩:=(H.out.2.1.keep (a.block _ H.out.2.1.lt u)).cells;have E:=(H.out.1.keep (a.block _ H.out.1.lt (λe=>d e.symm))).free 1;have F:=(H.out.1.keep (a.block _ H.out.1.lt (λe=>d e.symm))).free 3;have I:=(H.out.1.keep (a.block _ H.out.1.lt (λe=>d e.symm))).free 4;have i:=hide2 l a;clear l a o c1 q s t);first|go_end0|skip
 have y:=H.out.1.keep (i.out.2.block _ H.out.1.lt (λe=>d e.symm));have j:=CN w1 r y b ho;refine ⟨rfl,j.1,i.out.1.of_block (j.2.block _ i.out.1.lt (λe=>d e)),(i.out.2.mono λ_ _ e=>.inr e).trans (j.2.mono λ_ _ e=>.inl e)⟩
section
open Go.Shelf
theorem jr {j:Nat} (h:j≠i):dN D i j=D j:=if_neg h
theorem j6:dN D i i=true:=if_pos rfl
def LC (w:ZZ) (S:Nat) (Dn:Nat->Bool) (w':ZZ):Prop:=w'=if Dn 11=true then w.drew.alloc (Z4 #[Z7 Z8 S] 124) else w.drew
theorem j7 (h:LC w S Dn w') (i:Nat) (a:11≠i):LC w S (dN Dn i) w':=by unfold LC;rw [jr a];exact h
theorem oi (h:LC w S Dn w') {a:Addr} {v:ZY} (b:w.cell? a=Z0 v):w'.cell? a=Z0 v:=by
 unfold LC at h;subst h;split
 . exact (World.cell?_alloc_some w.drew a _ (by rw [show w.drew.cell? a=w.cell? a from rfl,b];rfl)).trans b
 . exact b
def Jc (w:ZZ) (K:ZZ->Prop) (Dn:Nat->Bool) (w':ZZ):Prop:=if Dn 9=true then K w' else w'=w.drew
theorem me (h:Jc w K Dn w') (i:Nat) (a:9≠i):Jc w K (dN Dn i) w':=by unfold Jc;rw [jr a];exact h
def LD (w:ZZ) (g x q7:Nat) (Dn:Nat->Bool) (w':ZZ):Prop:=w'=if Dn 8=true then w.drew.setCell ⟨g,x,Z1⟩ (Z5 (Z0 ⟨q7,0,Z1⟩) 44 44) else w.drew
theorem mh (h:LD w g x q7 Dn w') (i:Nat) (a:8≠i):LD w g x q7 (dN Dn i) w':=by unfold LD;rw [jr a];exact h
theorem Ad (h:LD w g x q7 Dn w') {a:Addr} (c:a.block≠g) {v:ZY} (b:w.cell? a=Z0 v):w'.cell? a=Z0 v:=by
 unfold LD at h;subst h;split
 . exact (World.cell?_of_block (blk_setCell_other _ _ _ _ c)).trans b
 . exact b
noncomputable def Pp:Array Oper:=((Tryz.f126.body.bind (mD · 1))).getD #[]
def Jd:List (Op×Option Nat×List Nat):=[(Op.move (Z3 1),Z0 9,[]),
 (Op.load 144 (Z3 2),Z0 10,[]),
 (Op.nilCheck (Z3 10),Z0 11,[1]),
 (Op.fieldAddr 196 (Z3 11) 3,Z0 12,[2]),
 (Op.load 124 (Z3 12),Z0 13,[3]),
 (Op.binOp BinOp.andNot 124 (Z3 9) (Z3 13) 124,Z0 14,[0,4]),
 (Op.load 144 (Z3 2),Z0 15,[]),
 (Op.nilCheck (Z3 15),Z0 16,[6]),
 (Op.fieldAddr 196 (Z3 16) 4,Z0 17,[7]),
 (Op.load 124 (Z3 17),Z0 18,[8]),
 (Op.binOp BinOp.andNot 124 (Z3 14) (Z3 18) 124,Z0 19,[5,9]),
 (Op.call { callee:=Callee.value (Operand.func 129),args:=#[Z3 19],argTypes:=#[124] },Z0 20,[10])]
theorem CO:aN Pp 9 21 Jd:=bt (by kernel_rfl) (by kernel_rfl)
def Ae (w:ZZ) (r S gone sp S1 S2:Nat):List ZY:=[Z7 Z8 S,Z6 (Z0 ⟨r,0,Z1⟩),Z6 (Z0 ⟨r,0,Z1⟩),Z6 (Z0 ⟨r,3,Z1⟩),Z7 Z8 gone,Z7 Z8 S1,Z6 (Z0 ⟨r,0,Z1⟩),Z6 (Z0 ⟨r,0,Z1⟩),Z6 (Z0 ⟨r,4,Z1⟩),Z7 Z8 sp,Z7 Z8 S2,.func (.func 153) #[] #[Z6 (Z0 ⟨w.heap.size,0,Z1⟩)]]
theorem uE {S1 S2:Nat} (F:Boxed w q 144 (Z6 (Z0 ⟨r,0,Z1⟩))) (K:ef w r v b g N gone sp) (P:bits .andNot .u64 (S:Int) (gone:Int)=(S1:Int)) (R:bits .andNot .u64 (S1:Int) (sp:Int)=(S2:Int)) (G:Pp=ops) (T:a.tmps.size=100)
 (E:a.eval (Z3 1)=Z7 Z8 S) (B:a.eval (Z3 2)=Z6 (Z0 ⟨q,0,Z1⟩))
 (I:∀ (w':ZZ),w'=w.drew.alloc (Z4 #[Z7 Z8 S2] 124)->Q .normal (Act.putFrom a 9 [Z7 Z8 S,Z6 (Z0 ⟨r,0,Z1⟩),Z6 (Z0 ⟨r,0,Z1⟩),Z6 (Z0 ⟨r,3,Z1⟩),Z7 Z8 gone,Z7 Z8 S1,Z6 (Z0 ⟨r,0,Z1⟩),Z6 (Z0 ⟨r,0,Z1⟩),Z6 (Z0 ⟨r,4,Z1⟩),Z7 Z8 sp,Z7 Z8 S2,.func (.func 153) #[] #[Z6 (Z0 ⟨w.heap.size,0,Z1⟩)]]) w'):(Code.region 1 ops true).wpIn Fence.wide n ZX Q a w:=by
 subst G;obtain ⟨_,_,_,C,D⟩:=K.cells;have A:=F.cell;refine dK (by kernel_rfl) CO a w (by omega) (λi u _=>u=(Ae w r S gone sp S1 S2).getD i undef) (LC w S2) rfl ?_ ?_
 . intro i z;match i,z with
   | 0,_=>
    intro o k w' Dn x ho l p s t m j d;have u0:k.eval (Z3 1)=Z7 Z8 S:=(p.slot 1 (by omega)).trans E;exact j5 (ag ho u0 w') (by rw [ho];intro c h;cases h) l ⟨j7 j 0 (by decide),rfl,kq⟩
   | 1,_=>
    intro o k w' Dn x ho l p s t m j d;have u0:k.eval (Z3 2)=Z6 (Z0 ⟨q,0,Z1⟩):=(p.slot 2 (by omega)).trans B;have y:w'.cell? ⟨q,0,Z1⟩=Z0 (Z6 (Z0 ⟨r,0,Z1⟩)):=oi j A;exact j5 (v:=Z6 (Z0 ⟨r,0,Z1⟩)) (by simp only [execOp,show o.op=Op.load 144 (Z3 2) from ho,u0];go_simp) (by rw [ho];intro c h;cases h) l ⟨j7 j 1 (by decide),rfl,kq⟩
   | 2,_|3,_|7,_|8,_=>
    intro o k w' Dn x ho l p s t m j d;have u0:=d _ (m _ (.head _));simp only [Jd,Ae,bV,cM,Sg,Sf] at ho u0;exact j5 (by simp only [execOp,ho,u0,Ae,Sg,Sf];go_simp) (by rw [ho];intro c h;cases h) l ⟨j7 j _ (by decide),rfl,kq⟩
   | 5,_|10,_=>
    intro o k w' Dn x ho l p s t m j d;have u0:=d _ (m _ (.head _));have u1:=d _ (m _ (.tail _ (.head _)));simp only [Jd,Ae,bV,cM,Sg,Sf] at ho u0 u1;exact j5 (by simp only [execOp,ho,u0,u1,Ae,Sg,Sf];go_simp) (by rw [ho];intro c h;cases h) l ⟨j7 j _ (by decide),rfl,kq⟩
   | 4,_=>
    intro o k w' Dn x ho l p s t m j d;have u0:k.eval (Z3 12)=Z6 (Z0 ⟨r,3,Z1⟩):=d 3 (m 3 (by decide));have y:w'.cell? ⟨r,3,Z1⟩=Z0 (Z7 Z8 gone):=oi j C;exact j5 (v:=Z7 Z8 gone) (by simp only [execOp,show o.op=Op.load 124 (Z3 12) from ho,u0];go_simp) (by rw [ho];intro c h;cases h) l ⟨j7 j 4 (by decide),rfl,kq⟩
   | 6,_=>
    intro o k w' Dn x ho l p s t m j d;have u0:k.eval (Z3 2)=Z6 (Z0 ⟨q,0,Z1⟩):=(p.slot 2 (by omega)).trans B;have y:w'.cell? ⟨q,0,Z1⟩=Z0 (Z6 (Z0 ⟨r,0,Z1⟩)):=oi j A;exact j5 (v:=Z6 (Z0 ⟨r,0,Z1⟩)) (by simp only [execOp,show o.op=Op.load 144 (Z3 2) from ho,u0];go_simp) (by rw [ho];intro c h;cases h) l ⟨j7 j 6 (by decide),rfl,kq⟩
   | 9,_=>
    intro o k w' Dn x ho l p s t m j d;have u0:k.eval (Z3 17)=Z6 (Z0 ⟨r,4,Z1⟩):=d 8 (m 8 (by decide));have y:w'.cell? ⟨r,4,Z1⟩=Z0 (Z7 Z8 sp):=oi j D;exact j5 (v:=Z7 Z8 sp) (by simp only [execOp,show o.op=Op.load 124 (Z3 17) from ho,u0];go_simp) (by rw [ho];intro c h;cases h) l ⟨j7 j 9 (by decide),rfl,kq⟩
   | 11,_=>
    intro o k w' Dn x ho l p s t m j d;have u0:k.eval (Z3 19)=Z7 Z8 S2:=d 10 (m 10 (by decide));refine Jb (f:=129) (args:=#[Z7 Z8 S2]) (w1:=w') (by simp only [execOp,show o.op=Op.call { callee:=Callee.value (Operand.func 129),args:=#[Z3 19],argTypes:=#[124] } from ho];go_simp;simpa [Act.eval] using u0) (by rw [ho];intro c h;cases h) l (dy S2 w') ?_;rintro e M ⟨rfl,rfl⟩;have L:w'=w.drew:=(by have:=j;unfold LC at this;rw [if_neg (by rw [s];decide)] at this;exact this);subst L;exact ⟨_,rfl,by unfold LC;rw [if_pos j6],rfl,kq⟩
   | n+12,hn=>exact absurd hn (by show ¬ n+12<12;omega)
 . rintro k w' J O ⟨Dn,H,j⟩ d;have e:k=Act.putFrom a 9 [Z7 Z8 S,Z6 (Z0 ⟨r,0,Z1⟩),Z6 (Z0 ⟨r,0,Z1⟩),Z6 (Z0 ⟨r,3,Z1⟩),Z7 Z8 gone,Z7 Z8 S1,Z6 (Z0 ⟨r,0,Z1⟩),Z6 (Z0 ⟨r,0,Z1⟩),Z6 (Z0 ⟨r,4,Z1⟩),Z7 Z8 sp,Z7 Z8 S2,.func (.func 153) #[] #[Z6 (Z0 ⟨w.heap.size,0,Z1⟩)]]:=J.out _ rfl (by omega) (λi z=>?_)
   . rw [e];exact I w' (by unfold LC at j;rw [if_pos (H 11 (by decide))] at j;exact j)
   . match i,z with
     | 0,_=>exact d 0 (by decide)
     | 1,_=>exact d 1 (by decide)
     | 2,_=>exact d 2 (by decide)
     | 3,_=>exact d 3 (by decide)
     | 4,_=>exact d 4 (by decide)
     | 5,_=>exact d 5 (by decide)
     | 6,_=>exact d 6 (by decide)
     | 7,_=>exact d 7 (by decide)
     | 8,_=>exact d 8 (by decide)
     | 9,_=>exact d 9 (by decide)
     | 10,_=>exact d 10 (by decide)
     | 11,_=>exact d 11 (by decide)
     | n+12,hn=>exact absurd hn (by simp)
noncomputable def Q5:Array Oper:=((Tryz.f126.body.bind (mD · 4))).getD #[]
def Pq:List (Op×Option Nat×List Nat):=[(Op.load 144 (Z3 2),Z0 31,[]),
 (Op.nilCheck (Z3 31),Z0 32,[0]),
 (Op.fieldAddr 196 (Z3 32) 0,Z0 33,[1]),
 (Op.load 115 (Z3 33),Z0 34,[2]),
 (Op.move (Z3 4),Z0 35,[]),
 (Op.load 144 (Z3 2),Z0 36,[]),
 (Op.nilCheck (Z3 36),Z0 37,[5]),
 (Op.fieldAddr 196 (Z3 37) 1,Z0 38,[6]),
 (Op.load 3 (Z3 38),Z0 39,[7]),
 (Op.call { callee:=Callee.value (Operand.func 137),args:=#[Z3 34,Z3 35,Z3 39],argTypes:=#[115,3,3] },Z0 40,[3,4,8]),
 (Op.move (Z3 40),Z0 30,[9]),
 (Op.extract (Z3 30) 0,Z0 41,[10]),
 (Op.extract (Z3 30) 1,Z0 42,[10]),
 (Op.assign (Z3 41),Z0 5,[11,9,0,1,2,3,4,5,6,7,8,9,10,11]),
 (Op.assign (Z3 42),Z0 6,[12,13,0,1,2,3,4,5,6,7,8,9,10,11,12,13])]
theorem FF:aN Q5 5 43 Pq:=bt (by kernel_rfl) (by kernel_rfl)
def NJ (r v x b:Nat) (Xv Yv:ZY):List ZY:=[Z6 (Z0 ⟨r,0,Z1⟩),Z6 (Z0 ⟨r,0,Z1⟩),Z6 (Z0 ⟨r,0,Z1⟩),Z6 (Z0 ⟨v,0,Z1⟩),Z7 Z9 x,Z6 (Z0 ⟨r,0,Z1⟩),Z6 (Z0 ⟨r,0,Z1⟩),Z6 (Z0 ⟨r,1,Z1⟩),Z7 Z9 b,Z2 #[Xv,Yv],Z2 #[Xv,Yv],Xv,Yv,Xv,Yv]
theorem mH {Xv Yv:ZY} (x:Nat) (L:Calls ZX 137 #[Z6 (Z0 ⟨v,0,Z1⟩),Z7 Z9 x,Z7 Z9 b] w.drew λe w'=>e=.returned (Z2 #[Xv,Yv])/\K w') (J:Boxed w q 144 (Z6 (Z0 ⟨r,0,Z1⟩))) (S:ef w r v b g N gone sp) (P:Q5=ops) (U:a.tmps.size=100)
 (F:a.eval (Z3 2)=Z6 (Z0 ⟨q,0,Z1⟩)) (I:a.eval (Z3 4)=Z7 Z9 x)
 (O:∀ (w':ZZ),K w'->Q .normal (Act.putFrom (Act.putFrom a 5 [Xv,Yv]) 30 [Z2 #[Xv,Yv],Z6 (Z0 ⟨r,0,Z1⟩),Z6 (Z0 ⟨r,0,Z1⟩),Z6 (Z0 ⟨r,0,Z1⟩),Z6 (Z0 ⟨v,0,Z1⟩),Z7 Z9 x,Z6 (Z0 ⟨r,0,Z1⟩),Z6 (Z0 ⟨r,0,Z1⟩),Z6 (Z0 ⟨r,1,Z1⟩),Z7 Z9 b,Z2 #[Xv,Yv],Xv,Yv]) w'):(Code.region 4 ops true).wpIn (Fence.wide.inRound l) n ZX Q a w:=by
 subst P;have E:=J.cell;obtain ⟨H,c1,_⟩:=S.cells;refine dK (by kernel_rfl) FF a w (by omega) (λi u _=>u=(NJ r v x b Xv Yv).getD i undef) (Jc w K) rfl ?_ ?_
 . intro i C;match i,C with
   | 0,_=>
    intro o k w' Dn B ho s A y m t j d;have u0:k.eval (Z3 2)=Z6 (Z0 ⟨q,0,Z1⟩):=(A.slot 2 (by omega)).trans F;have z:w'=w.drew:=by
     have p:=j;unfold Jc at p;rwa [if_neg (λe=>by have q:=((m 1 ((m 2 ((m 3 ((m 9 e).2 3 (by decide))).2 2 (by decide))).2 1 (by decide))).2 0 (by decide));rw [y] at q;cases q)] at p
    have D:w'.cell? ⟨q,0,Z1⟩=Z0 (Z6 (Z0 ⟨r,0,Z1⟩)):=(by rw [z];exact E);exact aT (v:=Z6 (Z0 ⟨r,0,Z1⟩)) (by simp only [execOp,show o.op=Op.load 144 (Z3 2) from ho,u0];go_simp) (by rw [ho];intro c h;cases h) s ⟨me j 0 (by decide),rfl,kq⟩
   | 1,_|2,_|6,_|7,_|10,_|11,_|12,_|13,_|14,_=>
    intro o k w' Dn B ho s A y m t j d;have u0:=d _ (t _ (.head _));simp only [Pq,NJ,bV,cM,Sg,Sf] at ho u0;exact aT (by simp only [execOp,ho,u0,NJ,Sg,Sf];go_simp) (by rw [ho];intro c h;cases h) s ⟨me j _ (by decide),rfl,kq⟩
   | 3,_=>
    intro o k w' Dn B ho s A y m t j d;have u0:k.eval (Z3 33)=Z6 (Z0 ⟨r,0,Z1⟩):=d 2 (t 2 (by decide));have z:w'=w.drew:=by
     have p:=j;unfold Jc at p;rwa [if_neg (λe=>by have q:=((m 9 e).2 3 (by decide));rw [y] at q;cases q)] at p
    have D:w'.cell? ⟨r,0,Z1⟩=Z0 (Z6 (Z0 ⟨v,0,Z1⟩)):=(by rw [z];exact H);exact aT (v:=Z6 (Z0 ⟨v,0,Z1⟩)) (by simp only [execOp,show o.op=Op.load 115 (Z3 33) from ho,u0];go_simp) (by rw [ho];intro c h;cases h) s ⟨me j 3 (by decide),rfl,kq⟩
   | 4,_=>
    intro o k w' Dn B ho s A y m t j d;have u0:k.eval (Z3 4)=Z7 Z9 x:=(A.slot 4 (by omega)).trans I;exact aT (ag ho u0 w') (by rw [ho];intro c h;cases h) s ⟨me j 4 (by decide),rfl,kq⟩
   | 5,_=>
    intro o k w' Dn B ho s A y m t j d;have u0:k.eval (Z3 2)=Z6 (Z0 ⟨q,0,Z1⟩):=(A.slot 2 (by omega)).trans F;have z:w'=w.drew:=by
     have p:=j;unfold Jc at p;rwa [if_neg (λe=>by have q:=((m 6 ((m 7 ((m 8 ((m 9 e).2 8 (by decide))).2 7 (by decide))).2 6 (by decide))).2 5 (by decide));rw [y] at q;cases q)] at p
    have D:w'.cell? ⟨q,0,Z1⟩=Z0 (Z6 (Z0 ⟨r,0,Z1⟩)):=(by rw [z];exact E);exact aT (v:=Z6 (Z0 ⟨r,0,Z1⟩)) (by simp only [execOp,show o.op=Op.load 144 (Z3 2) from ho,u0];go_simp) (by rw [ho];intro c h;cases h) s ⟨me j 5 (by decide),rfl,kq⟩
   | 8,_=>
    intro o k w' Dn B ho s A y m t j d;have u0:k.eval (Z3 38)=Z6 (Z0 ⟨r,1,Z1⟩):=d 7 (t 7 (by decide));have z:w'=w.drew:=by
     have p:=j;unfold Jc at p;rwa [if_neg (λe=>by have q:=((m 9 e).2 8 (by decide));rw [y] at q;cases q)] at p
    have D:w'.cell? ⟨r,1,Z1⟩=Z0 (Z7 Z9 b):=(by rw [z];exact c1);exact aT (v:=Z7 Z9 b) (by simp only [execOp,show o.op=Op.load 3 (Z3 38) from ho,u0];go_simp) (by rw [ho];intro c h;cases h) s ⟨me j 8 (by decide),rfl,kq⟩
   | 9,_=>
    intro o k w' Dn B ho s A y m t j d;have u0:k.eval (Z3 34)=Z6 (Z0 ⟨v,0,Z1⟩):=d 3 (t 3 (by decide));have u1:k.eval (Z3 35)=Z7 Z9 x:=d 4 (t 4 (by decide));have u2:k.eval (Z3 39)=Z7 Z9 b:=d 8 (t 8 (by decide));have z:w'=w.drew:=by
     have p:=j;unfold Jc at p;rwa [if_neg (λe=>by have q:=e;rw [y] at q;cases q)] at p
    refine nZ (f:=137) (args:=#[Z6 (Z0 ⟨v,0,Z1⟩),Z7 Z9 x,Z7 Z9 b]) (w1:=w') (by simp only [execOp,show o.op=Op.call { callee:=Callee.value (Operand.func 137),args:=#[Z3 34,Z3 35,Z3 39],argTypes:=#[115,3,3] } from ho];go_simp;exact ⟨by simpa [Act.eval] using u0,by simpa [Act.eval] using u1,by simpa [Act.eval] using u2⟩) (by rw [ho];intro c h;cases h) s (by rw [z];exact L) ?_;rintro e T ⟨rfl,hK⟩;exact ⟨_,rfl,by unfold Jc;rw [if_pos j6];exact hK,rfl,kq⟩
   | n+15,hn=>exact absurd hn (by show ¬ n+15<15;omega)
 . rintro k w' G M ⟨Dn,R,j⟩ d;have e:k=Act.putFrom (Act.putFrom a 5 [Xv,Yv]) 30 [Z2 #[Xv,Yv],Z6 (Z0 ⟨r,0,Z1⟩),Z6 (Z0 ⟨r,0,Z1⟩),Z6 (Z0 ⟨r,0,Z1⟩),Z6 (Z0 ⟨v,0,Z1⟩),Z7 Z9 x,Z6 (Z0 ⟨r,0,Z1⟩),Z6 (Z0 ⟨r,0,Z1⟩),Z6 (Z0 ⟨r,1,Z1⟩),Z7 Z9 b,Z2 #[Xv,Yv],Xv,Yv]:=Qs G.size G.defers (LB M) (by rfl) (by show 5+2<=30;omega) (by show 43<=_;omega) (λi C=>?_) (λi C=>?_)
   . rw [e];exact O w' (by unfold Jc at j;rw [if_pos (R 9 (by decide))] at j;exact j)
   . match i,C with
     | 0,_=>exact d 13 (by decide)
     | 1,_=>exact d 14 (by decide)
     | n+2,hn=>exact absurd hn (by simp)
   . match i,C with
     | 0,_=>exact d 10 (by decide)
     | 1,_=>exact d 0 (by decide)
     | 2,_=>exact d 1 (by decide)
     | 3,_=>exact d 2 (by decide)
     | 4,_=>exact d 3 (by decide)
     | 5,_=>exact d 4 (by decide)
     | 6,_=>exact d 5 (by decide)
     | 7,_=>exact d 6 (by decide)
     | 8,_=>exact d 7 (by decide)
     | 9,_=>exact d 8 (by decide)
     | 10,_=>exact d 9 (by decide)
     | 11,_=>exact d 11 (by decide)
     | 12,_=>exact d 12 (by decide)
     | n+13,hn=>exact absurd hn (by simp)
noncomputable def Q6:Array Oper:=((Tryz.f126.body.bind (mD · 8))).getD #[]
def NK:List (Op×Option Nat×List Nat):=[(Op.load 144 (Z3 2),Z0 47,[]),
 (Op.nilCheck (Z3 47),Z0 48,[0]),
 (Op.fieldAddr 196 (Z3 48) 2,Z0 49,[1]),
 (Op.load 95 (Z3 49),Z0 50,[2]),
 (Op.move (Z3 4),Z0 51,[]),
 (Op.fieldAddr 217 (Z3 7) 0,Z0 52,[]),
 (Op.slice 215 (Z3 52) Z1 Z1 Z1,Z0 53,[5]),
 (Op.indexAddr 95 (Z3 50) (Z3 51),Z0 54,[3,4,0,1,2,3,4,5,6]),
 (Op.store 34 (Z3 54) (Z3 53),Z1,[7,6,0,1,2,3,4,5,6])]
theorem FG:aN Q6 47 55 NK:=bt (by kernel_rfl) (by kernel_rfl)
def Je (r g N x q7:Nat):List ZY:=[Z6 (Z0 ⟨r,0,Z1⟩),Z6 (Z0 ⟨r,0,Z1⟩),Z6 (Z0 ⟨r,2,Z1⟩),Z5 (Z0 ⟨g,0,Z1⟩) N N,Z7 Z9 x,Z6 (Z0 ⟨q7,0,Z1⟩),Z5 (Z0 ⟨q7,0,Z1⟩) 44 44,Z6 (Z0 ⟨g,x,Z1⟩),undef]
theorem uF (K:Boxed w q 144 (Z6 (Z0 ⟨r,0,Z1⟩))) (T:ef w r v b g N gone sp) (C:w.rowIs g 34 N f) (x:Nat) (V:x<N) (P:q≠g) (R:r≠g) (L:Q6=ops) (Y:a.tmps.size=100)
 (G:a.eval (Z3 2)=Z6 (Z0 ⟨q,0,Z1⟩)) (H:a.eval (Z3 4)=Z7 Z9 x) (I:a.eval (Z3 7)=Z6 (Z0 ⟨q7,0,Z1⟩))
 (O:∀ (w':ZZ),w'=w.drew.setCell ⟨g,x,Z1⟩ (Z5 (Z0 ⟨q7,0,Z1⟩) 44 44)->Q .normal (Act.putFrom a 47 [Z6 (Z0 ⟨r,0,Z1⟩),Z6 (Z0 ⟨r,0,Z1⟩),Z6 (Z0 ⟨r,2,Z1⟩),Z5 (Z0 ⟨g,0,Z1⟩) N N,Z7 Z9 x,Z6 (Z0 ⟨q7,0,Z1⟩),Z5 (Z0 ⟨q7,0,Z1⟩) 44 44,Z6 (Z0 ⟨g,x,Z1⟩)]) w'):(Code.region 8 ops true).wpIn (Fence.wide.inRound l) n ZX Q a w:=by
 subst L;obtain ⟨_,_,D,_,_⟩:=T.cells;have F:=K.cell;have E:=C.cell (i:=x) V;have J:=C.frozen x;refine dK (by kernel_rfl) FG a w (by omega) (λi u _=>u=(Je r g N x q7).getD i undef) (LD w g x q7) rfl ?_ ?_
 . intro i A;match i,A with
   | 0,_=>
    intro o k w' Dn z ho p s t y m j d;have u0:k.eval (Z3 2)=Z6 (Z0 ⟨q,0,Z1⟩):=(s.slot 2 (by omega)).trans G;have B:w'.cell? ⟨q,0,Z1⟩=Z0 (Z6 (Z0 ⟨r,0,Z1⟩)):=Ad j P F;exact aT (v:=Z6 (Z0 ⟨r,0,Z1⟩)) (by simp only [execOp,show o.op=Op.load 144 (Z3 2) from ho,u0];go_simp) (by rw [ho];intro c h;cases h) p ⟨mh j 0 (by decide),rfl,kq⟩
   | 1,_|2,_|6,_=>
    intro o k w' Dn z ho p s t y m j d;have u0:=d _ (m _ (.head _));simp only [NK,Je,bV,cM,Sg,Sf] at ho u0;exact aT (by simp only [execOp,ho,u0,Je,Sg,Sf];go_simp) (by rw [ho];intro c h;cases h) p ⟨mh j _ (by decide),rfl,kq⟩
   | 7,_=>
    intro o k w' Dn z ho p s t y m j d;have u0:=d _ (m _ (.head _));have u1:=d _ (m _ (.tail _ (.head _)));simp only [NK,Je,bV,cM,Sg,Sf] at ho u0 u1;exact aT (by simp only [execOp,ho,u0,u1,Je,Sg,Sf];go_simp) (by rw [ho];intro c h;cases h) p ⟨mh j _ (by decide),rfl,kq⟩
   | 3,_=>
    intro o k w' Dn z ho p s t y m j d;have u0:k.eval (Z3 49)=Z6 (Z0 ⟨r,2,Z1⟩):=d 2 (m 2 (by decide));have B:w'.cell? ⟨r,2,Z1⟩=Z0 (Z5 (Z0 ⟨g,0,Z1⟩) N N):=Ad j R D;exact aT (v:=Z5 (Z0 ⟨g,0,Z1⟩) N N) (by simp only [execOp,show o.op=Op.load 95 (Z3 49) from ho,u0];go_simp) (by rw [ho];intro c h;cases h) p ⟨mh j 3 (by decide),rfl,kq⟩
   | 4,_=>
    intro o k w' Dn z ho p s t y m j d;have u0:k.eval (Z3 4)=Z7 Z9 x:=(s.slot 4 (by omega)).trans H;exact aT (ag ho u0 w') (by rw [ho];intro c h;cases h) p ⟨mh j 4 (by decide),rfl,kq⟩
   | 5,_=>
    intro o k w' Dn z ho p s t y m j d;have u0:k.eval (Z3 7)=Z6 (Z0 ⟨q7,0,Z1⟩):=(s.slot 7 (by omega)).trans I;exact aT (v:=Z6 (Z0 ⟨q7,0,Z1⟩)) (by simp only [execOp,show o.op=Op.fieldAddr 217 (Z3 7) 0 from ho,u0];go_simp) (by rw [ho];intro c h;cases h) p ⟨mh j 5 (by decide),rfl,kq⟩
   | 8,_=>
    intro o k w' Dn z ho p s t y m j d;have u0:k.eval (Z3 54)=Z6 (Z0 ⟨g,x,Z1⟩):=d 7 (m 7 (by decide));have u1:k.eval (Z3 53)=Z5 (Z0 ⟨q7,0,Z1⟩) 44 44:=d 6 (m 6 (by decide));have U:w'=w.drew:=(by have:=j;unfold LD at this;rw [if_neg (by rw [t];decide)] at this;exact this);subst U;have B:w.drew.cell? ⟨g,x,Z1⟩=Z0 (f x):=E;have W:w.drew.frozen? ⟨g,x,Z1⟩=false:=J;exact r9 (w':=w.drew.setCell ⟨g,x,Z1⟩ (Z5 (Z0 ⟨q7,0,Z1⟩) 44 44)) (by simp only [execOp,show o.op=Op.store 34 (Z3 54) (Z3 53) from ho,u0,u1];go_simp) (by rw [ho];intro c h;cases h) ⟨by unfold LD;rw [if_pos j6],rfl,kq⟩
   | n+9,hn=>exact absurd hn (by show ¬ n+9<9;omega)
 . rintro k w' S X ⟨Dn,M,j⟩ d;have e:k=Act.putFrom a 47 [Z6 (Z0 ⟨r,0,Z1⟩),Z6 (Z0 ⟨r,0,Z1⟩),Z6 (Z0 ⟨r,2,Z1⟩),Z5 (Z0 ⟨g,0,Z1⟩) N N,Z7 Z9 x,Z6 (Z0 ⟨q7,0,Z1⟩),Z5 (Z0 ⟨q7,0,Z1⟩) 44 44,Z6 (Z0 ⟨g,x,Z1⟩)]:=S.out _ rfl (by omega) (λi A=>?_)
   . rw [e];exact O w' (by unfold LD at j;rw [if_pos (M 8 (by decide))] at j;exact j)
   . match i,A with
     | 0,_=>exact d 0 (by decide)
     | 1,_=>exact d 1 (by decide)
     | 2,_=>exact d 2 (by decide)
     | 3,_=>exact d 3 (by decide)
     | 4,_=>exact d 4 (by decide)
     | 5,_=>exact d 5 (by decide)
     | 6,_=>exact d 6 (by decide)
     | 7,_=>exact d 7 (by decide)
     | n+8,hn=>exact absurd hn (by simp)
end
end Go.Proofs.YtfbmmcnpjhmjaaaGreatDoor
