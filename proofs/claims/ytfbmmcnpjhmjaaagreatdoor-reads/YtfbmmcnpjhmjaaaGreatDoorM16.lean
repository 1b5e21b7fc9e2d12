import Derived.Test.YtfbmmcnpjhmjaaaGreatDoorM14
import Derived.Test.YtfbmmcnpjhmjaaaGreatDoorM11
import Derived.Test.YtfbmmcnpjhmjaaaGreatDoorM15
import Derived.Lib.LaidTab
import Derived.Carry
set_option maxRecDepth 100000
set_option maxHeartbeats 8000000
open Go.IntKind renaming i64 -> Z9
open Go.Value renaming int -> Z8, pointer -> Z7, slice -> Z6
open Go.Obj renaming cells -> Z5
open Go.Ending renaming returned -> Z4
open Go.Operand renaming tmp -> Z3
open Option renaming none -> Z2, some -> Z1
open Go renaming World -> Z0, Value -> ZZ
open Go.RowKit renaming Below -> ZY
open List renaming range -> Tm, getElem?_eq_getElem -> Tp, mem_append -> Tq, mem_singleton -> Tr, take_add_one -> Tt, size_toArray -> Tu, length_cons -> Tv, length_nil -> Tw, push_toArray -> TB, append_toArray -> TC, nil_append -> TD, cons_append -> TE, take_length -> TF, map_toArray -> TG, map_cons -> TH, map_append -> TI, range_succ -> TJ, take_append_drop -> TK, flatMap_append -> TL, prefix_append_right_inj -> TM, length_append -> TN, mem_append_left -> TO, getD_eq_getElem?_getD -> TP
open Nat renaming lt_of_lt_of_le -> Tn, zero_le -> To, le_trans -> Ts, reduceAdd -> Tx, reduceSub -> Ty
open Array renaming replicate_succ -> Tz, replicate_zero -> TA
open Go.Proofs.Tryz renaming prog -> ZX
namespace Go.Proofs.YtfbmmcnpjhmjaaaGreatDoor
open Go.RowKit
variable {a:Act} {F:bx} {P:List St} {s n v p D L G ps ho b base g k:Nat} {K:Nat->Prop} {w w' Z:Z0}
section
open Go.Shelf Gf
attribute [local go_sem] Oper.semAt_some
abbrev Mb (s:Nat):={ x:Nat // x<16/\s.testBit x=true }
def vC {s:Nat} (x:Mb s):Array ZZ:=#[Z8 Z9 (x.1:Int)]
def cw {s:Nat} (pre:List (Mb s)):List Nat:=pre.map (·.1)
theorem bF (pre:List (Mb s)) (x:Mb s):cw (pre++[x])=cw pre++[x.1]:=by unfold cw;simp
theorem nY (h:n<=16):ae (2^n-1)=Tm n:=by
 have:∀ k:Fin 17,ae (2^k.1-1)=Tm k.1:=by decide
 exact this ⟨n,by omega⟩
theorem z7 (n:Nat) (l Bs s:Nat) (A:s<65536) (J g:List (Mb s)->Z0->Prop)
 (y:∀ pre x W,J pre W->pre.length<(ae s).length->YieldAt Fence.wide (n-1) ZX l (vC x) W λe c=>
  (e=Z4 (.bool true)/\J (pre++[x]) c/\(aJ W->aJ c))\/(e=Z4 (.bool false)/\g (pre++[x]) c))
 (W:Z0) (G:W.cell? ⟨Bs,0,Z2⟩=Z1 (Z8 .u64 s)) (w:aJ W) (m:J [] W) :
 CallsIn Fence.wide n ZX 153 #[.func (.yield l) #[] #[],Z7 (Z1 ⟨Bs,0,Z2⟩)] W λe c=>(∃ v,e=Z4 v) /\
  ((∃ k,k.map (·.1)=ae s/\J k c)\/(∃ pre,pre.map (·.1)<+:ae s/\g pre c)):=by
 refine callsIn_of_wp Tryz.func153 rfl trivial ?_ rfl;simp only [Tryz.ntmps153,Tu,Tv,Tw,Tx,Ty,Tz,TA,TB,TC,TD,TE];gi_wp2;gi_loopw [3] (λp wr=>∃ (pre:List (Mb s)) (q:Nat),p=Z8 .u64 q/\q<65536/\ae s=pre.map (·.1)++ae q/\J pre wr/\aJ wr)
  (λp _=>(intOf p).toNat)
 case atStart=>
  exact ⟨[],s,rfl,A,rfl,m,w⟩
 case round=>
  obtain ⟨pre,q,rfl,b,d,i,j⟩:=hrel;by_cases a:q=0
  . subst a;gi_wp2;go_end0
    exact ⟨⟨_,rfl⟩,.inl ⟨pre,by rw [d,vz,List.append_nil],i⟩⟩
  . have F:((q:Int) != 0)=true:=(by simp;omega);have E:=CE a b;have f:nW q<16/\s.testBit (nW q)=true:=bM.1 (by rw [d,iw a b];simp);obtain ⟨D,tmps,assign,body,B,u⟩:=y pre ⟨nW q,f⟩ wr i (by rw [d,iw a b];simp);unfold vC at B;gi_wp2;refine cV (I2 q a b wr j) ?_;rintro e w' ⟨rfl,rfl⟩;gi_wp2;refine ⟨λh=>(by cases h),u.mono ?_⟩;rintro e C (⟨rfl,r,t⟩|⟨rfl,o⟩)
    . have H:IntKind.u64.wrap ((q:Int)-1)=((q-1:Nat):Int):=(by rw [IntKind.wrap_u64];omega);have z:=fW q (q-1) (by omega) (by omega);rw [Ed a b] at z;gi_wp2;go_roundw
      case rel=>exact ⟨pre++[⟨nW q,f⟩],bL q (nW q),rfl,pe _ _ b,by rw [d,iw a b];simp,r,t j⟩
      case measure=>have:=nX a b;simp only [intOf];omega
    . gi_wp2;refine bodyPost_ret (results_none rfl _ _ _) rfl ?_;exact ⟨⟨_,rfl⟩,.inr ⟨pre++[⟨nW q,f⟩],by rw [d,iw a b];simp,o⟩⟩
theorem m4 (n Bs s:Nat) (h:s<65536) (w:Z0) (d:Bs<w.heap.size) (g:w.cell? ⟨Bs,0,Z2⟩=Z1 (Z8 .u64 s)) (j:3<=w.heap.size) (e:aJ w) :
 SeqStopsK Fence.wide n ZX 153 #[Z7 (Z1 ⟨Bs,0,Z2⟩)] (vC (s:=s)) Ef (λi=>i.map (·.1)=ae s) (λpre=>pre.map (·.1)<+:ae s) (ae s).length w:=λl J b W a _ _ f c=>
 z7 n l Bs s h J b f W ((a.cell (p:=⟨Bs,0,Z2⟩) d).trans g) (e.mono (by omega) a) c
end
section
open Go.Shelf Go.Deep Gf
attribute [local go_sem] Oper.semAt_some
def aB.putAt (A:aB) (ds:List Nat) (b:Nat) (f:Nat->List Nat):aB:={ A with blk:=λi m=>if i∈ds/\m=b then f i else A.blk i m,bad:=λi m=>if i∈ds/\m=b then false else A.bad i m }
theorem vD (A:aB) (b:Nat) (f:Nat->List Nat):A.putAt [] b f=A:=by simp [aB.putAt]
theorem j4 (A:aB) (ds:List Nat) (d b:Nat) (f:Nat->List Nat):((A.putAt ds b f).setBlk d b (f d)).setBad d b false=A.putAt (ds++[d]) b f:=by
 unfold aB.putAt aB.setBlk aB.setBad;congr 1
 . funext i m;simp only [Tq,Tr];by_cases e:i=d/\m=b
   . obtain ⟨rfl,rfl⟩:=e;rw [if_pos ⟨rfl,rfl⟩,if_pos ⟨.inr rfl,rfl⟩]
   . rw [if_neg e];by_cases a:i∈ds/\m=b
     . rw [if_pos a,if_pos ⟨.inl a.1,a.2⟩]
     . rw [if_neg a,if_neg (λq=>q.1.elim (λh=>a ⟨h,q.2⟩) (λh=>e ⟨h,q.2⟩))]
 . funext i m;simp only [Tq,Tr];by_cases e:i=d/\m=b
   . obtain ⟨rfl,rfl⟩:=e;rw [if_pos ⟨rfl,rfl⟩,if_pos ⟨.inr rfl,rfl⟩]
   . rw [if_neg e];by_cases a:i∈ds/\m=b
     . rw [if_pos a,if_pos ⟨.inl a.1,a.2⟩]
     . rw [if_neg a,if_neg (λq=>q.1.elim (λh=>a ⟨h,q.2⟩) (λh=>e ⟨h,q.2⟩))]
theorem aB.fit.putAt {A:aB} (h:A.fit) (ds:List Nat) (b:Nat) (f:Nat->List Nat) (a:∀ i,i∈ds->(f i).length=64/\∀ x∈f i,x<256):(A.putAt ds b f).fit:=by
 refine ⟨h.n,h.nb,λk m=>?_,λk m=>?_⟩
 . show (if k∈ds/\m=b then f k else A.blk k m).length=64;split
   . rename_i q;exact (a k q.1).1
   . exact h.len k m
 . show ∀ x∈(if k∈ds/\m=b then f k else A.blk k m),x<256;split
   . rename_i q;exact (a k q.1).2
   . exact h.byt k m
theorem aJ.keep (h:aJ w) (e:w'.heap[1]?=w.heap[1]?):aJ w':=λj a=>by
 rw [<- h j a];unfold World.cell?;rw [e]
theorem aJ.lt (h:aJ w):1<w.heap.size:=block_lt_of_cell (h 0 (by decide))
theorem bj.keep (h:bj w) (e:w'.heap[2]?=w.heap[2]?):bj w':=λj a=>by
 rw [<- h j a];unfold World.cell?;rw [e]
structure m6 (w:Z0) (v p D L G ps ho:Nat) (A:aB) (F:bx):Prop where
 vol:bq w v p D L G ps ho
 arr:aq w p A F
 laid:bj w
 tab:aJ w
 room:3<=w.heap.size
structure jI (F:bx) (p n v:Nat):Prop where
 v:¬ F.has p n v
 g:¬ F.has p n 2
 t:¬ F.has p n 1
theorem m6.below {A:aB} (h:m6 w v p D L G ps ho A F) {B:Nat} (a:ZY B w w') (b:w.heap.size<=B):m6 w' v p D L G ps ho A F:=
 ⟨h.vol.keep (a.block _ (Tn h.vol.lt b)),h.arr.below a b,h.laid.below a (Tn h.laid.lt b),h.tab.keep (a.block _ (Tn h.tab.lt b)),Ts h.room a.size⟩
theorem m6.turn {A A':aB} (h:m6 w v p D L G ps ho A F) (b:jI F p n v) (a:aa (F.has p n) w w') (c:aq w' p A' F):m6 w' v p D L G ps ho A' F:=
 ⟨h.vol.keep (a.block _ h.vol.lt b.v),c,h.laid.keep (a.block _ h.laid.lt b.g),h.tab.keep (a.block _ h.tab.lt b.t),Ts h.room a.size⟩
theorem z8 {fn:Func} {D' t8:Nat} {ty:TypeId} {x:ZZ} {R:Ending->Z0->Prop} (f:fn.results=#[.cell t8 ty]) (c:a.defers=[{ target:=.collected D',args:=#[] }]) (h8:a.tmps.getD t8 undef=Z7 (Z1 ⟨b,0,Z2⟩))
 (hl:∀ w,w.heap[b]?=Z.heap[b]?->(loadVar ty ⟨b,0,Z2⟩).run ZX w=.ok x w) (hK:Z.heap[D']?=Z1 (.deferred (Z1 []))) (hD:b≠D')
 (hR:R (Z4 x) (Z.putObj D' (.deferred Z2))):bodyPostM Fence.wide n ZX fn R .ret a Z:=by
 obtain ⟨g,h⟩:=a;simp only at c h8;subst c;refine ⟨by simp,.inl ⟨_,_,rfl,run_takeDeferred hK,?_⟩⟩;have d:=hl (Z.putObj D' (.deferred Z2)) (World.putObj_heap_other hD);refine ⟨x,?_,hR⟩;have e:g[t8]?.getD undef=Z7 (Z1 ⟨b,0,Z2⟩):=by simpa using h8
 simp [results,f,asAddr,e,d]
theorem z9 (h:Boxed Z b 124 (Z8 .u64 s)) (w:Z0) (e:w.heap[b]?=Z.heap[b]?):(loadVar 124 ⟨b,0,Z2⟩).run ZX w=.ok (Z8 .u64 s) w:=by
 have a:w.cell? ⟨b,0,Z2⟩=Z1 (Z8 .u64 s):=(show Boxed w b 124 (Z8 .u64 s) from e.trans h).cell;simp [go_sem,a]
end
section
open Go.Deep Gf
theorem m7 (h:bq w v p D L G ps ho) (k:D<=12) (n:L<=4) (l:G<=4) (j:D+L+G<=16):Calls ZX 123 #[Z7 (Z1 ⟨v,0,Z2⟩)] w λe w'=>e=Z4 (Z8 .u64 ((2^(D+L+G)-1:Nat):Int))/\ZY w.heap.size w w':=by
 obtain ⟨_,c1,g,i,_⟩:=h.cells;obtain ⟨m,d⟩:=nM (D+L+G);obtain ⟨q,a⟩:=nM (((2^m-1:Nat):Int));rw [d,a];have c:=hide a;clear a;go_enter Tryz.func123,Tryz.ntmps123;go_wp2_with fail;refine (ea (D:Int) (L:Int) (G:Int) w ⟨by omega,by omega⟩ ⟨by omega,by omega⟩ ⟨by omega,by omega⟩).mono ?_;rintro e f ⟨rfl,b⟩;rw [show ((D:Int)+(L:Int)+(G:Int))=(m:Int) by omega];have H:=hide b;clear b;go_wp2_with fail;refine (l9 m (by omega) f).mono ?_;rw [c.out];rintro e o ⟨rfl,rfl⟩;go_wp2;go_ret;exact ⟨rfl,H.out⟩
def aB.readTo (A:aB) (k:Nat):aB:={ A with reads:=λi=>if i<k then wrap64 (A.reads i+1) else A.reads i }
theorem Aa (A:aB):A.readTo 0=A:=by simp [aB.readTo]
theorem Ab (A:aB) (k:Nat):(A.readTo k).setReads k (wrap64 ((A.readTo k).reads k+1))=A.readTo (k+1):=by
 unfold aB.readTo aB.setReads;congr 1;funext i;simp only;by_cases e:i=k
 . subst e;rw [if_pos rfl,if_neg (Nat.lt_irrefl i),if_pos (Nat.lt_succ_self i)]
 . rw [if_neg e];by_cases a:i<k
   . rw [if_pos a,if_pos (by omega)]
   . rw [if_neg a,if_neg (by omega)]
theorem aB.fit.readTo {A:aB} (h:A.fit) (k:Nat):(A.readTo k).fit:=⟨h.n,h.nb,h.len,h.byt⟩
theorem Tryz.infoRecord:(ZX.info? 219).map (λi=>(i.zero,i.size,i.bytes))=Z1 (Z1 .nilIface,1,16):=by kernel_rfl
theorem uz (w:Z0) {ops:Array Oper} {rest:List Oper} {o:Oper} {a:Act} {Q:Exit->Act->Z0->Prop}
 (h:o.guard=Z2) (l c:Operand) (e:o.op=Op.makeSlice 180 l c) (C:Int) (n:Nat) (i:a.eval l=Z8 Z9 C) (g:a.eval c=Z8 Z9 C) (f:C=(n:Int)) (j:n<=1000000)
 (hK:∀ w',w'.rowIs w.heap.size 219 n (λ_=>.nilIface)->ZY w.heap.size w w'->w'.heap.size=w.heap.size+1->wpList ZX ops Q rest (a.put o.dst (Z6 (Z1 ⟨w.heap.size,0,Z2⟩) n n)) w') :
 wpList ZX ops Q (o::rest) a w:=by
 refine wpList_plain h λK d=>?_;have b:=run_make_row' (P:=ZX) 180 219 .nilIface 16 Tryz.underlying180 Tryz.infoRecord rfl .i64 .i64 n (by omega) (by omega) w;subst f;unfold Oper.wp;simp [execOp,e,i,g,b,Result.andThen];exact d _ _ (hK _ (World.rowIs_made w _ n _) (bA _ _) (nblk_alloc _ _))
theorem CJ (r:aW):∃ a x,bp r=.iface a x:=by cases r<;>exact ⟨_,_,rfl⟩
def OW (r:Nat->aW) (k i:Nat):ZZ:=if i<k then bp (r i) else .nilIface
def RK (w1:Z0) (g p N:Nat) (A:aB) (F:bx) (r:Nat->aW) (i:ZZ) (wr:Z0):Prop:=∃ k:Nat,k<=N/\i=Z8 Z9 k/\aq wr p (A.readTo k) F/\aa (λj=>j=g\/F.has p A.n j) w1 wr/\wr.rowIs g 219 N (OW r k)
def NG (w:Z0) (p:Nat) (A:aB) (F:bx) (r:Nat->aW) (e:Ending) (w':Z0):Prop:=∃ g,e=Z4 (Z6 (Z1 ⟨g,0,Z2⟩) A.n A.n)/\w.heap.size<=g/\w'.rowIs g 219 A.n (λi=>bp (r i))/\aq w' p (A.readTo A.n) F/\aa (F.has p A.n) w w'
theorem uA {A:aB} (l:m6 w v p D L G ps ho A F) (I:jI F p A.n v) (R:A.fit) (b:Nat) (hn:A.n=D+L+G) (hD:D<=12) (hL:L<=4) (hG:G<=4) (hb:b<A.nb) (hw:A.wait≠0) (hl:∀ d,A.lost d=false) (h8:∀ d,A.bad d b=false)
 (r:Nat->aW) (hr:∀ i,(r i).ok) (hm:∀ i,iS (r i)) (he:∀ i,i<A.n->A.blk i b=(r i).blk) :
 Calls ZX 94 #[Z7 (Z1 ⟨v,0,Z2⟩),Z8 Z9 b] w λe w'=>NG w p A F r e w':=by
 obtain ⟨_,c1,c2,c3,_⟩:=l.vol.cells;have O:((D:Int)+(L:Int)+(G:Int))=((A.n:Nat):Int):=by omega
 have ka:A.n<=1000:=R.n;go_enter Tryz.func94,Tryz.ntmps94;go_wp2_with fail;refine (ea (D:Int) (L:Int) (G:Int) w ⟨by omega,by omega⟩ ⟨by omega,by omega⟩ ⟨by omega,by omega⟩).mono ?_;rintro e a ⟨rfl,Z⟩;rw [O];clear O hn;simp only [];go_wp2_with (at_make;refine uz _ rfl (Z3 13) (Z3 13) rfl _ A.n rfl rfl rfl (by omega) ?_;intro B N hz kb);have s:ZY w.heap.size w a:=Z;have c:ZY w.heap.size w B:=s.trans (hz.mono s.size);have k6:w.heap.size<=a.heap.size:=s.size;have k0:¬ F.has p A.n a.heap.size:=λq=>by have:=l.arr.has_lt q;omega
 have m:=l.below c lR;have k7:v≠a.heap.size:=λe=>by have:=l.vol.lt;omega
 have k5:2≠a.heap.size:=λe=>by have:=l.laid.lt;omega
 have P:aq B p (A.readTo 0) F:=by rw [Aa];exact m.arr
 have W:B.rowIs a.heap.size 219 A.n (OW r 0):=N.congr λi K=>by unfold OW;rw [if_neg (by omega)]
 clear N Z s hz l c1 c2 c3;go_loopw [17] (λi wr=>RK B a.heap.size p A.n A F r i wr) (λi _=>A.n-(intOf i).toNat)
 case atStart=>exact ⟨0,To _,rfl,P,aa.refl _ _,W⟩
 case round=>
  clear P W;obtain ⟨k,hk,rfl,u,f,y⟩:=hrel;by_cases J:k<A.n
  . have X:bq wr v p D L G ps ho:=m.vol.keep (f.block _ m.vol.lt (λq=>q.elim k7 I.v));have S:bj wr:=m.laid.keep (f.block _ m.laid.lt (λq=>q.elim k5 I.g));have o:=rI X u (R.readTo k) k b J hb hw (hl k) (h8 k) (r k) (hr k) (hm k) (he k J) S I.g;rw [Ab] at o;obtain ⟨ty,x,Y⟩:=CJ (r k);rw [Y] at o;have H:=hide3 f y o;clear X S o u f y;go_wp2_with fail;refine H.out.2.2.mono ?_;rintro e w7 ⟨rfl,Q,E⟩;have t:w7.rowIs a.heap.size 219 A.n (OW r k):=H.out.2.1.of_block (E.block a.heap.size H.out.2.1.lt k0);have cS:=t.cell (i:=k) J;have fS:=t.frozen k;have k9:((k:Nat):Int).toNat=k:=(by omega);have C:=hide3 Q (H.out.1.trans (E.mono λ_ _ q=>.inr q)) t;clear Q E H t;go_wp2;refine ⟨⟨k+1,by omega,by go_num,C.out.1.keep λj z=>blk_setCell_other _ _ _ _ (λe=>k0 (by have e':j=a.heap.size:=e;rwa [e'] at z)),C.out.2.1.trans (aa.setCell _ _ _ (.inl rfl)),(C.out.2.2.set k _).congr λi K=>?_⟩,by simp [intOf];omega⟩;unfold OW;by_cases e:i=k
    . subst e;rw [if_pos rfl,if_pos (by omega),Y]
    . rw [if_neg e];by_cases M:i<k
      . rw [if_pos M,if_pos (by omega)]
      . rw [if_neg M,if_neg (by omega)]
  . have k8:k=A.n:=(by omega);subst k8;have U:aa (F.has p A.n) w wr:=(f.mono (T:=λj=>j=a.heap.size\/F.has p A.n j) λ_ _ q=>q) |> λh=>⟨h.os.trans c.os,h.tape.trans c.tape,h.output.trans c.output,Ts c.size h.size,λj z hs=>(h.block j (Tn z c.size) (λq=>q.elim (λe=>by omega) hs)).trans (c.block j z)⟩;have V:wr.rowIs a.heap.size 219 A.n (λi=>bp (r i)):=y.congr λi K=>by unfold OW;rw [if_pos K]
    have H:=hide3 u U V;clear u f U y V;go_wp2;go_ret;exact ⟨_,rfl,k6,H.out.2.2,H.out.1,H.out.2.1⟩
end
section
open Go.Shelf Go.Deep Gf
attribute [local go_sem] Oper.semAt_some
def K7 (w:Z0) (base g:Nat) (R:List (List Nat)):Prop:=base<=g/\g<w.heap.size/\∀ i (hi:i<R.length),∃ b off c,w.cell? ⟨g,i,Z2⟩=Z1 (Z6 (Z1 ⟨b,off,Z2⟩) 44 c)/\base<=b/\b<w.heap.size/\w.rangeAt b off (aH R[i])/\R[i].length=44/\∀ x∈R[i],x<256
theorem K7.keep {R:List (List Nat)} (h:K7 w base g R) (f:w.heap.size<=w'.heap.size) (e:∀ k,base<=k->k<w.heap.size->w'.heap[k]?=w.heap[k]?):K7 w' base g R:=by
 obtain ⟨a,d,n⟩:=h;refine ⟨a,Tn d f,λi o=>?_⟩;obtain ⟨b,off,c,q,l,m,r,s⟩:=n i o;exact ⟨b,off,c,(World.cell?_of_block (e g a d)).trans q,l,Tn m f,λj v p=>(World.cell?_of_block (e b l m)).trans (r j v p),s⟩
noncomputable def Q2:Array Oper:=((Tryz.f88.body.bind (mD · 3))).getD #[]
def Pm:List (Op×Option Nat×List Nat):=[(Op.load 115 (Z3 4),Z1 13,[]),
 (Op.move (Z3 9),Z1 14,[]),
 (Op.load 3 (Z3 5),Z1 15,[]),
 (Op.load 95 (Z3 6),Z1 16,[]),
 (Op.move (Z3 9),Z1 17,[]),
 (Op.indexAddr 95 (Z3 16) (Z3 17),Z1 18,[3,4]),
 (Op.load 34 (Z3 18),Z1 19,[5]),
 (Op.sliceToArrayPointer 215 (Z3 19),Z1 20,[6]),
 (Op.load 215 (Z3 20),Z1 21,[7]),
 (Op.build 217 #[(0,Z3 21)],Z1 22,[8]),
 (Op.makeInterface 217 (Z3 22),Z1 23,[9]),
 (Op.call { callee:=Callee.value (Operand.func 130),args:=#[Z3 13,Z3 14,Z3 15,Z3 23],argTypes:=#[115,3,3,219] },Z1 24,[0,1,2,10]),
 (Op.binOp BinOp.neq 63 (Z3 24) (Operand.const Value.nilIface) 63,Z1 25,[11])]
theorem Fz:aN Q2 13 26 Pm:=bt (by kernel_rfl) (by kernel_rfl)
theorem xF {vs:List ZZ} (h:vs.length=12):∃ a b c d e f g i j k l m,vs=[a,b,c,d,e,f,g,i,j,k,l,m]:=by
 match vs,h with
 | [a,b,c,d,e,f,g,i,j,k,l,m],_=>exact ⟨a,b,c,d,e,f,g,i,j,k,l,m,rfl⟩
end
section
open Go.Shelf Go.Deep Gf
attribute [local go_sem] Oper.semAt_some
abbrev Ch (D:Nat):={ i:Nat // i<D }
def BL (g i:Nat):ZZ:=Z6 (Z1 ⟨g,i*44,Z2⟩) 44 44
def Eh (g:Nat) {D:Nat} (x:Ch D):Array ZZ:=#[BL g x.1]
noncomputable def Q3:Array Oper:=((Tryz.f193.body.bind (mD · 3))).getD #[]
def Qq:List (Op×Option Nat×List Nat):=[(Op.load 3 (Z3 2),Z1 13,[]),
 (Op.load 34 (Z3 1),Z1 14,[]),
 (Op.move (Z3 4),Z1 15,[]),
 (Op.slice 34 (Z3 14) (Z1 (Z3 15)) Z2 Z2,Z1 16,[1,2]),
 (Op.call { callee:=Callee.builtin Builtin.len,args:=#[Z3 16],argTypes:=#[34] },Z1 17,[3]),
 (Op.call { callee:=Callee.builtin Builtin.min,args:=#[Z3 13,Z3 17],argTypes:=#[3,3] },Z1 18,[0,4]),
 (Op.assign (Z3 18),Z1 5,[5,0,1,2,3,4,5])]
theorem FA:aN Q3 5 19 Qq:=bt (by kernel_rfl) (by kernel_rfl)
def Qr (g D k:Nat):List ZZ:=[Z8 Z9 44,Z6 (Z1 ⟨g,0,Z2⟩) (D*44) (D*44),Z8 Z9 (k*44:Nat),Z6 (Z1 ⟨g,k*44,Z2⟩) (D*44-k*44) (D*44-k*44),Z8 Z9 (D*44-k*44:Nat),Z8 Z9 44,Z8 Z9 44]
theorem xG {ops:Array Oper} {Q:Exit->Act->Z0->Prop} {b1 b2:Nat} (F:Q3=ops) (s:k<D) (C:w.cell? ⟨b1,0,Z2⟩=Z1 (Z6 (Z1 ⟨g,0,Z2⟩) (D*44) (D*44))) (E:w.cell? ⟨b2,0,Z2⟩=Z1 (Z8 Z9 44)) (M:a.tmps.size=31)
 (z:a.eval (Z3 1)=Z7 (Z1 ⟨b1,0,Z2⟩)) (A:a.eval (Z3 2)=Z7 (Z1 ⟨b2,0,Z2⟩)) (B:a.eval (Z3 4)=Z8 Z9 (k*44:Nat))
 (G:Q .normal (Act.putFrom a 5 [Z8 Z9 44,a.eval (Z3 6),a.eval (Z3 7),a.eval (Z3 8),a.eval (Z3 9),a.eval (Z3 10),a.eval (Z3 11),a.eval (Z3 12),Z8 Z9 44,Z6 (Z1 ⟨g,0,Z2⟩) (D*44) (D*44),Z8 Z9 (k*44:Nat),Z6 (Z1 ⟨g,k*44,Z2⟩) (D*44-k*44) (D*44-k*44),Z8 Z9 (D*44-k*44:Nat),Z8 Z9 44]) w.drew) :
 (Code.region 3 ops true).wp ZX Q a w:=by
 subst F;refine cO (by kernel_rfl) FA a w (by omega) (λi u _=>u=(Qr g D k).getD i undef) (λ_ w'=>w'=w.drew) rfl ?_ ?_
 . intro i x;have c1:w.drew.cell? ⟨b1,0,Z2⟩=Z1 (Z6 (Z1 ⟨g,0,Z2⟩) (D*44) (D*44)):=C;have I:w.drew.cell? ⟨b2,0,Z2⟩=Z1 (Z8 Z9 44):=E;match i,x with
   | 0,_=>
    intro o c w' l r ho f s p q j d b;subst d;have u0:c.eval (Z3 2)=Z7 (Z1 ⟨b2,0,Z2⟩):=(s.slot 2 (by omega)).trans A;exact ab (v:=Z8 Z9 44) (by simp only [execOp,show o.op=Op.load 3 (Z3 2) from ho,u0];go_simp) f ⟨rfl,rfl,kq⟩
   | 1,_=>
    intro o c w' l r ho f s p q j d b;subst d;have u0:c.eval (Z3 1)=Z7 (Z1 ⟨b1,0,Z2⟩):=(s.slot 1 (by omega)).trans z;exact ab (v:=Z6 (Z1 ⟨g,0,Z2⟩) (D*44) (D*44)) (by simp only [execOp,show o.op=Op.load 34 (Z3 1) from ho,u0];go_simp) f ⟨rfl,rfl,kq⟩
   | 2,_=>exact λo c w' l r ho f s p q j d b=>ab (ag ho ((s.slot 4 (by omega)).trans B) w') f ⟨d,rfl,kq⟩
   | 3,_=>
    intro o c w' l r ho f t p q j d b;have u0:c.eval (Z3 14)=Z6 (Z1 ⟨g,0,Z2⟩) (D*44) (D*44):=b 1 (j 1 (by decide));have u1:c.eval (Z3 15)=Z8 Z9 (k*44:Nat):=b 2 (j 2 (by decide));have K:k*44<D*44:=(by omega);have H:c.tmps[15]?.getD undef=Z8 Z9 (k*44:Nat):=(by simpa [Act.eval] using u1);have L:¬ D*44=k*44:=(by omega);refine ab (v:=Z6 (Z1 ⟨g,k*44,Z2⟩) (D*44-k*44) (D*44-k*44)) ?_ f ⟨d,rfl,kq⟩;simp only [execOp,show o.op=Op.slice 34 (Z3 14) (Z1 (Z3 15)) Z2 Z2 from ho,u0];generalize k*44=N at *;generalize D*44=y at *;go_simp;intro h;omega
   | 4,_=>
    intro o c w' l r ho f t p q j d b;have u0:c.eval (Z3 16)=Z6 (Z1 ⟨g,k*44,Z2⟩) (D*44-k*44) (D*44-k*44):=b 3 (j 3 (by decide));refine ab (v:=Z8 Z9 (D*44-k*44:Nat)) ?_ f ⟨d,rfl,kq⟩;simp only [execOp,show o.op=Op.call { callee:=Callee.builtin Builtin.len,args:=#[Z3 16],argTypes:=#[34] } from ho,resolve,invoke,builtin,Sem.run_bind,Sem.run_pure,Result.andThen_ok,TG,TH,List.map_nil,u0];generalize D*44-k*44=y at *;go_simp
   | 5,_=>
    intro o c w' l r ho f t p q j d b;have u0:c.eval (Z3 13)=Z8 Z9 44:=b 0 (j 0 (by decide));have u1:c.eval (Z3 17)=Z8 Z9 (D*44-k*44:Nat):=b 4 (j 4 (by decide));refine ab (v:=Z8 Z9 44) ?_ f ⟨d,rfl,kq⟩;simp only [execOp,show o.op=Op.call { callee:=Callee.builtin Builtin.min,args:=#[Z3 13,Z3 17],argTypes:=#[3,3] } from ho,resolve,invoke,builtin,Sem.run_bind,Sem.run_pure,Result.andThen_ok,TG,TH,List.map_nil,u0,u1,iR];rw [if_neg (by omega)]
   | 6,_=>
    intro o c w' l r ho f t p q j d b;have u0:c.eval (Z3 18)=Z8 Z9 44:=b 5 (j 5 (by decide));exact ab (v:=Z8 Z9 44) (by simp [execOp,show o.op=Op.assign (Z3 18) from ho,u0]) f ⟨d,rfl,kq⟩
   | n+7,hn=>exact absurd hn (by show ¬ n+7<7;omega)
 . rintro c w' t m ⟨l,J,d⟩ b;subst d;have e:c=Act.putFrom a 5 [Z8 Z9 44,a.eval (Z3 6),a.eval (Z3 7),a.eval (Z3 8),a.eval (Z3 9),a.eval (Z3 10),a.eval (Z3 11),a.eval (Z3 12),Z8 Z9 44,Z6 (Z1 ⟨g,0,Z2⟩) (D*44) (D*44),Z8 Z9 (k*44:Nat),Z6 (Z1 ⟨g,k*44,Z2⟩) (D*44-k*44) (D*44-k*44),Z8 Z9 (D*44-k*44:Nat),Z8 Z9 44]:=t.out _ rfl (by omega) (λi x=>?_)
   . rw [e];exact G
   . match i,x with
     | 0,_=>exact b 6 (by decide)
     | 1,_=>exact m 6 (by decide)
     | 2,_=>exact m 7 (by decide)
     | 3,_=>exact m 8 (by decide)
     | 4,_=>exact m 9 (by decide)
     | 5,_=>exact m 10 (by decide)
     | 6,_=>exact m 11 (by decide)
     | 7,_=>exact m 12 (by decide)
     | 8,_=>exact b 0 (by decide)
     | 9,_=>exact b 1 (by decide)
     | 10,_=>exact b 2 (by decide)
     | 11,_=>exact b 3 (by decide)
     | 12,_=>exact b 4 (by decide)
     | 13,_=>exact b 5 (by decide)
     | n+14,hn=>exact absurd hn (by simp)
def Q4 (b1 b2:Nat) (W W':Z0):Prop:=W'.heap[b1]?=W.heap[b1]?/\W'.heap[b2]?=W.heap[b2]?
theorem CL (n l b1 b2 g D:Nat) (O:D<=1000) (J m:List (Ch D)->Z0->Prop) (K:∀ pre W,J pre W->J pre W.drew)
 (L:∀ pre x W,J pre W->pre.length<D->YieldAt Fence.wide (n-1) ZX l (Eh g x) W λe a=>
  (e=Z4 (.bool true)/\J (pre++[x]) a/\Q4 b1 b2 W a)\/(e=Z4 (.bool false)/\m (pre++[x]) a))
 (W:Z0) (G:W.cell? ⟨b1,0,Z2⟩=Z1 (Z6 (Z1 ⟨g,0,Z2⟩) (D*44) (D*44))) (I:W.cell? ⟨b2,0,Z2⟩=Z1 (Z8 Z9 44)) (F:J [] W) :
 CallsIn Fence.wide n ZX 193 #[.func (.yield l) #[] #[],Z7 (Z1 ⟨b1,0,Z2⟩),Z7 (Z1 ⟨b2,0,Z2⟩)] W λe a=>(∃ v,e=Z4 v) /\
  ((∃ B,B.map (·.1)=Tm D/\J B a)\/(∃ pre,pre.map (·.1)<+:Tm D/\m pre a)):=by
 refine callsIn_of_wp Tryz.func193 rfl trivial ?_ rfl;simp only [Tryz.ntmps193,Tu,Tv,Tw,Tx,Ty,Tz,TA,TB,TC,TD,TE];gi_wp2;gi_loopw [4] (λp wr=>∃ (pre:List (Ch D)) (k:Nat),p=Z8 Z9 (k*44:Nat)/\k<=D/\pre.map (·.1)=Tm k/\J pre wr/\wr.cell? ⟨b1,0,Z2⟩=Z1 (Z6 (Z1 ⟨g,0,Z2⟩) (D*44) (D*44))/\wr.cell? ⟨b2,0,Z2⟩=Z1 (Z8 Z9 44))
  (λp _=>D*44-(intOf p).toNat)
 case atStart=>
  exact ⟨[],0,rfl,To _,rfl,F,G,I⟩
 case round=>
  obtain ⟨pre,k,rfl,V,b,c,c1,q⟩:=hrel;have t:pre.length=k:=by have:=congrArg List.length b;simpa using this
  by_cases d:k<D
  . have X:((k*44:Nat):Int)<((D*44:Nat):Int):=(by omega);have i:wr.drew.cell? ⟨b1,0,Z2⟩=Z1 (Z6 (Z1 ⟨g,0,Z2⟩) (D*44) (D*44)):=c1;have j:wr.drew.cell? ⟨b2,0,Z2⟩=Z1 (Z8 Z9 44):=q;obtain ⟨N,tmps,assign,body,A,z⟩:=L pre ⟨k,d⟩ wr.drew (K _ _ c) (by omega);unfold Eh BL at A;simp only at A;have H:=hide4 z c b t;clear z c b t;gi_wp2;refine wpIn_wide.2 (xG (by kernel_rfl) d c1 q rfl rfl rfl rfl ?_);rename_i hK
    refine hK _ _ ?_;clear hK;simp only [Act.putFrom,Act.put,List.setIfInBounds_toArray,List.set_cons_succ,List.set_cons_zero];have P:wrap64 (((k*44:Nat):Int)+44)=((k*44+44:Nat):Int):=(by unfold wrap64;omega);have Q:k*44+44-k*44=44:=(by omega);have R:k*44+44<=D*44:=(by omega);have S:¬ ((D*44:Nat):Int)<((k*44+44:Nat):Int):=(by omega);have T:¬ ((k*44+44:Nat):Int)<((k*44:Nat):Int):=(by omega);have U:¬ k*44+44=k*44:=(by omega);generalize y:k*44=M at *;generalize ha:D*44=r at *;generalize hj:M+44=E at *;gi_wp2;refine ⟨λh=>(by cases h),H.out.1.mono ?_⟩;rintro e o (⟨rfl,u,w⟩|⟨rfl,s⟩)
    . have d1:o.cell? ⟨b1,0,Z2⟩=Z1 (Z6 (Z1 ⟨g,0,Z2⟩) r r):=(World.cell?_of_block w.1).trans i;have C:o.cell? ⟨b2,0,Z2⟩=Z1 (Z8 Z9 44):=(World.cell?_of_block w.2).trans j;have f:=hide u;clear u;gi_wp2;go_roundw
      case rel=>exact ⟨pre++[⟨k,d⟩],k+1,by rw [show (k+1)*44=E by omega];congr 1;omega,by omega,by rw [TI,H.out.2.2.1,TJ];rfl,f.out,by rw [ha];exact d1,C⟩
      case measure=>simp only [intOf];omega
    . have f:=hide s;clear s;gi_wp2;refine bodyPost_ret (results_none rfl _ _ _) rfl ?_;refine ⟨⟨_,rfl⟩,.inr ⟨pre++[⟨k,d⟩],?_,f.out⟩⟩;rw [TI,H.out.2.2.1];refine ⟨(Tm D).drop (k+1),?_⟩;show Tm k++[k]++_=_;rw [<- TJ];have:Tm (k+1)=(Tm D).take (k+1):=by rw [List.take_range,Nat.min_eq_left (by omega)]
      rw [this,TK]
  . have y:k=D:=(by omega);subst y;gi_wp2;go_end0
    exact ⟨⟨_,rfl⟩,.inl ⟨pre,b,c⟩⟩
theorem xH (n b1 b2 g D:Nat) (k:D<=1000) (w:Z0) (i:b1<w.heap.size) (j:b2<w.heap.size) (d:w.cell? ⟨b1,0,Z2⟩=Z1 (Z6 (Z1 ⟨g,0,Z2⟩) (D*44) (D*44))) (f:w.cell? ⟨b2,0,Z2⟩=Z1 (Z8 Z9 44)) :
 SeqStopsK Fence.wide n ZX 193 #[Z7 (Z1 ⟨b1,0,Z2⟩),Z7 (Z1 ⟨b2,0,Z2⟩)] (Eh g (D:=D)) (Q4 b1 b2) (λq=>q.map (·.1)=Tm D) (λpre=>pre.map (·.1)<+:Tm D) D w:=λl J b W a m _ o c=>
 CL n l b1 b2 g D k J b (λpre X h=>m pre X X.drew Z2 h ⟨rfl,rfl,rfl,Nat.le_refl _,λ_ _ _=>rfl⟩ (λr e=>by cases e)) o W ((a.cell (p:=⟨b1,0,Z2⟩) i).trans d) ((a.cell (p:=⟨b2,0,Z2⟩) j).trans f) c
theorem FB (g D:Nat) (w:Z0) :
 Calls ZX 183 #[Z6 (Z1 ⟨g,0,Z2⟩) (D*44) (D*44),Z8 Z9 44] w λe w'=>e=Z4 (.func (.func 193) #[] #[Z7 (Z1 ⟨w.heap.size,0,Z2⟩),Z7 (Z1 ⟨w.heap.size+1,0,Z2⟩)])/\w'=(w.alloc (Z5 #[Z6 (Z1 ⟨g,0,Z2⟩) (D*44) (D*44)] 34)).alloc (Z5 #[Z8 Z9 44] 3):=by
 generalize D*44=b;have c:∀ (a:Fn) (first cap:Array ZZ) (w:Z0),(Instr.makeFunc a first cap).run ZX w=.ok (.func a first cap) w:=λ_ _ _ _=>rfl;go_enter Tryz.func183,Tryz.ntmps183;go_wp2;go_ret;exact ⟨rfl,rfl⟩
end
section
open Gf
theorem JN (h:k<64):2^k<18446744073709551616:=Tn (Nat.pow_lt_pow_right (by decide) h) lR
theorem iF (x k:Nat) (c:x<18446744073709551616) (d:k<=60) (w:Z0):Calls ZX 131 #[Z8 .u64 x,Z8 Z9 k] w λe w'=>e=Z4 (Z8 .u64 ((x|||2^k:Nat):Int))/\w'=w:=by
 have key:bits .or .u64 (x:Int) (IntKind.u64.wrap (2^k))=((x|||2^k:Nat):Int):=by
  have b:=JN (k:=k) (by omega);have e:((2:Int)^k)=((2^k:Nat):Int):=by rw [Int.natCast_pow];rfl
  have a:IntKind.u64.wrap (2^k)=((2^k:Nat):Int):=by
   rw [e,IntKind.wrap_u64];generalize 2^k=q at *;omega
  rw [a];exact bits_or_u64_nat x (2^k) c b
 go_enter Tryz.func131,Tryz.ntmps131;go_wp2;go_ret;exact ⟨rfl,rfl⟩
end
section
open Go.Shelf Gf
attribute [local go_sem] Oper.semAt_some
def bK (K:Nat->Prop) (w:Z0) (v:ZZ) (l:List Nat):Prop:=
 ∃ ao c,v=.slice ao l.length c/\l.length<=1000000/\(l≠[]->∃ b off,ao=Z1 ⟨b,off,Z2⟩/\K b/\b<w.heap.size/\∀ i (hi:i<l.length),w.cell? ⟨b,off+i,Z2⟩=Z1 (Z8 Z9 ((l[i]:Nat):Int)))
structure Ob where
 name:ByteArray
 size:Nat
 stripes:List Nat
def gz (K:Nat->Prop) (w:Z0) (v:ZZ) (os:List Ob):Prop:=
 ∃ ao c,v=.slice ao os.length c/\os.length<=1000000/\(os≠[]->∃ b off,ao=Z1 ⟨b,off,Z2⟩/\K b/\b<w.heap.size/\∀ i (hi:i<os.length),∃ sv,
  w.cell? ⟨b,off+i*3,Z2⟩=Z1 (.string os[i].name)/\w.cell? ⟨b,off+i*3+1,Z2⟩=Z1 (Z8 Z9 (os[i].size:Nat))/\w.cell? ⟨b,off+i*3+2,Z2⟩=Z1 sv/\bK K w sv os[i].stripes)
def eM (K:Nat->Prop) (w w':Z0):Prop:=w.heap.size<=w'.heap.size/\∀ k,k<w.heap.size->K k->w'.heap[k]?=w.heap[k]?
theorem eM.refl (K:Nat->Prop) (w:Z0):eM K w w:=⟨Nat.le_refl _,λ_ _ _=>rfl⟩
theorem eM.trans {a b c:Z0} (h:eM K a b) (k:eM K b c):eM K a c:=⟨Ts h.1 k.1,λi d e=>(k.2 i (Tn d h.1) e).trans (h.2 i d e)⟩
theorem eM.of_below (h:ZY w.heap.size w w'):eM K w w':=⟨h.size,λk a _=>h.block k a⟩
theorem bK.keep {v:ZZ} {l:List Nat} (h:bK K w v l) (a:eM K w w'):bK K w' v l:=by
 obtain ⟨f,c,g,j,k⟩:=h;refine ⟨f,c,g,j,λn=>?_⟩;obtain ⟨b,off,o,d,e,p⟩:=k n;exact ⟨b,off,o,d,Tn e a.1,λi m=>(World.cell?_of_block (a.2 b e d)).trans (p i m)⟩
theorem gz.keep {v:ZZ} {os:List Ob} (h:gz K w v os) (d:eM K w w'):gz K w' v os:=by
 obtain ⟨g,c,j,k,l⟩:=h;refine ⟨g,c,j,k,λn=>?_⟩;obtain ⟨b,off,o,e,f,p⟩:=l n;refine ⟨b,off,o,e,Tn f d.1,λi m=>?_⟩;obtain ⟨u,q,r,s,t⟩:=p i m;have a:=d.2 b f e;exact ⟨u,(World.cell?_of_block a).trans q,(World.cell?_of_block a).trans r,(World.cell?_of_block a).trans s,t.keep d⟩
theorem bK.nil (K:Nat->Prop) (w:Z0):bK K w (Z6 Z2 0 0) []:=⟨Z2,0,rfl,by decide,λh=>absurd rfl h⟩
theorem gz.nil (K:Nat->Prop) (w:Z0):gz K w (Z6 Z2 0 0) []:=⟨Z2,0,rfl,by decide,λh=>absurd rfl h⟩
def ai (os:List Ob):List Nat:=os.flatMap (·.stripes)
theorem Di (os:List Ob) (k:Nat) (a:k<os.length):ai (os.take (k+1))=ai (os.take k)++os[k].stripes:=by
 have e:os.take (k+1)=os.take k++[os[k]]:=by rw [Tt,Tp a];rfl
 rw [e];unfold ai;rw [TL];simp
def px (x:Nat):Array ZZ:=#[Z8 Z9 (x:Int)]
theorem AD {os:List Ob} (m:Nat) (b:k<os.length):ai (os.take k)++(os[k].stripes).take m<+:ai os:=by
 have a:ai os=ai (os.take k)++(os[k].stripes++ai (os.drop (k+1))):=by
  have e:ai (os.take k++os[k]::os.drop (k+1))=ai (os.take k)++(os[k].stripes++ai (os.drop (k+1))):=by unfold ai;rw [TL,List.flatMap_cons]
  rwa [<- List.drop_eq_getElem_cons b,TK] at e
 rw [a];refine (TM _).2 ?_;exact (List.take_prefix m _).trans (List.prefix_append _ _)
theorem lG (K:Nat->Prop) (n l b1:Nat) (v:ZZ) (os:List Ob) (J V:List Nat->Z0->Prop) (k6:∀ pre A B,J pre A->ZY A.heap.size A B->J pre B)
 (G:List Nat) (hY:∀ pre x W,J pre W->pre++[x]<+:G->YieldAt Fence.wide (n-1) ZX l (px x) W λe g=>(e=Z4 (.bool true)/\J (pre++[x]) g/\eM K W g)\/(e=Z4 (.bool false)/\V (pre++[x]) g))
 (a:List Nat) (k7:a++ai os<+:G) (W:Z0) (L:W.cell? ⟨b1,0,Z2⟩=Z1 v) (N:gz K W v os) (X:J a W) :
 CallsIn Fence.wide n ZX 150 #[.func (.yield l) #[] #[],Z7 (Z1 ⟨b1,0,Z2⟩)] W λe g=>(∃ v,e=Z4 v) /\
  ((J (a++ai os) g)\/(∃ pre,pre<+:ai os/\V (a++pre) g)):=by
 obtain ⟨ao,c,rfl,ka,t⟩:=id N;refine callsIn_of_wp Tryz.func150 rfl trivial ?_ rfl;simp only [Tryz.ntmps150,Tu,Tv,Tw,Tx,Ty,Tz,TA,TB,TC,TD,TE];have U:=hide2 N X;clear N X t;gi_wp2;gi_loopw [9] (λp wr=>∃ k:Nat,p=Z8 Z9 (k:Nat)/\k<=os.length/\J (a++ai (os.take k)) wr/\gz K wr (.slice ao os.length c) os)
  (λp _=>os.length-(intOf p).toNat)
 case atStart=>
  exact ⟨0,rfl,To _,by simpa [ai] using U.out.2,U.out.1⟩
 case round=>
  obtain ⟨k,rfl,hk,r,z⟩:=hrel;by_cases i:k<os.length
  . obtain ⟨hd,c',o,_,t⟩:=id z;obtain ⟨b,off,I,kh,ki,hx⟩:=t (λe=>by rw [e] at i;simp at i);simp only [Value.slice.injEq] at o;obtain ⟨rfl,_,rfl⟩:=o;subst I;obtain ⟨sv,r1,r2,r3,F⟩:=hx k i;obtain ⟨so,sc,rfl,ke,s⟩:=id F;obtain ⟨st,R⟩:=nM (os[k].stripes);obtain ⟨NN,Z⟩:=nM (os.length);obtain ⟨nm,hz⟩:=nM (os[k].name);obtain ⟨sz,k5⟩:=nM (((os[k].size:Nat):Int));rw [R] at r3 F ke s;rw [hz] at r1;rw [k5] at r2;have kb:(k:Int)<(NN:Int):=(by omega);have H:=hide5 r z F R Z;clear r z t hx F s R Z hz k5;gi_wp2;obtain ⟨wx,S⟩:=nM (wr.alloc (Z5 #[.string nm,Z8 Z9 sz,.slice so st.length sc] 123));have D:ZY wr.heap.size wr wx:=(by rw [<- S];exact bA wr _);rw [S];clear S;have hv:=k6 _ _ _ H.out.1 D;have hr:=H.out.2.1.keep (eM.of_below D);have hs:=H.out.2.2.1.keep (eM.of_below D);gi_loopw [16] (λp T=>∃ m:Nat,p=Z8 Z9 (m:Nat)/\m<=st.length/\J (a++(ai (os.take k)++st.take m)) T/\gz K T (Z6 (Z1 ⟨b,off,Z2⟩) os.length c) os/\bK K T (.slice so st.length sc) st)
     (λp _=>st.length-(intOf p).toNat)
    case atStart=>
     exact ⟨0,rfl,To _,by simpa using hv,hr,hs⟩
    case round=>
     clear hv hr hs D;obtain ⟨m,rfl,hm,f,w,C⟩:=hrel;by_cases q:m<st.length
     . obtain ⟨kk,kj,o,_,s⟩:=id C;obtain ⟨b2,hb,I,kg,k8,Y⟩:=s (λe=>by rw [e] at q;simp at q);simp only [Value.slice.injEq] at o;obtain ⟨rfl,_,rfl⟩:=o;subst I;have g1:=Y m q;obtain ⟨y,E⟩:=nM (st[m]);rw [E] at g1;have k0:(a++(ai (os.take k)++st.take m))++[y]<+:G:=by
        have L:=AD (os:=os) (m+1) i;rw [H.out.2.2.2.1,Tt,Tp q,E] at L;have h2:=((TM a).2 L).trans k7;simpa using h2
       obtain ⟨fn,tmps,assign,body,kf,hR⟩:=hY _ y _ f k0;clear k0;unfold px at kf;have d:=hide5 f w C hR E;clear f w C hR s Y E;gi_wp2;refine ⟨λh=>(by cases h),d.out.2.2.2.1.mono ?_⟩;have u:a++(ai (os.take k)++st.take m)++[y]=a++(ai (os.take k)++st.take (m+1)):=by
        have e:st.take (m+1)=st.take m++[y]:=(by rw [Tt,Tp q,d.out.2.2.2.2];rfl);rw [e];simp
       rintro e W3 (⟨rfl,P,Q⟩|⟨rfl,M⟩)
       . rw [u] at P;have j:=hide3 P (d.out.2.1.keep Q) (d.out.2.2.1.keep Q);clear P Q u;gi_wp2;go_roundw
         case rel=>exact ⟨m+1,by go_num,by omega,j.out.1,j.out.2.1,j.out.2.2⟩
         case measure=>simp only [intOf];omega
       . rw [u] at M;have j:=hide M;clear M u;gi_wp2;refine bodyPost_ret (results_none rfl _ _ _) rfl ?_;have hp:=AD (os:=os) (m+1) i;rw [H.out.2.2.2.1] at hp;exact ⟨⟨_,rfl⟩,.inr ⟨_,hp,j.out⟩⟩
     . have kc:m=st.length:=(by omega);subst kc;rw [TF] at f;have O:=Di os k i;rw [H.out.2.2.2.1] at O;rw [<- O] at f;have d:=hide2 f w;clear f w C O;gi_wp2;go_roundw
       case rel=>exact ⟨k+1,by go_num,by omega,d.out.1,d.out.2⟩
       case measure=>simp only [intOf];omega
  . have k9:k=os.length:=(by omega);subst k9;rw [TF] at r;have HJ:=hide r;clear r z;gi_wp2;go_end0
    exact ⟨⟨_,rfl⟩,.inl HJ.out⟩
theorem MV {α:Type} {pre l:List α} {x:α} (h:pre++[x]<+:l):pre.length<l.length:=by
 have:=h.length_le;rw [TN,List.length_singleton] at this;omega
theorem sK (K:Nat->Prop) (n l b1:Nat) (v:ZZ) (os:List Ob) (J c:List Nat->Z0->Prop) (g:∀ pre A B,J pre A->ZY A.heap.size A B->J pre B)
 (N:Nat) (j:∀ pre x W,J pre W->pre.length<N->YieldAt Fence.wide (n-1) ZX l (px x) W λe b=>(e=Z4 (.bool true)/\J (pre++[x]) b/\eM K W b)\/(e=Z4 (.bool false)/\c (pre++[x]) b))
 (a:List Nat) (m:a.length+(ai os).length<=N) (W:Z0) (f:W.cell? ⟨b1,0,Z2⟩=Z1 v) (i:gz K W v os) (d:J a W) :
 CallsIn Fence.wide n ZX 150 #[.func (.yield l) #[] #[],Z7 (Z1 ⟨b1,0,Z2⟩)] W λe b=>(∃ v,e=Z4 v) /\
  ((J (a++ai os) b)\/(∃ pre,pre<+:ai os/\c (a++pre) b)):=
 lG K n l b1 v os J c g (a++ai os) (λpre x W h k=>j pre x W h (by have:=MV k;rw [TN] at this;omega)) a (List.prefix_refl _) W f i d
end
section
open Go.Deep
theorem Dj {A:aB} (h:aq w p A F):Calls ZX 66 #[Z7 (Z1 ⟨p,0,Z2⟩)] w λe w'=>e=Z4 (Z8 Z9 A.n)/\w'=w:=by
 obtain ⟨a,c1,_,_⟩:=h.p_cells;go_enter Tryz.func66,Tryz.ntmps66;go_wp2;go_ret;exact ⟨rfl,rfl⟩
theorem sN {A:aB} (h:aq w p A F) (a:0<A.n):Calls ZX 39 #[Z7 (Z1 ⟨p,0,Z2⟩)] w λe w'=>e=Z4 (Z8 Z9 A.nb)/\w'=w:=by
 obtain ⟨b,c1,_,_⟩:=h.p_cells;obtain ⟨c,d1,d,f⟩:=h.drvs 0 a;have g:¬ (A.n:Int)=0:=by omega
 have i:¬ A.n=0:=by omega
 have j:(0:Int)<(A.n:Int):=by omega
 rw [Nat.zero_mul,Nat.zero_add] at d1;go_enter Tryz.func39,Tryz.ntmps39;go_wp2;go_ret;exact ⟨rfl,rfl⟩
theorem JO {A:aB} (h:ay w p A F) (b:A.fit) (d:Nat) (a:d<A.n):Calls ZX 8 #[Z7 (Z1 ⟨p,0,Z2⟩),Z8 Z9 d] w λe w'=>e=Z4 (.tuple #[])/\ay w' p (A.setLost d true) F/\aa (F.has p A.n) w w':=by
 obtain ⟨c,c1,_,_⟩:=h.p_cells;obtain ⟨f,d1,g,i⟩:=h.drvs d a;have o:=b.n;have m:=h.unfrozen (d*4);have j:¬ (d:Int)<0:=by omega
 have k:(0:Int)<=(d:Int):=by omega
 have l:(d:Int)<(A.n:Int):=by omega
 go_enter Tryz.func8,Tryz.ntmps8;go_wp2;first|go_end0|skip
 exact ⟨rfl,h.setLost d true,aa.setCell _ _ _ (.inr (.inl rfl))⟩
theorem JP {A:aB} (h:aq w p A F) (_hf:A.fit) (d:Nat) (i:d<A.n):Calls ZX 8 #[Z7 (Z1 ⟨p,0,Z2⟩),Z8 Z9 d] w λe w'=>e=Z4 (.tuple #[])/\aq w' p (A.setLost d true) F/\aa (F.has p A.n) w w':=by
 obtain ⟨R,f,b,a⟩:=h;refine (JO f b d (by rw [a.n];exact i)).mono ?_;rintro e w' ⟨rfl,g,c⟩;rw [a.n] at c;exact ⟨rfl,⟨_,g,b.setLost _ _,a.lose d⟩,c⟩
end
section
open Go.Deep Gf
def zk (P:List St):Nat:=P.foldl (λs t=>if t.k=0 then s|||2^t.b.toNat else s) 0
theorem Bt (P:List St) (t:St):zk (P++[t])=if t.k=0 then zk P|||2^t.b.toNat else zk P:=by unfold zk;rw [List.foldl_append];rfl
theorem KD (a:k<P.length):zk (P.take (k+1))=if P[k].k=0 then zk (P.take k)|||2^P[k].b.toNat else zk (P.take k):=by
 rw [Tt,Tp a,Option.toList_some,Bt]
theorem ry (P:List St) (i:Nat):(zk P).testBit i=true↔∃ s∈P,s.k=0/\s.b.toNat=i:=by
 obtain ⟨Q,rfl⟩:∃ Q,P=Q.reverse:=⟨P.reverse,by simp⟩;induction Q with
 | nil=>simp [zk]
 | cons t Q ih=>
  rw [List.reverse_cons,Bt];by_cases h:t.k=0
  . rw [if_pos h,Nat.testBit_or,Nat.testBit_two_pow,Bool.or_eq_true,ih,decide_eq_true_eq];constructor
    . rintro (⟨s,a,c⟩|a)
      . exact ⟨s,TO _ a,c⟩
      . exact ⟨t,by simp,h,a⟩
    . rintro ⟨s,a,c,d⟩;rcases Tq.1 a with q|q
      . exact .inl ⟨s,q,c,d⟩
      . rw [Tr] at q;exact .inr (by rw [<- q];exact d)
  . rw [if_neg h,ih];constructor
    . rintro ⟨s,a,c⟩;exact ⟨s,TO _ a,c⟩
    . rintro ⟨s,a,c⟩;rcases Tq.1 a with q|q
      . exact ⟨s,q,c⟩
      . rw [Tr] at q;exact absurd (q▸c.1) h
theorem KE (h:∀ s∈P,s.k=0->s.b.toNat<16):zk P<65536:=by
 refine Nat.lt_pow_two_of_testBit (n:=16) _ λi e=>?_;cases hb:(zk P).testBit i
 . rfl
 . obtain ⟨s,a,c,d⟩:=(ry P i).1 hb;have:=h s a c;omega
def R6 (w:Z0) (P:List St) (lv iv:ZZ) (wr:Z0):Prop:=∃ k:Nat,k<=P.length/\iv=Z8 Z9 k/\lv=Z8 .u64 (zk (P.take k):Nat)/\ZY w.heap.size w wr
theorem GR (d:Int) {v:ZZ} {P:List St} {w:Z0} (h:Ps .u8 w v P) (z:∀ s∈P,s.k=0->0<=s.b/\s.b<16) (Q:P.length<=5000) :
 Calls ZX 145 #[.agg #[Z8 Z9 d,v]] w λe w'=>e=Z4 (Z8 .u64 (zk P:Nat))/\ZY w.heap.size w w':=by
 obtain ⟨j,c,rfl⟩:=h.slice;have p:ZY w.heap.size w (w.alloc (Z5 #[Z8 Z9 d,.slice j P.length c] 210)):=bA w _;have q:(w.alloc (Z5 #[Z8 Z9 d,.slice j P.length c] 210)).heap[w.heap.size]?=Z1 (Z5 #[Z8 Z9 d,.slice j P.length c] 210 (0,0)):=blk_alloc_new _ _;obtain ⟨w1,y⟩:=nM (w.alloc (Z5 #[Z8 Z9 d,.slice j P.length c] 210));rw [y] at p q;have k1:w1.cell? ⟨w.heap.size,1,Z2⟩=Z1 (.slice j P.length c):=by simp [World.cell?,q]
 have H:=hide3 p h z;clear p q h z;go_enter Tryz.func145,Tryz.ntmps145;go_wp2;go_loopw [3,9] (λJ r wr=>R6 w P J r wr) (λ_ r _=>P.length-(intOf r).toNat)
 case atStart=>exact ⟨0,To _,rfl,rfl,H.out.1⟩
 case round=>
  clear k1 y;rename Z0=>wo;obtain ⟨k,O,rfl,rfl,g⟩:=hrel;by_cases n:k<P.length
  . rcases (H.out.2.1.mono g).cases with ⟨rfl,_⟩|⟨b,off,K,e,_,A⟩
    . simp at n
    simp at e;obtain ⟨rfl,rfl⟩:=e;obtain ⟨L,d1,M,N⟩:=A k n;have u:=g.alloc g.size (Z5 #[Z8 .u8 P[k].k,Z8 Z9 P[k].a,Z8 Z9 P[k].b,Z8 .u8 P[k].c] 284);have m:=hide (KD n);have C:=hide (H.out.2.2 _ (List.getElem_mem n));have E:=hide (KE (P:=P.take k) (λs I D=>by have:=H.out.2.2 s (List.mem_of_mem_take I) D;omega));have l:=hide u;clear A g u;generalize P[k].k=t at *;generalize P[k].b=B at *;by_cases i:t=0
    . have tk:((t:Int)==0)=true:=(by simp [i]);have R:=C.out i;have f:=m.out;rw [if_pos i] at f;have o:=hide f;clear i f m;obtain ⟨x,rfl⟩:∃ x:Nat,B=(x:Int):=⟨B.toNat,by omega⟩;go_wp2_with fail;refine (iF (zk (P.take k)) x (by have:=E.out;omega) (by omega) _).mono ?_;rintro e S ⟨rfl,G⟩;subst G;go_wp2;go_roundw
      case rel=>exact ⟨k+1,by omega,by go_num,by rw [o.out,Int.toNat_natCast],l.out⟩
      case measure=>simp [intOf]<;>omega
    . have tk:((t:Int)==0)=false:=(by simp;omega);have f:=m.out;rw [if_neg i] at f;have o:=hide f;clear i f m;go_wp2;go_roundw
      case rel=>exact ⟨k+1,by omega,by go_num,by rw [o.out],l.out⟩
      case measure=>simp [intOf]<;>omega
  . have F:k=P.length:=(by omega);subst F;rw [TF];have l:=hide g;clear g;go_wp2;go_ret;exact ⟨rfl,l.out⟩
end
section
open Go.ChangeShapes Go.WideShapes
abbrev ue:List (String×DataW Unit):=[("math/bits.deBruijn64tab",Rows.laid_math_bits_deBruijn64tab),("errors.errorType",Rows.laid_errors_errorType),("stripes/record.halves",Rows.laid_stripes_record_halves)]
def EM:List Int:=(Tm 64).map λj=>((Lib.deBruijn64tab.getD j 0:Nat):Int)
def rz:List Int:=dS.map λ(x:Nat)=>(x:Int)
theorem Tryz.bt3:ZX.globalNamed "math/bits.deBruijn64tab"=Z1 1:=by kernel_rfl
theorem Tryz.bt3Type:(ZX.globals[1]?).map (·.type)=Z1 134:=by kernel_rfl
theorem Tryz.bt3Cells:ZX.cellsOf 134=64:=by kernel_rfl
theorem Tryz.byteCells3:ZX.cellsOf 5=1:=by kernel_rfl
theorem Tryz.hv3:ZX.globalNamed "stripes/record.halves"=Z1 2:=by kernel_rfl
theorem Tryz.hv3Type:(ZX.globals[2]?).map (·.type)=Z1 312:=by kernel_rfl
theorem Tryz.hv3Cells:ZX.cellsOf 312=16:=by kernel_rfl
theorem Tryz.u32Cells3:ZX.cellsOf 296=1:=by kernel_rfl
theorem Hg:(Rows.laid_math_bits_deBruijn64tab:DataW Unit)=Lib.tabData .u8 EM:=by rfl
theorem K5:(Rows.laid_stripes_record_halves:DataW Unit)=Lib.tabData .u32 rz:=by rfl
theorem Hh {P:Program} {x:String×DataW Unit} {r:List (String×DataW Unit)} (h:laidMet P (x::r) w):laidMet P r w:=by
 obtain ⟨ps,i,c,a⟩:=h;obtain ⟨n,d⟩:=x;obtain ⟨g,t,cs,fuel,p,q,_,_,_,_,f,rfl⟩:=i;exact ⟨q,f,List.Nodup.sublist (List.sublist_append_right _ _) c,λb off e=>a b off (List.mem_append_right _ e)⟩
theorem BJ {W:Z0} (h:laidMetH ZX ue W):cE W/\aJ W/\bj W/\3<=W.heap.size:=by
 have d:laidMet ZX [("math/bits.deBruijn64tab",Rows.laid_math_bits_deBruijn64tab),("stripes/record.halves",Rows.laid_stripes_record_halves)] W/\handlesMet ZX [("errors.errorType",Rows.laid_errors_errorType)] W:=h;have m:cE W:=sE (show laidMetH ZX [("errors.errorType",Rows.laid_errors_errorType)] W from ⟨⟨[],rfl,List.nodup_nil,λb off l=>by cases l⟩,d.2⟩);have c:=d.1;have e:=Hh c;rw [Hg] at c;rw [K5] at e;have p:=Lib.tabIs_of_head Tryz.bt3 Tryz.bt3Type Tryz.underlying134 Tryz.underlying5 Tryz.byteCells3 Tryz.bt3Cells c;have n:=Lib.tabIs_of_head Tryz.hv3 Tryz.hv3Type Tryz.underlying312 Tryz.underlying296 Tryz.u32Cells3 Tryz.hv3Cells e;have g:aJ W:=λj a=>by
  have:=p.cell Tryz.bt3 j (by simpa [EM] using a);rw [this];unfold EM;simp [a]
 have f:bj W:=λj a=>by
  have o:dS.length=16:=rfl;have:=n.cell Tryz.hv3 j (by unfold rz;rw [List.length_map,o];exact a);rw [this];unfold rz;congr 2;rw [TP,TP,List.getElem?_map,Tp (by omega)];rfl
 refine ⟨m,g,f,?_⟩;have i:=block_lt_of_cell (g 0 (by decide));have k:=block_lt_of_cell (f 0 (by decide));have q:1<W.heap.size:=i;have r:2<W.heap.size:=k;omega
noncomputable def uf (os:Os):Z0:=
 { World.holding ZX os ⟨#[],#[],[]⟩ with heap:=(((World.holding ZX os ⟨#[],#[],[]⟩).heap.modify 0 fun|Z5 _ t frozen=>Z5 #[.iface 148 (.agg #[Z7 (Z1 ⟨3,63,Z2⟩)])] t frozen|o=>o).modify 1 fun|Z5 _ t frozen=>Z5 (EM.map λz=>Value.int .u8 z).toArray t frozen|o=>o).modify 2 fun|Z5 _ t frozen=>Z5 (rz.map λz=>Value.int .u32 z).toArray t frozen|o=>o }
theorem ug (os:Os) (args:Array ZZ):laidMetH ZX ue ((uf os).forCall (λ_ _=>0) ⟨#[],args,[]⟩).memory:=
 laidMetH_of_parts (laidMet_of_run' 8 (by kernel_rfl) (by kernel_rfl)) (by kernel_rfl)
theorem BK {H:Type} {enc:TypeId×ZZ->H} {P:Program} {spare:Nat->Bool} {held:Bool} {t0 t1 t2 t3 t4:TypeId} {v0 v1 v2 v3 v4:ZZ} {d0 d1 d2 d3 d4:DataW H} {p0 p1 p2 p3 p4:List MemPlace} (a:DataW.Trod enc P w base spare held t0 v0 d0 p0) (b:DataW.Trod enc P w base spare held t1 v1 d1 p1) (c:DataW.Trod enc P w base spare held t2 v2 d2 p2) (d:DataW.Trod enc P w base spare held t3 v3 d3 p3) (e:DataW.Trod enc P w base spare held t4 v4 d4 p4) :
 DataW.TrodAll enc P w base spare held [t0,t1,t2,t3,t4] [v0,v1,v2,v3,v4] [d0,d1,d2,d3,d4] (p0++(p1++(p2++(p3++p4)))):=⟨p0,p1++(p2++(p3++p4)),a,trodAll_mk4 b c d e,rfl⟩
end
end Go.Proofs.YtfbmmcnpjhmjaaaGreatDoor
