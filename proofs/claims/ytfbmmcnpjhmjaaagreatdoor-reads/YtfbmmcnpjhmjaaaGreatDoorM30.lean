import Derived.Test.YtfbmmcnpjhmjaaaGreatDoorM29
import Derived.Test.YtfbmmcnpjhmjaaaGreatDoorM24
set_option maxRecDepth 100000
set_option maxHeartbeats 8000000
open Go.IntKind renaming i64 -> Z9, u64 -> Z8
open Go.Value renaming int -> Z7, pointer -> Z6, slice -> Z5
open Go.Obj renaming cells -> Z4
open Go renaming undef -> Z3, World -> Z0
open Option renaming none -> Z2, some -> Z1
open List renaming length_map -> Tm, range -> Tp, length_append -> Tq, map_append -> Ts, getElem?_append_left -> Tt, range_succ -> Tx, map_singleton -> Ty, size_toArray -> Tz, getElem?_map -> TA, length_range -> TB, getElem?_append_right -> TC, getElem?_eq_getElem -> TD, length_cons -> TE, length_singleton -> TF, append_assoc -> TH
open Nat renaming le_trans -> Tn, le_refl -> Tr, mul_le_mul -> TG
open Array renaming getElem?_eq_some_iff -> To, getElem?_eq_getElem -> Tu, size_modify -> Tv, getElem_modify_self -> Tw
open Go.Proofs.Tryz renaming prog -> ZZ
namespace Go.Proofs.YtfbmmcnpjhmjaaaGreatDoor
open Go.RowKit Go.Deep Gf
variable {a:Act} {ops:Array Oper} {C:Ck} {Q:Exit->Act->Z0->Prop} {regs:Int} {rest:List Oper} {pre:List Sh} {L:List St} {xs:List Value} {b n n0 k Bg g' cap' B i kept R D:Nat} {ob:Obj} {o:Oper} {row:Option Nat} {x:Sh} {s:St} {t:TypeId} {v u y:Value} {w w2 X Y:Z0}
def LM (m:Nat->Nat->Nat) (q:Nat) (src:List Nat):Nat->Nat->Nat:=λr j=>if r=q/\j<src.length then src.getD j 0 else m r j
theorem Ai (A:o.guard=Z2) (d s:Operand)
 (ho:o.op=.call { callee:=.builtin .copy,args:=#[d,s],argTypes:=#[34,34] }) (b q:Nat) (v:Value) (hd:a.eval d=Z5 (Z1 ⟨b,q*16,Z2⟩) 16 16) (hs:a.eval s=v)
 (C:Ck) (src:List Nat) (hC:aD w b C) (hq:q<8) (hS:Bs w v src) (h8:src.length<=16)
 (h:∀ w',aD w' b ⟨LM C.m q src,C.told,C.count⟩->Below b w w'->wpList ZZ ops Q rest (a.put o.dst (goInt src.length)) w'):wpList ZZ ops Q (o::rest) a w:=by
 obtain ⟨t,c,rfl,K,L,M,y⟩:=hS;refine wpList_copy_splice A d s 34 34 ho 5 Tryz.underlying34 (by kernel_rfl) (Z1 ⟨b,q*16,Z2⟩) t 16 16 src.length c hd hs b (q*16) _ 319 hC.heap (src.map (λx=>Value.int .u8 ((x:Nat):Int))) ?_ ?_ ?_ ?_ b w (Below.refl _ _) lR ?_
 . rw [Tm];show src.length=min src.length 16;omega
 . intro l;rw [Tm] at l;obtain ⟨J,off,rfl,E⟩:=y (by intro e;rw [e] at l;simp at l);refine ⟨rfl,_,rfl,λj u k=>?_⟩;have g:j<src.length:=by
    obtain ⟨q,_⟩:=List.getElem?_eq_some_iff.1 k;simpa using q
   rw [Addr.add_mid,E j g];simp [g] at k;simp [g,k]
 . simp;omega
 . intro u F;obtain ⟨x,_,rfl⟩:=List.mem_map.1 F;rfl
 . intro w' B z;have G:=B.out;rw [Tm];refine h w' ⟨_,G,?_,λi r=>?_⟩ z
   . rw [Tz,length_splice _ _ _ (by simp;omega)];simp
   . unfold splice;rw [List.getElem?_toArray];have p:∀ x,x<130->((Tp 130).map (nE C))[x]?=Z1 (nE C x):=λx H=>by rw [TA,List.getElem?_range H];rfl
     have D:((Tp 130).map (nE C)).length=130:=(by rw [Tm,TB]);by_cases I:i<q*16
     . rw [Tt (by simp;omega),List.getElem?_take,if_pos I,p i r];congr 1;unfold nE;rw [if_pos (by omega),if_pos (by omega)];show _=Value.int .u8 ((LM C.m q src (i/16) (i%16):Nat):Int);unfold LM;rw [if_neg (by omega)]
     . have n:(((Tp 130).map (nE C)).take (q*16)).length=q*16:=(by rw [List.length_take,D];omega);rw [TC (by rw [n];omega),n];by_cases N:i<q*16+src.length
       . rw [Tt (by simp;omega)];have f:i-q*16<src.length:=(by omega);rw [TA,TD f];simp only [Option.map_some];congr 1;unfold nE;rw [if_pos (by omega)];show _=Value.int .u8 ((LM C.m q src (i/16) (i%16):Nat):Int);unfold LM;rw [if_pos (by omega),show i%16=i-q*16 by omega,List.getD_eq_getElem?_getD,TD f];rfl
       . rw [TC (by simp;omega)];simp only [Tm];rw [List.getElem?_drop,show q*16+src.length+(i-q*16-src.length)=i by omega,p i r];congr 1;unfold nE;by_cases f:i<128
         . rw [if_pos f,if_pos f];show _=Value.int .u8 ((LM C.m q src (i/16) (i%16):Nat):Int);unfold LM;rw [if_neg (by omega)]
         . rw [if_neg f,if_neg f]
theorem CX (h:aD w b C) (q i v:Nat) (d:q<8) (c:i<16):aD (w.setCell ⟨b,q*16+i,Z2⟩ (Z7 .u8 (v:Int))) b ⟨λr j=>if r=q/\j=i then v else C.m r j,C.told,C.count⟩:=
 (h.set (q*16+i) (Z7 .u8 (v:Int))).congr (λx f=>by
  unfold nE;by_cases e:x=q*16+i
  . rw [if_pos e,if_pos (by omega)];show _=Value.int .u8 ((if x/16=q/\x%16=i then v else _:Nat):Int);rw [if_pos (by omega)]
  . rw [if_neg e];by_cases a:x<128
    . rw [if_pos a,if_pos a];show _=Value.int .u8 ((if x/16=q/\x%16=i then v else C.m (x/16) (x%16):Nat):Int);rw [if_neg (by omega)]
    . rw [if_neg a,if_neg a])
def mf (M:List (List Nat)) (i j:Nat):Nat:=(M.getD i []).getD j 0
theorem Jk (M:Nat->Nat->Nat) (D:Nat):ck0 M D 0=dC:=by
 unfold ck0 dC;congr 1
theorem Jl (M:List (List Nat)) (D k:Nat) (c:(M.getD (D+k) []).length=D) :
 (⟨λr j=>if r=k/\j=D+k then 1 else LM (ck0 (mf M) D k).m k (M.getD (D+k) []) r j,0,k+1⟩:Ck)=ck0 (mf M) D (k+1):=by
 unfold ck0;congr 1;funext r j;show (if r=k/\j=D+k then 1 else (if r=k/\j<(M.getD (D+k) []).length then (M.getD (D+k) []).getD j 0 else (if r<k then (if j<D then mf M (D+r) j else if j=D+r then 1 else 0) else 0)))=(if r<k+1 then (if j<D then mf M (D+r) j else if j=D+r then 1 else 0) else 0);rw [c];by_cases e:r=k
 . subst e;by_cases a:j=D+r
   . simp [a];intro h;omega
   . by_cases b:j<D
     . simp [a,b,mf]
     . simp [a,b]
 . by_cases a:r<k
   . simp [e,a,show r<k+1 by omega]
   . simp [e,a,show ¬ r<k+1 by omega]
def Q9 (w:Z0) (M:List (List Nat)) (D:Nat) (i:Value) (wr:Z0):Prop:=
 ∃ k:Nat,D+k<=M.length/\i=Z7 Z9 (k:Int)/\aD wr (w.heap.size+1) (ck0 (mf M) D k)/\aD wr w.heap.size dC/\Below w.heap.size w wr
theorem xO (b off c:Nat) (M:List (List Nat)) (D:Nat) (w:Z0) (k6:M.length<=c) (J:∀ i (hi:i<M.length),∃ u,w.cell? ⟨b,off+i,Z2⟩=Z1 u/\Bs w u M[i]) (hD:1<=D) (kb:D<M.length) (ka:M.length<=16) (hP:M.length<=D+8) (E:∀ i,i<M.length->(M.getD i []).length=D) :
 Calls ZZ 202 #[Z5 (Z1 ⟨b,off,Z2⟩) M.length c,Z7 Z9 D] w λe w'=>e=.returned (.agg (aV (ck0 (mf M) D (M.length-D))))/\Below w.heap.size w w':=by
 have hz:=zeroCk;have Q:=aY dC;have kc:(D:Int)<=(M.length:Int):=by omega
 have kf:c-D≠0:=by omega
 have k0:¬ c<=D:=by omega
 have k5:D<c:=by omega
 have L:=hide J;have C:=hide E;clear J E;have K:Q9 w M D (Z7 Z9 (0:Nat)) ((w.alloc (Z4 (aV dC) 319)).alloc (Z4 (aV dC) 319)):=by
  refine ⟨0,by omega,rfl,?_,(aD.new w dC).keep (Below.heap_alloc _ _ _ (by simp)),(bA _ _).alloc (by simp) _⟩;rw [Jk];have h:=aD.new (w.alloc (Z4 (aV dC) 319)) dC;rw [World.size_alloc] at h;exact h
 have F:=hide K;clear K;go_enter Tryz.func202,Tryz.ntmps202;go_wp2;clear hz Q;go_loopw [12] (λi wr=>Q9 w M D i wr) (λi _=>(M.length-D)-(intOf i).toNat)
 case atStart=>exact F.out
 case round=>
  clear F;rename Z0=>wo;obtain ⟨k,hk,rfl,z,A,f⟩:=hrel;by_cases x:D+k<M.length
  . have k7:(k:Int)<((M.length-D:Nat):Int):=(by omega);obtain ⟨u,B,H⟩:=L.out (D+k) x;have ki:wo.cell? ⟨b,off+D+k,Z2⟩=Z1 u:=(by rw [Nat.add_assoc,f.cell (block_lt_of_cell B)];exact B);have G:=H.mono f;have n:=C.out (D+k) x;have o:M.getD (D+k) []=M[D+k]:=(by simp [x]);rw [o] at n;have y:=Jl M D k (by rw [o];exact n);rw [o] at y;have kh:=λw'=>oZ w' (w.heap.size+1) (k*16);have kg:(k:Int)<8:=(by omega);have ke:(D:Int)+(k:Int)<16:=(by omega);have kk:wrap64 ((D:Int)+(k:Int))=((D+k:Nat):Int):=(by unfold wrap64;omega);have k9:IntKind.i64.wrap ((D:Int)+(k:Int))=((D+k:Nat):Int):=(by rw [IntKind.wrap_i64];omega);have kj:wrap64 ((k:Int)+1)=((k+1:Nat):Int):=(by unfold wrap64;omega);have k8:IntKind.i64.wrap ((k:Int)+1)=((k+1:Nat):Int):=(by rw [IntKind.wrap_i64];omega);have V:=hide y;have g:=hide G;have t:=hide z;have l:=hide A;have S:=hide f;have W:=hide n;clear y G z A f H B C o n;generalize M[D+k]=row at *;go_wp2_with (refine Ai rfl (.tmp 20) (.tmp 21) rfl (w.heap.size+1) k _ rfl rfl _ row t.out (by omega) g.out (by have:=W.out;omega) ?_;intro w2 a d;have c1:=a.at k (D+k) (by omega) (by omega);have f1:=a.frozen (k*16+(D+k));have N:(w2.setCell ⟨w.heap.size+1,k*16+(D+k),Z2⟩ (Z7 .u8 1)).cell? ⟨w.heap.size+1,129,Z2⟩=Z1 (Z7 Z9 (k:Int)):=(CX a k (D+k) 1 (by omega) (by omega)).countC;have P:(w2.setCell ⟨w.heap.size+1,k*16+(D+k),Z2⟩ (Z7 .u8 1)).frozen? ⟨w.heap.size+1,129,Z2⟩=false:=(CX a k (D+k) 1 (by omega) (by omega)).frozen 129;have T:=hide a;have R:=hide d;clear a d);have a:=T.out;have d:=R.out;have Y:=CX a k (D+k) 1 (by omega) (by omega);have Z:=vu Y (k+1);have hx:=l.out.keep (d.block w.heap.size (by omega));have O:(⟨(⟨λr j=>if r=k/\j=D+k then 1 else LM (ck0 (mf M) D k).m k row r j,(ck0 (mf M) D k).told,(ck0 (mf M) D k).count⟩:Ck).m,(ck0 (mf M) D k).told,k+1⟩:Ck)=ck0 (mf M) D (k+1):=V.out;have hv:aD ((w2.setCell ⟨w.heap.size+1,k*16+(D+k),Z2⟩ (Z7 .u8 1)).setCell ⟨w.heap.size+1,129,Z2⟩ (Z7 Z9 ((k+1:Nat):Int))) (w.heap.size+1) (ck0 (mf M) D (k+1)):=(by rw [<- O];exact Z);have hy:aD ((w2.setCell ⟨w.heap.size+1,k*16+(D+k),Z2⟩ (Z7 .u8 1)).setCell ⟨w.heap.size+1,129,Z2⟩ (Z7 Z9 ((k+1:Nat):Int))) w.heap.size dC:=
     hx.keep ((Below.heap_setCell _ _ _ _ (by show w.heap.size≠w.heap.size+1;omega)).trans (Below.heap_setCell _ _ _ _ (by show w.heap.size≠w.heap.size+1;omega)))
    have X:Below w.heap.size w ((w2.setCell ⟨w.heap.size+1,k*16+(D+k),Z2⟩ (Z7 .u8 1)).setCell ⟨w.heap.size+1,129,Z2⟩ (Z7 Z9 ((k+1:Nat):Int))):=
     ((S.out.trans (d.mono (by omega))).setCell (p:=⟨w.heap.size+1,k*16+(D+k),Z2⟩) (by show w.heap.size<=w.heap.size+1;omega) _).setCell (p:=⟨w.heap.size+1,129,Z2⟩) (by show w.heap.size<=w.heap.size+1;omega) _
    have s:=hide3 hv hy X;go_roundw
    case rel=>exact ⟨k+1,by omega,by go_num,s.out.1,s.out.2.1,s.out.2.2⟩
    case measure=>simp [intOf];omega
  . have k7:¬ (k:Int)<((M.length-D:Nat):Int):=(by omega);have I:M.length-D=k:=(by omega);have U:=hide I;have g:=hide f;have t:=hide z;have l:=hide A;clear I;go_wp2_with (first
     | refine wpList_load_row rfl 319 (.tmp 5) rfl (w.heap.size+1) rfl 319 (aV (ck0 (mf M) D k)) (0,0) _ t.out.heap Tryz.underlying319 rfl (eh _) ?_
     | refine wpList_store_row rfl 319 (.tmp 4) (.tmp 35) rfl w.heap.size (aV (ck0 (mf M) D k)) rfl rfl 319 (aV dC) l.out.heap (eh _) (by rw [aY,aY]) (oj _) ?_)
    refine bodyPost_ret (v:=.agg (aV (ck0 (mf M) D k))) (results_cell_row Tryz.results202 _ _ w.heap.size 319 (aV (ck0 (mf M) D k)) (0,0) _ rfl (l.out.setRow (ck0 (mf M) D k)).heap Tryz.underlying319 rfl (eh _)) rfl ?_;rw [U.out];exact ⟨rfl,g.out.grown (aR _ _ _) g.out.size (λq e=>by cases e;exact Tr _)⟩
section
open Go.Shelf
def PB (W:Z0) (n0 Bg:Nat) (regs:Int) (L:List St):Prop:=
 Bg<n0/\n0<=W.heap.size/\∃ v,W.heap[Bg]?=Z1 (Z4 #[Z7 Z9 regs,v] 210 (0,0))/\W.ownsRow n0 284 4 v L.length (eH .u8 L)
theorem Tryz.infoStepW:(ZZ.info? 284).map (λi=>(i.zero,i.size,i.bytes))=Z1 (Z1 (.agg #[Z7 .u8 0,Z7 Z9 0,Z7 Z9 0,Z7 .u8 0]),4,32):=by kernel_rfl
theorem xS {F:Fence} (p:o.guard=Z2) (x y:Operand) (ho:o.op=.call { callee:=.builtin .append,args:=#[x,y],argTypes:=#[208,208] })
 (n0 q:Nat) (L:List St) (s:St) (v:Value) (hx:a.eval x=v) (hy:a.eval y=Z5 (Z1 ⟨q,0,Z2⟩) 1 1) (h3:w.ownsRow n0 284 4 v L.length (eH .u8 L)) (hc:∀ j u,(FQ .u8 s)[j]?=Z1 u->w.cell? ((⟨q,0,Z2⟩:Addr).add j)=Z1 u) (h6:n0<=w.heap.size) (hL:L.length<=100000)
 (hK:∀ g' cap' w2,n0<=g'->w2.ownsRow n0 284 4 (Z5 (Z1 ⟨g',0,Z2⟩) (L.length+1) cap') (L.length+1) (eH .u8 (L++[s]))->w.grownBy w2 v.ownBlock->wpListIn F n ZZ ops Q rest (a.put o.dst (Z5 (Z1 ⟨g',0,Z2⟩) (L.length+1) cap')) w2):wpListIn F n ZZ ops Q (o::rest) a w:=by
 obtain ⟨t,h,i,k,l⟩:=info_parts Tryz.infoStepW;refine wpListIn_append_own w p x y 208 ho n0 284 t (.agg #[Z7 .u8 0,Z7 Z9 0,Z7 Z9 0,Z7 .u8 0]) 4 32 Tryz.underlying208 h i k l rfl (by decide) v L.length (eH .u8 L) hx h3 ⟨q,0,Z2⟩ 1 1 (FQ .u8 s) hy (by simp [FQ]) hc (λu c=>by simp [FQ] at c;rcases c with rfl|rfl|rfl|rfl<;>rfl) (by unfold maxLen;omega) (by omega) h6 ?_;intro z w2 b d _;obtain ⟨g',cap',rfl,f⟩:∃ g' cap',z=Z5 (Z1 ⟨g',0,Z2⟩) (L.length+1) cap'/\n0<=g':=by
  rcases b.2 with ⟨_,A⟩|⟨g,cap,cur,r,m,_⟩
  . omega
  . exact ⟨g,cap,r,m⟩
 have e:eH .u8 L++FQ .u8 s=eH .u8 (L++[s]):=by rw [qw];simp [eH]
 rw [e] at b;exact hK g' cap' w2 f b d
theorem jN (h:w.ownsRow n0 t 4 v k xs) {q:Nat} (e:v.ownBlock=Z1 q):n0<=q:=(h.lt q e).1
theorem PB.next {W:Z0} (h:Bg<n0) (x:n0<=W.heap.size) (n:W.heap[Bg]?=Z1 (Z4 #[Z7 Z9 regs,v] 210 (0,0))) (f:W.ownsRow n0 284 4 v L.length (eH .u8 L))
 (a:(W.alloc ob).grownBy w2 v.ownBlock) (u:n0<=g') (m:w2.ownsRow n0 284 4 (Z5 (Z1 ⟨g',0,Z2⟩) (L.length+1) cap') (L.length+1) (eH .u8 (L++[s]))) :
 PB (w2.setCell ⟨Bg,1,Z2⟩ (Z5 (Z1 ⟨g',0,Z2⟩) (L.length+1) cap')) n0 Bg regs (L++[s])/\w2.cell? ⟨Bg,1,Z2⟩=Z1 v/\w2.frozen? ⟨Bg,1,Z2⟩=false /\
  (∀ k,k<n0->k≠Bg->(w2.setCell ⟨Bg,1,Z2⟩ (Z5 (Z1 ⟨g',0,Z2⟩) (L.length+1) cap')).heap[k]?=W.heap[k]?)/\KeepsOthers W (w2.setCell ⟨Bg,1,Z2⟩ (Z5 (Z1 ⟨g',0,Z2⟩) (L.length+1) cap')) /\
  (w2.setCell ⟨Bg,1,Z2⟩ (Z5 (Z1 ⟨g',0,Z2⟩) (L.length+1) cap')).os=W.os/\(w2.setCell ⟨Bg,1,Z2⟩ (Z5 (Z1 ⟨g',0,Z2⟩) (L.length+1) cap')).tape=W.tape/\(w2.setCell ⟨Bg,1,Z2⟩ (Z5 (Z1 ⟨g',0,Z2⟩) (L.length+1) cap')).output=W.output:=by
 have hold:∀ k,k<n0->w2.heap[k]?=W.heap[k]?:=λk b=>(a.block k (by simp;omega) (λe=>by have:=jN f e.symm;omega)).trans (ox W _ k (by omega));have d:=(hold Bg h).trans n;obtain ⟨_,c1,l,_⟩:=aG d;have w:W.heap.size<=w2.heap.size:=by have:=a.size;simp at this;omega
 have p:(w2.setCell ⟨Bg,1,Z2⟩ (Z5 (Z1 ⟨g',0,Z2⟩) (L.length+1) cap')).heap[Bg]?=Z1 (Z4 #[Z7 Z9 regs,Z5 (Z1 ⟨g',0,Z2⟩) (L.length+1) cap'] 210 (0,0)):=by
  obtain ⟨r,b⟩:=To.1 d;show (w2.heap.modify Bg _)[Bg]?=_;rw [Tu (by rw [Tv];exact r),Tw,b];rfl
 refine ⟨⟨h,by simp [World.setCell];omega,_,p,?_⟩,c1,l,λk b t=>(Below.heap_setCell _ _ _ _ t).trans (hold k b),?_,a.os,a.tape,a.output⟩
 . have:=m.kept (dh w2 Bg 1 (Z5 (Z1 ⟨g',0,Z2⟩) (L.length+1) cap')) (.inr (by simp [Value.ownBlock];omega));simpa using this
 . refine ((KeepsOthers.alloc W ob).trans (KeepsOthers.of_grownBy a λj o c i=>?_)).trans (KeepsOthers.setCell _ _ _);rcases (f.alloc ob).2 with ⟨rfl,_⟩|⟨g,cap,cur,rfl,_,q,_⟩
   . simp [Value.ownBlock] at c
   . obtain rfl:g=j:=(by simpa [Value.ownBlock] using c);rw [q] at i;cases i;rfl
theorem PB.own (h:PB X n0 Bg regs L) (m:n0<=B) (a:X.grownBy Y row) (c:∀ r,row=Z1 r->B<=r/\∃ o:Obj,X.heap[r]?=Z1 o/\o.isCells=false):PB Y n0 Bg regs L:=by
 obtain ⟨i,j,v,k,b⟩:=h;refine ⟨i,Tn j a.size,v,(a.block Bg (by omega) (λe=>by have:=(c Bg e.symm).1;omega)).trans k,b.kept a ?_⟩;rcases b.2 with ⟨rfl,_⟩|⟨g,cap,cur,rfl,_,f,_⟩
 . exact .inl rfl
 . refine .inr λd=>?_;obtain ⟨_,o,ho,l⟩:=c g (by simpa [Value.ownBlock] using d.symm);rw [f] at ho;cases ho;cases l
def lC (C:Ck) (i:Nat):List St:=if cJ C i=true then ⟨0,0,i,0⟩::((Tp C.told).filter (λr=>decide (C.m r i≠0))).map (λr:Nat=>(⟨1,1+(r:Int),0,C.m r i⟩:St)) else []
def wrTo (C:Ck) (pre:List Nat):List St:=(pre.map (lC C)).flatten
theorem vL (C:Ck) (pre:List Nat) (i:Nat):wrTo C (pre++[i])=wrTo C pre++lC C i:=by unfold wrTo;simp
def gk (C:Ck) (i k:Nat):List St:=((Tp k).filter (λr=>decide (C.m r i≠0))).map (λr:Nat=>(⟨1,1+(r:Int),0,C.m r i⟩:St))
theorem sy (C:Ck) (i:Nat):gk C i 0=[]:=rfl
theorem An (C:Ck) (i k:Nat) (h:C.m k i≠0):gk C i (k+1)=gk C i k++[⟨1,1+(k:Int),0,C.m k i⟩]:=by unfold gk;rw [Tx];simp [h]
theorem vM (C:Ck) (i k:Nat) (h:C.m k i=0):gk C i (k+1)=gk C i k:=by unfold gk;rw [Tx];simp [h]
theorem Ao (C:Ck) (i k:Nat):(gk C i k).length<=k:=by
 unfold gk;rw [Tm];exact Tn (List.length_filter_le _ _) (by simp)
theorem gW (h:cJ C i=true):lC C i=⟨0,0,i,0⟩::gk C i C.told:=by unfold lC gk;rw [if_pos h]
theorem lD (h:cJ C i=false):lC C i=[]:=by unfold lC;simp [h]
theorem Jo (C:Ck) (i:Nat):(lC C i).length<=C.told+1:=by
 cases h:cJ C i
 . rw [lD h];simp
 . rw [gW h];have:=Ao C i C.told;simp;omega
theorem rh (C:Ck):∀ pre:List Nat,(wrTo C pre).length<=pre.length*(C.told+1)
 | []=>by simp [wrTo]
 | i::pre=>by
  have a:=rh C pre;have b:=Jo C i;have e:wrTo C (i::pre)=lC C i++wrTo C pre:=by unfold wrTo;simp
  rw [e,Tq,TE,Nat.succ_mul];omega
def fw (pre:List Nat):List St:=(Tp pre.length).map (λk:Nat=>(⟨2,(k:Int)+1,((pre.getD k 0:Nat):Int),0⟩:St))
theorem CY (pre:List Nat) (i:Nat):fw (pre++[i])=fw pre++[⟨2,(pre.length:Int)+1,i,0⟩]:=by
 unfold fw;rw [Tq,TF,Tx,Ts];congr 1
 . apply List.map_congr_left;intro k a;have:=List.mem_range.1 a;simp [this,Tt]
 . simp
def fG (C:Ck) (gone kept:Nat):List St:=wrTo C (ae kept)++fw (ae gone)
end
section
open Go.Shelf
attribute [local go_sem] Oper.semAt_some
structure WI (w:Z0) (C:Ck) (regs:Int) (L:List St) (X:Z0):Prop where
 ck:aD X w.heap.size C
 res:X.heap[w.heap.size+1]?=Z1 (Z4 #[Z7 Z9 0,Z5 Z2 0 0] 210 (0,0))
 pb:PB X (w.heap.size+3) (w.heap.size+1+1) regs L
 below:Below w.heap.size w X
theorem WI.own (h:WI w C regs L X) (d:w.heap.size+3<=B) (a:X.grownBy Y row) (c:∀ r,row=Z1 r->B<=r/\∃ o:Obj,X.heap[r]?=Z1 o/\o.isCells=false):WI w C regs L Y:=by
 have f:=h.pb.2.1;have b:∀ k,k<w.heap.size+3->Y.heap[k]?=X.heap[k]?:=λk b=>a.block k (by omega) (λe=>by have:=(c k e.symm).1;omega);exact ⟨h.ck.keep (b _ (by omega)),(b _ (by omega)).trans h.res,h.pb.own d a c,h.below.grown a h.below.size (λk e=>by have:=(c k e).1;omega)⟩
theorem WI.next (h:WI w C regs L X) (d:X.heap[w.heap.size+1+1]?=Z1 (Z4 #[Z7 Z9 regs,v] 210 (0,0))) (e:X.ownsRow (w.heap.size+3) 284 4 v L.length (eH .u8 L))
 (g:(X.alloc ob).grownBy w2 v.ownBlock) (f:w.heap.size+3<=g') (c:w2.ownsRow (w.heap.size+3) 284 4 (Z5 (Z1 ⟨g',0,Z2⟩) (L.length+1) cap') (L.length+1) (eH .u8 (L++[s]))) :
 w2.cell? ⟨w.heap.size+1+1,1,Z2⟩=Z1 v/\w2.frozen? ⟨w.heap.size+1+1,1,Z2⟩=false/\(WI w C regs (L++[s]) (w2.setCell ⟨w.heap.size+1+1,1,Z2⟩ (Z5 (Z1 ⟨g',0,Z2⟩) (L.length+1) cap'))/\KeepsOthers X (w2.setCell ⟨w.heap.size+1+1,1,Z2⟩ (Z5 (Z1 ⟨g',0,Z2⟩) (L.length+1) cap'))):=by
 obtain ⟨i,j,l,a,b,m,n,o⟩:=PB.next (n0:=w.heap.size+3) (Bg:=w.heap.size+1+1) (by omega) h.pb.2.1 d e g f c;refine ⟨j,l,⟨h.ck.keep (a _ (by omega) (by omega)),(a _ (by omega) (by omega)).trans h.res,i,h.below.trans ⟨m,n,o,?_,λk p=>a k (by omega) (by omega)⟩⟩,b⟩;exact b.size
theorem WI.told (h:WI w C regs L X):X.cell? ⟨w.heap.size,128,Z2⟩=Z1 (Z7 Z9 (C.told:Int)):=h.ck.toldC
theorem Aq (X:Z0) (s:St):∀ j v,(FQ .u8 s)[j]?=Z1 v->(X.alloc (Z4 #[Z7 .u8 (s.k:Int),Z7 Z9 s.a,Z7 Z9 s.b,Z7 .u8 (s.c:Int)] 284)).cell? ((⟨X.heap.size,0,Z2⟩:Addr).add j)=Z1 v:=
 Al X X.heap.size rfl _ _ _ _ _
def FU (C:Ck) (pre:List Sh):List St:=wrTo C (pre.map (·.1))
def Em (C:Ck) (pre:List Sh) (i k:Nat):List St:=FU C pre++[⟨0,0,(i:Int),0⟩]++gk C i k
theorem LP (C:Ck) (a:dU C) (pre:List Sh) (s:Nat) (h:pre.length<(ae s).length) (i k:Nat) (l:k<=C.told):(FU C pre).length<=200/\(Em C pre i k).length<=300:=by
 have b:=rh C (pre.map (·.1));have d:=Ao C i k;have e:(ae s).length<=16:=by rw [<- j9 s];exact pr s
 have f:=a.le;have g:=a.most;have c:(pre.map (·.1)).length*(C.told+1)<=16*9:=TG (by rw [Tm];omega) (by omega);have j:(FU C pre).length<=144:=Tn b c;refine ⟨by omega,?_⟩;unfold Em;simp only [Tq,TF];omega
theorem Jq (C:Ck) (pre:List Sh) (i:Nat):Em C pre i 0=FU C pre++[⟨0,0,(i:Int),0⟩]:=by unfold Em;rw [sy,List.append_nil]
theorem NS (pre:List Sh) {i k:Nat} (h:C.m k i≠0):Em C pre i (k+1)=Em C pre i k++[⟨1,1+(k:Int),0,C.m k i⟩]:=by unfold Em;rw [An C i k h,<- TH]
theorem LQ (pre:List Sh) {i k:Nat} (h:C.m k i=0):Em C pre i (k+1)=Em C pre i k:=by unfold Em;rw [vM C i k h]
theorem LR (h:cJ C x.1=true):Em C pre x.1 C.told=FU C (pre++[x]):=by
 unfold Em FU;rw [Ts,Ty,vL,gW h];simp
theorem NT (h:cJ C x.1=false):FU C pre=FU C (pre++[x]):=by
 unfold FU;rw [Ts,Ty,vL,lD h];simp
theorem FV (X:Z0) (n:Nat) (d:n=X.heap.size) (s:St):∀ j v,(FQ .u8 s)[j]?=Z1 v->(X.alloc (Z4 #[Z7 .u8 (s.k:Int),Z7 Z9 s.a,Z7 Z9 s.b,Z7 .u8 (s.c:Int)] 284)).cell? ((⟨n,0,Z2⟩:Addr).add j)=Z1 v:=
 Al X n d _ _ _ _ _
theorem LS {s:Nat} (h:pre.map (·.1)=ae s):FU C pre=wrTo C (ae s):=by unfold FU;rw [h]
def vN (C:Ck) (kept:Nat) (pre:List Sh):List St:=wrTo C (ae kept)++fw (pre.map (·.1))
theorem LU (C:Ck) (kept:Nat):vN C kept []=wrTo C (ae kept):=by unfold vN fw;simp
theorem Jr (C:Ck) (kept:Nat) (pre:List Sh) (x:Sh):vN C kept (pre++[x])=vN C kept pre++[⟨2,(pre.length:Int)+1,(x.1:Int),0⟩]:=by
 unfold vN;rw [Ts,Ty,CY,Tm,<- TH]
theorem LV {gone:Nat} (h:pre.map (·.1)=ae gone):vN C kept pre=fG C gone kept:=by unfold vN fG;rw [h]
theorem NU (C:Ck) (a:dU C) (kept:Nat) (pre:List Sh) (s:Nat) (h:pre.length<(ae s).length):(vN C kept pre).length<=300:=by
 have c:=rh C (ae kept);have e:(ae s).length<=16:=by rw [<- j9 s];exact pr s
 have b:(ae kept).length<=16:=by rw [<- j9 kept];exact pr kept
 have f:=a.le;have g:=a.most;have d:(ae kept).length*(C.told+1)<=16*9:=TG b (by omega);have i:(wrTo C (ae kept)).length<=144:=Tn c d;unfold vN fw;simp only [Tq,Tm,TB];omega
theorem Js (h:X.ownsRow n0 284 4 v k xs) (b:Boxed X R 3 u):v.ownBlock≠Z1 R:=by
 rcases h.2 with ⟨rfl,_⟩|⟨g,cap,cur,rfl,_,a,_⟩
 . intro e;cases e
 . intro e;obtain rfl:g=R:=(by simpa [Value.ownBlock] using e);rw [show X.heap[g]?=_ from b] at a;have:=Option.some.inj a;cases this
theorem WI.set {u':Value} (h:WI w C regs L X) (g:w.heap.size+3<=R) (c:Boxed X R 3 u):WI w C regs L (X.setCell ⟨R,0,Z2⟩ u'):=by
 have a:∀ k,k≠R->(X.setCell ⟨R,0,Z2⟩ u').heap[k]?=X.heap[k]?:=λk a=>Below.heap_setCell _ _ _ _ a;obtain ⟨d,e,v,f,b⟩:=h.pb;exact ⟨h.ck.keep (a _ (by omega)),(a _ (by omega)).trans h.res,⟨d,by simpa [World.setCell] using e,v,(a _ (by omega)).trans f,b.kept (dh X R 0 u') (.inr (Js b c))⟩,h.below.setCell (p:=⟨R,0,Z2⟩) (by show w.heap.size<=R;omega) _⟩
structure WP (w:Z0) (C:Ck) (regs:Int) (kept R D:Nat) (pre:List Sh) (Y:Z0):Prop where
 wi:WI w C regs (vN C kept pre) Y
 box:Boxed Y R 3 (Z7 Z9 (pre.length:Int))
 mark:Y.heap[D]?=Z1 (.deferred (Z1 []))
theorem WP.own (h:WP w C regs kept R D pre X) (d:w.heap.size+3<=B) (g:R<B) (f:D<B) (b:X.grownBy Y row) (c:∀ r,row=Z1 r->B<=r/\∃ o:Obj,X.heap[r]?=Z1 o/\o.isCells=false):WP w C regs kept R D pre Y:=by
 have a:∀ k,k<B->k<X.heap.size->Y.heap[k]?=X.heap[k]?:=λk a i=>b.block k i (λe=>by have:=(c k e.symm).1;omega);exact ⟨h.wi.own d b c,(a R g h.box.lt).trans h.box,(a D f (To.1 h.mark).1).trans h.mark⟩
theorem WP.next (h:WP w C regs kept R D pre X) (j:w.heap.size+3<=R)
 (g:(X.setCell ⟨R,0,Z2⟩ (Z7 Z9 ((pre.length:Int)+1))).heap[w.heap.size+1+1]?=Z1 (Z4 #[Z7 Z9 regs,v] 210 (0,0))) (a:(X.setCell ⟨R,0,Z2⟩ (Z7 Z9 ((pre.length:Int)+1))).ownsRow (w.heap.size+3) 284 4 v (vN C kept pre).length (eH .u8 (vN C kept pre)))
 (d:((X.setCell ⟨R,0,Z2⟩ (Z7 Z9 ((pre.length:Int)+1))).alloc ob).grownBy w2 v.ownBlock) (i:w.heap.size+3<=g') (f:w2.ownsRow (w.heap.size+3) 284 4 (Z5 (Z1 ⟨g',0,Z2⟩) ((vN C kept pre).length+1) cap') ((vN C kept pre).length+1) (eH .u8 (vN C kept pre++[⟨2,(pre.length:Int)+1,(x.1:Int),0⟩]))) :
 w2.cell? ⟨w.heap.size+1+1,1,Z2⟩=Z1 v/\w2.frozen? ⟨w.heap.size+1+1,1,Z2⟩=false/\(WP w C regs kept R D (pre++[x]) (w2.setCell ⟨w.heap.size+1+1,1,Z2⟩ (Z5 (Z1 ⟨g',0,Z2⟩) ((vN C kept pre).length+1) cap'))/\KeepsOthers X (w2.setCell ⟨w.heap.size+1+1,1,Z2⟩ (Z5 (Z1 ⟨g',0,Z2⟩) ((vN C kept pre).length+1) cap'))):=by
 have k:WI w C regs (vN C kept pre) (X.setCell ⟨R,0,Z2⟩ (Z7 Z9 ((pre.length:Int)+1))):=h.wi.set j h.box;have c:Boxed (X.setCell ⟨R,0,Z2⟩ (Z7 Z9 ((pre.length:Int)+1))) R 3 (Z7 Z9 ((pre.length:Int)+1)):=h.box.set _;obtain ⟨l,m,n,o⟩:=k.next g a d i f;have b:=(KeepsOthers.setCell X ⟨R,0,Z2⟩ (Z7 Z9 ((pre.length:Int)+1))).trans o;refine ⟨l,m,⟨by rw [Jr];exact n,?_,b.same D _ h.mark rfl⟩,b⟩;have b2:Boxed w2 R 3 (Z7 Z9 ((pre.length:Int)+1)):=(c.alloc ob).kept d (λe=>Js a c e.symm);have b3:=(Below.heap_setCell w2 ⟨w.heap.size+1+1,1,Z2⟩ (Z5 (Z1 ⟨g',0,Z2⟩) ((vN C kept pre).length+1) cap') R (by show R≠w.heap.size+1+1;omega)).trans b2;rw [Tq];exact b3
theorem kT {x x':Value} (h:Y.heap[b]?=Z1 (Z4 #[x,y] t (0,0))):(Y.setCell ⟨b,0,Z2⟩ x').heap[b]?=Z1 (Z4 #[x',y] t (0,0)):=by
 obtain ⟨a,c⟩:=To.1 h;show (Y.heap.modify b _)[b]?=_;rw [Tu (by rw [Tv];exact a),Tw,c];rfl
theorem kU {x y':Value} (h:Y.heap[b]?=Z1 (Z4 #[x,y] t (0,0))):(Y.setCell ⟨b,1,Z2⟩ y').heap[b]?=Z1 (Z4 #[x,y'] t (0,0)):=by
 obtain ⟨a,c⟩:=To.1 h;show (Y.heap.modify b _)[b]?=_;rw [Tu (by rw [Tv];exact a),Tw,c];rfl
theorem jO {base base':Nat} {e:TypeId} {size:Nat} (h:w.ownsRow base e size v n xs) (f:base'<=base):w.ownsRow base' e size v n xs:=by
 refine ⟨h.1,?_⟩;rcases h.2 with b|⟨g,cap,cur,a,c,d⟩
 . exact .inl b
 . exact .inr ⟨g,cap,cur,a,Tn f c,d⟩
theorem FW:(ZZ.info? 210).map (·.size)=Z1 2:=by kernel_rfl
theorem FX (C:Ck) (gone kept:Nat) (w:Z0) (u:dU C) (hg:gone<65536) (hk:kept<65536) (W:aJ w) (h2:3<=w.heap.size) :
 Calls ZZ 198 #[.agg (aV C),Z7 Z8 gone,Z7 Z8 kept] w λe w'=>∃ v,e=.returned (.agg #[Z7 Z9 (1+((ae gone).length:Int)),v])/\Below w.heap.size w w'/\w'.ownsRow w.heap.size 284 4 v (fG C gone kept).length (eH .u8 (fG C gone kept)):=by
 have qx:=aY C;have qf:(ae gone).length<=16:=by rw [<- j9 gone];exact pr gone
 obtain ⟨n,HN⟩:∃ n:Nat,Hid (9<=n):=⟨9,Tr _⟩;refine (callsIn_wide (n:=n)).1 ?_;refine callsIn_of_wp_marks Tryz.func198 rfl trivial ?_ rfl;simp only [Tryz.ntmps198,Tz,TE,List.length_nil,Nat.reduceAdd,Nat.reduceSub,Array.replicate_succ,Array.replicate_zero,List.push_toArray,List.append_toArray,List.nil_append,List.cons_append];have q6:(((w.alloc (Z4 (aV C) 319)).alloc (Z4 #[Z7 Z9 0,Z5 Z2 0 0] 210)).alloc (Z4 #[Z7 Z9 (1+((ae gone).length:Int)),Z5 Z2 0 0] 210)).heap.size=w.heap.size+3:=by simp
 have ky:WI w C (1+((ae gone).length:Int)) [] (((w.alloc (Z4 (aV C) 319)).alloc (Z4 #[Z7 Z9 0,Z5 Z2 0 0] 210)).alloc (Z4 #[Z7 Z9 (1+((ae gone).length:Int)),Z5 Z2 0 0] 210)):=by
  obtain ⟨a1,a2,a3,a4⟩:=Jn w (Z4 (aV C) 319) (Z4 #[Z7 Z9 0,Z5 Z2 0 0] 210) (Z4 #[Z7 Z9 (1+((ae gone).length:Int)),Z5 Z2 0 0] 210);refine ⟨(aD.new w C).keep (by rw [Below.heap_alloc _ _ _ (by simp;omega),Below.heap_alloc _ _ _ (by simp)]),a3,⟨by omega,by omega,_,a4,World.ownsRow_nil _ _ _ _⟩,((bA w _).alloc (by simp) _).alloc (by simp;omega) _⟩
 have N:=hide q6;have j:=hide ky;clear q6 ky;gi_wp2;refine cV (zZ gone hg _) ?_;rintro e w' ⟨rfl,G⟩;gi_wp2;obtain ⟨f,km⟩:=nM ((((w.alloc (Z4 (aV C) 319)).alloc (Z4 #[Z7 Z9 0,Z5 Z2 0 0] 210)).alloc (Z4 #[Z7 Z9 (1+((ae gone).length:Int)),Z5 Z2 0 0] 210)));rw [km] at N j;rw [km];clear km G w';refine cV (dy kept f) ?_;rintro e w' ⟨rfl,rfl⟩;have q7:(f.alloc (Z4 #[Z7 Z8 (kept:Int)] 124)).heap.size=f.heap.size+1:=by simp
 have ks:(f.alloc (Z4 #[Z7 Z8 (kept:Int)] 124)).cell? ⟨f.heap.size,0,Z2⟩=Z1 (Z7 Z8 (kept:Int)):=(Bx.new f 124 (Z7 Z8 (kept:Int))).cell;have qc:Below f.heap.size f (f.alloc (Z4 #[Z7 Z8 (kept:Int)] 124)):=bA _ _;have kz:WI w C (1+((ae gone).length:Int)) [] (f.alloc (Z4 #[Z7 Z8 (kept:Int)] 124)):=j.out.own (B:=f.heap.size) (row:=Z2) (by have:=N.out;omega) (World.grownBy_alloc _ _ _) (λr e=>by cases e);obtain ⟨w4,q4⟩:=nM (f.alloc (Z4 #[Z7 Z8 (kept:Int)] 124));have P:=hide q7;have ka:=hide ks;have k6:=hide kz;clear q7 ks qc kz j;gi_wp2;rw [q4] at P ka k6;clear q4;refine wpIn_rangeFunc_ownG rfl (by have:=HN.out;omega) (gf:=153) (lb:=#[Z6 (Z1 ⟨f.heap.size,0,Z2⟩)]) rfl trivial (enters_of Tryz.func153 (by kernel_rfl) rfl)
  (eK (n-1) f.heap.size kept hk w4 (by have:=P.out;omega) ka.out (by have:=P.out;have:=N.out;omega) (W.mono (by omega) k6.out.below)) (λh k=>pZ h k) (ql (by have:=P.out;have:=N.out;omega)) (Below.refl _ _) (λ_=>rfl)
  (λpre X=>WI w C (1+((ae gone).length:Int)) (FU C pre) X/\w4.heap.size<=X.heap.size) (λ_ _ _=>False)
  (λpre X Y row H V hr=>⟨H.1.own (by have:=P.out;have:=N.out;omega) V hr,Tn H.2 V.size⟩) (λc pre X Y row H _ _=>H.elim) ⟨k6.out,Tr _⟩
  (λx=>{ tmps:=#[.agg (aV C),Z7 Z8 (gone:Int),Z7 Z8 (kept:Int),Z6 (Z1 ⟨w.heap.size,0,Z2⟩),Z3,Z3,Z6 (Z1 ⟨w.heap.size+1,0,Z2⟩),Z6 (Z1 ⟨w.heap.size+1+1,0,Z2⟩),Z7 Z9 (x.1:Int),Z3,Z3,Z3,Z3,Z7 Z8 (gone:Int),Z7 Z9 ((ae gone).length:Int),Z7 Z9 (1+((ae gone).length:Int)),.agg #[Z7 Z9 (1+((ae gone).length:Int)),Z5 Z2 0 0],Z7 Z8 (kept:Int),.func (.func 153) #[] #[Z6 (Z1 ⟨f.heap.size,0,Z2⟩)],Z7 Z9 (x.1:Int),Z3,Z3,Z3,Z3,Z3,Z3,Z3,Z3,Z3,Z3,Z3,Z3,Z3,Z3,Z3,Z3,Z3,Z3,Z3,Z3,Z3,Z3,Z3,Z3,Z3,Z3,Z3,Z3,Z3,Z3,Z3,Z3,Z3,Z3,Z3,Z3,Z3,Z3,Z3,Z3,Z3,Z3,Z3,Z3,Z3,Z3,Z3],defers:=[] }) ?assign ?body ?done ?stop
 case assign=>
  intro l2 x X Kk hK;unfold pY;gi_wp2;exact hK
 case body=>
  rintro l2 pre x X ⟨a,hX⟩ R;have q3:=vl w.heap.size x.1 C X a.ck u x.2;obtain ⟨_,_,v,i,b⟩:=a.pb;have K:w.heap.size+3<=X.heap.size:=a.pb.2.1;obtain ⟨c0,c1,O,_⟩:=aG i;have ko:=x.2;have hL:=λk hk=>LP C u pre kept R x.1 k hk;have HH:=hide a;have Q:=hide i;have t:=hide b;have HL:=hide hL;have HX:=hide hX;have S:=hide K;clear a i b hL hX R K;gi_wp2;refine dG q3 ?_;clear q3;rintro e w' ⟨rfl,G⟩;subst G;cases k9:cJ C x.1 with
  | false=>
   have HE:=hide (NT (pre:=pre) k9);clear k9;gi_wp2;refine ⟨KeepsFrom.refl _ _,Ef.refl _,?_,HX.out⟩;rw [<- HE.out];exact HH.out
  | true=>
   have HE:=hide (LR (pre:=pre) k9);clear k9;gi_wp2_with (
    refine xS rfl (.tmp 24) (.tmp 27) rfl (w.heap.size+3) w'.heap.size (FU C pre) ⟨0,0,(x.1:Int),0⟩ v rfl rfl (t.out.alloc _) (Aq w' ⟨0,0,(x.1:Int),0⟩) (by have:=S.out;simp;omega) (by have:=(HL.out 0 (Nat.zero_le _)).1;omega) ?_;
    rintro g' cap' w2 T I J;
    obtain ⟨c1,O,F⟩:=HH.out.next Q.out t.out J T I;
    have ct:=F.1.told;
    have q:=hide F;
    clear F J I)
   rw [<- Jq] at q;gi_loopw [32] (λp wr=>∃ k:Nat,p=Z7 Z9 (k:Int)/\k<=C.told/\WI w C (1+((ae gone).length:Int)) (Em C pre x.1 k) wr/\KeepsOthers w' wr) (λp _=>C.told-(intOf p).toNat)
   case atStart=>exact ⟨0,rfl,Nat.zero_le _,q.out.1,q.out.2⟩
   case round=>
    obtain ⟨k,rfl,qd,a,E⟩:=hrel;have qj:=u.le;have qk:=u.most;by_cases qs:k<C.told
    . have cm:=a.ck.at k x.1 (by omega) ko;have hb:=u.byt k x.1;have ki:(k:Int)<C.told:=(by omega);have qo:(k:Int)<8:=(by omega);have qy:(x.1:Int)<16:=(by omega);by_cases h0:C.m k x.1=0
      . rw [h0] at cm;have j:=hide a;have y:=hide E;clear a E;gi_wp2;go_roundw
        case rel=>exact ⟨k+1,by go_num,by omega,by rw [LQ pre h0];exact j.out,y.out⟩
        case measure=>simp [intOf];omega
      . have qv:((C.m k x.1:Nat):Int)≠0:=(by omega);obtain ⟨_,_,v,i,b⟩:=a.pb;have K:w.heap.size+3<=wr.heap.size:=a.pb.2.1;obtain ⟨c0,c1,O,_⟩:=aG i;have qn:=(HL.out k qd).2;have j:=hide a;have y:=hide E;have Q:=hide i;have t:=hide b;have S:=hide K;clear a E i b K;gi_wp2_with (
         refine xS rfl (.tmp 44) (.tmp 49) rfl (w.heap.size+3) wr.heap.size (Em C pre x.1 k) ⟨1,1+(k:Int),0,C.m k x.1⟩ v rfl rfl (t.out.alloc _) (Aq wr ⟨1,1+(k:Int),0,C.m k x.1⟩) (by have:=S.out;simp;omega) (by omega) ?_;
         rintro g' cap' w2 T I J;
         obtain ⟨c1,O,F⟩:=j.out.next Q.out t.out J T I;
         have q:=hide F;
         clear F J I)
        go_roundw
        case rel=>exact ⟨k+1,by go_num,by omega,by rw [NS pre h0];exact q.out.1,y.out.trans q.out.2⟩
        case measure=>simp [intOf];omega
    . have ki:¬ (k:Int)<C.told:=(by omega);obtain rfl:k=C.told:=(by omega);have j:=hide a;have y:=hide E;clear a E;gi_wp2;refine ⟨y.out.from _,λ_=>W.mono (by omega) j.out.below,?_,Tn HX.out y.out.size⟩;rw [<- HE.out];exact j.out
 case done=>
  rintro D xs X hD q5 ⟨a,hX⟩ hK;rw [LS q5] at a;have qp:w.heap.size+3<=D:=by have:=P.out;have:=N.out;omega
  have qb:D<X.heap.size:=(To.1 hK).1;clear q5 xs ka k6 hX;have j:=hide a;have y:=hide hK;clear a hK;gi_wp2;refine cV (dy gone _) ?_;rintro e w' ⟨rfl,G⟩;have q8:w'.heap.size=X.heap.size+1+1:=by rw [G];simp
  have kv:w'.cell? ⟨X.heap.size+1,0,Z2⟩=Z1 (Z7 Z8 (gone:Int)):=by
   have:=(Bx.new (X.alloc (Z4 #[Z7 Z9 0] 3)) 124 (Z7 Z8 (gone:Int))).cell;rw [World.size_alloc] at this;rw [G];exact this
  have kf:X.grownBy w' Z2:=by rw [G];exact Am (World.grownBy_alloc X _ Z2) _
  have q2:WP w C (1+((ae gone).length:Int)) kept X.heap.size D [] w':=by
   refine ⟨by rw [LU];exact j.out.own (B:=w.heap.size+3) lR kf (λr e=>by cases e),?_,(kf.block D qb (λe=>by cases e)).trans y.out⟩;rw [G];exact (Boxed.new X 3 (Z7 Z9 0)).alloc _
  have z:=hide q8;have q9:=hide kv;have kp:=hide q2;clear q8 kv q2 kf G j y;gi_wp2;refine wpIn_rangeFunc_ownG rfl (by have:=HN.out;omega) (gf:=153) (lb:=#[Z6 (Z1 ⟨X.heap.size+1,0,Z2⟩)]) rfl trivial (enters_of Tryz.func153 (by kernel_rfl) rfl)
   (eK (n-1) (X.heap.size+1) gone hg w' (by have:=z.out;omega) q9.out (by have:=z.out;omega) (W.mono (by omega) kp.out.wi.below)) (λh k=>pZ h k) (ql (by have:=z.out;omega)) (Below.refl _ _) (λ_=>rfl)
   (λpre Y=>WP w C (1+((ae gone).length:Int)) kept X.heap.size D pre Y/\w'.heap.size<=Y.heap.size) (λ_ _ _=>False)
   (λpre A Y row H V hr=>⟨H.1.own (B:=w'.heap.size) (by have:=z.out;omega) (by have:=z.out;omega) (by have:=z.out;omega) V hr,Tn H.2 V.size⟩) (λc pre X Y row H _ _=>H.elim) ⟨kp.out,Tr _⟩
   (λx=>{ tmps:=#[.agg (aV C),Z7 Z8 (gone:Int),Z7 Z8 (kept:Int),Z6 (Z1 ⟨w.heap.size,0,Z2⟩),Z3,Z3,Z6 (Z1 ⟨w.heap.size+1,0,Z2⟩),Z6 (Z1 ⟨w.heap.size+1+1,0,Z2⟩),Z3,Z3,Z3,Z6 (Z1 ⟨X.heap.size,0,Z2⟩),Z7 Z9 (x.1:Int),Z7 Z8 (gone:Int),Z7 Z9 ((ae gone).length:Int),Z7 Z9 (1+((ae gone).length:Int)),.agg #[Z7 Z9 (1+((ae gone).length:Int)),Z5 Z2 0 0],Z7 Z8 (kept:Int),.func (.func 153) #[] #[Z6 (Z1 ⟨f.heap.size,0,Z2⟩)],Z3,Z3,Z3,Z3,Z3,Z3,Z3,Z3,Z3,Z3,Z3,Z3,Z3,Z3,Z3,Z3,Z3,Z3,Z3,Z3,Z3,Z3,Z3,Z3,Z3,Z3,Z3,Z3,Z3,Z3,Z3,Z3,Z3,Z3,Z7 Z8 (gone:Int),.func (.func 153) #[] #[Z6 (Z1 ⟨X.heap.size+1,0,Z2⟩)],Z7 Z9 (x.1:Int),Z3,Z3,Z3,Z3,Z3,Z3,Z3,Z3,Z3,Z3,Z3],defers:=[] }) ?assign2 ?body2 ?done2 ?stop2
  case assign2=>
   intro l2 x Y Kk hK;unfold pY;gi_wp2;exact hK
  case body2=>
   rintro l2 pre x Y ⟨s,hY⟩ R;have qq:=NU C u kept pre gone R;have qg:pre.length<16:=(by omega);have kc:w.heap.size+3<=X.heap.size:=(by omega);have hs:=s.wi.set (u':=Z7 Z9 ((pre.length:Int)+1)) kc s.box;obtain ⟨_,_,v,i,b⟩:=hs.pb;have K:w.heap.size+3<=(Y.setCell ⟨X.heap.size,0,Z2⟩ (Z7 Z9 ((pre.length:Int)+1))).heap.size:=hs.pb.2.1;obtain ⟨c0,c1,O,_⟩:=aG i;have cb:=s.box.cell;have fb:=s.box.frozen;have qr:=(s.box.set (Z7 Z9 ((pre.length:Int)+1))).cell;have HP:=hide s;have Q:=hide i;have t:=hide b;have S:=hide K;have HY:=hide hY;have qa:=hide kc;clear s i b K hY hs R kc;gi_wp2_with (
    refine xS rfl (.tmp 59) (.tmp 63) rfl (w.heap.size+3) Y.heap.size (vN C kept pre) ⟨2,(pre.length:Int)+1,(x.1:Int),0⟩ v rfl rfl (t.out.alloc _) (FV _ Y.heap.size (by simp) ⟨2,(pre.length:Int)+1,(x.1:Int),0⟩) (by have:=S.out;simp at this ⊢;omega) (by omega) ?_;
    rintro g' cap' w2 T I J;
    obtain ⟨c1,O,F⟩:=HP.out.next qa.out Q.out t.out J T I;
    have q:=hide F;
    clear F J I)
   refine ⟨q.out.2.from _,λ_=>W.mono (by omega) q.out.1.wi.below,q.out.1,Tn HY.out q.out.2.size⟩
  case done2=>
   rintro M ys Y qm qi ⟨s,hY⟩ k7;have L:=s.wi;rw [LV qi] at L;have hm:=s.mark;obtain ⟨_,_,v,i,b⟩:=L.pb;obtain ⟨c0,c1,O,f0⟩:=aG i;obtain ⟨r0,r1,g1,g0⟩:=aG L.res;obtain ⟨l,m,o,rfl⟩:∃ l m o,v=.slice l m o:=by
    rcases b.2 with ⟨rfl,_⟩|⟨g,cap,cur,rfl,_⟩
    . exact ⟨_,_,_,rfl⟩
    . exact ⟨_,_,_,rfl⟩
   have t:=hide4 L hm b k7;clear L hm b k7 s hY i;gi_wp2;obtain ⟨L,hm,b,k7⟩:=t.out;have k5:((Y.setCell ⟨w.heap.size+1,0,Z2⟩ (Z7 Z9 (1+((ae gone).length:Int)))).setCell ⟨w.heap.size+1,1,Z2⟩ (.slice l m o)).heap[w.heap.size+1]?=Z1 (Z4 #[Z7 Z9 (1+((ae gone).length:Int)),.slice l m o] 210 (0,0)):=
    kU (kT L.res)
   have E:=(KeepsOthers.setCell Y ⟨w.heap.size+1,0,Z2⟩ (Z7 Z9 (1+((ae gone).length:Int)))).trans (KeepsOthers.setCell _ ⟨w.heap.size+1,1,Z2⟩ (.slice l m o));have kr:Below w.heap.size w ((Y.setCell ⟨w.heap.size+1,0,Z2⟩ (Z7 Z9 (1+((ae gone).length:Int)))).setCell ⟨w.heap.size+1,1,Z2⟩ (.slice l m o)):=(L.below.setCell (p:=⟨w.heap.size+1,0,Z2⟩) (Nat.le_succ _) _).setCell (p:=⟨w.heap.size+1,1,Z2⟩) (Nat.le_succ _) _;have hq:((Y.setCell ⟨w.heap.size+1,0,Z2⟩ (Z7 Z9 (1+((ae gone).length:Int)))).setCell ⟨w.heap.size+1,1,Z2⟩ (.slice l m o)).ownsRow (w.heap.size+3) 284 4 (.slice l m o) (fG C gone kept).length (eH .u8 (fG C gone kept)):=
    (b.kept (dh Y (w.heap.size+1) 0 _) (.inr λe=>by have:=jN b e;omega)).kept (dh _ (w.heap.size+1) 1 _) (.inr λe=>by have:=jN b e;omega)
   have k8:=E.same M _ k7 rfl;have ke:=E.same D _ hm rfl;have kb:D≠M:=(by have:=z.out;omega);have q0:=(To.1 k8).1;have qe:=(To.1 ke).1;have kj:M≠w.heap.size+1:=(by have:=z.out;omega);generalize ((Y.setCell ⟨w.heap.size+1,0,Z2⟩ (Z7 Z9 (1+((ae gone).length:Int)))).setCell ⟨w.heap.size+1,1,Z2⟩ (.slice l m o))=Z at k5 kr hq k8 ke q0 qe ⊢;have hn:(Z.putObj M (.deferred Z2)).heap[D]?=Z1 (.deferred (Z1 [])):=(World.putObj_heap_other kb).trans ke;refine ⟨by simp,.inl ⟨_,_,rfl,run_takeDeferred k8,by simp,.inl ⟨_,_,rfl,run_takeDeferred hn,?_⟩⟩⟩;have qh:((Z.putObj M (.deferred Z2)).putObj D (.deferred Z2)).heap[w.heap.size+1]?=Z1 (Z4 #[Z7 Z9 (1+((ae gone).length:Int)),.slice l m o] 210 (0,0)):=((World.putObj_heap_other (by omega)).trans (World.putObj_heap_other (Ne.symm kj))).trans k5;have kg:=grownBy_putObj' Z M (.deferred Z2);have kh:=grownBy_putObj' (Z.putObj M (.deferred Z2)) D (.deferred Z2);have q1:∀ (U:Z0) (d:Nat),U.heap[d]?=Z1 (.deferred (Z1 []))->U.ownsRow (w.heap.size+3) 284 4 (.slice l m o) (fG C gone kept).length (eH .u8 (fG C gone kept))->(Value.slice l m o).ownBlock≠Z1 d:=by
    intro U d hd hU e;rcases hU.2 with ⟨e1,_⟩|⟨g,cap,cur,e1,_,kx,_⟩
    . cases e1;cases e
    . cases e1;obtain rfl:g=d:=(by simpa [Value.ownBlock] using e);rw [hd] at kx;cases kx
   have k0:=hq.kept kg (.inr (q1 _ _ k8 hq));have kk:=k0.kept kh (.inr (q1 _ _ hn k0));exact ⟨_,results_cell_row Tryz.results198 _ _ (w.heap.size+1) 210 #[Z7 Z9 (1+((ae gone).length:Int)),.slice l m o] (0,0) _ rfl qh Tryz.underlying210 rfl FW,_,rfl,Below.putObj' (Below.putObj' kr (by have:=z.out;omega) q0 _) (by omega) (To.1 hn).1 _,jO kk (by omega)⟩
  case stop2=>
   rintro D c pre X _ _ u;exact u.elim
 case stop=>
  rintro D c pre X _ _ u;exact u.elim
end
end Go.Proofs.YtfbmmcnpjhmjaaaGreatDoor
