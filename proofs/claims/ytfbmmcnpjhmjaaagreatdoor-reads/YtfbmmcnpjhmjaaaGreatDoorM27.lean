import Derived.Test.YtfbmmcnpjhmjaaaGreatDoorM26
set_option maxRecDepth 100000
set_option maxHeartbeats 8000000
open Go.Value renaming int -> Z9, pointer -> Z8
open Go.Ending renaming returned -> Z7
open Go.Operand renaming tmp -> Z6
open Option renaming none -> Z5, some -> Z4
open Bool renaming true -> Z3, false -> Z2
open Go renaming World -> Z1
open List renaming range -> Tm, getElem?_map -> To, getElem?_range -> Tp, mem_filter -> Tq, getElem?_toArray -> Tv, take_succ_cons -> Tx, take_zero -> Ty, drop_succ_cons -> Tz, cons_append -> TA, nil_append -> TB, mem_range -> TC
open Option renaming map_some -> Tn, map_eq_some_iff -> Tu, getD_some -> TE
open Array renaming getElem?_eq_getElem -> Tr, getElem?_eq_none -> Tw, all_eq_true' -> TF
open Option.some renaming inj -> Ts, injEq -> Tt
open Bool renaming and_eq_true_iff -> TD
open Go.Proofs.Tryz renaming prog -> Z0
namespace Go.Proofs.YtfbmmcnpjhmjaaaGreatDoor
open Go.RowKit
variable {a:Act} {K:Act->Z1->Prop} {listed:Array Bool} {ops:Array Oper} {Q:Exit->Act->Z1->Prop} {F:Fence} {rest:List Oper} {l:List Value} {b n i:Nat} {o:Oper} {P:Program} {w w':Z1}
theorem js.split {lo hi:Nat} {a':Act} (b:js lo hi a a') (p:lo<=hi) (q:hi<=a.tmps.size) :
 ∃ l:List Value,l.length=hi-lo/\a'={ tmps:=(a.tmps.toList.take lo++(l++a.tmps.toList.drop hi)).toArray,defers:=a.defers }:=by
 have f:∀ (x:Act) (s:Nat),s<x.tmps.size->x.tmps[s]?=Z4 (x.eval (.tmp s)):=λx s g=>by
  simp [Act.eval,Array.getD_eq_getD_getElem?,g]
 refine ⟨(a'.tmps.toList.drop lo).take (hi-lo),?_,?_⟩
 . have:=b.size;simp;omega
 . obtain ⟨c,o⟩:=a';have g:=b.size;have j:=b.defers;simp only at g j;subst j;congr 1;apply Array.ext_getElem?;intro i;simp only [Tv,List.getElem?_append,List.getElem?_take,List.getElem?_drop,List.length_take,List.length_drop,Array.length_toList,Array.getElem?_toList];by_cases c1:i<lo
   . rw [if_pos (by omega),if_pos c1];have e:=b.slot i (.inl c1);have d:=f ⟨c,a.defers⟩ i (by show i<c.size;omega);have h:=f a i (by omega);simp only at d;rw [d,h,e]
   . by_cases n:i<hi
     . rw [if_neg (by omega),if_pos (by omega),if_pos (by omega),show lo+(i-min lo a.tmps.size)=i by omega]
     . rw [if_neg (by omega),if_neg (by omega)];have m:hi+(i-min lo a.tmps.size-min (hi-lo) (c.size-lo))=i:=(by omega);rw [m];by_cases k:i<a.tmps.size
       . have e:=b.slot i (.inr (by omega));have d:=f ⟨c,a.defers⟩ i (by show i<c.size;omega);have h:=f a i k;simp only at d;rw [d,h,e]
       . rw [Tw (by omega),Tw (by omega)]
theorem Pr (h:l.length=9):∃ u0 u1 u2 u3 u4 u5 u6 u7 u8,l=[u0,u1,u2,u3,u4,u5,u6,u7,u8]:=by
 match l,h with
 | [u0,u1,u2,u3,u4,u5,u6,u7,u8],_=>exact ⟨u0,u1,u2,u3,u4,u5,u6,u7,u8,rfl⟩
theorem Pt (h:l.length=14):∃ u0 u1 u2 u3 u4 u5 u6 u7 u8 u9 u10 u11 u12 u13,l=[u0,u1,u2,u3,u4,u5,u6,u7,u8,u9,u10,u11,u12,u13]:=by
 match l,h with
 | [u0,u1,u2,u3,u4,u5,u6,u7,u8,u9,u10,u11,u12,u13],_=>exact ⟨u0,u1,u2,u3,u4,u5,u6,u7,u8,u9,u10,u11,u12,u13,rfl⟩
theorem Pu (h:l.length=28):∃ u0 u1 u2 u3 u4 u5 u6 u7 u8 u9 u10 u11 u12 u13 u14 u15 u16 u17 u18 u19 u20 u21 u22 u23 u24 u25 u26 u27,l=[u0,u1,u2,u3,u4,u5,u6,u7,u8,u9,u10,u11,u12,u13,u14,u15,u16,u17,u18,u19,u20,u21,u22,u23,u24,u25,u26,u27]:=by
 match l,h with
 | [u0,u1,u2,u3,u4,u5,u6,u7,u8,u9,u10,u11,u12,u13,u14,u15,u16,u17,u18,u19,u20,u21,u22,u23,u24,u25,u26,u27],_=>exact ⟨u0,u1,u2,u3,u4,u5,u6,u7,u8,u9,u10,u11,u12,u13,u14,u15,u16,u17,u18,u19,u20,u21,u22,u23,u24,u25,u26,u27,rfl⟩
section
open Go.Deep Gf
theorem Ag (b i:Nat) (C:Ck) (w:Z1) (j:aD w b C) (k:dU C) (v:i<16) :
 Calls Z0 213 #[Z8 (Z4 ⟨b,0,Z5⟩),Z9 .i64 i] w λe w'=>
  (il C i=Z5/\e=Z7 (.bool Z2)/\w'=w)\/(∃ n,il C i=Z4 n/\e=Z7 (.bool Z3)/\aD w' b n/\w.grownBy w' (Z4 b)):=by
 go_enter Tryz.func213,Tryz.ntmps213;go_wp2_with fail;refine (vk b i C w j k v).mono ?_;rintro e w1 ⟨rfl,K⟩;subst K;cases h3:dk C i with
 | none=>
  have g:Hid (il C i=Z5):=hide (by unfold il;rw [h3];rfl);simp only [Pg];clear h3;go_wp2;go_ret;exact .inl ⟨g.out,rfl,rfl⟩
 | some r=>
  obtain ⟨N,O,P⟩:=eC h3;have g:Hid (il C i=Z4 (gL C i r)):=hide (by unfold il;rw [h3];rfl);have M:=k.most;simp only [Pg];clear h3;go_wp2_with fail;refine (vt b r i C _ j k (by omega) v).mono ?_;rintro e w2 ⟨rfl,d,h⟩;have p:=d.countC;have D:=d.frozen 129;have s:(ly C C.count r i).count=C.count:=rfl;rw [s] at p;have c:=vu d (C.count-1);have a:=eX h 129 (Z9 .i64 ((C.count-1:Nat):Int));have J:wrap64 ((C.count:Int)-1)=((C.count-1:Nat):Int):=by unfold wrap64;omega
  have E:IntKind.i64.wrap ((C.count:Int)-1)=((C.count-1:Nat):Int):=by rw [IntKind.wrap_i64];omega
  obtain ⟨f,t⟩:=nM (w2.setCell ⟨b,129,Z5⟩ (Z9 .i64 ((C.count-1:Nat):Int)));rw [t] at c a;have F:=hide d;have H:=hide h;have G:=hide c;have I:=hide a;have B:=c.countC;have o:=hide (xE (show aD f.drew b _ from c) r (by omega) ((ly C C.count r i).m (C.count-1)));have q:Hid (w1.grownBy (f.drew.setCells b (r*16) (cG ((ly C C.count r i).m (C.count-1)))) (Z4 b)):=hide (nV _ _ _ _ ⟨a.os,a.tape,a.output,a.size,a.block⟩);have z:=hide (j3 (show aD f.drew b _ from c) (C.count-1) (by omega));have A:=hide (rY (show aD f.drew b _ from c) r (by omega));clear d h c a j;go_wp2;clear t p D J E s F H G I;refine LG b r (C.count-1) (ly C C.count r i).m (by omega) (by omega) B z.out A.out (by kernel_rfl) rfl rfl rfl ?_;intro L x;obtain ⟨l,y,rfl⟩:=x.split (by decide) (by simp);clear x;obtain ⟨u0,u1,u2,u3,u4,u5,u6,u7,u8,u9,u10,u11,u12,u13,rfl⟩:=Pt y;clear y;simp only [Tx,Ty,Tz,TA,TB,List.drop_nil,List.append_nil];obtain ⟨Q,u⟩:=nM (f.drew.setCells b (r*16) (cG ((ly C C.count r i).m (C.count-1))));rw [u] at o q ⊢;clear u;go_wp2;go_ret;exact .inr ⟨_,g.out,rfl,o.out,q.out⟩
theorem Jh (m:Nat->Nat->Nat) (t r:Nat):ux (ux m t (m r)) r (m t)=bR m t r:=by
 funext k;unfold ux bR;by_cases b:k=r
 . rw [if_pos b];by_cases a:k=t
   . rw [if_pos a,<- b,<- a]
   . rw [if_neg a,if_pos b]
 . rw [if_neg b];by_cases a:k=t
   . rw [if_pos a,if_pos a]
   . rw [if_neg a,if_neg a,if_neg b]
theorem sq (b i:Nat) (C:Ck) (w:Z1) (a:aD w b C) (c:dU C) (o:i<16) :
 Calls Z0 197 #[Z8 (Z4 ⟨b,0,Z5⟩),Z9 .i64 i] w λe w'=>
  (jo C i=Z5/\e=Z7 (.bool Z2)/\w'=w)\/(∃ p,jo C i=Z4 p/\e=Z7 (.bool Z3)/\aD w' b p/\w.grownBy w' (Z4 b)):=by
 go_enter Tryz.func197,Tryz.ntmps197;go_wp2_with fail;refine (vk b i C w a c o).mono ?_;rintro e w1 ⟨rfl,R⟩;subst R;cases h4:dk C i with
 | none=>
  have h:Hid (jo C i=Z5):=hide (by unfold jo;rw [h4];rfl);simp only [Pg];clear h4;go_wp2;go_ret;exact .inl ⟨h.out,rfl,rfl⟩
 | some r=>
  obtain ⟨Z,r2,r3⟩:=eC h4;have h:Hid (jo C i=Z4 (jn C i r)):=hide (by unfold jo;rw [h4];rfl);have W:=c.most;simp only [Pg];clear h4;have d:=a.toldC;have x:=xE (xE (show aD w1.drew b _ from a) C.told (by omega) (C.m r)) r (by omega) (C.m C.told);have u:(⟨ux (ux C.m C.told (C.m r)) r (C.m C.told),C.told,C.count⟩:Ck)=⟨bR C.m C.told r,C.told,C.count⟩:=by rw [Jh]
  have y:aD ((w1.drew.setCells b (C.told*16) (cG (C.m r))).setCells b (r*16) (cG (C.m C.told))) b ⟨bR C.m C.told r,C.told,C.count⟩:=by rw [<- u];exact x
  have F:w1.grownBy ((w1.drew.setCells b (C.told*16) (cG (C.m r))).setCells b (r*16) (cG (C.m C.told))) (Z4 b):=
   nV _ _ _ _ (nV _ _ _ _ ⟨rfl,rfl,rfl,Nat.le_refl _,λ_ _ _=>rfl⟩)
  have f:=hide y;have k:=hide F;have q:=hide (j3 (show aD w1.drew b _ from a) r (by omega));have D:=hide (j3 (show aD w1.drew b _ from a) C.told (by omega));have s:=hide (rY (show aD w1.drew b _ from a) r (by omega));have E:=hide (rY (show aD w1.drew b _ from a) C.told (by omega));clear x u y F a;go_wp2;refine Af b r C.told C.m (by omega) (by omega) d q.out D.out s.out E.out (by kernel_rfl) rfl rfl rfl ?_;intro U I;obtain ⟨l,J,rfl⟩:=I.split (by decide) (by simp);clear I q D s E;obtain ⟨u0,u1,u2,u3,u4,u5,u6,u7,u8,u9,u10,u11,u12,u13,u14,u15,u16,u17,u18,u19,u20,u21,u22,u23,u24,u25,u26,u27,rfl⟩:=Pu J;clear J;simp only [Tx,Ty,Tz,List.drop_zero,TA,TB];obtain ⟨w2,M⟩:=nM ((w1.drew.setCells b (C.told*16) (cG (C.m r))).setCells b (r*16) (cG (C.m C.told)));rw [M] at f k ⊢;clear M d;have d:=f.out.toldC;have Q:dU ⟨bR C.m C.told r,C.told,C.count⟩:=⟨fP c.byt,c.le,c.most⟩;go_wp2_with fail;refine (zX b C.told i _ _ f.out Q (by omega) o).mono ?_;rintro e w3 ⟨rfl,n,H⟩;have S:dU ⟨dP (bR C.m C.told r) C.told i,C.told,C.count⟩:=⟨m0 (fP c.byt),c.le,c.most⟩;have v:=gd k.out H;have j:=n.toldC;have A:=hide n;have B:=hide v;clear n H v d f k;go_wp2_with fail;refine (vt b C.told i _ _ A.out S (by omega) o).mono ?_;rintro e T ⟨rfl,g,K⟩;have z:=gd B.out K;have G:=I1 g (C.told+1);have L:=eX z 128 (Z9 .i64 ((C.told+1:Nat):Int));have t:=g.toldC;have V:=g.frozen 128;have N:T.cell? ⟨b,128,Z5⟩=Z4 (Z9 .i64 (C.told:Int)):=t;have Y:wrap64 ((C.told:Int)+1)=((C.told+1:Nat):Int):=by unfold wrap64;omega
  have X:IntKind.i64.wrap ((C.told:Int)+1)=((C.told+1:Nat):Int):=by rw [IntKind.wrap_i64];omega
  have O:=hide G;have P:=hide L;clear g K z G L t j A B;go_wp2;go_ret;exact .inr ⟨_,h.out,rfl,O.out,P.out⟩
end
section
open Go.Deep Gf
def aV (C:Ck):Array Value:=((Tm 130).map (nE C)).toArray
theorem aY (C:Ck):(aV C).size=130:=by unfold aV;rw [List.size_toArray,List.length_map,List.length_range]
theorem xL (C:Ck) (i:Nat) (a:i<130):(aV C)[i]?=Z4 (nE C i):=by
 unfold aV;rw [Tv,To,Tp a];rfl
theorem Tryz.infoCk:(Z0.info? 319).map (λi=>i.size)=Z4 130:=by kernel_rfl
theorem eh (C:Ck):(Z0.info? 319).map (λi=>i.size)=Z4 (aV C).size:=by rw [aY];exact Tryz.infoCk
theorem LH (C:Ck) (i:Nat):(nE C i).oneCell'=Z3:=by
 unfold nE;split
 . rfl
 . split<;>rfl
theorem oj (C:Ck):(aV C).all (λv=>v.oneCell')=Z3:=by
 rw [Array.all_eq_true];intro i a;have:=xL C i (by rw [<- aY C];exact a);rw [Tr a] at this;rw [Ts this];exact LH C i
theorem aD.heap {C:Ck} (h:aD w b C):w.heap[b]?=Z4 (.cells (aV C) 319 (0,0)):=by
 obtain ⟨c,j,l,k⟩:=h;have e:c=aV C:=by
  apply Array.ext
  . rw [l,aY]
  . intro i f g;have a:=k i (by omega);have d:=xL C i (by omega);rw [Tr f] at a;rw [Tr g] at d;rw [Ts a,Ts d]
 rw [<- e];exact j
theorem aD.of_heap {C:Ck} (h:w.heap[b]?=Z4 (.cells (aV C) 319 (0,0))):aD w b C:=⟨_,h,aY C,λi a=>xL C i a⟩
theorem aD.new (w:Z1) (C:Ck):aD (w.alloc (.cells (aV C) 319)) w.heap.size C:=aD.of_heap (World.alloc_heap_new w _)
theorem aD.lt {C:Ck} (h:aD w b C):b<w.heap.size:=(Array.getElem?_eq_some_iff.1 h.heap).1
theorem aD.keep {C:Ck} (h:aD w b C) (e:w'.heap[b]?=w.heap[b]?):aD w' b C:=aD.of_heap (e.trans h.heap)
theorem aD.setRow {C':Ck} (C:Ck) (h:aD w b C'):aD (w.setRow b (aV C)) b C:=aD.of_heap (setRow_heap w b (aV C') (aV C) _ _ h.heap)
theorem aR (w:Z1) (b:Nat) (cs:Array Value):w.grownBy (w.setRow b cs) (Z4 b):=
 ⟨rfl,rfl,rfl,by simp,λk _ a=>by
  have:b≠k:=λe=>a (by rw [e]);simp [World.setRow,Array.getElem?_modify,this]⟩
theorem mi {C:Ck} (h:aD w b C):(Instr.loadAt 319 (Z8 (Z4 ⟨b,0,Z5⟩))).run Z0 w=.ok (.agg (aV C)) w:=by
 simp only [Instr.loadAt,Instr.sureAddr,Sem.run_bind,Sem.run_pure,Result.andThen_ok,run_loadVar_row w b 319 319 (aV C) (0,0) _ h.heap Tryz.underlying319 rfl (eh C)]
theorem m8 {C':Ck} (C:Ck) (h:aD w b C'):(Instr.storeAt 319 (Z8 (Z4 ⟨b,0,Z5⟩)) (.agg (aV C))).run Z0 w=.ok () (w.setRow b (aV C)):=by
 simp only [Instr.storeAt,Instr.sureAddr,Sem.run_bind,Sem.run_pure,Result.andThen_ok,run_storeVar_row w b 319 319 (aV C') (aV C) h.heap (eh C) (by rw [aY,aY]) (oj C)]
theorem j8 (f:o.guard=Z5) (x:Operand) (ho:o.op=.load 319 x) (b:Nat) (C:Ck)
 (g:a.eval x=Z8 (Z4 ⟨b,0,Z5⟩)) (e:aD w b C) (h:wpListIn F n Z0 ops Q rest (a.put o.dst (.agg (aV C))) w):wpListIn F n Z0 ops Q (o::rest) a w:=by
 refine wpListIn_plain f λK hK=>?_;unfold Oper.wpIn;refine ⟨by simp [Oper.about,ho],?_⟩;rw [Oper.semAt_plain F _ _ (by rw [ho];intro c d;cases d)];simp [execOp,ho,g,mi e,Result.andThen];exact hK _ _ h
theorem jJ (g:o.guard=Z5) (x y:Operand) (ho:o.op=.store 319 x y) (b:Nat) (C d:Ck)
 (i:a.eval x=Z8 (Z4 ⟨b,0,Z5⟩)) (j:a.eval y=.agg (aV C)) (f:aD w b d) (h:wpListIn F n Z0 ops Q rest (a.put o.dst undef) (w.setRow b (aV C))):wpListIn F n Z0 ops Q (o::rest) a w:=by
 refine wpListIn_plain g λK hK=>?_;unfold Oper.wpIn;refine ⟨by simp [Oper.about,ho],?_⟩;rw [Oper.semAt_plain F _ _ (by rw [ho];intro c e;cases e)];simp [execOp,ho,i,j,m8 C f,Result.andThen];exact hK _ _ h
def dC:Ck:=⟨λ_ _=>0,0,0⟩
theorem Tryz.zeroCk:(Z0.info? 319).map (λi=>(i.zero,i.size,i.bytes))=Z4 (Z4 (.agg (aV dC)),130,144):=by kernel_rfl
theorem zeroCk (w:Z1):(zeroValue 319).run Z0 w=.ok (.agg (aV dC)) w:=by
 obtain ⟨c,a,b,_,_⟩:=info_parts Tryz.zeroCk;simp [zeroValue,typeInfo,Sem.run_bind,a,b]
theorem aD.mono {B:Nat} {C:Ck} (h:aD w b C) (c:Below B w w') (a:b<B):aD w' b C:=h.keep (c.block b a)
end
section
open Go.Shelf Go.Deep Gf
theorem dt {v:Value} (g:o.guard=Z5) (d:o.about P w a.eval=Z5) (e:∀ c,o.op≠.defer c)
 (i:(execOp a.eval o).run P w=.ok (.value v) w') (h:K (a.put o.dst v) w'):if Region.wanted o (yielded ops a.tmps)=Z3 then Oper.wpIn F n P o a w K Q else (∀ f,o.about P w a.eval=Z4 f->F.fn f)/\K (a.put o.dst undef) w:=by
 rw [if_pos (xK g)];unfold Oper.wpIn;refine ⟨λf b=>(by rw [d] at b;cases b),?_⟩;rw [Oper.semAt_plain F _ _ e,i];exact h
theorem mj (g:o.guard=Z5) (d:o.about P w a.eval=Z5) (e:∀ c,o.op≠.defer c)
 (i:(execOp a.eval o).run P w=.ok .skip w') (h:K (a.put o.dst undef) w'):if Region.wanted o (yielded ops a.tmps)=Z3 then Oper.wpIn F n P o a w K Q else (∀ f,o.about P w a.eval=Z4 f->F.fn f)/\K (a.put o.dst undef) w:=by
 rw [if_pos (xK g)];unfold Oper.wpIn;refine ⟨λf b=>(by rw [d] at b;cases b),?_⟩;rw [Oper.semAt_plain F _ _ e,i];exact h
theorem pj {f:FuncId} {args:Array Value} {R:Ending->Z1->Prop} (g:∀ f,F.fn f) (j:F.depth=Z5) (l:o.guard=Z5) (d:∀ c,o.op≠.defer c)
 (p:(execOp a.eval o).run P w=.ok (.enter f args) w') (i:CallsIn F (n-1) P f args w' R) (h:∀ e b,R e b->∃ v,e=Z7 v/\K (a.put o.dst v) b):if Region.wanted o (yielded ops a.tmps)=Z3 then Oper.wpIn F n P o a w K Q else (∀ f,o.about P w a.eval=Z4 f->F.fn f)/\K (a.put o.dst undef) w:=by
 rw [if_pos (xK l)];unfold Oper.wpIn;refine ⟨λf _=>g f,?_⟩;rw [Oper.semAt_plain F _ _ d,p];refine ⟨λh=>(by rw [j] at h;cases h),i.mono λe b k=>?_⟩;obtain ⟨v,rfl,m⟩:=h e b k;exact m
def Hi:Code->Nat->Option (Array Oper)
 | .region i ops _,n=>if i=n then Z4 ops else Z5
 | .seq a b,n=>(Hi a n).orElse λ_=>Hi b n
 | .cond _ a b,n=>(Hi a n).orElse λ_=>Hi b n
 | .block _ a,n=>Hi a n
 | .loop a,n=>Hi a n
 | .scope a,n=>Hi a n
 | .rangeFunc _ _ a b,n=>(Hi a n).orElse λ_=>Hi b n
 | _,_=>Z5
noncomputable def oq:Array Oper:=((Tryz.f212.body.bind (Hi · 8))).getD #[]
theorem gP:(Tm 9).map (λi=>(oq[i]?).map λo=>(o.op,o.dst,o.guard))=[    Z4 (.load 319 (Z6 12),Z4 28,Z5),
 Z4 (.load 124 (Z6 6),Z4 29,Z5),
 Z4 (.move (Z6 11),Z4 30,Z5),
 Z4 (.call { callee:=.value (.func 214),args:=#[Z6 29,Z6 30],argTypes:=#[124,3] },Z4 31,Z5),
 Z4 (.load 3 (Z6 7),Z4 32,Z5),
 Z4 (.load 206 (Z6 8),Z4 33,Z5),
 Z4 (.load 332 (Z6 9),Z4 34,Z5),
 Z4 (.call { callee:=.value (.func 212),args:=#[Z6 28,Z6 31,Z6 32,Z6 33,Z6 34],argTypes:=#[319,124,3,206,332] },Z4 35,Z5),
 Z4 (.unOp .not 4 (Z6 35),Z4 36,Z5)]:=by kernel_rfl
theorem gQ {x:Op} {d:Option Nat} (f:i<9) (h:((Tm 9).map (λi=>(oq[i]?).map λo=>(o.op,o.dst,o.guard)))[i]?=Z4 (Z4 (x,d,Z5))):∃ o,oq[i]?=Z4 o/\o.op=x/\o.dst=d/\o.guard=Z5:=by
 simp only [To,Tp f,Tn,Tt,Tu,Prod.mk.injEq] at h;obtain ⟨o,a,b,c,e⟩:=h;exact ⟨o,a,b,c,e⟩
def uh:Nat->List Nat
 | 3=>[1,2]
 | 7=>[0,3,4,5,6,3]
 | 8=>[7]
 | _=>[]
theorem Ah:(Tm 9).map (λi=>(oq[i]?).map λo=>(o.after.toList.filter (λe=>Region.binds .any e)).map (λe=>e.on))=(Tm 9).map (λi=>Z4 (uh i)):=by kernel_rfl
theorem pq (h:i∈Region.ready .any oq listed):i<9/\listed.getD i Z3=Z2/\∀ k∈uh i,listed.getD k Z2=Z3:=by
 have g:oq.size=9:=by kernel_rfl
 unfold Region.ready at h;rw [Tq,g,TC] at h;obtain ⟨c,a⟩:=h;rw [TD] at a;refine ⟨c,by simpa using a.1,λk f=>?_⟩;have b:(oq[i]?).map (λo=>(o.after.toList.filter (λe=>Region.binds .any e)).map (λe=>e.on))=Z4 (uh i):=by
  have:=congrArg (λl=>l[i]?) Ah;simp only [To,Tp c,Tn,Tt] at this;exact this
 rw [Tu] at b;obtain ⟨o,ho,j⟩:=b;rw [ho] at a;have d:=a.2;simp only [Tn,TE] at d;rw [<- j,List.mem_map] at f;obtain ⟨e,b,rfl⟩:=f;obtain ⟨m,n⟩:=Tq.1 b;have:=TF.1 d e (by simpa using m);simpa [n] using this
theorem eE (b:i<9) (f:listed.getD i Z3=Z2) (g:∀ k∈uh i,listed.getD k Z2=Z3):i∈Region.ready .any oq listed:=by
 have d:oq.size=9:=by kernel_rfl
 unfold Region.ready;rw [Tq,d,TC];refine ⟨b,?_⟩;rw [TD];refine ⟨by simpa using f,?_⟩;have a:(oq[i]?).map (λo=>(o.after.toList.filter (λe=>Region.binds .any e)).map (λe=>e.on))=Z4 (uh i):=by
  have:=congrArg (λl=>l[i]?) Ah;simp only [To,Tp b,Tn,Tt] at this;exact this
 rw [Tu] at a;obtain ⟨o,ho,h⟩:=a;rw [ho];simp only [Tn,TE];rw [TF];intro e a;by_cases c:Region.binds .any e=Z3
 . have:=g e.on (by rw [<- h];exact List.mem_map.2 ⟨e,Tq.2 ⟨by simpa using a,c⟩,rfl⟩);simp [this]
 . simp [c]
theorem ml (I:Nat->Array Bool->Act->Z1->Prop)
 (c:∀ listed a w,I 0 listed a w->Region.ready .any ops listed=[]/\Q .normal a w)
 (b:∀ f listed a w,I (f+1) listed a w->Region.ready .any ops listed≠[]/\∀ i∈Region.ready .any ops listed,wpOpIn F n P ops Q i (I f (listed.setIfInBounds i Z3)) a w) :
 ∀ f listed a w,I f listed a w->wpAnyIn F n P .any ops Q f listed a w
 | 0,listed,a,w,h=>c listed a w h
 | f+1,listed,a,w,h=>⟨λe=>absurd e (b f listed a w h).1,λi j=>wpOpIn_mono (λd w' g=>ml I c b f _ d w' g) ((b f listed a w h).2 i j)⟩
def bn (b:Bool):Nat:=if b=Z3 then 0 else 1
def Qt (a:Act) (w:Z1) (R:Z1->Prop) (i of q:Nat) (C:Ck) (vf vy:Value) (f:Nat) (listed:Array Bool) (a':Act) (w':Z1):Prop:=
 js 28 37 a a'/\((∃ b0 b1 b2 b3 b4 b5 b6:Bool,listed=#[b0,b1,b2,b3,b4,b5,b6,Z2,Z2]/\f=2+(bn b0+bn b1+bn b2+bn b3+bn b4+bn b5+bn b6)/\(b3=Z3->b1=Z3/\b2=Z3)/\w'=w.drew /\
  (b0=Z3->a'.eval (Z6 28)=.agg (aV C))/\(b1=Z3->a'.eval (Z6 29)=Z9 .u64 (of:Int))/\(b2=Z3->a'.eval (Z6 30)=Z9 .i64 (i:Int))/\(b3=Z3->a'.eval (Z6 31)=Z9 .u64 (bL of i:Nat)) /\
  (b4=Z3->a'.eval (Z6 32)=Z9 .i64 (q:Int))/\(b5=Z3->a'.eval (Z6 33)=vf)/\(b6=Z3->a'.eval (Z6 34)=vy)) \/
  (f=1/\listed=#[Z3,Z3,Z3,Z3,Z3,Z3,Z3,Z3,Z2]/\a'.eval (Z6 35)=.bool Z3/\R w') \/
  (f=0/\listed=#[Z3,Z3,Z3,Z3,Z3,Z3,Z3,Z3,Z3]/\a'.eval (Z6 36)=.bool Z2/\R w'))
theorem dg {b:Bool} (h:b=Z2):bn b=1:=by rw [h];rfl
theorem CR {l:Nat} (O B6 B7 B8 B9 i of q:Nat) (C:Ck) (T U:Value) (R:Z1->Prop) (hR:oq=ops)
 (y:a.tmps.size=39) (hi:i<16) (ha:of<65536) (i12:a.eval (Z6 12)=Z8 (Z4 ⟨O,0,Z5⟩)) (i6:a.eval (Z6 6)=Z8 (Z4 ⟨B6,0,Z5⟩)) (i11:a.eval (Z6 11)=Z9 .i64 (i:Int)) (i7:a.eval (Z6 7)=Z8 (Z4 ⟨B7,0,Z5⟩)) (i8:a.eval (Z6 8)=Z8 (Z4 ⟨B8,0,Z5⟩)) (i9:a.eval (Z6 9)=Z8 (Z4 ⟨B9,0,Z5⟩))
 (h9:aD w.drew O C) (c6:w.drew.cell? ⟨B6,0,Z5⟩=Z4 (Z9 .u64 (of:Int))) (c7:w.drew.cell? ⟨B7,0,Z5⟩=Z4 (Z9 .i64 (q:Int))) (c8:w.drew.cell? ⟨B8,0,Z5⟩=Z4 T) (c9:w.drew.cell? ⟨B9,0,Z5⟩=Z4 U)
 (h8:∀ m,CallsIn Fence.wide m Z0 212 #[.agg (aV C),Z9 .u64 (bL of i:Nat),Z9 .i64 (q:Int),T,U] w.drew λe p=>e=Z7 (.bool Z3)/\R p)
 (h:∀ x p,js 28 37 a x->x.eval (Z6 36)=.bool Z2->R p->Q .normal x p):(Code.region 8 ops Z3).wpIn (Fence.wide.inRound l) n Z0 Q a w:=by
 subst hR;obtain ⟨p0,g0,x0,d0,k0⟩:=gQ (i:=0) (by decide) (by rw [gP];rfl);obtain ⟨p1,g1,x1,d1,k1⟩:=gQ (i:=1) (by decide) (by rw [gP];rfl);obtain ⟨p2,g2,x2,d2,k2⟩:=gQ (i:=2) (by decide) (by rw [gP];rfl);obtain ⟨p3,g3,x3,d3,k3⟩:=gQ (i:=3) (by decide) (by rw [gP];rfl);obtain ⟨p4,g4,x4,d4,k4⟩:=gQ (i:=4) (by decide) (by rw [gP];rfl);obtain ⟨p5,g5,x5,d5,k5⟩:=gQ (i:=5) (by decide) (by rw [gP];rfl);obtain ⟨p6,g6,x6,d6,k6⟩:=gQ (i:=6) (by decide) (by rw [gP];rfl);obtain ⟨p7,g7,x7,d7,k7⟩:=gQ (i:=7) (by decide) (by rw [gP];rfl);obtain ⟨p8,g8,x8,d8,k8⟩:=gQ (i:=8) (by decide) (by rw [gP];rfl);have h6:oq.size=9:=by kernel_rfl
 refine wpIn_region_any (by kernel_rfl) ?_;rw [h6];refine ml (Qt a w R i of q C T U) ?_ ?_ 9 _ a _ ⟨js.refl _ _ _,.inl ⟨Z2,Z2,Z2,Z2,Z2,Z2,Z2,rfl,rfl,λh=>(by cases h),rfl,λh=>(by cases h),λh=>(by cases h),λh=>(by cases h),λh=>(by cases h),λh=>(by cases h),λh=>(by cases h),λh=>(by cases h)⟩⟩
 . rintro listed x w' ⟨b,⟨b0,b1,b2,b3,r,s,t,_,d,_⟩|⟨d,_⟩|⟨_,rfl,f36,P⟩⟩
   . omega
   . omega
   . refine ⟨List.eq_nil_iff_forall_not_mem.2 λj N=>?_,h x w' b f36 P⟩;obtain ⟨h1,u,_⟩:=pq N;have:j=0\/j=1\/j=2\/j=3\/j=4\/j=5\/j=6\/j=7\/j=8:=by omega
     rcases this with rfl|rfl|rfl|rfl|rfl|rfl|rfl|rfl|rfl<;>simp at u
 . rintro f listed x w' ⟨b,⟨b0,b1,b2,b3,r,s,t,rfl,d,B,rfl,D,E,F,G,H,I,J⟩|⟨d,rfl,f35,P⟩|⟨d,_⟩⟩
   . constructor
     ·
      intro h5;have z:∀ j,j∉Region.ready .any oq #[b0,b1,b2,b3,r,s,t,Z2,Z2]:=λj=>by rw [h5];simp
      have W:b0=Z3:=eq_true_of_ne_false λe=>z 0 (eE (by decide) (by simp [e]) (by simp [uh]));have L:b1=Z3:=eq_true_of_ne_false λe=>z 1 (eE (by decide) (by simp [e]) (by simp [uh]));have M:b2=Z3:=eq_true_of_ne_false λe=>z 2 (eE (by decide) (by simp [e]) (by simp [uh]));have V:b3=Z3:=eq_true_of_ne_false λe=>z 3 (eE (by decide) (by simp [e]) (by simp [uh,L,M]));have X:r=Z3:=eq_true_of_ne_false λe=>z 4 (eE (by decide) (by simp [e]) (by simp [uh]));have Y:s=Z3:=eq_true_of_ne_false λe=>z 5 (eE (by decide) (by simp [e]) (by simp [uh]));have Z:t=Z3:=eq_true_of_ne_false λe=>z 6 (eE (by decide) (by simp [e]) (by simp [uh]));exact z 7 (eE (by decide) (by simp) (by simp [uh,W,V,X,Y,Z]))
     . intro j N;obtain ⟨h1,u,A⟩:=pq N;clear N;have h7:j=0\/j=1\/j=2\/j=3\/j=4\/j=5\/j=6\/j=7\/j=8:=(by omega);rcases h7 with rfl|rfl|rfl|rfl|rfl|rfl|rfl|rfl|rfl
       . have o:b0=Z2:=(by simpa using u);have k:=(b.slot 12 (by omega)).trans i12;refine wpOpIn_step g0 λK hK=>dt (v:=.agg (aV C)) (w':=w.drew) k0 (by simp [Oper.about,x0]) (by rw [x0];intro c g;cases g) (by simp [execOp,x0,k,mi h9,Result.andThen]) (hK _ _ ?_);rw [d0];exact ⟨b.put 28 _ (by decide) (by decide),.inl ⟨Z3,b1,b2,b3,r,s,t,rfl,by rw [dg o] at d;simp only [bn,if_true];simp only [bn] at d;omega,B,rfl,λ_=>dm _ _ _ (by rw [b.size,y];decide),λe=>(ah _ _ _ _ (by decide)).trans (E e),λe=>(ah _ _ _ _ (by decide)).trans (F e),λe=>(ah _ _ _ _ (by decide)).trans (G e),λe=>(ah _ _ _ _ (by decide)).trans (H e),λe=>(ah _ _ _ _ (by decide)).trans (I e),λe=>(ah _ _ _ _ (by decide)).trans (J e)⟩⟩
       . have o:b1=Z2:=(by simpa using u);have k:=(b.slot 6 (by omega)).trans i6;refine wpOpIn_step g1 λK hK=>dt (v:=Z9 .u64 (of:Int)) (w':=w.drew) k1 (by simp [Oper.about,x1]) (by rw [x1];intro c g;cases g) (by simp only [execOp,x1,k];go_simp) (hK _ _ ?_);rw [d1];exact ⟨b.put 29 _ (by decide) (by decide),.inl ⟨b0,Z3,b2,b3,r,s,t,rfl,by rw [dg o] at d;simp only [bn,if_true];simp only [bn] at d;omega,λe=>⟨rfl,(B e).2⟩,rfl,λe=>(ah _ _ _ _ (by decide)).trans (D e),λ_=>dm _ _ _ (by rw [b.size,y];decide),λe=>(ah _ _ _ _ (by decide)).trans (F e),λe=>(ah _ _ _ _ (by decide)).trans (G e),λe=>(ah _ _ _ _ (by decide)).trans (H e),λe=>(ah _ _ _ _ (by decide)).trans (I e),λe=>(ah _ _ _ _ (by decide)).trans (J e)⟩⟩
       . have o:b2=Z2:=(by simpa using u);have k:=(b.slot 11 (by omega)).trans i11;refine wpOpIn_step g2 λK hK=>dt (v:=Z9 .i64 (i:Int)) (w':=w.drew) k2 (by simp [Oper.about,x2]) (by rw [x2];intro c g;cases g) (by simp [execOp,x2,k]) (hK _ _ ?_);rw [d2];exact ⟨b.put 30 _ (by decide) (by decide),.inl ⟨b0,b1,Z3,b3,r,s,t,rfl,by rw [dg o] at d;simp only [bn,if_true];simp only [bn] at d;omega,λe=>⟨(B e).1,rfl⟩,rfl,λe=>(ah _ _ _ _ (by decide)).trans (D e),λe=>(ah _ _ _ _ (by decide)).trans (E e),λ_=>dm _ _ _ (by rw [b.size,y];decide),λe=>(ah _ _ _ _ (by decide)).trans (G e),λe=>(ah _ _ _ _ (by decide)).trans (H e),λe=>(ah _ _ _ _ (by decide)).trans (I e),λe=>(ah _ _ _ _ (by decide)).trans (J e)⟩⟩
       . have o:b3=Z2:=(by simpa using u);have L:b1=Z3:=(by have:=A 1 (by simp [uh]);simpa using this);have M:b2=Z3:=(by have:=A 2 (by simp [uh]);simpa using this);have k:=E L;have s1:=F M;refine wpOpIn_step g3 λK hK=>pj (λ_=>trivial) rfl k3 (by rw [x3];intro c g;cases g) (f:=214) (args:=#[Z9 .u64 (of:Int),Z9 .i64 (i:Int)]) (w':=w.drew) (by have S:x.eval (.func 214)=.func (.func 214) #[] #[]:=rfl;generalize x.eval=ev at k s1 S ⊢;simp [execOp,x3,resolve,invoke,k,s1,S,go_sem]) (CallsIn.inRound l (callsIn_wide.2 (CH of i ha hi _))) ?_;rintro e p ⟨rfl,rfl⟩;refine ⟨_,rfl,hK _ _ ?_⟩;rw [d3];exact ⟨b.put 31 _ (by decide) (by decide),.inl ⟨b0,b1,b2,Z3,r,s,t,rfl,by rw [dg o] at d;simp only [bn,if_true];simp only [bn] at d;omega,λ_=>⟨L,M⟩,rfl,λe=>(ah _ _ _ _ (by decide)).trans (D e),λe=>(ah _ _ _ _ (by decide)).trans (E e),λe=>(ah _ _ _ _ (by decide)).trans (F e),λ_=>dm _ _ _ (by rw [b.size,y];decide),λe=>(ah _ _ _ _ (by decide)).trans (H e),λe=>(ah _ _ _ _ (by decide)).trans (I e),λe=>(ah _ _ _ _ (by decide)).trans (J e)⟩⟩
       . have o:r=Z2:=(by simpa using u);have k:=(b.slot 7 (by omega)).trans i7;refine wpOpIn_step g4 λK hK=>dt (v:=Z9 .i64 (q:Int)) (w':=w.drew) k4 (by simp [Oper.about,x4]) (by rw [x4];intro c g;cases g) (by simp only [execOp,x4,k];go_simp) (hK _ _ ?_);rw [d4];exact ⟨b.put 32 _ (by decide) (by decide),.inl ⟨b0,b1,b2,b3,Z3,s,t,rfl,by rw [dg o] at d;simp only [bn,if_true];simp only [bn] at d;omega,B,rfl,λe=>(ah _ _ _ _ (by decide)).trans (D e),λe=>(ah _ _ _ _ (by decide)).trans (E e),λe=>(ah _ _ _ _ (by decide)).trans (F e),λe=>(ah _ _ _ _ (by decide)).trans (G e),λ_=>dm _ _ _ (by rw [b.size,y];decide),λe=>(ah _ _ _ _ (by decide)).trans (I e),λe=>(ah _ _ _ _ (by decide)).trans (J e)⟩⟩
       . have o:s=Z2:=(by simpa using u);have k:=(b.slot 8 (by omega)).trans i8;refine wpOpIn_step g5 λK hK=>dt (v:=T) (w':=w.drew) k5 (by simp [Oper.about,x5]) (by rw [x5];intro c g;cases g) (by simp only [execOp,x5,k];go_simp) (hK _ _ ?_);rw [d5];exact ⟨b.put 33 _ (by decide) (by decide),.inl ⟨b0,b1,b2,b3,r,Z3,t,rfl,by rw [dg o] at d;simp only [bn,if_true];simp only [bn] at d;omega,B,rfl,λe=>(ah _ _ _ _ (by decide)).trans (D e),λe=>(ah _ _ _ _ (by decide)).trans (E e),λe=>(ah _ _ _ _ (by decide)).trans (F e),λe=>(ah _ _ _ _ (by decide)).trans (G e),λe=>(ah _ _ _ _ (by decide)).trans (H e),λ_=>dm _ _ _ (by rw [b.size,y];decide),λe=>(ah _ _ _ _ (by decide)).trans (J e)⟩⟩
       . have o:t=Z2:=(by simpa using u);have k:=(b.slot 9 (by omega)).trans i9;refine wpOpIn_step g6 λK hK=>dt (v:=U) (w':=w.drew) k6 (by simp [Oper.about,x6]) (by rw [x6];intro c g;cases g) (by simp only [execOp,x6,k];go_simp) (hK _ _ ?_);rw [d6];exact ⟨b.put 34 _ (by decide) (by decide),.inl ⟨b0,b1,b2,b3,r,s,Z3,rfl,by rw [dg o] at d;simp only [bn,if_true];simp only [bn] at d;omega,B,rfl,λe=>(ah _ _ _ _ (by decide)).trans (D e),λe=>(ah _ _ _ _ (by decide)).trans (E e),λe=>(ah _ _ _ _ (by decide)).trans (F e),λe=>(ah _ _ _ _ (by decide)).trans (G e),λe=>(ah _ _ _ _ (by decide)).trans (H e),λe=>(ah _ _ _ _ (by decide)).trans (I e),λ_=>dm _ _ _ (by rw [b.size,y];decide)⟩⟩
       . have W:b0=Z3:=(by have:=A 0 (by simp [uh]);simpa using this);have V:b3=Z3:=(by have:=A 3 (by simp [uh]);simpa using this);have X:r=Z3:=(by have:=A 4 (by simp [uh]);simpa using this);have Y:s=Z3:=(by have:=A 5 (by simp [uh]);simpa using this);have Z:t=Z3:=(by have:=A 6 (by simp [uh]);simpa using this);obtain ⟨L,M⟩:=B V;subst W L M V X Y Z;have k:=D rfl;have s3:=G rfl;have s4:=H rfl;have s5:=I rfl;have s6:=J rfl;refine wpOpIn_step g7 λK hK=>pj (λ_=>trivial) rfl k7 (by rw [x7];intro c g;cases g) (f:=212) (args:=#[.agg (aV C),Z9 .u64 (bL of i:Nat),Z9 .i64 (q:Int),T,U]) (w':=w.drew) (by have S:x.eval (.func 212)=.func (.func 212) #[] #[]:=rfl;generalize x.eval=ev at k s3 s4 s5 s6 S ⊢;simp [execOp,x7,resolve,invoke,k,s3,s4,s5,s6,S,go_sem]) (CallsIn.inRound l (h8 _)) ?_;rintro e p ⟨rfl,P⟩;refine ⟨_,rfl,hK _ _ ?_⟩;rw [d7];exact ⟨b.put 35 _ (by decide) (by decide),.inr (.inl ⟨by simp only [bn,if_true] at d;omega,rfl,dm _ _ _ (by rw [b.size,y];decide),P⟩)⟩
       . have:=A 7 (by simp [uh]);simp at this
   . constructor
     . intro h5;have:8∈Region.ready .any oq #[Z3,Z3,Z3,Z3,Z3,Z3,Z3,Z3,Z2]:=eE (by decide) (by simp) (by simp [uh]);rw [h5] at this;cases this
     . intro j N;obtain ⟨h1,u,_⟩:=pq N;have:j=8:=by
        have h7:j=0\/j=1\/j=2\/j=3\/j=4\/j=5\/j=6\/j=7\/j=8:=(by omega);rcases h7 with rfl|rfl|rfl|rfl|rfl|rfl|rfl|rfl|rfl<;>first|rfl|(simp at u)
       subst this;refine wpOpIn_step g8 λK hK=>dt (v:=.bool Z2) (w':=w') k8 (by simp [Oper.about,x8]) (by rw [x8];intro c g;cases g) (by simp only [execOp,x8,f35];go_simp) (hK _ _ ?_);rw [d8];exact ⟨b.put 36 _ (by decide) (by decide),.inr (.inr ⟨by omega,rfl,dm _ _ _ (by rw [b.size,y];decide),P⟩)⟩
   . omega
end
end Go.Proofs.YtfbmmcnpjhmjaaaGreatDoor
