import Derived.Test.YtfbmmcnpjhmjaaaGreatDoorM38
set_option maxRecDepth 100000
set_option maxHeartbeats 8000000
open Go.Value renaming pointer -> Z9
open Go.Obj renaming cells -> Z8
open Go renaming undef -> Z7, World -> Z4
open Option renaming none -> Z6, some -> Z5
open List renaming setIfInBounds_toArray -> Tm, set_cons_succ -> Tn, set_cons_zero -> To, mem_append -> Tq, mem_singleton -> Tr, filter_append -> Ts, mem_append_left -> Tu, size_toArray -> Tv, mem_filter -> Tx, append_assoc -> Ty
open Array renaming getElem?_eq_some_iff -> Tp
open Nat renaming le_trans -> Tt, lt_of_lt_of_le -> Tw, or_lt_two_pow -> Tz
open Go.Proofs.Tryz renaming prog -> Z3
namespace Go.Proofs.YtfbmmcnpjhmjaaaGreatDoor
open Go.RowKit Go.Shelf Go.Deep Gf
variable {a:Act} {F:bx} {ds l:List Nat} {n S i r v b g N p D L G ps ho gone sp B0:Nat} {R:Nat->List Nat} {f0:Nat->Value} {w:Z4}
section
attribute [local go_sem] Oper.semAt_some
theorem J2 (v:Value) (w:Z4):(Instr.typeAssert (.iface 217 v) 219 217 true).run Z3 w=.ok (.tuple #[v,.bool true]) w:=by
 simp [Instr.typeAssert,run_underlying Tryz.underlying217]
theorem Gq:(Z3.info? 217).map (·.size)=Z5 44:=by kernel_rfl
theorem AN (w:Z4) (z:Array Value) (d:z.size=44) (l:List Nat) (b:l.length=44):(Instr.storeAt 217 (Z9 (Z5 ⟨w.heap.size,0,Z6⟩)) (.agg (aH l).toArray)).run Z3 (w.alloc (Z8 z 217))=.ok () (w.alloc (Z8 (aH l).toArray 217)):=by
 have a:(aH l).toArray.size=44:=by rw [Tv,bm,b]
 have:=run_storeVar_new (P:=Z3) w 217 z (aH l).toArray (by rw [a];exact Gq) (by rw [a,d]) (by
  rw [List.all_toArray,List.all_eq_true];intro u c;obtain ⟨x,_,rfl⟩:=List.mem_map.1 c;rfl)
 simp only [Instr.storeAt,Instr.sureAddr,Sem.run_bind,Sem.run_pure,Result.andThen_ok,this]
theorem yM {F:Fence} {ops:Array Oper} {rest:List Oper} {o:Oper} {Q:Exit->Act->Z4->Prop} (d:o.guard=Z6) (x y:Operand) (ho:o.op=.store 217 x y) {z:Array Value} {l:List Nat}
 (f:a.eval x=Z9 (Z5 ⟨w.heap.size,0,Z6⟩)) (g:a.eval y=.agg (aH l).toArray) (i:z.size=44) (e:l.length=44) (h:wpListIn F n Z3 ops Q rest (a.put o.dst Z7) (w.alloc (Z8 (aH l).toArray 217))):wpListIn F n Z3 ops Q (o::rest) a (w.alloc (Z8 z 217)):=by
 refine wpListIn_plain d λK b=>?_;unfold Oper.wpIn;refine ⟨by simp [Oper.about,ho],?_⟩;rw [Oper.semAt_plain F _ _ (by rw [ho];intro c h;cases h)];simp [execOp,ho,f,g,AN w z i l e,Result.andThen];exact b _ _ h
theorem J3 {fn:Func} {Z:Z4} {D':Nat} {R:Ending->Z4->Prop} (c:fn.results=#[]) (b:a.defers=[{ target:=.collected D',args:=#[] }])
 (hK:Z.heap[D']?=Z5 (.deferred (Z5 []))) (hR:R (.returned (.tuple #[])) (Z.putObj D' (.deferred Z6))):bodyPostM Fence.wide n Z3 fn R .normal a Z:=by
 obtain ⟨e,d⟩:=a;simp only at b;subst b;refine ⟨by simp,.inl ⟨_,_,rfl,run_takeDeferred hK,?_⟩⟩;refine ⟨.tuple #[],?_,hR⟩;simp [results,c]
def aB.readAt (A:aB) (ds:List Nat):aB:={ A with reads:=λi=>if i∈ds then wrap64 (A.reads i+1) else A.reads i }
def aB.rd (A:aB) (r:Nat->Int):aB:={ A with reads:=r }
theorem Dv (A:aB):A.readAt []=A:=by simp [aB.readAt]
theorem AO (A:aB) (ds:List Nat) (d:Nat) (b:d∉ds):(A.readAt ds).setReads d (wrap64 ((A.readAt ds).reads d+1))=A.readAt (ds++[d]):=by
 unfold aB.readAt aB.setReads;congr 1;funext i;simp only [Tq,Tr];by_cases e:i=d
 . subst e;rw [if_pos rfl,if_neg b,if_pos (.inr rfl)]
 . rw [if_neg e];by_cases a:i∈ds
   . rw [if_pos a,if_pos (.inl a)]
   . rw [if_neg a,if_neg (λq=>q.elim a e)]
theorem Dw (A:aB) (ds:List Nat) (d:Nat) (b:d∈ds):A.readAt (ds++[d])=A.readAt ds:=by
 unfold aB.readAt;congr 1;funext i;simp only [Tq,Tr];by_cases a:i∈ds
 . rw [if_pos a,if_pos (.inl a)]
 . rw [if_neg a,if_neg (λq=>q.elim a (λe=>a (by rw [e];exact b)))]
theorem aB.fit.readAt {A:aB} (h:A.fit) (ds:List Nat):(A.readAt ds).fit:=⟨h.n,h.nb,h.len,h.byt⟩
def Kn (w:Z4) (base:Nat) (f0 f:Nat->Value) (R:Nat->List Nat) (ds:List Nat):Prop:=(∀ i,i∉ds->f i=f0 i)/\∀ i,i∈ds->∃ bl,f i=.slice (Z5 ⟨bl,0,Z6⟩) 44 44/\base<=bl/\bl<w.heap.size/\w.heap[bl]?=Z5 (Z8 (aH (R i)).toArray 217 (0,0))
theorem Kn.keep {w':Z4} {base:Nat} {f:Nat->Value} (h:Kn w base f0 f R ds) (d:w.heap.size<=w'.heap.size) (c:∀ k o,base<=k->w.heap[k]?=Z5 o->o.isCells=true->w'.heap[k]?=Z5 o):Kn w' base f0 f R ds:=by
 refine ⟨h.1,λi b=>?_⟩;obtain ⟨bl,e,a,g,j⟩:=h.2 i b;exact ⟨bl,e,a,Tw g d,c bl _ a j rfl⟩
theorem Kn.nil (w:Z4) (base:Nat) (f0:Nat->Value) (R:Nat->List Nat):Kn w base f0 f0 R []:=⟨λ_ _=>rfl,λ_ h=>by cases h⟩
def Er (S x:Nat):Nat:=S &&& (18446744073709551615-x)
theorem Es (S x:Nat) (a:S<65536) (b:x<65536):bits .andNot .u64 (S:Int) (x:Int)=(Er S x:Int):=u64_andNot_nat S x (by omega) (by omega)
theorem Dx (x:Nat) (a:S<65536):Er S x<65536:=Nat.lt_of_le_of_lt Nat.and_le_left a
theorem rk {x:Nat} (d:x<65536):i∈ae (Er S x)↔i∈ae S/\x.testBit i=false:=by
 rw [bM,bM];unfold Er;have e:(18446744073709551615-x).testBit i=(decide (i<64) && !x.testBit i):=by
  have:=Nat.testBit_two_pow_sub_succ (x:=x) (n:=64) (by omega) i;rwa [show 2^64-(x+1)=18446744073709551615-x by omega] at this
 rw [Nat.testBit_and,e];constructor
 . rintro ⟨b,a⟩;simp at a;exact ⟨⟨b,a.1⟩,a.2.2⟩
 . rintro ⟨⟨b,a⟩,c⟩;refine ⟨b,?_⟩;simp [a,c];omega
def AP:Nat->Value:=λ_=>.slice Z6 0 0
def ny (ds l:List Nat):List Nat:=l.filter λi=>decide (i∉ds)
theorem Ol (h:i∈ds):ny ds (l++[i])=ny ds l:=by unfold ny;rw [Ts];simp [h]
theorem gT (h:i∉ds):ny ds (l++[i])=ny ds l++[i]:=by unfold ny;rw [Ts];simp [h]
theorem Et:i∈ny ds l↔i∈l/\i∉ds:=by unfold ny;rw [Tx];simp
def lL (A:aB) (ds:List Nat):List Nat:=ds.filter λd=>!A.lost d
theorem AQ (A:aB) (ds:List Nat) (d:Nat) (h:A.lost d=true):lL A (ds++[d])=lL A ds:=by unfold lL;rw [Ts];simp [h]
theorem yN (A:aB) (ds:List Nat) (d:Nat) (h:A.lost d=false):lL A (ds++[d])=lL A ds++[d]:=by unfold lL;rw [Ts];simp [h]
theorem rm {A:aB} {d:Nat}:d∈lL A ds↔d∈ds/\A.lost d=false:=by unfold lL;rw [Tx];simp
structure PK (w:Z4) (r v b g N p D L G ps ho gone sp B0:Nat) (ds:List Nat) (A:aB) (F:bx) (R:Nat->List Nat) (B S:Nat) (pre:List (Mb S)) (X:Z4):Prop where
 b2:Boxed X w.heap.size 144 (Z9 (Z5 ⟨r,0,Z6⟩))
 rd:ef X r v b g N (gone|||bS A (ny ds (cw pre))) sp
 vol:bq X v p D L G ps (ho|||bS A (ny ds (cw pre)))
 row:∃ f,X.rowIs g 34 N f/\Kn X B0 AP f R (ds++lL A (ny ds (cw pre)))
 arr:aq X p (A.readAt (lL A (ny ds (cw pre)))) F
 out:aa (λk=>k=g\/k=r\/k=v\/F.has p A.n k) w X
 size:B<=X.heap.size
theorem PK.own {A:aB} {B:Nat} (I:w.heap.size+1<=B) (J:g<w.heap.size) (K:r<w.heap.size) (M:v<w.heap.size) (u:∀ k,F.has p A.n k->k<w.heap.size):OwnFrom B (PK w r v b g N p D L G ps ho gone sp B0 ds A F R B S):=by
 rintro pre X Y row ⟨j,l,H,⟨f,m,x⟩,q,s,t⟩ a i;have c:∀ k,k<w.heap.size+1->Y.heap[k]?=X.heap[k]?:=λk c=>a.block k (by omega) (λe=>by have:=(i k e.symm).1;omega);refine ⟨(c _ (by omega)).trans j,l.keep (c _ (by omega)),H.keep (c _ (by omega)),⟨f,m.of_block (c _ (by omega)),x.keep a.size λk o _ ho y=>?_⟩,q.keep λk z=>c k (by have:=u k z;omega),s.later (T:=λk=>w.heap.size<=k) ⟨a.os,a.tape,a.output,a.size,λk C E=>c k (by omega)⟩ (λk C E=>by omega),Tt t a.size⟩;refine (a.block k (Tp.1 ho).1 (λe=>?_)).trans ho;obtain ⟨_,O,h,d⟩:=i k e.symm;rw [ho] at h;cases h;rw [y] at d;cases d
theorem J4:∃ z,∀ w:Z4,(Instr.typeAssert .nilIface 219 217 true).run Z3 w=.ok (.tuple #[z,.bool false]) w:=by
 exact ⟨.agg (List.replicate 44 (.int .u8 0)).toArray,λw=>by kernel_rfl⟩
theorem J5:∃ z,∀ w:Z4,(Instr.typeAssert .nilIface 219 235 true).run Z3 w=.ok (.tuple #[z,.bool false]) w:=by
 exact ⟨.agg #[],λw=>by kernel_rfl⟩
structure Om (w:Z4) (r v b g N p D L G ps ho gone sp B0:Nat) (ds:List Nat) (A:aB) (F:bx) (R:Nat->List Nat) (nw:List Nat) (e:Ending) (w':Z4):Prop where
 ret:e=.returned (.tuple #[])
 rd:ef w' r v b g N (gone|||bS A nw) sp
 vol:bq w' v p D L G ps (ho|||bS A nw)
 row:∃ f,w'.rowIs g 34 N f/\Kn w' B0 AP f R (ds++lL A nw)
 arr:aq w' p (A.readAt (lL A nw)) F
 out:aa (λk=>k=g\/k=r\/k=v\/F.has p A.n k) w w'
theorem vZ {A:aB} (u:m6 w v p D L G ps ho A F) (U:jI F p A.n v) (hf:A.fit) (hr:ef w r v b g N gone sp) (k9:w.rowIs g 34 N f0) (R:Nat->List Nat) (qk:Kn w B0 AP f0 R ds) (T:Nat) (hT:T<65536) (qh:gone<65536) (xg:sp<65536) (xn:∀ i,i∈ae T->i<N/\i<A.n) (hb:b<A.nb) (hw:A.wait≠0)
 (xz:ho<65536) (qq:v≠r) (yk:3<=r) (yo:3<=v) (qf:∀ i,i∈ae T->A.bad i b=false) (hR:∀ i,i∈ae T->(aW.shard (R i)).ok) (qg:∀ i,i∈ae T->A.blk i b=(aW.shard (R i)).blk) (xa:¬ F.has p A.n g) (qp:¬ F.has p A.n r) (qi:r≠g) (xb:v≠g) (yf:3<=g) (qb:B0<=w.heap.size) (ye:g<B0) (yj:r<B0) (yn:v<B0) (qc:∀ k,F.has p A.n k->k<B0) :
 Calls Z3 126 #[Z9 (Z5 ⟨r,0,Z6⟩),.int .u64 T] w (Om w r v b g N p D L G ps ho gone sp B0 ds A F R (ny ds (ae (Er (Er T gone) sp)))):=by
 obtain ⟨S1,kj⟩:=nM (Er T gone);obtain ⟨S,q1⟩:=nM (Er S1 sp);have kp:=Es T gone hT qh;have kr:=Es S1 sp (by rw [<- kj];exact Dx _ hT) xg;have hS:S<65536:=by rw [<- q1,<- kj];exact Dx _ (Dx _ hT)
 rw [kj] at kp ⊢;rw [q1] at kr ⊢;have x6:∀ i,i∈ae S->i∈ae T:=λi a=>by
  rw [<- q1] at a;have:=((rk xg).1 a).1;rw [<- kj] at this;exact ((rk qh).1 this).1
 clear kj q1;obtain ⟨n,HN⟩:∃ n:Nat,Hid (9<=n):=⟨9,Nat.le_refl _⟩;have q0:∀ k,F.has p A.n k->k<w.heap.size:=λk c=>Tw (qc k c) qb;have xy:=k9.lt;have y2:=hr.lt;have y3:=u.vol.lt;have yb:2<3:=by decide
 have yc:1<3:=by decide
 refine (callsIn_wide (n:=n)).1 ?_;refine callsIn_of_wp_marks Tryz.func126 rfl trivial ?_ rfl;simp only [Tryz.ntmps126,Tv,List.length_cons,List.length_nil,Nat.reduceAdd,Nat.reduceSub,Array.replicate_succ,Array.replicate_zero,List.push_toArray,List.append_toArray,List.nil_append,List.cons_append];gi_wp2;obtain ⟨w1,kx⟩:=nM (w.alloc (Z8 #[Z9 (Z5 ⟨r,0,Z6⟩)] 144));have h2:Boxed w1 w.heap.size 144 (Z9 (Z5 ⟨r,0,Z6⟩)):=by rw [<- kx];exact Boxed.new w _ _
 have qz:w1.heap.size=w.heap.size+1:=by rw [<- kx];simp
 have q2:Below w.heap.size w w1:=by rw [<- kx];exact bA w _
 rw [kx];clear kx;have xf:=hr.keep (q2.block _ hr.lt);refine uE h2 xf kp kr (by kernel_rfl) rfl rfl rfl ?_;clear kp kr;intro Z q6;have x1:Z.heap.size=w1.heap.size+1:=by rw [q6];simp
 have x8:Z.cell? ⟨w1.heap.size,0,Z6⟩=Z5 (.int .u64 (S:Int)):=by rw [q6];exact (Boxed.new w1.drew 124 (.int .u64 (S:Int))).cell
 have k6:Below w1.heap.size w1 Z:=by rw [q6];exact (Below.refl _ w1).drew.alloc lR _
 have P:Below w.heap.size w Z:=q2.trans (k6.mono q2.size);have q3:ny ds (cw ([]:List (Mb S)))=[]:=rfl;have xc:PK w r v b g N p D L G ps ho gone sp B0 ds A F R (w1.heap.size+1) S [] Z:=
  ⟨(k6.block _ h2.lt).trans h2,by rw [q3,show bS A []=0 from rfl,Nat.or_zero];exact hr.keep (P.block _ hr.lt),by rw [q3,show bS A []=0 from rfl,Nat.or_zero];exact u.vol.keep (P.block _ u.vol.lt),⟨f0,k9.of_block (P.block _ k9.lt),by rw [q3,show lL A []=[] from rfl,List.append_nil];exact qk.keep P.size λk o _ ho _=>(P.block k (Tp.1 ho).1).trans ho⟩,by rw [q3,show lL A []=[] from rfl,Dv];exact u.arr.below P lR,aa.of_all P _,by omega⟩
 have xk:=hide x8;have q8:=hide2 xc P;have HZ:=hide2 qz x1;clear x8 xc h2 q2 P k6 xf q6 qz;rename_i hK
 refine hK _ _ ?_;clear hK;simp only [Act.putFrom,Act.put,Tm,Tn,To];gi_wp2;obtain ⟨qz,y6,x1⟩:w.heap.size+1<=w1.heap.size/\w1.heap.size<=w.heap.size+1/\Z.heap.size=w1.heap.size+1:=by have:=HZ.out;omega
 rw [<- x1] at q8;refine wpIn_rangeFunc_ownG rfl (by have:=HN.out;omega) (gf:=153) (lb:=#[Z9 (Z5 ⟨w1.heap.size,0,Z6⟩)]) rfl trivial (enters_of Tryz.func153 (by kernel_rfl) rfl)
  (m4 (n-1) w1.heap.size S hS Z (by omega) xk.out (by have:=u.room;omega) (u.tab.mono (by exact u.tab.lt) q8.out.2)) (λh k=>pZ h k) (ql (by have:=u.room;omega)) (Below.refl _ _) (λ_=>rfl)
  (PK w r v b g N p D L G ps ho gone sp B0 ds A F R Z.heap.size S) (λ_ _ _=>False) (PK.own (by omega) xy y2 y3 q0) (λ_ _ _ _ _ h _ _=>h.elim) q8.out.1
  (λx=>{ tmps:=#[Z9 (Z5 ⟨r,0,Z6⟩),.int .u64 (T:Int),Z9 (Z5 ⟨w.heap.size,0,Z6⟩),Z7,.int .i64 (x.1:Int),Z7,Z7,Z7,Z7,.int .u64 (T:Int),Z9 (Z5 ⟨r,0,Z6⟩),Z9 (Z5 ⟨r,0,Z6⟩),Z9 (Z5 ⟨r,3,Z6⟩),.int .u64 (gone:Int),.int .u64 (S1:Int),Z9 (Z5 ⟨r,0,Z6⟩),Z9 (Z5 ⟨r,0,Z6⟩),Z9 (Z5 ⟨r,4,Z6⟩),.int .u64 (sp:Int),.int .u64 (S:Int),.func (.func 153) #[] #[Z9 (Z5 ⟨w1.heap.size,0,Z6⟩)],.int .i64 (x.1:Int),Z7,Z7,Z7,Z7,Z7,Z7,Z7,Z7,Z7,Z7,Z7,Z7,Z7,Z7,Z7,Z7,Z7,Z7,Z7,Z7,Z7,Z7,Z7,Z7,Z7,Z7,Z7,Z7,Z7,Z7,Z7,Z7,Z7,Z7,Z7,Z7,Z7,Z7,Z7,Z7,Z7,Z7,Z7,Z7,Z7,Z7,Z7,Z7,Z7,Z7,Z7,Z7,Z7,Z7,Z7,Z7,Z7,Z7,Z7,Z7,Z7,Z7,Z7,Z7,Z7,Z7,Z7,Z7,Z7,Z7,Z7,Z7,Z7,Z7,Z7,Z7,Z7,Z7],defers:=[] }) ?assign ?body ?done ?stop
 case assign=>
  intro l2 x X Kk hK;unfold vC;gi_wp2;exact hK
 case body=>
  rintro l2 pre x X a qn;clear qn;have qy:x.1∈ae S:=bM.2 x.2;obtain ⟨xh,xi⟩:=xn _ (x6 _ qy);have ky:=x6 _ qy;have x4:=a.b2.lt;have c2:=a.b2.cell;obtain ⟨c0,c1,cs,c3,c4⟩:=a.rd.cells;obtain ⟨f,m,s⟩:=a.row;have cg:=m.cell (i:=x.1) xh;have yg:¬ F.has p A.n w.heap.size:=λq=>by have:=q0 _ q;omega
  by_cases h9:x.1∈ds++lL A (ny ds (cw pre))
  . obtain ⟨bl,xo,xp,xq,xv⟩:=s.2 _ h9;rw [xo] at cg;have Q:=hide a;have HK:=hide s;have HR:=hide m;clear a s m;gi_wp2;rename_i kg
    refine kg _ _ ?_;clear kg;simp only [Act.put,Tm,Tn,To,Bool.not_false];gi_wp2;have a:=Q.out;refine ⟨⟨Nat.le_refl _,λk o _ ho _=>ho⟩,λ_=>u.tab.keep (a.out.block _ u.tab.lt (λq=>by rcases q with q|q|q|q;omega;omega;omega;exact U.t q)),?_⟩;by_cases I:x.1∈ds
    . refine ⟨a.b2,?_,?_,⟨f,HR.out,?_⟩,?_,a.out,a.size⟩<;>rw [bF,Ol I]
      . exact a.rd
      . exact a.vol
      . exact HK.out
      . exact a.arr
    . have q7:=(Tq.1 h9).resolve_left I;have z:=(rm.1 q7).2;refine ⟨a.b2,?_,?_,⟨f,HR.out,?_⟩,?_,a.out,a.size⟩<;>rw [bF,gT I]
      . rw [ku A _ _ z];exact a.rd
      . rw [ku A _ _ z];exact a.vol
      . rw [yN A _ _ z,<- Ty];refine ⟨λi Y=>HK.out.1 i (λq=>Y (Tu _ q)),λi Y=>HK.out.2 i ?_⟩;rcases Tq.1 Y with q|q
        . exact q
        . rw [Tr.1 q];exact h9
      . rw [yN A _ _ z,Dw _ _ _ q7];exact a.arr
  . have xx:f x.1=.slice Z6 0 0:=s.1 _ h9;rw [xx] at cg;have I:x.1∉ds:=λq=>h9 (Tu _ q);have q7:x.1∉lL A (ny ds (cw pre)):=λq=>h9 (List.mem_append_right _ q);have kf:=a.arr;have xe:bS A (ny ds (cw pre))<65536:=oE A _ (λd hd=>by replace hd:=(Et.1 hd).1;unfold cw at hd;obtain ⟨y,_,rfl⟩:=List.mem_map.1 hd;exact y.2.1);have C:m6 X v p D L G ps (ho|||bS A (ny ds (cw pre))) (A.readAt (lL A (ny ds (cw pre)))) F:=⟨a.vol,kf,u.laid.keep (a.out.block _ u.laid.lt (λq=>by rcases q with q|q|q|q;omega;omega;omega;exact U.g q)),u.tab.keep (a.out.block _ u.tab.lt (λq=>by rcases q with q|q|q|q;omega;omega;omega;exact U.t q)),Tt u.room a.out.size⟩;have Q:=hide4 a s m C;clear a s m C;gi_wp2;rename_i kg
    refine kg _ _ ?_;clear kg;simp only [Act.put,Tm,Tn,To];gi_wp2;obtain ⟨a,s,m,C⟩:=Q.out;have km:=hf.readAt (lL A (ny ds (cw pre)));cases z:A.lost x.1
    . have W:=C.below ((Below.refl _ X).drew) lR;refine mH (K:=λw2=>aq w2 p (((A.readAt (lL A (ny ds (cw pre))))).setReads x.1 (wrap64 ((A.readAt (lL A (ny ds (cw pre)))).reads x.1+1))) F/\aa (F.has p A.n) X.drew w2) x.1 (rI W.vol W.arr km x.1 b xi hb hw z (qf _ ky) (.shard (R x.1)) (hR _ ky) (ll (hR _ ky)) (qg _ ky) W.laid U.g) a.b2 a.rd (by kernel_rfl) rfl rfl rfl ?_;rintro w2 ⟨qa,kh⟩;rw [AO _ _ _ q7] at qa;have V:aa (F.has p A.n) X w2:=(aa.drew X).trans kh;clear W kh;have q4:∀ k,B0<=k->k<X.heap.size->w2.heap[k]?=X.heap[k]?:=λk c ks=>V.block k ks (λq=>by have:=qc k q;omega);have ym:=J2;have qm:(R x.1).length=44:=(hR _ ky).1;have x2:=hide qa;have x3:=hide2 V q4;clear a s m C qa V q4 c0 c1 cs c3 c4 cg c2;rename_i hK
      refine hK _ _ ?_;clear hK;simp only [Act.putFrom,Act.put,Tm,Tn,To,bp];gi_wp2_with (show wpListIn _ _ _ _ _ ({ dst:=Z6,op:=Op.store 217 (.tmp 7) (.tmp 46),type:=_,pos:=_,after:=_,guard:=_ }::_) _ _;refine yM (w:=w2) (l:=R x.1) rfl (.tmp 7) (.tmp 46) rfl (by rfl) (by rfl) (by rfl) qm ?_)
      obtain ⟨V,q4⟩:=x3.out;obtain ⟨a,s,m,C⟩:=Q.out;have ya:X.heap.size<=w2.heap.size:=V.size;have hh:Below w2.heap.size w2 (w2.alloc (Z8 (aH (R x.1)).toArray 217)):=bA w2 _;have qo:(w2.alloc (Z8 (aH (R x.1)).toArray 217)).heap[w2.heap.size]?=Z5 (Z8 (aH (R x.1)).toArray 217 (0,0)):=blk_alloc_new _ _;have y9:(w2.alloc (Z8 (aH (R x.1)).toArray 217)).heap.size=w2.heap.size+1:=(by simp);obtain ⟨E,q5⟩:=nM (w2.alloc (Z8 (aH (R x.1)).toArray 217));rw [q5] at hh qo y9 ⊢;have kc:∀ k,k<X.heap.size->¬ F.has p A.n k->E.heap[k]?=X.heap[k]?:=λk c y0=>(hh.block k (by omega)).trans (V.block k c y0);have qe:∀ k,B0<=k->k<X.heap.size->E.heap[k]?=X.heap[k]?:=λk c ks=>kc k ks (λq=>by have:=qc k q;omega);have hj:E.rowIs g 34 N f:=m.of_block (kc g m.lt xa);refine uF (show Boxed E w.heap.size 144 (Z9 (Z5 ⟨r,0,Z6⟩)) from (qe _ qb (by omega)).trans a.b2) (a.rd.keep (kc r a.rd.lt qp)) hj x.1 xh (by omega) qi (by kernel_rfl) rfl rfl rfl rfl ?_;intro B J;have ha:∀ k,k≠g->B.heap[k]?=E.heap[k]?:=λk c=>by rw [J];exact blk_setCell_other _ _ _ _ c
      have yp:B.heap.size=E.heap.size:=(by rw [J];simp [World.setCell]);have h8:=hj.set x.1 (.slice (Z5 ⟨w2.heap.size,0,Z6⟩) 44 44);have hm:B.rowIs g 34 N (λi=>if i=x.1 then .slice (Z5 ⟨w2.heap.size,0,Z6⟩) 44 44 else f i):=(by rw [J];exact h8);have ke:∀ k,B0<=k->k<X.heap.size->B.heap[k]?=X.heap[k]?:=λk c ks=>(ha k (by omega)).trans (qe k c ks);have H:aa (λk=>k=g\/k=r\/k=v\/F.has p A.n k) w B:=by
       have h3:aa (λk=>k=g\/k=r\/k=v\/F.has p A.n k) w E:=(a.out.trans (V.mono λ_ _ q=>.inr (.inr (.inr q)))).trans (aa.of_all hh _);rw [J];exact (h3.trans (aa.drew E)).trans (aa.setCell _ _ _ (.inl rfl))
      have kz:=x2.out.keep λk c=>by
       have:=q0 k c;exact (ha k (λe=>xa (by rw [<- e];exact c))).trans (hh.block k (by omega))
      have hs:Kn B B0 AP (λi=>if i=x.1 then .slice (Z5 ⟨w2.heap.size,0,Z6⟩) 44 44 else f i) R (ds++lL A (ny ds (cw pre))++[x.1]):=by
       have xd:=s.keep (w':=B) (by omega) λk o c ho _=>(ke k c (Tp.1 ho).1).trans ho;refine ⟨λi Y=>?_,λi Y=>?_⟩
       . have h1:i≠x.1:=λe=>Y (by rw [e];simp);show (if i=x.1 then _ else f i)=_;rw [if_neg h1];exact xd.1 i (λq=>Y (Tu _ q))
       . show ∃ bl,(if i=x.1 then _ else f i)=_/\_;by_cases e:i=x.1
         . rw [if_pos e,e];exact ⟨w2.heap.size,rfl,by omega,by omega,(ha _ (by omega)).trans qo⟩
         . rw [if_neg e];rcases Tq.1 Y with q|q
           . exact xd.2 i q
           . exact absurd (Tr.1 q) e
      have H4:=hide5 hm ke H kz hs;have M:=hide (a.rd.keep ((ha r qi).trans (kc r a.rd.lt qp)));have qv:=hide (a.vol.keep ((ha v xb).trans (kc v a.vol.lt U.v)));have x0:X.heap.size<=B.heap.size:=(by omega);clear h8 hm ke H kz hs ha J hj kc qe hh qo a s m C V q4 q5 x2 x3;rename_i hK
      refine hK _ _ ?_;clear hK;simp only [Act.putFrom,Act.put,Tm,Tn,To];gi_wp2;obtain ⟨h8,ke,H,kz,hs⟩:=H4.out;have a:=Q.out.1;have xj:=a.size;refine ⟨⟨x0,λk o c ho _=>(ke k (by omega) (Tp.1 ho).1).trans ho⟩,λ_=>u.tab.keep (H.block _ u.tab.lt (λq=>by rcases q with q|q|q|q;omega;omega;omega;exact U.t q)),?_⟩;exact ⟨(ke _ qb (by omega)).trans a.b2,by rw [bF,gT I,ku A _ _ z];exact M.out,by rw [bF,gT I,ku A _ _ z];exact qv.out,⟨_,h8,by rw [bF,gT I,yN A _ _ z,<- Ty];exact hs⟩,by rw [bF,gT I,yN A _ _ z];exact kz,H,by omega⟩
    . clear a s m C;obtain ⟨a,s,m,C⟩:=Q.out;have W:=C.below ((Below.refl _ X).drew) lR;refine mH (Xv:=.nilIface) (Yv:=.iface 270 (Z9 (Z5 ⟨X.heap.size+1,0,Z6⟩))) (K:=λw2=>iG w2 (X.heap.size+1) x.1 b 11/\Below X.heap.size X.drew w2) x.1 (yz W.vol W.arr km x.1 b xi hw z) a.b2 a.rd (by kernel_rfl) rfl rfl rfl ?_;rintro w2 ⟨x7,kk⟩;have k7:Below X.heap.size X w2:=((Below.refl _ X).drew).trans kk;clear W kk;obtain ⟨z1,y7⟩:=J4;obtain ⟨z2,y8⟩:=J5;have ko:=AF x7 11;rw [show ((11:Int)==11)=true from rfl] at ko;unfold sQ at ko;obtain ⟨e1,x9⟩:=nM (X.heap.size+1);rw [x9] at ko ⊢;have H2:=hide2 k7 ko;clear a s m C x7 k7 ko x9 c0 c1 cs c3 c4 cg c2;rename_i hK
      refine hK _ _ ?_;clear hK;simp only [Act.putFrom,Act.put,Tm,Tn,To];gi_wp2;refine dG H2.out.2 ?_;rintro e E ⟨rfl,q5⟩;subst q5;gi_wp2;have k7:=H2.out.1;obtain ⟨a,s,m,C⟩:=Q.out;have y4:x.1<16:=(bM.1 qy).1;have k8:=a.rd.keep (k7.block _ a.rd.lt);have qs:=a.vol.keep (k7.block _ a.vol.lt);have q9:Boxed E w.heap.size 144 (Z9 (Z5 ⟨r,0,Z6⟩)):=(k7.block _ x4).trans a.b2;have yi:ho|||bS A (ny ds (cw pre))<65536:=Tz (n:=16) xz xe;have yh:gone|||bS A (ny ds (cw pre))<65536:=Tz (n:=16) qh xe;refine tg qs q9 k8 x.1 (by omega) (by omega) (by omega) (λe=>qq e.symm) (by kernel_rfl) rfl rfl rfl ?_;intro B J;have ka:bq B v p D L G ps (ho|||bS A (ny ds (cw pre))|||2^x.1):=(by rw [J];exact aj (j:=5) qs _);have qj:∀ k,k≠v->B.heap[k]?=E.heap[k]?:=λk c=>by rw [J];exact blk_setCell_other _ _ _ _ c
      have H:aa (λk=>k=v) E B:=by
       rw [J];exact (aa.drew E).trans (aa.setCell _ _ _ rfl)
      have M:=k8.keep (qj r (λe=>qq e.symm));have kb:Boxed B w.heap.size 144 (Z9 (Z5 ⟨r,0,Z6⟩)):=(qj _ (by omega)).trans q9;have H4:=hide4 ka H M kb;clear a s m C k8 qs q9 J ka qj H M kb;rename_i hK
      refine hK _ _ ?_;clear hK;simp only [Act.putFrom,Act.put,Tm,Tn,To];gi_wp2;obtain ⟨ka,H,M,kb⟩:=H4.out;refine th kb M x.1 (by omega) (by omega) (by omega) (by kernel_rfl) rfl rfl rfl ?_;intro w5 qx;have hv:ef w5 r v b g N (gone|||bS A (ny ds (cw pre))|||2^x.1) sp:=(by rw [qx];exact aj (j:=3) M _);have ki:aa (λk=>k=r) B w5:=by
       rw [qx];exact (aa.drew B).trans (aa.setCell _ _ _ rfl)
      have H5:=hide2 hv ki;clear M qx hv ki ka H kb;simp only [Act.putFrom,Act.put,Tm,Tn,To];gi_wp2;obtain ⟨hv,ki⟩:=H5.out;obtain ⟨ka,H,M,kb⟩:=H4.out;obtain ⟨a,s,m,C⟩:=Q.out;have qd:aa (λk=>k=r\/k=v) E w5:=(H.mono λ_ _ q=>.inr q).trans (ki.mono λ_ _ q=>.inl q);have O:aa (λk=>k=r\/k=v) X w5:=(aa.of_all k7 _).trans qd;have x5:aa (λk=>k=g\/k=r\/k=v\/F.has p A.n k) w w5:=a.out.trans (O.mono λ_ _ q=>.inr (q.elim .inl (λq=>.inr (.inl q))));have xj:=a.size;refine ⟨⟨O.size,λk o c ho _=>(O.block k (Tp.1 ho).1 (by omega)).trans ho⟩,λ_=>u.tab.keep (x5.block _ u.tab.lt (λq=>by rcases q with q|q|q|q;omega;omega;omega;exact U.t q)),?_⟩;refine ⟨(O.block _ x4 (by omega)).trans a.b2,by rw [bF,gT I,jP A _ _ z,<- Nat.or_assoc];exact hv,by rw [bF,gT I,jP A _ _ z,<- Nat.or_assoc];exact ka.keep (ki.block _ ka.lt (λe=>qq e)),⟨f,m.of_block (O.block _ m.lt (λq=>q.elim (λe=>qi e.symm) (λe=>xb e.symm))),by rw [bF,gT I,AQ A _ _ z];exact s.keep O.size λk o c ho _=>(O.block k (Tp.1 ho).1 (by omega)).trans ho⟩,by rw [bF,gT I,AQ A _ _ z];exact kf.keep λk c=>O.block k (kf.has_lt c) (λq=>q.elim (λe=>qp (by rw [<- e];exact c)) (λe=>U.v (by rw [<- e];exact c))),x5,Tt xj O.size⟩
 case done=>
  rintro D' xs X xm y5 a hK;have yd:=(Tp.1 hK).1;have hy:cw xs=ae S:=y5;obtain ⟨f,m,s⟩:=a.row;have kv:∀ k,k<w.heap.size+1->(X.putObj D' (.deferred Z6)).heap[k]?=X.heap[k]?:=λk c=>World.putObj_heap_other (by omega);have kf:=a.arr;refine J3 Tryz.results126 rfl hK ⟨rfl,by rw [<- hy];exact a.rd.keep (kv _ (by omega)),by rw [<- hy];exact a.vol.keep (kv _ (by omega)),⟨f,m.of_block (kv _ (by omega)),?_⟩,?_,?_⟩
  . rw [<- hy];refine s.keep (by simp [World.putObj]) λk o c ho hc=>(World.putObj_heap_other (λe=>?_)).trans ho;rw [e,hK] at ho;cases ho;cases hc
  . rw [<- hy];exact kf.keep λk c=>kv k (by have:=q0 k c;omega)
  . exact a.out.later (T:=λk=>w.heap.size<=k) ⟨rfl,rfl,rfl,by simp [World.putObj],λk kp kr=>kv k (by omega)⟩ (λk kp kr=>by omega)
 case stop=>
  rintro D' cc pre X xm y1 hx hK;exact hx.elim
end
end Go.Proofs.YtfbmmcnpjhmjaaaGreatDoor
