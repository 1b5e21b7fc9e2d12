import Derived.Test.YtfbmmcnpjhmjaaaGreatDoorM27
set_option maxRecDepth 100000
set_option maxHeartbeats 8000000
open Go.IntKind renaming i64 -> Z9, u64 -> Z8
open Go.Value renaming int -> Z7, pointer -> Z6, bool -> Z3
open Go.Obj renaming cells -> Z5
open Go.Ending renaming returned -> Z4
open Go renaming undef -> Z2, World -> ZX
open Option renaming none -> Z1, some -> Z0
open Bool renaming true -> ZZ, false -> ZY
open Nat renaming le_refl -> Tm, le_succ_of_le -> Tr
open List renaming length_append -> Tn, foldl_append -> To, nil_append -> Tp, cons_append -> Tq
open Go.Proofs.Tryz renaming prog -> ZW
namespace Go.Proofs.YtfbmmcnpjhmjaaaGreatDoor
open Go.RowKit Go.Shelf Go.Deep Gf
variable {C C':Ck} {rec:Ck->Nat->Nat->cC->cC} {K:List Nat} {pre:List Sh} {B h of q Bl l d p n0 i:Nat} {s sx:cC} {J:cC->ZX->Prop} {v:Value} {W W':ZX}
section
attribute [local go_sem] Oper.semAt_some
theorem vH (p least Bl:Nat) (w:ZX) (a:w.cell? ⟨Bl,0,Z1⟩=Z0 (Z7 Z9 (least:Int))) :
 Calls ZW 208 #[Z7 Z9 p,Z6 (Z0 ⟨Bl,0,Z1⟩)] w λe w'=>e=Z4 (Z3 (decide (p<least)))/\w'=w:=by
 go_enter Tryz.func208,Tryz.ntmps208;go_wp2;go_ret;exact ⟨by simp,rfl⟩
def fm (Bl:Nat):Value:=.func (.func 208) #[] #[Z6 (Z0 ⟨Bl,0,Z1⟩)]
def Bx (W:ZX) (B:Nat) (v:Value):Prop:=∃ t,Boxed W B t v
theorem Bx.cell (h:Bx W B v):W.cell? ⟨B,0,Z1⟩=Z0 v:=by obtain ⟨t,h⟩:=h;exact h.cell
theorem Bx.frozen (h:Bx W B v):W.frozen? ⟨B,0,Z1⟩=ZY:=by obtain ⟨t,h⟩:=h;exact h.frozen
theorem Bx.lt (h:Bx W B v):B<W.heap.size:=by obtain ⟨t,h⟩:=h;exact h.lt
theorem Bx.keep (h:Bx W B v) (e:W'.heap[B]?=W.heap[B]?):Bx W' B v:=by obtain ⟨t,h⟩:=h;exact ⟨t,e.trans h⟩
theorem Bx.set (h:Bx W B v) (a:Value):Bx (W.setCell ⟨B,0,Z1⟩ a) B a:=by obtain ⟨t,h⟩:=h;exact ⟨t,h.set a⟩
theorem Bx.new (W:ZX) (t:TypeId) (v:Value):Bx (W.alloc (Z5 #[v] t)) W.heap.size v:=⟨t,Boxed.new W t v⟩
theorem Bx.alloc (h:Bx W B v) (o:Obj):Bx (W.alloc o) B v:=by obtain ⟨t,h⟩:=h;exact ⟨t,h.alloc o⟩
structure VB (W:ZX) (h:Nat) (C:Ck) (of q Bl l:Nat):Prop where
 ck:aD W h C
 set:Bx W (h+1) (Z7 Z8 (of:Int))
 pas:Bx W (h+1+1) (Z7 Z9 (q:Int))
 few:Bx W (h+1+1+1) (fm Bl)
 yld:Bx W (h+1+1+1+1) (.func (.yield l) #[] #[])
 res:Bx W (h+1+1+1+1+1) (Z3 ZY)
theorem VB.keep (v:VB W h C of q Bl l) (e:∀ k,h<=k->k<h+6->W'.heap[k]?=W.heap[k]?):VB W' h C of q Bl l:=
 ⟨v.ck.keep (e _ (by omega) (by omega)),v.set.keep (e _ (by omega) (by omega)),v.pas.keep (e _ (by omega) (by omega)),v.few.keep (e _ (by omega) (by omega)),v.yld.keep (e _ (by omega) (by omega)),v.res.keep (e _ (by omega) (by omega))⟩
theorem VB.passed (v:VB W h C of q Bl l) (a:Nat):VB (W.setCell ⟨h+1+1,0,Z1⟩ (Z7 Z9 (a:Int))) h C of a Bl l:=by
 have e:∀ k,k≠h+1+1->(W.setCell ⟨h+1+1,0,Z1⟩ (Z7 Z9 (a:Int))).heap[k]?=W.heap[k]?:=λk b=>Below.heap_setCell _ _ _ _ b;exact ⟨v.ck.keep (e _ (by omega)),v.set.keep (e _ (by omega)),v.pas.set _,v.few.keep (e _ (by omega)),v.yld.keep (e _ (by omega)),v.res.keep (e _ (by omega))⟩
def iY (K:List Nat) (d:Nat) (C:Ck) (of p:Nat) (s:cC) (pre:List Sh):Nat×cC×Bool:=(pre.map (·.1)).foldl (gN (xu K d) C of) (p,eZ K s C,ZY)
theorem CS (K:List Nat) (d:Nat) (C:Ck) (of p:Nat) (s:cC) (pre:List Sh) (x:Sh):iY K d C of p s (pre++[x])=gN (xu K d) C of (iY K d C of p s pre) x.1:=by
 unfold iY;rw [List.map_append,To];rfl
theorem FK (h:pre.map (·.1)=ae of):(iY K d C of p s pre).2.1=ir K d C of p s:=by
 unfold iY;rw [h,oY]
theorem CT (h:pre.map (·.1)<+:ae of) (e:(iY K d C of p s pre).2.2=ZZ):(iY K d C of p s pre).2.1=ir K d C of p s:=by
 obtain ⟨R,c⟩:=h;rw [oY,<- c,To];show _=(R.foldl (gN (xu K d) C of) (iY K d C of p s pre)).2.1;obtain ⟨f,a⟩:∃ q sx,iY K d C of p s pre=(q,sx,ZZ):=⟨_,_,by rw [<- e]⟩;obtain ⟨a,b⟩:=a;rw [b,vh]
def VI (K:List Nat) (d:Nat) (C:Ck) (of p:Nat) (s:cC) (W:ZX) (B n0 Bl l:Nat) (J:cC->ZX->Prop) (brk:Bool) (pre:List Sh) (X:ZX):Prop:=
 (iY K d C of p s pre).2.2=brk/\VB X W.heap.size C of (iY K d C of p s pre).1 Bl l/\J (iY K d C of p s pre).2.1 X/\bu n0 W X/\(iY K d C of p s pre).1<=p+pre.length/\B<=X.heap.size
theorem VI.own {brk:Bool} (f:∀ s A B,J s A->Below n0 A B->J s B) (o:W.heap.size+6<=B) (t:n0<=W.heap.size) :
 OwnFrom B (VI K d C of p s W B n0 Bl l J brk):=by
 rintro pre X Y row ⟨g,h,i,b,j,q⟩ a n;have c:∀ k,k<W.heap.size+6->Y.heap[k]?=X.heap[k]?:=λk c=>a.block k (by omega) (λe=>by have:=(n k e.symm).1;omega);have u:=a.size;refine ⟨g,h.keep (λk _ m=>c k m),f _ _ _ i ⟨a.os,a.tape,a.output,a.size,λk r=>c k (by omega)⟩,⟨a.os.trans b.os,a.tape.trans b.tape,a.output.trans b.output,by have:=b.size;omega,λk k1 k2=>(c k (by omega)).trans (b.block k k1 k2)⟩,j,by omega⟩
def VX (K:List Nat) (d:Nat) (C:Ck) (of p:Nat) (s:cC) (W:ZX) (B n0 Bl l:Nat) (J:cC->ZX->Prop) (c:Code) (pre:List Sh) (X:ZX):Prop:=c=.exit 0/\VI K d C of p s W B n0 Bl l J ZZ pre X
theorem FL (h:¬ q<sx.2):gN rec C of (q,sx,ZY) i=(q,sx,ZZ):=by unfold gN;simp [h]
theorem FM (h:q<sx.2) (a:il C i=Z1):gN rec C of (q,sx,ZY) i=(q,sx,ZY):=by unfold gN;simp [h,a]
theorem LJ (h:q<sx.2) (a:il C i=Z0 C'):gN rec C of (q,sx,ZY) i=(q+1,rec C' (bL of i) q sx,ZY):=by unfold gN;simp [h,a]
theorem j9 (s:Nat):(P2 s).length=(ae s).length:=by rw [<- Ly s,List.length_map]
theorem pr (s:Nat):(P2 s).length<=16:=by
 rw [j9];exact Nat.le_trans (List.length_filter_le _ _) (by simp)
theorem FN (q:Nat) (h:q<=100000):wrap64 ((q:Int)+1)=((q+1:Nat):Int)/\IntKind.i64.wrap ((q:Int)+1)=((q+1:Nat):Int):=by
 constructor
 . unfold wrap64;omega
 . rw [IntKind.wrap_i64];omega
theorem vI {n:Nat} {D:Nat} {X:ZX} {a:Act} (b:∀ s A B,J s A->Below n0 A B->J s B) (w:n0<=W.heap.size) (q:W.heap.size<=B) (r:W.heap.size<=D) (j:B≠D)
 (i:Bx X B (Z3 ZY)) (t:J s X) (o:bu n0 W X) (hK:X.heap[D]?=Z0 (.deferred (Z0 []))) (f:a.defers=[{ target:=.collected D,args:=#[] }]) (h5:a.eval (.tmp 10)=Z6 (Z0 ⟨B,0,Z1⟩)) (hT:a.tmps.size=39) :
 bodyPostM Fence.wide n ZW Tryz.f212 (λe W'=>e=Z4 (Z3 ZZ)/\J s W'/\bu n0 W W') .ret a (X.setCell ⟨B,0,Z1⟩ (Z3 ZZ)):=by
 have d:(X.setCell ⟨B,0,Z1⟩ (Z3 ZZ)).heap[D]?=Z0 (.deferred (Z0 [])):=(KeepsOthers.setCell _ _ _).same D _ hK rfl;obtain ⟨g,u⟩:=a;simp only at f hT;subst f;refine ⟨by simp,.inl ⟨_,_,rfl,run_takeDeferred d,?_⟩⟩;have k:Bx (X.setCell ⟨B,0,Z1⟩ (Z3 ZZ)) B (Z3 ZZ):=i.set _;have l:Bx ((X.setCell ⟨B,0,Z1⟩ (Z3 ZZ)).putObj D (.deferred Z1)) B (Z3 ZZ):=k.keep (World.putObj_heap_other (λe=>j e));have c:=l.cell;have m:=(Array.getElem?_eq_some_iff.1 d).1;have h:g.getD 10 Z2=Z6 (Z0 ⟨B,0,Z1⟩):=h5;refine ⟨Z3 ZZ,?_,rfl,b _ _ _ (b _ _ _ t ((Below.refl _ _).setCell (p:=⟨B,0,Z1⟩) (by show n0<=B;omega) _)) (Below.putObj' (Below.refl _ _) (by omega) m _),(o.setCell (p:=⟨B,0,Z1⟩) (.inr q) _).putObj (.inr r) _⟩;have v:g[10]'(by omega)=Z6 (Z0 ⟨B,0,Z1⟩):=by rw [<- h];simp [hT]
 simp only [results,Tryz.results212];go_simp
theorem sr (K:List Nat) (n0 Bl l:Nat) (J:cC->ZX->Prop) (u:∀ s A B,J s A->Below n0 A B->J s B)
 (k8:∀ s A,J s A->A.cell? ⟨Bl,0,Z1⟩=Z0 (Z7 Z9 (s.2:Int))/\n0<=A.heap.size/\aJ A) (qq:2<=n0)
 (hY:∀ m s C W1,J s W1->dU C->YieldAt Fence.wide m ZW l #[.agg (aV C)] W1 λe W'=>e=Z4 (Z3 ZZ)/\J (eZ K s C) W'/\bu n0 W1 W')
 (d m:Nat) (C:Ck) (of p:Nat) (s:cC) (W:ZX) (hf:dU C) (km:of<65536) (hp:p+16<=100000) (hJ:J s W)
 (kp:∀ (m i:Nat) (C':Ck) (E p':Nat) (s':cC) (W':ZX),il C i=Z0 C'->E<65536->p'<=p+16->J s' W' ->
  CallsIn Fence.wide m ZW 212 #[.agg (aV C'),Z7 Z8 E,Z7 Z9 p',fm Bl,.func (.yield l) #[] #[]] W' λe I=>e=Z4 (Z3 ZZ)/\J (xu K d C' E p' s') I/\bu n0 W' I) :
 CallsIn Fence.wide m ZW 212 #[.agg (aV C),Z7 Z8 of,Z7 Z9 p,fm Bl,.func (.yield l) #[] #[]] W λe W'=>e=Z4 (Z3 ZZ)/\J (ir K d C of p s) W'/\bu n0 W W':=by
 have qv:=aY C;obtain ⟨_,S,_⟩:=k8 s W hJ;obtain ⟨n,HN⟩:∃ n:Nat,Hid (5<=n):=⟨5,Tm _⟩;refine callsIn_wide.2 ((callsIn_wide (n:=n)).1 ?_);refine callsIn_of_wp_marks Tryz.func212 rfl trivial ?_ rfl;simp only [Tryz.ntmps212,List.size_toArray,List.length_cons,List.length_nil,Nat.reduceAdd,Nat.reduceSub,Array.replicate_succ,Array.replicate_zero,List.push_toArray,List.append_toArray,Tp,Tq];have O:Below W.heap.size W ((((((W.alloc (Z5 (aV C) 319)).alloc (Z5 #[Z7 Z8 (of:Int)] 124)).alloc (Z5 #[Z7 Z9 (p:Int)] 3)).alloc (Z5 #[fm Bl] 206)).alloc (Z5 #[.func (.yield l) #[] #[]] 332)).alloc (Z5 #[Z3 ZY] 4)):=
  (((((bA W _).alloc (by simp) _).alloc (by simp;omega) _).alloc (by simp;omega) _).alloc (by simp;omega) _).alloc (by simp;omega) _
 have T:VB ((((((W.alloc (Z5 (aV C) 319)).alloc (Z5 #[Z7 Z8 (of:Int)] 124)).alloc (Z5 #[Z7 Z9 (p:Int)] 3)).alloc (Z5 #[fm Bl] 206)).alloc (Z5 #[.func (.yield l) #[] #[]] 332)).alloc (Z5 #[Z3 ZY] 4)) W.heap.size C of p Bl l:=by
  have N:∀ (X:ZX) (o:Obj) (k:Nat),k<X.heap.size->(X.alloc o).heap[k]?=X.heap[k]?:=λX o k h=>Below.heap_alloc X o k h;refine ⟨?_,?_,?_,?_,?_,?_⟩
  . exact (aD.new W C).keep (by rw [N _ _ _ (by simp;omega),N _ _ _ (by simp;omega),N _ _ _ (by simp;omega),N _ _ _ (by simp;omega),N _ _ _ (by simp)])
  . have h:=Bx.new (W.alloc (Z5 (aV C) 319)) 124 (Z7 Z8 (of:Int));rw [World.size_alloc] at h;exact (((h.alloc _).alloc _).alloc _).alloc _
  . have h:=Bx.new ((W.alloc (Z5 (aV C) 319)).alloc (Z5 #[Z7 Z8 (of:Int)] 124)) 3 (Z7 Z9 (p:Int));simp only [World.size_alloc] at h;exact ((h.alloc _).alloc _).alloc _
  . have h:=Bx.new (((W.alloc (Z5 (aV C) 319)).alloc (Z5 #[Z7 Z8 (of:Int)] 124)).alloc (Z5 #[Z7 Z9 (p:Int)] 3)) 206 (fm Bl);simp only [World.size_alloc] at h;exact (h.alloc _).alloc _
  . have h:=Bx.new ((((W.alloc (Z5 (aV C) 319)).alloc (Z5 #[Z7 Z8 (of:Int)] 124)).alloc (Z5 #[Z7 Z9 (p:Int)] 3)).alloc (Z5 #[fm Bl] 206)) 332 (.func (.yield l) #[] #[]);simp only [World.size_alloc] at h;exact h.alloc _
  . have h:=Bx.new (((((W.alloc (Z5 (aV C) 319)).alloc (Z5 #[Z7 Z8 (of:Int)] 124)).alloc (Z5 #[Z7 Z9 (p:Int)] 3)).alloc (Z5 #[fm Bl] 206)).alloc (Z5 #[.func (.yield l) #[] #[]] 332)) 4 (Z3 ZY);simp only [World.size_alloc] at h;exact h
 have ka:((((((W.alloc (Z5 (aV C) 319)).alloc (Z5 #[Z7 Z8 (of:Int)] 124)).alloc (Z5 #[Z7 Z9 (p:Int)] 3)).alloc (Z5 #[fm Bl] 206)).alloc (Z5 #[.func (.yield l) #[] #[]] 332)).alloc (Z5 #[Z3 ZY] 4)).heap.size=W.heap.size+6:=by simp
 unfold fm at O T ka ⊢;obtain ⟨W6,ke⟩:=nM (((((((W.alloc (Z5 (aV C) 319)).alloc (Z5 #[Z7 Z8 (of:Int)] 124)).alloc (Z5 #[Z7 Z9 (p:Int)] 3)).alloc (Z5 #[.func (.func 208) #[] #[Z6 (Z0 ⟨Bl,0,Z1⟩)]] 206)).alloc (Z5 #[.func (.yield l) #[] #[]] 332)).alloc (Z5 #[Z3 ZY] 4)));rw [ke] at O T ka;obtain ⟨fn,tmps,assign,body,hy,q1⟩:=hY (n-1) s C W6 (u s W W6 hJ (O.mono S)) hf;have c9:=T.yld.cell;have r:=hide T;have HB:=hide O;have HS:=hide ka;clear T O ka;gi_wp2_with (first
  | (rw [ke];refine j8 rfl (.tmp 5) rfl W.heap.size C rfl r.out.ck ?_)
  | (refine j8 rfl (.tmp 5) rfl W.heap.size C rfl r.out.ck ?_))
 refine ⟨λh=>(by cases h),q1.mono ?_⟩;rintro e f ⟨rfl,q0,k7⟩;have hA:bu n0 W f:=(bu.of_below HB.out).trans k7;have ks:VB f W.heap.size C of p Bl l:=r.out.keep (λk k1 k2=>k7.block k (by omega) (by have:=HS.out;omega));have qs:W.heap.size+6<=f.heap.size:=by have:=k7.size;have:=HS.out;omega
 have q7:=k8 _ _ q0;have c6:=ks.set.cell;clear hy q1 ke r HB HS k7 c9;have r:=hide ks;clear ks;gi_wp2;refine cV (dy of f) ?_;rintro e w' ⟨rfl,rfl⟩;have q2:aJ (f.alloc (Z5 #[Z7 Z8 (of:Int)] 124)):=q7.2.2.mono (B:=f.heap.size) (by omega) (bA _ _);have q4:(f.alloc (Z5 #[Z7 Z8 (of:Int)] 124)).cell? ⟨f.heap.size,0,Z1⟩=Z0 (Z7 Z8 (of:Int)):=(Bx.new f 124 (Z7 Z8 (of:Int))).cell;have h0:VI K d C of p s W (f.alloc (Z5 #[Z7 Z8 (of:Int)] 124)).heap.size n0 Bl l J ZY [] (f.alloc (Z5 #[Z7 Z8 (of:Int)] 124)):=
  ⟨rfl,r.out.keep (λk k1 k2=>Below.heap_alloc _ _ _ (by omega)),u _ _ _ q0 ((Below.refl _ _).alloc q7.2.1 _),hA.trans (bu.of_below (bA _ _)),Tm _,Tm _⟩
 have q9:(f.alloc (Z5 #[Z7 Z8 (of:Int)] 124)).heap.size=f.heap.size+1:=by simp
 obtain ⟨Z,q3⟩:=nM (f.alloc (Z5 #[Z7 Z8 (of:Int)] 124));have H0:=hide h0;have HC:=hide q4;have HT:=hide q2;have j:=hide q9;clear h0 q4 q2 q9;gi_wp2;rw [q3] at H0 HC HT j;clear q3;refine wpIn_rangeFunc_ownG rfl (by have:=HN.out;omega) (gf:=153) (lb:=#[Z6 (Z0 ⟨f.heap.size,0,Z1⟩)]) rfl trivial (enters_of Tryz.func153 (by kernel_rfl) rfl)
  (eK (n-1) f.heap.size of km Z (by have:=j.out;omega) HC.out (by have:=j.out;omega) HT.out) (λh k=>pZ h k) (ql (by have:=j.out;omega)) (Below.refl _ _) (λ_=>rfl)
  (VI K d C of p s W Z.heap.size n0 Bl l J ZY) (VX K d C of p s W Z.heap.size n0 Bl l J)
  (VI.own u (by have:=j.out;omega) S) (λc=>by
   rintro pre X Y row ⟨y,b⟩ hg hr;exact ⟨y,VI.own u (by have:=j.out;omega) S pre X Y row b hg hr⟩) H0.out
  (λx=>{ tmps:=#[.agg (aV C),Z7 Z8 (of:Int),Z7 Z9 (p:Int),.func (.func 208) #[] #[Z6 (Z0 ⟨Bl,0,Z1⟩)],.func (.yield l) #[] #[],Z6 (Z0 ⟨W.heap.size,0,Z1⟩),Z6 (Z0 ⟨W.heap.size+1,0,Z1⟩),Z6 (Z0 ⟨W.heap.size+1+1,0,Z1⟩),Z6 (Z0 ⟨W.heap.size+1+1+1,0,Z1⟩),Z6 (Z0 ⟨W.heap.size+1+1+1+1,0,Z1⟩),Z6 (Z0 ⟨W.heap.size+1+1+1+1+1,0,Z1⟩),Z7 Z9 (x.1:Int),Z2,.func (.yield l) #[] #[],.agg (aV C),Z3 ZZ,Z3 ZY,Z7 Z8 (of:Int),.func (.func 153) #[] #[Z6 (Z0 ⟨f.heap.size,0,Z1⟩)],Z7 Z9 (x.1:Int),Z2,Z2,Z2,Z2,Z2,Z2,Z2,Z2,Z2,Z2,Z2,Z2,Z2,Z2,Z2,Z2,Z2,Z2,Z2],defers:=[] }) ?assign ?body ?done ?stop
 case assign=>
  intro l2 x X Kk hK;unfold pY;gi_wp2;exact hK
 case body=>
  rintro l2 pre x X ⟨y,b,g,v,z,F⟩ kj;obtain ⟨q,sx,qa⟩:∃ q sx,iY K d C of p s pre=(q,sx,ZY):=⟨_,_,by rw [<- y]⟩;have kr:=CS K d C of p s pre x;rw [qa] at b g z kr;simp only at b g z;have kk:(ae of).length<=16:=by rw [<- j9 of];exact pr of
  have hq:q<=p+16:=by omega
  have qk:q<=100000:=by omega
  have hl:=k8 _ _ g;have cl:=hl.1;have c7:=b.pas.cell;have f7:=b.pas.frozen;have c8:=b.few.cell;unfold fm at c8;have r:=hide b;have HJ:=hide g;have HA:=hide v;have kb:=hide kr;have k6:=x.2;have V:=hide F;clear b g v qa y kr hl F kj;gi_wp2;refine dG (vH q sx.2 Bl X cl) ?_;rintro e w' ⟨rfl,rfl⟩;by_cases R:q<sx.2
  . have kh:decide (q<sx.2)=ZZ:=decide_eq_true R;rw [kh];have hz:=zeroCk;have kf:=r.out.ck;have hx:=aY dC;gi_wp2_with (first
     | (refine j8 rfl (.tmp 5) rfl W.heap.size C rfl kf ?_)
     | (refine jJ rfl (.tmp 12) (.tmp 24) rfl w'.heap.size C dC rfl rfl (aD.new w' dC) ?_))
    have kg:aD ((w'.alloc (Z5 (aV dC) 319)).setRow w'.heap.size (aV C)) w'.heap.size C:=(aD.new w' dC).setRow C;have P:Below w'.heap.size w' ((w'.alloc (Z5 (aV dC) 319)).setRow w'.heap.size (aV C)):=(bA _ _).grown (aR _ _ _) (by simp) (λk e=>by cases e;exact Tm _);refine dG (Ag w'.heap.size x.1 C _ kg hf k6) ?_;rintro e w2 (⟨q8,rfl,qn⟩|⟨C',Q,rfl,kc,q5⟩)
    ·
     subst qn;have HL:=hide q8;have G:=hide P;clear q8 P kg hz kf hx;gi_wp2;have ki:=j.out;have F:=V.out;have qh:=r.out.keep (λk k1 k2=>G.out.block k (by omega));refine ⟨(bu.of_below G.out).keeps (Nat.zero_le _),Ef.of_below (by omega) G.out,?_⟩;unfold VI;rw [kb.out,FM R HL.out];exact ⟨rfl,qh,u _ _ _ HJ.out (G.out.mono (by omega)),HA.out.trans (bu.of_below G.out),by rw [Tn];exact Tr z,by have:=G.out.size;omega⟩
    ·
     have k9:Below w'.heap.size w' w2:=P.grown q5 P.size (λk e=>by cases e;exact Tm _);have qm:w'.heap.size<w2.heap.size:=kc.lt;have kx:=hide Q;have qc:=hide k9;have qd:=hide kc;have qj:W.heap.size+6<=w'.heap.size:=(by have:=j.out;have:=V.out;omega);have qb:VB w2 W.heap.size C of q Bl l:=r.out.keep (λk k1 k2=>k9.block k (by omega));have q6:J sx w2:=u _ _ _ HJ.out (k9.mono (by omega));have M:=hide qb;have qe:=hide q6;clear Q k9 kc q5 P kg hz kf hx qb q6;gi_wp2;have k5:∀ m,CallsIn Fence.wide m ZW 212 #[.agg (aV C'),Z7 Z8 (bL of x.1:Nat),Z7 Z9 (q:Int),fm Bl,.func (.yield l) #[] #[]] w2.drew λe t=>e=Z4 (Z3 ZZ)/\(J (xu K d C' (bL of x.1) q sx) t/\bu n0 w2.drew t):=
      λm=>kp m x.1 C' (bL of x.1) q sx w2.drew kx.out (pe _ _ km) (by omega) (u _ _ _ qe.out (Below.refl _ _).drew)
     refine CR w'.heap.size (W.heap.size+1) (W.heap.size+1+1) (W.heap.size+1+1+1) (W.heap.size+1+1+1+1) x.1 of q C' (fm Bl) (.func (.yield l) #[] #[]) (λt=>J (xu K d C' (bL of x.1) q sx) t/\bu n0 w2.drew t) (by kernel_rfl) rfl k6 km rfl rfl rfl rfl rfl rfl
      (show aD w2.drew _ _ from qd.out) M.out.set.cell M.out.pas.cell M.out.few.cell M.out.yld.cell k5 ?_
     clear k5;rintro a' U hk f36 ⟨ky,H⟩;obtain ⟨ls,Q,rfl⟩:=hk.split (by decide) (by simp);clear hk;obtain ⟨u0,u1,u2,u3,u4,u5,u6,u7,u8,rfl⟩:=Pr Q;clear Q;simp only [List.take_succ_cons,List.take_zero,List.drop_succ_cons,List.drop_zero,Tq,Tp] at f36 ⊢;obtain rfl:u8=Z3 ZY:=f36;have h9:bu n0 w2 U:=⟨H.os,H.tape,H.output,H.size,H.block⟩;have hv3:VB U W.heap.size C of q Bl l:=M.out.keep (λk k1 k2=>h9.block k (by omega) (by omega));have c7:=hv3.pas.cell;have f7:=hv3.pas.frozen;obtain ⟨qx,qo⟩:=FN q qk;have qg:=hide hv3;have qf:=hide ky;have kv:=hide h9;clear hv3 ky h9 H;gi_wp2;have ki:=j.out;have F:=V.out;have kz:J (xu K d C' (bL of x.1) q sx) (U.setCell ⟨W.heap.size+1+1,0,Z1⟩ (Z7 Z9 ((q+1:Nat):Int))):=u _ _ _ qf.out ((Below.refl _ _).setCell (p:=⟨W.heap.size+1+1,0,Z1⟩) (by show n0<=W.heap.size+1+1;omega) _);have hh:bu n0 w' U:=(bu.of_below qc.out).trans kv.out;have qi:KeepsFrom Z.heap.size w' (U.setCell ⟨W.heap.size+1+1,0,Z1⟩ (Z7 Z9 ((q+1:Nat):Int))):=(hh.keeps (by omega)).trans ((KeepsOthers.setCell _ _ _).from _);refine ⟨qi,λ_=>(k8 _ _ kz).2.2,?_⟩;unfold VI;rw [kb.out,LJ R kx.out];refine ⟨rfl,qg.out.passed (q+1),kz,(HA.out.trans hh).setCell (p:=⟨W.heap.size+1+1,0,Z1⟩) (.inr (Nat.le_trans (Nat.le_succ _) (Nat.le_succ _))) _,by rw [Tn];exact Nat.succ_le_succ z,?_⟩;have:=kv.out.size;simp only [World.setCell,Array.size_modify];omega
  . have kh:decide (q<sx.2)=ZY:=decide_eq_false R;rw [kh];gi_wp2;refine ⟨KeepsFrom.refl _ _,rfl,?_⟩;unfold VI;rw [kb.out,FL R];exact ⟨rfl,r.out,HJ.out,HA.out,by rw [Tn];exact Tr z,V.out⟩
 case done=>
  rintro D xs X hD qp ⟨y,b,g,v,z,F⟩ hK;have L:=FK (K:=K) (d:=d) (C:=C) (p:=p) (s:=s) qp;rw [L] at g;have hb:=b.res.cell;have f10:=b.res.frozen;have ki:=j.out;have w:=hide3 b g v;clear b g v;gi_wp2;clear L;exact vI (a:=_) u S (by omega) (by omega) (by omega) w.out.1.res w.out.2.1 w.out.2.2 hK (by simp) (by simp [Act.eval]) (by simp)
 case stop=>
  rintro D c pre X hD ko ⟨rfl,y,b,g,v,z,F⟩ hK;have L:=CT (K:=K) (d:=d) (C:=C) (p:=p) (s:=s) ko y;rw [L] at g;have hb:=b.res.cell;have f10:=b.res.frozen;have ki:=j.out;have w:=hide3 b g v;clear b g v;gi_wp2;clear L;exact vI (a:=_) u S (by omega) (by omega) (by omega) w.out.1.res w.out.2.1 w.out.2.2 hK (by simp) (by simp [Act.eval]) (by simp)
theorem FO (a:dU C) (h:il C i=Z0 C'):dU C':=by
 obtain ⟨r,rfl,b,c,_⟩:=gj h;have:=a.most;exact ⟨m3 a.byt,by show C.told<=C.count-1;omega,by show C.count-1<=8;omega⟩
theorem Ji (K:List Nat) (n0 Bl l:Nat) (J:cC->ZX->Prop) (j:∀ s A B,J s A->Below n0 A B->J s B)
 (k:∀ s A,J s A->A.cell? ⟨Bl,0,Z1⟩=Z0 (Z7 Z9 (s.2:Int))/\n0<=A.heap.size/\aJ A) (n:2<=n0)
 (o:∀ m s C f,J s f->dU C->YieldAt Fence.wide m ZW l #[.agg (aV C)] f λe W'=>e=Z4 (Z3 ZZ)/\J (eZ K s C) W'/\bu n0 f W') :
 ∀ (d m:Nat) (C:Ck) (of p:Nat) (s:cC) (W:ZX),dU C->C.count<=C.told+d->of<65536->p+16*(d+1)<=100000->J s W ->
  CallsIn Fence.wide m ZW 212 #[.agg (aV C),Z7 Z8 of,Z7 Z9 p,fm Bl,.func (.yield l) #[] #[]] W λe W'=>e=Z4 (Z3 ZZ)/\J (ir K d C of p s) W'/\bu n0 W W':=by
 intro d;induction d with
 | zero=>
  intro m C of p s W b z g D h;refine sr K n0 Bl l J j k n o 0 m C of p s W b g (by omega) h ?_;intro m i C' a q t W' c;obtain ⟨r,_,u,v,_⟩:=gj c;omega
 | succ d ih=>
  intro m C of p s W b z g D h;refine sr K n0 Bl l J j k n o (d+1) m C of p s W b g (by omega) h ?_;intro m i C' a q t W' c ho E x;have y:=FO b c;obtain ⟨r,w,u,v,_⟩:=gj c;exact ih m C' a q t W' y (by rw [w];show C.count-1<=C.told+d;omega) ho (by omega) x
end
end Go.Proofs.YtfbmmcnpjhmjaaaGreatDoor
