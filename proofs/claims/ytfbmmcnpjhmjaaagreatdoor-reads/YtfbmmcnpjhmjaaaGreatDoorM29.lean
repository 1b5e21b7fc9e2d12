import Derived.Test.YtfbmmcnpjhmjaaaGreatDoorM28
import Derived.Laws.EntriesVeiled
set_option maxRecDepth 100000
set_option maxHeartbeats 8000000
open Go.IntKind renaming i64 -> Z9, u64 -> Z8
open Go.Value renaming int -> Z7, pointer -> Z6
open Go.Obj renaming cells -> Z5
open Go.Operand renaming tmp -> Z4
open Go renaming undef -> Z3, World -> ZY
open Option renaming none -> Z2, some -> Z1
open Bool renaming true -> Z0, false -> ZZ
open Go.RowKit renaming Below -> ZX
open List renaming range -> Tm, mem_filter -> Tq, getElem?_map -> Tr, getElem?_range -> Ts, nil_append -> Tu, cons_append -> Tv, mem_range -> Tx, eq_nil_iff_forall_not_mem -> TC, size_toArray -> TD, length_cons -> TE, length_nil -> TF, push_toArray -> TI, append_toArray -> TJ, filter_append -> TK, length_append -> TL
open Option renaming map_some -> Tn, map_eq_some_iff -> Tt, getD_some -> Tz
open Option.some renaming injEq -> To
open Nat renaming le_refl -> Tp
open Array renaming getElem?_eq_some_iff -> Tw, all_eq_true' -> TA, replicate_succ -> TG, replicate_zero -> TH
open Bool renaming and_eq_true_iff -> Ty
open Prod.mk renaming injEq -> TB
open Go.Proofs.Tryz renaming prog -> ZW
namespace Go.Proofs.YtfbmmcnpjhmjaaaGreatDoor
open Go.RowKit Go.Shelf Go.Deep Gf
variable {a:Act} {R ops:Array Oper} {x:Ck} {Q:Exit->Act->ZY->Prop} {pre:List Sh} {n B i kept:Nat} {ed:Nat->List Nat} {d:Option Nat} {s:cC} {W w:ZY}
theorem jK (j:R.size=n) (a:(Tm n).map (λi=>(R[i]?).map λo=>(o.after.toList.filter (λe=>Region.binds .any e)).map (λe=>e.on))=(Tm n).map (λi=>Z1 (ed i)))
 {listed:Array Bool} {i:Nat} (h:i∈Region.ready .any R listed):i<n/\listed.getD i Z0=ZZ/\∀ k∈ed i,listed.getD k ZZ=Z0:=by
 unfold Region.ready at h;rw [Tq,j,Tx] at h;obtain ⟨c,b⟩:=h;rw [Ty] at b;refine ⟨c,by simpa using b.1,λk f=>?_⟩;have a:(R[i]?).map (λo=>(o.after.toList.filter (λe=>Region.binds .any e)).map (λe=>e.on))=Z1 (ed i):=by
  have:=congrArg (λl=>l[i]?) a;simp only [Tr,Ts c,Tn,To] at this;exact this
 rw [Tt] at a;obtain ⟨o,ho,g⟩:=a;rw [ho] at b;have d:=b.2;simp only [Tn,Tz] at d;rw [<- g,List.mem_map] at f;obtain ⟨e,a,rfl⟩:=f;obtain ⟨m,p⟩:=Tq.1 a;have:=TA.1 d e (by simpa using m);simpa [p] using this
theorem eo (h:R.size=n) (a:(Tm n).map (λi=>(R[i]?).map λo=>(o.after.toList.filter (λe=>Region.binds .any e)).map (λe=>e.on))=(Tm n).map (λi=>Z1 (ed i)))
 {listed:Array Bool} {i:Nat} (b:i<n) (f:listed.getD i Z0=ZZ) (g:∀ k∈ed i,listed.getD k ZZ=Z0):i∈Region.ready .any R listed:=by
 unfold Region.ready;rw [Tq,h,Tx];refine ⟨b,?_⟩;rw [Ty];refine ⟨by simpa using f,?_⟩;have a:(R[i]?).map (λo=>(o.after.toList.filter (λe=>Region.binds .any e)).map (λe=>e.on))=Z1 (ed i):=by
  have:=congrArg (λl=>l[i]?) a;simp only [Tr,Ts b,Tn,To] at this;exact this
 rw [Tt] at a;obtain ⟨o,ho,d⟩:=a;rw [ho];simp only [Tn,Tz];rw [TA];intro e a;by_cases c:Region.binds .any e=Z0
 . have:=g e.on (by rw [<- d];exact List.mem_map.2 ⟨e,Tq.2 ⟨by simpa using a,c⟩,rfl⟩);simp [this]
 . simp [c]
theorem qt {B':Nat} {C:Ck} {v:Value} (h:aD W B C) (a:Bx W B' v):B≠B':=by
 rintro rfl;obtain ⟨t,a⟩:=a;have e:=h.heap.symm.trans a;simp only [To,Obj.cells.injEq] at e;have:=congrArg Array.size e.1;rw [aY] at this;simp at this
noncomputable def MR:Array Oper:=((Tryz.f199.body.bind (Hi · 1))).getD #[]
theorem m9:(Tm 7).map (λi=>(MR[i]?).map λo=>(o.op,o.dst,o.guard))=[
 Z1 (.load 319 (Z4 2),Z1 11,Z2),Z1 (.load 124 (Z4 3),Z1 12,Z2),Z1 (.call { callee:=.value (.func 206),args:=#[Z4 12],argTypes:=#[124] },Z1 13,Z2),
 Z1 (.alloc 319,Z1 5,Z2),Z1 (.alloc 3,Z1 6,Z2),Z1 (.store 319 (Z4 5) (Z4 11),Z2,Z2),Z1 (.store 3 (Z4 6) (Z4 13),Z2,Z2)]:=by kernel_rfl
theorem nd {x:Op} (f:i<7) (h:((Tm 7).map (λi=>(MR[i]?).map λo=>(o.op,o.dst,o.guard)))[i]?=Z1 (Z1 (x,d,Z2))):∃ o,MR[i]?=Z1 o/\o.op=x/\o.dst=d/\o.guard=Z2:=by
 simp only [Tr,Ts f,Tn,To,Tt,TB] at h;obtain ⟨o,a,b,c,e⟩:=h;exact ⟨o,a,b,c,e⟩
def ot:Nat->List Nat
 | 2=>[1]
 | 5=>[3,0,2,0,3,4]
 | 6=>[4,2,5,0,1,2,3,4,5]
 | _=>[]
theorem ep:MR.size=7:=by kernel_rfl
theorem jt:(Tm 7).map (λi=>(MR[i]?).map λo=>(o.after.toList.filter (λe=>Region.binds .any e)).map (λe=>e.on))=(Tm 7).map (λi=>Z1 (ot i)):=by kernel_rfl
def RN (a:Act) (w:ZY) (kept:Nat) (C:Ck) (f:Nat) (listed:Array Bool) (a':Act) (w':ZY):Prop:=
 js 5 14 a a'/\ZX w.heap.size w w'/\((∃ b0 b1 b2 b3 b4:Bool,listed=#[b0,b1,b2,b3,b4,ZZ,ZZ]/\f=2+(bn b0+bn b1+bn b2+bn b3+bn b4)/\(b2=Z0->b1=Z0) /\
  (b0=Z0->a'.eval (Z4 11)=.agg (aV C))/\(b1=Z0->a'.eval (Z4 12)=Z7 Z8 (kept:Int))/\(b2=Z0->a'.eval (Z4 13)=Z7 Z9 ((ae kept).length:Nat)) /\
  (b3=Z0->∃ B,a'.eval (Z4 5)=Z6 (Z1 ⟨B,0,Z2⟩)/\w.heap.size<=B/\aD w' B dC)/\(b4=Z0->∃ B,a'.eval (Z4 6)=Z6 (Z1 ⟨B,0,Z2⟩)/\w.heap.size<=B/\Bx w' B (Z7 Z9 0))) \/
  (f=1/\listed=#[Z0,Z0,Z0,Z0,Z0,Z0,ZZ]/\a'.eval (Z4 13)=Z7 Z9 ((ae kept).length:Nat)/\∃ B5 B6,a'.eval (Z4 5)=Z6 (Z1 ⟨B5,0,Z2⟩)/\a'.eval (Z4 6)=Z6 (Z1 ⟨B6,0,Z2⟩)/\w.heap.size<=B5/\w.heap.size<=B6/\aD w' B5 C/\Bx w' B6 (Z7 Z9 0)) \/
  (f=0/\listed=#[Z0,Z0,Z0,Z0,Z0,Z0,Z0]/\∃ B5 B6,a'.eval (Z4 5)=Z6 (Z1 ⟨B5,0,Z2⟩)/\a'.eval (Z4 6)=Z6 (Z1 ⟨B6,0,Z2⟩)/\w.heap.size<=B5/\w.heap.size<=B6/\aD w' B5 C/\Bx w' B6 (Z7 Z9 ((ae kept).length:Nat))))
theorem FP (B2 T kept:Nat) (C:Ck) (hR:MR=ops) (P:a.tmps.size=35) (h9:kept<65536)
 (i2:a.eval (Z4 2)=Z6 (Z1 ⟨B2,0,Z2⟩)) (i3:a.eval (Z4 3)=Z6 (Z1 ⟨T,0,Z2⟩)) (ha:aD w B2 C) (h5:Bx w T (Z7 Z8 (kept:Int)))
 (h:∀ t w' r q,js 5 14 a t->t.eval (Z4 5)=Z6 (Z1 ⟨r,0,Z2⟩)->t.eval (Z4 6)=Z6 (Z1 ⟨q,0,Z2⟩)->w.heap.size<=r->w.heap.size<=q->aD w' r C->Bx w' q (Z7 Z9 ((ae kept).length:Nat))->ZX w.heap.size w w'->Q .normal t w') :
 (Code.region 1 ops Z0).wpIn Fence.wide n ZW Q a w:=by
 subst hR;have he:=ha.lt;have hg:=h5.lt;obtain ⟨p0,g0,x0,d0,k0⟩:=nd (i:=0) (by decide) (by rw [m9];rfl);obtain ⟨p1,g1,x1,d1,k1⟩:=nd (i:=1) (by decide) (by rw [m9];rfl);obtain ⟨p2,g2,x2,d2,k2⟩:=nd (i:=2) (by decide) (by rw [m9];rfl);obtain ⟨p3,g3,x3,d3,k3⟩:=nd (i:=3) (by decide) (by rw [m9];rfl);obtain ⟨p4,g4,x4,d4,k4⟩:=nd (i:=4) (by decide) (by rw [m9];rfl);obtain ⟨p5,g5,x5,d5,k5⟩:=nd (i:=5) (by decide) (by rw [m9];rfl);obtain ⟨p6,g6,x6,d6,k6⟩:=nd (i:=6) (by decide) (by rw [m9];rfl);refine wpIn_region_any (by kernel_rfl) ?_;rw [ep];refine ml (RN a w kept C) ?_ ?_ 7 _ a _ ⟨js.refl _ _ _,(Below.refl _ w).drew,.inl ⟨ZZ,ZZ,ZZ,ZZ,ZZ,rfl,rfl,λh=>(by cases h),λh=>(by cases h),λh=>(by cases h),λh=>(by cases h),λh=>(by cases h),λh=>(by cases h)⟩⟩
 . rintro listed t w' ⟨l,g,⟨b0,b1,b2,b3,u,_,m,_⟩|⟨m,_⟩|⟨_,rfl,r,q,W,R,G,H,z,s⟩⟩
   . omega
   . omega
   . refine ⟨TC.2 λj F=>?_,h t w' r q l W R G H z s g⟩;obtain ⟨h1,y,_⟩:=jK ep jt F;have:j=0\/j=1\/j=2\/j=3\/j=4\/j=5\/j=6:=by omega
     rcases this with rfl|rfl|rfl|rfl|rfl|rfl|rfl<;>simp at y
 . rintro f listed t w' ⟨l,g,⟨b0,b1,b2,b3,u,rfl,m,S,J,L,M,N,O⟩|⟨m,rfl,hd,r,q,W,R,G,H,z,s⟩|⟨m,_⟩⟩
   . constructor
     . intro X;have D:∀ j,j∉Region.ready .any MR #[b0,b1,b2,b3,u,ZZ,ZZ]:=λj=>by rw [X];simp
       have U:b0=Z0:=eq_true_of_ne_false λe=>D 0 (eo ep jt (by decide) (by simp [e]) (by simp [ot]));have b:b1=Z0:=eq_true_of_ne_false λe=>D 1 (eo ep jt (by decide) (by simp [e]) (by simp [ot]));have d:b2=Z0:=eq_true_of_ne_false λe=>D 2 (eo ep jt (by decide) (by simp [e]) (by simp [ot,b]));have A:b3=Z0:=eq_true_of_ne_false λe=>D 3 (eo ep jt (by decide) (by simp [e]) (by simp [ot]));have V:u=Z0:=eq_true_of_ne_false λe=>D 4 (eo ep jt (by decide) (by simp [e]) (by simp [ot]));exact D 5 (eo ep jt (by decide) (by simp) (by simp [ot,U,d,A,V]))
     . intro j F;obtain ⟨h1,y,E⟩:=jK ep jt F;clear F;have Y:j=0\/j=1\/j=2\/j=3\/j=4\/j=5\/j=6:=(by omega);rcases Y with rfl|rfl|rfl|rfl|rfl|rfl|rfl
       . have x:b0=ZZ:=(by simpa using y);have I:=(l.slot 2 (by omega)).trans i2;have h7:=ha.mono g he;refine wpOpIn_step g0 λK hK=>dt (v:=.agg (aV C)) (w':=w') k0 (by simp [Oper.about,x0]) (by rw [x0];intro c o;cases o) (by simp [execOp,x0,I,mi h7,Result.andThen]) (hK _ _ ?_);rw [d0];exact ⟨l.put 11 _ (by decide) (by decide),g,.inl ⟨Z0,b1,b2,b3,u,rfl,by rw [dg x] at m;simp only [bn,if_true];simp only [bn] at m;omega,S,λ_=>dm _ _ _ (by rw [l.size,P];decide),λe=>(ah _ _ _ _ (by decide)).trans (L e),λe=>(ah _ _ _ _ (by decide)).trans (M e),λe=>(by obtain ⟨B,b,d⟩:=N e;exact ⟨B,(ah _ _ _ _ (by decide)).trans b,d⟩),λe=>(by obtain ⟨B,b,d⟩:=O e;exact ⟨B,(ah _ _ _ _ (by decide)).trans b,d⟩)⟩⟩
       . have x:b1=ZZ:=(by simpa using y);have I:=(l.slot 3 (by omega)).trans i3;have cs:=(h5.keep (g.block T hg)).cell;refine wpOpIn_step g1 λK hK=>dt (v:=Z7 Z8 (kept:Int)) (w':=w') k1 (by simp [Oper.about,x1]) (by rw [x1];intro c o;cases o) (by simp only [execOp,x1,I];go_simp) (hK _ _ ?_);rw [d1];exact ⟨l.put 12 _ (by decide) (by decide),g,.inl ⟨b0,Z0,b2,b3,u,rfl,by rw [dg x] at m;simp only [bn,if_true];simp only [bn] at m;omega,λ_=>rfl,λe=>(ah _ _ _ _ (by decide)).trans (J e),λ_=>dm _ _ _ (by rw [l.size,P];decide),λe=>(ah _ _ _ _ (by decide)).trans (M e),λe=>(by obtain ⟨B,b,d⟩:=N e;exact ⟨B,(ah _ _ _ _ (by decide)).trans b,d⟩),λe=>(by obtain ⟨B,b,d⟩:=O e;exact ⟨B,(ah _ _ _ _ (by decide)).trans b,d⟩)⟩⟩
       . have x:b2=ZZ:=(by simpa using y);have b:b1=Z0:=(by have:=E 1 (by simp [ot]);simpa using this);have I:=L b;refine wpOpIn_step g2 λK hK=>pj (λ_=>trivial) rfl k2 (by rw [x2];intro c o;cases o) (f:=206) (args:=#[Z7 Z8 (kept:Int)]) (w':=w') (by have sf:t.eval (.func 206)=.func (.func 206) #[] #[]:=rfl;generalize t.eval=ev at I sf ⊢;simp [execOp,x2,resolve,invoke,I,sf,go_sem]) (callsIn_wide.2 (zZ kept h9 _)) ?_;rintro e hi ⟨rfl,rfl⟩;refine ⟨_,rfl,hK _ _ ?_⟩;rw [d2];exact ⟨l.put 13 _ (by decide) (by decide),g,.inl ⟨b0,b1,Z0,b3,u,rfl,by rw [dg x] at m;simp only [bn,if_true];simp only [bn] at m;omega,λ_=>b,λe=>(ah _ _ _ _ (by decide)).trans (J e),λe=>(ah _ _ _ _ (by decide)).trans (L e),λ_=>dm _ _ _ (by rw [l.size,P];decide),λe=>(by obtain ⟨B,b,d⟩:=N e;exact ⟨B,(ah _ _ _ _ (by decide)).trans b,d⟩),λe=>(by obtain ⟨B,b,d⟩:=O e;exact ⟨B,(ah _ _ _ _ (by decide)).trans b,d⟩)⟩⟩
       . have x:b3=ZZ:=(by simpa using y);have hz:=zeroCk w';refine wpOpIn_step g3 λK hK=>dt (v:=Z6 (Z1 ⟨w'.heap.size,0,Z2⟩)) (w':=w'.alloc (Z5 (aV dC) 319)) k3 (by simp [Oper.about,x3]) (by rw [x3];intro c o;cases o) (by simp only [execOp,x3];go_simp) (hK _ _ ?_);rw [d3];exact ⟨l.put 5 _ (by decide) (by decide),g.alloc g.size _,.inl ⟨b0,b1,b2,Z0,u,rfl,by rw [dg x] at m;simp only [bn,if_true];simp only [bn] at m;omega,S,λe=>(ah _ _ _ _ (by decide)).trans (J e),λe=>(ah _ _ _ _ (by decide)).trans (L e),λe=>(ah _ _ _ _ (by decide)).trans (M e),λ_=>⟨w'.heap.size,dm _ _ _ (by rw [l.size,P];decide),g.size,aD.new _ _⟩,λe=>(by obtain ⟨B,b,d,A⟩:=O e;exact ⟨B,(ah _ _ _ _ (by decide)).trans b,d,A.alloc _⟩)⟩⟩
       . have x:u=ZZ:=(by simpa using y);refine wpOpIn_step g4 λK hK=>dt (v:=Z6 (Z1 ⟨w'.heap.size,0,Z2⟩)) (w':=w'.alloc (Z5 #[Z7 Z9 0] 3)) k4 (by simp [Oper.about,x4]) (by rw [x4];intro c o;cases o) (by simp only [execOp,x4];go_simp) (hK _ _ ?_);rw [d4];exact ⟨l.put 6 _ (by decide) (by decide),g.alloc g.size _,.inl ⟨b0,b1,b2,b3,Z0,rfl,by rw [dg x] at m;simp only [bn,if_true];simp only [bn] at m;omega,S,λe=>(ah _ _ _ _ (by decide)).trans (J e),λe=>(ah _ _ _ _ (by decide)).trans (L e),λe=>(ah _ _ _ _ (by decide)).trans (M e),λe=>(by obtain ⟨B,b,d,A⟩:=N e;exact ⟨B,(ah _ _ _ _ (by decide)).trans b,d,A.keep (Below.heap_alloc _ _ _ A.lt)⟩),λ_=>⟨w'.heap.size,dm _ _ _ (by rw [l.size,P];decide),g.size,Bx.new _ _ _⟩⟩⟩
       . have U:b0=Z0:=(by have:=E 0 (by simp [ot]);simpa using this);have d:b2=Z0:=(by have:=E 2 (by simp [ot]);simpa using this);have A:b3=Z0:=(by have:=E 3 (by simp [ot]);simpa using this);have V:u=Z0:=(by have:=E 4 (by simp [ot]);simpa using this);have b:=S d;subst U b d A V;have Z:=J rfl;obtain ⟨r,t5,G,z⟩:=N rfl;obtain ⟨q,t6,H,s⟩:=O rfl;have hh:=m8 C z;refine wpOpIn_step g5 λK hK=>mj (w':=w'.setRow r (aV C)) k5 (by simp [Oper.about,x5]) (by rw [x5];intro c o;cases o) (by simp [execOp,x5,t5,Z,hh,Result.andThen]) (hK _ _ ?_);rw [d5];have ne:=qt z s;exact ⟨l.none _,g.grown (aR _ _ _) g.size (λk e=>by cases e;exact G),.inr (.inl ⟨by simp only [bn,if_true] at m;omega,rfl,M rfl,r,q,t5,t6,G,H,z.setRow C,s.keep ((aR w' r (aV C)).block q s.lt (λe=>ne (by cases e;rfl)))⟩)⟩
       . have:=E 5 (by simp [ot]);simp at this
   . constructor
     . intro X;have:6∈Region.ready .any MR #[Z0,Z0,Z0,Z0,Z0,Z0,ZZ]:=eo ep jt (by decide) (by simp) (by simp [ot]);rw [X] at this;cases this
     . intro j F;obtain ⟨h1,y,_⟩:=jK ep jt F;have:j=6:=by
        have Y:j=0\/j=1\/j=2\/j=3\/j=4\/j=5\/j=6:=(by omega);rcases Y with rfl|rfl|rfl|rfl|rfl|rfl|rfl<;>first|rfl|(simp at y)
       subst this;have cc:=s.cell;have ff:=s.frozen;refine wpOpIn_step g6 λK hK=>mj (w':=w'.setCell ⟨q,0,Z2⟩ (Z7 Z9 ((ae kept).length:Nat))) k6 (by simp [Oper.about,x6]) (by rw [x6];intro c o;cases o) (by simp only [execOp,x6,R,hd];go_simp) (hK _ _ ?_);rw [d6];have ne:=qt z s;exact ⟨l.none _,g.setCell (p:=⟨q,0,Z2⟩) H _,.inr (.inr ⟨by omega,rfl,r,q,W,R,G,H,z.keep (Below.heap_setCell _ _ _ _ ne),s.set _⟩)⟩
   . omega
noncomputable def CU:Array Oper:=((Tryz.f199.body.bind (Hi · 11))).getD #[]
theorem qZ:(Tm 4).map (λi=>(CU[i]?).map λo=>(o.op,o.dst,o.guard))=[
 Z1 (.load 319 (Z4 8),Z1 32,Z2),Z1 (.load 3 (Z4 9),Z1 33,Z2),Z1 (.store 319 (Z4 5) (Z4 32),Z2,Z2),Z1 (.store 3 (Z4 6) (Z4 33),Z2,Z2)]:=by kernel_rfl
theorem re {x:Op} (f:i<4) (h:((Tm 4).map (λi=>(CU[i]?).map λo=>(o.op,o.dst,o.guard)))[i]?=Z1 (Z1 (x,d,Z2))):∃ o,CU[i]?=Z1 o/\o.op=x/\o.dst=d/\o.guard=Z2:=by
 simp only [Tr,Ts f,Tn,To,Tt,TB] at h;obtain ⟨o,a,b,c,e⟩:=h;exact ⟨o,a,b,c,e⟩
def qu:Nat->List Nat
 | 2=>[0,0]
 | 3=>[1,2,0,1,2]
 | _=>[]
theorem fQ:CU.size=4:=by kernel_rfl
theorem mn:(Tm 4).map (λi=>(CU[i]?).map λo=>(o.after.toList.filter (λe=>Region.binds .any e)).map (λe=>e.on))=(Tm 4).map (λi=>Z1 (qu i)):=by kernel_rfl
def Qu (a:Act) (w:ZY) (B5 B6 n:Nat) (C:Ck) (f:Nat) (listed:Array Bool) (a':Act) (w':ZY):Prop:=
 js 32 34 a a'/\((∃ b0 b1 b2:Bool,listed=#[b0,b1,b2,ZZ]/\f=1+(bn b0+bn b1+bn b2)/\(b2=Z0->b0=Z0)/\(b0=Z0->a'.eval (Z4 32)=.agg (aV C))/\(b1=Z0->a'.eval (Z4 33)=Z7 Z9 (n:Int)) /\
  w'=(if b2=Z0 then w.drew.setRow B5 (aV C) else w.drew)) \/
  (f=0/\listed=#[Z0,Z0,Z0,Z0]/\w'=(w.drew.setRow B5 (aV C)).setCell ⟨B6,0,Z2⟩ (Z7 Z9 (n:Int))))
theorem CV {l m:Nat} (b g x y n:Nat) (C X:Ck) (v:Value) (hR:CU=ops) (sz:a.tmps.size=35)
 (i5:a.eval (Z4 5)=Z6 (Z1 ⟨b,0,Z2⟩)) (i6:a.eval (Z4 6)=Z6 (Z1 ⟨g,0,Z2⟩)) (i8:a.eval (Z4 8)=Z6 (Z1 ⟨x,0,Z2⟩)) (i9:a.eval (Z4 9)=Z6 (Z1 ⟨y,0,Z2⟩))
 (Y:aD w x C) (L:Bx w y (Z7 Z9 (n:Int))) (I:aD w b X) (J:Bx w g v) (N:x≠b)
 (h:∀ p,js 32 34 a p->Q .normal p ((w.drew.setRow b (aV C)).setCell ⟨g,0,Z2⟩ (Z7 Z9 (n:Int)))) :
 (Code.region 11 ops Z0).wpIn (Fence.wide.inRound l) m ZW Q a w:=by
 subst hR;obtain ⟨p0,g0,T,d0,k0⟩:=re (i:=0) (by decide) (by rw [qZ];rfl);obtain ⟨p1,g1,U,d1,k1⟩:=re (i:=1) (by decide) (by rw [qZ];rfl);obtain ⟨p2,g2,V,d2,k2⟩:=re (i:=2) (by decide) (by rw [qZ];rfl);obtain ⟨p3,g3,W,d3,k3⟩:=re (i:=3) (by decide) (by rw [qZ];rfl);have G:∀ (b2:Bool) (k:Nat),k≠b->k<w.heap.size->(if b2=Z0 then w.drew.setRow b (aV C) else w.drew).heap[k]?=w.heap[k]?:=by
  intro b2 k d hi;cases b2
  . rfl
  . exact (aR w.drew b (aV C)).block k hi (λe=>d (by cases e;rfl))
 have O:y≠b:=(qt I L).symm;have M:g≠b:=(qt I J).symm;refine wpIn_region_any (by kernel_rfl) ?_;rw [fQ];refine ml (Qu a w b g n C) ?_ ?_ 4 _ a _ ⟨js.refl _ _ _,.inl ⟨ZZ,ZZ,ZZ,rfl,rfl,λh=>(by cases h),λh=>(by cases h),λh=>(by cases h),rfl⟩⟩
 . rintro listed p w' ⟨d,⟨b0,b1,b2,_,o,_⟩|⟨_,rfl,rfl⟩⟩
   . omega
   . refine ⟨TC.2 λj A=>?_,h p d⟩;obtain ⟨h1,t,_⟩:=jK fQ mn A;have:j=0\/j=1\/j=2\/j=3:=by omega
     rcases this with rfl|rfl|rfl|rfl<;>simp at t
 . rintro f listed p w' ⟨d,⟨b0,b1,b2,rfl,o,Z,q0,P,rfl⟩|⟨o,_⟩⟩
   . constructor
     . intro h7;have z:∀ j,j∉Region.ready .any CU #[b0,b1,b2,ZZ]:=λj=>by rw [h7];simp
       have r:b0=Z0:=eq_true_of_ne_false λe=>z 0 (eo fQ mn (by decide) (by simp [e]) (by simp [qu]));have D:b1=Z0:=eq_true_of_ne_false λe=>z 1 (eo fQ mn (by decide) (by simp [e]) (by simp [qu]));have E:b2=Z0:=eq_true_of_ne_false λe=>z 2 (eo fQ mn (by decide) (by simp [e]) (by simp [qu,r]));exact z 3 (eo fQ mn (by decide) (by simp) (by simp [qu,r,D,E]))
     . intro j A;obtain ⟨h1,t,H⟩:=jK fQ mn A;clear A;have hh:j=0\/j=1\/j=2\/j=3:=(by omega);rcases hh with rfl|rfl|rfl|rfl
       . have s:b0=ZZ:=(by simpa using t);have R:=(d.slot 8 (by omega)).trans i8;have hg:=Y.keep (G b2 x N Y.lt);refine wpOpIn_step g0 λK hK=>dt (v:=.agg (aV C)) (w':=if b2=Z0 then w.drew.setRow b (aV C) else w.drew) k0 (by simp [Oper.about,T]) (by rw [T];intro c q;cases q) (by simp [execOp,T,R,mi hg,Result.andThen]) (hK _ _ ?_);rw [d0];exact ⟨d.put 32 _ (by decide) (by decide),.inl ⟨Z0,b1,b2,rfl,by rw [dg s] at o;simp only [bn,if_true];simp only [bn] at o;omega,λ_=>rfl,λ_=>dm _ _ _ (by rw [d.size,sz];decide),λe=>(ah _ _ _ _ (by decide)).trans (P e),rfl⟩⟩
       . have s:b1=ZZ:=(by simpa using t);have R:=(d.slot 9 (by omega)).trans i9;have cs:=(L.keep (G b2 y O L.lt)).cell;refine wpOpIn_step g1 λK hK=>dt (v:=Z7 Z9 (n:Int)) (w':=if b2=Z0 then w.drew.setRow b (aV C) else w.drew) k1 (by simp [Oper.about,U]) (by rw [U];intro c q;cases q) (by generalize (if b2=Z0 then w.drew.setRow b (aV C) else w.drew)=wz at cs ⊢;simp only [execOp,U,R];go_simp) (hK _ _ ?_);rw [d1];exact ⟨d.put 33 _ (by decide) (by decide),.inl ⟨b0,Z0,b2,rfl,by rw [dg s] at o;simp only [bn,if_true];simp only [bn] at o;omega,Z,λe=>(ah _ _ _ _ (by decide)).trans (q0 e),λ_=>dm _ _ _ (by rw [d.size,sz];decide),rfl⟩⟩
       . have s:b2=ZZ:=(by simpa using t);have r:b0=Z0:=(by have:=H 0 (by simp [qu]);simpa using this);subst s r;have u:=q0 rfl;have s5:=(d.slot 5 (by omega)).trans i5;have hm:=m8 C (show aD w.drew b X from I);refine wpOpIn_step g2 λK hK=>mj (w':=w.drew.setRow b (aV C)) k2 (by simp [Oper.about,V]) (by rw [V];intro c q;cases q) (by show (execOp p.eval p2).run ZW w.drew=_;simp [execOp,V,s5,u,hm,Result.andThen]) (hK _ _ ?_);rw [d2];exact ⟨d.none _,.inl ⟨Z0,b1,Z0,rfl,by simp only [bn,if_true] at o ⊢;simp at o ⊢;omega,λ_=>rfl,λ_=>u,P,rfl⟩⟩
       . have D:b1=Z0:=(by have:=H 1 (by simp [qu]);simpa using this);have E:b2=Z0:=(by have:=H 2 (by simp [qu]);simpa using this);subst D E;have r:=Z rfl;subst r;have S:=P rfl;have s6:=(d.slot 6 (by omega)).trans i6;have he:=J.keep (G Z0 g M J.lt);have cc:=he.cell;have ff:=he.frozen;refine wpOpIn_step g3 λK hK=>mj (w':=(w.drew.setRow b (aV C)).setCell ⟨g,0,Z2⟩ (Z7 Z9 (n:Int))) k3 (by simp [Oper.about,W]) (by rw [W];intro c q;cases q) (by
          show (execOp p.eval p3).run ZW (w.drew.setRow b (aV C))=_;have B:(w.drew.setRow b (aV C)).cell? ⟨g,0,Z2⟩=Z1 v:=cc;have F:(w.drew.setRow b (aV C)).frozen? ⟨g,0,Z2⟩=ZZ:=ff;generalize w.drew.setRow b (aV C)=wz at B F ⊢;simp only [execOp,W,s6,S];go_simp) (hK _ _ ?_)
         rw [d3];exact ⟨d.none _,.inr ⟨by simp only [bn,if_true] at o;omega,rfl,rfl⟩⟩
   . omega
section
attribute [local go_sem] Oper.semAt_some
theorem xM (C:Ck) (kept a:Nat) (w:ZY) :
 Calls ZW 209 #[.agg (aV C),Z7 Z8 kept,fm a] w λe w'=>e=.returned (.func (.func 211) #[] #[Z6 (Z1 ⟨w.heap.size,0,Z2⟩),Z6 (Z1 ⟨w.heap.size+1,0,Z2⟩),Z6 (Z1 ⟨w.heap.size+1+1,0,Z2⟩)]) /\
  aD w' w.heap.size C/\Bx w' (w.heap.size+1) (Z7 Z8 (kept:Int))/\Bx w' (w.heap.size+1+1) (fm a)/\ZX w.heap.size w w'/\w'.heap.size=w.heap.size+3:=by
 have b:=aY C;unfold fm;go_enter Tryz.func209,Tryz.ntmps209;go_wp2;go_ret;refine ⟨rfl,?_,?_,?_,?_,by simp⟩
 . exact (aD.new w C).keep (by rw [Below.heap_alloc _ _ _ (by simp;omega),Below.heap_alloc _ _ _ (by simp)])
 . have h:=Bx.new (w.alloc (Z5 (aV C) 319)) 124 (Z7 Z8 (kept:Int));rw [World.size_alloc] at h;exact h.alloc _
 . have h:=Bx.new ((w.alloc (Z5 (aV C) 319)).alloc (Z5 #[Z7 Z8 (kept:Int)] 124)) 206 (.func (.func 208) #[] #[Z6 (Z1 ⟨a,0,Z2⟩)]);simp only [World.size_alloc] at h;exact h
 . exact ((bA w _).alloc (by simp) _).alloc (by simp;omega) _
theorem xN (K:List Nat) (n0 c l:Nat) (J:cC->ZY->Prop) (o:∀ s A B,J s A->ZX n0 A B->J s B)
 (p:∀ s A,J s A->A.cell? ⟨c,0,Z2⟩=Z1 (Z7 Z9 (s.2:Int))/\n0<=A.heap.size/\aJ A) (r:2<=n0)
 (u:∀ m s C d,J s d->dU C->YieldAt Fence.wide m ZW l #[.agg (aV C)] d λe a=>e=.returned (.bool Z0)/\J (eZ K s C) a/\bu n0 d a)
 (n b Bs f:Nat) (C:Ck) (kept:Nat) (s:cC) (W:ZY) (w:aD W b C) (y:Bx W Bs (Z7 Z8 (kept:Int))) (q:Bx W f (fm c)) (g:dU C) (x:kept<65536) (t:J s W) :
 CallsIn Fence.wide n ZW 211 #[.func (.yield l) #[] #[],Z6 (Z1 ⟨b,0,Z2⟩),Z6 (Z1 ⟨Bs,0,Z2⟩),Z6 (Z1 ⟨f,0,Z2⟩)] W λe a=>(∃ v,e=.returned v)/\J (ir K 8 C kept 0 s) a:=by
 have i:=λm=>Ji K n0 c l J o p r u 8 m C kept 0 s W g (by have:=g.most;omega) x (by decide) t;have c1:=y.cell;have j:=q.cell;unfold fm at j i;refine callsIn_of_wp Tryz.func211 rfl trivial ?_ rfl;simp only [Tryz.ntmps211,TD,TE,TF,Nat.reduceAdd,Nat.reduceSub,TG,TH,TI,TJ,Tu,Tv];gi_wp2_with (refine j8 rfl (Z4 1) rfl b C rfl w ?_)
 refine ⟨trivial,λh=>(by cases h),(i _).mono ?_⟩;rintro e a ⟨rfl,k,_⟩;gi_wp2;go_end0
 exact ⟨⟨_,rfl⟩,k⟩
structure FI (w:ZY) (kept B5 B6 B7:Nat) (s:cC) (W:ZY):Prop where
 best:aD W B5 s.1
 least:Bx W B6 (Z7 Z9 (s.2:Int))
 few:Bx W B7 (fm B6)
 set:Bx W (w.heap.size+1) (Z7 Z8 (kept:Int))
 res:aD W (w.heap.size+1+1) dC
 below:ZX w.heap.size w W
theorem FI.mono {B5 B6 B7:Nat} {W':ZY} (h:FI w kept B5 B6 B7 s W) (a:ZX B W W') (b:W.heap.size<=B\/(B5<B/\B6<B/\B7<B/\w.heap.size+3<=B)):FI w kept B5 B6 B7 s W':=by
 have e:=h.best.lt;have f:=h.least.lt;have g:=h.few.lt;have l1:=h.set.lt;have d:=h.res.lt;have c:=h.below.size;exact ⟨h.best.keep (a.block _ (by omega)),h.least.keep (a.block _ (by omega)),h.few.keep (a.block _ (by omega)),h.set.keep (a.block _ (by omega)),h.res.keep (a.block _ (by omega)),h.below.trans (a.mono (by omega))⟩
theorem Jj {z:Int} (p least a:Nat) (w:ZY) (c:z=(p:Int)) (b:w.cell? ⟨a,0,Z2⟩=Z1 (Z7 Z9 (least:Int))) :
 Calls ZW 208 #[Z7 Z9 z,Z6 (Z1 ⟨a,0,Z2⟩)] w λe w'=>e=.returned (.bool (decide (p<least)))/\w'=w:=by
 subst c;exact vH p least a w b
def cR (x:Ck) (pre:List Sh):Nat:=((pre.map (·.1)).filter (cJ x)).length
theorem LK (x:Ck) (pre:List Sh) (i:Sh):cR x (pre++[i])=cR x pre+(if cJ x i.1=Z0 then 1 else 0):=by
 unfold cR;rw [List.map_append,TK,TL];congr 1;by_cases h:cJ x i.1=Z0
 . simp [h]
 . simp [h]
theorem NO (h:pre.map (·.1)=ae kept):cR x pre=iq (ae kept) x:=by unfold cR iq;rw [h]
theorem LL (h:pre.map (·.1)<+:ae kept):cR x pre<=iq (ae kept) x:=by
 unfold cR iq;obtain ⟨R,a⟩:=h;rw [<- a,TK,TL];omega
theorem Pv (x:Ck) (pre:List Sh):cR x pre<=pre.length:=by
 unfold cR;exact Nat.le_trans (List.length_filter_le _ _) (by rw [List.length_map];exact Tp _)
def P3 (X:ZY) (s:cC) (x:Ck) (pre:List Sh) (Y:ZY):Prop:=ZX X.heap.size X Y/\Bx Y X.heap.size (Z7 Z9 (cR x pre:Int))/\(cR x pre=0\/cR x pre<s.2)
theorem P3.own {X:ZY} (i:X.heap.size+1<=B):OwnFrom B (λpre Y=>P3 X s x pre Y):=by
 rintro pre A h row ⟨c,d,g⟩ b a;have f:=d.lt;exact ⟨c.grown b (by have:=c.size;omega) (λk e=>by have:=(a k e).1;omega),d.keep (b.block _ f (λe=>by have:=(a _ e.symm).1;omega)),g⟩
theorem CW (C:Ck) (kept:Nat) (w:ZY) (hf:dU C) (V:kept<65536) (hT:aJ w) (h2:3<=w.heap.size) :
 Calls ZW 199 #[.agg (aV C),Z7 Z8 kept] w λe w'=>e=.returned (.agg (aV (aS 8 C kept).1))/\ZX w.heap.size w w':=by
 have hp:=aY C;have h9:=aY dC;have hz:=zeroCk;obtain ⟨n,HN⟩:∃ n:Nat,Hid (9<=n):=⟨9,Tp _⟩;refine (callsIn_wide (n:=n)).1 ?_;refine callsIn_of_wp_marks Tryz.func199 rfl trivial ?_ rfl;simp only [Tryz.ntmps199,TD,TE,TF,Nat.reduceAdd,Nat.reduceSub,TG,TH,TI,TJ,Tu,Tv];have b0:ZX w.heap.size w (((w.alloc (Z5 (aV C) 319)).alloc (Z5 #[Z7 Z8 (kept:Int)] 124)).alloc (Z5 (aV dC) 319)):=((bA w _).alloc (by simp) _).alloc (by simp;omega) _;have c0:aD (((w.alloc (Z5 (aV C) 319)).alloc (Z5 #[Z7 Z8 (kept:Int)] 124)).alloc (Z5 (aV dC) 319)) w.heap.size C:=(aD.new w C).keep (by rw [Below.heap_alloc _ _ _ (by simp;omega),Below.heap_alloc _ _ _ (by simp)]);have s0:Bx (((w.alloc (Z5 (aV C) 319)).alloc (Z5 #[Z7 Z8 (kept:Int)] 124)).alloc (Z5 (aV dC) 319)) (w.heap.size+1) (Z7 Z8 (kept:Int)):=by
  have h:=Bx.new (w.alloc (Z5 (aV C) 319)) 124 (Z7 Z8 (kept:Int));rw [World.size_alloc] at h;exact h.alloc _
 have r0:aD (((w.alloc (Z5 (aV C) 319)).alloc (Z5 #[Z7 Z8 (kept:Int)] 124)).alloc (Z5 (aV dC) 319)) (w.heap.size+1+1) dC:=by
  have h:=aD.new ((w.alloc (Z5 (aV C) 319)).alloc (Z5 #[Z7 Z8 (kept:Int)] 124)) dC;simp only [World.size_alloc] at h;exact h
 have z0:(((w.alloc (Z5 (aV C) 319)).alloc (Z5 #[Z7 Z8 (kept:Int)] 124)).alloc (Z5 (aV dC) 319)).heap.size=w.heap.size+3:=by simp
 obtain ⟨w3,qg⟩:=nM (((w.alloc (Z5 (aV C) 319)).alloc (Z5 #[Z7 Z8 (kept:Int)] 124)).alloc (Z5 (aV dC) 319));rw [qg] at b0 c0 s0 r0 z0;have HB:=hide b0;have HC:=hide c0;have HS:=hide s0;have O:=hide r0;have HZ:=hide z0;clear b0 c0 s0 r0 z0;gi_wp2;refine I6 ?_;gi_wp2;refine FP w.heap.size (w.heap.size+1) kept C (by kernel_rfl) rfl V rfl rfl HC.out HS.out ?_;rintro Q b f a q8 e5 e6 l5 l6 c5 F v;obtain ⟨ls,Z,rfl⟩:=q8.split (by decide) (by simp);clear q8;obtain ⟨u0,u1,u2,u3,u4,u5,u6,u7,u8,rfl⟩:=Pr Z;clear Z;simp only [List.take_succ_cons,List.take_zero,List.drop_succ_cons,List.drop_zero,Tv,Tu] at e5 e6 ⊢;obtain rfl:u0=Z6 (Z1 ⟨f,0,Z2⟩):=e5;obtain rfl:u1=Z6 (Z1 ⟨a,0,Z2⟩):=e6;clear qg;have qi:=HZ.out;have cN:=(Bx.new b 206 .nilFunc).cell;have fN:=(Bx.new b 206 .nilFunc).frozen;have t:ZX b.heap.size b ((b.alloc (Z5 #[.nilFunc] 206)).setCell ⟨b.heap.size,0,Z2⟩ (fm a)):=(bA _ _).setCell (p:=⟨b.heap.size,0,Z2⟩) lR _;have L:FI w kept f a b.heap.size (C,(ae kept).length) ((b.alloc (Z5 #[.nilFunc] 206)).setCell ⟨b.heap.size,0,Z2⟩ (fm a)):=
  ⟨c5.keep (t.block _ c5.lt),F.keep (t.block _ F.lt),(Bx.new b 206 .nilFunc).set _,HS.out.keep ((t.block _ (by have:=v.size;omega)).trans (v.block _ (by omega))),O.out.keep ((t.block _ (by have:=v.size;omega)).trans (v.block _ (by omega))),(HB.out.trans (v.mono (by omega))).trans (t.mono (by have:=v.size;omega))⟩
 have k8:aD ((b.alloc (Z5 #[.nilFunc] 206)).setCell ⟨b.heap.size,0,Z2⟩ (fm a)) w.heap.size C:=HC.out.keep ((t.block _ (by have:=v.size;omega)).trans (v.block _ (by omega)));have km:((b.alloc (Z5 #[.nilFunc] 206)).setCell ⟨b.heap.size,0,Z2⟩ (fm a)).heap.size=b.heap.size+1:=by simp [World.setCell]
 have qd:=v.size;have xy:=F.lt;obtain ⟨j,kj⟩:=nM ((b.alloc (Z5 #[.nilFunc] 206)).setCell ⟨b.heap.size,0,Z2⟩ (fm a));rw [kj] at L k8 km;unfold fm at kj;have R:=L.few.cell;unfold fm at R;have c3:=L.set.cell;have G:=hide L;have qk:=hide k8;have xc:=hide km;have xb:=hide qd;have U:=hide qi;clear L k8 km t c5 F v HB HC HS O HZ qd qi hz hp h9;have ka:=xM C kept a j;unfold fm at ka;gi_wp2;refine wpIn_label ?_;gi_wp2_with (refine j8 rfl (Z4 2) rfl w.heap.size C rfl qk.out ?_)
 refine cV ka ?_;clear ka;rintro e w6 ⟨rfl,k1,k2,k3,k4,k5⟩;have qm:=hide k1;have qn:=hide k2;have qo:Hid (Bx w6 (j.heap.size+1+1) (fm a)):=hide k3;have qp:=hide k4;have kr:=hide k5;clear k1 k2 k3 k4 k5 kj cN fN R c3;gi_wp2;have qx:FI w kept f a b.heap.size (C,(ae kept).length) w6:=G.out.mono qp.out (.inl lR);have xq:=G.out.best.lt;have xx:=G.out.least.lt;have y0:=G.out.few.lt;have xp:=G.out.res.lt;have q9:=kr.out;obtain ⟨m,HM⟩:∃ m:Nat,Hid (9<=m):=⟨9,Tp _⟩;refine I7 (P:=ZW) (n:=n) m (w:=w6) (gf:=211) (lb:=#[Z6 (Z1 ⟨j.heap.size,0,Z2⟩),Z6 (Z1 ⟨j.heap.size+1,0,Z2⟩),Z6 (Z1 ⟨j.heap.size+1+1,0,Z2⟩)]) rfl (enters_of Tryz.func211 (by kernel_rfl) rfl)
  (encs:=λC:Ck=>#[.agg (aV C)]) (λ_=>rfl) (eZ (ae kept)) dU (FI w kept f a b.heap.size) (λs A B h hb=>h.mono hb (.inr ⟨by omega,by omega,by omega,by omega⟩)) (λs=>s=aS 8 C kept) (C,(ae kept).length)
  ?call qx (λB x Q A=>∃ o,B<=o/\aD A o x/\Q={ tmps:=#[.agg (aV C),Z7 Z8 (kept:Int),Z6 (Z1 ⟨w.heap.size,0,Z2⟩),Z6 (Z1 ⟨w.heap.size+1,0,Z2⟩),Z6 (Z1 ⟨w.heap.size+1+1,0,Z2⟩),Z6 (Z1 ⟨f,0,Z2⟩),Z6 (Z1 ⟨a,0,Z2⟩),Z6 (Z1 ⟨b.heap.size,0,Z2⟩),Z6 (Z1 ⟨o,0,Z2⟩),u4,u5,u6,u7,u8,.func (.func 208) #[] #[Z6 (Z1 ⟨a,0,Z2⟩)],.agg (aV C),Z7 Z8 (kept:Int),.func (.func 208) #[] #[Z6 (Z1 ⟨a,0,Z2⟩)],.func (.func 211) #[] #[Z6 (Z1 ⟨j.heap.size,0,Z2⟩),Z6 (Z1 ⟨j.heap.size+1,0,Z2⟩),Z6 (Z1 ⟨j.heap.size+1+1,0,Z2⟩)],.agg (aV x),Z3,Z3,Z3,Z3,Z3,Z3,Z3,Z3,Z3,Z3,Z3,Z3,Z3,Z3,Z3],defers:=[] }) ?ax ?assign ?body ?done
 case call=>
  intro l J W k7 xm x1 x0 hY qz;refine (xN (ae kept) (w6.heap.size+2) a l J x1 (λs A hj=>?_) (by omega) hY (n-1) j.heap.size (j.heap.size+1) (j.heap.size+1+1) C kept _ W (qm.out.keep (k7.block _ (by omega))) (qn.out.keep (k7.block _ (by omega))) (qo.out.keep (k7.block _ (by omega))) hf V qz).mono ?_
  . obtain ⟨fi,hs⟩:=x0 s A hj;exact ⟨fi.least.cell,hs,hT.mono (by omega) fi.below⟩
  . rintro e W' ⟨hv,qy⟩;exact ⟨hv,_,rfl,qy⟩
 case ax=>
  rintro B x Q A A' ⟨o,h1,kz,h3⟩ x4;exact ⟨o,h1,kz.keep (x4.block o h1 kz.lt),h3⟩
 case assign=>
  intro l s x W K y q5 hK;have hz:=zeroCk;have h9:=aY dC;gi_wp2_with (refine jJ rfl (Z4 8) (Z4 19) rfl W.heap.size x dC rfl rfl (aD.new W dC) ?_)
  exact hK _ _ ((bA _ _).grown (aR _ _ _) (by simp) (λk e=>by cases e;exact Tp _)) ⟨W.heap.size,Tp _,(aD.new W dC).setRow x,rfl⟩
 case body=>
  rintro l B s x Q X hl xi xe ⟨r,hr⟩ y q5 ⟨o,xd,qh,rfl⟩;have Z:=y.below.size;have x7:l<X.heap.size:=(Tw.1 hr).1;have k6:ZX X.heap.size X (X.alloc (Z5 #[Z7 Z9 0] 3)):=bA _ _;have c3:=(y.mono k6 (.inl lR)).set.cell;have hc:ZX X.heap.size X ((X.alloc (Z5 #[Z7 Z9 0] 3)).alloc (Z5 #[Z7 Z8 (kept:Int)] 124)):=k6.alloc (by simp) _;have q0:=(Bx.new X 3 (Z7 Z9 0)).alloc (Z5 #[Z7 Z8 (kept:Int)] 124);have kf:=(Bx.new (X.alloc (Z5 #[Z7 Z9 0] 3)) 124 (Z7 Z8 (kept:Int))).cell;have kk:((X.alloc (Z5 #[Z7 Z9 0] 3)).alloc (Z5 #[Z7 Z8 (kept:Int)] 124)).heap.size=X.heap.size+1+1:=by simp
  rw [World.size_alloc] at kf;have hx:=dy kept (X.alloc (Z5 #[Z7 Z9 0] 3));rw [World.size_alloc] at hx;have u:=hide y;have T:=hide qh;have S:=hide hc;have ko:=hide q0;have kv:=hide kf;have ky:=hide kk;have O:=hide hr;have kp:=hide hx;clear y qh k6 q0 kf kk hc hr Z hx q9;gi_wp2;refine dG kp.out ?_;rintro e w' ⟨rfl,qf⟩;rw [<- qf] at S ko kv ky;clear kp c3 qf;gi_wp2;have x2:aJ w':=hT.mono (by omega) ((u.out.mono S.out (.inl lR)).below);have kk:=ky.out;have x9:w'.heap[l]?=Z1 (.loop r):=(S.out.block l x7).trans O.out;have xf:=u.out.least;refine wpIn_rangeFunc_ownN (l₀:=l) (r₀:=r) rfl x9 (by have:=HM.out;omega) (gf:=153) (lb:=#[Z6 (Z1 ⟨X.heap.size+1,0,Z2⟩)]) rfl trivial (enters_of Tryz.func153 (by kernel_rfl) rfl)
   ((eK (m-1) (X.heap.size+1) kept V w' (by omega) kv.out (by omega) x2).inRound l) (λh k=>pZ h k) (ql (by omega)) (Below.refl _ _) (λ_=>rfl)
   (λpre Y=>P3 X s x pre Y) (λc pre Y=>c=.exit 1/\ZX X.heap.size X Y/\1<=cR x pre/\s.2<=cR x pre)
   (P3.own (by omega)) (λc=>by
    rintro pre A Bw row ⟨g,q,z⟩ hg ke;exact ⟨g,q.grown hg (by have:=q.size;omega) (λk e=>by have:=(ke k e).1;omega),z⟩)
   ⟨S.out,ko.out,.inl rfl⟩
   (λi H _=>H={ tmps:=#[.agg (aV C),Z7 Z8 (kept:Int),Z6 (Z1 ⟨w.heap.size,0,Z2⟩),Z6 (Z1 ⟨w.heap.size+1,0,Z2⟩),Z6 (Z1 ⟨w.heap.size+1+1,0,Z2⟩),Z6 (Z1 ⟨f,0,Z2⟩),Z6 (Z1 ⟨a,0,Z2⟩),Z6 (Z1 ⟨b.heap.size,0,Z2⟩),Z6 (Z1 ⟨o,0,Z2⟩),Z6 (Z1 ⟨X.heap.size,0,Z2⟩),Z7 Z9 (i.1:Int),u6,u7,u8,.func (.func 208) #[] #[Z6 (Z1 ⟨a,0,Z2⟩)],.agg (aV C),Z7 Z8 (kept:Int),.func (.func 208) #[] #[Z6 (Z1 ⟨a,0,Z2⟩)],.func (.func 211) #[] #[Z6 (Z1 ⟨j.heap.size,0,Z2⟩),Z6 (Z1 ⟨j.heap.size+1,0,Z2⟩),Z6 (Z1 ⟨j.heap.size+1+1,0,Z2⟩)],.agg (aV x),Z7 Z8 (kept:Int),.func (.func 153) #[] #[Z6 (Z1 ⟨X.heap.size+1,0,Z2⟩)],Z7 Z9 (i.1:Int),Z3,Z3,Z3,Z3,Z3,Z3,Z3,Z3,Z3,Z3,Z3,Z3],defers:=[] })
   (λ_ _ _ _ _ _ hs _ _=>hs)
   ?assign2 ?body2 ?done2 ?stop2
  case assign2=>
   rintro l2 pre i Y K hi hK;unfold pY;gi_wp2;exact hK _ _ (KeepsFrom.refl _ _) (Ef.refl _) hi rfl
  case body2=>
   rintro l2 pre i H Y _ _ ⟨g,q,z⟩ rfl x8;have h8:=T.out.lt;have q6:=T.out.keep (g.block o h8);have q7:=Pv x pre;have x6:(ae kept).length<=16:=(by rw [<- j9 kept];exact pr kept);have qq:=hide g;have qs:=hide q;have qv:=hide z;have c9:=q.cell;have f9:=q.frozen;have qb:=vl o i.1 x Y q6 q5 i.2;have qe:=LK x pre i;have kx:=hide qe;have t:ZX X.heap.size X (Y.setCell ⟨X.heap.size,0,Z2⟩ (Z7 Z9 ((cR x pre:Int)+1))):=g.setCell (p:=⟨X.heap.size,0,Z2⟩) lR _;have k0:=u.out.mono t (.inl lR);have R:=k0.few.cell;have F:=k0.least.cell;have hy:=q.set (Z7 Z9 ((cR x pre:Int)+1));have xo:=hy.cell;unfold fm at R;have hq:=hide t;have qj:=hide hy;clear g q z qe t k0 hy q6;gi_wp2;refine dG qb ?_;clear qb;rintro e N ⟨rfl,kh⟩;subst kh;cases hn:cJ x i.1 with
   | false=>
    have E:Hid (cR x (pre++[i])=cR x pre):=hide (by rw [kx.out,hn];simp);clear hn;gi_wp2;refine ⟨KeepsFrom.refl _ _,Ef.refl _,qq.out,?_,?_⟩
    . rw [E.out];exact qs.out
    . rw [E.out];exact qv.out
   | true=>
    have E:Hid (cR x (pre++[i])=cR x pre+1):=hide (by rw [kx.out,hn];simp);clear hn;gi_wp2;refine dG (Jj (cR x pre+1) s.2 a _ (by omega) F) ?_;rintro e y1 ⟨rfl,ki⟩;have qa:KeepsFrom w'.heap.size N (N.setCell ⟨X.heap.size,0,Z2⟩ (Z7 Z9 ((cR x pre:Int)+1))):=(KeepsOthers.setCell _ _ _).from _;have ks:=hide qa;clear qa;subst ki;by_cases k9:cR x pre+1<s.2
    . rw [decide_eq_true k9];gi_wp2;refine ⟨ks.out,λ_=>hT.mono (by omega) (u.out.mono hq.out (.inl lR)).below,hq.out,?_,?_⟩
      . rw [E.out];exact qj.out
      . rw [E.out];exact .inr k9
    . rw [decide_eq_false k9];gi_wp2;refine ⟨ks.out,rfl,hq.out,?_,?_⟩
      . rw [E.out];omega
      . rw [E.out];omega
  case done2=>
   rintro ys Y xa ⟨g,q,z⟩;have q7:=NO (x:=x) xa;rw [q7] at q z;have d:=u.out.mono g (.inl lR);have h8:=T.out.lt;have x3:=T.out.keep (g.block o h8);have q9:=kr.out;gi_wp2;refine CV f a o X.heap.size (iq (ae kept) x) x s.1 _ (by kernel_rfl) rfl rfl rfl rfl rfl x3 q d.best d.least (by omega) ?_;intro a3 xh;have kg:eZ (ae kept) s x=(x,iq (ae kept) x):=(by unfold eZ;rw [if_pos z]);rw [kg];have M:=qt d.best d.least;have qr:=qt d.best d.few;have xn:=qt d.best d.set;have hd:=qt d.res d.least;have I:∀ k,k≠f->k≠a->k<Y.heap.size->((Y.drew.setRow f (aV x)).setCell ⟨a,0,Z2⟩ (Z7 Z9 (iq (ae kept) x:Int))).heap[k]?=Y.heap[k]?:=λk k1 k2 k3=>
    (Below.heap_setCell _ _ _ _ k2).trans ((aR Y.drew f (aV x)).block k k3 (λe=>k1 (by cases e;rfl)))
   have hp:Y.heap.size<=((Y.drew.setRow f (aV x)).setCell ⟨a,0,Z2⟩ (Z7 Z9 (iq (ae kept) x:Int))).heap.size:=(by simp [World.setCell,World.setRow]);have xk:=u.out.below.size;have xg:=g.size;have xv:w.heap.size<=f:=(by have:=U.out;omega);have xz:w.heap.size<=a:=(by have:=U.out;omega);refine ⟨⟨?_,?_,?_,?_,?_,?_⟩,?_⟩
   . exact (((show aD Y.drew f s.1 from d.best).setRow x)).keep (Below.heap_setCell _ _ _ _ M)
   . exact ((show Bx Y.drew a _ from d.least).keep ((aR Y.drew f (aV x)).block a d.least.lt (λe=>M (by cases e;rfl)))).set _
   . exact d.few.keep (I _ (Ne.symm qr) (by omega) d.few.lt)
   . exact d.set.keep (I _ (Ne.symm xn) (by have:=U.out;omega) d.set.lt)
   . exact d.res.keep (I _ (by have:=U.out;omega) hd d.res.lt)
   . exact d.below.trans ⟨rfl,rfl,rfl,hp,λk V=>I k (by omega) (by omega) (by have:=d.below.size;omega)⟩
   . exact (bu.of_below g).trans ⟨rfl,rfl,rfl,hp,λk k1 k2=>I k (by omega) (by omega) k2⟩
  case stop2=>
   rintro c pre Y kb ⟨rfl,g,q,z⟩;have xj:=LL (x:=x) kb;have kg:eZ (ae kept) s x=s:=(by unfold eZ;rw [if_neg (by omega)]);rw [kg];gi_wp2;exact ⟨u.out.mono g (.inl lR),bu.of_below g⟩
 case done=>
  rintro D s X hD rfl y hK;have hb:=y.best;have qc:=y.res;have u:=hide y;have h9:=aY dC;gi_wp2_with (first
   | (refine j8 rfl (Z4 5) rfl f (aS 8 C kept).1 rfl hb ?_)
   | (refine jJ rfl (Z4 4) (Z4 34) rfl (w.heap.size+1+1) (aS 8 C kept).1 dC rfl rfl qc ?_))
  have q4:(X.setRow (w.heap.size+1+1) (aV (aS 8 C kept).1)).heap[D]?=Z1 (.deferred (Z1 [])):=((aR X (w.heap.size+1+1) _).block D (Tw.1 hK).1 (λe=>by cases e;omega)).trans hK;refine ⟨by simp,.inl ⟨_,_,rfl,run_takeDeferred q4,?_⟩⟩;have kc:aD ((X.setRow (w.heap.size+1+1) (aV (aS 8 C kept).1)).putObj D (.deferred Z2)) (w.heap.size+1+1) (aS 8 C kept).1:=(qc.setRow (aS 8 C kept).1).keep (World.putObj_heap_other (by omega));have x5:ZX w.heap.size w ((X.setRow (w.heap.size+1+1) (aV (aS 8 C kept).1)).putObj D (.deferred Z2)):=
   Below.putObj' (u.out.below.grown (aR _ _ _) u.out.below.size (λk e=>by cases e;omega)) (by omega) (Tw.1 q4).1 _
  exact ⟨.agg (aV (aS 8 C kept).1),results_cell_row Tryz.results199 _ _ (w.heap.size+1+1) 319 (aV (aS 8 C kept).1) (0,0) _ rfl kc.heap Tryz.underlying319 rfl (eh _),rfl,x5⟩
end
end Go.Proofs.YtfbmmcnpjhmjaaaGreatDoor
