import Derived.Test.YtfbmmcnpjhmjaaaGreatDoorM35
import Derived.Laws.Cover1
import Derived.Deep.RegionHeld3
set_option maxRecDepth 100000
set_option maxHeartbeats 8000000
open Go.IntKind renaming i64 -> Z9
open Go.Value renaming int -> Z8, pointer -> Z7, slice -> Z6, string -> Z3, tuple -> Z2
open Go.Obj renaming cells -> Z5
open Go.Ending renaming returned -> Z4
open Go renaming undef -> Z1, World -> ZX, Value -> ZW, Calls -> ZU
open Option renaming none -> Z0, some -> ZZ
open Bool renaming false -> ZY
open Go.RowKit renaming Below -> ZV
open List renaming mem_append -> Tm, replicate -> Tn, getElem_mem -> Tp, range -> Tr, map_append -> Ts, getElem?_eq_getElem -> Tt, mem_of_mem_take -> Tu, getElem_map -> Tv, mem_range -> Tw, nodup_append -> Tx, eq_of_mem_replicate -> TA, getD_eq_getElem?_getD -> TB, getElem?_append_left -> TC, mem_of_mem_drop -> TD, mem_cons_self -> TE, nodup_range -> TF, pairwise_iff_getElem -> TG, eq_nil_of_length_eq_zero -> TI, mem_or_eq_of_mem_set -> TJ
open Nat renaming le_trans -> To, le_refl -> Ty, eq_or_lt_of_le -> TH
open Array renaming getElem?_eq_some_iff -> Tq
open Option.some renaming inj -> Tz
open Go.Proofs.Tryz renaming prog -> ZT
namespace Go.Proofs.YtfbmmcnpjhmjaaaGreatDoor
open Go.RowKit
variable {a:Act} {T:List (Nat×Nat×List Nat)} {dl l:List Nat} {os:List Ob} {xs:List ZW} {D L G B b x n size m nb c base:Nat} {v:ZW} {w X Y w':ZX}
section
open Go.Shelf Go.Deep Gf
attribute [local go_sem] Oper.semAt_some
structure CF (w:ZX) (D L G:Nat) (X:ZX):Prop where
 par:X.heap[w.heap.size]?=ZZ (Z5 #[Z8 Z9 (D:Int),Z8 Z9 (L:Int),Z8 Z9 (G:Int)] 25 (0,0))
 res:aD X (w.heap.size+1) dC
 err:Boxed X (w.heap.size+1+1) 63 .nilIface
 below:ZV w.heap.size w X
theorem CF.mono (h:CF w D L G X) (a:ZV B X Y) (b:w.heap.size+3<=B):CF w D L G Y:=
 ⟨(a.block _ (by omega)).trans h.par,h.res.keep (a.block _ (by omega)),(a.block _ (by omega)).trans h.err,h.below.trans (a.mono (by omega))⟩
theorem CF.own {row:Option Nat} (h:CF w D L G X) (c:w.heap.size+3<=B) (a:X.grownBy Y row) (b:∀ r,row=ZZ r->B<=r):CF w D L G Y:=
 h.mono (B:=w.heap.size+3) ⟨a.os,a.tape,a.output,a.size,λk d=>a.block k (by have:=h.err.lt;omega) (λe=>by have:=b k e.symm;omega)⟩ lR
theorem fa {x y z:ZW} {t:TypeId} (h:X.heap[b]?=ZZ (Z5 #[x,y,z] t (0,0))):X.cell? ⟨b,0,Z0⟩=ZZ x/\X.cell? ⟨b,1,Z0⟩=ZZ y/\X.cell? ⟨b,2,Z0⟩=ZZ z:=by simp [World.cell?,h]
def NR (D L G S:Nat) (w:ZX) (e:Ending) (w':ZX):Prop:=
 ZV w.heap.size w w'/\((tells (fE D L G) (ae S)=Z0/\e=Z4 (Z2 #[.agg (aV dC),.iface 66 (Z8 Z9 3)])) \/
  (∃ C,tells (fE D L G) (ae S)=ZZ C/\e=Z4 (Z2 #[.agg (aV C),.nilIface])))
def C6 (pre:List Sh):List Nat:=pre.map (·.1)
theorem FT (pre:List Sh) (x:Sh):C6 (pre++[x])=C6 pre++[x.1]:=by unfold C6;simp
def Py (w:ZX) (D L G Bc B:Nat) (pre:List Sh) (X:ZX):Prop:=CF w D L G X/\(∃ C,tells (fE D L G) (C6 pre)=ZZ C/\aD X Bc C)/\B<=X.heap.size
def P4 (w:ZX) (D L G B:Nat) (c:Code) (pre:List Sh) (X:ZX):Prop:=c=.ret/\tells (fE D L G) (C6 pre)=Z0/\ZV w.heap.size w X/\B<=X.heap.size /\
 aD X (w.heap.size+1) dC/\Boxed X (w.heap.size+1+1) 63 (.iface 66 (Z8 Z9 3))
theorem Py.own {Bc:Nat} (h:w.heap.size+3<=B) (i:Bc<B):OwnFrom B (Py w D L G Bc B):=by
 rintro pre X Y row ⟨d,⟨C,f,b⟩,g⟩ a c;exact ⟨d.own h a (λr e=>(c r e).1),⟨C,f,b.keep (a.block _ b.lt (λe=>by have:=(c _ e.symm).1;omega))⟩,To g a.size⟩
theorem P4.own (m:w.heap.size+3<=B) (c:Code):OwnFrom B (P4 w D L G B c):=by
 rintro pre X Y row ⟨g,h,d,i,j,l⟩ a f;have b:∀ k,k<w.heap.size+3->Y.heap[k]?=X.heap[k]?:=λk b=>a.block k (by omega) (λe=>by have:=(f k e.symm).1;omega);exact ⟨g,h,d.grown a d.size (λk e=>by have:=(f k e).1;omega),To i a.size,j.keep (b _ (by omega)),(b _ (by omega)).trans l⟩
theorem qA {C:Ck} (h:aD X b C) (cs:Array ZW):KeepsOthers X (X.setRow b cs):=
 KeepsOthers.of_grownBy (aR _ _ _) (λj o e ho=>by cases e;rw [h.heap] at ho;cases ho;rfl)
theorem C7 {C:Ck} (h:aD w b C):(loadVar 319 ⟨b,0,Z0⟩).run ZT w=.ok (.agg (aV C)) w:=run_loadVar_row w b 319 319 (aV C) (0,0) _ h.heap Tryz.underlying319 rfl (eh C)
theorem Jp {Z:ZX} {D':Nat} {C:Ck} {ev:ZW} {R:Ending->ZX->Prop} (c:a.defers=[{ target:=.collected D',args:=#[] }]) (h4:a.tmps.getD 4 Z1=Z7 (ZZ ⟨w.heap.size+1,0,Z0⟩)) (h5:a.tmps.getD 5 Z1=Z7 (ZZ ⟨w.heap.size+1+1,0,Z0⟩))
 (h1:aD Z (w.heap.size+1) C) (h0:Boxed Z (w.heap.size+1+1) 63 ev) (hK:Z.heap[D']?=ZZ (.deferred (ZZ []))) (hD:w.heap.size+3<=D')
 (hR:R (Z4 (Z2 #[.agg (aV C),ev])) (Z.putObj D' (.deferred Z0))):bodyPostM Fence.wide n ZT Tryz.f195 R .ret a Z:=by
 obtain ⟨d,i⟩:=a;simp only at c h4 h5;subst c;refine ⟨by simp,.inl ⟨_,_,rfl,run_takeDeferred hK,?_⟩⟩;have e:=C7 (show aD (Z.putObj D' (.deferred Z0)) (w.heap.size+1) C from h1.keep (World.putObj_heap_other (by omega)));have f:=(show Boxed (Z.putObj D' (.deferred Z0)) (w.heap.size+1+1) 63 ev from (World.putObj_heap_other (by omega)).trans h0).cell;have b:(loadVar 63 ⟨w.heap.size+1+1,0,Z0⟩).run ZT (Z.putObj D' (.deferred Z0))=.ok ev (Z.putObj D' (.deferred Z0)):=by simp [go_sem,f]
 refine ⟨Z2 #[.agg (aV C),ev],?_,hR⟩;have g:d[4]?.getD Z1=Z7 (ZZ ⟨w.heap.size+1,0,Z0⟩):=by simpa using h4
 have h:d[5]?.getD Z1=Z7 (ZZ ⟨w.heap.size+1+1,0,Z0⟩):=by simpa using h5
 simp [results,Tryz.results195,asAddr,g,h,e,b]
theorem kS (D L G S:Nat) (hr:cn D L G=true) (qd:1<=D) (hD:D<=12) (hL:1<=L) (ka:L<=4) (hG:G<=4) (hv:D%L=0) (qi:D+L+G<=16) (hS:S<65536) (w:ZX) (hT:aJ w) (h2:3<=w.heap.size) :
 ZU ZT 195 #[.agg #[Z8 Z9 D,Z8 Z9 L,Z8 Z9 G],Z8 .u64 S] w λe w'=>NR D L G S w e w':=by
 obtain ⟨n,HN⟩:∃ n:Nat,Hid (9<=n):=⟨9,Ty _⟩;refine (callsIn_wide (n:=n)).1 ?_;refine callsIn_of_wp_marks Tryz.func195 rfl trivial ?_ rfl;simp only [Tryz.ntmps195,List.size_toArray,List.length_cons,List.length_nil,Nat.reduceAdd,Nat.reduceSub,Array.replicate_succ,Array.replicate_zero,List.push_toArray,List.append_toArray,List.nil_append,List.cons_append];have hz:=zeroCk;have qg:=aY dC;gi_wp2;refine cV (jZ D L G hr hD hL ka hG hv _) ?_;rintro e w1 ⟨v,T,rfl,kb,hH,E⟩;have Y:(((w.alloc (Z5 #[Z8 Z9 (D:Int),Z8 Z9 (L:Int),Z8 Z9 (G:Int)] 25)).alloc (Z5 (aV dC) 319)).alloc (Z5 #[.nilIface] 63)).heap.size=w.heap.size+3:=by simp
 have kh:CF w D L G (((w.alloc (Z5 #[Z8 Z9 (D:Int),Z8 Z9 (L:Int),Z8 Z9 (G:Int)] 25)).alloc (Z5 (aV dC) 319)).alloc (Z5 #[.nilIface] 63)):=by
  obtain ⟨a1,a2,a3,a4⟩:=Jn w (Z5 #[Z8 Z9 (D:Int),Z8 Z9 (L:Int),Z8 Z9 (G:Int)] 25) (Z5 (aV dC) 319) (Z5 #[.nilIface] 63);exact ⟨a2,aD.of_heap a3,a4,((bA w _).alloc (by simp) _).alloc (by simp;omega) _⟩
 rw [Y] at E;have O:=kh.mono E lR;have Z:=E.size;rw [Y] at Z;have q6:=hide E;clear kh E Y;have hM:aL D L G≠[]:=λe=>by have:=de D L G;rw [e] at this;simp at this;omega
 obtain ⟨g,c,rfl,hs,kg⟩:=Jm kb hH (lZ D L G) hM;obtain ⟨p0,p1,p2⟩:=fa O.par;have ki:ZU ZT 202 #[Z6 (ZZ ⟨g,0,Z0⟩) (aL D L G).length c,Z8 Z9 D] w1 λe w'=>e=Z4 (.agg (aV (fE D L G)))/\ZV w1.heap.size w1 w':=by
  have hc:=de D L G;have h:=xO g 0 c (aL D L G) D w1 hs (λi a=>kg i a) qd (by omega) (by omega) (by omega) (λi a=>by
   have e:(aL D L G).getD i []=(aL D L G)[i]:=(by simp [a]);rw [e];exact lZ D L G _ (Tp a))
  rw [show (aL D L G).length-D=L+G by omega] at h;exact h
 have k6:=hide O;clear kb hH O kg;gi_wp2;refine cV ki ?_;clear ki;rintro e b ⟨rfl,W⟩;have kr:=W.size;have h7:=k6.out.mono W (by omega);have k5:=aY (fE D L G);have kc:ZV b.heap.size b ((b.alloc (Z5 (aV dC) 319)).setRow b.heap.size (aV (fE D L G))):=(bA _ _).grown (aR _ _ _) (by simp) (λk e=>by cases e;exact Ty _);have ke:aD ((b.alloc (Z5 (aV dC) 319)).setRow b.heap.size (aV (fE D L G))) b.heap.size (fE D L G):=(aD.new b dC).setRow (fE D L G);have h8:=h7.mono kc (by omega);have kz:((b.alloc (Z5 (aV dC) 319)).setRow b.heap.size (aV (fE D L G))).heap.size=b.heap.size+1:=by simp [World.setRow]
 have H:=hide3 ke h8 kz;clear k6 q6 W h7 kc ke h8 kz;gi_wp2_with (refine jJ rfl (.tmp 8) (.tmp 22) rfl b.heap.size (fE D L G) dC rfl rfl (aD.new b dC) ?_)
 obtain ⟨d,kv⟩:=nM ((b.alloc (Z5 (aV dC) 319)).setRow b.heap.size (aV (fE D L G)));rw [kv] at H ⊢;clear kv k5;refine cV (dy S d) ?_;rintro e w' ⟨rfl,rfl⟩;have q0:(d.alloc (Z5 #[Z8 .u64 (S:Int)] 124)).heap.size=d.heap.size+1:=by simp
 have kf:(d.alloc (Z5 #[Z8 .u64 (S:Int)] 124)).cell? ⟨d.heap.size,0,Z0⟩=ZZ (Z8 .u64 (S:Int)):=(Bx.new d 124 (Z8 .u64 (S:Int))).cell;have kk:Py w D L G b.heap.size (d.heap.size+1) [] (d.alloc (Z5 #[Z8 .u64 (S:Int)] 124)):=by
  have F:ZV d.heap.size d (d.alloc (Z5 #[Z8 .u64 (S:Int)] 124)):=bA _ _;obtain ⟨t,u,m⟩:=H.out;exact ⟨u.mono F (by omega),⟨fE D L G,rfl,t.keep (F.block _ (by omega))⟩,by omega⟩
 obtain ⟨z,kx⟩:=nM (d.alloc (Z5 #[Z8 .u64 (S:Int)] 124));have hg:=H.out.2.2;have Q:=hide4 q0 hg Z kr;have P:=hide kf;have A:=hide kk;clear q0 kf kk H hg Z kr p0 p1 p2;gi_wp2;rw [kx] at Q P A;clear kx;have qb:w.heap.size+3<=z.heap.size/\b.heap.size<z.heap.size/\z.heap.size=d.heap.size+1:=by obtain ⟨t,u,m,J⟩:=Q.out;omega
 obtain ⟨k7,qa,U⟩:=qb;rw [<- U] at A;have q7:=hide U;clear U;refine wpIn_rangeFunc_ownG rfl (by have:=HN.out;omega) (gf:=153) (lb:=#[Z7 (ZZ ⟨d.heap.size,0,Z0⟩)]) rfl trivial (enters_of Tryz.func153 (by kernel_rfl) rfl)
  (eK (n-1) d.heap.size S hS z (by have:=q7.out;omega) P.out (by omega) (hT.mono (by omega) A.out.1.below)) (λh k=>pZ h k) (ql (by omega)) (Below.refl _ _) (λ_=>rfl)
  (Py w D L G b.heap.size z.heap.size) (P4 w D L G z.heap.size) (Py.own k7 qa) (P4.own k7) A.out
  (λx=>{ tmps:=#[.agg #[Z8 Z9 (D:Int),Z8 Z9 (L:Int),Z8 Z9 (G:Int)],Z8 .u64 (S:Int),Z7 (ZZ ⟨w.heap.size,0,Z0⟩),Z1,Z7 (ZZ ⟨w.heap.size+1,0,Z0⟩),Z7 (ZZ ⟨w.heap.size+1+1,0,Z0⟩),Z6 (ZZ ⟨g,0,Z0⟩) (aL D L G).length c,.nilIface,Z7 (ZZ ⟨b.heap.size,0,Z0⟩),Z8 Z9 (x.1:Int),Z2 #[Z6 (ZZ ⟨g,0,Z0⟩) (aL D L G).length c,.nilIface],.agg #[Z8 Z9 (D:Int),Z8 Z9 (L:Int),Z8 Z9 (G:Int)],Z2 #[Z6 (ZZ ⟨g,0,Z0⟩) (aL D L G).length c,.nilIface],Z6 (ZZ ⟨g,0,Z0⟩) (aL D L G).length c,.nilIface,.nilIface,.bool ZY,Z1,Z1,Z6 (ZZ ⟨g,0,Z0⟩) (aL D L G).length c,Z7 (ZZ ⟨w.heap.size,0,Z0⟩),Z8 Z9 (D:Int),.agg (aV (fE D L G)),Z8 .u64 (S:Int),.func (.func 153) #[] #[Z7 (ZZ ⟨d.heap.size,0,Z0⟩)],Z8 Z9 (x.1:Int),Z1,Z1,Z1,Z1,Z1,Z1],defers:=[] }) ?assign ?body ?done ?stop
 case assign=>
  intro l2 x X Kk hK;unfold pY;gi_wp2;exact hK
 case body=>
  rintro l2 pre x X ⟨a,⟨C,l,y⟩,s⟩ hc;have ha:=xP hD ka hG l;have ks:=sq b.heap.size x.1 C X y ha x.2;have I:tells (fE D L G) (C6 (pre++[x]))=jo C x.1:=by rw [FT,im,l];rfl
  have j:=hide a;have HX:=hide s;clear s hc l y ha;have ce:=a.err.cell;have fe:=a.err.frozen;clear a;gi_wp2;refine dG ks ?_;clear ks;rintro e w2 (⟨km,rfl,qh⟩|⟨C',ko,rfl,k8,kj⟩)
  . subst qh;have q9:=hide (I.trans km);clear I km;have f:Boxed (w2.setRow (w.heap.size+1) (aV dC)) (w.heap.size+1+1) 63 .nilIface:=((aR _ _ _).block _ j.out.err.lt (λe=>by have:=Tz e;omega)).trans j.out.err;have M:=f.cell;have N:=f.frozen;have q8:=hide f;clear f;gi_wp2_with (refine jJ rfl (.tmp 4) (.tmp 29) rfl (w.heap.size+1) dC dC rfl rfl j.out.res ?_)
    have a:=j.out;have V:ZV w.heap.size w (w2.setRow (w.heap.size+1) (aV dC)):=a.below.grown (aR _ _ _) a.below.size (λq e=>by cases e;omega);refine ⟨?_,rfl,q9.out,?_,?_,?_,?_⟩
    . exact ((qA j.out.res _).trans (KeepsOthers.setCell _ _ _)).from _
    . exact V.setCell (p:=⟨w.heap.size+1+1,0,Z0⟩) (by show w.heap.size<=w.heap.size+1+1;omega) _
    . have:=HX.out;simpa [World.setCell,World.setRow] using this
    . exact (a.res.setRow dC).keep (Below.heap_setCell _ _ _ _ (by show w.heap.size+1≠w.heap.size+1+1;omega))
    . exact q8.out.set _
  . have H2:=hide3 (I.trans ko) k8 kj;clear I ko k8 kj;gi_wp2;obtain ⟨t,u,m⟩:=H2.out;have h6:=j.out.own (B:=w.heap.size+3) lR m (λr e=>by cases e;obtain ⟨t,u,m,J⟩:=Q.out;omega);exact ⟨⟨m.size,λk o hk ho _=>(m.block k (Tq.1 ho).1 (λe=>by cases e;omega)).trans ho⟩,λ_=>hT.mono (by omega) h6.below,h6,⟨C',t,u⟩,To HX.out m.size⟩
 case done=>
  rintro K xs X qc ky ⟨a,⟨C,l,y⟩,s⟩ hK;rw [show C6 xs=ae S from ky] at l;have qj:K<X.heap.size:=(Tq.1 hK).1;have f:Boxed (X.setRow (w.heap.size+1) (aV C)) (w.heap.size+1+1) 63 .nilIface:=((aR _ _ _).block _ a.err.lt (λe=>by have:=Tz e;omega)).trans a.err;have M:=f.cell;have N:=f.frozen;have j:=hide6 a y s hK l f;clear a y s hK l ky xs A P f;gi_wp2_with (first
   | refine j8 rfl (.tmp 8) rfl b.heap.size C rfl j.out.2.1 ?_
   | refine jJ rfl (.tmp 4) (.tmp 31) rfl (w.heap.size+1) C dC rfl rfl j.out.1.res ?_)
  obtain ⟨a,y,s,hK,l,f⟩:=j.out;have V:ZV w.heap.size w (X.setRow (w.heap.size+1) (aV C)):=a.below.grown (aR _ _ _) a.below.size (λq e=>by cases e;omega);have qe:=V.setCell (p:=⟨w.heap.size+1+1,0,Z0⟩) (by show w.heap.size<=w.heap.size+1+1;omega) .nilIface;have qf:=(qA a.res (aV C)).trans (KeepsOthers.setCell _ ⟨w.heap.size+1+1,0,Z0⟩ .nilIface);have k9:=qf.same K _ hK rfl;exact Jp (w:=w) rfl rfl rfl ((a.res.setRow C).keep (Below.heap_setCell _ _ _ _ (by show w.heap.size+1≠w.heap.size+1+1;omega))) (f.set _) k9 (by omega)
   ⟨Below.putObj' qe (by omega) (Tq.1 k9).1 _,.inr ⟨C,l,rfl⟩⟩
 case stop=>
  rintro K cc pre X qc hy ⟨rfl,kp,F,s,hf,h9⟩ hK;have he:tells (fE D L G) (ae S)=Z0:=by
   obtain ⟨R,hR⟩:=hy;rw [<- hR];exact iW _ _ _ kp
  have HH:=hide5 F hf h9 hK he;clear F hf h9 hK he kp;gi_wp2;obtain ⟨t,u,m,J,q5⟩:=HH.out;exact Jp (w:=w) rfl rfl rfl u m J (by omega) ⟨Below.putObj' t (by omega) (Tq.1 J).1 _,.inl ⟨q5,rfl⟩⟩
end
section
open Go.Deep Gf
theorem L8 (a:x<256):gm 1 x=x:=by rw [bH (by decide) a,cj x a]
theorem J6 (D i t:Nat) (a:i<D):(dw D i).getD t 0=if t=i then 1 else 0:=by
 unfold dw;rw [TB,List.getElem?_set];by_cases e:t=i
 . subst e;simp [a]
 . rw [if_neg (λq=>e q.symm),if_neg e,List.getElem?_replicate];split<;>rfl
theorem AR (D i q:Nat) (c:i<D) (Dt:List (List Nat)) (b:(Dt.getD i []).getD q 0<256):∀ t,LZ (dw D i) Dt t q=if i<t then (Dt.getD i []).getD q 0 else 0
 | 0=>by rw [if_neg (by omega)];rfl
 | t+1=>by
  show LZ (dw D i) Dt t q^^^gm ((dw D i).getD t 0) ((Dt.getD t []).getD q 0)=_;rw [AR D i q c Dt b t,J6 D i t c];by_cases e:t=i
  . subst e;rw [if_neg (by omega),if_pos rfl,L8 b,if_pos (by omega),Nat.zero_xor]
  . rw [if_neg e,Si,Nat.xor_zero];by_cases a:i<t
    . rw [if_pos a,if_pos (by omega)]
    . rw [if_neg a,if_neg (by omega)]
theorem Gr (D L G i:Nat) (c:i<D):∃ h:i<(aL D L G).length,(aL D L G)[i]=dw D i:=by
 have b:i<(aL D L G).length:=by rw [de];omega
 refine ⟨b,?_⟩;have a:(aL D L G)[i]?=ZZ (dw D i):=by
  unfold aL;rw [TC (by simp;omega),TC (by simp;omega)];simp [c]
 rw [Tt b] at a;exact Tz a
theorem AS (a:∀ x∈dl,x<256):∀ x∈ix D dl,x<256:=by
 intro x h;unfold ix at h;rcases Tm.1 h with q|q
 . exact a x q
 . rw [TA q];decide
theorem AT {i:Nat} (a:i<D) (h:dl.length<=D*44) (l:∀ x∈dl,x<256):(aK D L G dl).getD i []=((ix D dl).drop (i*44)).take 44:=by
 obtain ⟨j,g⟩:=Gr D L G i a;have e:(aK D L G dl).getD i []=cL (aL D L G)[i] (di D dl) 44 (di D dl).length:=by simp [aK,dB,j]
 rw [e,g,dL];have k:(di D dl).getD i []=((ix D dl).drop (i*44)).take 44:=by simp [di,a]
 have d:=mb h a;unfold cL;apply List.ext_getElem
 . simp [d]
 . intro q m b;have c:((di D dl).getD i []).getD q 0=(((ix D dl).drop (i*44)).take 44)[q]:=(by rw [k,TB,Tt b];rfl);have f:((di D dl).getD i []).getD q 0<256:=(by rw [c];exact AS l _ (TD (Tu (Tp b))));rw [Tv,List.getElem_range,AR D i q a _ f,if_pos a,c]
theorem we:∀ m,((Tr m).map λi=>((ix D dl).drop (i*44)).take 44).flatten=(ix D dl).take (44*m)
 | 0=>by simp
 | m+1=>by
  rw [List.range_succ,Ts,List.flatten_append,we m,show 44*(m+1)=44*m+44 by omega,List.take_add];simp [Nat.mul_comm]
theorem J7 (h:size<=dl.length):(ix D dl).take size=dl.take size:=by
 unfold ix;rw [List.take_append_of_le_length h]
theorem Gs (g:m=(size+43)/44) (f:m<=D) (b:dl.length<=D*44) (d:∀ x∈dl,x<256) (c:size<=dl.length):((Tr m).map λi=>(aK D L G dl).getD i []).flatten.take size=dl.take size:=by
 have e:((Tr m).map λi=>(aK D L G dl).getD i [])=(Tr m).map λi=>((ix D dl).drop (i*44)).take 44:=by
  apply List.map_congr_left;intro i a;exact AT (by have:=Tw.1 a;omega) b d
 rw [e,we,List.take_take,show min size (44*m)=size by omega,J7 c]
theorem J8 (d:∀ x∈dl,x<256):(di D dl).length=D/\∀ l∈di D dl,∀ x∈l,x<256:=by
 refine ⟨dL D dl,λl c x a=>?_⟩;obtain ⟨i,b,rfl⟩:=List.getElem_of_mem c;rw [oh b] at a;exact AS d x (TD (Tu a))
end
section
open Gf
theorem Eu (nb:Nat):∀ (l:List Nat) (s:(Nat->Bool)×Bool),(∀ x∈l,2<=x/\x<nb/\s.1 x=ZY)->l.Nodup->(l.foldl (jv nb) s).2=s.2/\∀ x,(l.foldl (jv nb) s).1 x=(s.1 x || decide (x∈l))
 | [],s,_,_=>⟨rfl,λx=>by simp⟩
 | y::l,s,h,m=>by
  obtain ⟨p,r,g⟩:=h y (TE ..);obtain ⟨i,k⟩:=List.nodup_cons.1 m;have e:jv nb s y=(λj=>if j=y then true else s.1 j,s.2):=by
   unfold jv;rw [if_neg (λq=>by rcases q with q|q|q;omega;omega;rw [g] at q;cases q)]
  rw [List.foldl_cons,e];obtain ⟨n,o⟩:=Eu nb l (λj=>if j=y then true else s.1 j,s.2) (λx f=>by
   obtain ⟨a,b,c⟩:=h x (List.mem_cons_of_mem _ f);have d:¬ x=y:=λq=>i (by rw [<- q];exact f);exact ⟨a,b,by show (if x=y then true else s.1 x)=ZY;rw [if_neg d];exact c⟩) k
  refine ⟨n,λx=>?_⟩;rw [o];show ((if x=y then true else s.1 x) || decide (x∈l))=(s.1 x || decide (x∈y::l));by_cases d:x=y
  . subst d;simp
  . rw [if_neg d];simp [d]
theorem MX (e:l.Nodup) (a:∀ x∈l,2<=x/\x<nb):(tk nb l).2=true/\∀ x,(tk nb l).1 x=decide (x∈l):=by
 obtain ⟨c,d⟩:=Eu nb l (λ_=>ZY,true) (λx b=>⟨(a x b).1,(a x b).2,rfl⟩) e;exact ⟨c,λx=>by rw [show (tk nb l).1 x=_ from d x];rfl⟩
theorem pE {T:Nat->Bool} {k:Nat}:x∈bh T k↔x<k/\2<=x/\T x=ZY:=by
 unfold bh;rw [List.mem_filter,Tw];simp
theorem qB (T:Nat->Bool) (k:Nat):(bh T k).Nodup:=(TF).filter _
theorem jd (e:l.Nodup) (d:∀ x∈l,2<=x/\x<nb) {x:Nat} (f:x∈bh (tk nb l).1 nb):(2<=x/\x<nb)/\x∉l:=by
 obtain ⟨b,c,a⟩:=pE.1 f;rw [(MX e d).2] at a;exact ⟨⟨c,b⟩,of_decide_eq_false a⟩
theorem nz (b:l.Nodup) (a:∀ x∈l,2<=x/\x<nb) (c:Nat):(((bh (tk nb l).1 nb).take c)++l).Nodup/\∀ x∈((bh (tk nb l).1 nb).take c)++l,2<=x/\x<nb:=by
 refine ⟨Tx.2 ⟨(qB _ _).sublist (List.take_sublist _ _),b,λx d y f e=>?_⟩,λx d=>?_⟩
 . subst e;exact (jd b a (Tu d)).2 f
 . rcases Tm.1 d with h|h
   . exact (jd b a (Tu h)).1
   . exact a x h
theorem lM (c:l.Nodup) (a:∀ x∈l,2<=x/\x<nb):(bh (tk nb l).1 nb).length+l.length+2=max 2 nb:=by
 by_cases m:2<=nb
 . have k:((bh (tk nb l).1 nb)++l++[0,1]).Perm (Tr nb):=by
    refine (List.perm_ext_iff_of_nodup ?_ TF).2 λx=>?_
    . refine Tx.2 ⟨Tx.2 ⟨qB _ _,c,λx b y d e=>?_⟩,by decide,λx b y d e=>?_⟩
      . subst e;exact (jd c a b).2 d
      . subst e;have g:2<=x:=by
         rcases Tm.1 b with h|h
         . exact (jd c a h).1.1
         . exact (a x h).1
        simp at d;omega
    . rw [Tw,Tm,Tm,pE];constructor
      . rintro ((h|h)|h)
        . exact h.1
        . exact (a x h).2
        . simp at h;omega
      . intro h;by_cases g:2<=x
        . by_cases f:x∈l
          . exact .inl (.inr f)
          . exact .inl (.inl ⟨h,g,by rw [(MX c a).2];exact decide_eq_false f⟩)
        . exact .inr (by simp;omega)
   have:=k.length_eq;simp at this;omega
 . have i:l=[]:=by
    cases l with
    | nil=>rfl
    | cons x l=>have:=a x (TE ..);omega
   subst i;have j:bh (tk nb []).1 nb=[]:=by
    rw [List.eq_nil_iff_forall_not_mem];intro x b;have:=pE.1 b;omega
   rw [j];simp;omega
end
section
open Go.Deep
theorem mr (x:ByteArray) (w:ZX):ZU ZT 143 #[Z3 x] w λe w'=>e=Z4 (.bool ZY)/\w'=w:=by
 go_enter Tryz.func143,Tryz.ntmps143;go_wp2;go_ret;exact ⟨by simp,rfl⟩
def qO (a b:ByteArray):Int:=if kD a b then -1 else if kD b a then 1 else 0
theorem Ew {a b:ByteArray}:qO a b<0↔kD a b=true:=by
 unfold qO;cases h1:kD a b<;>cases h2:kD b a<;>simp
theorem Ex {a b:ByteArray}:qO a b=0↔a=b:=by
 unfold qO;constructor
 . intro h;cases h1:kD a b
   . cases h2:kD b a
     . exact yJ h1 h2
     . simp [h1,h2] at h
   . simp [h1] at h
 . rintro rfl;simp [kF]
theorem AY (x y:ByteArray) (w:ZX):ZU ZT 110 #[Z3 x,Z3 y] w λe w'=>e=Z4 (Z8 Z9 (qO x y))/\w'=w:=by
 by_cases a:x=y
 . subst a;have f:Op.bytesLess x.toList x.toList=ZY:=kF x;have c:qO x x=0:=Ex.2 rfl;rw [c];go_enter Tryz.func110,Tryz.ntmps110;go_wp2_with fail;refine (mr x w).mono ?_;rintro e w1 ⟨rfl,rfl⟩;go_wp2_with fail;refine (mr x w1).mono ?_;rintro e w2 ⟨rfl,rfl⟩;go_wp2;go_ret;exact ⟨rfl,rfl⟩
 . have d:¬ x.toList=y.toList:=λe=>a (toList_inj e);have g:(!x.toList==y.toList)=true:=(by simp [d]);obtain ⟨lt,b⟩:=nM (kD x y);have f:Op.bytesLess x.toList y.toList=lt:=b;have c:qO x y=if lt then -1 else 1:=by
    unfold qO;rw [b];cases lt
    . cases hg:kD y x
      . exact absurd (yJ b hg) a
      . rfl
    . rfl
   rw [c];clear c b;go_enter Tryz.func110,Tryz.ntmps110;go_wp2_with fail;refine (mr x w).mono ?_;rintro e w1 ⟨rfl,rfl⟩;go_wp2_with fail;refine (mr y w1).mono ?_;rintro e w2 ⟨rfl,rfl⟩;cases lt
   . go_wp2;go_ret;exact ⟨rfl,rfl⟩
   . go_wp2;go_ret;exact ⟨rfl,rfl⟩
theorem wu (nm x:ByteArray) (b:Int) (a:ZW) (w:ZX):ZU ZT 109 #[.agg #[Z3 nm,Z8 Z9 b,a],Z3 x] w λe w'=>e=Z4 (Z8 Z9 (qO nm x))/\ZV w.heap.size w w':=by
 have c:ZV w.heap.size w (w.alloc (Z5 #[Z3 nm,Z8 Z9 b,a] 123)):=bA w _;go_enter Tryz.func109,Tryz.ntmps109;go_wp2_with fail;refine (AY nm x _).mono ?_;rintro e w1 ⟨rfl,rfl⟩;go_wp2;go_ret;exact ⟨rfl,c⟩
def lO (os:List Ob) (x:ByteArray):Bool:=match (aZ os)[aF (aZ os) x]? with
 | some n=>decide (n=x)
 | none=>ZY
theorem AZ (d:Up (aZ os)) (x:ByteArray):lO os x=true↔x∈aZ os:=by
 unfold lO;constructor
 . intro h;split at h
   . rename_i n c
     have:=of_decide_eq_true h;rw [<- this];exact List.mem_of_getElem? c
   . cases h
 . intro h;obtain ⟨a,b⟩:=sZ d h;rw [Tt a,b];simp
def QE (w:ZX) (os:List Ob) (x:ByteArray) (i j:ZW) (wr:ZX):Prop:=∃ a b:Nat,a<=b/\b<=os.length/\i=Z8 Z9 a/\j=Z8 Z9 b/\(∀ k (hk:k<os.length),k<a->kD os[k].name x=true)/\(∀ k (hk:k<os.length),b<=k->kD os[k].name x=ZY)/\ZV w.heap.size w wr
theorem MY (a:Up (aZ os)) {i j:Nat} (b:i<os.length) (c:j<os.length) (h:i<j):kD os[i].name os[j].name=true:=by
 unfold Up at a;rw [TG] at a;have:=a i j (by rw [bP];exact b) (by rw [bP];exact c) h;unfold aZ at this;rwa [Tv,Tv] at this
theorem gz.at' {K:Nat->Prop} {ao:Option Addr} (h:gz K w (.slice ao n c) os) {k:Nat} (d:k<os.length):∃ b off a,ao=ZZ ⟨b,off,Z0⟩/\b<w.heap.size/\K b/\w.cell? ⟨b,off+k*3,Z0⟩=ZZ (Z3 os[k].name)/\w.cell? ⟨b,off+k*3+1,Z0⟩=ZZ (Z8 Z9 (os[k].size:Nat))/\w.cell? ⟨b,off+k*3+2,Z0⟩=ZZ a/\bK K w a os[k].stripes:=by
 obtain ⟨f,s,e,_,g⟩:=h;obtain ⟨b,off,i,j,l,m⟩:=g (λe=>by rw [e] at d;simp at d);simp only [Value.slice.injEq] at e;obtain ⟨rfl,_,_⟩:=e;obtain ⟨a,o,p,q,r⟩:=m k d;exact ⟨b,off,a,i,l,j,o,p,q,r⟩
theorem DC (K:gz (λk=>k<w.heap.size) w v os) (kb:os.length<=10000) (S:Up (aZ os)) (x:ByteArray) :
 ZU ZT 108 #[v,Z3 x,.func (.func 109) #[] #[]] w λe w'=>e=Z4 (Z2 #[Z8 Z9 (aF (aZ os) x:Nat),.bool (lO os x)])/\ZV w.heap.size w w':=by
 obtain ⟨ao,c,rfl,k0,_⟩:=id K;obtain ⟨N,O⟩:=nM (os.length);have H:=hide2 K S;clear K S;rw [O];go_enter Tryz.func108,Tryz.ntmps108;go_wp2;go_loopw [9,10] (λi j wr=>QE w os x i j wr) (λi j _=>(intOf j).toNat-(intOf i).toNat)
 case atStart=>exact ⟨0,N,Nat.zero_le _,by omega,rfl,rfl,λk _ h=>by omega,λk q h=>by omega,Below.refl _ w⟩
 case round=>
  obtain ⟨a,b,k8,U,rfl,rfl,o,n,f⟩:=hrel;by_cases k9:a<b
  . obtain ⟨m,D⟩:∃ m:Nat,m=(a+b)/2:=⟨_,rfl⟩;have R:((a:Int)+(b:Int))/2=(m:Int):=(by omega);have L:m<os.length:=(by omega);obtain ⟨b0,off,M,rfl,hv,_,z,A,E,_⟩:=(H.out.1.keep (eM.of_below f)).at' (k:=m) L;obtain ⟨nm,d⟩:=nM (os[m].name);obtain ⟨t,C⟩:∃ t:Int,((os[m].size:Nat):Int)=t:=⟨_,rfl⟩;rw [d] at z;rw [C] at A;have k5:m<N:=(by omega);have k6:(m:Int)<(N:Int):=(by omega);have r:=hide5 o n f d D;clear o n f d D C;go_wp2_with fail;refine (wu nm x t M wr).mono ?_;rintro e w1 ⟨rfl,u⟩;obtain ⟨I,l⟩:=nM (qO nm x);rw [l];obtain ⟨o,n,f,d,D⟩:=r.out;have g:ZV w.heap.size w w1:=f.trans (u.mono f.size);by_cases P:I<0
    . have p:kD nm x=true:=Ew.1 (by rw [l];exact P);have F:Hid (QE w os x (Z8 Z9 ((m+1:Nat):Int)) (Z8 Z9 (b:Nat)) w1):=hide ⟨m+1,b,by omega,U,rfl,rfl,(λk q h=>by
       rcases TH (Nat.le_of_lt_succ h) with e|J
       . subst e;rw [d];exact p
       . have:=MY H.out.2 q L J;rw [d] at this;exact pD this p),(λk q h=>n k q h),g⟩
      clear o n f d u g p l r z A E;dsimp only;have ka:m<=10000:=(by omega);have k7:a<=m:=(by omega);have Y:m<b:=(by omega);clear D R;go_wp2;refine ⟨by simpa using F.out,?_⟩;show ((b:Int)).toNat-((m:Int)+1).toNat<((b:Int)).toNat-((a:Int)).toNat;omega
    . have p:kD nm x=ZY:=by
       cases h:kD nm x
       . rfl
       . exact absurd (Ew.2 h) (by rw [l];exact P)
      have F:Hid (QE w os x (Z8 Z9 (a:Nat)) (Z8 Z9 (m:Nat)) w1):=hide ⟨a,m,by omega,by omega,rfl,rfl,(λk q h=>o k q h),(λk q h=>by
       rcases TH h with e|J
       . subst e;rw [d];exact p
       . have:=MY H.out.2 L q J;rw [d] at this;cases hx:kD os[k].name x
         . rfl
         . rw [pD this hx] at p;cases p),g⟩
      clear o n f d u g p l r z A E;dsimp only;have k7:a<=m:=(by omega);have Y:m<b:=(by omega);clear D R;go_wp2;refine ⟨F.out,?_⟩;show ((m:Int)).toNat-((a:Int)).toNat<((b:Int)).toNat-((a:Int)).toNat;omega
  . have T:a=b:=(by omega);subst T;have y:aF (aZ os) x=a:=gx _ _ _ (by rw [bP];omega) (λj X h=>by
     have hz:j<os.length:=(by rwa [bP] at X);simpa [aZ] using o j hz h) (λW=>by
     have hy:a<os.length:=(by rwa [bP] at W);simpa [aZ] using n a hy lR)
    by_cases Z:a<N
    . have hs:a<os.length:=O.symm▸Z;obtain ⟨b0,off,M,rfl,hv,_,z,A,E,_⟩:=(H.out.1.keep (eM.of_below f)).at' (k:=a) hs;obtain ⟨nm,d⟩:=nM (os[a].name);obtain ⟨t,C⟩:∃ t:Int,((os[a].size:Nat):Int)=t:=⟨_,rfl⟩;have B:lO os x=decide (qO nm x=0):=by
       unfold lO;rw [y,Tt (by rw [bP];omega)];simp only [aZ,Tv,d];exact decide_eq_decide.2 Ex.symm
      rw [d] at z;rw [C] at A;have V:(a:Int)<(N:Int):=(by omega);have r:=hide f;have G:=hide2 y B;clear o n f d y B C;go_wp2_with fail;refine (wu nm x t M wr).mono ?_;rintro e w1 ⟨rfl,u⟩;obtain ⟨I,l⟩:=nM (qO nm x);have s:=hide2 G.out.1 (G.out.2.trans (by rw [l]));rw [l];have g:Hid (ZV w.heap.size w w1):=hide (r.out.trans (u.mono r.out.size));clear u r G z A E l;by_cases Q:I=0
      . subst Q;go_wp2;go_ret2;refine ⟨?_,g.out⟩;rw [s.out.1,s.out.2];rfl
      . go_wp2;go_ret2;refine ⟨?_,g.out⟩;rw [s.out.1,s.out.2];simp [Q]
    . have B:lO os x=ZY:=by
       unfold lO;rw [y,List.getElem?_eq_none (by rw [bP];omega)]
      have V:¬ (a:Int)<(N:Int):=(by omega);have g:Hid (ZV w.heap.size w wr):=hide f;have s:=hide2 y B;clear o n f y B;go_wp2;go_ret2;refine ⟨?_,g.out⟩;rw [s.out.1,s.out.2];rfl
theorem Kg (c:gz (λk=>k<w.heap.size) w v os) (g:os.length<=10000) (h:Up (aZ os)) (x:ByteArray) :
 ZU ZT 73 #[v,Z3 x] w λe w'=>e=Z4 (Z2 #[Z8 Z9 (aF (aZ os) x:Nat),.bool (lO os x)])/\ZV w.heap.size w w':=by
 have a:=DC c g h x;obtain ⟨n,f⟩:=nM (aF (aZ os) x);obtain ⟨i,d⟩:=nM (lO os x);rw [f,d] at a ⊢;clear f d;go_enter Tryz.func73,Tryz.ntmps73;go_wp2_with fail;refine a.mono ?_;rintro e w1 ⟨rfl,b⟩;have H:=hide b;clear b a c;go_wp2;go_ret2;exact ⟨rfl,H.out⟩
end
section
open Go.Deep
theorem Bk (k:FuncId) (first cap:Array ZW) (p:∀ (args:Array ZW) (w:ZX),(callFunc k args).run ZT w=.ok (.enter k args) w) (w:ZX) (R:ZX->ZW->ZX->Prop)
 (i:∀ w1,ZV w.heap.size w w1->w1.heap.size=w.heap.size+1->w1.heap[w.heap.size]?=ZZ (Z5 #[.nilIface] 63 (0,0))->ZU ZT k (first++cap) w1 λe w2=>∃ v,e=Z4 v/\isErr v/\R w1 v w2/\w2.heap[w.heap.size]?=w1.heap[w.heap.size]?) :
 ZU ZT 71 #[.func (.func k) first cap] w λe w'=>∃ v w1 w2,e=Z4 v/\isErr v/\ZV w.heap.size w w1/\w1.heap.size=w.heap.size+1/\R w1 v w2/\w'=w2.setCell ⟨w.heap.size,0,Z0⟩ v:=by
 have q:∀ (d:Fn) (first cap:Array ZW) (w:ZX),(Instr.makeFunc d first cap).run ZT w=.ok (.func d first cap) w:=λ_ _ _ _=>rfl;have l:=i (w.alloc (Z5 #[.nilIface] 63)) (bA w _) (by simp) (heap_alloc_last w _);have g:(w.alloc (Z5 #[.nilIface] 63)).heap[w.heap.size]?=ZZ (Z5 #[.nilIface] 63 (0,0)):=blk_alloc_new _ _;go_enter_defers Tryz.func71,Tryz.ntmps71
 go_wp2_with fail;refine l.mono ?_;clear l;rintro e w2 ⟨v,rfl,m,j,h⟩;have a:w2.heap[w.heap.size]?=ZZ (Z5 #[.nilIface] 63 (0,0)):=h.trans g;have n:w2.cell? ⟨w.heap.size,0,Z0⟩=ZZ .nilIface:=by simp [World.cell?,a]
 have o:w2.frozen? ⟨w.heap.size,0,Z0⟩=ZY:=by simp [World.frozen?,a]
 have c:(w2.setCell ⟨w.heap.size,0,Z0⟩ v).cell? ⟨w.heap.size,0,Z0⟩=ZZ v:=by simp [World.cell?,World.setCell,Array.getElem?_modify,a]
 have H:=hide2 j m;clear j h a g i;rcases m with rfl|⟨t,u,rfl⟩
 . go_wp2;refine leaves_cons (f:=106) (args:=#[Z7 (ZZ ⟨w.heap.size,0,Z0⟩)]) (by simp) (by simp [go_sem]) ?_;refine (jX ⟨w.heap.size,0,Z0⟩ _).mono ?_;rintro e u' b ⟨rfl,rfl,rfl⟩;refine ⟨.nilIface,by simp [results,Tryz.results71,go_sem,c],_,_,w2,rfl,.inl rfl,(Below.refl _ w).alloc lR (Z5 #[.nilIface] 63),by simp,H.out.1,rfl⟩
 . go_wp2;refine leaves_cons (f:=106) (args:=#[Z7 (ZZ ⟨w.heap.size,0,Z0⟩)]) (by simp) (by simp [go_sem]) ?_;refine (jX ⟨w.heap.size,0,Z0⟩ _).mono ?_;rintro e u' b ⟨rfl,rfl,rfl⟩;refine ⟨.iface t u,by simp [results,Tryz.results71,go_sem,c],_,_,w2,rfl,.inr ⟨t,u,rfl⟩,(Below.refl _ w).alloc lR (Z5 #[.nilIface] 63),by simp,H.out.1,rfl⟩
theorem tP (k:FuncId) (first cap:Array ZW) (F:∀ (args:Array ZW) (w:ZX),(callFunc k args).run ZT w=.ok (.enter k args) w) (w:ZX) (a:Nat) (cs:Array ZW) (r:w.heap[a]?=ZZ (Z5 cs 121 (0,0))) (E:cs[9]?=ZZ (.bool ZY)) (R:ZX->ZW->ZX->Prop)
 (u:∀ w1,ZV w.heap.size w w1->w1.heap.size=w.heap.size+1->w1.heap[w.heap.size]?=ZZ (Z5 #[.nilIface] 63 (0,0))->ZU ZT k (first++cap) w1 λe w2=>∃ v,e=Z4 v/\noCut v/\R w1 v w2/\w2.heap[w.heap.size]?=w1.heap[w.heap.size]?/\∃ b,w2.heap[a]?=ZZ (Z5 b 121 (0,0))/\b[9]?=ZZ (.bool ZY)) :
 ZU ZT 46 #[Z7 (ZZ ⟨a,0,Z0⟩),.func (.func k) first cap] w λe w'=>∃ v w1 w2,e=Z4 v/\noCut v/\ZV w.heap.size w w1/\w1.heap.size=w.heap.size+1/\R w1 v w2/\w'=(w2.setCell ⟨w.heap.size,0,Z0⟩ v).setCell ⟨a,9,Z0⟩ (.bool ZY):=by
 have L:a<w.heap.size:=(Tq.1 r).1;have I:w.cell? ⟨a,9,Z0⟩=ZZ (.bool ZY):=by simp [World.cell?,r,E]
 have p:=Bk k first cap F w (λw1 v w2=>noCut v/\R w1 v w2/\∃ b,w2.heap[a]?=ZZ (Z5 b 121 (0,0))/\b[9]?=ZZ (.bool ZY)) (λw1 z A f=>(u w1 z A f).mono (by
  rintro e w2 ⟨v,rfl,f,B,C,D⟩;exact ⟨v,rfl,f.isErr,⟨f,B,D⟩,C⟩))
 go_enter Tryz.func46,Tryz.ntmps46;go_wp2_with fail;refine p.mono ?_;rintro e c ⟨v,w1,w2,rfl,_,t,y,⟨x,q,b,s,o⟩,rfl⟩;have d:(w2.setCell ⟨w.heap.size,0,Z0⟩ v).heap[a]?=ZZ (Z5 b 121 (0,0)):=(blk_setCell_other _ _ _ _ (by show a≠w.heap.size;omega)).trans s;obtain ⟨c,g⟩:=nM (w2.setCell ⟨w.heap.size,0,Z0⟩ v);rw [g] at d ⊢;have J:c.cell? ⟨a,9,Z0⟩=ZZ (.bool ZY):=by simp [World.cell?,d,o]
 have K:c.frozen? ⟨a,9,Z0⟩=ZY:=by simp [World.frozen?,d]
 have H:=hide5 t y q x g;clear t y q p u d o s g;rcases x with rfl|⟨n,G,rfl⟩
 . go_wp2_with fail;refine (Cd 13 c).mono ?_;rintro e w' ⟨rfl,rfl⟩;go_wp2;go_ret;obtain ⟨h,i,j,l,m⟩:=H.out;exact ⟨.nilIface,w1,w2,rfl,l,h,i,j,by rw [m]⟩
 . go_wp2_with fail;refine (Ac n G c).mono ?_;rintro e w' ⟨rfl,rfl⟩;go_wp2;go_ret;obtain ⟨h,i,j,l,m⟩:=H.out;exact ⟨.iface 66 (Z8 Z9 n),w1,w2,rfl,l,h,i,j,by rw [m]⟩
end
section
open Go.Deep Gf
theorem DR (k n:Nat):eL (k+1) n=eL k n++[Tn n 0]:=by
 unfold eL;rw [List.replicate_succ']
def R7 (w:ZX) (B g r n:Nat) (i:ZW) (wr:ZX):Prop:=
 ∃ k T,k<=r/\i=Z8 Z9 (k:Nat)/\oB wr B g r T/\cZ T n (eL k n)/\ZV B w wr/\B<=wr.heap.size
def OE (r n:Nat) (w:ZX) (e:Ending) (w':ZX):Prop:=∃ g T,e=Z4 (Z6 (ZZ ⟨g,0,Z0⟩) r r)/\iL w' w.heap.size (Z6 (ZZ ⟨g,0,Z0⟩) r r) T/\cZ T n (eL r n)/\ZV w.heap.size w w'
theorem pO {M:List (List Nat)} (h:cZ T D M):T.length=M.length:=by simpa using congrArg List.length h
theorem ze (r n:Nat) (w:ZX) (N:r<=32) (M:n<=4096) :
 ZU ZT 172 #[Z8 Z9 r,Z8 Z9 n] w λe w'=>OE r n w e w':=by
 go_enter Tryz.func172,Tryz.ntmps172;go_wp2_with (at_make;refine mL _ rfl (.tmp 7) (.tmp 7) rfl _ r rfl rfl rfl (by omega) ?_;intro wc m g G;clear G);have o:oB wc w.heap.size w.heap.size r []:=⟨m.congr (λi _=>by simp [shv]),λp j=>by simp at j,by simp⟩;have u:=g.size;clear m;go_loopw [11] (λi wr=>R7 w w.heap.size w.heap.size r n i wr) (λi _=>r-(intOf i).toNat)
 case atStart=>exact ⟨0,[],Nat.zero_le _,rfl,o,rfl,g,u⟩
 case round=>
  clear o g u;rename ZX=>wo;obtain ⟨k,T,L,rfl,h,a,t,E⟩:=hrel;have f:=pO a;have A:T.length=k:=by rw [f];simp [eL]
  by_cases D:k<r
  . have c:=hide a;have H:=hide f;clear a f
    go_wp2_with (at_make;refine eB _ rfl (.tmp 16) (.tmp 16) rfl _ n rfl rfl rfl (by omega) ?_;intro w2 B s K
                 have d:=h.below s;have I:=d.tab.cell (i:=k) D;have J:=d.tab.frozen k)
    have q:=d.push (b:=wo.heap.size) (n:=n) (l:=Tn n 0) (by omega) B (by simp) (by simp;omega) (by intro x F;have:=TA F;omega) (λp j e=>by have:=(h.row p j).2.1.lt;omega);rw [A,List.length_replicate] at q;refine ⟨⟨k+1,_,by omega,by go_num,q,?_,(t.trans (s.mono E)).setCell (by simp) _,by simp;omega⟩,by simp [intOf];omega⟩;have y:=c.out;unfold cZ at y ⊢;rw [DR,Ts,Ts,y];rfl
  . have C:k=r:=(by omega);subst C;have v:=h.done (by omega) lR (by unfold maxLen;omega);have z:=hide v;have c:=hide a;clear v a;go_wp2;go_ret;exact ⟨_,T,rfl,z.out,c.out,t⟩
end
section
open Go.Deep Gf
theorem KI (w:ZX) (h:TypeId) (g n cap:Nat) (old src:List Nat) (a:Option Addr) (c:Nat) (f:aM w g old) (C:Bs w (.slice a src.length c) src) (E:src.length=n) (ho:old.length=n) :
 ∃ w',(Builtin.copy_ #[34,34] h #[Z6 (ZZ ⟨g,0,Z0⟩) n cap,.slice a src.length c]).run ZT w=.ok (Z8 Z9 (n:Nat)) w'/\aM w' g src/\w.grownBy w' (ZZ g):=by
 subst E;have p:(ZT.info? 5).map (λi=>i.size)=ZZ 1:=by kernel_rfl
 by_cases d:src.length=0
 . have B:src=[]:=TI d;have A:old=[]:=TI (by omega);subst B A;exact ⟨w,run_copy_none (P:=ZT) w 34 34 h 5 (ZZ ⟨g,0,Z0⟩) a 0 cap 0 c Tryz.underlying34 p (by simp),f,World.grownBy.refl _ _⟩
 . obtain ⟨t,F,e,_,_,H,y⟩:=C;simp at e;obtain ⟨b,off,l,D⟩:=y (by intro e;rw [e] at d;simp at d);rw [<- e.1] at l;subst l;have m:=run_copy_row (P:=ZT) w 34 34 h 5 g 0 src.length cap ⟨b,off,Z0⟩ src.length c _ 5 (bv src) Tryz.underlying34 p f.heap (by simp [bv]) (λj v r=>by
    have o:j<src.length:=by
     obtain ⟨q,_⟩:=List.getElem?_eq_some_iff.1 r;simpa [bv] using q
    rw [Addr.add_mid,D j o,<- r];simp [bv,o]) (by simp [bv];omega) (by intro v s;simp [bv] at s;obtain ⟨x,_,rfl⟩:=s;rfl)
   have u:(List.take 0 (List.map (λx=>Value.int .u8 ((x:Nat):Int)) old).toArray.toList++bv src++List.drop (0+(bv src).length) (List.map (λx=>Value.int .u8 ((x:Nat):Int)) old).toArray.toList)=src.map (λx=>Value.int .u8 ((x:Nat):Int)):=by
    simp [bv];omega
   rw [u] at m;refine ⟨w.setRow g (src.map (λx=>Value.int .u8 ((x:Nat):Int))).toArray,by rw [m];simp [bv,goInt],?_,?_⟩
   . exact aM.of_heap (setRow_heap w g (old.map (λx=>Value.int .u8 ((x:Nat):Int))).toArray (src.map (λx=>Value.int .u8 ((x:Nat):Int))).toArray 5 _ f.heap)
   . refine ⟨rfl,rfl,rfl,by simp [World.setRow],λk G z=>setRow_other w g k _ (λe=>z (by rw [e]))⟩
theorem GU {ops:Array Oper} {o:Oper} {K:Act->ZX->Prop} {Q:Exit->Act->ZX->Prop} {E:Prop} (b:o.guard=Z0) (d s:Operand) (ho:o.op=.call { callee:=.builtin .copy,args:=#[d,s],argTypes:=#[34,34] })
 (vd vs v':ZW) (hd:a.eval d=vd) (hs:a.eval s=vs) (h0:(Builtin.copy_ #[34,34] o.type #[vd,vs]).run ZT w=.ok v' w') (h:K (a.put o.dst v') w'):if Region.wanted o (yielded ops a.tmps)=true then Oper.wp ZT o a w K Q else E:=by
 rw [if_pos (by simp [Region.wanted,b])];unfold Oper.wp;simp [execOp,ho,resolve,invoke,builtin,hd,hs,h0,Result.andThen];exact h
theorem zf (h:w.ownsRow base 252 2 v n xs) {b:Nat} {l:List Nat} (i:aM w b l):v.ownBlock≠ZZ b:=by
 intro e;rcases h.2 with ⟨f,_⟩|⟨g,cap,cur,d,k,a,_⟩
 . rw [f] at e;simp [Value.ownBlock] at e
 . rw [d] at e;simp [Value.ownBlock] at e;subst e;obtain ⟨c,j,_⟩:=i;rw [j] at a;simp at a
theorem mB.aside {O:List (Int×Nat×Nat×List Nat)} (h:mB 252 w base v O) (j:aM w b l) (f:w.grownBy w' (ZZ b)) (i:∀ q∈O,q.2.1≠b):mB 252 w' base v O:=
 ⟨h.own.kept f (.inr (zf h.own j)),λq g=>by
  obtain ⟨a,c,d⟩:=h.row q g;exact ⟨a,c.grown f (by intro e;simp at e;exact i q g e),d⟩,h.nodup⟩
theorem GV {R:List (List Nat)} (h:cZ T n R) (i:Nat) (b:i<T.length) (l:List Nat):cZ (T.set i (T[i].1,T[i].2.1,l)) n (R.set i l):=by
 have c:=pO h;have a:=h.at b (by omega);unfold cZ at *;rw [List.map_set,List.map_set,h,a]
end
section
open Go.Deep Gf
theorem tV (x y:List Nat) (c:Nat):(iD x y c).length=x.length:=by simp [iD]
theorem GW {x y:List Nat} (e:∀ a∈x,a<256) (d:c<256):∀ a∈iD x y c,a<256:=by
 intro a b;simp only [iD,List.mem_map,Tw] at b;obtain ⟨j,_,rfl⟩:=b;exact Nat.xor_lt_two_pow (n:=8) (eA e j) (aU _ d)
theorem zg (b d n c:Nat) (x y:List Nat) (w:ZX) (p:c<256) (r:aM w b x) (s:aM w d y) (f:x.length=n) (t:y.length=n) (l:d≠b) (m:∀ a∈x,a<256) (o:∀ a∈y,a<256) (z:n<=100000) :
 ZU ZT 91 #[Z6 (ZZ ⟨b,0,Z0⟩) n n,Z6 (ZZ ⟨d,0,Z0⟩) n n,Z8 .u8 c] w λe w'=>e=Z4 (Z2 #[])/\aM w' b (iD x y c)/\w.grownBy w' (ZZ b):=by
 have q:w.rowIs b 5 n (tv (λi=>x.getD i 0)):=by
  have:=r;unfold aM at this;rw [f] at this;exact this
 refine (jm b 5 n 0 n n d 0 n c (λi=>x.getD i 0) (λi=>y.getD i 0) w p q (λj=>eA m j) (λj=>eA o j) (by omega) (by omega) (λi u=>by rw [Nat.zero_add];exact s.cell i (by omega)) (.inl l)).mono ?_;rintro e w' ⟨rfl,g,h⟩;refine ⟨rfl,?_,h⟩;unfold aM;rw [tV,f];refine g.congr λj v=>?_;have k:j<x.length:=by omega
 unfold tv vb gH iD;rw [if_pos (by omega)];simp [k]
structure Rn (w0:ZX) (B:Nat) (P:List St) (D R0:List (List Nat)) (n r gR k:Nat) (vO:ZW) (T:List (Nat×Nat×List Nat)) (O:List (Int×Nat×Nat×List Nat)) (wr:ZX):Prop where
 tab:iL wr B (Z6 (ZZ ⟨gR,0,Z0⟩) r r) T
 hold:cZ T n (bO P D R0 k)
 len:∀ l∈bO P D R0 k,l.length=n
 outs:mB 252 wr B vO O
 vals:O.map (λq=>(q.1,q.2.2.2.take q.2.2.1))=dj P D R0 k
 apart:∀ p∈T,∀ q∈O,p.1≠q.2.1
 below:ZV B w0 wr
 size:B<=wr.heap.size
variable {w0:ZX} {B:Nat} {P:List St} {D R0:List (List Nat)} {n r gR k:Nat} {vO:ZW} {T:List (Nat×Nat×List Nat)} {O:List (Int×Nat×Nat×List Nat)} {w:ZX}
theorem Rn.next (h:Rn w0 B P D R0 n r gR k vO T O w) {w':ZX} (a:ZV w.heap.size w w'):Rn w0 B P D R0 n r gR k vO T O w':=
 ⟨h.tab.below a,h.hold,h.len,h.outs.below a,h.vals,h.apart,h.below.trans (a.mono h.size),To h.size a.size⟩
theorem Rn.tlen (h:Rn w0 B P D R0 n r gR k vO T O w):T.length=r:=by
 rcases h.tab.shape with ⟨e,_⟩|⟨g,cap,e,_⟩
 . simp at e
 . simp at e;omega
theorem Rn.reg (h:Rn w0 B P D R0 n r gR k vO T O w) (A:Nat) (C:A<r):∃ g,(∃ a:A<T.length,T[A]=(g,n,(bO P D R0 k).getD A []))/\w.cell? ⟨gR,A,Z0⟩=ZZ (Z6 (ZZ ⟨g,0,Z0⟩) n n)/\aM w g ((bO P D R0 k).getD A [])/\((bO P D R0 k).getD A []).length=n/\(∀ x∈(bO P D R0 k).getD A [],x<256)/\g≠gR/\B<=g/\g<w.heap.size/\gR<w.heap.size/\B<=gR:=by
 have F:=h.tlen;have a:A<T.length:=by omega
 have E:=pO h.hold;have c:A<(bO P D R0 k).length:=by omega
 have d:=h.hold.at a c;have o:(bO P D R0 k).getD A []=(bO P D R0 k)[A]:=by simp [c]
 have l:=h.len _ (Tp c);obtain ⟨m,b,y,z,i⟩:=h.tab.row _ (Tp a);rw [o];have p:T[A]=(T[A].1,n,(bO P D R0 k)[A]):=by rw [<- d]
 have j:T[A].2.2=(bO P D R0 k)[A]:=by rw [d]
 have q:T[A].2.1=n:=by rw [d]
 rcases h.tab.shape with ⟨e,_⟩|⟨g,cap,e,v,_,_,s,u,_,t⟩
 . simp at e
 . simp at e;obtain ⟨rfl,_⟩:=e;have f:=u A a;unfold lg at f;rw [j,q,l] at f;rw [j] at b i;exact ⟨T[A].1,⟨a,p⟩,f,b,l,i,t _ (Tp a),m,b.lt,s,v⟩
theorem Rn.write (h:Rn w0 B P D R0 n r gR k vO T O w) {w':ZX} {A g:Nat} {l0 src:List Nat} (s:∃ s:A<T.length,T[A]=(g,n,l0)) (E:l0.length=n) (b:w.grownBy w' (ZZ g)) (y:aM w' g src) (z:src.length=n) (C:∀ x∈src,x<256)
 (t:bO P D R0 (k+1)=(bO P D R0 k).set A src) (ho:dj P D R0 (k+1)=dj P D R0 k):∃ T',Rn w0 B P D R0 n r gR (k+1) vO T' O w':=by
 obtain ⟨f,e⟩:=s;have d:=Tp f;obtain ⟨m,o,_⟩:=h.tab.row _ d;have a:T[A].1=g:=by rw [e]
 have v:T[A].2.2=l0:=by rw [e]
 rw [a] at m o;refine ⟨T.set A (T[A].1,T[A].2.1,src),?_,?_,?_,?_,?_,?_,?_,?_⟩
 . exact h.tab.wrote f (by rw [a];exact b) (by rw [a];exact y) (by rw [v];omega) C
 . rw [t];exact GV h.hold A f src
 . rw [t];intro l i;rcases TJ i with i|rfl
   . exact h.len l i
   . exact z
 . exact h.outs.aside o b (λq c u=>h.apart _ d q c (by rw [a,u]))
 . rw [ho];exact h.vals
 . intro p j q c;rcases TJ j with j|rfl
   . exact h.apart p j q c
   . exact h.apart _ d q c
 . exact iP h.below b h.size m
 . exact To h.size b.size
theorem Rn.reg_ne (h:Rn w0 B P D R0 n r gR k vO T O w) {A X g d:Nat} {l p:List Nat} (c:∃ c:A<T.length,T[A]=(g,n,l)) (a:∃ c:X<T.length,T[X]=(d,n,p)) (o:A≠X):d≠g:=by
 obtain ⟨f,e⟩:=c;obtain ⟨a,m⟩:=a;have i:=TG.1 h.tab.nodup;intro q;have j:T[A].1=T[X].1:=by rw [e,m];exact q.symm
 rcases Nat.lt_or_gt_of_ne o with b|b
 . exact i A X (by simpa using f) (by simpa using a) b (by simpa using j)
 . exact i X A (by simpa using a) (by simpa using f) b (by simpa using j.symm)
theorem tW {B':Nat} {g:Nat} {ys:List ZW} {vO:ZW} (h:w.ownsRow B 34 1 (Z6 (ZZ ⟨g,0,Z0⟩) c m) n xs) {n':Nat} (l:w.ownsRow B' 252 2 vO n' ys):vO.ownBlock≠ZZ g:=by
 intro e;rcases h.2 with ⟨a,_⟩|⟨q,cap,cur,f,o,j,_⟩
 . simp at a
 . simp at f;obtain ⟨rfl,_⟩:=f;rcases l.2 with ⟨a,_⟩|⟨r,b,d,k,p,i,_⟩
   . rw [a] at e;simp [Value.ownBlock] at e
   . rw [k] at e;simp [Value.ownBlock] at e;subst e;rw [j] at i;simp at i
theorem wH (P:List St) (D R0:List (List Nat)):∀ k,(dj P D R0 k).length<=k
 | 0=>Ty _
 | k+1=>by
  have:=wH P D R0 k;unfold dj gS;split<;>simp<;>omega
theorem Rn.olen (h:Rn w0 B P D R0 n r gR k vO T O w):O.length<=k:=by
 have:=congrArg List.length h.vals;rw [List.length_map] at this;rw [this];exact wH P D R0 k
theorem Rn.put (h:Rn w0 B P D R0 n r gR k vO T O w) {w1 y:ZX} {o:Obj} {b m:Nat} {l:List Nat} {sh:Int} {vO':ZW} (A:ZV w.heap.size w w1) (K:w.heap.size<=b) (H:aM w1 b (l++Tn m 0)) (v:l.length=n) (N:n<=100000) (M:n+m<=9223372036854775807) (J:∀ x∈l,x<256)
 (g:(w1.alloc o).grownBy y vO.ownBlock) (F:y.ownsRow B 252 2 vO' (O.length+1) (pN O++[Z8 Z9 sh,Z6 (ZZ ⟨b,0,Z0⟩) n (n+m)]))
 (E:bO P D R0 (k+1)=bO P D R0 k) (ho:dj P D R0 (k+1)=dj P D R0 k++[(sh,l)]):Rn w0 B P D R0 n r gR (k+1) vO' T (O++[(sh,b,n,l++Tn m 0)]) y:=by
 have f:=(h.next A).next ((Below.refl w1.heap.size w1).alloc lR o);have Q:=h.size;have L:=A.size;have G:(l++Tn m 0).length=n+m:=by simp [v]
 have z:=H.alloc o;refine ⟨?_,by rw [E];exact h.hold,by rw [E];exact h.len,?_,?_,?_,?_,?_⟩
 . refine ⟨f.tab.own.kept g (.inr λe=>?_),λp s=>?_,f.tab.nodup⟩
   . exact tW f.tab.own f.outs.own (by rw [<- e];rfl)
   . obtain ⟨t,i,u⟩:=f.tab.row p s;exact ⟨t,i.grown g (λe=>zf f.outs.own i e.symm),u⟩
 . refine ⟨?_,λq d=>?_,?_⟩
   . rw [qI];simpa [pN,lg,G,v] using F
   . rcases Tm.1 d with d|d
     . obtain ⟨t,i,u⟩:=f.outs.row q d;exact ⟨t,i.grown g (λe=>zf f.outs.own i e.symm),u⟩
     . simp at d;subst d;refine ⟨by show B<=b;omega,z.grown g (λe=>zf f.outs.own z e.symm),by show n<=(l++Tn m 0).length;omega,⟨by show n<=140737488355328;omega,by show (l++Tn m 0).length<=9223372036854775807;omega⟩,?_⟩;intro x j;rcases Tm.1 j with j|j
       . exact J x j
       . have:=TA j;omega
   . rw [Ts,Tx];refine ⟨h.outs.nodup,by simp,?_⟩;intro a I c C;obtain ⟨q,d,rfl⟩:=List.mem_map.1 I;simp at C;subst C;have:=(h.outs.row q d).2.1.lt;omega
 . rw [ho,Ts,h.vals];simp [<- v]
 . intro p s q d;rcases Tm.1 d with d|d
   . exact h.apart p s q d
   . simp at d;subst d;have:=(h.tab.row p s).2.1.lt;show p.1≠b;omega
 . exact f.below.grown g f.size (λq d=>(f.outs.own.lt q d).1)
 . exact To f.size g.size
end
end Go.Proofs.YtfbmmcnpjhmjaaaGreatDoor
